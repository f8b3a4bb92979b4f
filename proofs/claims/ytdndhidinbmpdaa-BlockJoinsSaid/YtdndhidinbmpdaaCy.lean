/- The document's joiner, in memory; contracts of its New and of its fault. -/
import Derived.Test.YtdndhidinbmpdaaBe
namespace Go.Proofs.Ytdndhidinbmpdaa
open Go.RowKit
set_option linter.unusedVariables false
set_option maxRecDepth 100000
set_option maxHeartbeats 4000000

def opE : Opn → Bool | none => false | some (e, _) => e
def RC (w : World) (g : Nat) (m : Int) (o : Opn) (v : Value) : Prop := w.heap[g]? = some (.cells #[.int .i64 m, .int .i64 (opS o), .bool (opE o), v] 48 (0, 0))
theorem RC.fr {S : Nat → Prop} {w w' : World} {g : Nat} {m : Int} {o : Opn} {v : Value} (h : RC w g m o v) (hf : Fr S w w') (hs : ¬ S g) : RC w' g m o v := (hf.block g (lt_of_heap h) hs).trans h
theorem rcells {w : World} {g : Nat} {m : Int} {o : Opn} {v : Value} (h : RC w g m o v) : w.cell? ⟨g, 0, none⟩ = some (.int .i64 m) ∧ w.cell? ⟨g, 1, none⟩ = some (.int .i64 (opS o)) ∧ w.cell? ⟨g, 2, none⟩ = some (.bool (opE o)) ∧ w.cell? ⟨g, 3, none⟩ = some v :=
  ⟨cell_of_heap h rfl, cell_of_heap h rfl, cell_of_heap h rfl, cell_of_heap h rfl⟩
theorem rfroz {w : World} {g : Nat} {m : Int} {o : Opn} {v : Value} (h : RC w g m o v) (i : Nat) : w.frozen? ⟨g, i, none⟩ = false := frozen_of_heap h
/-- The document's joiner lies in the block g. -/
structure RJ (w : World) (g : Nat) (m : Nat) (o : Opn) (H : List UInt8) (v : Value) : Prop where
  c : RC w g (m : Int) o v
  own : OwnAt w 5 v (bv H)
  le : H.length ≤ m
  m : m ≤ 65536
  nil : o = none → v = .slice none 0 0 ∧ H = []
  pos : ∀ x, o = some x → 1 ≤ x.2
theorem RJ.ne {w : World} {g m : Nat} {o : Opn} {H : List UInt8} {v : Value} (h : RJ w g m o H v) : ∀ k, v.ownBlock = some k → k ≠ g := by
  rintro k hk rfl
  rcases h.own with ⟨rfl, -⟩ | ⟨g', off, cap, cur, rfl, hg, -⟩
  · simp [Value.ownBlock] at hk
  · simp [Value.ownBlock] at hk
    subst hk
    have := h.c
    rw [RC, hg] at this
    simp at this
theorem RJ.fr {S : Nat → Prop} {w w' : World} {g m : Nat} {o : Opn} {H : List UInt8} {v : Value} (h : RJ w g m o H v) (hf : Fr S w w') (hg : ¬ S g) (hv : ∀ k, v.ownBlock = some k → ¬ S k) : RJ w' g m o H v :=
  ⟨h.c.fr hf hg, h.own.fr hf hv, h.le, h.m, h.nil, h.pos⟩
theorem RJ.later {w w' : World} {g m : Nat} {o : Opn} {H : List UInt8} {v : Value} (h : RJ w g m o H v) (hf : Fr (fun _ => False) w w') : RJ w' g m o H v := h.fr hf id (fun _ _ => id)
theorem RJ.none {w : World} {g m : Nat} (h : RC w g (m : Int) none (.slice none 0 0)) (hm : m ≤ 65536) : RJ w g m none [] (.slice none 0 0) := ⟨h, OwnAt.nil _ _, by simp, hm, fun _ => ⟨rfl, rfl⟩, fun x e => by cases e⟩
theorem RJ.form {w : World} {g m : Nat} {o : Opn} {H : List UInt8} {v : Value} (h : RJ w g m o H v) : ∃ p c, v = .slice p H.length c := by
  obtain ⟨a, c, e, -⟩ := h.own.form
  rw [bv_length] at e
  exact ⟨a, c, e⟩
theorem RC.src {w : World} {g : Nat} {m : Int} {o : Opn} {p0 : Option Addr} {n0 c0 : Nat} (h : RC w g m o (.slice p0 n0 c0)) {a : Option Addr} {b : List UInt8} (hs : SrcAt w a b) : ∀ ad, a = some ad → 0 < b.length → ¬ ad.block = g := fun ad e hl =>
  src_off h (by intro v hv c e; simp at hv; rcases hv with rfl | rfl | rfl | rfl <;> cases e) hs e hl
/-- What the document's In answers. -/
def RInAs (w : World) (g m : Nat) (v : Value) (r : InO) (e : Ending) (w' : World) : Prop :=
  ∃ p cp q cq v', e = .returned (.tuple #[.agg #[.int .i64 r.f.k, .int .i64 r.f.fl, .int .i64 r.f.st, .slice p r.f.X.length cp, .int .i64 r.f.pad, .int .u32 r.f.code, .int .i64 r.f.last, .int .i64 r.f.inc, .int .i64 r.f.dep, .bool r.f.only, .int .i64 r.f.wt, .slice q r.f.Y.length cq], .bool r.is, .agg #[.bool (decide (r.code ≠ 0)), .int .i64 0, .int .i64 r.code]]) ∧ SrcAt w' p r.f.X
    ∧ RJ w' g m r.o r.H v' ∧ Fr (fun k => k = g ∨ v.ownBlock = some k) w w' ∧ (v'.ownBlock = v.ownBlock ∨ v'.ownBlock = none ∨ ∃ k, v'.ownBlock = some k ∧ w.heap.size ≤ k)
theorem rset_open {w : World} {g : Nat} {m : Int} {o : Opn} {v : Value} (h : RC w g m o v) (x : Bool × Int) : RC (((w.setCell ⟨g, 1, none⟩ (.int .i64 x.2)).setCell ⟨g, 2, none⟩ (.bool x.1)).setCell ⟨g, 3, none⟩ (.slice none 0 0)) g m (some x) (.slice none 0 0) := by
  have h1 := heap_set (j := 1) (.int .i64 x.2) h
  have h2 := heap_set (j := 2) (.bool x.1) h1
  have h3 := heap_set (j := 3) (.slice none 0 0) h2
  obtain ⟨e, s⟩ := x
  simpa [RC, opE, opS] using h3
theorem rset_none {w : World} {g : Nat} {m : Int} {o : Opn} {v : Value} (h : RC w g m o v) : RC (((w.setCell ⟨g, 1, none⟩ (.int .i64 0)).setCell ⟨g, 2, none⟩ (.bool false)).setCell ⟨g, 3, none⟩ (.slice none 0 0)) g m none (.slice none 0 0) := by
  have h1 := heap_set (j := 1) (.int .i64 0) h
  have h2 := heap_set (j := 2) (.bool false) h1
  have h3 := heap_set (j := 3) (.slice none 0 0) h2
  simpa [RC, opE, opS] using h3
theorem rset_held {w : World} {g : Nat} {m : Int} {o : Opn} {v : Value} (h : RC w g m o v) (v' : Value) : RC (w.setCell ⟨g, 3, none⟩ v') g m o v' := by
  have h1 := heap_set (j := 3) v' h
  simpa [RC] using h1
theorem rNew_yes (m : Int) (w : World) (h0 : 0 ≤ m) (h1 : m ≤ 65536) : Calls Try.prog 14 #[.int .i64 m] w fun e w' => e = .returned (.tuple #[.pointer (some ⟨w.heap.size, 0, none⟩), .int .i64 0]) ∧ RC w' w.heap.size m none (.slice none 0 0) ∧ Fr (fun _ => False) w w' := by
  go_enter Try.func14, Try.ntmps14
  go_wp2
  go_ret2
  exact ⟨rfl, heap_alloc_new w _, (Fr.refl _ _).alloc _⟩
theorem rNew_no (m : Int) (w : World) (h : ¬ (0 ≤ m ∧ m ≤ 65536)) : Calls Try.prog 14 #[.int .i64 m] w fun e w' => e = .returned (.tuple #[.pointer none, .int .i64 1]) ∧ w = w' := by
  by_cases h0 : 0 ≤ m
  · have h1 : ¬ m ≤ 65536 := fun h1 => h ⟨h0, h1⟩
    clear h
    go_enter Try.func14, Try.ntmps14
    go_wp2
    go_ret2
    exact ⟨rfl, rfl⟩
  · clear h
    go_enter Try.func14, Try.ntmps14
    go_wp2
    go_ret2
    exact ⟨rfl, rfl⟩
theorem rfault_in (g : Nat) (m : Int) (o : Opn) (v : Value) (code : Int) (w : World) (h : RC w g m o v) :
    Calls Try.prog 25 #[.pointer (some ⟨g, 0, none⟩), .int .i64 code] w fun e w' => e = .returned (.tuple #[zeroV, .bool false, .agg #[.bool true, .int .i64 0, .int .i64 code]]) ∧ RC w' g m none (.slice none 0 0) ∧ Fr (fun k => k = g) w w' := by
  obtain ⟨W, hW⟩ : ∃ W, W = (w.alloc (.cells #[.int .i64 0, .int .i64 0, .int .i64 0, .slice none 0 0, .int .i64 0, .int .u32 0, .int .i64 0, .int .i64 0, .int .i64 0, .bool false, .int .i64 0, .slice none 0 0] 34)).alloc (.cells #[.bool false, .int .i64 0, .int .i64 0] 43) := ⟨_, rfl⟩
  have HFW : Hid (Fr (fun _ => False) w W) := by rw [hW]; exact ((Fr.refl _ _).alloc _).alloc _
  have hr1 : W.heap[w.heap.size]? = some (.cells #[.int .i64 0, .int .i64 0, .int .i64 0, .slice none 0 0, .int .i64 0, .int .u32 0, .int .i64 0, .int .i64 0, .int .i64 0, .bool false, .int .i64 0, .slice none 0 0] 34 (0, 0)) := by rw [hW]; exact past_at _ (heap_alloc_new w _)
  have hr2 : W.heap[w.heap.size + 1]? = some (.cells #[.bool false, .int .i64 0, .int .i64 0] 43 (0, 0)) := by rw [hW]; exact last_at _ (by simp)
  have HLT : Hid (g < w.heap.size) := lt_of_heap h
  have HJ : Hid (RC W g m o v) := h.fr HFW.out id
  have HRES : Hid (∀ w', Fr (fun k => k = g) W w' → w'.heap[w.heap.size]? = some (.cells #[.int .i64 0, .int .i64 0, .int .i64 0, .slice none 0 0, .int .i64 0, .int .u32 0, .int .i64 0, .int .i64 0, .int .i64 0, .bool false, .int .i64 0, .slice none 0 0] 34 (0, 0)) ∧ w'.heap[w.heap.size + 1]? = some (.cells #[.bool false, .int .i64 0, .int .i64 0] 43 (0, 0))) := fun w' hf => ⟨(hf.block _ (lt_of_heap hr1) (by have := HLT.out; omega)).trans hr1, (hf.block _ (lt_of_heap hr2) (by have := HLT.out; omega)).trans hr2⟩
  obtain ⟨j0, j1, j2, j3⟩ := rcells HJ.out
  have z1 := rfroz HJ.out 1
  have z2 := rfroz HJ.out 2
  have z3 := rfroz HJ.out 3
  clear hr1 hr2 h
  go_enter Try.func25, Try.ntmps25
  go_upto_region 1 with (fail)
  rw [← hW]
  clear hW
  go_upto_region 4 with (fail)
  obtain ⟨w1, hw1⟩ : ∃ w1, w1 = ((W.setCell ⟨g, 1, none⟩ (.int .i64 0)).setCell ⟨g, 2, none⟩ (.bool false)).setCell ⟨g, 3, none⟩ (.slice none 0 0) := ⟨_, rfl⟩
  have T1 : Hid (RC w1 g m none (.slice none 0 0) ∧ Fr (fun k => k = g) W w1) := by rw [hw1]; exact ⟨rset_none HJ.out, (((Fr.refl _ _).setB _ _).setB _ _).setB _ _⟩
  rw [← hw1]
  clear hw1 j0 j1 j2 j3 z1 z2 z3
  go_wp2_with (first
    | (refine wpList_storeB rfl 34 (.tmp 4) (.tmp 16) rfl w.heap.size #[.int .i64 0, .int .i64 0, .int .i64 0, .slice none 0 0, .int .i64 0, .int .u32 0, .int .i64 0, .int .i64 0, .int .i64 0, .bool false, .int .i64 0, .slice none 0 0] #[.int .i64 0, .int .i64 0, .int .i64 0, .slice none 0 0, .int .i64 0, .int .u32 0, .int .i64 0, .int .i64 0, .int .i64 0, .bool false, .int .i64 0, .slice none 0 0] 34 rfl rfl (HRES.out _ T1.out.2).1 rfl (by kernel_rfl) (by simp [Value.oneCell']) ?_; intro w2 H2 G2)
    | (refine wpList_storeB rfl 43 (.tmp 6) (.tmp 18) rfl (w.heap.size + 1) #[.bool false, .int .i64 0, .int .i64 0] #[.bool true, .int .i64 0, .int .i64 code] 43 rfl rfl ((G2.out.block _ (lt_of_heap (HRES.out _ T1.out.2).2) (by omega)).trans (HRES.out _ T1.out.2).2) rfl (by kernel_rfl) (by simp [Value.oneCell']) ?_; intro w3 H3 G3; refine Hid.out ?_))
  unfold Hid
  go_wp2_with (fail)
  obtain ⟨r0, r1, r2, r3, r4, r5, r6, r7, r8, r9, r10, r11⟩ := cells12 ((G3.out.block _ (lt_of_heap H2.out) (by omega)).trans H2.out)
  obtain ⟨s0, s1, s2⟩ := cells3 H3.out
  refine bodyPost_ret (v := .tuple #[zeroV, .bool false, .agg #[.bool true, .int .i64 0, .int .i64 code]]) (by simp [zeroV, results, Try.results25, go_sem, r0, r1, r2, r3, r4, r5, r6, r7, r8, r9, r10, r11, s0, s1, s2]) rfl ?_
  have hlt := HLT.out
  have hf12 : Fr (fun k => k = w.heap.size ∨ k = w.heap.size + 1) w1 w3 := (G2.out.mono (fun _ _ e => .inl e)).trans (G3.out.mono (fun _ _ e => .inr e))
  refine ⟨rfl, T1.out.1.fr hf12 (by omega), ?_⟩
  exact (((HFW.out.mono (T := fun k => k = g ∨ k = w.heap.size ∨ k = w.heap.size + 1) (fun _ _ e => e.elim)).trans (T1.out.2.mono (fun _ _ e => .inl e))).trans (hf12.mono (fun _ _ e => .inr e))).mono (fun k hk e => by omega)

/-- Flags that are not below 0, bit by bit. -/
theorem end_mod {fl : Int} (h0 : 0 ≤ fl) (h1 : fl ≤ 9223372036854775807) : endB fl = decide (fl % 2 = 1) := by
  have := bits_mask .i64 63 (by decide) (fun n a b => by rw [IntKind.wrap_i64]; omega) 1 (by decide) fl h0 (by omega)
  unfold endB
  rw [show (1 : Int) = 2 ^ 1 - 1 by decide, this]
  rfl
theorem done_mod {fl : Int} (h0 : 0 ≤ fl) (h1 : fl ≤ 9223372036854775807) : doneB fl = !decide (fl / 4 % 2 = 0) := by
  obtain ⟨n, rfl⟩ : ∃ n : Nat, fl = n := ⟨fl.toNat, by omega⟩
  have hb := (bits_nat .i64 63 (by decide) (fun n a b => by rw [IntKind.wrap_i64]; omega) n 4 (by omega) (by decide)).1
  have h4 : n &&& 4 = (n / 4 % 2) * 4 := by
    have e8 : n &&& 4 = n % 8 &&& 4 := by
      apply Nat.eq_of_testBit_eq
      intro i
      rw [Nat.testBit_and, Nat.testBit_and, show (8 : Nat) = 2 ^ 3 by decide, Nat.testBit_mod_two_pow]
      by_cases hi : i < 3
      · simp [hi]
      · have : Nat.testBit 4 i = false := Nat.testBit_lt_two_pow (Nat.lt_of_lt_of_le (show 4 < 2 ^ 3 by decide) (Nat.pow_le_pow_right (by decide) (by omega)))
        rw [this]; simp
    rw [e8, show n / 4 % 2 = n % 8 / 4 by omega]
    have hr : n % 8 < 8 := Nat.mod_lt _ (by decide)
    generalize n % 8 = r at hr ⊢
    have : r = 0 ∨ r = 1 ∨ r = 2 ∨ r = 3 ∨ r = 4 ∨ r = 5 ∨ r = 6 ∨ r = 7 := by omega
    rcases this with rfl | rfl | rfl | rfl | rfl | rfl | rfl | rfl <;> decide
  unfold doneB
  have e1 : bits .and .i64 (n : Int) 4 = ((n &&& 4 : Nat) : Int) := hb
  rw [e1, h4]
  congr 1
  rw [decide_eq_decide]
  omega
end Go.Proofs.Ytdndhidinbmpdaa
