/- A reader in memory; contracts of made, New, Rest, Failed, Feed. -/
import Derived.Test.YtikaefjhmgcidaaGf
import Derived.Test.YtikaefjhmgcidaaFa
import Derived.BigQuiet
import Derived.Deep.QuietTactic
namespace Go.Proofs.Ytikaefjhmgcidaa
open Go.RowKit
set_option linter.unusedVariables false
set_option maxRecDepth 100000
set_option maxHeartbeats 4000000

/-- A reader's block: its fields. -/
def RdC (w : World) (g : Nat) (most : Int) (v : Value) (at_ : Nat) (X : Flt) : Prop :=
  w.heap[g]? = some (.cells #[.int .i64 most, v, .int .i64 at_, .bool X.is, .int .i64 X.st, .int .i64 X.code] 57 (0, 0))
theorem rcells {w : World} {g : Nat} {most : Int} {v : Value} {at_ : Nat} {X : Flt} (h : RdC w g most v at_ X) : w.cell? ⟨g, 0, none⟩ = some (.int .i64 most) ∧ w.cell? ⟨g, 1, none⟩ = some v ∧ w.cell? ⟨g, 2, none⟩ = some (.int .i64 at_) ∧ w.cell? ⟨g, 3, none⟩ = some (.bool X.is) ∧ w.cell? ⟨g, 4, none⟩ = some (.int .i64 X.st) ∧ w.cell? ⟨g, 5, none⟩ = some (.int .i64 X.code) :=
  ⟨cell_of_heap h rfl, cell_of_heap h rfl, cell_of_heap h rfl, cell_of_heap h rfl, cell_of_heap h rfl, cell_of_heap h rfl⟩
theorem RdC.lt {w : World} {g : Nat} {most : Int} {v : Value} {at_ : Nat} {X : Flt} (h : RdC w g most v at_ X) : g < w.heap.size := lt_of_heap h
theorem RdC.fr {S : Nat → Prop} {w w' : World} {g : Nat} {most : Int} {v : Value} {at_ : Nat} {X : Flt} (h : RdC w g most v at_ X) (hf : Fr S w w') (hs : ¬ S g) : RdC w' g most v at_ X := (hf.block g h.lt hs).trans h
/-- The bytes of a reader lie in another block than the reader. -/
theorem own_ne {w : World} {g : Nat} {most : Int} {v u : Value} {at_ : Nat} {X : Flt} {xs : List Value} (h : RdC w g most v at_ X) (ho : OwnAt w 5 u xs) : ∀ k, u.ownBlock = some k → k ≠ g := by
  rintro k hk rfl
  rcases ho with ⟨rfl, -⟩ | ⟨g', off, cap, cur, rfl, hg, -⟩
  · simp [Value.ownBlock] at hk
  · simp [Value.ownBlock] at hk
    subst hk
    rw [RdC, hg] at h
    simp at h
theorem rset {w : World} {g j : Nat} {cs : Array Value} {t : TypeId} {v : Value} (h : w.heap[g]? = some (.cells cs t (0, 0))) : (w.setCell ⟨g, j, none⟩ v).heap[g]? = some (.cells (cs.setIfInBounds j v) t (0, 0)) := by
  have hl := lt_of_heap h
  simp [World.setCell]
  rw [Array.getElem?_eq_getElem hl] at h
  simp at h
  simp [Array.modify, Array.modifyM, hl, h]

theorem made_in (g : Nat) (most : Int) (v : Value) (at_ : Nat) (X : Flt) (w : World) (h : RdC w g most v at_ X) (hm : 0 < most) :
    Calls Try.prog 21 #[.pointer (some ⟨g, 0, none⟩)] w fun e w' => e = .returned (.bool true) ∧ w = w' := by
  have c0 := (rcells h).1
  go_enter Try.func21, Try.ntmps21
  go_wp2_with (fail)
  go_ret
  exact ⟨rfl, rfl⟩
theorem made_zero (g : Nat) (v : Value) (at_ : Nat) (X : Flt) (w : World) (h : RdC w g 0 v at_ X) :
    Calls Try.prog 21 #[.pointer (some ⟨g, 0, none⟩)] w fun e w' => e = .returned (.bool false) ∧ w = w' := by
  have c0 := (rcells h).1
  go_enter Try.func21, Try.ntmps21
  go_wp2_with (fail)
  go_ret
  exact ⟨rfl, rfl⟩
theorem made_nil (w : World) :
    Calls Try.prog 21 #[.pointer none] w fun e w' => e = .returned (.bool false) ∧ w = w' := by
  go_enter Try.func21, Try.ntmps21
  go_wp2_with (fail)
  go_ret
  exact ⟨rfl, rfl⟩
theorem nNew_in (most : Int) (w : World) (h0 : 16384 ≤ most) (h1 : most ≤ 16777215) :
    Calls Try.prog 8 #[.int .i64 most] w fun e w' => e = .returned (.tuple #[.pointer (some ⟨w.heap.size, 0, none⟩), .int .i64 0]) ∧ RdC w' w.heap.size most (.slice none 0 0) 0 ⟨false, 0, 0⟩ ∧ Fr (fun _ => False) w w' ∧ w'.heap.size = w.heap.size + 1 := by
  have g1 : ¬ most < 16384 := by omega
  have g2 : ¬ 16777215 < most := by omega
  go_enter Try.func8, Try.ntmps8
  go_wp2_with (fail)
  go_ret2
  exact ⟨rfl, heap_alloc_new w _, (Fr.refl _ _).alloc _, by simp⟩
theorem nNew_not (most : Int) (w : World) (h : ¬ (16384 ≤ most ∧ most ≤ 16777215)) :
    Calls Try.prog 8 #[.int .i64 most] w fun e w' => e = .returned (.tuple #[.pointer none, .int .i64 1]) ∧ w = w' := by
  by_cases g1 : most < 16384
  · go_enter Try.func8, Try.ntmps8
    go_wp2_with (fail)
    go_ret2
    exact ⟨rfl, rfl⟩
  · have g2 : 16777215 < most := by omega
    go_enter Try.func8, Try.ntmps8
    go_wp2_with (fail)
    go_ret2
    exact ⟨rfl, rfl⟩
theorem Rest_in (g : Nat) (most : Int) (a : Option Addr) (n c at_ : Nat) (X : Flt) (w : World) (h : RdC w g most (.slice a n c) at_ X) (hm : 0 < most) (hat : at_ ≤ n) (hn : n < 2 ^ 62) :
    Calls Try.prog 16 #[.pointer (some ⟨g, 0, none⟩)] w fun e w' => e = .returned (.int .i64 ((n - at_ : Nat) : Int)) ∧ ∃ k, w' = w.drewN k := by
  obtain ⟨c0, c1, c2, c3, c4, c5⟩ := rcells h
  have KM := made_in g most _ at_ X w h hm
  have hsub : ((n - at_ : Nat) : Int) = (n : Int) - (at_ : Int) := by omega
  rw [hsub]
  clear hsub
  go_enter Try.func16, Try.ntmps16
  go_wp2_with (go_at_call 21; refine KM.mono ?_; clear KM; rintro e w' ⟨rfl, rfl⟩)
  go_quiet (fail)
  go_wp2_with (fail)
  go_ret
  exact ⟨rfl, _, rfl⟩
theorem Rest_nil (w : World) :
    Calls Try.prog 16 #[.pointer none] w fun e w' => e = .returned (.int .i64 0) ∧ w = w' := by
  have KM := made_nil w
  go_enter Try.func16, Try.ntmps16
  go_wp2_with (go_at_call 21; refine KM.mono ?_; clear KM; rintro e w' ⟨rfl, rfl⟩)
  go_ret
  exact ⟨rfl, rfl⟩
theorem Failed_in (g : Nat) (most : Int) (v : Value) (at_ : Nat) (X : Flt) (w : World) (h : RdC w g most v at_ X) (hm : 0 < most) :
    Calls Try.prog 15 #[.pointer (some ⟨g, 0, none⟩)] w fun e w' => e = .returned (.bool X.is) ∧ w = w' := by
  obtain ⟨c0, c1, c2, c3, c4, c5⟩ := rcells h
  have KM := made_in g most _ at_ X w h hm
  go_enter Try.func15, Try.ntmps15
  go_wp2_with (go_at_call 21; refine KM.mono ?_; clear KM; rintro e w' ⟨rfl, rfl⟩)
  go_ret
  exact ⟨rfl, rfl⟩
theorem Failed_zero (g : Nat) (v : Value) (at_ : Nat) (X : Flt) (w : World) (h : RdC w g 0 v at_ X) :
    Calls Try.prog 15 #[.pointer (some ⟨g, 0, none⟩)] w fun e w' => e = .returned (.bool false) ∧ w = w' := by
  have KM := made_zero g _ at_ X w h
  go_enter Try.func15, Try.ntmps15
  go_wp2_with (go_at_call 21; refine KM.mono ?_; clear KM; rintro e w' ⟨rfl, rfl⟩)
  go_ret
  exact ⟨rfl, rfl⟩
theorem Feed_nil (b : Value) (w : World) :
    Calls Try.prog 10 #[.pointer none, b] w fun e w' => e = .returned (.int .i64 7) ∧ w = w' := by
  have KM := made_nil w
  go_enter Try.func10, Try.ntmps10
  go_wp2_with (go_at_call 21; refine KM.mono ?_; clear KM; rintro e w' ⟨rfl, rfl⟩)
  go_ret
  exact ⟨rfl, rfl⟩
theorem Feed_zero (g : Nat) (v : Value) (at_ : Nat) (X : Flt) (b : Value) (w : World) (h : RdC w g 0 v at_ X) :
    Calls Try.prog 10 #[.pointer (some ⟨g, 0, none⟩), b] w fun e w' => e = .returned (.int .i64 7) ∧ w = w' := by
  have KM := made_zero g _ at_ X w h
  go_enter Try.func10, Try.ntmps10
  go_wp2_with (go_at_call 21; refine KM.mono ?_; clear KM; rintro e w' ⟨rfl, rfl⟩)
  go_ret
  exact ⟨rfl, rfl⟩
theorem Feed_failed (g : Nat) (most : Int) (v : Value) (at_ : Nat) (X : Flt) (b : Value) (w : World) (h : RdC w g most v at_ X) (hm : 0 < most) (hX : X.is = true) :
    Calls Try.prog 10 #[.pointer (some ⟨g, 0, none⟩), b] w fun e w' => e = .returned (.int .i64 5) ∧ w = w' := by
  obtain ⟨c0, c1, c2, c3, c4, c5⟩ := rcells h
  have KM := made_in g most _ at_ X w h hm
  rw [hX] at c3
  clear hX
  go_enter Try.func10, Try.ntmps10
  go_wp2_with (go_at_call 21; refine KM.mono ?_; clear KM; rintro e w' ⟨rfl, rfl⟩)
  go_ret
  exact ⟨rfl, rfl⟩
/-- What Feed leaves. -/
def FedAs (w : World) (g : Nat) (most : Int) (v : Value) (at_ : Nat) (X : Flt) (D : List UInt8) (e : Ending) (w' : World) : Prop :=
  e = .returned (.int .i64 0) ∧ ∃ a' n' c', RdC w' g most (.slice a' n' c') at_ X ∧ OwnAt w' 5 (.slice a' n' c') (bv D) ∧ Fr (fun k => k = g ∨ v.ownBlock = some k) w w' ∧ ((Value.slice a' n' c').ownBlock = v.ownBlock ∨ ∃ k, (Value.slice a' n' c').ownBlock = some k ∧ w.heap.size ≤ k)
theorem Feed_in (g : Nat) (most : Int) (a : Option Addr) (n c at_ : Nat) (X : Flt) (D : List UInt8) (sp : Option Addr) (m cb : Nat) (b : List UInt8) (w : World) (h : RdC w g most (.slice a n c) at_ X) (ho : OwnAt w 5 (.slice a n c) (bv D)) (hm : 0 < most) (hX : X.is = false) (hs : SrcAt w sp b) (hb : b.length = m) (hbig : D.length + m ≤ 225179981368371) :
    Calls Try.prog 10 #[.pointer (some ⟨g, 0, none⟩), .slice sp m cb] w fun e w' => FedAs w g most (.slice a n c) at_ X (D ++ b) e w' := by
  obtain ⟨c0, c1, c2, c3, c4, c5⟩ := rcells h
  have KM := made_in g most _ at_ X w h hm
  obtain ⟨i, j1, j2, j3, j4⟩ := info5
  have J1 : Hid (Try.prog.info? 5 = some i) := j1
  have J2 : Hid (i.zero = some (.int .u8 0)) := j2
  have J3 : Hid (i.size = 1) := j3
  have J4 : Hid (i.bytes = 1) := j4
  have HO : Hid (OwnAt w 5 (.slice a n c) (bv D)) := ho
  have HS : Hid (SrcAt w sp b) := hs
  have HB : Hid (b.length = m) := hb
  have HR : Hid (RdC w g most (.slice a n c) at_ X) := h
  have HNE : Hid (∀ k, (Value.slice a n c).ownBlock = some k → k ≠ g) := own_ne h ho
  rw [hX] at c3
  clear hX ho hs hb h j1 j2 j3 j4
  go_enter Try.func10, Try.ntmps10
  go_wp2_with (first
    | (go_at_call 21; refine KM.mono ?_; clear KM; rintro e w' ⟨rfl, rfl⟩)
    | (refine wpList_append_bytes rfl (.tmp 17) (.tmp 18) 31 31 rfl 5 i Try.underlying31 Try.underlying31 J1.out J2.out J3.out J4.out (.slice a n c) D (by go_simp) HO.out sp m cb (by go_simp) b HS.out HB.out hbig ?_
       intro a' n' c' w1 N1 o1 F1 B1
       have O1 : Hid (OwnAt w1 5 (.slice a' n' c') (bv (D ++ b))) := o1
       have R1 : Hid (RdC w1 g most (.slice a n c) at_ X) := HR.out.fr F1.out (fun e => HNE.out g e rfl)
       have d1 : w1.cell? ⟨g, 1, none⟩ = some (.slice a n c) := (rcells R1.out).2.1
       have z1 : w1.frozen? ⟨g, 1, none⟩ = false := frozen_of_heap R1.out
       clear o1))
  go_ret
  refine ⟨rfl, a', n', c', rset R1.out, ?_, ?_, B1.out⟩
  · exact O1.out.fr ((Fr.refl _ _).setB 1 _) (own_ne R1.out O1.out)
  · exact (F1.out.mono (T := fun k => k = g ∨ (Value.slice a n c).ownBlock = some k) (fun _ _ e => .inr e)).setS (.inl rfl) 1 _
end Go.Proofs.Ytikaefjhmgcidaa
