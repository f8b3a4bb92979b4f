/- A pool: Backs, and what awake asks. -/
import Derived.Test.YtoiencoojkahmaaJg
import Derived.Test.YtoiencoojkahmaaJe
import Derived.Test.YtoiencoojkahmaaJf
namespace Go.Proofs.Ytoiencoojkahmaa
open Go.RowKit Go.Maps
set_option linter.unusedVariables false
set_option maxRecDepth 100000
set_option maxHeartbeats 4000000

theorem info_bk : ∃ i, Try.prog.info? 46 = some i ∧ i.zero = some (.agg #[.bool false, .int .i64 0, .int .i64 0]) ∧ i.size = 3 ∧ i.bytes = 24 := ⟨(Try.prog.info? 46).get (by kernel_rfl), by kernel_rfl, by kernel_rfl, by kernel_rfl, by kernel_rfl⟩
def nobk (n : Nat) : Array Value := madeCells #[.bool false, .int .i64 0, .int .i64 0] (n * 3)
theorem nobk_at (n i k : Nat) (hi : i < n) (hk : k < 3) : (nobk n)[i * 3 + k]? = (#[Value.bool false, .int .i64 0, .int .i64 0] : Array Value)[k]? := made_at _ _ 3 i k rfl hk (by omega)
theorem run_nobk (n : Nat) (hn : n ≤ 16) (w : World) : (Instr.makeSlice 43 (.int .i64 (n : Int)) (.int .i64 (n : Int))).run Try.prog w = .ok (.slice (some ⟨w.heap.size, 0, none⟩) n n) (w.alloc (.cells (nobk n) 46)) := by
  obtain ⟨i, hi, hz, hs, hb⟩ := info_bk
  have := run_make (P := Try.prog) w 43 46 i _ Try.underlying43 hi hz .i64 .i64 (n : Int) (n : Int) (by omega) (by omega) (by rw [hb]; omega) (by omega)
  rw [hs] at this
  simp only [Int.toNat_natCast] at this
  exact this
/-- What a choice sees, as cells: the first k of n. -/
structure SeeS (X : Nat → Bk) (n k : Nat) (cs : Array Value) : Prop where
  a : ∀ i, i < k → cs[i * 3]? = some (.bool (seeU (X i))) ∧ cs[i * 3 + 1]? = some (.int .i64 (seeS (X i))) ∧ cs[i * 3 + 2]? = some (.int .i64 (X i).load)
  b : ∀ i, k ≤ i → i < n → cs[i * 3]? = some (.bool false) ∧ cs[i * 3 + 1]? = some (.int .i64 0) ∧ cs[i * 3 + 2]? = some (.int .i64 0)
theorem SeeS.start (X : Nat → Bk) (n : Nat) : SeeS X n 0 (nobk n) := ⟨fun i hi => by omega, fun i _ hi => ⟨nobk_at n i 0 hi (by omega), nobk_at n i 1 hi (by omega), nobk_at n i 2 hi (by omega)⟩⟩
theorem SeeS.next {X : Nat → Bk} {n k : Nat} {cs : Array Value} (h : SeeS X n k cs) (hk : k < n) : SeeS X n (k + 1) (((cs.setIfInBounds (k * 3) (.bool (seeU (X k)))).setIfInBounds (k * 3 + 1) (.int .i64 (seeS (X k)))).setIfInBounds (k * 3 + 2) (.int .i64 (X k).load)) := by
  obtain ⟨z0, z1, z2⟩ := h.b k (Nat.le_refl _) hk
  have l2 := (Array.getElem?_eq_some_iff.1 z2).1
  refine ⟨fun i hi => ?_, fun i hi hin => ?_⟩
  · by_cases e : i = k
    · subst e
      refine ⟨?_, ?_, ?_⟩
      · rw [Array.getElem?_setIfInBounds, if_neg (by omega), Array.getElem?_setIfInBounds, if_neg (by omega), Array.getElem?_setIfInBounds, if_pos rfl, if_pos (by omega)]
      · rw [Array.getElem?_setIfInBounds, if_neg (by omega), Array.getElem?_setIfInBounds, if_pos rfl, if_pos (by simp; omega)]
      · rw [Array.getElem?_setIfInBounds, if_pos rfl, if_pos (by simp; omega)]
    · obtain ⟨a0, a1, a2⟩ := h.a i (by omega)
      refine ⟨?_, ?_, ?_⟩ <;> rw [Array.getElem?_setIfInBounds, if_neg (by omega), Array.getElem?_setIfInBounds, if_neg (by omega), Array.getElem?_setIfInBounds, if_neg (by omega)] <;> assumption
  · obtain ⟨a0, a1, a2⟩ := h.b i (by omega) hin
    refine ⟨?_, ?_, ?_⟩ <;> rw [Array.getElem?_setIfInBounds, if_neg (by omega), Array.getElem?_setIfInBounds, if_neg (by omega), Array.getElem?_setIfInBounds, if_neg (by omega)] <;> assumption
/-- A list of what a choice sees, in memory of its own. -/
def SeeAt (w w' : World) (X : Nat → Bk) (n : Nat) (v : Value) : Prop := ∃ o cap cs, v = .slice (some ⟨o, 0, none⟩) n cap ∧ w.heap.size ≤ o ∧ w'.heap[o]? = some (.cells cs 46 (0, 0)) ∧ SeeS X n n cs
section
variable {base : Nat} {w w' : World} {g b gw mb : Nat} {sl sl2 : List Value} {ms : Nat → Nat} {n : Nat} {F R H rt mo : Int} {s : Pl}
theorem plBacks_in (h : PAt base w g b gw mb sl ms n F R H rt mo s) (hn : n ≤ 16) (hF : 1 ≤ F) {c : Int} (hi : InvP n F mo c s) (hc : c ≤ 9000000000000000000) :
    Calls Try.prog 17 #[.pointer (some ⟨g, 0, none⟩)] w fun e w' => ∃ v, e = .returned v ∧ SeeAt w w' s.X n v ∧ Fr (fun _ => False) w w' := by
  obtain ⟨h0, h1, -, -⟩ := h.head
  have KM := plmade_in g gw w h1
  have hmk := run_nobk n hn
  have HP : Hid (PAt base w g b gw mb sl ms n F R H rt mo s) := h
  have HI : Hid (InvP n F mo c s) := hi
  clear h hi
  go_enter Try.func17, Try.ntmps17
  go_upto_region 4 with (go_at_call 42; refine KM.mono ?_; clear KM; rintro e w1 ⟨rfl, rfl⟩)
  obtain ⟨W, hW⟩ : ∃ W, W = w.alloc (.cells (nobk n) 46) := ⟨_, rfl⟩
  obtain ⟨o, ho⟩ : ∃ o, o = w.heap.size := ⟨_, rfl⟩
  have FW : Hid (Fr (fun _ => False) w W) := by rw [hW]; exact (Fr.refl _ _).alloc _
  have BO : Hid (W.heap[o]? = some (.cells (nobk n) 46 (0, 0))) := by rw [hW, ho]; exact heap_alloc_new _ _
  have HO : Hid (o = w.heap.size) := ho
  rw [← hW, ← ho]
  clear h0 h1 hmk hW ho
  obtain ⟨h0, -, -, -⟩ := (HP.out.later FW.out).head
  go_wp2_with (fail)
  go_loopw [19] (fun x19 wr => ∃ (k : Nat) (cs : Array Value), x19 = .int .i64 (k : Int) ∧ k ≤ n ∧ Hid (Fr (fun _ => False) w wr ∧ wr.heap[o]? = some (.cells cs 46 (0, 0)) ∧ SeeS s.X n k cs)) (fun x19 _ => n - (intOf x19).toNat)
  case atStart => exact ⟨0, _, rfl, by omega, FW.out, BO.out, SeeS.start s.X n⟩
  case round =>
    clear h0 FW BO
    obtain ⟨k, cs, rfl, hkn, HS⟩ := hrel
    by_cases hlt : k < n
    · have hlt2 : (k : Int) < (n : Int) := by omega
      have P1 := HP.out.later HS.out.1
      obtain ⟨h0, -, -, -⟩ := P1.head
      obtain ⟨c0, c1, c2, c3, -, -⟩ := P1.cells hlt
      have hb := HI.out.b k hlt
      obtain ⟨cr, hcr, -⟩ := P1.row
      have KS := plseen_in b k (ms k) F R H (s.X k) wr (P1.mod k hlt) hF c0 c1 c2 c3 (lt_of_heap hcr) hb.s0 hb.s3 hb.ld hb.m0 hb.mm hb.l0 (by have := hb.lc; omega)
      obtain ⟨y0, y1, y2⟩ := HS.out.2.2.b k (Nat.le_refl _) hlt
      have HY : Hid (cs[k * 3]? = some (.bool false) ∧ cs[k * 3 + 1]? = some (.int .i64 0) ∧ cs[k * 3 + 2]? = some (.int .i64 0)) := ⟨y0, y1, y2⟩
      obtain ⟨u, hu⟩ : ∃ u, seeU (s.X k) = u := ⟨_, rfl⟩
      obtain ⟨a, ha⟩ : ∃ a, seeS (s.X k) = a := ⟨_, rfl⟩
      obtain ⟨l, hl⟩ : ∃ l, (s.X k).load = l := ⟨_, rfl⟩
      have HN : Hid (SeeS s.X n (k + 1) (((cs.setIfInBounds (k * 3) (.bool u)).setIfInBounds (k * 3 + 1) (.int .i64 a)).setIfInBounds (k * 3 + 2) (.int .i64 l))) := by have := HS.out.2.2.next hlt; rw [hu, ha, hl] at this; exact this
      rw [hu, ha, hl] at KS
      clear P1 hb hcr y0 y1 y2 hu ha hl c0 c1 c2 c3
      go_wp2_with (go_at_call 47; refine KS.mono ?_; clear KS; rintro e w2 ⟨rfl, f2⟩; have B2 : Hid (w2.heap[o]? = some (.cells cs 46 (0, 0))) := (f2.block o (lt_of_heap HS.out.2.1) id).trans HS.out.2.1; have F2 : Hid (Fr (fun _ => False) w w2) := HS.out.1.trans f2; have o0 : w2.cell? ⟨o, k * 3, none⟩ = some (.bool false) := cell_of_heap B2.out HY.out.1; have o1 : w2.cell? ⟨o, k * 3 + 1, none⟩ = some (.int .i64 0) := cell_of_heap B2.out HY.out.2.1; have o2 : w2.cell? ⟨o, k * 3 + 2, none⟩ = some (.int .i64 0) := cell_of_heap B2.out HY.out.2.2; have oz0 : w2.frozen? ⟨o, k * 3, none⟩ = false := frozen_of_heap B2.out; have oz1 : w2.frozen? ⟨o, k * 3 + 1, none⟩ = false := frozen_of_heap B2.out; have oz2 : w2.frozen? ⟨o, k * 3 + 2, none⟩ = false := frozen_of_heap B2.out; clear f2)
      go_roundw
      case rel => exact ⟨k + 1, _, by go_num, by omega, (((((F2.out.mono (T := fun q => q = o) (fun _ _ e => e.elim)).setB _ _).setB _ _).setB _ _).mono (fun q hq e => by have := HO.out; omega)), heap_set _ (heap_set _ (heap_set _ B2.out)), HN.out⟩
      case measure => simp [intOf]; omega
    · have hge : k = n := by omega
      subst hge
      go_wp2_with (fail)
      go_ret
      exact ⟨_, rfl, ⟨o, k, cs, rfl, Nat.le_of_eq HO.out.symm, HS.out.2.1, HS.out.2.2⟩, HS.out.1⟩
end
end Go.Proofs.Ytoiencoojkahmaa
