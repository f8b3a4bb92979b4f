/- Models in memory: the program's. -/
import Derived.Test.YtoiencoojkahmaaB1
import Derived.Test.YtoiencoojkahmaaEa
import Derived.Test.YtoiencoojkahmaaRows
import Derived.OwnWalk
import Derived.RegionTactic
import Derived.BigQuiet
import Derived.LoopN
import Derived.Deep.QuietTactic
import Derived.Deep.Cut
import Derived.WalkLawsBesides
import Derived.Shelf.Abstract
import Derived.Laws.EntriesVeiled
namespace Go.Proofs.Ytoiencoojkahmaa
open Go.RowKit
set_option linter.unusedVariables false
set_option maxRecDepth 100000
set_option maxHeartbeats 4000000

/-- A state, as a number. -/
def stI : Bool → Int
  | true => 1
  | false => 0
/-- A model of the program's. -/
def HM (w : World) (g : Nat) (F R H : Int) (s : Hs) : Prop := w.heap[g]? = some (.cells #[.int .i64 F, .int .i64 R, .int .i64 H, .int .i64 (stI s.d), .int .i64 s.r, .int .i64 s.h] 84 (0, 0))
theorem HM.fr {S : Nat → Prop} {w w' : World} {g : Nat} {F R H : Int} {s : Hs} (h : HM w g F R H s) (f : Fr S w w') (hs : ¬ S g) : HM w' g F R H s := (f.block g (lt_of_heap h) hs).trans h
theorem heap_set {w : World} {g j : Nat} {cs : Array Value} {t : TypeId} (v : Value) (h : w.heap[g]? = some (.cells cs t (0, 0))) : (w.setCell ⟨g, j, none⟩ v).heap[g]? = some (.cells (cs.setIfInBounds j v) t (0, 0)) := by
  have hl := lt_of_heap h
  simp [World.setCell]
  rw [Array.getElem?_eq_getElem hl] at h
  simp at h
  simp [Array.modify, Array.modifyM, hl, h]
theorem HM.setR {w : World} {g : Nat} {F R H : Int} {d : Bool} {r k : Int} (y : Int) (h : HM w g F R H ⟨d, r, k⟩) : HM (w.setCell ⟨g, 4, none⟩ (.int .i64 y)) g F R H ⟨d, y, k⟩ := by
  have := heap_set (j := 4) (.int .i64 y) h
  simpa [HM] using this
theorem HM.setH {w : World} {g : Nat} {F R H : Int} {d : Bool} {r k : Int} (y : Int) (h : HM w g F R H ⟨d, r, k⟩) : HM (w.setCell ⟨g, 5, none⟩ (.int .i64 y)) g F R H ⟨d, r, y⟩ := by
  have := heap_set (j := 5) (.int .i64 y) h
  simpa [HM] using this
theorem HM.setD {w : World} {g : Nat} {F R H : Int} {d : Bool} {r k : Int} (y : Bool) (i : Int) (hi : stI y = i) (h : HM w g F R H ⟨d, r, k⟩) : HM (w.setCell ⟨g, 3, none⟩ (.int .i64 i)) g F R H ⟨y, r, k⟩ := by
  subst hi
  have := heap_set (j := 3) (.int .i64 (stI y)) h
  simpa [HM] using this
theorem emade_in (g : Nat) (F R H : Int) (s : Hs) (w : World) (h : HM w g F R H s) (hF : 1 ≤ F) : Calls Try.prog 65 #[.pointer (some ⟨g, 0, none⟩)] w fun e w' => e = .returned (.bool true) ∧ w = w' := by
  have c0 : w.cell? ⟨g, 0, none⟩ = some (.int .i64 F) := cell_of_heap h rfl
  have hF2 : 0 < F := by omega
  go_enter Try.func65, Try.ntmps65
  go_wp2_with (fail)
  go_ret
  exact ⟨by simp, rfl⟩
theorem emade_zero (g : Nat) (w : World) (c0 : w.cell? ⟨g, 0, none⟩ = some (.int .i64 0)) : Calls Try.prog 65 #[.pointer (some ⟨g, 0, none⟩)] w fun e w' => e = .returned (.bool false) ∧ w = w' := by
  go_enter Try.func65, Try.ntmps65
  go_wp2_with (fail)
  go_ret
  exact ⟨rfl, rfl⟩
theorem emade_nil (w : World) : Calls Try.prog 65 #[.pointer none] w fun e w' => e = .returned (.bool false) ∧ w = w' := by
  go_enter Try.func65, Try.ntmps65
  go_wp2_with (fail)
  go_ret
  exact ⟨rfl, rfl⟩
theorem eUp_in (g : Nat) (F R H : Int) (s : Hs) (w : World) (h : HM w g F R H s) (hF : 1 ≤ F) : Calls Try.prog 61 #[.pointer (some ⟨g, 0, none⟩)] w fun e w' => e = .returned (.bool (!s.d)) ∧ w = w' := by
  obtain ⟨d, r, k⟩ := s
  have K := emade_in g F R H _ w h hF
  cases d
  · have c3 : w.cell? ⟨g, 3, none⟩ = some (.int .i64 0) := cell_of_heap h rfl
    clear h
    go_enter Try.func61, Try.ntmps61
    go_wp2_with (go_at_call 65; refine K.mono ?_; clear K; rintro e w' ⟨rfl, rfl⟩)
    go_ret
    exact ⟨rfl, rfl⟩
  · have c3 : w.cell? ⟨g, 3, none⟩ = some (.int .i64 1) := cell_of_heap h rfl
    clear h
    go_enter Try.func61, Try.ntmps61
    go_wp2_with (go_at_call 65; refine K.mono ?_; clear K; rintro e w' ⟨rfl, rfl⟩)
    go_ret
    exact ⟨rfl, rfl⟩
theorem ewait_in (g : Nat) (F R H : Int) (s : Hs) (w : World) (h : HM w g F R H s) (h0 : 0 ≤ s.h) (hm : s.h ≤ 1073741824) : Calls Try.prog 59 #[.pointer (some ⟨g, 0, none⟩)] w fun e w' => e = .returned (.tuple #[]) ∧ HM w' g F R H (tckS s) ∧ Fr (fun k => k = g) w w' := by
  obtain ⟨d, r, k⟩ := s
  dsimp only at h0 hm
  have c5 : w.cell? ⟨g, 5, none⟩ = some (.int .i64 k) := cell_of_heap h rfl
  have z5 : w.frozen? ⟨g, 5, none⟩ = false := frozen_of_heap h
  have HW : Hid (HM w g F R H ⟨d, r, k⟩) := h
  clear h
  by_cases hk : 0 < k
  · rw [tck_one d r hk]
    go_enter Try.func59, Try.ntmps59
    go_wp2_with (fail)
    go_end0
    exact ⟨rfl, HW.out.setH _, (Fr.refl _ _).setB _ _⟩
  · rw [tck_none d r hk]
    go_enter Try.func59, Try.ntmps59
    go_wp2_with (fail)
    go_end0
    exact ⟨rfl, HW.out, Fr.refl _ _⟩
end Go.Proofs.Ytoiencoojkahmaa
