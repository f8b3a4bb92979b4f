/- What is asked of a backend; the numbers of those of which it holds. -/
import Derived.Test.YtedkjlhhgalcfaaHa
import Derived.Test.YtedkjlhhgalcfaaL18
import Derived.Test.YtedkjlhhgalcfaaIv
import Derived.Test.YtedkjlhhgalcfaaAv
import Derived.BigQuiet
import Derived.OwnWalk
import Derived.RegionTactic
import Derived.LoopN
import Derived.Deep.QuietTactic
import Derived.Deep.Cut
import Derived.WalkLawsBesides
import Derived.Shelf.Abstract
namespace Go.Proofs.Ytedkjlhhgalcfaa
open Go.RowKit
set_option linter.unusedVariables false
set_option maxRecDepth 100000
set_option maxHeartbeats 4000000

/-- A backend, as a value. -/
def bkV (x : Bk) : Value := .agg #[.bool x.1, .int .i64 x.2.1, .int .i64 x.2.2]
theorem pkfits_in (x : Bk) (w : World) : Calls Try.prog 17 #[.agg #[.bool x.1, .int .i64 x.2.1, .int .i64 x.2.2]] w fun e w' => e = .returned (.bool (fitB x)) ∧ Fr (fun _ => False) w w' := by
  obtain ⟨u, s, l⟩ := x
  unfold fitB
  dsimp only
  go_enter Try.func17, Try.ntmps17
  go_upto_region 1 with (fail)
  obtain ⟨wa, hwa⟩ : ∃ wa, wa = w.alloc (Obj.cells #[.bool u, .int .i64 s, .int .i64 l] 35) := ⟨_, rfl⟩
  obtain ⟨go, hgo⟩ : ∃ go, go = w.heap.size := ⟨_, rfl⟩
  have Fa : Hid (Fr (fun _ => False) w wa) := by rw [hwa]; exact (Fr.refl _ _).alloc _
  have ba : wa.heap[go]? = some (.cells #[.bool u, .int .i64 s, .int .i64 l] 35 (0, 0)) := by rw [hwa, hgo]; exact heap_alloc_new _ _
  have c0 : wa.cell? ⟨go, 0, none⟩ = some (.bool u) := cell_of_heap ba rfl
  have c1 : wa.cell? ⟨go, 1, none⟩ = some (.int .i64 s) := cell_of_heap ba rfl
  rw [← hwa, ← hgo]
  clear hwa hgo ba
  cases u
  · go_wp2_with (fail)
    go_ret
    exact ⟨rfl, Fa.out⟩
  · go_wp2_with (fail)
    go_ret
    exact ⟨by simp, Fa.out⟩
theorem pkties1_in (x : Bk) (b : Nat) (m : Int) (w : World) (hb : w.cell? ⟨b, 0, none⟩ = some (.int .i64 m)) : Calls Try.prog 18 #[.agg #[.bool x.1, .int .i64 x.2.1, .int .i64 x.2.2], .pointer (some ⟨b, 0, none⟩)] w fun e w' => e = .returned (.bool (tieB m x)) ∧ Fr (fun _ => False) w w' := by
  have K := fun w => pkfits_in x w
  obtain ⟨u, s, l⟩ := x
  unfold tieB
  dsimp only at K ⊢
  obtain ⟨V, hV⟩ : ∃ V, fitB (u, s, l) = V := ⟨_, rfl⟩
  rw [hV] at K ⊢
  clear hV
  have hbl : b < w.heap.size := World.block_lt_of_cell? _ _ hb
  go_enter Try.func18, Try.ntmps18
  go_upto_region 1 with (fail)
  obtain ⟨wa, hwa⟩ : ∃ wa, wa = w.alloc (Obj.cells #[.bool u, .int .i64 s, .int .i64 l] 35) := ⟨_, rfl⟩
  obtain ⟨go, hgo⟩ : ∃ go, go = w.heap.size := ⟨_, rfl⟩
  have Fa : Hid (Fr (fun _ => False) w wa) := by rw [hwa]; exact (Fr.refl _ _).alloc _
  have ba : wa.heap[go]? = some (.cells #[.bool u, .int .i64 s, .int .i64 l] 35 (0, 0)) := by rw [hwa, hgo]; exact heap_alloc_new _ _
  have HB : Hid (wa.heap[go]? = some (.cells #[.bool u, .int .i64 s, .int .i64 l] 35 (0, 0))) := ba
  have c0 : wa.cell? ⟨go, 0, none⟩ = some (.bool u) := cell_of_heap ba rfl
  have c1 : wa.cell? ⟨go, 1, none⟩ = some (.int .i64 s) := cell_of_heap ba rfl
  have c2 : wa.cell? ⟨go, 2, none⟩ = some (.int .i64 l) := cell_of_heap ba rfl
  have cb : Hid (wa.cell? ⟨b, 0, none⟩ = some (.int .i64 m)) := (Fa.out.cell (p := ⟨b, 0, none⟩) hbl id).trans hb
  rw [← hwa, ← hgo]
  clear hwa hgo ba hb hbl
  cases V
  · go_wp2_with (go_at_call 17; refine (K _).mono ?_; clear K; rintro e w1 ⟨rfl, f1⟩)
    go_ret
    exact ⟨rfl, Fa.out.trans f1⟩
  · go_wp2_with (go_at_call 17; refine (K _).mono ?_; clear K; rintro e w1 ⟨rfl, f1⟩; have d2 : w1.cell? ⟨go, 2, none⟩ = some (.int .i64 l) := (f1.cell (p := ⟨go, 2, none⟩) (lt_of_heap HB.out) id).trans c2; have db : w1.cell? ⟨b, 0, none⟩ = some (.int .i64 m) := (f1.cell (p := ⟨b, 0, none⟩) (World.block_lt_of_cell? _ _ cb.out) id).trans cb.out; have HF1 : Hid (Fr (fun _ => False) wa w1) := f1; clear f1 c0 c1 c2)
    go_ret
    exact ⟨by simp, Fa.out.trans HF1.out⟩
end Go.Proofs.Ytedkjlhhgalcfaa
