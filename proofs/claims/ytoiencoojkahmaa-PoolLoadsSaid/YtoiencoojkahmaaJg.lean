/- A pool: what a choice sees. -/
import Derived.Test.YtoiencoojkahmaaJd
namespace Go.Proofs.Ytoiencoojkahmaa
open Go.RowKit Go.Maps
set_option linter.unusedVariables false
set_option maxRecDepth 100000
set_option maxHeartbeats 4000000

theorem zero_back (w : World) : (zeroValue 46).run Try.prog w = .ok (.agg #[.bool false, .int .i64 0, .int .i64 0]) w := by kernel_rfl
theorem back_ret {w V : World} {r : Nat} {u : Bool} {a l : Int} (f : Fr (fun q => r ≤ q) w V) (hr : r = w.heap.size) : Fr (fun _ => False) w (((V.setCell ⟨r, 0, none⟩ (.bool u)).setCell ⟨r, 1, none⟩ (.int .i64 a)).setCell ⟨r, 2, none⟩ (.int .i64 l)) :=
  (((f.setS (Nat.le_refl r) _ _).setS (Nat.le_refl r) _ _).setS (Nat.le_refl r) _ _).mono (fun q hq e => by omega)
theorem plseen_in (b j m : Nat) (F R H : Int) (x : Bk) (w : World) (hm : HM w m F R H x.hs) (hF : 1 ≤ F) (c0 : w.cell? ⟨b, j * 5, none⟩ = some (.pointer (some ⟨m, 0, none⟩))) (c1 : w.cell? ⟨b, j * 5 + 1, none⟩ = some (.int .i64 x.st)) (c2 : w.cell? ⟨b, j * 5 + 2, none⟩ = some (.int .i64 x.may)) (c3 : w.cell? ⟨b, j * 5 + 3, none⟩ = some (.int .i64 x.load)) (hbw : b < w.heap.size)
    (s0 : 0 ≤ x.st) (s3 : x.st ≤ 3) (ld : x.st < 2 → x.load = 0) (m0 : 0 ≤ x.may) (mm : x.may ≤ 9223372036854775807) (l0 : 0 ≤ x.load) (lm : x.load ≤ 9000000000000000000) :
    Calls Try.prog 47 #[.pointer (some ⟨b, j * 5, none⟩)] w fun e w' => e = .returned (.agg #[.bool (seeU x), .int .i64 (seeS x), .int .i64 x.load]) ∧ Fr (fun _ => False) w w' := by
  have hz := zero_back
  obtain ⟨W, hW⟩ : ∃ W, W = (w.alloc (.cells #[.bool false, .int .i64 0, .int .i64 0] 46)).alloc (.cells #[.bool false, .int .i64 0, .int .i64 0] 46) := ⟨_, rfl⟩
  obtain ⟨r, hr⟩ : ∃ r, r = w.heap.size := ⟨_, rfl⟩
  have FW : Hid (Fr (fun _ => False) w W) := by rw [hW]; exact ((Fr.refl _ _).alloc _).alloc _
  have BR : Hid (W.heap[r]? = some (.cells #[.bool false, .int .i64 0, .int .i64 0] 46 (0, 0))) := by
    have f : Fr (fun _ => False) (w.alloc (.cells #[.bool false, .int .i64 0, .int .i64 0] 46)) W := by rw [hW]; exact (Fr.refl _ _).alloc _
    rw [hr]
    exact (f.block _ (by simp) id).trans (heap_alloc_new _ _)
  have BO : Hid (W.heap[r + 1]? = some (.cells #[.bool false, .int .i64 0, .int .i64 0] 46 (0, 0))) := by
    have := heap_alloc_new (w.alloc (.cells #[.bool false, .int .i64 0, .int .i64 0] 46)) (.cells #[.bool false, .int .i64 0, .int .i64 0] 46)
    show _ = _
    show _ = _
    rw [hW, hr]
    simpa using this
  have HM1 : Hid (HM W m F R H x.hs) := hm.fr FW.out id
  have hml := lt_of_heap hm
  replace c0 := (FW.out.cell (p := ⟨b, j * 5, none⟩) hbw id).trans c0
  replace c1 := (FW.out.cell (p := ⟨b, j * 5 + 1, none⟩) hbw id).trans c1
  replace c2 := (FW.out.cell (p := ⟨b, j * 5 + 2, none⟩) hbw id).trans c2
  replace c3 := (FW.out.cell (p := ⟨b, j * 5 + 3, none⟩) hbw id).trans c3
  have o0 : W.cell? ⟨r + 1, 0, none⟩ = some (.bool false) := cell_of_heap BO.out rfl
  have o1 : W.cell? ⟨r + 1, 1, none⟩ = some (.int .i64 0) := cell_of_heap BO.out rfl
  have o2 : W.cell? ⟨r + 1, 2, none⟩ = some (.int .i64 0) := cell_of_heap BO.out rfl
  have oz : ∀ q, W.frozen? ⟨r + 1, q, none⟩ = false := fun q => frozen_of_heap BO.out
  have r0 : W.cell? ⟨r, 0, none⟩ = some (.bool false) := cell_of_heap BR.out rfl
  have r1 : W.cell? ⟨r, 1, none⟩ = some (.int .i64 0) := cell_of_heap BR.out rfl
  have r2 : W.cell? ⟨r, 2, none⟩ = some (.int .i64 0) := cell_of_heap BR.out rfl
  have rz : ∀ q, W.frozen? ⟨r, q, none⟩ = false := fun q => frozen_of_heap BR.out
  have hbr : b < r := by omega
  have HR : Hid (r = w.heap.size) := hr
  have oz0 := oz 0
  have oz1 := oz 1
  have oz2 := oz 2
  have rz0 := rz 0
  have rz1 := rz 1
  have rz2 := rz 2
  clear hm oz rz hbw hml
  have hcase : x.st = 0 ∨ x.st = 1 ∨ x.st = 2 ∨ x.st = 3 := by omega
  clear s0 s3
  have FW2 : Hid (Fr (fun q => r ≤ q) w W) := FW.out.mono (fun _ _ e => e.elim)
  have FW2 : Hid (Fr (fun q => r ≤ q) w W) := FW.out.mono (fun _ _ e => e.elim)
  rcases hcase with e | e | e | e
  · have E1 : seeU x = false := by unfold seeU; rw [e]; simp
    have E2 : seeS x = 0 := by unfold seeS; rw [e]; simp
    have E3 := ld (by omega)
    rw [E1, E2, E3]
    rw [e] at c1
    clear ld e E1 E2 E3
    go_enter Try.func47, Try.ntmps47
    go_upto_region 2 with (fail)
    rw [← hW, ← hr]
    clear hW hr
    go_wp2_with (fail)
    (try simp only [Exit.inBlock, Exit.then])
    refine bodyPost_ret (v := .agg #[.bool false, .int .i64 0, .int .i64 0]) (by simp [results, Try.results47, go_sem, r0, r1, r2]) rfl ?_
    exact ⟨rfl, back_ret FW2.out HR.out⟩
  · have E1 : seeU x = false := by unfold seeU; rw [e]; simp
    have E2 : seeS x = 0 := by unfold seeS; rw [e]; simp
    have E3 := ld (by omega)
    rw [E1, E2, E3]
    rw [e] at c1
    clear ld e E1 E2 E3
    go_enter Try.func47, Try.ntmps47
    go_upto_region 2 with (fail)
    rw [← hW, ← hr]
    clear hW hr
    go_wp2_with (fail)
    (try simp only [Exit.inBlock, Exit.then])
    refine bodyPost_ret (v := .agg #[.bool false, .int .i64 0, .int .i64 0]) (by simp [results, Try.results47, go_sem, r0, r1, r2]) rfl ?_
    exact ⟨rfl, back_ret FW2.out HR.out⟩
  · obtain ⟨u, hu⟩ : ∃ u, seeU x = u := ⟨_, rfl⟩
    obtain ⟨a, ha⟩ : ∃ a, seeS x = a := ⟨_, rfl⟩
    have hu2 : (!x.hs.d) = u := by rw [← hu]; unfold seeU; rw [e]; simp
    have HA2 : Hid ((if x.load < x.may then x.may - x.load else 0) = a) := by show _ = _; rw [← ha]; unfold seeS; rw [if_pos e]; split <;> split <;> omega
    rw [hu, ha]
    rw [e] at c1
    have KU := eUp_in m F R H x.hs W HM1.out hF
    rw [hu2] at KU
    have b1 : -9223372036854775808 ≤ x.may - x.load := by omega
    have b2 : x.may - x.load ≤ 9223372036854775807 := by omega
    have hWb : b < W.heap.size := by have := lt_of_heap BR.out; omega
    have hWr : r < W.heap.size := lt_of_heap BR.out
    clear ld e hu ha hu2
    go_enter Try.func47, Try.ntmps47
    go_upto_region 2 with (fail)
    rw [← hW, ← hr]
    clear hW hr
    go_upto_region 6 with (go_at_call 61; refine KU.mono ?_; clear KU; rintro e w3 ⟨rfl, rfl⟩)
    obtain ⟨V, hV⟩ : ∃ V, V = W.setCell ⟨r + 1, 0, none⟩ (.bool u) := ⟨_, rfl⟩
    have FV : Hid (Fr (fun q => q = r + 1) W V) := by rw [hV]; exact (Fr.refl _ _).setB _ _
    have BV : Hid (V.heap[r + 1]? = some (.cells #[.bool u, .int .i64 0, .int .i64 0] 46 (0, 0))) := by show _ = _; rw [hV]; exact heap_set _ BO.out
    have e2 : V.cell? ⟨b, j * 5 + 2, none⟩ = some (.int .i64 x.may) := (FV.out.cell (p := ⟨b, j * 5 + 2, none⟩) hWb (by show ¬ b = r + 1; omega)).trans c2
    have e3 : V.cell? ⟨b, j * 5 + 3, none⟩ = some (.int .i64 x.load) := (FV.out.cell (p := ⟨b, j * 5 + 3, none⟩) hWb (by show ¬ b = r + 1; omega)).trans c3
    have v1 : V.cell? ⟨r + 1, 1, none⟩ = some (.int .i64 0) := cell_of_heap BV.out rfl
    have v1z : V.frozen? ⟨r + 1, 1, none⟩ = false := frozen_of_heap BV.out
    rw [← hV]
    clear hV c0 c1 c2 o0 o1 o2 oz0 oz1 oz2
    replace c3 : Hid (W.cell? ⟨b, j * 5 + 3, none⟩ = some (.int .i64 x.load)) := c3
    go_region
    go_upto_region 7 with (fail)
    rw [HA2.out]
    obtain ⟨U, hU⟩ : ∃ U, U = (V.setCell ⟨r + 1, 1, none⟩ (.int .i64 a)).drew := ⟨_, rfl⟩
    have FU : Hid (Fr (fun q => q = r + 1) W U) := by rw [hU]; exact (FV.out.setB _ _).drew
    have BU : Hid (U.heap[r + 1]? = some (.cells #[.bool u, .int .i64 a, .int .i64 0] 46 (0, 0))) := by show _ = _; rw [hU]; exact heap_set _ BV.out
    have g3 : U.cell? ⟨b, j * 5 + 3, none⟩ = some (.int .i64 x.load) := (FU.out.cell (p := ⟨b, j * 5 + 3, none⟩) hWb (by show ¬ b = r + 1; omega)).trans c3.out
    have v2 : U.cell? ⟨r + 1, 2, none⟩ = some (.int .i64 0) := cell_of_heap BU.out rfl
    have v2z : U.frozen? ⟨r + 1, 2, none⟩ = false := frozen_of_heap BU.out
    rw [← hU]
    clear hU e2 e3 v1 v1z
    go_upto_region 8 with (fail)
    obtain ⟨V2, hV2⟩ : ∃ V2, V2 = U.setCell ⟨r + 1, 2, none⟩ (.int .i64 x.load) := ⟨_, rfl⟩
    have FV2 : Hid (Fr (fun q => q = r + 1) W V2) := by rw [hV2]; exact FU.out.setB _ _
    have BV2 : Hid (V2.heap[r + 1]? = some (.cells #[.bool u, .int .i64 a, .int .i64 x.load] 46 (0, 0))) := by show _ = _; rw [hV2]; exact heap_set _ BU.out
    have BRV2 : Hid (V2.heap[r]? = some (.cells #[.bool false, .int .i64 0, .int .i64 0] 46 (0, 0))) := (FV2.out.block r (lt_of_heap BR.out) (by omega)).trans BR.out
    have FW3 : Hid (Fr (fun q => r ≤ q) w V2) := FW2.out.trans (FV2.out.mono (fun q _ e => by omega))
    rw [← hV2]
    clear hV2 g3 v2 v2z r0 r1 r2 rz0 rz1 rz2
    have o0 : V2.cell? ⟨r + 1, 0, none⟩ = some (.bool u) := cell_of_heap BV2.out rfl
    have o1 : V2.cell? ⟨r + 1, 1, none⟩ = some (.int .i64 a) := cell_of_heap BV2.out rfl
    have o2 : V2.cell? ⟨r + 1, 2, none⟩ = some (.int .i64 x.load) := cell_of_heap BV2.out rfl
    have r0 : V2.cell? ⟨r, 0, none⟩ = some (.bool false) := cell_of_heap BRV2.out rfl
    have r1 : V2.cell? ⟨r, 1, none⟩ = some (.int .i64 0) := cell_of_heap BRV2.out rfl
    have r2 : V2.cell? ⟨r, 2, none⟩ = some (.int .i64 0) := cell_of_heap BRV2.out rfl
    have rz0 : V2.frozen? ⟨r, 0, none⟩ = false := frozen_of_heap BRV2.out
    have rz1 : V2.frozen? ⟨r, 1, none⟩ = false := frozen_of_heap BRV2.out
    have rz2 : V2.frozen? ⟨r, 2, none⟩ = false := frozen_of_heap BRV2.out
    go_wp2_with (fail)
    (try simp only [Exit.inBlock, Exit.then])
    refine bodyPost_ret (v := .agg #[.bool u, .int .i64 a, .int .i64 x.load]) (by simp [results, Try.results47, go_sem, r0, r1, r2]) rfl ?_
    exact ⟨rfl, back_ret FW3.out HR.out⟩
  · have E1 : seeU x = false := by unfold seeU; rw [e]; simp
    have E2 : seeS x = 0 := by unfold seeS; rw [e]; simp
    rw [E1, E2]
    rw [e] at c1
    clear ld e E1 E2
    go_enter Try.func47, Try.ntmps47
    go_upto_region 2 with (fail)
    rw [← hW, ← hr]
    clear hW hr
    go_upto_region 8 with (fail)
    obtain ⟨V, hV⟩ : ∃ V, V = W.setCell ⟨r + 1, 2, none⟩ (.int .i64 x.load) := ⟨_, rfl⟩
    have FV : Hid (Fr (fun q => q = r + 1) W V) := by rw [hV]; exact (Fr.refl _ _).setB _ _
    have BV : Hid (V.heap[r + 1]? = some (.cells #[.bool false, .int .i64 0, .int .i64 x.load] 46 (0, 0))) := by show _ = _; rw [hV]; exact heap_set _ BO.out
    have BRV : Hid (V.heap[r]? = some (.cells #[.bool false, .int .i64 0, .int .i64 0] 46 (0, 0))) := (FV.out.block r (lt_of_heap BR.out) (by omega)).trans BR.out
    have FW3 : Hid (Fr (fun q => r ≤ q) w V) := FW2.out.trans (FV.out.mono (fun q _ e => by omega))
    rw [← hV]
    clear hV c0 c1 c2 c3 o0 o1 o2 oz0 oz1 oz2 r0 r1 r2 rz0 rz1 rz2
    have o0 : V.cell? ⟨r + 1, 0, none⟩ = some (.bool false) := cell_of_heap BV.out rfl
    have o1 : V.cell? ⟨r + 1, 1, none⟩ = some (.int .i64 0) := cell_of_heap BV.out rfl
    have o2 : V.cell? ⟨r + 1, 2, none⟩ = some (.int .i64 x.load) := cell_of_heap BV.out rfl
    have r0 : V.cell? ⟨r, 0, none⟩ = some (.bool false) := cell_of_heap BRV.out rfl
    have r1 : V.cell? ⟨r, 1, none⟩ = some (.int .i64 0) := cell_of_heap BRV.out rfl
    have r2 : V.cell? ⟨r, 2, none⟩ = some (.int .i64 0) := cell_of_heap BRV.out rfl
    have rz0 : V.frozen? ⟨r, 0, none⟩ = false := frozen_of_heap BRV.out
    have rz1 : V.frozen? ⟨r, 1, none⟩ = false := frozen_of_heap BRV.out
    have rz2 : V.frozen? ⟨r, 2, none⟩ = false := frozen_of_heap BRV.out
    go_wp2_with (fail)
    (try simp only [Exit.inBlock, Exit.then])
    refine bodyPost_ret (v := .agg #[.bool false, .int .i64 0, .int .i64 x.load]) (by simp [results, Try.results47, go_sem, r0, r1, r2]) rfl ?_
    exact ⟨rfl, back_ret FW3.out HR.out⟩
end Go.Proofs.Ytoiencoojkahmaa
