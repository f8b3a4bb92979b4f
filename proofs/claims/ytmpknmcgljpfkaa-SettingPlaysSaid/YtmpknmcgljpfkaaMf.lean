/- The document's Check; the walk of SettingChecks. -/
import Derived.Test.YtmpknmcgljpfkaaMe
namespace Go.Proofs.Ytmpknmcgljpfkaa
open Go.RowKit Go.Maps
set_option linter.unusedVariables false
set_option maxRecDepth 100000
set_option maxHeartbeats 4000000

theorem rsCheck_in (d : Int) (n : Nat) (w : World) : Calls Try.prog 10 #[.agg #[.int .i64 d, .int .u32 (n : Int)]] w fun e w' => e = .returned (.int .i64 (checkO d n)) ∧ Fr (fun _ => False) w w' := by
  by_cases h2 : d = 2
  · subst h2
    by_cases hn : n ≤ 1
    · have hO : Hid (checkO 2 n = 0) := by show _ = _; simp [checkO, kn, codeO, fitsB, hn]
      go_enter Try.func10, Try.ntmps10
      go_wp2_with (fail)
      go_ret
      exact ⟨by rw [hO.out]; rfl, (Fr.refl _ _).alloc _⟩
    · have hO : Hid (checkO 2 n = 1) := by show _ = _; simp [checkO, kn, codeO, fitsB, hn, badC]
      go_enter Try.func10, Try.ntmps10
      go_wp2_with (fail)
      go_ret
      exact ⟨by rw [hO.out]; rfl, (Fr.refl _ _).alloc _⟩
  by_cases h8 : d = 8
  · subst h8
    clear h2
    by_cases hn : n ≤ 1
    · have hO : Hid (checkO 8 n = 0) := by show _ = _; simp [checkO, kn, codeO, fitsB, hn, firstV]
      go_enter Try.func10, Try.ntmps10
      go_wp2_with (fail)
      go_ret
      exact ⟨by rw [hO.out]; rfl, (Fr.refl _ _).alloc _⟩
    · have hO : Hid (checkO 8 n = 1) := by show _ = _; simp [checkO, kn, codeO, fitsB, hn, badC]
      go_enter Try.func10, Try.ntmps10
      go_wp2_with (fail)
      go_ret
      exact ⟨by rw [hO.out]; rfl, (Fr.refl _ _).alloc _⟩
  by_cases h4 : d = 4
  · subst h4
    clear h2 h8
    by_cases hn : n ≤ 2147483647
    · have hO : Hid (checkO 4 n = 0) := by show _ = _; simp [checkO, kn, codeO, fitsB, hn]
      go_enter Try.func10, Try.ntmps10
      go_wp2_with (fail)
      go_ret
      exact ⟨by rw [hO.out]; rfl, (Fr.refl _ _).alloc _⟩
    · have hO : Hid (checkO 4 n = 3) := by show _ = _; simp [checkO, kn, codeO, fitsB, hn, badC]
      go_enter Try.func10, Try.ntmps10
      go_wp2_with (fail)
      go_ret
      exact ⟨by rw [hO.out]; rfl, (Fr.refl _ _).alloc _⟩
  by_cases h5 : d = 5
  · subst h5
    clear h2 h8 h4
    by_cases hl : n < 16384
    · have hO : Hid (checkO 5 n = 1) := by show _ = _; simp [checkO, kn, codeO, fitsB, badC]; omega
      go_enter Try.func10, Try.ntmps10
      go_wp2_with (fail)
      go_ret
      exact ⟨by rw [hO.out]; rfl, (Fr.refl _ _).alloc _⟩
    by_cases hn : n ≤ 16777215
    · have hO : Hid (checkO 5 n = 0) := by show _ = _; simp [checkO, kn, codeO, fitsB, hn]; omega
      go_enter Try.func10, Try.ntmps10
      go_wp2_with (fail)
      go_ret
      exact ⟨by rw [hO.out]; rfl, (Fr.refl _ _).alloc _⟩
    · have hO : Hid (checkO 5 n = 1) := by show _ = _; simp [checkO, kn, codeO, fitsB, hn, badC]
      go_enter Try.func10, Try.ntmps10
      go_wp2_with (fail)
      go_ret
      exact ⟨by rw [hO.out]; rfl, (Fr.refl _ _).alloc _⟩
  have hO : Hid (checkO d n = 0) := by show _ = _; simp [checkO, codeO, fitsB, h2, h4, h5, h8]
  go_enter Try.func10, Try.ntmps10
  go_wp2_with (fail)
  go_ret
  exact ⟨by rw [hO.out]; rfl, (Fr.refl _ _).alloc _⟩

theorem checks_walk (d : Int) (n : Nat) (w : World) (hi : IsI d) : Calls Try.prog 3 #[.agg #[.int .i64 d, .int .u32 (n : Int)]] w fun e w' => e = .returned (.bool true) ∧ Below w.heap.size w w' := by
  obtain ⟨x, hx⟩ : ∃ x, checkO d n = x := ⟨_, rfl⟩
  have K1 := fun w => sCheck_in d n w hi
  have K2 := fun w => rsCheck_in d n w
  have K3 := fun w => sawake_in w
  rw [hx] at K1 K2
  clear hx
  have H1 : Hid (∀ w, Calls Try.prog 9 #[.agg #[.int .i64 d, .int .u32 (n : Int)]] w fun e w' => e = .returned (.int .i64 x) ∧ Fr (fun _ => False) w w') := K1
  have H2 : Hid (∀ w, Calls Try.prog 10 #[.agg #[.int .i64 d, .int .u32 (n : Int)]] w fun e w' => e = .returned (.int .i64 x) ∧ Fr (fun _ => False) w w') := K2
  have H3 : Hid (∀ w, Calls Try.prog 11 #[] w fun e w' => e = .returned (.bool true) ∧ Fr (fun _ => False) w w') := K3
  clear K1 K2 K3
  obtain ⟨W, hW⟩ : ∃ W, W = w.alloc (.cells #[.int .i64 d, .int .u32 (n : Int)] 24) := ⟨_, rfl⟩
  have HFW : Hid (Fr (fun _ => False) w W) := by rw [hW]; exact (Fr.refl _ _).alloc _
  have HB : Hid (W.heap[w.heap.size]? = some (.cells #[.int .i64 d, .int .u32 (n : Int)] 24 (0, 0))) := by show _ = _; rw [hW]; exact heap_alloc_new w _
  have HKEEP : Hid (∀ w', Fr (fun _ => False) W w' → w'.cell? ⟨w.heap.size, 0, none⟩ = some (.int .i64 d) ∧ w'.cell? ⟨w.heap.size, 1, none⟩ = some (.int .u32 (n : Int))) := fun w' hf => by
    have h := (hf.block _ (lt_of_heap HB.out) id).trans HB.out
    exact ⟨cell_of_heap h rfl, cell_of_heap h rfl⟩
  go_enter Try.func3, Try.ntmps3
  go_upto_region 1 with (fail)
  rw [← hW]
  clear hW
  have F0 : Hid (Fr (fun _ => False) W W.drew) := (Fr.refl _ _).drew
  have k0 := HKEEP.out _ F0.out
  go_region_held_law (fun w2 => w2.cell? ⟨w.heap.size, 0, none⟩ = some (.int .i64 d) ∧ w2.cell? ⟨w.heap.size, 1, none⟩ = some (.int .u32 (n : Int))) (first | exact k3 | exact k2 | exact k1 | exact k0) (first
    | (go_at_call 9; refine (H1.out _).mono ?_; rintro e w1 ⟨rfl, hf1⟩; have F1 : Hid (Fr (fun _ => False) W w1) := F0.out.trans hf1; have k1 := HKEEP.out _ F1.out; clear hf1)
    | (go_at_call 10; refine (H2.out _).mono ?_; rintro e w2 ⟨rfl, hf2⟩; have F2 : Hid (Fr (fun _ => False) W w2) := F1.out.trans hf2; have k2 := HKEEP.out _ F2.out; clear hf2)
    | (go_at_call 11; refine (H3.out _).mono ?_; rintro e w3 ⟨rfl, hf3⟩; have F3 : Hid (Fr (fun _ => False) W w3) := F2.out.trans hf3; have k3 := HKEEP.out _ F3.out; clear hf3))
  all_goals go_wp2_with (fail)
  all_goals go_ret
  all_goals exact ⟨rfl, (HFW.out.trans F3.out).below (fun _ _ => id)⟩
end Go.Proofs.Ytmpknmcgljpfkaa
