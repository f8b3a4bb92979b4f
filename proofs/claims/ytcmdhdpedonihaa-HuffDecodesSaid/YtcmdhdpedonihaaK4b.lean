/- Contracts of huff.Code and awake. -/
import Derived.Test.YtcmdhdpedonihaaK4
namespace Go.Proofs.Ytcmdhdpedonihaa
open Go.RowKit
set_option maxRecDepth 100000
set_option maxHeartbeats 4000000
set_option linter.unusedVariables false

theorem code_bad (s : Int) (w : World) (h : s < 0 ∨ 256 < s) : Calls Try.prog 13 #[.int .i64 s] w fun e w' => e = .returned (.tuple #[.int .u32 0, .int .i64 0, .int .i64 1]) ∧ Fr (fun _ => False) w w' := by
  by_cases h1 : s < 0
  · clear h
    go_enter Try.func13, Try.ntmps13
    go_wp2_with (fail)
    go_ret3
    exact ⟨rfl, Fr.refl _ _⟩
  · have h2 : 256 < s := by omega
    clear h
    go_enter Try.func13, Try.ntmps13
    go_wp2_with (fail)
    go_ret3
    exact ⟨rfl, Fr.refl _ _⟩

theorem code_ok (s : Nat) (w : World) (h : s ≤ 256) : Calls Try.prog 13 #[.int .i64 s] w fun e w' => e = .returned (.tuple #[.int .u32 (codeOf s).1, .int .i64 (codeOf s).2, .int .i64 0]) ∧ Fr (fun _ => False) w w' := by
  have h1 : ¬ (s : Int) < 0 := by omega
  have h2 : ¬ (256 : Int) < s := by omega
  have hsz : (cellsP fin).toArray.size = 514 := by rw [List.size_toArray, cellsP_len, fin_len]
  obtain ⟨p, hp⟩ : ∃ p, codeOf s = p := ⟨_, rfl⟩
  rw [hp]
  have hg := cellsP_get fin s p (by rw [← hp]; simp [codeOf, fin_len, show s < 257 by omega])
  rw [← List.getElem?_toArray, ← List.getElem?_toArray] at hg
  generalize hA : (cellsP fin).toArray = A at *
  obtain ⟨g0, g1⟩ := hg
  have hix := index_codes A s p (by omega) hsz g0 g1
  clear hp g0 g1 hsz
  go_enter Try.func13, Try.ntmps13
  go_wp2_with (fail)
  refine (codes_any w).mono ?_
  rw [hA]
  rintro e w' ⟨rfl, hf⟩
  have hfr : Hid (Fr (fun _ => False) w w') := hf.old
  clear hf
  go_wp2_with (fail)
  go_quiet (fail)
  go_wp2_with (fail)
  go_ret3
  exact ⟨rfl, ((hfr.out.alloc _)).drewN _⟩

theorem awake_any (w : World) : Calls Try.prog 6 #[] w fun e w' => e = .returned (.bool true) ∧ Fr (fun _ => False) w w' := by
  go_enter Try.func6, Try.ntmps6
  go_wp2_with (fail)
  refine (code_ok 256 w (by omega)).mono ?_
  rw [code_end]
  rintro e w' ⟨rfl, hf⟩
  have hfr : Hid (Fr (fun _ => False) w w') := hf
  clear hf
  go_wp2_with (fail)
  try go_quiet (fail)
  go_wp2_with (fail)
  go_ret
  exact ⟨rfl, by first | exact hfr.out | exact hfr.out.drewN _ | exact hfr.out.drew⟩

end Go.Proofs.Ytcmdhdpedonihaa
