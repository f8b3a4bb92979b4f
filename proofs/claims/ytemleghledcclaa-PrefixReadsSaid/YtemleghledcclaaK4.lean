/- Contracts of huff.Code and awake. -/
import Derived.Test.YtemleghledcclaaK3
namespace Go.Proofs.Ytemleghledcclaa
open Go.RowKit
set_option maxRecDepth 100000
set_option maxHeartbeats 4000000
set_option linter.unusedVariables false

theorem Fr.old {w w' : World} (h : Fr (fun k => w.heap.size ≤ k) w w') : Fr (fun _ => False) w w' := h.mono (fun k hk hs => by omega)

theorem index_codes (A : Array Value) (s : Nat) (p : Nat × Nat) (hs : s < 257) (hsz : A.size = 514) (g0 : A[s * 2]? = some (.int .u32 (p.1 : Int))) (g1 : A[s * 2 + 1]? = some (.int .i64 (p.2 : Int))) :
    ∀ w : World, (Instr.index 52 (.agg A) (.int .i64 s)).run Try.prog w = .ok (.agg #[.int .u32 (p.1 : Int), .int .i64 (p.2 : Int)]) w := by
  intro w
  have h1 : (s : Int) < 257 := by omega
  have hx : A.extract (s * 2) (s * 2 + 2) = #[.int .u32 (p.1 : Int), .int .i64 (p.2 : Int)] := by
    apply Array.ext_getElem?
    intro i
    match i with
    | 0 => simp [Array.getElem?_extract, g0, hsz]; omega
    | 1 => simp [Array.getElem?_extract, g1, hsz]; omega
    | i + 2 => simp [Array.getElem?_extract]; omega
  simp [Instr.index, Sem.run_bind, asIntOf, Result.andThen, go_sem, part]
  rw [if_pos hs, hx]

theorem code_bad (s : Int) (w : World) (h : s < 0 ∨ 256 < s) : Calls Try.prog 26 #[.int .i64 s] w fun e w' => e = .returned (.tuple #[.int .u32 0, .int .i64 0, .int .i64 1]) ∧ Fr (fun _ => False) w w' := by
  by_cases h1 : s < 0
  · clear h
    go_enter Try.func26, Try.ntmps26
    go_wp2_with (fail)
    go_ret3
    exact ⟨rfl, Fr.refl _ _⟩
  · have h2 : 256 < s := by omega
    clear h
    go_enter Try.func26, Try.ntmps26
    go_wp2_with (fail)
    go_ret3
    exact ⟨rfl, Fr.refl _ _⟩

theorem code_ok (s : Nat) (w : World) (h : s ≤ 256) : Calls Try.prog 26 #[.int .i64 s] w fun e w' => e = .returned (.tuple #[.int .u32 (codeOf s).1, .int .i64 (codeOf s).2, .int .i64 0]) ∧ Fr (fun _ => False) w w' := by
  have h1 : ¬ (s : Int) < 0 := by omega
  have h2 : ¬ (256 : Int) < s := by omega
  have hsz : (cellsP fin).toArray.size = 514 := by rw [List.size_toArray, cellsP_len, fin_len]
  obtain ⟨p, hp⟩ : ∃ p, codeOf s = p := ⟨_, rfl⟩
  rw [hp]
  have hg := cellsP_get fin s p (by rw [← hp]; simp [codeOf, fin_len, show s < 257 by omega])
  rw [← List.getElem?_toArray, ← List.getElem?_toArray] at hg
  generalize hA : (cellsP fin).toArray = A at *
  obtain ⟨g0, g1⟩ := hg
  have hix := index_codes A s p (by omega) hsz g0 g1
  clear hp g0 g1 hsz
  go_enter Try.func26, Try.ntmps26
  go_wp2_with (fail)
  refine (codes_any w).mono ?_
  rw [hA]
  rintro e w' ⟨rfl, hf⟩
  have hfr : Hid (Fr (fun _ => False) w w') := hf.old
  clear hf
  go_wp2_with (fail)
  go_quiet (fail)
  go_wp2_with (fail)
  go_ret3
  exact ⟨rfl, ((hfr.out.alloc _)).drewN _⟩

theorem code_end : codeOf 256 = (1073741823, 30) := by decide +kernel

theorem awake_any (w : World) : Calls Try.prog 12 #[] w fun e w' => e = .returned (.bool true) ∧ Fr (fun _ => False) w w' := by
  go_enter Try.func12, Try.ntmps12
  go_wp2_with (fail)
  refine (code_ok 256 w (by omega)).mono ?_
  rw [code_end]
  rintro e w' ⟨rfl, hf⟩
  have hfr : Hid (Fr (fun _ => False) w w') := hf
  clear hf
  go_wp2_with (fail)
  try go_quiet (fail)
  go_wp2_with (fail)
  go_ret
  exact ⟨rfl, by first | exact hfr.out | exact hfr.out.drewN _ | exact hfr.out.drew⟩

end Go.Proofs.Ytemleghledcclaa
