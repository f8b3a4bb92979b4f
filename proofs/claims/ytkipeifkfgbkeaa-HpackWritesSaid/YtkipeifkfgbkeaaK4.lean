/- The codes' cells. -/
import Derived.Test.YtkipeifkfgbkeaaK3
namespace Go.Proofs.Ytkipeifkfgbkeaa
open Go.RowKit
set_option maxRecDepth 100000
set_option maxHeartbeats 4000000
set_option linter.unusedVariables false

theorem Fr.old {w w' : World} (h : Fr (fun k => w.heap.size ≤ k) w w') : Fr (fun _ => False) w w' := h.mono (fun k hk hs => by omega)

theorem index_codes (A : Array Value) (s : Nat) (p : Nat × Nat) (hs : s < 257) (hsz : A.size = 514) (g0 : A[s * 2]? = some (.int .u32 (p.1 : Int))) (g1 : A[s * 2 + 1]? = some (.int .i64 (p.2 : Int))) :
    ∀ w : World, (Instr.index 97 (.agg A) (.int .i64 s)).run Try.prog w = .ok (.agg #[.int .u32 (p.1 : Int), .int .i64 (p.2 : Int)]) w := by
  intro w
  have h1 : (s : Int) < 257 := by omega
  have hx : A.extract (s * 2) (s * 2 + 2) = #[.int .u32 (p.1 : Int), .int .i64 (p.2 : Int)] := by
    apply Array.ext_getElem?
    intro i
    match i with
    | 0 => simp [Array.getElem?_extract, g0, hsz]; omega
    | 1 => simp [Array.getElem?_extract, g1, hsz]; omega
    | i + 2 => simp [Array.getElem?_extract]; omega
  simp [Instr.index, Sem.run_bind, asIntOf, Result.andThen, go_sem, part]
  rw [if_pos hs, hx]

theorem code_end : codeOf 256 = (1073741823, 30) := by decide +kernel

end Go.Proofs.Ytkipeifkfgbkeaa
