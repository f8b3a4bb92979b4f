/- Contracts of the program's small questions on frames. -/
import Derived.Test.YtpjbgjgaigkbcaaGreatFb
namespace Go.Proofs.YtpjbgjgaigkbcaaGreat
open Go.RowKit
set_option linter.unusedVariables false
set_option maxRecDepth 100000
set_option maxHeartbeats 4000000

theorem placed_in (f : Fra) (p q : Option Addr) (cp cq : Nat) (w : World) : Calls Tryz.prog 45 #[.agg #[.int .i64 f.k, .int .i64 f.fl, .int .i64 f.st, .slice p f.X.length cp, .int .i64 f.pad, .int .u32 f.code, .int .i64 f.last, .int .i64 f.inc, .int .i64 f.dep, .bool f.only, .int .i64 f.wt, .slice q f.Y.length cq]] w fun e w' => e = .returned (.bool (placedB f.k f.st)) ∧ Fr (fun _ => False) w w' := by
  have hg : Fr (fun _ => False) w (w.alloc (.cells #[.int .i64 f.k, .int .i64 f.fl, .int .i64 f.st, .slice p f.X.length cp, .int .i64 f.pad, .int .u32 f.code, .int .i64 f.last, .int .i64 f.inc, .int .i64 f.dep, .bool f.only, .int .i64 f.wt, .slice q f.Y.length cq] 66)) := (Fr.refl _ _).alloc _
  rcases kinds f.k with h | h | h | h | h | h | h | h | h | h | ⟨n0, n1, n2, n3, n4, n5, n6, n7, n8, n9⟩
  all_goals
    first
      | (have hd : placedB f.k f.st = true := by simp [placedB, *]; done)
      | (have hd : placedB f.k f.st = (f.st == 0) := by rw [Bool.eq_iff_iff]; simp [placedB, *]; done)
      | (have hd : placedB f.k f.st = (f.st != 0) := by rw [Bool.eq_iff_iff]; simp [placedB, *]; done)
    go_enter Tryz.func45, Tryz.ntmps45
    go_wp2
    go_ret
    exact ⟨by first | rfl | (rw [hd]; rfl), (Fr.refl _ _).alloc _⟩

end Go.Proofs.YtpjbgjgaigkbcaaGreat
