/- Contract of huff.rows. -/
import Derived.Test.YtemleghledcclabRows
import Derived.Test.YtemleghledcclabK0
import Derived.Test.YtemleghledcclabA3
import Derived.WalkKit
import Derived.OwnWalk
import Derived.RegionTactic
import Derived.BigQuiet
import Derived.Deep.QuietTactic
import Derived.WalkLawsBesides
namespace Go.Proofs.Ytemleghledcclab
open Go.RowKit
set_option maxRecDepth 100000
set_option maxHeartbeats 4000000

theorem rows_any (w : World) : Calls Try.prog 18 #[] w fun e w' => e = .returned (.slice (some ⟨w.heap.size, 0, none⟩) 21 21) ∧ w' = w.alloc (.cells (rowCells tbl).toArray 55) := by
  go_enter Try.func18, Try.ntmps18
  go_wp2
  go_ret
  exact ⟨rfl, rfl⟩

end Go.Proofs.Ytemleghledcclab
