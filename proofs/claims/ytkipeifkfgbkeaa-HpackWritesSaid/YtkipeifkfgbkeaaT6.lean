/- awake. -/
import Derived.Test.YtkipeifkfgbkeaaT5
namespace Go.Proofs.Ytkipeifkfgbkeaa
open Go.RowKit
set_option maxRecDepth 100000
set_option maxHeartbeats 4000000
set_option linter.unusedVariables false

end Go.Proofs.Ytkipeifkfgbkeaa
