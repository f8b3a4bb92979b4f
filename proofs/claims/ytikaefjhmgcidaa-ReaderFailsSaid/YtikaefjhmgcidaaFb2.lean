/- Contracts of the program's small questions on frames. -/
import Derived.Test.YtikaefjhmgcidaaFb
namespace Go.Proofs.Ytikaefjhmgcidaa
open Go.RowKit
set_option linter.unusedVariables false
set_option maxRecDepth 100000
set_option maxHeartbeats 4000000

end Go.Proofs.Ytikaefjhmgcidaa
