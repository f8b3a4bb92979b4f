/- Contracts of the document's readers (aqueductref02.number). -/
import Derived.Test.YtpjbgjgaigkbcaaGreatFU1
namespace Go.Proofs.YtpjbgjgaigkbcaaGreat
open Go.RowKit
set_option linter.unusedVariables false

end Go.Proofs.YtpjbgjgaigkbcaaGreat
