/- The document's own look at a field. -/
import Derived.Test.YtbelemfdkbgjiaaRows
import Derived.Test.YtbelemfdkbgjiaaCodeField
import Derived.Test.YtbelemfdkbgjiaaCodePick
namespace Go.Proofs.Ytbelemfdkbgjiaa.code
open Go.RowKit
open Go.Proofs.Ytbelemfdkbgjiaa.kit Go.Proofs.Ytbelemfdkbgjiaa.cm
set_option linter.unusedVariables false

end Go.Proofs.Ytbelemfdkbgjiaa.code
