/- The document's own look at a field. -/
import Derived.Test.YtlghbfgkhdnaoaaRows
import Derived.Test.YtlghbfgkhdnaoaaCodeField
import Derived.Test.YtlghbfgkhdnaoaaCodePick
namespace Go.Proofs.Ytlghbfgkhdnaoaa.code
open Go.RowKit
open Go.Proofs.Ytlghbfgkhdnaoaa.kit Go.Proofs.Ytlghbfgkhdnaoaa.cm
set_option linter.unusedVariables false

end Go.Proofs.Ytlghbfgkhdnaoaa.code
