/- 'read' over the parts of a key. -/
import Derived.Test.YtlghbfgkhdnaoaaRows
import Derived.Test.YtlghbfgkhdnaoaaCodeReadL
import Derived.Test.YtlghbfgkhdnaoaaCodeRPickP
import Derived.Shelf.Abstract
namespace Go.Proofs.Ytlghbfgkhdnaoaa.code
open Go.RowKit
open Go.Proofs.Ytlghbfgkhdnaoaa.kit Go.Proofs.Ytlghbfgkhdnaoaa.cm Go.Proofs.Ytlghbfgkhdnaoaa.iter
set_option linter.unusedVariables false
attribute [local go_sem] Oper.semAt_some

end Go.Proofs.Ytlghbfgkhdnaoaa.code
