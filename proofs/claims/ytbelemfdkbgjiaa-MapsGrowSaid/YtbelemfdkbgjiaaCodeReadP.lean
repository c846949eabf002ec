/- 'read' over the parts of a key. -/
import Derived.Test.YtbelemfdkbgjiaaRows
import Derived.Test.YtbelemfdkbgjiaaCodeReadL
import Derived.Test.YtbelemfdkbgjiaaCodeRPickP
import Derived.Shelf.Abstract
namespace Go.Proofs.Ytbelemfdkbgjiaa.code
open Go.RowKit
open Go.Proofs.Ytbelemfdkbgjiaa.kit Go.Proofs.Ytbelemfdkbgjiaa.cm Go.Proofs.Ytbelemfdkbgjiaa.iter
set_option linter.unusedVariables false
attribute [local go_sem] Oper.semAt_some

end Go.Proofs.Ytbelemfdkbgjiaa.code
