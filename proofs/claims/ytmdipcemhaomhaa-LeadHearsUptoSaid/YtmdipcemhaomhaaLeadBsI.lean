/- slices.BinarySearchFunc by a monitor's number. -/
import Derived.Test.YtmdipcemhaomhaaRows
import Derived.Test.YtmdipcemhaomhaaLeadCmp
import Derived.Test.YtmdipcemhaomhaaHeldIn
import Derived.Deep.RegionHeld3
namespace Go.Proofs.Ytmdipcemhaomhaa.crush
open Go.RowKit
open Go.Proofs.Ytmdipcemhaomhaa.kit Go.Proofs.Ytmdipcemhaomhaa.own
set_option linter.unusedVariables false

end Go.Proofs.Ytmdipcemhaomhaa.crush
