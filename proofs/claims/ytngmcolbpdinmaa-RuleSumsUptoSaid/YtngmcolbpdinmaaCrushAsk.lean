/- What is asked, one after another. -/
import Derived.Test.YtngmcolbpdinmaaRows
import Derived.Test.YtngmcolbpdinmaaCrushRef
namespace Go.Proofs.Ytngmcolbpdinmaa.crush
open Go.RowKit
open Go.Proofs.Ytngmcolbpdinmaa.kit Go.Proofs.Ytngmcolbpdinmaa.own Go.Proofs.Ytngmcolbpdinmaa.iter Go.Proofs.Ytngmcolbpdinmaa.heldin
set_option linter.unusedVariables false
attribute [local go_sem] Oper.semAt_some

/-- How many x are gone over. -/
def askN (n : Int) : Nat := (min n 100000).toNat

end Go.Proofs.Ytngmcolbpdinmaa.crush
