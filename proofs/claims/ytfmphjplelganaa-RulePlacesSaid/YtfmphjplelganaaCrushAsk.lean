/- What is asked, one after another. -/
import Derived.Test.YtfmphjplelganaaRows
import Derived.Test.YtfmphjplelganaaCrushRef
namespace Go.Proofs.Ytfmphjplelganaa.crush
open Go.RowKit
open Go.Proofs.Ytfmphjplelganaa.kit Go.Proofs.Ytfmphjplelganaa.own Go.Proofs.Ytfmphjplelganaa.iter Go.Proofs.Ytfmphjplelganaa.heldin
set_option linter.unusedVariables false
attribute [local go_sem] Oper.semAt_some

/-- How many x are gone over. -/
def askN (n : Int) : Nat := (min n 100000).toNat

end Go.Proofs.Ytfmphjplelganaa.crush
