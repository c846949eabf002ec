/- slices.Insert of numbers. -/
import Derived.Test.YtmdipcemhaomhaaRows
import Derived.Test.YtmdipcemhaomhaaLeadBase
import Derived.Test.YtmdipcemhaomhaaLeadFar
import Derived.Shelf.Spec.SlicesInsert
import Derived.Lib.AppendZerosOnto
import Derived.Laws.NewBlocks
namespace Go.Proofs.Ytmdipcemhaomhaa.crush
open Go.RowKit
open Go.Proofs.Ytmdipcemhaomhaa.kit Go.Proofs.Ytmdipcemhaomhaa.own
set_option linter.unusedVariables false

/-- A ban more. -/
def InsOI (B : Nat → Prop) (xs : List Int) (w : World) (e : Ending) (w' : World) : Prop := ∃ v, e = .returned v ∧ OwnP ic 1 3 w' B v xs ∧ Kept 0 3 w w' ∧ Far B w w'

end Go.Proofs.Ytmdipcemhaomhaa.crush
