/- A drawn region at the head of a body that ranges over a function: its walk never panics. -/
import Derived.Test.YtalnmbfmfeaohaaGreatRows
import Derived.Test.YtalnmbfmfeaohaaGreatFlightFirst
import Derived.Shelf.RegionOpen
namespace Go.Proofs.YtalnmbfmfeaohaaGreat.flight
open Go.RowKit
open Go.Proofs.YtalnmbfmfeaohaaGreat.kit Go.Proofs.YtalnmbfmfeaohaaGreat.own Go.Proofs.YtalnmbfmfeaohaaGreat.iter
set_option linter.unusedVariables false

/-- What a region's walk has to show where it never panics. -/
def Calm (Q : Exit → Act → World → Prop) : Exit → Act → World → Prop
  | .normal, a, w => Q .normal a w
  | _, _, _ => False
theorem wpIn_calm {F : Fence} {n : Nat} {P : Program} {c : Code} {Q : Exit → Act → World → Prop} {a : Act} {w : World} (h : c.wpIn F n P (Calm Q) a w) : c.wpIn F n P Q a w := by
  refine Code.wpIn_mono (fun e a w h => ?_) h
  cases e <;> first | exact h | exact h.elim

end Go.Proofs.YtalnmbfmfeaohaaGreat.flight
