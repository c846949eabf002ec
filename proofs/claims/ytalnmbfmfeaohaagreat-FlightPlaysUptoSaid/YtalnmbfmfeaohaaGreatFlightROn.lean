/- The document's On. -/
import Derived.Test.YtalnmbfmfeaohaaGreatRows
import Derived.Test.YtalnmbfmfeaohaaGreatFlightPick
import Derived.Test.YtalnmbfmfeaohaaGreatFlightSame
namespace Go.Proofs.YtalnmbfmfeaohaaGreat.flight
open Go.RowKit
open Go.Proofs.YtalnmbfmfeaohaaGreat.kit Go.Proofs.YtalnmbfmfeaohaaGreat.own
set_option linter.unusedVariables false

/-- The numbers of the frames on a way. -/
def onE (y : Wy) (xs : List Frm) : List Int := (xs.filter (onWay y)).map Frm.num
theorem onE_len (y : Wy) (xs : List Frm) : (onE y xs).length ≤ xs.length := by
  unfold onE
  rw [List.length_map]
  exact List.length_filter_le ..
theorem onE_yes (a b : Int) (xs : List Frm) (x : Frm) (h1 : x.src = a) (h2 : x.dst = b) : onE (a, b) (xs ++ [x]) = onE (a, b) xs ++ [x.num] := by
  unfold onE
  rw [List.filter_append, List.map_append]
  have : onWay (a, b) x = true := by simp [onWay, h1, h2]
  simp [this]
theorem onE_no (a b : Int) (xs : List Frm) (x : Frm) (h : ¬ (x.src = a ∧ x.dst = b)) : onE (a, b) (xs ++ [x]) = onE (a, b) xs := by
  unfold onE
  rw [List.filter_append, List.map_append]
  have : onWay (a, b) x = false := by simpa [onWay] using h
  simp [this]
theorem infoI64 : (Tryz.prog.info? 2).map (fun i => (i.zero, i.size, i.bytes)) = some (some (.int .i64 0), 1, 8) := by kernel_rfl
/-- A row of numbers is handed back. -/
def NumS (w : World) (ns : List Int) (e : Ending) (w' : World) : Prop := ∃ v, e = .returned v ∧ Own ic 1 2 w' w.heap.size v ns ∧ Below w.heap.size w w'

end Go.Proofs.YtalnmbfmfeaohaaGreat.flight
