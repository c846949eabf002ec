/-
  No cell of these rows narrows 'for every input' (looked for: loops, veiled, ifaces, maps, wideKeys, modest, calm, conditions, laid).
  DERIVED. THE GIVEN ROWS OF THIS SEAT. 9 by the template 'for every input the law returns true; each argument reads behind the call as it read before'; 0 by the template 'total and deterministic' (their statements: YtoeklnmmnmmjeaaGreatTotals.lean).
  GIVEN WITH THE SEED: the statements are not yours to turn. If you find one false, say at which input.
  Laid BY PROGRAM, IN A SANDBOX (cutbox-rows.mjs): the forced cells as the released guide's own fill.sh prints them over the translation 69d3bd6f5c697834… (all of the seat's roots in one cut). By AI agents, Wed Nov 11 2026. No macro, syntax, notation, axiom, sorry.
-/
import Derived.Test.YtoeklnmmnmmjeaaGreatChecked
import GoSem.Claim
import GoSem.ClaimJoined
import GoSem.ClaimMapViews
import Derived.JoinedTies
import Derived.KernelRfl
namespace Go.Proofs.YtoeklnmmnmmjeaaGreat
/- THE CELL 'sum', in the pinned program and in every row, IS THE sha256 OF THE DUMP (.gsa) THAT YtoeklnmmnmmjeaaGreatProg.lean LOADS. Nothing in Lean hashes anything: it is a label: what it is worth is what the hold of that sum in a sandbox is worth. -/
noncomputable def Tryz.pinned : Pinned := { name := "ytoeklnmmnmmjeaagreat", sum := "69d3bd6f5c6978343179240657690de6042f61be9811300713e8f021b44f2d66", checked := Tryz.checked }
namespace Rows
def none {H : Type} : Left H := { results := [], args := [] }

/-- 'reeflaw13.MapsFits': WHATEVER THE INPUT: true; the input reads as it did. -/
def mapsFitsSpec : ChangeSpec := { name := "mapsFits", fn := fun _ => fun
  | [d1, d2, d3, d4] => { results := [.lit (.bool true)], args := [d1, d2, d3, d4] }
  | _ => none }
def mapsFitsRow : OpenClaim := { program := "ytoeklnmmnmmjeaagreat", sum := "69d3bd6f5c6978343179240657690de6042f61be9811300713e8f021b44f2d66", func := "reef/reeflaw13.MapsFits", spec := "mapsFits", inPlace := ["slices.overlaps[reef/api.Ban]"], unfollowed := true, recurses := true, apart := false }
def MapsFitsSaid : Prop := mapsFitsRow.holds Tryz.pinned (OpenSpec.ofChange mapsFitsSpec)

/-- ITS FALSE NEIGHBOUR: 'it returns false'. Refute it at one input. -/
def mapsFitsWrong : ChangeSpec := { name := "mapsFits", fn := fun _ => fun
  | [d1, d2, d3, d4] => { results := [.lit (.bool false)], args := [d1, d2, d3, d4] }
  | _ => none }
def MapsFitsWrongFalsely : Prop := mapsFitsRow.holds Tryz.pinned (OpenSpec.ofChange mapsFitsWrong)

/-- 'reeflaw13.MapsHistories': WHATEVER THE INPUT: true; the input reads as it did. -/
def mapsHistoriesSpec : ChangeSpec := { name := "mapsHistories", fn := fun _ => fun
  | [d1, d2] => { results := [.lit (.bool true)], args := [d1, d2] }
  | _ => none }
def mapsHistoriesRow : OpenClaim := { program := "ytoeklnmmnmmjeaagreat", sum := "69d3bd6f5c6978343179240657690de6042f61be9811300713e8f021b44f2d66", func := "reef/reeflaw13.MapsHistories", spec := "mapsHistories", inPlace := ["slices.overlaps[reef/api.Ban]"], unfollowed := true, recurses := true, apart := false }
def MapsHistoriesSaid : Prop := mapsHistoriesRow.holds Tryz.pinned (OpenSpec.ofChange mapsHistoriesSpec)

/-- ITS FALSE NEIGHBOUR: 'it returns false'. Refute it at one input. -/
def mapsHistoriesWrong : ChangeSpec := { name := "mapsHistories", fn := fun _ => fun
  | [d1, d2] => { results := [.lit (.bool false)], args := [d1, d2] }
  | _ => none }
def MapsHistoriesWrongFalsely : Prop := mapsHistoriesRow.holds Tryz.pinned (OpenSpec.ofChange mapsHistoriesWrong)

/-- 'reeflaw14.PastActs': WHATEVER THE INPUT: true; the input reads as it did. -/
def pastActsSpec : ChangeSpec := { name := "pastActs", fn := fun _ => fun
  | [d1, d2] => { results := [.lit (.bool true)], args := [d1, d2] }
  | _ => none }
def pastActsRow : OpenClaim := { program := "ytoeklnmmnmmjeaagreat", sum := "69d3bd6f5c6978343179240657690de6042f61be9811300713e8f021b44f2d66", func := "reef/reeflaw14.PastActs", spec := "pastActs", inPlace := ["slices.overlaps[reef/api.Ban]"], unfollowed := true, recurses := true, apart := false }
def PastActsSaid : Prop := pastActsRow.holds Tryz.pinned (OpenSpec.ofChange pastActsSpec)

/-- ITS FALSE NEIGHBOUR: 'it returns false'. Refute it at one input. -/
def pastActsWrong : ChangeSpec := { name := "pastActs", fn := fun _ => fun
  | [d1, d2] => { results := [.lit (.bool false)], args := [d1, d2] }
  | _ => none }
def PastActsWrongFalsely : Prop := pastActsRow.holds Tryz.pinned (OpenSpec.ofChange pastActsWrong)

/-- 'reeflaw14.PastLocates': WHATEVER THE INPUT: true; the input reads as it did. -/
def pastLocatesSpec : ChangeSpec := { name := "pastLocates", fn := fun _ => fun
  | [d1, d2, d3] => { results := [.lit (.bool true)], args := [d1, d2, d3] }
  | _ => none }
def pastLocatesRow : OpenClaim := { program := "ytoeklnmmnmmjeaagreat", sum := "69d3bd6f5c6978343179240657690de6042f61be9811300713e8f021b44f2d66", func := "reef/reeflaw14.PastLocates", spec := "pastLocates", inPlace := ["slices.overlaps[reef/api.Ban]"], unfollowed := true, recurses := true, apart := false }
def PastLocatesSaid : Prop := pastLocatesRow.holds Tryz.pinned (OpenSpec.ofChange pastLocatesSpec)

/-- ITS FALSE NEIGHBOUR: 'it returns false'. Refute it at one input. -/
def pastLocatesWrong : ChangeSpec := { name := "pastLocates", fn := fun _ => fun
  | [d1, d2, d3] => { results := [.lit (.bool false)], args := [d1, d2, d3] }
  | _ => none }
def PastLocatesWrongFalsely : Prop := pastLocatesRow.holds Tryz.pinned (OpenSpec.ofChange pastLocatesWrong)

/-- 'reeflaw14.PastIntervals': WHATEVER THE INPUT: true; the input reads as it did. -/
def pastIntervalsSpec : ChangeSpec := { name := "pastIntervals", fn := fun _ => fun
  | [d1, d2, d3] => { results := [.lit (.bool true)], args := [d1, d2, d3] }
  | _ => none }
def pastIntervalsRow : OpenClaim := { program := "ytoeklnmmnmmjeaagreat", sum := "69d3bd6f5c6978343179240657690de6042f61be9811300713e8f021b44f2d66", func := "reef/reeflaw14.PastIntervals", spec := "pastIntervals", inPlace := ["slices.overlaps[reef/api.Ban]"], unfollowed := true, recurses := true, apart := false }
def PastIntervalsSaid : Prop := pastIntervalsRow.holds Tryz.pinned (OpenSpec.ofChange pastIntervalsSpec)

/-- ITS FALSE NEIGHBOUR: 'it returns false'. Refute it at one input. -/
def pastIntervalsWrong : ChangeSpec := { name := "pastIntervals", fn := fun _ => fun
  | [d1, d2, d3] => { results := [.lit (.bool false)], args := [d1, d2, d3] }
  | _ => none }
def PastIntervalsWrongFalsely : Prop := pastIntervalsRow.holds Tryz.pinned (OpenSpec.ofChange pastIntervalsWrong)

/-- 'reeflaw14.PastAsks': WHATEVER THE INPUT: true; the input reads as it did. -/
def pastAsksSpec : ChangeSpec := { name := "pastAsks", fn := fun _ => fun
  | [d1, d2] => { results := [.lit (.bool true)], args := [d1, d2] }
  | _ => none }
def pastAsksRow : OpenClaim := { program := "ytoeklnmmnmmjeaagreat", sum := "69d3bd6f5c6978343179240657690de6042f61be9811300713e8f021b44f2d66", func := "reef/reeflaw14.PastAsks", spec := "pastAsks", inPlace := ["slices.overlaps[reef/api.Ban]"], unfollowed := true, recurses := true, apart := false }
def PastAsksSaid : Prop := pastAsksRow.holds Tryz.pinned (OpenSpec.ofChange pastAsksSpec)

/-- ITS FALSE NEIGHBOUR: 'it returns false'. Refute it at one input. -/
def pastAsksWrong : ChangeSpec := { name := "pastAsks", fn := fun _ => fun
  | [d1, d2] => { results := [.lit (.bool false)], args := [d1, d2] }
  | _ => none }
def PastAsksWrongFalsely : Prop := pastAsksRow.holds Tryz.pinned (OpenSpec.ofChange pastAsksWrong)

/-- 'reeflaw14.PastRows': WHATEVER THE INPUT: true; the input reads as it did. -/
def pastRowsSpec : ChangeSpec := { name := "pastRows", fn := fun _ => fun
  | [d1, d2, d3] => { results := [.lit (.bool true)], args := [d1, d2, d3] }
  | _ => none }
def pastRowsRow : OpenClaim := { program := "ytoeklnmmnmmjeaagreat", sum := "69d3bd6f5c6978343179240657690de6042f61be9811300713e8f021b44f2d66", func := "reef/reeflaw14.PastRows", spec := "pastRows", inPlace := ["slices.overlaps[reef/api.Ban]"], unfollowed := true, recurses := true, apart := false }
def PastRowsSaid : Prop := pastRowsRow.holds Tryz.pinned (OpenSpec.ofChange pastRowsSpec)

/-- ITS FALSE NEIGHBOUR: 'it returns false'. Refute it at one input. -/
def pastRowsWrong : ChangeSpec := { name := "pastRows", fn := fun _ => fun
  | [d1, d2, d3] => { results := [.lit (.bool false)], args := [d1, d2, d3] }
  | _ => none }
def PastRowsWrongFalsely : Prop := pastRowsRow.holds Tryz.pinned (OpenSpec.ofChange pastRowsWrong)

/-- 'reeflaw14.PastParts': WHATEVER THE INPUT: true; the input reads as it did. -/
def pastPartsSpec : ChangeSpec := { name := "pastParts", fn := fun _ => fun
  | [d1, d2] => { results := [.lit (.bool true)], args := [d1, d2] }
  | _ => none }
def pastPartsRow : OpenClaim := { program := "ytoeklnmmnmmjeaagreat", sum := "69d3bd6f5c6978343179240657690de6042f61be9811300713e8f021b44f2d66", func := "reef/reeflaw14.PastParts", spec := "pastParts", inPlace := ["slices.overlaps[reef/api.Ban]"], unfollowed := true, recurses := true, apart := false }
def PastPartsSaid : Prop := pastPartsRow.holds Tryz.pinned (OpenSpec.ofChange pastPartsSpec)

/-- ITS FALSE NEIGHBOUR: 'it returns false'. Refute it at one input. -/
def pastPartsWrong : ChangeSpec := { name := "pastParts", fn := fun _ => fun
  | [d1, d2] => { results := [.lit (.bool false)], args := [d1, d2] }
  | _ => none }
def PastPartsWrongFalsely : Prop := pastPartsRow.holds Tryz.pinned (OpenSpec.ofChange pastPartsWrong)

/-- 'reeflaw14.PastStays': WHATEVER THE INPUT: true; the input reads as it did. -/
def pastStaysSpec : ChangeSpec := { name := "pastStays", fn := fun _ => fun
  | [d1, d2, d3, d4, d5] => { results := [.lit (.bool true)], args := [d1, d2, d3, d4, d5] }
  | _ => none }
def pastStaysRow : OpenClaim := { program := "ytoeklnmmnmmjeaagreat", sum := "69d3bd6f5c6978343179240657690de6042f61be9811300713e8f021b44f2d66", func := "reef/reeflaw14.PastStays", spec := "pastStays", inPlace := ["slices.overlaps[reef/api.Ban]"], unfollowed := true, recurses := true, apart := false }
def PastStaysSaid : Prop := pastStaysRow.holds Tryz.pinned (OpenSpec.ofChange pastStaysSpec)

/-- ITS FALSE NEIGHBOUR: 'it returns false'. Refute it at one input. -/
def pastStaysWrong : ChangeSpec := { name := "pastStays", fn := fun _ => fun
  | [d1, d2, d3, d4, d5] => { results := [.lit (.bool false)], args := [d1, d2, d3, d4, d5] }
  | _ => none }
def PastStaysWrongFalsely : Prop := pastStaysRow.holds Tryz.pinned (OpenSpec.ofChange pastStaysWrong)

/- THE SECOND FORM. 'bulk': how many values and letters a reading holds, each counted each time it is reached (what is shared counts as often as it is met; a slice's spare places count too). A statement '..UptoSaid' is the law's where the arguments, and the package variables that the reading takes, are together of bulk at most 1048576: NARROWER than '..Said'. Prove '..Said' where nothing that the law and all that it calls make is longer than what came in: it says more and counts as full. Else prove '..UptoSaid'. A law counts once. -/
mutual
def uptoBulk {H : Type} : DataW H → Nat
  | .lit (.string bytes) => bytes.length + 1
  | .lit _ => 1
  | .nil => 1
  | .ptr d => uptoBulk d + 1
  | .slice elems spare => uptoBulkAll elems + uptoBulkAll spare + 1
  | .agg parts => uptoBulkAll parts + 1
  | .iface _ d => uptoBulk d + 1
  | .map entries => uptoBulkEntries entries + 1
  | .held _ => 1
def uptoBulkAll {H : Type} : List (DataW H) → Nat
  | [] => 0
  | d :: r => uptoBulk d + uptoBulkAll r
def uptoBulkEntries {H : Type} : List (Lit × DataW H) → Nat
  | [] => 0
  | x :: r => uptoBulkEntry x + uptoBulkEntries r
def uptoBulkEntry {H : Type} : Lit × DataW H → Nat
  | (.string bytes, d) => bytes.length + uptoBulk d + 1
  | (_, d) => uptoBulk d + 1
 end
def uptoSmall : (H : Type) → List (DataW H) → Bool := fun _ ds => decide (uptoBulkAll ds ≤ 1048576)
def OpenSpec.upto (s : _root_.Go.ChangeSpec) : _root_.Go.OpenSpec := { _root_.Go.OpenSpec.ofChange s with cond := some uptoSmall }

/-- 'reeflaw13.MapsFits', WHERE WHAT IT READS IS OF BULK AT MOST 1048576: true; the input reads as it did. -/
def mapsFitsUptoRow : OpenClaim := { program := "ytoeklnmmnmmjeaagreat", sum := "69d3bd6f5c6978343179240657690de6042f61be9811300713e8f021b44f2d66", func := "reef/reeflaw13.MapsFits", spec := "mapsFits", inPlace := ["slices.overlaps[reef/api.Ban]"], unfollowed := true, recurses := true, apart := false, narrowed := true }
def MapsFitsUptoSaid : Prop := mapsFitsUptoRow.holds Tryz.pinned (OpenSpec.upto mapsFitsSpec)

/-- 'reeflaw13.MapsHistories', WHERE WHAT IT READS IS OF BULK AT MOST 1048576: true; the input reads as it did. -/
def mapsHistoriesUptoRow : OpenClaim := { program := "ytoeklnmmnmmjeaagreat", sum := "69d3bd6f5c6978343179240657690de6042f61be9811300713e8f021b44f2d66", func := "reef/reeflaw13.MapsHistories", spec := "mapsHistories", inPlace := ["slices.overlaps[reef/api.Ban]"], unfollowed := true, recurses := true, apart := false, narrowed := true }
def MapsHistoriesUptoSaid : Prop := mapsHistoriesUptoRow.holds Tryz.pinned (OpenSpec.upto mapsHistoriesSpec)

/-- 'reeflaw14.PastActs', WHERE WHAT IT READS IS OF BULK AT MOST 1048576: true; the input reads as it did. -/
def pastActsUptoRow : OpenClaim := { program := "ytoeklnmmnmmjeaagreat", sum := "69d3bd6f5c6978343179240657690de6042f61be9811300713e8f021b44f2d66", func := "reef/reeflaw14.PastActs", spec := "pastActs", inPlace := ["slices.overlaps[reef/api.Ban]"], unfollowed := true, recurses := true, apart := false, narrowed := true }
def PastActsUptoSaid : Prop := pastActsUptoRow.holds Tryz.pinned (OpenSpec.upto pastActsSpec)

/-- 'reeflaw14.PastLocates', WHERE WHAT IT READS IS OF BULK AT MOST 1048576: true; the input reads as it did. -/
def pastLocatesUptoRow : OpenClaim := { program := "ytoeklnmmnmmjeaagreat", sum := "69d3bd6f5c6978343179240657690de6042f61be9811300713e8f021b44f2d66", func := "reef/reeflaw14.PastLocates", spec := "pastLocates", inPlace := ["slices.overlaps[reef/api.Ban]"], unfollowed := true, recurses := true, apart := false, narrowed := true }
def PastLocatesUptoSaid : Prop := pastLocatesUptoRow.holds Tryz.pinned (OpenSpec.upto pastLocatesSpec)

/-- 'reeflaw14.PastIntervals', WHERE WHAT IT READS IS OF BULK AT MOST 1048576: true; the input reads as it did. -/
def pastIntervalsUptoRow : OpenClaim := { program := "ytoeklnmmnmmjeaagreat", sum := "69d3bd6f5c6978343179240657690de6042f61be9811300713e8f021b44f2d66", func := "reef/reeflaw14.PastIntervals", spec := "pastIntervals", inPlace := ["slices.overlaps[reef/api.Ban]"], unfollowed := true, recurses := true, apart := false, narrowed := true }
def PastIntervalsUptoSaid : Prop := pastIntervalsUptoRow.holds Tryz.pinned (OpenSpec.upto pastIntervalsSpec)

/-- 'reeflaw14.PastAsks', WHERE WHAT IT READS IS OF BULK AT MOST 1048576: true; the input reads as it did. -/
def pastAsksUptoRow : OpenClaim := { program := "ytoeklnmmnmmjeaagreat", sum := "69d3bd6f5c6978343179240657690de6042f61be9811300713e8f021b44f2d66", func := "reef/reeflaw14.PastAsks", spec := "pastAsks", inPlace := ["slices.overlaps[reef/api.Ban]"], unfollowed := true, recurses := true, apart := false, narrowed := true }
def PastAsksUptoSaid : Prop := pastAsksUptoRow.holds Tryz.pinned (OpenSpec.upto pastAsksSpec)

/-- 'reeflaw14.PastRows', WHERE WHAT IT READS IS OF BULK AT MOST 1048576: true; the input reads as it did. -/
def pastRowsUptoRow : OpenClaim := { program := "ytoeklnmmnmmjeaagreat", sum := "69d3bd6f5c6978343179240657690de6042f61be9811300713e8f021b44f2d66", func := "reef/reeflaw14.PastRows", spec := "pastRows", inPlace := ["slices.overlaps[reef/api.Ban]"], unfollowed := true, recurses := true, apart := false, narrowed := true }
def PastRowsUptoSaid : Prop := pastRowsUptoRow.holds Tryz.pinned (OpenSpec.upto pastRowsSpec)

/-- 'reeflaw14.PastParts', WHERE WHAT IT READS IS OF BULK AT MOST 1048576: true; the input reads as it did. -/
def pastPartsUptoRow : OpenClaim := { program := "ytoeklnmmnmmjeaagreat", sum := "69d3bd6f5c6978343179240657690de6042f61be9811300713e8f021b44f2d66", func := "reef/reeflaw14.PastParts", spec := "pastParts", inPlace := ["slices.overlaps[reef/api.Ban]"], unfollowed := true, recurses := true, apart := false, narrowed := true }
def PastPartsUptoSaid : Prop := pastPartsUptoRow.holds Tryz.pinned (OpenSpec.upto pastPartsSpec)

/-- 'reeflaw14.PastStays', WHERE WHAT IT READS IS OF BULK AT MOST 1048576: true; the input reads as it did. -/
def pastStaysUptoRow : OpenClaim := { program := "ytoeklnmmnmmjeaagreat", sum := "69d3bd6f5c6978343179240657690de6042f61be9811300713e8f021b44f2d66", func := "reef/reeflaw14.PastStays", spec := "pastStays", inPlace := ["slices.overlaps[reef/api.Ban]"], unfollowed := true, recurses := true, apart := false, narrowed := true }
def PastStaysUptoSaid : Prop := pastStaysUptoRow.holds Tryz.pinned (OpenSpec.upto pastStaysSpec)

end Rows
end Go.Proofs.YtoeklnmmnmmjeaaGreat
