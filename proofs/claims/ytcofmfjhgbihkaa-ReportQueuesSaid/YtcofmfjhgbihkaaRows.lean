/-
  No cell of these rows narrows 'for every input' (looked for: loops, veiled, ifaces, maps, wideKeys, modest, calm, conditions, laid).
  DERIVED. THE GIVEN ROWS OF THIS SEAT. 6 by the template 'for every input the law returns true; each argument reads behind the call as it read before'; 0 by the template 'total and deterministic' (their statements: YtcofmfjhgbihkaaTotals.lean).
  GIVEN WITH THE SEED: the statements are not yours to turn. If you find one false, say at which input.
  Laid BY PROGRAM, IN A SANDBOX (cutbox-rows.mjs): the forced cells as the released guide's own fill.sh prints them over the translation b1cb7250d6fce05f… (all of the seat's roots in one cut). By AI agents, Wed Nov 11 2026. No macro, syntax, notation, axiom, sorry.
-/
import Derived.Test.YtcofmfjhgbihkaaChecked
import GoSem.Claim
import GoSem.ClaimJoined
import GoSem.ClaimMapViews
import Derived.JoinedTies
import Derived.KernelRfl
namespace Go.Proofs.Ytcofmfjhgbihkaa
/- THE CELL 'sum', in the pinned program and in every row, IS THE sha256 OF THE DUMP (.gsa) THAT YtcofmfjhgbihkaaProg.lean LOADS. Nothing in Lean hashes anything: it is a label: what it is worth is what the hold of that sum in a sandbox is worth. -/
noncomputable def Try.pinned : Pinned := { name := "ytcofmfjhgbihkaa", sum := "b1cb7250d6fce05f2683569c2e743c91f7ba94d60cc2c146e30d6eaa2bed710b", checked := Try.checked }
namespace Rows
def none {H : Type} : Left H := { results := [], args := [] }

/-- 'reeflaw16.LeadDoes': WHATEVER THE INPUT: true; the input reads as it did. -/
def leadDoesSpec : ChangeSpec := { name := "leadDoes", fn := fun _ => fun
  | [d1, d2, d3, d4, d5] => { results := [.lit (.bool true)], args := [d1, d2, d3, d4, d5] }
  | _ => none }
def leadDoesRow : OpenClaim := { program := "ytcofmfjhgbihkaa", sum := "b1cb7250d6fce05f2683569c2e743c91f7ba94d60cc2c146e30d6eaa2bed710b", func := "reef/reeflaw16.LeadDoes", spec := "leadDoes", inPlace := ["slices.overlaps[reef/api.Promise]", "slices.overlaps[int]"], unfollowed := true, recurses := true, plainKeys := false, apart := false }
def LeadDoesSaid : Prop := leadDoesRow.holds Try.pinned (OpenSpec.ofChange leadDoesSpec)

/-- ITS FALSE NEIGHBOUR: 'it returns false'. Refute it at one input. -/
def leadDoesWrong : ChangeSpec := { name := "leadDoes", fn := fun _ => fun
  | [d1, d2, d3, d4, d5] => { results := [.lit (.bool false)], args := [d1, d2, d3, d4, d5] }
  | _ => none }
def LeadDoesWrongFalsely : Prop := leadDoesRow.holds Try.pinned (OpenSpec.ofChange leadDoesWrong)

/-- 'reeflaw16.LeadAgrees': WHATEVER THE INPUT: true; the input reads as it did. -/
def leadAgreesSpec : ChangeSpec := { name := "leadAgrees", fn := fun _ => fun
  | [d1, d2] => { results := [.lit (.bool true)], args := [d1, d2] }
  | _ => none }
def leadAgreesRow : OpenClaim := { program := "ytcofmfjhgbihkaa", sum := "b1cb7250d6fce05f2683569c2e743c91f7ba94d60cc2c146e30d6eaa2bed710b", func := "reef/reeflaw16.LeadAgrees", spec := "leadAgrees", inPlace := ["slices.overlaps[reef/api.Promise]", "slices.overlaps[int]"], unfollowed := true, recurses := true, plainKeys := false, apart := false }
def LeadAgreesSaid : Prop := leadAgreesRow.holds Try.pinned (OpenSpec.ofChange leadAgreesSpec)

/-- ITS FALSE NEIGHBOUR: 'it returns false'. Refute it at one input. -/
def leadAgreesWrong : ChangeSpec := { name := "leadAgrees", fn := fun _ => fun
  | [d1, d2] => { results := [.lit (.bool false)], args := [d1, d2] }
  | _ => none }
def LeadAgreesWrongFalsely : Prop := leadAgreesRow.holds Try.pinned (OpenSpec.ofChange leadAgreesWrong)

/-- 'reeflaw15.AcceptAgrees': WHATEVER THE INPUT: true; the input reads as it did. -/
def acceptAgreesSpec : ChangeSpec := { name := "acceptAgrees", fn := fun _ => fun
  | [d] => { results := [.lit (.bool true)], args := [d] }
  | _ => none }
def acceptAgreesRow : OpenClaim := { program := "ytcofmfjhgbihkaa", sum := "b1cb7250d6fce05f2683569c2e743c91f7ba94d60cc2c146e30d6eaa2bed710b", func := "reef/reeflaw15.AcceptAgrees", spec := "acceptAgrees", unfollowed := true, recurses := true, plainKeys := false, apart := false }
def AcceptAgreesSaid : Prop := acceptAgreesRow.holds Try.pinned (OpenSpec.ofChange acceptAgreesSpec)

/-- ITS FALSE NEIGHBOUR: 'it returns false'. Refute it at one input. -/
def acceptAgreesWrong : ChangeSpec := { name := "acceptAgrees", fn := fun _ => fun
  | [d] => { results := [.lit (.bool false)], args := [d] }
  | _ => none }
def AcceptAgreesWrongFalsely : Prop := acceptAgreesRow.holds Try.pinned (OpenSpec.ofChange acceptAgreesWrong)

/-- 'reeflaw17.ReportUses': WHATEVER THE INPUT: true; the input reads as it did. -/
def reportUsesSpec : ChangeSpec := { name := "reportUses", fn := fun _ => fun
  | [d1, d2, d3] => { results := [.lit (.bool true)], args := [d1, d2, d3] }
  | _ => none }
def reportUsesRow : OpenClaim := { program := "ytcofmfjhgbihkaa", sum := "b1cb7250d6fce05f2683569c2e743c91f7ba94d60cc2c146e30d6eaa2bed710b", func := "reef/reeflaw17.ReportUses", spec := "reportUses", inPlace := ["slices.overlaps[reef/api.Ban]"], unfollowed := true, recurses := true, plainKeys := false, apart := false }
def ReportUsesSaid : Prop := reportUsesRow.holds Try.pinned (OpenSpec.ofChange reportUsesSpec)

/-- ITS FALSE NEIGHBOUR: 'it returns false'. Refute it at one input. -/
def reportUsesWrong : ChangeSpec := { name := "reportUses", fn := fun _ => fun
  | [d1, d2, d3] => { results := [.lit (.bool false)], args := [d1, d2, d3] }
  | _ => none }
def ReportUsesWrongFalsely : Prop := reportUsesRow.holds Try.pinned (OpenSpec.ofChange reportUsesWrong)

/-- 'reeflaw17.ReportDowns': WHATEVER THE INPUT: true; the input reads as it did. -/
def reportDownsSpec : ChangeSpec := { name := "reportDowns", fn := fun _ => fun
  | [d1, d2, d3] => { results := [.lit (.bool true)], args := [d1, d2, d3] }
  | _ => none }
def reportDownsRow : OpenClaim := { program := "ytcofmfjhgbihkaa", sum := "b1cb7250d6fce05f2683569c2e743c91f7ba94d60cc2c146e30d6eaa2bed710b", func := "reef/reeflaw17.ReportDowns", spec := "reportDowns", inPlace := ["slices.overlaps[reef/api.Ban]"], unfollowed := true, recurses := true, plainKeys := false, apart := false }
def ReportDownsSaid : Prop := reportDownsRow.holds Try.pinned (OpenSpec.ofChange reportDownsSpec)

/-- ITS FALSE NEIGHBOUR: 'it returns false'. Refute it at one input. -/
def reportDownsWrong : ChangeSpec := { name := "reportDowns", fn := fun _ => fun
  | [d1, d2, d3] => { results := [.lit (.bool false)], args := [d1, d2, d3] }
  | _ => none }
def ReportDownsWrongFalsely : Prop := reportDownsRow.holds Try.pinned (OpenSpec.ofChange reportDownsWrong)

/-- 'reeflaw17.ReportQueues': WHATEVER THE INPUT: true; the input reads as it did. -/
def reportQueuesSpec : ChangeSpec := { name := "reportQueues", fn := fun _ => fun
  | [d1, d2] => { results := [.lit (.bool true)], args := [d1, d2] }
  | _ => none }
def reportQueuesRow : OpenClaim := { program := "ytcofmfjhgbihkaa", sum := "b1cb7250d6fce05f2683569c2e743c91f7ba94d60cc2c146e30d6eaa2bed710b", func := "reef/reeflaw17.ReportQueues", spec := "reportQueues", inPlace := ["slices.overlaps[reef/api.Ban]"], unfollowed := true, recurses := true, plainKeys := false, apart := false }
def ReportQueuesSaid : Prop := reportQueuesRow.holds Try.pinned (OpenSpec.ofChange reportQueuesSpec)

/-- ITS FALSE NEIGHBOUR: 'it returns false'. Refute it at one input. -/
def reportQueuesWrong : ChangeSpec := { name := "reportQueues", fn := fun _ => fun
  | [d1, d2] => { results := [.lit (.bool false)], args := [d1, d2] }
  | _ => none }
def ReportQueuesWrongFalsely : Prop := reportQueuesRow.holds Try.pinned (OpenSpec.ofChange reportQueuesWrong)

/- THE SECOND FORM. 'bulk': how many values and letters a reading holds, each counted each time it is reached (what is shared counts as often as it is met; a slice's spare places count too). A statement '..UptoSaid' is the law's where the arguments, and the package variables that the reading takes, are together of bulk at most 1048576: NARROWER than '..Said'. Prove '..Said' where nothing that the law and all that it calls make is longer than what came in: it says more and counts as full. Else prove '..UptoSaid'. A law counts once. -/
mutual
def uptoBulk {H : Type} : DataW H → Nat
  | .lit (.string bytes) => bytes.length + 1
  | .lit _ => 1
  | .nil => 1
  | .ptr d => uptoBulk d + 1
  | .slice elems spare => uptoBulkAll elems + uptoBulkAll spare + 1
  | .agg parts => uptoBulkAll parts + 1
  | .iface _ d => uptoBulk d + 1
  | .map entries => uptoBulkEntries entries + 1
  | .held _ => 1
def uptoBulkAll {H : Type} : List (DataW H) → Nat
  | [] => 0
  | d :: r => uptoBulk d + uptoBulkAll r
def uptoBulkEntries {H : Type} : List (Lit × DataW H) → Nat
  | [] => 0
  | x :: r => uptoBulkEntry x + uptoBulkEntries r
def uptoBulkEntry {H : Type} : Lit × DataW H → Nat
  | (.string bytes, d) => bytes.length + uptoBulk d + 1
  | (_, d) => uptoBulk d + 1
 end
def uptoSmall : (H : Type) → List (DataW H) → Bool := fun _ ds => decide (uptoBulkAll ds ≤ 1048576)
def OpenSpec.upto (s : _root_.Go.ChangeSpec) : _root_.Go.OpenSpec := { _root_.Go.OpenSpec.ofChange s with cond := some uptoSmall }

/-- 'reeflaw16.LeadDoes', WHERE WHAT IT READS IS OF BULK AT MOST 1048576: true; the input reads as it did. -/
def leadDoesUptoRow : OpenClaim := { program := "ytcofmfjhgbihkaa", sum := "b1cb7250d6fce05f2683569c2e743c91f7ba94d60cc2c146e30d6eaa2bed710b", func := "reef/reeflaw16.LeadDoes", spec := "leadDoes", inPlace := ["slices.overlaps[reef/api.Promise]", "slices.overlaps[int]"], unfollowed := true, recurses := true, plainKeys := false, apart := false, narrowed := true }
def LeadDoesUptoSaid : Prop := leadDoesUptoRow.holds Try.pinned (OpenSpec.upto leadDoesSpec)

/-- 'reeflaw16.LeadAgrees', WHERE WHAT IT READS IS OF BULK AT MOST 1048576: true; the input reads as it did. -/
def leadAgreesUptoRow : OpenClaim := { program := "ytcofmfjhgbihkaa", sum := "b1cb7250d6fce05f2683569c2e743c91f7ba94d60cc2c146e30d6eaa2bed710b", func := "reef/reeflaw16.LeadAgrees", spec := "leadAgrees", inPlace := ["slices.overlaps[reef/api.Promise]", "slices.overlaps[int]"], unfollowed := true, recurses := true, plainKeys := false, apart := false, narrowed := true }
def LeadAgreesUptoSaid : Prop := leadAgreesUptoRow.holds Try.pinned (OpenSpec.upto leadAgreesSpec)

/-- 'reeflaw15.AcceptAgrees', WHERE WHAT IT READS IS OF BULK AT MOST 1048576: true; the input reads as it did. -/
def acceptAgreesUptoRow : OpenClaim := { program := "ytcofmfjhgbihkaa", sum := "b1cb7250d6fce05f2683569c2e743c91f7ba94d60cc2c146e30d6eaa2bed710b", func := "reef/reeflaw15.AcceptAgrees", spec := "acceptAgrees", unfollowed := true, recurses := true, plainKeys := false, apart := false, narrowed := true }
def AcceptAgreesUptoSaid : Prop := acceptAgreesUptoRow.holds Try.pinned (OpenSpec.upto acceptAgreesSpec)

/-- 'reeflaw17.ReportUses', WHERE WHAT IT READS IS OF BULK AT MOST 1048576: true; the input reads as it did. -/
def reportUsesUptoRow : OpenClaim := { program := "ytcofmfjhgbihkaa", sum := "b1cb7250d6fce05f2683569c2e743c91f7ba94d60cc2c146e30d6eaa2bed710b", func := "reef/reeflaw17.ReportUses", spec := "reportUses", inPlace := ["slices.overlaps[reef/api.Ban]"], unfollowed := true, recurses := true, plainKeys := false, apart := false, narrowed := true }
def ReportUsesUptoSaid : Prop := reportUsesUptoRow.holds Try.pinned (OpenSpec.upto reportUsesSpec)

/-- 'reeflaw17.ReportDowns', WHERE WHAT IT READS IS OF BULK AT MOST 1048576: true; the input reads as it did. -/
def reportDownsUptoRow : OpenClaim := { program := "ytcofmfjhgbihkaa", sum := "b1cb7250d6fce05f2683569c2e743c91f7ba94d60cc2c146e30d6eaa2bed710b", func := "reef/reeflaw17.ReportDowns", spec := "reportDowns", inPlace := ["slices.overlaps[reef/api.Ban]"], unfollowed := true, recurses := true, plainKeys := false, apart := false, narrowed := true }
def ReportDownsUptoSaid : Prop := reportDownsUptoRow.holds Try.pinned (OpenSpec.upto reportDownsSpec)

/-- 'reeflaw17.ReportQueues', WHERE WHAT IT READS IS OF BULK AT MOST 1048576: true; the input reads as it did. -/
def reportQueuesUptoRow : OpenClaim := { program := "ytcofmfjhgbihkaa", sum := "b1cb7250d6fce05f2683569c2e743c91f7ba94d60cc2c146e30d6eaa2bed710b", func := "reef/reeflaw17.ReportQueues", spec := "reportQueues", inPlace := ["slices.overlaps[reef/api.Ban]"], unfollowed := true, recurses := true, plainKeys := false, apart := false, narrowed := true }
def ReportQueuesUptoSaid : Prop := reportQueuesUptoRow.holds Try.pinned (OpenSpec.upto reportQueuesSpec)

end Rows
end Go.Proofs.Ytcofmfjhgbihkaa
