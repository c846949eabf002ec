/-
  No cell of these rows narrows 'for every input' (looked for: loops, veiled, ifaces, maps, wideKeys, modest, calm, conditions, laid).
  DERIVED. THE GIVEN ROWS OF THIS SEAT. 4 by the template 'for every input the law returns true; each argument reads behind the call as it read before'; 0 by the template 'total and deterministic' (their statements: YtmdipcemhaomhaaTotals.lean).
  GIVEN WITH THE SEED: the statements are not yours to turn. If you find one false, say at which input.
  Laid BY PROGRAM, IN A SANDBOX (cutbox-rows.mjs): the forced cells as the released guide's own fill.sh prints them over the translation 09738c484488ab3c… (all of the seat's roots in one cut). By AI agents, Wed Nov 11 2026. No macro, syntax, notation, axiom, sorry.
-/
import Derived.Test.YtmdipcemhaomhaaChecked
import GoSem.Claim
import GoSem.ClaimJoined
import GoSem.ClaimMapViews
import Derived.JoinedTies
import Derived.KernelRfl
namespace Go.Proofs.Ytmdipcemhaomhaa
/- THE CELL 'sum', in the pinned program and in every row, IS THE sha256 OF THE DUMP (.gsa) THAT YtmdipcemhaomhaaProg.lean LOADS. Nothing in Lean hashes anything: it is a label: what it is worth is what the hold of that sum in a sandbox is worth. -/
noncomputable def Try.pinned : Pinned := { name := "ytmdipcemhaomhaa", sum := "09738c484488ab3c5c5b9edacb894c52feaad22dfcba34cd6d90efe136c35804", checked := Try.checked }
namespace Rows
def none {H : Type} : Left H := { results := [], args := [] }

/-- 'reeflaw15.AcceptDoes': WHATEVER THE INPUT: true; the input reads as it did. -/
def acceptDoesSpec : ChangeSpec := { name := "acceptDoes", fn := fun _ => fun
  | [d1, d2, d3, d4, d5, d6, d7, d8] => { results := [.lit (.bool true)], args := [d1, d2, d3, d4, d5, d6, d7, d8] }
  | _ => none }
def acceptDoesRow : OpenClaim := { program := "ytmdipcemhaomhaa", sum := "09738c484488ab3c5c5b9edacb894c52feaad22dfcba34cd6d90efe136c35804", func := "reef/reeflaw15.AcceptDoes", spec := "acceptDoes", unfollowed := true, recurses := true, apart := false }
def AcceptDoesSaid : Prop := acceptDoesRow.holds Try.pinned (OpenSpec.ofChange acceptDoesSpec)

/-- ITS FALSE NEIGHBOUR: 'it returns false'. Refute it at one input. -/
def acceptDoesWrong : ChangeSpec := { name := "acceptDoes", fn := fun _ => fun
  | [d1, d2, d3, d4, d5, d6, d7, d8] => { results := [.lit (.bool false)], args := [d1, d2, d3, d4, d5, d6, d7, d8] }
  | _ => none }
def AcceptDoesWrongFalsely : Prop := acceptDoesRow.holds Try.pinned (OpenSpec.ofChange acceptDoesWrong)

/-- 'reeflaw15.AcceptAgrees': WHATEVER THE INPUT: true; the input reads as it did. -/
def acceptAgreesSpec : ChangeSpec := { name := "acceptAgrees", fn := fun _ => fun
  | [d] => { results := [.lit (.bool true)], args := [d] }
  | _ => none }
def acceptAgreesRow : OpenClaim := { program := "ytmdipcemhaomhaa", sum := "09738c484488ab3c5c5b9edacb894c52feaad22dfcba34cd6d90efe136c35804", func := "reef/reeflaw15.AcceptAgrees", spec := "acceptAgrees", unfollowed := true, recurses := true, apart := false }
def AcceptAgreesSaid : Prop := acceptAgreesRow.holds Try.pinned (OpenSpec.ofChange acceptAgreesSpec)

/-- ITS FALSE NEIGHBOUR: 'it returns false'. Refute it at one input. -/
def acceptAgreesWrong : ChangeSpec := { name := "acceptAgrees", fn := fun _ => fun
  | [d] => { results := [.lit (.bool false)], args := [d] }
  | _ => none }
def AcceptAgreesWrongFalsely : Prop := acceptAgreesRow.holds Try.pinned (OpenSpec.ofChange acceptAgreesWrong)

/-- 'reeflaw16.LeadNext': WHATEVER THE INPUT: true; the input reads as it did. -/
def leadNextSpec : ChangeSpec := { name := "leadNext", fn := fun _ => fun
  | [d1, d2, d3, d4] => { results := [.lit (.bool true)], args := [d1, d2, d3, d4] }
  | _ => none }
def leadNextRow : OpenClaim := { program := "ytmdipcemhaomhaa", sum := "09738c484488ab3c5c5b9edacb894c52feaad22dfcba34cd6d90efe136c35804", func := "reef/reeflaw16.LeadNext", spec := "leadNext", inPlace := ["slices.overlaps[reef/api.Promise]"], unfollowed := true, recurses := true, apart := false }
def LeadNextSaid : Prop := leadNextRow.holds Try.pinned (OpenSpec.ofChange leadNextSpec)

/-- ITS FALSE NEIGHBOUR: 'it returns false'. Refute it at one input. -/
def leadNextWrong : ChangeSpec := { name := "leadNext", fn := fun _ => fun
  | [d1, d2, d3, d4] => { results := [.lit (.bool false)], args := [d1, d2, d3, d4] }
  | _ => none }
def LeadNextWrongFalsely : Prop := leadNextRow.holds Try.pinned (OpenSpec.ofChange leadNextWrong)

/-- 'reeflaw16.LeadHears': WHATEVER THE INPUT: true; the input reads as it did. -/
def leadHearsSpec : ChangeSpec := { name := "leadHears", fn := fun _ => fun
  | [d1, d2, d3, d4, d5, d6] => { results := [.lit (.bool true)], args := [d1, d2, d3, d4, d5, d6] }
  | _ => none }
def leadHearsRow : OpenClaim := { program := "ytmdipcemhaomhaa", sum := "09738c484488ab3c5c5b9edacb894c52feaad22dfcba34cd6d90efe136c35804", func := "reef/reeflaw16.LeadHears", spec := "leadHears", inPlace := ["slices.overlaps[reef/api.Promise]"], unfollowed := true, recurses := true, apart := false }
def LeadHearsSaid : Prop := leadHearsRow.holds Try.pinned (OpenSpec.ofChange leadHearsSpec)

/-- ITS FALSE NEIGHBOUR: 'it returns false'. Refute it at one input. -/
def leadHearsWrong : ChangeSpec := { name := "leadHears", fn := fun _ => fun
  | [d1, d2, d3, d4, d5, d6] => { results := [.lit (.bool false)], args := [d1, d2, d3, d4, d5, d6] }
  | _ => none }
def LeadHearsWrongFalsely : Prop := leadHearsRow.holds Try.pinned (OpenSpec.ofChange leadHearsWrong)

/- THE SECOND FORM. 'bulk': how many values and letters a reading holds, each counted each time it is reached (what is shared counts as often as it is met; a slice's spare places count too). A statement '..UptoSaid' is the law's where the arguments, and the package variables that the reading takes, are together of bulk at most 1048576: NARROWER than '..Said'. Prove '..Said' where nothing that the law and all that it calls make is longer than what came in: it says more and counts as full. Else prove '..UptoSaid'. A law counts once. -/
mutual
def uptoBulk {H : Type} : DataW H → Nat
  | .lit (.string bytes) => bytes.length + 1
  | .lit _ => 1
  | .nil => 1
  | .ptr d => uptoBulk d + 1
  | .slice elems spare => uptoBulkAll elems + uptoBulkAll spare + 1
  | .agg parts => uptoBulkAll parts + 1
  | .iface _ d => uptoBulk d + 1
  | .map entries => uptoBulkEntries entries + 1
  | .held _ => 1
def uptoBulkAll {H : Type} : List (DataW H) → Nat
  | [] => 0
  | d :: r => uptoBulk d + uptoBulkAll r
def uptoBulkEntries {H : Type} : List (Lit × DataW H) → Nat
  | [] => 0
  | x :: r => uptoBulkEntry x + uptoBulkEntries r
def uptoBulkEntry {H : Type} : Lit × DataW H → Nat
  | (.string bytes, d) => bytes.length + uptoBulk d + 1
  | (_, d) => uptoBulk d + 1
 end
def uptoSmall : (H : Type) → List (DataW H) → Bool := fun _ ds => decide (uptoBulkAll ds ≤ 1048576)
def OpenSpec.upto (s : _root_.Go.ChangeSpec) : _root_.Go.OpenSpec := { _root_.Go.OpenSpec.ofChange s with cond := some uptoSmall }

/-- 'reeflaw15.AcceptDoes', WHERE WHAT IT READS IS OF BULK AT MOST 1048576: true; the input reads as it did. -/
def acceptDoesUptoRow : OpenClaim := { program := "ytmdipcemhaomhaa", sum := "09738c484488ab3c5c5b9edacb894c52feaad22dfcba34cd6d90efe136c35804", func := "reef/reeflaw15.AcceptDoes", spec := "acceptDoes", unfollowed := true, recurses := true, apart := false, narrowed := true }
def AcceptDoesUptoSaid : Prop := acceptDoesUptoRow.holds Try.pinned (OpenSpec.upto acceptDoesSpec)

/-- 'reeflaw15.AcceptAgrees', WHERE WHAT IT READS IS OF BULK AT MOST 1048576: true; the input reads as it did. -/
def acceptAgreesUptoRow : OpenClaim := { program := "ytmdipcemhaomhaa", sum := "09738c484488ab3c5c5b9edacb894c52feaad22dfcba34cd6d90efe136c35804", func := "reef/reeflaw15.AcceptAgrees", spec := "acceptAgrees", unfollowed := true, recurses := true, apart := false, narrowed := true }
def AcceptAgreesUptoSaid : Prop := acceptAgreesUptoRow.holds Try.pinned (OpenSpec.upto acceptAgreesSpec)

/-- 'reeflaw16.LeadNext', WHERE WHAT IT READS IS OF BULK AT MOST 1048576: true; the input reads as it did. -/
def leadNextUptoRow : OpenClaim := { program := "ytmdipcemhaomhaa", sum := "09738c484488ab3c5c5b9edacb894c52feaad22dfcba34cd6d90efe136c35804", func := "reef/reeflaw16.LeadNext", spec := "leadNext", inPlace := ["slices.overlaps[reef/api.Promise]"], unfollowed := true, recurses := true, apart := false, narrowed := true }
def LeadNextUptoSaid : Prop := leadNextUptoRow.holds Try.pinned (OpenSpec.upto leadNextSpec)

/-- 'reeflaw16.LeadHears', WHERE WHAT IT READS IS OF BULK AT MOST 1048576: true; the input reads as it did. -/
def leadHearsUptoRow : OpenClaim := { program := "ytmdipcemhaomhaa", sum := "09738c484488ab3c5c5b9edacb894c52feaad22dfcba34cd6d90efe136c35804", func := "reef/reeflaw16.LeadHears", spec := "leadHears", inPlace := ["slices.overlaps[reef/api.Promise]"], unfollowed := true, recurses := true, apart := false, narrowed := true }
def LeadHearsUptoSaid : Prop := leadHearsUptoRow.holds Try.pinned (OpenSpec.upto leadHearsSpec)

end Rows
end Go.Proofs.Ytmdipcemhaomhaa
