/-
  No cell of these rows narrows 'for every input' (looked for: loops, veiled, ifaces, maps, wideKeys, modest, calm, conditions, laid).
  DERIVED. THE GIVEN ROWS OF THIS SEAT. 5 by the template 'for every input the law returns true; each argument reads behind the call as it read before'; 0 by the template 'total and deterministic' (their statements: YtmipjhbbbpcdlaaTotals.lean).
  GIVEN WITH THE SEED: the statements are not yours to turn. If you find one false, say at which input.
  Laid BY PROGRAM, IN A SANDBOX (cutbox-rows.mjs): the forced cells as the released guide's own fill.sh prints them over the translation 34c805e3d9f54adb… (all of the seat's roots in one cut). By AI agents, Wed Nov 11 2026. No macro, syntax, notation, axiom, sorry.
-/
import Derived.Test.YtmipjhbbbpcdlaaChecked
import GoSem.Claim
import GoSem.ClaimJoined
import GoSem.ClaimMapViews
import Derived.JoinedTies
import Derived.KernelRfl
namespace Go.Proofs.Ytmipjhbbbpcdlaa
/- THE CELL 'sum', in the pinned program and in every row, IS THE sha256 OF THE DUMP (.gsa) THAT YtmipjhbbbpcdlaaProg.lean LOADS. Nothing in Lean hashes anything: it is a label: what it is worth is what the hold of that sum in a sandbox is worth. -/
noncomputable def Try.pinned : Pinned := { name := "ytmipjhbbbpcdlaa", sum := "34c805e3d9f54adb3140f9bab08d557168fe9f8b18feb0a2bb2e98aa0bfb32e6", checked := Try.checked }
namespace Rows
def none {H : Type} : Left H := { results := [], args := [] }

/-- 'reeflaw05.SectorPlays': WHATEVER THE INPUT: true; the input reads as it did. -/
def sectorPlaysSpec : ChangeSpec := { name := "sectorPlays", fn := fun _ => fun
  | [d1, d2] => { results := [.lit (.bool true)], args := [d1, d2] }
  | _ => none }
def sectorPlaysRow : OpenClaim := { program := "ytmipjhbbbpcdlaa", sum := "34c805e3d9f54adb3140f9bab08d557168fe9f8b18feb0a2bb2e98aa0bfb32e6", func := "reef/reeflaw05.SectorPlays", spec := "sectorPlays", apart := false }
def SectorPlaysSaid : Prop := sectorPlaysRow.holds Try.pinned (OpenSpec.ofChange sectorPlaysSpec)

/-- ITS FALSE NEIGHBOUR: 'it returns false'. Refute it at one input. -/
def sectorPlaysWrong : ChangeSpec := { name := "sectorPlays", fn := fun _ => fun
  | [d1, d2] => { results := [.lit (.bool false)], args := [d1, d2] }
  | _ => none }
def SectorPlaysWrongFalsely : Prop := sectorPlaysRow.holds Try.pinned (OpenSpec.ofChange sectorPlaysWrong)

/-- 'reeflaw05.SectorLoads': WHATEVER THE INPUT: true; the input reads as it did. -/
def sectorLoadsSpec : ChangeSpec := { name := "sectorLoads", fn := fun _ => fun
  | [d1, d2] => { results := [.lit (.bool true)], args := [d1, d2] }
  | _ => none }
def sectorLoadsRow : OpenClaim := { program := "ytmipjhbbbpcdlaa", sum := "34c805e3d9f54adb3140f9bab08d557168fe9f8b18feb0a2bb2e98aa0bfb32e6", func := "reef/reeflaw05.SectorLoads", spec := "sectorLoads", apart := false }
def SectorLoadsSaid : Prop := sectorLoadsRow.holds Try.pinned (OpenSpec.ofChange sectorLoadsSpec)

/-- ITS FALSE NEIGHBOUR: 'it returns false'. Refute it at one input. -/
def sectorLoadsWrong : ChangeSpec := { name := "sectorLoads", fn := fun _ => fun
  | [d1, d2] => { results := [.lit (.bool false)], args := [d1, d2] }
  | _ => none }
def SectorLoadsWrongFalsely : Prop := sectorLoadsRow.holds Try.pinned (OpenSpec.ofChange sectorLoadsWrong)

/-- 'reeflaw05.SectorWall': WHATEVER THE INPUT: true; the input reads as it did. -/
def sectorWallSpec : ChangeSpec := { name := "sectorWall", fn := fun _ => fun
  | [d1, d2, d3, d4] => { results := [.lit (.bool true)], args := [d1, d2, d3, d4] }
  | _ => none }
def sectorWallRow : OpenClaim := { program := "ytmipjhbbbpcdlaa", sum := "34c805e3d9f54adb3140f9bab08d557168fe9f8b18feb0a2bb2e98aa0bfb32e6", func := "reef/reeflaw05.SectorWall", spec := "sectorWall", apart := false }
def SectorWallSaid : Prop := sectorWallRow.holds Try.pinned (OpenSpec.ofChange sectorWallSpec)

/-- ITS FALSE NEIGHBOUR: 'it returns false'. Refute it at one input. -/
def sectorWallWrong : ChangeSpec := { name := "sectorWall", fn := fun _ => fun
  | [d1, d2, d3, d4] => { results := [.lit (.bool false)], args := [d1, d2, d3, d4] }
  | _ => none }
def SectorWallWrongFalsely : Prop := sectorWallRow.holds Try.pinned (OpenSpec.ofChange sectorWallWrong)

/-- 'reeflaw05.SectorCut': WHATEVER THE INPUT: true; the input reads as it did. -/
def sectorCutSpec : ChangeSpec := { name := "sectorCut", fn := fun _ => fun
  | [d1, d2, d3] => { results := [.lit (.bool true)], args := [d1, d2, d3] }
  | _ => none }
def sectorCutRow : OpenClaim := { program := "ytmipjhbbbpcdlaa", sum := "34c805e3d9f54adb3140f9bab08d557168fe9f8b18feb0a2bb2e98aa0bfb32e6", func := "reef/reeflaw05.SectorCut", spec := "sectorCut", apart := false }
def SectorCutSaid : Prop := sectorCutRow.holds Try.pinned (OpenSpec.ofChange sectorCutSpec)

/-- ITS FALSE NEIGHBOUR: 'it returns false'. Refute it at one input. -/
def sectorCutWrong : ChangeSpec := { name := "sectorCut", fn := fun _ => fun
  | [d1, d2, d3] => { results := [.lit (.bool false)], args := [d1, d2, d3] }
  | _ => none }
def SectorCutWrongFalsely : Prop := sectorCutRow.holds Try.pinned (OpenSpec.ofChange sectorCutWrong)

/-- 'reeflaw05.SectorNobody': WHATEVER THE INPUT: true; the input reads as it did. -/
def sectorNobodySpec : ChangeSpec := { name := "sectorNobody", fn := fun _ => fun
  | [d1, d2] => { results := [.lit (.bool true)], args := [d1, d2] }
  | _ => none }
def sectorNobodyRow : OpenClaim := { program := "ytmipjhbbbpcdlaa", sum := "34c805e3d9f54adb3140f9bab08d557168fe9f8b18feb0a2bb2e98aa0bfb32e6", func := "reef/reeflaw05.SectorNobody", spec := "sectorNobody", apart := false }
def SectorNobodySaid : Prop := sectorNobodyRow.holds Try.pinned (OpenSpec.ofChange sectorNobodySpec)

/-- ITS FALSE NEIGHBOUR: 'it returns false'. Refute it at one input. -/
def sectorNobodyWrong : ChangeSpec := { name := "sectorNobody", fn := fun _ => fun
  | [d1, d2] => { results := [.lit (.bool false)], args := [d1, d2] }
  | _ => none }
def SectorNobodyWrongFalsely : Prop := sectorNobodyRow.holds Try.pinned (OpenSpec.ofChange sectorNobodyWrong)

/- THE SECOND FORM. 'bulk': how many values and letters a reading holds, each counted each time it is reached (what is shared counts as often as it is met; a slice's spare places count too). A statement '..UptoSaid' is the law's where the arguments, and the package variables that the reading takes, are together of bulk at most 1048576: NARROWER than '..Said'. Prove '..Said' where nothing that the law and all that it calls make is longer than what came in: it says more and counts as full. Else prove '..UptoSaid'. A law counts once. -/
mutual
def uptoBulk {H : Type} : DataW H → Nat
  | .lit (.string bytes) => bytes.length + 1
  | .lit _ => 1
  | .nil => 1
  | .ptr d => uptoBulk d + 1
  | .slice elems spare => uptoBulkAll elems + uptoBulkAll spare + 1
  | .agg parts => uptoBulkAll parts + 1
  | .iface _ d => uptoBulk d + 1
  | .map entries => uptoBulkEntries entries + 1
  | .held _ => 1
def uptoBulkAll {H : Type} : List (DataW H) → Nat
  | [] => 0
  | d :: r => uptoBulk d + uptoBulkAll r
def uptoBulkEntries {H : Type} : List (Lit × DataW H) → Nat
  | [] => 0
  | x :: r => uptoBulkEntry x + uptoBulkEntries r
def uptoBulkEntry {H : Type} : Lit × DataW H → Nat
  | (.string bytes, d) => bytes.length + uptoBulk d + 1
  | (_, d) => uptoBulk d + 1
 end
def uptoSmall : (H : Type) → List (DataW H) → Bool := fun _ ds => decide (uptoBulkAll ds ≤ 1048576)
def OpenSpec.upto (s : _root_.Go.ChangeSpec) : _root_.Go.OpenSpec := { _root_.Go.OpenSpec.ofChange s with cond := some uptoSmall }

/-- 'reeflaw05.SectorPlays', WHERE WHAT IT READS IS OF BULK AT MOST 1048576: true; the input reads as it did. -/
def sectorPlaysUptoRow : OpenClaim := { program := "ytmipjhbbbpcdlaa", sum := "34c805e3d9f54adb3140f9bab08d557168fe9f8b18feb0a2bb2e98aa0bfb32e6", func := "reef/reeflaw05.SectorPlays", spec := "sectorPlays", apart := false, narrowed := true }
def SectorPlaysUptoSaid : Prop := sectorPlaysUptoRow.holds Try.pinned (OpenSpec.upto sectorPlaysSpec)

/-- 'reeflaw05.SectorLoads', WHERE WHAT IT READS IS OF BULK AT MOST 1048576: true; the input reads as it did. -/
def sectorLoadsUptoRow : OpenClaim := { program := "ytmipjhbbbpcdlaa", sum := "34c805e3d9f54adb3140f9bab08d557168fe9f8b18feb0a2bb2e98aa0bfb32e6", func := "reef/reeflaw05.SectorLoads", spec := "sectorLoads", apart := false, narrowed := true }
def SectorLoadsUptoSaid : Prop := sectorLoadsUptoRow.holds Try.pinned (OpenSpec.upto sectorLoadsSpec)

/-- 'reeflaw05.SectorWall', WHERE WHAT IT READS IS OF BULK AT MOST 1048576: true; the input reads as it did. -/
def sectorWallUptoRow : OpenClaim := { program := "ytmipjhbbbpcdlaa", sum := "34c805e3d9f54adb3140f9bab08d557168fe9f8b18feb0a2bb2e98aa0bfb32e6", func := "reef/reeflaw05.SectorWall", spec := "sectorWall", apart := false, narrowed := true }
def SectorWallUptoSaid : Prop := sectorWallUptoRow.holds Try.pinned (OpenSpec.upto sectorWallSpec)

/-- 'reeflaw05.SectorCut', WHERE WHAT IT READS IS OF BULK AT MOST 1048576: true; the input reads as it did. -/
def sectorCutUptoRow : OpenClaim := { program := "ytmipjhbbbpcdlaa", sum := "34c805e3d9f54adb3140f9bab08d557168fe9f8b18feb0a2bb2e98aa0bfb32e6", func := "reef/reeflaw05.SectorCut", spec := "sectorCut", apart := false, narrowed := true }
def SectorCutUptoSaid : Prop := sectorCutUptoRow.holds Try.pinned (OpenSpec.upto sectorCutSpec)

/-- 'reeflaw05.SectorNobody', WHERE WHAT IT READS IS OF BULK AT MOST 1048576: true; the input reads as it did. -/
def sectorNobodyUptoRow : OpenClaim := { program := "ytmipjhbbbpcdlaa", sum := "34c805e3d9f54adb3140f9bab08d557168fe9f8b18feb0a2bb2e98aa0bfb32e6", func := "reef/reeflaw05.SectorNobody", spec := "sectorNobody", apart := false, narrowed := true }
def SectorNobodyUptoSaid : Prop := sectorNobodyUptoRow.holds Try.pinned (OpenSpec.upto sectorNobodySpec)

end Rows
end Go.Proofs.Ytmipjhbbbpcdlaa
