/- From a walk to a row whose package-level table (the sum's) is laid. -/
import Derived.Test.YtgdfdljgbogbnaaDoorCards
import Derived.Test.YtgdfdljgbogbnaaDoorTie
import Derived.Test.YtgdfdljgbogbnaaDoorFrameSum
import Derived.Test.YtgdfdljgbogbnaaDoorLift
import Derived.Deep.DeepHandedRow
import Derived.Lib.LaidTab
import Derived.LaidSub
import Derived.SevenTiedAt
namespace Go.Proofs.YtgdfdljgbogbnaaDoor.journal
open Go.ChangeShapes Go.WideShapes Go.ChangeAt Go.RowKit
open Go.Proofs.YtgdfdljgbogbnaaDoor.kit Go.Proofs.YtgdfdljgbogbnaaDoor.own Go.Proofs.YtgdfdljgbogbnaaDoor.fm Go.Proofs.YtgdfdljgbogbnaaDoor.lift
open Go.WideMaps Go.WideElems
open Go.Proofs.YtgdfdljgbogbnaaDoor.frame (Nib)
set_option linter.unusedVariables false

theorem own : ownKnob Tryd.prog.godebug = none := by kernel_rfl
theorem laidOut : laidOutB Tryd.prog = true := by kernel_rfl
theorem gNib : Tryd.prog.globalNamed "reef/frame.nibbles" = some 0 := by kernel_rfl
theorem gNibT : (Tryd.prog.globals[0]?).map (·.type) = some 127 := by kernel_rfl
theorem c16 : Tryd.prog.cellsOf 127 = 16 := by kernel_rfl
theorem cu32 : Tryd.prog.cellsOf 88 = 1 := by kernel_rfl

theorem weight {H : Type} {P : Program} {ts : List TypeId} {ds : List (DataW H)} (h : (DataW.weightsEach P ts ds).all (· ≤ reachBytes) = true) {j : Nat} {t : TypeId} {d : DataW H} (ht : ts[j]? = some t) (hd : ds[j]? = some d) : ∀ n ∈ d.weights P t, n ≤ reachBytes := by
  intro n hn
  have := List.all_eq_true.1 h _ (DataW.weights_mem_each ht hd n hn)
  simpa using this

/-- The table that every row of this seat lists. -/
def tabs : List (String × DataW Unit) := [("reef/frame.nibbles", Rows.laid_reef_frame_nibbles)]
theorem nib_of {W : World} (h : laidMetH Tryd.prog tabs W) : Nib W := by
  have hT : Lib.TabIs Tryd.prog W "reef/frame.nibbles" .u32 (nibs.map fun n : Nat => (n : Int)) :=
    Lib.tabIs_of_head (rest := []) gNib gNibT Tryd.underlying127 Tryd.underlying88 cu32 c16 h
  intro q hq
  have := hT.cell gNib q (by simpa [nibs] using hq)
  rw [this]
  have e : (nibs.map fun n : Nat => (n : Int)).getD q 0 = ((nib q : Nat) : Int) := by
    have : ∀ q : Fin 16, (nibs.map fun n : Nat => (n : Int)).getD q.val 0 = ((nib q.val : Nat) : Int) := by decide
    exact this ⟨q, hq⟩
  rw [e]
def fillTab (cs : Array Value) : Obj → Obj
  | .cells _ t frozen => .cells cs t frozen
  | o => o
/-- A world for the witness: the settled one, with the table as its initialiser lays it. -/
noncomputable def laidWorld (os : Os) : World :=
  { World.holding Tryd.prog os ⟨#[], #[], []⟩ with heap := (World.holding Tryd.prog os ⟨#[], #[], []⟩).heap.modify 0 (fillTab (nibs.map fun n : Nat => Value.int .u32 (n : Int)).toArray) }
theorem laid_met (os : Os) (args : Array Value) : laidMet Tryd.prog tabs ((laidWorld os).forCall (fun _ _ => 0) ⟨#[], args, []⟩).memory :=
  laidMet_of_run' 8 (by kernel_rfl) (by kernel_rfl)

/-- What a law's walk gives its row: the law's answer is true, and nothing that came in has turned. -/
theorem closes {H : Type} {enc : TypeId × Value → H} {P : Program} {fn : Func} {s : ChangeSpec} {W : World} {args : Array Value} {ds gs : List (DataW H)} {before : List MemPlace} {f : FuncId}
    (hl : laidOutB P = true) (hread : (fn.params.toList.all fun t => P.readableRec t && decide (t < P.types.size)) = true)
    (b : TypeId) (hb : P.underlying b = some .bool) (hrt : fn.resultTypes = #[b]) (hvars : s.vars = [])
    (hspec : ∀ ds : List (DataW H), ds.length = fn.params.toList.length → s.fn H ds = { results := [.lit (.bool true)], args := ds })
    (hW : DataW.Whole enc P fn.params.toList s.vars false W args.toList ds gs before)
    (walk : Calls P f args W fun e W' => e = .returned (.bool true) ∧ Below W.heap.size W W') :
    Calls P f args W fun e W' => ∃ v, e = .returned v ∧ s.post enc P fn false true false false W args v W' := by
  have hW' := hW
  obtain ⟨p, q, hA, hV, hbefore, hfz, hnd⟩ := hW
  rw [hvars] at hV
  obtain ⟨rfl, rfl⟩ := trodVars_none hV
  have hps : before = p := by rw [hbefore, List.append_nil]
  subst hps
  have hlt : ∀ x ∈ before, x.block < W.heap.size := fun x hx => hW'.lt x hx
  have hlen := trodAll_len hA
  refine walk.mono fun e W' ⟨he, hbel⟩ => ?_
  subst he
  have hs := hspec ds hlen
  refine ⟨_, rfl, ds, [], before, [], before, [], hW', ?_, ?_, ?_, hbel.frame _, fun h => by cases h⟩
  · rw [List.append_nil, hs, hrt]
    exact trodAll_mk1 (shut_bool hb _)
  · rw [List.append_nil, hs]
    exact argsStay hl hbel hread hA hlt (fun p hp => by simpa using hlt p hp)
  · rw [hvars, List.append_nil, hs]
    rfl


end Go.Proofs.YtgdfdljgbogbnaaDoor.journal
