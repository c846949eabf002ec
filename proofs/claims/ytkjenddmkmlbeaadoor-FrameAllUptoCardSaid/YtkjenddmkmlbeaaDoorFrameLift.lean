/- From a walk to a row whose package-level tables are laid: the first form and the second. -/
import Derived.Test.YtkjenddmkmlbeaaDoorCards
import Derived.Test.YtkjenddmkmlbeaaDoorTie
import Derived.Test.YtkjenddmkmlbeaaDoorFrameAwake
import Derived.Test.YtkjenddmkmlbeaaDoorLift
import Derived.Deep.DeepHandedRow
import Derived.Lib.LaidTab
import Derived.LaidSub
import Derived.SevenTiedAt
namespace Go.Proofs.YtkjenddmkmlbeaaDoor.frame
open Go.ChangeShapes Go.WideShapes Go.ChangeAt Go.RowKit
open Go.Proofs.YtkjenddmkmlbeaaDoor.kit Go.Proofs.YtkjenddmkmlbeaaDoor.own Go.Proofs.YtkjenddmkmlbeaaDoor.fm Go.Proofs.YtkjenddmkmlbeaaDoor.lift
open Go.WideMaps Go.WideElems
set_option linter.unusedVariables false

theorem own : ownKnob Tryd.prog.godebug = none := by kernel_rfl
theorem laidOut : laidOutB Tryd.prog = true := by kernel_rfl
theorem gNib : Tryd.prog.globalNamed "reef/frame.nibbles" = some 0 := by kernel_rfl
theorem gNibT : (Tryd.prog.globals[0]?).map (·.type) = some 58 := by kernel_rfl
theorem gBru : Tryd.prog.globalNamed "math/bits.deBruijn32tab" = some 1 := by kernel_rfl
theorem gBruT : (Tryd.prog.globals[1]?).map (·.type) = some 68 := by kernel_rfl
theorem c16 : Tryd.prog.cellsOf 58 = 16 := by kernel_rfl
theorem c32 : Tryd.prog.cellsOf 68 = 32 := by kernel_rfl
theorem cu32 : Tryd.prog.cellsOf 28 = 1 := by kernel_rfl
theorem cu8 : Tryd.prog.cellsOf 5 = 1 := by kernel_rfl
theorem bu8 : Tryd.prog.bytesOf 5 = 1 := by kernel_rfl

theorem weight {H : Type} {P : Program} {ts : List TypeId} {ds : List (DataW H)} (h : (DataW.weightsEach P ts ds).all (· ≤ reachBytes) = true) {j : Nat} {t : TypeId} {d : DataW H} (ht : ts[j]? = some t) (hd : ds[j]? = some d) : ∀ n ∈ d.weights P t, n ≤ reachBytes := by
  intro n hn
  have := List.all_eq_true.1 h _ (DataW.weights_mem_each ht hd n hn)
  simpa using this

/-- The tables that every row of this seat lists. -/
def tabs : List (String × DataW Unit) := [("math/bits.deBruijn32tab", Rows.laid_math_bits_deBruijn32tab), ("reef/frame.nibbles", Rows.laid_reef_frame_nibbles)]

theorem bru_of {W : World} (h : laidMetH Tryd.prog tabs W) : Bru W := by
  have hT : Lib.TabIs Tryd.prog W "math/bits.deBruijn32tab" .u8 (brus.map fun n : Nat => (n : Int)) :=
    Lib.tabIs_of_head (rest := [("reef/frame.nibbles", Rows.laid_reef_frame_nibbles)]) gBru gBruT Tryd.underlying68 Tryd.underlying5 cu8 c32 h
  intro q hq
  have := hT.cell gBru q (by simpa [brus] using hq)
  rw [this]
  have e : (brus.map fun n : Nat => (n : Int)).getD q 0 = ((bru q : Nat) : Int) := by
    have : ∀ q : Fin 32, (brus.map fun n : Nat => (n : Int)).getD q.val 0 = ((bru q.val : Nat) : Int) := by decide
    exact this ⟨q, hq⟩
  rw [e]
theorem nib_of {W : World} (h : laidMetH Tryd.prog tabs W) : Nib W := by
  have h2 : laidMetH Tryd.prog [("reef/frame.nibbles", Rows.laid_reef_frame_nibbles)] W := h.filter (fun x => x.1 == "reef/frame.nibbles")
  have hT : Lib.TabIs Tryd.prog W "reef/frame.nibbles" .u32 (nibs.map fun n : Nat => (n : Int)) :=
    Lib.tabIs_of_head (rest := []) gNib gNibT Tryd.underlying58 Tryd.underlying28 cu32 c16 h2
  intro q hq
  have := hT.cell gNib q (by simpa [nibs] using hq)
  rw [this]
  have e : (nibs.map fun n : Nat => (n : Int)).getD q 0 = ((nib q : Nat) : Int) := by
    have : ∀ q : Fin 16, (nibs.map fun n : Nat => (n : Int)).getD q.val 0 = ((nib q.val : Nat) : Int) := by decide
    exact this ⟨q, hq⟩
  rw [e]

/-- A world for the witness: the settled one, with both tables as their initialisers lay them. -/
def fillTab (cs : Array Value) : Obj → Obj
  | .cells _ t frozen => .cells cs t frozen
  | o => o
noncomputable def laidWorld (os : Os) : World :=
  { World.holding Tryd.prog os ⟨#[], #[], []⟩ with heap := ((World.holding Tryd.prog os ⟨#[], #[], []⟩).heap.modify 0 (fillTab (nibs.map fun n : Nat => Value.int .u32 (n : Int)).toArray)).modify 1 (fillTab (brus.map fun n : Nat => Value.int .u8 (n : Int)).toArray) }

theorem laid_met (os : Os) (args : Array Value) : laidMet Tryd.prog tabs ((laidWorld os).forCall (fun _ _ => 0) ⟨#[], args, []⟩).memory :=
  laidMet_of_run' 8 (by kernel_rfl) (by kernel_rfl)

/-- What a law's walk gives its row: the law's answer is true, and nothing that came in has turned. -/
theorem closes {H : Type} {enc : TypeId × Value → H} {P : Program} {fn : Func} {s : ChangeSpec} {W : World} {args : Array Value} {ds gs : List (DataW H)} {before : List MemPlace} {f : FuncId}
    (hl : laidOutB P = true) (hread : (fn.params.toList.all fun t => P.readableRec t && decide (t < P.types.size)) = true)
    (b : TypeId) (hb : P.underlying b = some .bool) (hrt : fn.resultTypes = #[b]) (hvars : s.vars = [])
    (hspec : ∀ ds : List (DataW H), ds.length = fn.params.toList.length → s.fn H ds = { results := [.lit (.bool true)], args := ds })
    (hW : DataW.Whole enc P fn.params.toList s.vars false W args.toList ds gs before)
    (walk : Calls P f args W fun e W' => e = .returned (.bool true) ∧ Below W.heap.size W W') :
    Calls P f args W fun e W' => ∃ v, e = .returned v ∧ s.post enc P fn false true false false W args v W' := by
  have hW' := hW
  obtain ⟨p, q, hA, hV, hbefore, hfz, hnd⟩ := hW
  rw [hvars] at hV
  obtain ⟨rfl, rfl⟩ := trodVars_none hV
  have hps : before = p := by rw [hbefore, List.append_nil]
  subst hps
  have hlt : ∀ x ∈ before, x.block < W.heap.size := fun x hx => hW'.lt x hx
  have hlen := trodAll_len hA
  refine walk.mono fun e W' ⟨he, hbel⟩ => ?_
  subst he
  have hs := hspec ds hlen
  refine ⟨_, rfl, ds, [], before, [], before, [], hW', ?_, ?_, ?_, hbel.frame _, fun h => by cases h⟩
  · rw [List.append_nil, hs, hrt]
    exact trodAll_mk1 (shut_bool hb _)
  · rw [List.append_nil, hs]
    exact argsStay hl hbel hread hA hlt (fun p hp => by simpa using hlt p hp)
  · rw [hvars, List.append_nil, hs]
    rfl

/-- Bytes that came in. -/
theorem bytes_open {H : Type} {enc : TypeId × Value → H} {W : World} {r : Reach} {base : Nat} {v : Value} {d : DataW H} {p : List MemPlace}
    (hval : Value.okWide Tryd.prog W r base 22 v) (h : DataW.Trod enc Tryd.prog W 0 (fun _ => true) true 22 v d p) (hz : ∀ n ∈ d.weights Tryd.prog 22, n ≤ reachBytes) :
    ∃ ns : List Nat, Bts W v ns ∧ ns.length ≤ 140737488351232 ∧ ns.length + 1 ≤ Rows.uptoBulk d := by
  obtain ⟨a0, len, cap, rfl⟩ := okWide_slice Tryd.underlying22 hval
  obtain ⟨fuel, hf⟩ := h
  have h0 := fun n h => (u8_pos n h).1
  rcases open_ints Tryd.underlying22 Tryd.underlying5 cu8 hf with ⟨hcs, hx⟩ | ⟨a, len', cap', zs, hcs, _, hl, hm, hzl, hx, hcell, hwz⟩
  · simp [Value.cells] at hcs
    obtain ⟨rfl, rfl, rfl⟩ := hcs
    simp only [Prod.mk.injEq] at hx
    obtain ⟨rfl, rfl⟩ := hx
    exact ⟨[], ⟨SlI.nil _ _, by simp, fun n c hv => (by cases hv; rfl), fun a n c hv => (by cases hv; exact Nat.le_refl _)⟩, by simp, by simp [Rows.uptoBulk]⟩
  · simp [Value.cells] at hcs
    obtain ⟨rfl, rfl, rfl⟩ := hcs
    simp only [if_true] at hzl
    simp only [Prod.mk.injEq] at hx
    obtain ⟨rfl, rfl⟩ := hx
    have h3 : ((zs.take len).map Int.toNat).length = len := by simp; omega
    have h2 : (lits (H := H) .u8 (zs.take len)).length = len := by simp [lits]; omega
    refine ⟨(zs.take len).map Int.toNat, ⟨SlI.of_open hm hl hzl hcell hwz h0, ?_, fun n c hv => (by cases hv), fun a n c hv => (by cases hv; exact hl)⟩, ?_, ?_⟩
    · intro n hn
      obtain ⟨z, hz1, rfl⟩ := List.mem_map.1 hn
      have := u8_pos z (hwz z (List.mem_of_mem_take hz1))
      omega
    · have h1 := hz (((lits (H := H) .u8 (zs.take len)).length + (lits (H := H) .u8 (zs.drop len)).length) * Tryd.prog.bytesOf 5) (by simp [DataW.weights, Tryd.underlying22])
      rw [bu8, h2] at h1
      rw [h3]
      unfold reachBytes at h1
      omega
    · rw [h3]
      have h4 : ∀ l : List (DataW H), l.length ≤ Rows.uptoBulkAll l := by
        intro l
        induction l with
        | nil => simp [Rows.uptoBulkAll]
        | cons d l ih =>
          have : 1 ≤ Rows.uptoBulk d := by
            cases d with
            | lit x => cases x <;> simp [Rows.uptoBulk]
            | nil => simp [Rows.uptoBulk]
            | ptr d => simp [Rows.uptoBulk]
            | slice e sp => simp [Rows.uptoBulk]
            | agg p => simp [Rows.uptoBulk]
            | iface t d => simp [Rows.uptoBulk]
            | map e => simp [Rows.uptoBulk]
            | held h => simp [Rows.uptoBulk]
          simp only [Rows.uptoBulkAll, List.length_cons]; omega
      have h5 := h4 (lits (H := H) .u8 (zs.take len))
      rw [h2] at h5
      simp only [Rows.uptoBulk]
      omega

end Go.Proofs.YtkjenddmkmlbeaaDoor.frame
