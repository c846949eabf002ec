/- Items that came in, opened; and the way from a walk to a row under the bound. -/
import Derived.Test.YtngmcolbpdinmaaRows
import Derived.Test.YtngmcolbpdinmaaLift
import Derived.Test.YtngmcolbpdinmaaCrushBase
import Derived.Deep.Slices
import Derived.Deep.Fields
import Derived.Deep.CondSized
namespace Go.Proofs.Ytngmcolbpdinmaa.crush
open Go.ChangeShapes Go.WideShapes Go.ChangeAt Go.RowKit
open Go.Proofs.Ytngmcolbpdinmaa.kit Go.Proofs.Ytngmcolbpdinmaa.own Go.Proofs.Ytngmcolbpdinmaa.lift
set_option linter.unusedVariables false

theorem own : ownKnob Try.prog.godebug = none := by kernel_rfl
theorem laidOut : laidOutB Try.prog = true := by kernel_rfl
/-- The extent that a datum reads as. -/
def itmOf {H : Type} : DataW H → It
  | .agg [.lit (.int _ a), .lit (.int _ b)] => (a, b)
  | _ => (0, 0)
theorem list2 {α : Type} : ∀ (l : List α), l.length = 2 → ∃ a b, l = [a, b]
  | [a, b], _ => ⟨a, b, rfl⟩
theorem itmCells : (Try.prog.cellsOf 58 = 2) ∧ Try.prog.cellsOf 3 = 1 ∧ Try.prog.cellsOf 2 = 1 := ⟨by kernel_rfl, by kernel_rfl, by kernel_rfl⟩

theorem itm1_open {H : Type} {enc : TypeId × Value → H} {W : World} {base n : Nat} {sp : Nat → Bool} {held : Bool} {a : Addr} {cs : List Value} {d : DataW H} {p : List MemPlace}
    (hc : W.cells? base a 2 = some cs) (h : DataW.trod enc Try.prog W base sp held n 58 cs = some (d, p)) :
    ∃ f : It, itmOf d = f ∧ f.Ok ∧ Rows.uptoBulk d = 3 ∧ (∀ j, j < 2 → W.cell? (a.add j) = cs[j]?) ∧ cs = [.int .i64 f.1, .int .i64 f.2] := by
  obtain ⟨xs, n', hn, hx, hlen, hxs, hg⟩ := DataW.trod_struct Try.underlying58 h
  obtain ⟨e4, e1, e1'⟩ := itmCells
  rw [e4] at hlen
  have hxs' : xs.length = 2 := hxs
  obtain ⟨c0, c1, rfl⟩ := list2 cs hlen
  obtain ⟨y0, y1, rfl⟩ := list2 xs hxs'
  have q0 : DataW.trod enc Try.prog W base sp held n' 3 (List.take (Try.prog.cellsOf 3) (List.drop 0 [c0, c1])) = some y0 := hg 0 _ rfl
  rw [e1] at q0
  have g0 : DataW.trod enc Try.prog W base sp held n' 3 [c0] = some y0 := q0
  have q1 : DataW.trod enc Try.prog W base sp held n' 2 (List.take (Try.prog.cellsOf 2) (List.drop 1 [c0, c1])) = some y1 := hg 1 _ rfl
  rw [e1'] at q1
  have g1 : DataW.trod enc Try.prog W base sp held n' 2 [c1] = some y1 := q1
  clear hg hxs hxs' hlen
  obtain ⟨z0, hz0, rfl, hw0⟩ := DataW.trod_int Try.underlying3 g0
  obtain ⟨z1, hz1, rfl, hw1⟩ := DataW.trod_int Try.underlying2 g1
  cases hz0; cases hz1
  obtain ⟨rfl, rfl⟩ : d = _ ∧ p = _ := Prod.mk.inj hx
  refine ⟨(z0, z1), ?_, ?_, ?_, ?_, rfl⟩
  · simp [itmOf]
  · have h0 : -9223372036854775808 ≤ z0 ∧ z0 ≤ 9223372036854775807 := by simpa [Lit.wf, IntKind.min, IntKind.max, IntKind.signed, IntKind.bits] using hw0
    have h1 : -9223372036854775808 ≤ z1 ∧ z1 ≤ 9223372036854775807 := by simpa [Lit.wf, IntKind.min, IntKind.max, IntKind.signed, IntKind.bits] using hw1
    exact ⟨h0, h1⟩
  · simp [Rows.uptoBulk, Rows.uptoBulkAll]
  · exact (World.cells?_some hc).2.2

/-- The slice has room for what it holds. -/
def CapFit (v : Value) (n : Nat) : Prop := ∃ a cap, v = .slice a n cap ∧ n ≤ cap ∧ cap ≤ maxLen

set_option maxRecDepth 100000 in
/-- Items that came in. -/
theorem itm_open {H : Type} {enc : TypeId × Value → H} {W : World} {r : Reach} {base : Nat} {v : Value} {d : DataW H} {p : List MemPlace}
    (hval : Value.okWide Try.prog W r base 33 v) (h : DataW.Trod enc Try.prog W 0 (fun _ => true) true 33 v d p) :
    ∃ fs : List It, Sl wc 2 W v fs ∧ (∀ f ∈ fs, f.Ok) ∧ CapFit v fs.length ∧ 3 * fs.length + 1 ≤ Rows.uptoBulk d := by
  obtain ⟨a0, len, cap, rfl⟩ := okWide_slice Try.underlying33 hval
  obtain ⟨fuel, hf⟩ := h
  rcases Deep.open_slice Try.underlying33 hf with ⟨hcs, hx⟩ | ⟨a, len', cap', m, n, D, Pl, hcs, _, hl, hcap, hm, hx, hi⟩
  · simp [Value.cells] at hcs
    obtain ⟨rfl, rfl, rfl⟩ := hcs
    obtain ⟨rfl, rfl⟩ := Prod.mk.inj hx
    exact ⟨[], Sl.nil _, by simp, ⟨_, _, rfl, Nat.le_refl _, by unfold maxLen; omega⟩, by simp [Rows.uptoBulk]⟩
  · simp [Value.cells] at hcs
    obtain ⟨rfl, rfl, rfl⟩ := hcs
    obtain ⟨rfl, rfl⟩ := Prod.mk.inj hx
    simp only [if_true] at hm
    subst hm
    have each : ∀ i, i < m → ∃ f : It, itmOf (D i) = f ∧ f.Ok ∧ Rows.uptoBulk (D i) = 3 ∧ W.cell? ((a.add (i * 2)).add 0) = some (.int .i64 f.1) ∧ W.cell? ((a.add (i * 2)).add 1) = some (.int .i64 f.2) := by
      intro i him
      obtain ⟨cs', hc, ht⟩ := hi i him
      rw [itmCells.1] at hc
      obtain ⟨f, h1, h2, h3, h4, rfl⟩ := itm1_open hc ht
      exact ⟨f, h1, h2, h3, h4 0 (by omega), h4 1 (by omega)⟩
    have hlen : ((List.range len).map fun i => itmOf (D i)).length = len := by simp
    refine ⟨(List.range len).map fun i => itmOf (D i), ⟨by rw [hlen]; unfold maxLen at hcap; omega, some a, m, by rw [hlen], (fun h => by cases h), fun hp => ?_⟩, ?_, ⟨_, _, by rw [hlen], by rw [hlen]; omega, hcap⟩, ?_⟩
    · rw [hlen] at hp
      obtain ⟨b, off, spot⟩ := a
      obtain ⟨f0, _, _, _, c0, _⟩ := each 0 (by omega)
      obtain rfl : spot = none := by simpa [Addr.add] using World.cell?_spot c0
      refine ⟨b, off, rfl, ?_, ?_⟩
      · have := cell?_lt c0
        simpa [Addr.add] using this
      · intro j hj
        rw [hlen] at hj
        obtain ⟨f, hf, _, _, c0, c1⟩ := each j (by omega)
        have e : ((List.range len).map fun i => itmOf (D i))[j]'(by rw [hlen]; exact hj) = f := by simp [hf]
        rw [e]
        rw [add_plain', add_plain'] at c0 c1
        intro i u hu
        match i, hu with
        | 0, hu => simp [wc] at hu; subst hu; exact c0
        | 1, hu => simp [wc] at hu; subst hu; exact c1
        | i + 2, hu => simp [wc] at hu
    · intro f hf
      obtain ⟨i, hi', rfl⟩ := List.mem_map.1 hf
      obtain ⟨f, h1, h2, _⟩ := each i (by have := List.mem_range.1 hi'; omega)
      rw [h1]; exact h2
    · simp only [Rows.uptoBulk]
      have key : ∀ l : List Nat, (∀ i ∈ l, i < m) → Rows.uptoBulkAll (l.map D) = 3 * l.length := by
        intro l
        induction l with
        | nil => intro _; rfl
        | cons i l ih =>
          intro h
          obtain ⟨f, h1, _, h3, _⟩ := each i (h i (by simp))
          rw [List.map_cons, Rows.uptoBulkAll, ih (fun i hi => h i (by simp [hi])), h3, List.length_cons]
          omega
      rw [key (List.range len) (fun i hi => by have := List.mem_range.1 hi; omega), hlen, List.length_range]
      omega

/-- From a walk to a row's second form: what comes in is of bulk at most the bound. -/
theorem lawUpto {C : Checked} {os : Os} {f : FuncId} {fn : Func} {s : ChangeSpec} {H : Type} {enc : TypeId × Value → H} {F : Stop.Interp}
    (own : ownKnob C.prog.godebug = none) (started : os.Started) (noInit : C.prog.inits.idxOf? f = none) (hfn : C.prog.funcs[f]? = some fn)
    (witness : ∃ (w : World) (tape : Tape) (i : Input), w.os = os ∧ (w.forCall tape i).Shaped C.prog ∧ i.vars = [] ∧ Input.okWide C.prog (w.forCall tape i) .any w.heap.size f i ∧
      (Rows.OpenSpec.upto s).pre6 enc C.prog fn [] false (w.forCall tape i).memory i.args ∧ ({} : Assume).holds C.prog (lone (Frame.enter C.prog f i.args .normal) [] (w.forCall tape i)))
    (hl : laidOutB C.prog = true) (hread : (fn.params.toList.all fun t => C.prog.readableRec t && decide (t < C.prog.types.size)) = true)
    (b : TypeId) (hb : C.prog.underlying b = some .bool) (hrt : fn.resultTypes = #[b]) (hvars : s.vars = [])
    (hspec : ∀ ds : List (DataW H), ds.length = fn.params.toList.length → s.fn H ds = { results := [.lit (.bool true)], args := ds })
    (contract : ∀ (W : World) (base : Nat) (args : Array Value) (ds : List (DataW H)) (ps : List MemPlace), Given enc C.prog fn W base args ds ps → Rows.uptoBulkAll ds ≤ 1048576 →
      Calls C.prog f args W fun e W' => e = .returned (.bool true) ∧ Below W.heap.size W W') :
    ReturnsInHanded {} C os f .any ((Rows.OpenSpec.upto s).pre6 enc C.prog fn [] false) (((Rows.OpenSpec.upto s).at F).post enc C.prog fn false true false false) := by
  refine returnsInHanded_of_cond_sized (s := Rows.OpenSpec.upto s) (k := Rows.uptoSmall) rfl own started noInit hfn witness ?_
  intro W base args ds gs before hval hW0 _ hk hz _
  have hW : DataW.Whole enc C.prog fn.params.toList s.vars false W args.toList ds gs before := hW0
  have hW' := hW
  obtain ⟨p, q, hA, hV, hbefore, hfz, hnd⟩ := hW
  rw [hvars] at hV
  obtain ⟨rfl, rfl⟩ := trodVars_none hV
  have hps : before = p := by rw [hbefore, List.append_nil]
  subst hps
  have hlt : ∀ x ∈ before, x.block < W.heap.size := fun x hx => hW'.lt x hx
  have hplain : (Rows.OpenSpec.upto s).bare.plain.varTypes C.prog = [] := by
    show s.plain.varTypes C.prog = []
    simp [ChangeSpec.plain, DataSpec.varTypes, hvars]
  rw [hplain, List.append_nil, List.append_nil] at hz
  rw [List.append_nil] at hk
  have hbulk : Rows.uptoBulkAll ds ≤ 1048576 := of_decide_eq_true hk
  have hlen := trodAll_len hA
  refine (contract W base args ds before ⟨hval, hA, hlt, hz⟩ hbulk).mono fun e W' ⟨he, hbel⟩ => ?_
  subst he
  have hs := hspec ds hlen
  refine ⟨_, rfl, ?_⟩
  show s.post enc C.prog fn false true false false W args _ W'
  refine ⟨ds, [], before, [], before, [], hW', ?_, ?_, ?_, hbel.frame _, fun h => by cases h⟩
  · rw [List.append_nil, hs, hrt]
    exact trodAll_mk1 (shut_bool hb _)
  · rw [List.append_nil, hs]
    exact argsStay hl hbel hread hA hlt (fun p hp => by simpa using hlt p hp)
  · rw [hvars, List.append_nil, hs]
    rfl

end Go.Proofs.Ytngmcolbpdinmaa.crush
