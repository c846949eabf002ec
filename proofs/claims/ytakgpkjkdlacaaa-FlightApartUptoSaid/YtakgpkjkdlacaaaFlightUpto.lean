/- The way from a walk to a row under the bound, and how much came in. -/
import Derived.Test.YtakgpkjkdlacaaaRows
import Derived.Test.YtakgpkjkdlacaaaFlightLift
import Derived.Deep.CondSized
namespace Go.Proofs.Ytakgpkjkdlacaaa.flight
open Go.ChangeShapes Go.WideShapes Go.ChangeAt Go.RowKit
open Go.Proofs.Ytakgpkjkdlacaaa.kit Go.Proofs.Ytakgpkjkdlacaaa.own Go.Proofs.Ytakgpkjkdlacaaa.lift
set_option linter.unusedVariables false

/-- From a walk to a row's second form: what comes in is of bulk at most the bound. -/
theorem lawUpto {C : Checked} {os : Os} {f : FuncId} {fn : Func} {s : ChangeSpec} {H : Type} {enc : TypeId × Value → H} {F : Stop.Interp}
    (own : ownKnob C.prog.godebug = none) (started : os.Started) (noInit : C.prog.inits.idxOf? f = none) (hfn : C.prog.funcs[f]? = some fn)
    (witness : ∃ (w : World) (tape : Tape) (i : Input), w.os = os ∧ (w.forCall tape i).Shaped C.prog ∧ i.vars = [] ∧ Input.okWide C.prog (w.forCall tape i) .any w.heap.size f i ∧
      (Rows.OpenSpec.upto s).pre6 enc C.prog fn [] false (w.forCall tape i).memory i.args ∧ ({} : Assume).holds C.prog (lone (Frame.enter C.prog f i.args .normal) [] (w.forCall tape i)))
    (hl : laidOutB C.prog = true) (hread : (fn.params.toList.all fun t => C.prog.readableRec t && decide (t < C.prog.types.size)) = true)
    (b : TypeId) (hb : C.prog.underlying b = some .bool) (hrt : fn.resultTypes = #[b]) (hvars : s.vars = [])
    (hspec : ∀ ds : List (DataW H), ds.length = fn.params.toList.length → s.fn H ds = { results := [.lit (.bool true)], args := ds })
    (contract : ∀ (W : World) (base : Nat) (args : Array Value) (ds : List (DataW H)) (ps : List MemPlace), Given enc C.prog fn W base args ds ps → Rows.uptoBulkAll ds ≤ 1048576 →
      Calls C.prog f args W fun e W' => e = .returned (.bool true) ∧ Below W.heap.size W W') :
    ReturnsInHanded {} C os f .any ((Rows.OpenSpec.upto s).pre6 enc C.prog fn [] false) (((Rows.OpenSpec.upto s).at F).post enc C.prog fn false true false false) := by
  refine returnsInHanded_of_cond_sized (s := Rows.OpenSpec.upto s) (k := Rows.uptoSmall) rfl own started noInit hfn witness ?_
  intro W base args ds gs before hval hW0 _ hk hz _
  have hW : DataW.Whole enc C.prog fn.params.toList s.vars false W args.toList ds gs before := hW0
  have hW' := hW
  obtain ⟨p, q, hA, hV, hbefore, hfz, hnd⟩ := hW
  rw [hvars] at hV
  obtain ⟨rfl, rfl⟩ := trodVars_none hV
  have hps : before = p := by rw [hbefore, List.append_nil]
  subst hps
  have hlt : ∀ x ∈ before, x.block < W.heap.size := fun x hx => hW'.lt x hx
  have hplain : (Rows.OpenSpec.upto s).bare.plain.varTypes C.prog = [] := by
    show s.plain.varTypes C.prog = []
    simp [ChangeSpec.plain, DataSpec.varTypes, hvars]
  rw [hplain, List.append_nil, List.append_nil] at hz
  rw [List.append_nil] at hk
  have hbulk : Rows.uptoBulkAll ds ≤ 1048576 := of_decide_eq_true hk
  have hlen := trodAll_len hA
  refine (contract W base args ds before ⟨hval, hA, hlt, hz⟩ hbulk).mono fun e W' ⟨he, hbel⟩ => ?_
  subst he
  have hs := hspec ds hlen
  refine ⟨_, rfl, ?_⟩
  show s.post enc C.prog fn false true false false W args _ W'
  refine ⟨ds, [], before, [], before, [], hW', ?_, ?_, ?_, hbel.frame _, fun h => by cases h⟩
  · rw [List.append_nil, hs, hrt]
    exact trodAll_mk1 (shut_bool hb _)
  · rw [List.append_nil, hs]
    exact argsStay hl hbel hread hA hlt (fun p hp => by simpa using hlt p hp)
  · rw [hvars, List.append_nil, hs]
    rfl

theorem bulk_pos {H : Type} (d : DataW H) : 1 ≤ Rows.uptoBulk d := by
  cases d with
  | lit l => cases l <;> simp [Rows.uptoBulk]
  | nil => simp [Rows.uptoBulk]
  | ptr d => simp [Rows.uptoBulk]
  | slice a b => simp [Rows.uptoBulk]
  | agg p => simp [Rows.uptoBulk]
  | iface n d => simp [Rows.uptoBulk]
  | map e => simp [Rows.uptoBulk]
  | held h => simp [Rows.uptoBulk]
theorem bulk_all {H : Type} : ∀ l : List (DataW H), l.length ≤ Rows.uptoBulkAll l
  | [] => by simp [Rows.uptoBulkAll]
  | d :: r => by
    have h1 := bulk_pos d
    have h2 := bulk_all r
    rw [Rows.uptoBulkAll, List.length_cons]
    omega
theorem slice_bulk {H : Type} {enc : TypeId × Value → H} {W : World} {n t te : Nat} {a : Option Addr} {m c : Nat} {x : DataW H × List MemPlace} (ht : Try.prog.underlying t = some (.slice te))
    (h : DataW.trod enc Try.prog W 0 (fun _ => true) true n t [.slice a m c] = some x) : m ≤ Rows.uptoBulk x.1 := by
  rcases Deep.open_slice ht h with ⟨hcs, hx⟩ | ⟨a', len, cap, m', n2, D, Pl, hcs, _, hl, hcap, hm, hx, hi⟩
  · cases hcs; exact Nat.zero_le _
  · cases hcs
    have hx1 := congrArg Prod.fst hx
    simp only at hx1
    rw [hx1, Rows.uptoBulk]
    have := bulk_all (List.map D (List.range m))
    rw [List.length_map, List.length_range] at this
    omega
set_option maxRecDepth 100000 in
theorem flt_bulk {H : Type} {enc : TypeId × Value → H} {W : World} {n0 vl : Value} {a : Option Addr} {m c : Nat} {d : DataW H} {p : List MemPlace}
    (h : DataW.Trod enc Try.prog W 0 (fun _ => true) true 25 (.agg #[n0, vl, .slice a m c]) d p) : m ≤ Rows.uptoBulk d := by
  obtain ⟨fuel, hf⟩ := h
  obtain ⟨xs, n', hn, hx, hlen, hxs, hg⟩ := DataW.trod_struct Try.underlying25 hf
  obtain ⟨e4, e2, e3, e1, e1', -, s1, s2⟩ := cellsAll
  have hxs' : xs.length = 3 := hxs
  obtain ⟨y0, y1, y2, rfl⟩ := list3 xs hxs'
  have q2 : DataW.trod enc Try.prog W 0 (fun _ => true) true n' 23 (List.take (Try.prog.cellsOf 23) (List.drop 2 [n0, vl, .slice a m c])) = some y2 := hg 2 _ rfl
  rw [s2] at q2
  have g2 : DataW.trod enc Try.prog W 0 (fun _ => true) true n' 23 [.slice a m c] = some y2 := q2
  obtain ⟨rfl, -⟩ : d = _ ∧ p = _ := Prod.mk.inj hx
  have hb := slice_bulk Try.underlying23 g2
  simp only [List.map_cons, List.map_nil, Rows.uptoBulk, Rows.uptoBulkAll]
  omega
theorem int_cell {H : Type} {enc : TypeId × Value → H} {W : World} {base n : Nat} {sp : Nat → Bool} {held : Bool} {a : Addr} {cs : List Value} {d : DataW H} {p : List MemPlace}
    (hc : W.cells? base a 1 = some cs) (h : DataW.trod enc Try.prog W base sp held n 3 cs = some (d, p)) :
    ∃ z : Int, I64 z ∧ (∀ j, j < 1 → W.cell? (a.add j) = cs[j]?) ∧ cs = ic z := by
  obtain ⟨z, rfl, -, hw⟩ := DataW.trod_int Try.underlying3 h
  exact ⟨z, i64_of hw, (World.cells?_some hc).2.2, rfl⟩
theorem bInt : Try.prog.bytesOf 3 = 8 := by kernel_rfl
set_option maxRecDepth 100000 in
/-- Numbers that came in. -/
theorem nums_open {H : Type} {enc : TypeId × Value → H} {W : World} {r : Reach} {base : Nat} {v : Value} {d : DataW H} {p : List MemPlace}
    (hval : Value.okWide Try.prog W r base 37 v) (h : DataW.Trod enc Try.prog W 0 (fun _ => true) true 37 v d p) (hz : ∀ n ∈ d.weights Try.prog 37, n ≤ reachBytes) :
    ∃ ns : List Int, Sl ic 1 W v ns ∧ (∀ z ∈ ns, I64 z) ∧ ns.length ≤ Rows.uptoBulk d := by
  obtain ⟨a0, len, cap, rfl⟩ := okWide_slice Try.underlying37 hval
  obtain ⟨fuel, hf⟩ := h
  have hf' : DataW.trod enc Try.prog W 0 (fun _ => true) true fuel 37 [.slice a0 len cap] = some (d, p) := hf
  obtain ⟨v1, fs, hv1, hs1, ho1, -⟩ := rows_cells ic I64 1 37 3 8 (by decide) (by decide) ic_len Try.underlying37 cellsAll.2.2.2.1 bInt (fun a c d p n' h1 h2 => int_cell h1 h2) hf' hz
  cases hv1
  have hb := slice_bulk Try.underlying37 hf'
  obtain ⟨a2, c2, e⟩ := hs1.slice
  cases e
  exact ⟨fs, hs1, ho1, hb⟩

end Go.Proofs.Ytakgpkjkdlacaaa.flight
