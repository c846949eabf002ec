/- Texts laid together: FlightActA, FlightUpto, FlightActL, FlightInts, FlightAwake, FlightRSame, FlightRFit. -/
import Derived.Test.YtalnmbfmfeaohaaGreatRows
import Derived.Test.YtalnmbfmfeaohaaGreatFlightAct
import Derived.Test.YtalnmbfmfeaohaaGreatFlightLift
import Derived.Deep.CondSized
import Derived.Test.YtalnmbfmfeaohaaGreatFlightActs
import Derived.Test.YtalnmbfmfeaohaaGreatFlightThere
import Derived.Test.YtalnmbfmfeaohaaGreatFlightSame
import Derived.Test.YtalnmbfmfeaohaaGreatFlightOn
import Derived.Test.YtalnmbfmfeaohaaGreatFlightDbl
import Derived.Test.YtalnmbfmfeaohaaGreatFlightOld
import Derived.Test.YtalnmbfmfeaohaaGreatFlightSev
import Derived.Test.YtalnmbfmfeaohaaGreatFlightFit2
namespace Go.Proofs.YtalnmbfmfeaohaaGreat.flight
open Go.RowKit
open Go.Proofs.YtalnmbfmfeaohaaGreat.kit Go.Proofs.YtalnmbfmfeaohaaGreat.own
set_option linter.unusedVariables false

theorem ActS.mono {w : World} {B K K' : Nat} {e : Ending} {w' : World} (h : ActS w B K e w') (hk : K ≤ K') : ActS w B K' e w' := by
  obtain ⟨f, a, b, c, d, h1, h2, h3, h4, h5, h6, h7⟩ := h
  exact ⟨f, a, b, c, d, h1, h2, h3, h4, h5, h6.mono hk, h7⟩
set_option maxHeartbeats 8000000 in
theorem act_any (vl1 vc1 vl2 vc2 : Value) (f : Flt) (B K : Nat) (x : ActV) (w : World) (h1 : Own fc 4 38 w B vl1 f.list) (h2 : Own wc 2 40 w B vc1 f.cut) (h3 : Own fc 4 38 w B vl2 f.list) (h4 : Own wc 2 40 w B vc2 f.cut) (hG : Good f K) (hok : x.Ok) (hB : B ≤ w.heap.size) (xa xb : List Int) (ha : Sl ic 1 w (.slice x.va x.vn x.vc) xa) (hb0 : Sl ic 1 w (.slice x.ua x.un x.uc) xb) (hoa : ∀ z ∈ xa, I64 z) (hob : ∀ z ∈ xb, I64 z) (hla : xa.length * 8 ≤ 140737488355328) (hlb : xb.length * 8 ≤ 140737488355328) (hli : (K + 2 * (xa.length * xb.length) + 2) * 16 ≤ 140737488355328) :
    Calls Tryz.prog 7 #[.agg #[.int .i64 f.next, vl1, vc1], .agg #[.int .i64 f.next, vl2, vc2], .agg #[.int .i64 x.kind, .int .i64 x.num, .int .i64 x.src, .int .i64 x.dst, .string x.body, .slice x.va x.vn x.vc, .slice x.ua x.un x.uc]] w (ActS w B (K + 2 * (xa.length * xb.length) + 1)) := by
  have hK : (K + 2) * 16 ≤ 140737488355328 := Nat.le_trans (Nat.mul_le_mul_right 16 (Nat.add_le_add_right (Nat.le_add_right K _) 2)) hli
  by_cases k1 : x.kind = 1
  · exact (act_put vl1 vc1 vl2 vc2 f B K x w h1 h2 h3 h4 hG hok k1 hK hB).mono (fun e w' h => h.mono (Nat.le_succ_of_le (Nat.le_add_right K _)))
  by_cases k2 : x.kind = 2
  · exact (act_take vl1 vc1 vl2 vc2 f B K x w h1 h2 h3 h4 hG hok k2 hK hB).mono (fun e w' h => h.mono (Nat.le_succ_of_le (Nat.le_add_right K _)))
  by_cases k3 : x.kind = 3
  · exact (act_dbl vl1 vc1 vl2 vc2 f B K x w h1 h2 h3 h4 hG hok k3 hK hB).mono (fun e w' h => h.mono (Nat.le_succ_of_le (Nat.le_add_right K _)))
  by_cases k4 : x.kind = 4
  · exact (act_cut vl1 vc1 vl2 vc2 f B K x w h1 h2 h3 h4 hG hok k4 hK hB).mono (fun e w' h => h.mono (Nat.add_le_add_right (Nat.le_add_right K _) 1))
  by_cases k5 : x.kind = 5
  · exact (act_join vl1 vc1 vl2 vc2 f B K x w h1 h2 h3 h4 hG hok k5 hK hB).mono (fun e w' h => h.mono (Nat.le_succ_of_le (Nat.le_add_right K _)))
  by_cases k6 : x.kind = 6
  · exact (act_lose vl1 vc1 vl2 vc2 f B K x w h1 h2 h3 h4 hG hok k6 hK hB).mono (fun e w' h => h.mono (Nat.le_succ_of_le (Nat.le_add_right K _)))
  by_cases k7 : x.kind = 7
  · exact (act_iso vl1 vc1 vl2 vc2 f B K x w h1 h2 h3 h4 hG hok k7 hK hB xa xb ha hb0 hoa hob hla hlb hli).mono (fun e w' h => h.mono (Nat.le_succ _))
  exact (act_none vl1 vc1 vl2 vc2 f B K x w h1 h2 h3 h4 hG hok ⟨k1, k2, k3, k4, k5, k6, k7⟩ hK hB).mono (fun e w' h => h.mono (Nat.le_succ_of_le (Nat.le_add_right K _)))

end Go.Proofs.YtalnmbfmfeaohaaGreat.flight

namespace Go.Proofs.YtalnmbfmfeaohaaGreat.flight
open Go.ChangeShapes Go.WideShapes Go.ChangeAt Go.RowKit
open Go.Proofs.YtalnmbfmfeaohaaGreat.kit Go.Proofs.YtalnmbfmfeaohaaGreat.own Go.Proofs.YtalnmbfmfeaohaaGreat.lift
set_option linter.unusedVariables false

/-- From a walk to a row's second form: what comes in is of bulk at most the bound. -/
theorem lawUpto {C : Checked} {os : Os} {f : FuncId} {fn : Func} {s : ChangeSpec} {H : Type} {enc : TypeId × Value → H} {F : Stop.Interp}
    (own : ownKnob C.prog.godebug = none) (started : os.Started) (noInit : C.prog.inits.idxOf? f = none) (hfn : C.prog.funcs[f]? = some fn)
    (witness : ∃ (w : World) (tape : Tape) (i : Input), w.os = os ∧ (w.forCall tape i).Shaped C.prog ∧ i.vars = [] ∧ Input.okWide C.prog (w.forCall tape i) .any w.heap.size f i ∧
      (Rows.OpenSpec.upto s).pre6 enc C.prog fn [] false (w.forCall tape i).memory i.args ∧ ({} : Assume).holds C.prog (lone (Frame.enter C.prog f i.args .normal) [] (w.forCall tape i)))
    (hl : laidOutB C.prog = true) (hread : (fn.params.toList.all fun t => C.prog.readableRec t && decide (t < C.prog.types.size)) = true)
    (b : TypeId) (hb : C.prog.underlying b = some .bool) (hrt : fn.resultTypes = #[b]) (hvars : s.vars = [])
    (hspec : ∀ ds : List (DataW H), ds.length = fn.params.toList.length → s.fn H ds = { results := [.lit (.bool true)], args := ds })
    (contract : ∀ (W : World) (base : Nat) (args : Array Value) (ds : List (DataW H)) (ps : List MemPlace), Given enc C.prog fn W base args ds ps → Rows.uptoBulkAll ds ≤ 1048576 →
      Calls C.prog f args W fun e W' => e = .returned (.bool true) ∧ Below W.heap.size W W') :
    ReturnsInHanded {} C os f .any ((Rows.OpenSpec.upto s).pre6 enc C.prog fn [] false) (((Rows.OpenSpec.upto s).at F).post enc C.prog fn false true false false) := by
  refine returnsInHanded_of_cond_sized (s := Rows.OpenSpec.upto s) (k := Rows.uptoSmall) rfl own started noInit hfn witness ?_
  intro W base args ds gs before hval hW0 _ hk hz _
  have hW : DataW.Whole enc C.prog fn.params.toList s.vars false W args.toList ds gs before := hW0
  have hW' := hW
  obtain ⟨p, q, hA, hV, hbefore, hfz, hnd⟩ := hW
  rw [hvars] at hV
  obtain ⟨rfl, rfl⟩ := trodVars_none hV
  have hps : before = p := by rw [hbefore, List.append_nil]
  subst hps
  have hlt : ∀ x ∈ before, x.block < W.heap.size := fun x hx => hW'.lt x hx
  have hplain : (Rows.OpenSpec.upto s).bare.plain.varTypes C.prog = [] := by
    show s.plain.varTypes C.prog = []
    simp [ChangeSpec.plain, DataSpec.varTypes, hvars]
  rw [hplain, List.append_nil, List.append_nil] at hz
  rw [List.append_nil] at hk
  have hbulk : Rows.uptoBulkAll ds ≤ 1048576 := of_decide_eq_true hk
  have hlen := trodAll_len hA
  refine (contract W base args ds before ⟨hval, hA, hlt, hz⟩ hbulk).mono fun e W' ⟨he, hbel⟩ => ?_
  subst he
  have hs := hspec ds hlen
  refine ⟨_, rfl, ?_⟩
  show s.post enc C.prog fn false true false false W args _ W'
  refine ⟨ds, [], before, [], before, [], hW', ?_, ?_, ?_, hbel.frame _, fun h => by cases h⟩
  · rw [List.append_nil, hs, hrt]
    exact trodAll_mk1 (shut_bool hb _)
  · rw [List.append_nil, hs]
    exact argsStay hl hbel hread hA hlt (fun p hp => by simpa using hlt p hp)
  · rw [hvars, List.append_nil, hs]
    rfl

theorem bulk_pos {H : Type} (d : DataW H) : 1 ≤ Rows.uptoBulk d := by
  cases d with
  | lit l => cases l <;> simp [Rows.uptoBulk]
  | nil => simp [Rows.uptoBulk]
  | ptr d => simp [Rows.uptoBulk]
  | slice a b => simp [Rows.uptoBulk]
  | agg p => simp [Rows.uptoBulk]
  | iface n d => simp [Rows.uptoBulk]
  | map e => simp [Rows.uptoBulk]
  | held h => simp [Rows.uptoBulk]
theorem bulk_all {H : Type} : ∀ l : List (DataW H), l.length ≤ Rows.uptoBulkAll l
  | [] => by simp [Rows.uptoBulkAll]
  | d :: r => by
    have h1 := bulk_pos d
    have h2 := bulk_all r
    rw [Rows.uptoBulkAll, List.length_cons]
    omega
theorem slice_bulk {H : Type} {enc : TypeId × Value → H} {W : World} {n t te : Nat} {a : Option Addr} {m c : Nat} {x : DataW H × List MemPlace} (ht : Tryz.prog.underlying t = some (.slice te))
    (h : DataW.trod enc Tryz.prog W 0 (fun _ => true) true n t [.slice a m c] = some x) : m ≤ Rows.uptoBulk x.1 := by
  rcases Deep.open_slice ht h with ⟨hcs, hx⟩ | ⟨a', len, cap, m', n2, D, Pl, hcs, _, hl, hcap, hm, hx, hi⟩
  · cases hcs; exact Nat.zero_le _
  · cases hcs
    have hx1 := congrArg Prod.fst hx
    simp only at hx1
    rw [hx1, Rows.uptoBulk]
    have := bulk_all (List.map D (List.range m))
    rw [List.length_map, List.length_range] at this
    omega
set_option maxRecDepth 100000 in
theorem flt_bulk {H : Type} {enc : TypeId × Value → H} {W : World} {n0 vl : Value} {a : Option Addr} {m c : Nat} {d : DataW H} {p : List MemPlace}
    (h : DataW.Trod enc Tryz.prog W 0 (fun _ => true) true 25 (.agg #[n0, vl, .slice a m c]) d p) : m ≤ Rows.uptoBulk d := by
  obtain ⟨fuel, hf⟩ := h
  obtain ⟨xs, n', hn, hx, hlen, hxs, hg⟩ := DataW.trod_struct Tryz.underlying25 hf
  obtain ⟨e4, e2, e3, e1, e1', -, s1, s2⟩ := cellsAll
  have hxs' : xs.length = 3 := hxs
  obtain ⟨y0, y1, y2, rfl⟩ := list3 xs hxs'
  have q2 : DataW.trod enc Tryz.prog W 0 (fun _ => true) true n' 23 (List.take (Tryz.prog.cellsOf 23) (List.drop 2 [n0, vl, .slice a m c])) = some y2 := hg 2 _ rfl
  rw [s2] at q2
  have g2 : DataW.trod enc Tryz.prog W 0 (fun _ => true) true n' 23 [.slice a m c] = some y2 := q2
  obtain ⟨rfl, -⟩ : d = _ ∧ p = _ := Prod.mk.inj hx
  have hb := slice_bulk Tryz.underlying23 g2
  simp only [List.map_cons, List.map_nil, Rows.uptoBulk, Rows.uptoBulkAll]
  omega
theorem int_cell {H : Type} {enc : TypeId × Value → H} {W : World} {base n : Nat} {sp : Nat → Bool} {held : Bool} {a : Addr} {cs : List Value} {d : DataW H} {p : List MemPlace}
    (hc : W.cells? base a 1 = some cs) (h : DataW.trod enc Tryz.prog W base sp held n 3 cs = some (d, p)) :
    ∃ z : Int, I64 z ∧ (∀ j, j < 1 → W.cell? (a.add j) = cs[j]?) ∧ cs = ic z := by
  obtain ⟨z, rfl, -, hw⟩ := DataW.trod_int Tryz.underlying3 h
  exact ⟨z, i64_of hw, (World.cells?_some hc).2.2, rfl⟩
theorem bInt : Tryz.prog.bytesOf 3 = 8 := by kernel_rfl
set_option maxRecDepth 100000 in
/-- Numbers that came in. -/
theorem nums_open {H : Type} {enc : TypeId × Value → H} {W : World} {r : Reach} {base : Nat} {v : Value} {d : DataW H} {p : List MemPlace}
    (hval : Value.okWide Tryz.prog W r base 32 v) (h : DataW.Trod enc Tryz.prog W 0 (fun _ => true) true 32 v d p) (hz : ∀ n ∈ d.weights Tryz.prog 32, n ≤ reachBytes) :
    ∃ ns : List Int, Sl ic 1 W v ns ∧ (∀ z ∈ ns, I64 z) ∧ ns.length ≤ Rows.uptoBulk d := by
  obtain ⟨a0, len, cap, rfl⟩ := okWide_slice Tryz.underlying32 hval
  obtain ⟨fuel, hf⟩ := h
  have hf' : DataW.trod enc Tryz.prog W 0 (fun _ => true) true fuel 32 [.slice a0 len cap] = some (d, p) := hf
  obtain ⟨v1, fs, hv1, hs1, ho1, -⟩ := rows_cells ic I64 1 32 3 8 (by decide) (by decide) ic_len Tryz.underlying32 cellsAll.2.2.2.1 bInt (fun a c d p n' h1 h2 => int_cell h1 h2) hf' hz
  cases hv1
  have hb := slice_bulk Tryz.underlying32 hf'
  obtain ⟨a2, c2, e⟩ := hs1.slice
  cases e
  exact ⟨fs, hs1, ho1, hb⟩

end Go.Proofs.YtalnmbfmfeaohaaGreat.flight

namespace Go.Proofs.YtalnmbfmfeaohaaGreat.flight
open Go.ChangeShapes Go.WideShapes Go.ChangeAt Go.RowKit
open Go.Proofs.YtalnmbfmfeaohaaGreat.kit Go.Proofs.YtalnmbfmfeaohaaGreat.own Go.Proofs.YtalnmbfmfeaohaaGreat.lift
set_option linter.unusedVariables false

/-- An act with its two sets. -/
structure ActL where
  x : ActV
  a : List Int
  b : List Int
def al (y : ActL) : List Value := ac y.x
theorem al_len (y : ActL) : (al y).length = 7 := rfl
def ActL.Is (W : World) (y : ActL) : Prop := y.x.Ok ∧ Sl ic 1 W (.slice y.x.va y.x.vn y.x.vc) y.a ∧ Sl ic 1 W (.slice y.x.ua y.x.un y.x.uc) y.b ∧ (∀ z ∈ y.a, I64 z) ∧ ∀ z ∈ y.b, I64 z
theorem ActL.Is.keep {W W' : World} {y : ActL} (h : y.Is W) (hb : Below W.heap.size W W') : y.Is W' := ⟨h.1, h.2.1.keep hb, h.2.2.1.keep hb, h.2.2.2⟩
def ActL.size (y : ActL) : Nat := y.a.length + y.b.length + 1
/-- How many ways an act may cut. -/
def ActL.cost (y : ActL) : Nat := 2 * (y.a.length * y.b.length) + 1

theorem sum_bulk {α H : Type} (size : α → Nat) (D : Nat → DataW H) : ∀ (fs : List α) (o : Nat), (∀ i (hi : i < fs.length), size fs[i] ≤ Rows.uptoBulk (D (o + i))) → (fs.map size).sum ≤ Rows.uptoBulkAll ((List.range' o fs.length).map D)
  | [], o, _ => by simp
  | x :: r, o, h => by
    have h0 := h 0 (by simp)
    have hr := sum_bulk size D r (o + 1) (fun i hi => by have := h (i + 1) (by simpa using hi); rw [show o + 1 + i = o + (i + 1) by omega]; simpa using this)
    simp only [List.getElem_cons_zero, Nat.add_zero] at h0
    simp only [List.length_cons, List.range'_succ, List.map_cons, List.sum_cons, Rows.uptoBulkAll]
    omega
/-- Rows that came in, each with its size. -/
theorem rows_open {H : Type} {enc : TypeId × Value → H} {α : Type} (ec : α → List Value) (Ok : α → Prop) (size : α → Nat) (k t te : Nat) (hk0 : 0 < k) (hk : ∀ x, (ec x).length = k) (ht : Tryz.prog.underlying t = some (.slice te)) (hce : Tryz.prog.cellsOf te = k)
    {W : World} {n : Nat} {cs : List Value} {x : DataW H × List MemPlace}
    (op : ∀ (a : Addr) (c : List Value) (d : DataW H) (p : List MemPlace) (n' : Nat), W.cells? 0 a k = some c → DataW.trod enc Tryz.prog W 0 (fun _ => true) true n' te c = some (d, p) → ∃ f : α, (Ok f ∧ size f ≤ Rows.uptoBulk d) ∧ (∀ j, j < k → W.cell? (a.add j) = c[j]?) ∧ c = ec f)
    (h : DataW.trod enc Tryz.prog W 0 (fun _ => true) true n t cs = some x) :
    ∃ v fs, cs = [v] ∧ Sl ec k W v fs ∧ (∀ f ∈ fs, Ok f) ∧ (fs.map size).sum ≤ Rows.uptoBulk x.1 := by
  rcases Deep.open_slice ht h with ⟨hcs, hx⟩ | ⟨a, len, cap, m, n2, D, Pl, hcs, _, hl, hcap, hm, hx, hi⟩
  · exact ⟨_, [], hcs, Sl.nil _, by simp, by simp⟩
  · simp only [if_true] at hm
    subst hm
    have each : ∀ i, i < m → ∃ f : α, (Ok f ∧ size f ≤ Rows.uptoBulk (D i)) ∧ ∀ j u, (ec f)[j]? = some u → W.cell? ((a.add (i * k)).add j) = some u := by
      intro i him
      obtain ⟨cs', hc, ht'⟩ := hi i him
      rw [hce] at hc
      obtain ⟨f, h1, h2, rfl⟩ := op _ _ _ _ _ hc ht'
      refine ⟨f, h1, fun j u hu => ?_⟩
      have hj : j < k := by have := (List.getElem?_eq_some_iff.1 hu).1; rwa [hk] at this
      rw [h2 j hj]; exact hu
    let fs : List α := (List.range len).pmap (fun i hi => (each i hi).choose) (fun i hi => by have := List.mem_range.1 hi; omega)
    have hlen : fs.length = len := by simp [fs]
    have hget : ∀ j (hj : j < fs.length), ∃ hj' : j < m, fs[j] = (each j hj').choose := by
      intro j hj
      refine ⟨by omega, ?_⟩
      simp [fs]
    refine ⟨_, fs, hcs, ⟨by rw [hlen]; unfold maxLen at hcap; omega, some a, m, by rw [hlen], (fun h => by cases h), fun hp => ?_⟩, ?_, ?_⟩
    · rw [hlen] at hp
      obtain ⟨b, off, spot⟩ := a
      obtain ⟨f0, _, c0⟩ := each 0 (by omega)
      have hl0 : 0 < (ec f0).length := by rw [hk]; exact hk0
      have c00 := c0 0 (ec f0)[0] (by simp [hl0])
      obtain rfl : spot = none := by simpa [Addr.add] using World.cell?_spot c00
      refine ⟨b, off, rfl, ?_, ?_⟩
      · have := cell?_lt c00
        simpa [Addr.add] using this
      · intro j hj i u hu
        obtain ⟨hj', he⟩ := hget j hj
        rw [he] at hu
        have := (each j hj').choose_spec.2 i u hu
        rw [add_plain', add_plain'] at this
        exact this
    · intro f hf
      obtain ⟨j, hj, rfl⟩ := List.getElem_of_mem hf
      obtain ⟨hj', he⟩ := hget j hj
      rw [he]
      exact (each j hj').choose_spec.1.1
    · have h1 := sum_bulk size D fs 0 (fun i hi => by obtain ⟨hj', he⟩ := hget i hi; rw [he, Nat.zero_add]; exact (each i hj').choose_spec.1.2)
      rw [hlen, ← List.range_eq_range'] at h1
      have hx1 := congrArg Prod.fst hx
      simp only at hx1
      rw [hx1, Rows.uptoBulk]
      omega

theorem ints_cell {H : Type} {enc : TypeId × Value → H} {W : World} {n : Nat} {c : Value} {y : DataW H × List MemPlace}
    (h : DataW.trod enc Tryz.prog W 0 (fun _ => true) true n 32 [c] = some y) : ∃ ns : List Int, Sl ic 1 W c ns ∧ (∀ z ∈ ns, I64 z) ∧ ns.length ≤ Rows.uptoBulk y.1 := by
  obtain ⟨v, fs, hv, hs, ho, hsum⟩ := rows_open ic I64 (fun _ => 1) 1 32 3 (by decide) ic_len Tryz.underlying32 cellsAll.2.2.2.1 (fun a c d p n' h1 h2 => by
    obtain ⟨z, h3, h4, h5⟩ := int_cell h1 h2
    exact ⟨z, ⟨h3, bulk_pos d⟩, h4, h5⟩) h
  cases hv
  refine ⟨fs, hs, ho, ?_⟩
  have hq : ∀ l : List Int, (l.map (fun _ => 1)).sum = l.length := fun l => by induction l with | nil => rfl | cons x r ih => simp only [List.map_cons, List.sum_cons, List.length_cons, ih]; omega
  rw [← hq fs]; exact hsum

theorem actl_cell {H : Type} {enc : TypeId × Value → H} {W : World} {n : Nat} {a : Addr} {cs : List Value} {d : DataW H} {p : List MemPlace}
    (hc : W.cells? 0 a 7 = some cs) (h : DataW.trod enc Tryz.prog W 0 (fun _ => true) true n 34 cs = some (d, p)) :
    ∃ f : ActL, (f.Is W ∧ f.size ≤ Rows.uptoBulk d) ∧ (∀ j, j < 7 → W.cell? (a.add j) = cs[j]?) ∧ cs = al f := by
  obtain ⟨f0, ok, hcell, rfl⟩ := act_open hc h
  obtain ⟨xs, n', hn, hx, hlen, hxs, hg⟩ := DataW.trod_struct Tryz.underlying34 h
  have hxs' : xs.length = 7 := hxs
  obtain ⟨y0, y1, y2, y3, y4, y5, y6, rfl⟩ := list7 xs hxs'
  have q5 : DataW.trod enc Tryz.prog W 0 (fun _ => true) true n' 32 (List.take (Tryz.prog.cellsOf 32) (List.drop 5 (ac f0))) = some y5 := hg 5 _ rfl
  rw [cAct.2] at q5
  have q6 : DataW.trod enc Tryz.prog W 0 (fun _ => true) true n' 32 (List.take (Tryz.prog.cellsOf 32) (List.drop 6 (ac f0))) = some y6 := hg 6 _ rfl
  rw [cAct.2] at q6
  obtain ⟨na, ha, hoa, hla⟩ := ints_cell (show DataW.trod enc Tryz.prog W 0 (fun _ => true) true n' 32 [.slice f0.va f0.vn f0.vc] = some y5 from q5)
  obtain ⟨nb, hb, hob, hlb⟩ := ints_cell (show DataW.trod enc Tryz.prog W 0 (fun _ => true) true n' 32 [.slice f0.ua f0.un f0.uc] = some y6 from q6)
  obtain ⟨rfl, -⟩ : d = _ ∧ p = _ := Prod.mk.inj hx
  refine ⟨⟨f0, na, nb⟩, ⟨⟨ok, ha, hb, hoa, hob⟩, ?_⟩, hcell, rfl⟩
  unfold ActL.size
  simp only [List.map_cons, List.map_nil, Rows.uptoBulk, Rows.uptoBulkAll]
  omega

set_option maxRecDepth 100000 in
theorem actl_open {H : Type} {enc : TypeId × Value → H} {W : World} {v : Value} {d : DataW H} {p : List MemPlace} {r : Reach} {base : Nat}
    (hval : Value.okWide Tryz.prog W r base 26 v) (h : DataW.Trod enc Tryz.prog W 0 (fun _ => true) true 26 v d p) :
    ∃ acts : List ActL, Sl al 7 W v acts ∧ (∀ y ∈ acts, y.Is W) ∧ (acts.map ActL.size).sum ≤ Rows.uptoBulk d := by
  obtain ⟨a0, len, cap, rfl⟩ := okWide_slice Tryz.underlying26 hval
  obtain ⟨fuel, hf⟩ := h
  obtain ⟨v1, fs, hv1, hs1, ho1, hl1⟩ := rows_open al (ActL.Is W) ActL.size 7 26 34 (by decide) al_len Tryz.underlying26 cAct.1 (fun a c d p n' h1 h2 => actl_cell h1 h2) hf
  simp [Value.cells] at hv1
  rw [← hv1] at hs1
  exact ⟨fs, hs1, ho1, hl1⟩

/-- The cost of acts: at most the square of their size, twice. -/
def costs (ys : List ActL) : Nat := (ys.map ActL.cost).sum
theorem costs_le : ∀ ys : List ActL, costs ys ≤ 2 * ((ys.map ActL.size).sum * (ys.map ActL.size).sum)
  | [] => by simp [costs]
  | y :: r => by
    have ih := costs_le r
    unfold costs at ih ⊢
    rw [List.map_cons, List.map_cons, List.sum_cons, List.sum_cons]
    generalize (r.map ActL.size).sum = S at ih ⊢
    generalize (r.map ActL.cost).sum = C at ih ⊢
    have h1 : y.cost ≤ 2 * (y.size * y.size) := by
      unfold ActL.cost ActL.size
      generalize y.a.length = p
      generalize y.b.length = q
      have h2 : p * q ≤ (p + q + 1) * (p + q + 1) - 1 := by
        have h3 : (p + q + 1) * (p + q + 1) = p * q + (p * p + q * p + (q * q + p) + (p + q) + q + 1) := by
          simp only [Nat.add_mul, Nat.mul_add, Nat.mul_one, Nat.one_mul]
          omega
        omega
      have h4 : 1 ≤ (p + q + 1) * (p + q + 1) := Nat.mul_pos (by omega) (by omega)
      omega
    have h5 : (y.size + S) * (y.size + S) = y.size * y.size + S * S + (y.size * S + S * y.size) := by
      simp only [Nat.add_mul, Nat.mul_add]
      omega
    rw [h5]
    omega
theorem costs_take (ys : List ActL) (i : Nat) (h : i < ys.length) : costs (ys.take (i + 1)) = costs (ys.take i) + ys[i].cost := by
  unfold costs
  rw [List.take_succ_eq_append_getElem h, List.map_append, List.sum_append]
  simp
theorem costs_upto (ys : List ActL) (i : Nat) : costs (ys.take i) ≤ costs ys := by
  have h : costs ys = costs (ys.take i) + costs (ys.drop i) := by
    unfold costs
    rw [← List.sum_append, ← List.map_append, List.take_append_drop]
  omega

end Go.Proofs.YtalnmbfmfeaohaaGreat.flight

namespace Go.Proofs.YtalnmbfmfeaohaaGreat.flight
open Go.RowKit
open Go.Proofs.YtalnmbfmfeaohaaGreat.kit Go.Proofs.YtalnmbfmfeaohaaGreat.own
set_option linter.unusedVariables false

set_option maxHeartbeats 8000000 in
set_option maxRecDepth 100000 in
theorem ints_any (s1 s2 : Value) (fa fb : List Int) (w : World) (hs1 : Sl ic 1 w s1 fa) (hs2 : Sl ic 1 w s2 fb) :
    Calls Tryz.prog 16 #[s1, s2] w (EqS w fa fb) := by
  obtain ⟨hl1, a1, cap1, rfl, _, _⟩ := id hs1
  obtain ⟨hl2, a2, cap2, rfl, _, _⟩ := id hs2
  by_cases hlen : fa.length = fb.length
  · have HS1 := Lib.hid hs1; have HS2 := Lib.hid hs2
    have HLen := Lib.hid hlen
    obtain ⟨L, hL⟩ : ∃ L, fb.length = L := ⟨_, rfl⟩
    rw [hL] at hlen
    have HL1 := Lib.hid hlen; have HL2 := Lib.hid hL
    rw [hlen] at hl1 ⊢
    rw [hL] at hl2 ⊢
    clear hs1 hs2 hL hlen
    rename_i hx1 hx2 hx3 hx4
    clear hx1 hx2 hx3 hx4
    go_enter Tryz.func16, Tryz.ntmps16
    go_wp2
    go_loopw [5] (fun i wr => ∃ k : Nat, k ≤ L ∧ i = .int .i64 k ∧ fa.take k = fb.take k ∧ Below w.heap.size w wr) (fun i _ => L - (intOf i).toNat)
    case atStart => exact ⟨0, by omega, rfl, rfl, Below.refl _ _⟩
    case round =>
      obtain ⟨k, hk, rfl, heq, hb⟩ := hrel
      have HB := Lib.hid hb; have HE := Lib.hid heq
      clear hb heq
      by_cases hlt : k < L
      · have hlt' : (k : Int) < L := by omega
        have hk0 : (0 : Int) ≤ k := by omega
        have hi1 : k < fa.length := by rw [HL1.out]; exact hlt
        have hi2 : k < fb.length := by rw [HL2.out]; exact hlt
        have hsa := HS1.out.keep HB.out
        obtain ⟨_, a', cap', he, -, hcell⟩ := hsa
        cases he
        obtain ⟨b, off, rfl, hbl, hcell⟩ := hcell (by omega)
        have c1 := icell_at (hcell k hi1)
        clear hcell
        have hsb := HS2.out.keep HB.out
        obtain ⟨_, a', cap', he, -, hcell⟩ := hsb
        cases he
        obtain ⟨b2, off2, rfl, hbl2, hcell⟩ := hcell (by omega)
        have d1 := icell_at (hcell k hi2)
        rw [Nat.mul_one] at c1 d1
        have ht1 : fa.take (k + 1) = fa.take k ++ [fa[k]] := List.take_succ_eq_append_getElem hi1
        have ht2 : fb.take (k + 1) = fb.take k ++ [fb[k]] := List.take_succ_eq_append_getElem hi2
        have hne : fa[k] ≠ fb[k] → fa ≠ fb := fun h e => h (by subst e; rfl)
        obtain ⟨f, hf⟩ : ∃ f, fa[k] = f := ⟨_, rfl⟩
        obtain ⟨g, hg⟩ : ∃ g, fb[k] = g := ⟨_, rfl⟩
        rw [hf] at c1 ht1 hne
        rw [hg] at d1 ht2 hne
        have HT1 := Lib.hid ht1; have HT2 := Lib.hid ht2; have HNe := Lib.hid hne
        clear hcell hf hg ht1 ht2 hne hbl hbl2
        by_cases hfg : f = g
        · subst hfg
          go_upto_region 6 with fail
          go_quiet (fail)
          have HBn := Lib.hid (HB.out.drewN' nq)
          clear c1 d1
          go_wp2
          go_roundw
          case rel => exact ⟨k + 1, by omega, by go_num, by rw [HT1.out, HT2.out, HE.out], HBn.out⟩
          case measure => simp [intOf]; omega
        · have HNq := Lib.hid (HNe.out hfg)
          have hnf : True → (f != g) = true := fun _ => by simp [hfg]
          have hnf2 : True → (f == g) = false := fun _ => by simp [hfg]
          go_upto_region 6 with fail
          go_quiet (fail)
          have HBn := Lib.hid (HB.out.drewN' nq)
          clear c1 d1 hnf hnf2
          go_wp2
          go_ret
          exact ⟨false, rfl, ⟨fun h => (by cases h), fun h => absurd h HNq.out⟩, HBn.out⟩
      · obtain rfl : k = L := by omega
        go_wp2
        go_ret
        refine ⟨true, rfl, ⟨fun _ => ?_, fun _ => rfl⟩, HB.out⟩
        have := HE.out
        rw [← HL1.out, List.take_length, HLen.out, List.take_length] at this
        exact this
  · have hne : ¬ (fa.length : Int) = fb.length := by omega
    have hnq : fa ≠ fb := fun e => hlen (by rw [e])
    have HNq := Lib.hid hnq
    clear hs1 hs2 hlen hnq
    rename_i hx1 hx2 hx3 hx4
    clear hx1 hx2 hx3 hx4
    go_enter Tryz.func16, Tryz.ntmps16
    go_wp2
    go_ret
    exact ⟨false, rfl, ⟨fun h => (by cases h), fun h => absurd h HNq.out⟩, Below.refl _ _⟩

end Go.Proofs.YtalnmbfmfeaohaaGreat.flight

namespace Go.Proofs.YtalnmbfmfeaohaaGreat.flight
open Go.RowKit
open Go.Proofs.YtalnmbfmfeaohaaGreat.kit Go.Proofs.YtalnmbfmfeaohaaGreat.own
set_option linter.unusedVariables false

def bA : ByteArray := { data := #[97] }
def bB : ByteArray := { data := #[98] }
def f1 : Flt := ⟨1, [⟨1, 1, 2, bA⟩], []⟩
def f2 : Flt := ⟨2, [⟨1, 1, 2, bA⟩, ⟨2, 2, 1, bB⟩], []⟩
def f3 : Flt := ⟨3, [⟨1, 1, 2, bA⟩, ⟨2, 2, 1, bB⟩, ⟨3, 1, 2, bA⟩], []⟩
def f4 : Flt := ⟨3, [⟨2, 2, 1, bB⟩], [(1, 2)]⟩
theorem n1 : f1.next = 1 := rfl
theorem n2 : f2.next = 2 := rfl
theorem n3 : f3.next = 3 := rfl
theorem n4 : f4.next = 3 := rfl
theorem put1 : putE ⟨0, [], []⟩ 1 2 bA = (f1, 1, 0) := rfl
theorem put2 : putE f1 2 1 bB = (f2, 2, 0) := rfl
theorem dbl3 : dblE f2 1 = (f3, 3, 0) := rfl
theorem on4 : onE (1, 2) f3.list = [1, 3] := rfl
theorem old5 : oldE f3 1 = (2, true) := rfl
theorem sort6 : setW (f3.cut ++ thereL [1] [2]) = [(1, 2)] := by
  show setW [(1, 2)] = _
  unfold setW sortW
  rw [List.mergeSort_singleton]
  rfl
theorem cut6 : (⟨f3.next, f3.list.filter (fun x => !inWays (thereL [1] [2]) x), setW (f3.cut ++ thereL [1] [2])⟩ : Flt) = f4 ∧ (f3.list.length : Int) - (f3.list.filter (fun x => !inWays (thereL [1] [2]) x)).length = 2 := by
  rw [sort6]
  exact ⟨rfl, rfl⟩
theorem put7 (t : ByteArray) : putE f4 1 2 t = (f4, 0, 40) := rfl
theorem fit8 : f3.fit = true := by decide
theorem fits3 : f3.Fits := ⟨by unfold Frm.Ok I64; decide, by simp [f3], by decide, by decide⟩
theorem ok3 : ∀ x ∈ f3.list, Frm.Ok x := by unfold Frm.Ok I64; decide
theorem ok12 : Wy.Ok (1, 2) := by unfold Wy.Ok; decide
theorem ok21 : Wy.Ok (2, 1) := by unfold Wy.Ok; decide

theorem sl_two (w : World) (a b : Int) (e n : Nat) (hn : n = w.heap.size) : Sl ic 1 (w.alloc (.cells #[.int .i64 a, .int .i64 b] e)) (.slice (some ⟨n, 0, none⟩) 2 2) [a, b] := by
  subst hn
  refine ⟨by simp, _, _, rfl, fun h => (by cases h), fun _ => ⟨w.heap.size, 0, rfl, by simp, fun j hj i u hu => ?_⟩⟩
  rw [World.cell?_alloc_at _ _ _ _ rfl]
  match j, hj, i, hu with
  | 0, _, 0, hu => simpa [ic] using hu
  | 0, _, i + 1, hu => simp [ic] at hu
  | 1, _, 0, hu => simpa [ic] using hu
  | 1, _, i + 1, hu => simp [ic] at hu

set_option maxHeartbeats 8000000 in
set_option maxRecDepth 100000 in
theorem awake_any (w : World) : Calls Tryz.prog 5 #[] w fun e w' => e = .returned (.bool true) ∧ Below w.heap.size w w' := by
  go_enter Tryz.func5, Tryz.ntmps5
  go_wp2_with fail
  refine (Put_any _ ⟨0, [], []⟩ 1 2 bA _ ⟨_, _, rfl, Sl.nil _, Sl.nil _⟩ (by simp) ok12 (by decide) (by decide) (by unfold I64; decide)).mono ?_
  rintro e w1 ⟨vl, vc, rfl, ho1, ho2, hb⟩
  rw [put1] at ho1 ho2
  simp only [put1, n1]
  obtain ⟨al, cl, hv1⟩ := ho1.slice
  obtain ⟨ac, cc, hv2⟩ := ho2.slice
  obtain rfl : vl = .slice al 1 cl := hv1
  obtain rfl : vc = .slice ac 0 cc := hv2
  have hn := below_new w1 (.cells #[.int .i64 1, .slice al 1 cl, .slice ac 0 cc] 25)
  have HX := Lib.hid (fbox_new w1 1 (.slice al 1 cl) (.slice ac 0 cc))
  have HF := Lib.hid (show FlR (w1.alloc (.cells #[.int .i64 1, .slice al 1 cl, .slice ac 0 cc] 25)) (.agg #[.int .i64 1, .slice al 1 cl, .slice ac 0 cc]) f1 from ⟨_, _, rfl, (ho1.below hn).read fc_len, (ho2.below hn).read wc_len⟩)
  have HB := Lib.hid (hb.trans (hn.mono hb.size))
  have HZ := Lib.hid (show w.heap.size ≤ w1.heap.size from hb.size)
  clear ho1 ho2 hb hn
  go_upto_region 2 with fail
  generalize w1.alloc (.cells #[.int .i64 1, .slice al 1 cl, .slice ac 0 cc] 25) = W1 at HX HF HB ⊢
  generalize w1.heap.size = N at HX HZ ⊢
  obtain ⟨e1, e2, e3⟩ := HX.out.cells
  go_wp2_with fail
  refine (Put_any _ f1 2 1 bB _ HF.out (by simp [f1]) ok21 (by decide) (by decide) (by unfold I64; decide)).mono ?_
  rintro e w2 ⟨vl, vc, rfl, ho1, ho2, hb⟩
  rw [put2] at ho1 ho2
  simp only [put2, n2]
  obtain ⟨al2, cl2, hv1⟩ := ho1.slice
  obtain ⟨ac2, cc2, hv2⟩ := ho2.slice
  obtain rfl : vl = .slice al2 2 cl2 := hv1
  obtain rfl : vc = .slice ac2 0 cc2 := hv2
  have HXo := Lib.hid (HX.out.keep hb)
  have hNl := HX.out.lt
  have HX2 := Lib.hid ((HXo.out).set 2 (.slice al2 2 cl2) (.slice ac2 0 cc2))
  have HO1 := Lib.hid (ho1.set3 hNl (.int .i64 2) (.slice al2 2 cl2) (.slice ac2 0 cc2))
  have HO2 := Lib.hid (ho2.set3 hNl (.int .i64 2) (.slice al2 2 cl2) (.slice ac2 0 cc2))
  have HB2 := Lib.hid (below_set3 (HB.out.trans (hb.mono HB.out.size)) HZ.out (.int .i64 2) (.slice al2 2 cl2) (.slice ac2 0 cc2))
  clear ho1 ho2 hb hNl e1 e2 e3
  obtain ⟨e1, e2, e3⟩ := HXo.out.cells
  obtain ⟨t1, t2, t3⟩ := HXo.out.thaw
  go_upto_region 3 with fail
  generalize (((w2.setCell ⟨N, 0, none⟩ (.int .i64 2)).setCell ⟨N, 1, none⟩ (.slice al2 2 cl2)).setCell ⟨N, 2, none⟩ (.slice ac2 0 cc2)) = W2 at HX2 HO1 HO2 HB2 ⊢
  clear HF HX HB HXo e1 e2 e3 t1 t2 t3
  have HF := Lib.hid (show FlR W2 (.agg #[.int .i64 2, .slice al2 2 cl2, .slice ac2 0 cc2]) f2 from ⟨_, _, rfl, HO1.out.read fc_len, HO2.out.read wc_len⟩)
  have HX := HX2; have HB := HB2
  clear HX2 HB2 HO1 HO2
  obtain ⟨e1, e2, e3⟩ := HX.out.cells
  go_wp2_with fail
  refine (Double_any _ f2 1 _ HF.out (by unfold Frm.Ok I64; decide) (by simp [f2]) (by decide) (by decide) (by unfold I64; decide)).mono ?_
  rintro e w3 ⟨vl, vc, rfl, ho1, ho2, hb⟩
  rw [dbl3] at ho1 ho2
  simp only [dbl3, n3]
  obtain ⟨al3, cl3, hv1⟩ := ho1.slice
  obtain ⟨ac3, cc3, hv2⟩ := ho2.slice
  obtain rfl : vl = .slice al3 3 cl3 := hv1
  obtain rfl : vc = .slice ac3 0 cc3 := hv2
  have HXo := Lib.hid (HX.out.keep hb)
  have hNl := HX.out.lt
  have HX3 := Lib.hid ((HXo.out).set 3 (.slice al3 3 cl3) (.slice ac3 0 cc3))
  have HO1 := Lib.hid (ho1.set3 hNl (.int .i64 3) (.slice al3 3 cl3) (.slice ac3 0 cc3))
  have HO2 := Lib.hid (ho2.set3 hNl (.int .i64 3) (.slice al3 3 cl3) (.slice ac3 0 cc3))
  have HB3 := Lib.hid (below_set3 (HB.out.trans (hb.mono HB.out.size)) HZ.out (.int .i64 3) (.slice al3 3 cl3) (.slice ac3 0 cc3))
  clear ho1 ho2 hb hNl e1 e2 e3
  obtain ⟨e1, e2, e3⟩ := HXo.out.cells
  obtain ⟨t1, t2, t3⟩ := HXo.out.thaw
  go_upto_region 4 with fail
  generalize (((w3.setCell ⟨N, 0, none⟩ (.int .i64 3)).setCell ⟨N, 1, none⟩ (.slice al3 3 cl3)).setCell ⟨N, 2, none⟩ (.slice ac3 0 cc3)) = W3 at HX3 HO1 HO2 HB3 ⊢
  clear HF HX HB HXo e1 e2 e3 t1 t2 t3
  have HF := Lib.hid (show FlR W3 (.agg #[.int .i64 3, .slice al3 3 cl3, .slice ac3 0 cc3]) f3 from ⟨_, _, rfl, HO1.out.read fc_len, HO2.out.read wc_len⟩)
  have HX := HX3; have HB := HB3
  clear HX3 HB3 HO1 HO2
  obtain ⟨e1, e2, e3⟩ := HX.out.cells
  go_wp2_with fail
  refine (On_any _ f3 1 2 _ HF.out (by unfold Frm.Ok I64; decide) (by decide)).mono ?_
  rintro e w4 ⟨v4, rfl, ho4, hb⟩
  rw [on4] at ho4
  obtain ⟨ax, cx, hv4⟩ := ho4.slice
  obtain rfl : v4 = .slice ax 2 cx := hv4
  have HO4 := Lib.hid (ho4.read ic_len)
  have HX4 := Lib.hid (HX.out.keep hb); have HF4 := Lib.hid (HF.out.keep hb); have HB4 := Lib.hid (HB.out.trans (hb.mono HB.out.size))
  clear ho4 hb e1 e2 e3
  go_upto_region 5 with fail
  obtain ⟨e1, e2, e3⟩ := HX4.out.cells
  go_wp2_with fail
  refine (Oldest_any _ f3 1 _ HF4.out (by unfold Frm.Ok I64; decide)).mono ?_
  rintro e w5 ⟨rfl, hb⟩
  simp only [old5]
  have HX5 := Lib.hid (HX4.out.keep hb); have HF5 := Lib.hid (HF4.out.keep hb); have HB5 := Lib.hid (HB4.out.trans (hb.mono HB4.out.size))
  have HO5 := Lib.hid (HO4.out.keep hb)
  clear hb e1 e2 e3
  go_upto_region 6 with fail
  obtain ⟨e1, e2, e3⟩ := HX5.out.cells
  go_wp2_with fail
  refine (Cut_any _ f3 1 2 _ HF5.out fits3 ok12 (by decide)).mono ?_
  rintro e w6 ⟨vl, vc, rfl, ho1, ho2, hb⟩
  rw [cut6.1] at ho1 ho2
  rw [cut6.2, show (⟨f3.next, f3.list.filter (fun x => !inWays (thereL [1] [2]) x), setW (f3.cut ++ thereL [1] [2])⟩ : Flt).next = 3 from rfl]
  obtain ⟨al6, cl6, hv1⟩ := ho1.slice
  obtain ⟨ac6, cc6, hv2⟩ := ho2.slice
  obtain rfl : vl = .slice al6 1 cl6 := hv1
  obtain rfl : vc = .slice ac6 1 cc6 := hv2
  have hn := below_new w6 (.cells #[.int .i64 3, .slice al6 1 cl6, .slice ac6 1 cc6] 25)
  have hbb := hb.trans (hn.mono hb.size)
  have HX6 := Lib.hid (HX5.out.keep hbb); have HF6 := Lib.hid (HF5.out.keep hbb); have HB6 := Lib.hid (HB5.out.trans (hbb.mono HB5.out.size))
  have HO6 := Lib.hid (HO5.out.keep hbb)
  have HG := Lib.hid (fbox_new w6 3 (.slice al6 1 cl6) (.slice ac6 1 cc6))
  have HFg := Lib.hid (show FlR (w6.alloc (.cells #[.int .i64 3, .slice al6 1 cl6, .slice ac6 1 cc6] 25)) (.agg #[.int .i64 3, .slice al6 1 cl6, .slice ac6 1 cc6]) f4 from ⟨_, _, rfl, (ho1.below hn).read fc_len, (ho2.below hn).read wc_len⟩)
  clear ho1 ho2 hb hn hbb e1 e2 e3
  go_upto_region 7 with fail
  generalize w6.alloc (.cells #[.int .i64 3, .slice al6 1 cl6, .slice ac6 1 cc6] 25) = W6 at HX6 HF6 HB6 HO6 HG HFg ⊢
  generalize w6.heap.size = N6 at HG ⊢
  obtain ⟨e1, e2, e3⟩ := HG.out.cells
  go_wp2_with fail
  refine (Put_any _ f4 1 2 { data := #[99] } _ HFg.out (by unfold Wy.Ok; decide) ok12 (by decide) (by decide) (by unfold I64; decide)).mono ?_
  rintro e w7 ⟨vl, vc, rfl, ho1, ho2, hb⟩
  simp only [put7, n4]
  obtain ⟨al7, cl7, rfl⟩ := ho1.slice
  obtain ⟨ac7, cc7, rfl⟩ := ho2.slice
  rw [put7]
  have hn := below_new w7 (.cells #[.int .i64 3, .slice al7 f4.list.length cl7, .slice ac7 f4.cut.length cc7] 25)
  have hbb := hb.trans (hn.mono hb.size)
  have HX7 := Lib.hid (HX6.out.keep hbb); have HF7 := Lib.hid (HF6.out.keep hbb); have HB7 := Lib.hid (HB6.out.trans (hbb.mono HB6.out.size))
  have HO7 := Lib.hid (HO6.out.keep hbb)
  clear ho1 ho2 hb hn hbb e1 e2 e3
  go_upto_region 8 with fail
  generalize w7.alloc (.cells #[.int .i64 3, .slice al7 f4.list.length cl7, .slice ac7 f4.cut.length cc7] 25) = W7 at HX7 HF7 HB7 HO7 ⊢
  have HOc := Lib.hid (below_new W7 (.cells #[.int .i64 1, .int .i64 3] 2))
  have HS8 := Lib.hid (sl_two W7 1 3 2 _ rfl)
  have HX8 := Lib.hid (HX7.out.keep HOc.out); have HF8 := Lib.hid (HF7.out.keep HOc.out); have HO8 := Lib.hid (HO7.out.keep HOc.out)
  have HB8 := Lib.hid (HB7.out.trans (HOc.out.mono HB7.out.size))
  go_wp2_with fail
  refine (ints_any _ _ [1, 3] [1, 3] _ HO8.out HS8.out).mono ?_
  rintro e w9 ⟨r, rfl, hr, hb⟩
  obtain rfl : r = true := hr.2 rfl
  have HX9 := Lib.hid (HX8.out.keep hb); have HF9 := Lib.hid (HF8.out.keep hb); have HB9 := Lib.hid (HB8.out.trans (hb.mono HB8.out.size))
  clear hr hb
  obtain ⟨e1, e2, e3⟩ := HX9.out.cells
  go_wp2_with fail
  refine (Fit_any _ f3 _ HF9.out).mono ?_
  rintro e w10 ⟨rfl, hb⟩
  rw [fit8]
  have HB10 := Lib.hid (HB9.out.trans (hb.mono HB9.out.size))
  clear hb e1 e2 e3
  go_wp2
  go_ret
  exact ⟨rfl, HB10.out⟩

end Go.Proofs.YtalnmbfmfeaohaaGreat.flight

namespace Go.Proofs.YtalnmbfmfeaohaaGreat.flight
open Go.RowKit
open Go.Proofs.YtalnmbfmfeaohaaGreat.kit Go.Proofs.YtalnmbfmfeaohaaGreat.own
set_option linter.unusedVariables false

set_option maxHeartbeats 8000000 in
set_option maxRecDepth 100000 in
theorem rSame_any (v1 v2 : Value) (f g : Flt) (w : World) (h1 : FlR w v1 f) (h2 : FlR w v2 g) : Calls Tryz.prog 8 #[v1, v2] w (SameS w f g) := by
  obtain ⟨vl, vc, rfl, hl, hc⟩ := h1
  obtain ⟨vl2, vc2, rfl, hl2, hc2⟩ := h2
  have hb1 := below_new w (.cells #[.int .i64 f.next, vl, vc] 25)
  have hb2 := below_new (w.alloc (.cells #[.int .i64 f.next, vl, vc] 25)) (.cells #[.int .i64 g.next, vl2, vc2] 25)
  have hx1 := (fbox_new w f.next vl vc).keep hb2
  have hx2 := fbox_new (w.alloc (.cells #[.int .i64 f.next, vl, vc] 25)) g.next vl2 vc2
  rw [World.size_alloc] at hx2
  have hb := hb1.trans (hb2.mono (by simp))
  have HS1 := Lib.hid (hl.keep hb); have HS2 := Lib.hid (hc.keep hb); have HS3 := Lib.hid (hl2.keep hb); have HS4 := Lib.hid (hc2.keep hb)
  have HX1 := Lib.hid hx1; have HX2 := Lib.hid hx2; have HB := Lib.hid hb
  have hg1 := hl.1; have hg2 := hc.1; have hg3 := hl2.1; have hg4 := hc2.1
  obtain ⟨a1, c1, rfl⟩ := hl.slice
  obtain ⟨a2, c2, rfl⟩ := hc.slice
  obtain ⟨a3, c3, rfl⟩ := hl2.slice
  obtain ⟨a4, c4, rfl⟩ := hc2.slice
  obtain ⟨n, l, c⟩ := f
  obtain ⟨m, l', c'⟩ := g
  simp only at HS1 HS2 HS3 HS4 HX1 HX2 HB hg1 hg2 hg3 hg4 ⊢
  clear hl hc hl2 hc2 hb1 hb2 hx1 hx2 hb
  have HE : Hid (((⟨n, l, c⟩ : Flt) = ⟨m, l', c'⟩) ↔ n = m ∧ l = l' ∧ c = c') := by show _ ↔ _; simp
  obtain ⟨L1, hL1⟩ : ∃ L, l.length = L := ⟨_, rfl⟩
  obtain ⟨L2, hL2⟩ : ∃ L, c.length = L := ⟨_, rfl⟩
  obtain ⟨M1, hM1⟩ : ∃ L, l'.length = L := ⟨_, rfl⟩
  obtain ⟨M2, hM2⟩ : ∃ L, c'.length = L := ⟨_, rfl⟩
  simp only [hL1, hL2, hM1, hM2] at HS1 HS2 HS3 HS4 HX1 HX2 HB hg1 hg2 hg3 hg4 ⊢
  have HL1 := Lib.hid hL1; have HL2 := Lib.hid hL2; have HM1 := Lib.hid hM1; have HM2 := Lib.hid hM2
  clear hL1 hL2 hM1 hM2
  by_cases hnm : n = m
  · have hq : True → (n != m) = false := fun _ => by simp [hnm]
    have HN := Lib.hid hnm
    clear hnm
    by_cases h1 : L1 = M1
    · by_cases h2 : L2 = M2
      · subst h1 h2
        go_enter Tryz.func8, Tryz.ntmps8
        go_upto_region 1 with fail
        generalize (w.alloc (.cells #[.int .i64 n, _, _] 25)).alloc _ = W at HS1 HS2 HS3 HS4 HX1 HX2 HB ⊢
        generalize w.heap.size + 1 = N2 at HX2 ⊢
        obtain ⟨N, hN⟩ : ∃ N, w.heap.size = N := ⟨_, rfl⟩
        rw [hN] at HX1 ⊢
        clear hN
        obtain ⟨e1, e2, e3⟩ := HX1.out.cells
        obtain ⟨k1, k2, k3⟩ := HX2.out.cells
        go_wp2
        clear e1 e2 e3 k1 k2 k3
        go_loopw [5] (fun i wr => ∃ k : Nat, k ≤ L1 ∧ i = .int .i64 k ∧ l.take k = l'.take k ∧ Below W.heap.size W wr) (fun i _ => L1 - (intOf i).toNat)
        case atStart => exact ⟨0, by omega, rfl, rfl, Below.refl _ _⟩
        case round =>
          obtain ⟨k, hk, rfl, heq, hb⟩ := hrel
          have HW := Lib.hid hb; have HT := Lib.hid heq
          clear hb heq
          obtain ⟨e1, e2, e3⟩ := (HX1.out.keep HW.out).cells
          obtain ⟨k1, k2, k3⟩ := (HX2.out.keep HW.out).cells
          by_cases hlt : k < L1
          · have hlt' : (k : Int) < L1 := by omega
            have hk0 : (0 : Int) ≤ k := by omega
            have hi1 : k < l.length := by rw [HL1.out]; exact hlt
            have hi2 : k < l'.length := by rw [HM1.out]; exact hlt
            have hsa := HS1.out.keep HW.out
            rw [← HL1.out] at hsa
            obtain ⟨_, a', cap', he, -, hcell⟩ := hsa
            cases he
            obtain ⟨b1, off, rfl, hbl, hcell⟩ := hcell (by omega)
            obtain ⟨c10, c11, c12, c13⟩ := fcells_at (hcell k hi1)
            clear hcell
            have hsb := HS3.out.keep HW.out
            rw [← HM1.out] at hsb
            obtain ⟨_, a', cap', he, -, hcell⟩ := hsb
            cases he
            obtain ⟨b2, off2, rfl, hbl2, hcell⟩ := hcell (by omega)
            obtain ⟨d10, d11, d12, d13⟩ := fcells_at (hcell k hi2)
            have ht1 : l.take (k + 1) = l.take k ++ [l[k]] := List.take_succ_eq_append_getElem hi1
            have ht2 : l'.take (k + 1) = l'.take k ++ [l'[k]] := List.take_succ_eq_append_getElem hi2
            have hne : l[k] ≠ l'[k] → l ≠ l' := fun h e => h (by subst e; rfl)
            obtain ⟨f, hf⟩ : ∃ f, l[k] = f := ⟨_, rfl⟩
            obtain ⟨g, hg⟩ : ∃ g, l'[k] = g := ⟨_, rfl⟩
            rw [hf] at c10 c11 c12 c13 ht1 hne
            rw [hg] at d10 d11 d12 d13 ht2 hne
            have HT1 := Lib.hid ht1; have HT2 := Lib.hid ht2; have HNe := Lib.hid hne
            clear hcell hf hg ht1 ht2 hne hbl hbl2
            by_cases hfg : f = g
            · subst hfg
              go_upto_region 6 with fail
              go_quiet (fail)
              have HBn := Lib.hid (HW.out.drewN' nq)
              clear c10 c11 c12 c13 d10 d11 d12 d13 e1 e2 e3 k1 k2 k3
              go_wp2
              go_roundw
              case rel => exact ⟨k + 1, by omega, by go_num, by rw [HT1.out, HT2.out, HT.out], HBn.out⟩
              case measure => simp [intOf]; omega
            · have HNq := Lib.hid (HNe.out hfg)
              have hnf := neq_frm f g hfg
              go_upto_region 6 with fail
              go_quiet (fail)
              have HBn := Lib.hid (HB.out.trans ((HW.out.drewN' nq).mono HB.out.size))
              clear c10 c11 c12 c13 d10 d11 d12 d13 hnf e1 e2 e3 k1 k2 k3
              go_wp2
              go_ret
              exact ⟨false, rfl, ⟨fun h => (by cases h), fun h => absurd (HE.out.1 h).2.1 HNq.out⟩, HBn.out⟩
          · obtain rfl : k = L1 := by omega
            have HW1 := Lib.hid HW.out
            have HEL : Hid (l = l') := by
              have := HT.out
              rw [← HL1.out, List.take_length, HL1.out, ← HM1.out, List.take_length] at this
              exact this
            clear HW HT
            go_wp2
            clear e1 e2 e3 k1 k2 k3
            go_loopw [6] (fun i wr => ∃ k : Nat, k ≤ L2 ∧ i = .int .i64 k ∧ c.take k = c'.take k ∧ Below W.heap.size W wr) (fun i _ => L2 - (intOf i).toNat)
            case atStart => exact ⟨0, by omega, rfl, rfl, HW1.out⟩
            case round =>
              obtain ⟨k, hk, rfl, heq, hb⟩ := hrel
              have HW := Lib.hid hb; have HT := Lib.hid heq
              clear hb heq
              obtain ⟨e1, e2, e3⟩ := (HX1.out.keep HW.out).cells
              obtain ⟨k1, k2, k3⟩ := (HX2.out.keep HW.out).cells
              by_cases hlt : k < L2
              · have hlt' : (k : Int) < L2 := by omega
                have hk0 : (0 : Int) ≤ k := by omega
                have hi1 : k < c.length := by rw [HL2.out]; exact hlt
                have hi2 : k < c'.length := by rw [HM2.out]; exact hlt
                have hsa := HS2.out.keep HW.out
                rw [← HL2.out] at hsa
                obtain ⟨_, a', cap', he, -, hcell⟩ := hsa
                cases he
                obtain ⟨b1, off, rfl, hbl, hcell⟩ := hcell (by omega)
                obtain ⟨c10, c11⟩ := wcells_at (hcell k hi1)
                clear hcell
                have hsb := HS4.out.keep HW.out
                rw [← HM2.out] at hsb
                obtain ⟨_, a', cap', he, -, hcell⟩ := hsb
                cases he
                obtain ⟨b2, off2, rfl, hbl2, hcell⟩ := hcell (by omega)
                obtain ⟨d10, d11⟩ := wcells_at (hcell k hi2)
                have ht1 : c.take (k + 1) = c.take k ++ [c[k]] := List.take_succ_eq_append_getElem hi1
                have ht2 : c'.take (k + 1) = c'.take k ++ [c'[k]] := List.take_succ_eq_append_getElem hi2
                have hne : c[k] ≠ c'[k] → c ≠ c' := fun h e => h (by subst e; rfl)
                obtain ⟨f, hf⟩ : ∃ f, c[k] = f := ⟨_, rfl⟩
                obtain ⟨g, hg⟩ : ∃ g, c'[k] = g := ⟨_, rfl⟩
                rw [hf] at c10 c11 ht1 hne
                rw [hg] at d10 d11 ht2 hne
                have HT1 := Lib.hid ht1; have HT2 := Lib.hid ht2; have HNe := Lib.hid hne
                clear hcell hf hg ht1 ht2 hne hbl hbl2
                by_cases hfg : f = g
                · subst hfg
                  go_upto_region 11 with fail
                  go_quiet (fail)
                  have HBn := Lib.hid (HW.out.drewN' nq)
                  clear c10 c11 d10 d11 e1 e2 e3 k1 k2 k3
                  go_wp2
                  go_roundw
                  case rel => exact ⟨k + 1, by omega, by go_num, by rw [HT1.out, HT2.out, HT.out], HBn.out⟩
                  case measure => simp [intOf]; omega
                · have HNq := Lib.hid (HNe.out hfg)
                  have hnf := neq_way f g hfg
                  go_upto_region 11 with fail
                  go_quiet (fail)
                  have HBn := Lib.hid (HB.out.trans ((HW.out.drewN' nq).mono HB.out.size))
                  clear c10 c11 d10 d11 hnf e1 e2 e3 k1 k2 k3
                  go_wp2
                  go_ret
                  exact ⟨false, rfl, ⟨fun h => (by cases h), fun h => absurd (HE.out.1 h).2.2 HNq.out⟩, HBn.out⟩
              · obtain rfl : k = L2 := by omega
                go_wp2
                go_ret
                refine ⟨true, rfl, ⟨fun _ => HE.out.2 ⟨HN.out, HEL.out, ?_⟩, fun _ => rfl⟩, HB.out.trans (HW.out.mono HB.out.size)⟩
                have := HT.out
                rw [← HL2.out, List.take_length, HL2.out, ← HM2.out, List.take_length] at this
                exact this
      · have hne : ¬ (L2 : Int) = M2 := by omega
        have HNq : Hid (¬ c = c') := fun e => h2 (by rw [← HM2.out, ← HL2.out, e])
        subst h1
        go_enter Tryz.func8, Tryz.ntmps8
        go_upto_region 1 with fail
        generalize (w.alloc (.cells #[.int .i64 n, _, _] 25)).alloc _ = W at HS1 HS2 HS3 HS4 HX1 HX2 HB ⊢
        generalize w.heap.size + 1 = N2 at HX2 ⊢
        obtain ⟨N, hN⟩ : ∃ N, w.heap.size = N := ⟨_, rfl⟩
        rw [hN] at HX1 ⊢
        clear hN
        obtain ⟨e1, e2, e3⟩ := HX1.out.cells
        obtain ⟨k1, k2, k3⟩ := HX2.out.cells
        go_wp2
        go_ret
        exact ⟨false, rfl, ⟨fun h => (by cases h), fun h => absurd (HE.out.1 h).2.2 HNq.out⟩, HB.out⟩
    · have hne : ¬ (L1 : Int) = M1 := by omega
      have HNq : Hid (¬ l = l') := fun e => h1 (by rw [← HM1.out, ← HL1.out, e])
      go_enter Tryz.func8, Tryz.ntmps8
      go_upto_region 1 with fail
      generalize (w.alloc (.cells #[.int .i64 n, _, _] 25)).alloc _ = W at HS1 HS2 HS3 HS4 HX1 HX2 HB ⊢
      generalize w.heap.size + 1 = N2 at HX2 ⊢
      obtain ⟨N, hN⟩ : ∃ N, w.heap.size = N := ⟨_, rfl⟩
      rw [hN] at HX1 ⊢
      clear hN
      obtain ⟨e1, e2, e3⟩ := HX1.out.cells
      obtain ⟨k1, k2, k3⟩ := HX2.out.cells
      go_wp2
      go_ret
      exact ⟨false, rfl, ⟨fun h => (by cases h), fun h => absurd (HE.out.1 h).2.1 HNq.out⟩, HB.out⟩
  · have hq : True → (n != m) = true := fun _ => by simp [hnm]
    have HN := Lib.hid hnm
    clear hnm
    go_enter Tryz.func8, Tryz.ntmps8
    go_upto_region 1 with fail
    generalize (w.alloc (.cells #[.int .i64 n, _, _] 25)).alloc _ = W at HS1 HS2 HS3 HS4 HX1 HX2 HB ⊢
    generalize w.heap.size + 1 = N2 at HX2 ⊢
    obtain ⟨N, hN⟩ : ∃ N, w.heap.size = N := ⟨_, rfl⟩
    rw [hN] at HX1 ⊢
    clear hN
    obtain ⟨e1, e2, e3⟩ := HX1.out.cells
    obtain ⟨k1, k2, k3⟩ := HX2.out.cells
    go_wp2
    go_ret
    exact ⟨false, rfl, ⟨fun h => (by cases h), fun h => absurd (HE.out.1 h).1 HN.out⟩, HB.out⟩

end Go.Proofs.YtalnmbfmfeaohaaGreat.flight

namespace Go.Proofs.YtalnmbfmfeaohaaGreat.flight
open Go.RowKit
open Go.Proofs.YtalnmbfmfeaohaaGreat.kit Go.Proofs.YtalnmbfmfeaohaaGreat.own
set_option linter.unusedVariables false

/-- The last number that was read. -/
def LastIs (l : List Frm) (k : Nat) (last : Int) : Prop := (k = 0 → last = 0) ∧ (∀ m, k = m + 1 → l[m]?.map Frm.num = some last) ∧ 0 ≤ last

set_option maxHeartbeats 8000000 in
set_option maxRecDepth 100000 in
theorem rFit_any (v : Value) (f : Flt) (w : World) (h : FlR w v f) : Calls Tryz.prog 4 #[v] w fun e w' => e = .returned (.bool f.fit) ∧ Below w.heap.size w w' := by
  obtain ⟨vl, vc, rfl, hl, hc⟩ := h
  have hb := below_new w (.cells #[.int .i64 f.next, vl, vc] 25)
  have HS1 := Lib.hid (hl.keep hb); have HS2 := Lib.hid (hc.keep hb)
  have HX := Lib.hid (fbox_new w f.next vl vc)
  have HB := Lib.hid hb
  obtain ⟨a1, c1, rfl⟩ := hl.slice
  obtain ⟨a2, c2, rfl⟩ := hc.slice
  have hnl : f.list.length ≤ 9223372036854775807 := hl.1
  obtain ⟨n, l, c⟩ := f
  simp only at HS1 HS2 HX HB hnl ⊢
  obtain ⟨L1, hL1⟩ : ∃ L, l.length = L := ⟨_, rfl⟩
  obtain ⟨L2, hL2⟩ : ∃ L, c.length = L := ⟨_, rfl⟩
  have HL1 := Lib.hid hL1; have HL2 := Lib.hid hL2
  simp only [hL1, hL2] at HS1 HS2 HX HB hnl ⊢
  have HNl := Lib.hid hnl
  clear hl hc hb hL1 hL2 hnl
  have HF : Hid ((⟨n, l, c⟩ : Flt).fit = (decide (0 ≤ n) && (decide (n ≤ 4611686018427387904) && (decide (L1 ≤ 65536) && (rise n 0 l && wrise none c))))) := by rw [← HL1.out]; rfl
  by_cases h1 : n < 0
  · go_enter Tryz.func4, Tryz.ntmps4
    go_wp2
    go_ret
    refine ⟨?_, HB.out⟩
    rw [HF.out, decide_eq_false (show ¬ 0 ≤ n by omega)]; rfl
  obtain ⟨x, hx⟩ : ∃ x, decide (4611686018427387904 < n) = x := ⟨_, rfl⟩
  have HXd := Lib.hid hx
  cases x with
  | true =>
    have h2 : True → decide (4611686018427387904 < n) = true := fun _ => hx
    clear hx
    go_enter Tryz.func4, Tryz.ntmps4
    go_wp2
    go_ret
    refine ⟨?_, HB.out⟩
    have := of_decide_eq_true HXd.out
    rw [HF.out, decide_eq_false (show ¬ n ≤ 4611686018427387904 by omega)]; simp
  | false =>
    have h2 : True → decide (4611686018427387904 < n) = false := fun _ => hx
    clear hx
    by_cases h3 : 65536 < L1
    · have h3' : (65536 : Int) < L1 := by omega
      go_enter Tryz.func4, Tryz.ntmps4
      go_wp2
      go_ret
      refine ⟨?_, HB.out⟩
      rw [HF.out, decide_eq_false (show ¬ L1 ≤ 65536 by omega)]; simp
    · have h3' : ¬ (65536 : Int) < L1 := by omega
      have HF2 : Hid ((⟨n, l, c⟩ : Flt).fit = (rise n 0 l && wrise none c)) := by
        have hn := of_decide_eq_false HXd.out
        show _ = _
        rw [HF.out, decide_eq_true (show 0 ≤ n by omega), decide_eq_true (show n ≤ 4611686018427387904 by omega), decide_eq_true (show L1 ≤ 65536 by omega)]; rfl
      clear HF HXd
      go_enter Tryz.func4, Tryz.ntmps4
      go_upto_region 3 with fail
      generalize (w.alloc (.cells #[.int .i64 n, .slice a1 L1 c1, .slice a2 L2 c2] 25)) = W at HS1 HS2 HX HB ⊢
      obtain ⟨N, hN⟩ : ∃ N, w.heap.size = N := ⟨_, rfl⟩
      rw [hN] at HX ⊢
      have mixed : Tryz.prog.follows .mixedOrders = true := by kernel_rfl
      clear hN
      obtain ⟨e1, e2, e3⟩ := HX.out.cells
      clear h1 h2 h3 h3'
      go_wp2
      go_loopw [3] (fun i wr => ∃ (k : Nat) (last : Int), k ≤ L1 ∧ i = .int .i64 k ∧ rise n last (l.drop k) = rise n 0 l ∧ LastIs l k last ∧ wr = W) (fun i _ => L1 - (intOf i).toNat)
      case atStart => exact ⟨0, 0, by omega, rfl, rfl, ⟨fun _ => rfl, fun m h => by omega, by omega⟩, rfl⟩
      case round =>
        obtain ⟨k, last, hk, rfl, hr, ⟨hz, hp, hge⟩, hwr⟩ := hrel
        have hw2 : W = wr := hwr.symm
        clear hwr
        subst hw2
        have HR := Lib.hid hr; have HZ := Lib.hid hz; have HPv := Lib.hid hp; have HGe := Lib.hid hge
        clear hr hz hp hge
        by_cases hlt : k < L1
        · have hlt' : (k : Int) < L1 := by omega
          have hk0 : (0 : Int) ≤ k := by omega
          have hi1 : k < l.length := by rw [HL1.out]; exact hlt
          have hsa := HS1.out
          rw [← HL1.out] at hsa
          obtain ⟨_, a', cap', he, -, hcell⟩ := hsa
          cases he
          obtain ⟨b, off, rfl, hbl, hcell⟩ := hcell (by omega)
          have HC := Lib.hid hcell
          obtain ⟨x1, x2, x3, x4⟩ := fcells_at (hcell k hi1)
          have hd : l.drop k = l[k] :: l.drop (k + 1) := List.drop_eq_getElem_cons hi1
          have hqk : l[k]? = some l[k] := by simp [hi1]
          obtain ⟨x, hx⟩ : ∃ x, l[k] = x := ⟨_, rfl⟩
          rw [hx] at x1 x2 x3 x4 hd hqk
          obtain ⟨xn, xs, xd, xb⟩ := x
          simp only at x1 x2 x3 x4
          have HD := Lib.hid hd; have HQ := Lib.hid hqk
          clear hcell hx hbl hd x2 x3 x4 hqk
          have HNo : Hid (¬ (last < xn ∧ xn ≤ n) → (⟨n, l, c⟩ : Flt).fit = false) := by
            show _ → _
            intro hno
            have := HR.out
            rw [HD.out, rise] at this
            rw [HF2.out, ← this]
            simp only
            by_cases h5 : last < xn
            · rw [decide_eq_false (show ¬ xn ≤ n from fun h => hno ⟨h5, h⟩)]; simp
            · rw [decide_eq_false h5]; rfl
          have HYes : Hid (last < xn ∧ xn ≤ n → rise n xn (l.drop (k + 1)) = rise n 0 l) := by
            show _ → _
            intro hy
            have := HR.out
            rw [HD.out, rise] at this
            simp only at this
            rw [decide_eq_true hy.1, decide_eq_true hy.2] at this
            simpa using this
          cases k with
          | zero =>
            simp only [Nat.zero_mul, Nat.add_zero] at x1
            have hl0 := HZ.out rfl
            by_cases h1 : xn < 1
            · have HE := Lib.hid (HNo.out (by omega))
              go_wp2
              go_ret
              exact ⟨by rw [HE.out]; rfl, HB.out⟩
            · by_cases h2 : n < xn
              · have HE := Lib.hid (HNo.out (by omega))
                go_wp2
                go_ret
                exact ⟨by rw [HE.out]; rfl, HB.out⟩
              · have HE := Lib.hid (HYes.out (by omega))
                have H1 := Lib.hid (show 0 ≤ xn by omega)
                go_wp2
                go_roundw
                case rel => exact ⟨1, xn, by omega, rfl, HE.out, ⟨fun h => by omega, fun m hm => (by have hm0 : m = 0 := (by omega); rw [hm0, HQ.out]; rfl), H1.out⟩, by trivial⟩
                case measure => simp [intOf]; omega
          | succ m =>
            have hcm := HC.out m (by omega)
            have hpm := HPv.out m rfl
            obtain ⟨y1, y2, y3, y4⟩ := fcells_at hcm
            obtain ⟨y, hy⟩ : ∃ y, l[m]'(by omega) = y := ⟨_, rfl⟩
            have hyl : y.num = last := by
              have : l[m]? = some (l[m]'(by omega)) := by simp [show m < l.length by omega]
              rw [this, hy] at hpm
              simpa using hpm
            rw [hy, hyl] at y1
            have hge := HGe.out
            have hwp : IntKind.i64.wrap (m : Int) = (m : Int) := by rw [IntKind.wrap_i64]; omega
            have hm0 : (0 : Int) ≤ m := by omega
            have hm1 : (m : Int) < l.length := by omega
            clear hcm hpm y2 y3 y4 hy hyl
            by_cases h1 : xn < 1
            · have HE := Lib.hid (HNo.out (by omega))
              go_wp2
              go_ret
              exact ⟨by rw [HE.out]; rfl, HB.out⟩
            · by_cases h2 : n < xn
              · have HE := Lib.hid (HNo.out (by omega))
                go_wp2
                go_ret
                exact ⟨by rw [HE.out]; rfl, HB.out⟩
              · by_cases h3 : xn ≤ last
                · have HE := Lib.hid (HNo.out (by omega))
                  go_wp2
                  go_ret
                  exact ⟨by rw [HE.out]; rfl, HB.out⟩
                · have HE := Lib.hid (HYes.out (by omega))
                  have H1 := Lib.hid (show 0 ≤ xn by omega)
                  go_wp2
                  go_roundw
                  case rel => exact ⟨m + 1 + 1, xn, by omega, by go_num, HE.out, ⟨fun h => by omega, fun m' hm => (by have hm0 : m' = m + 1 := (by omega); rw [hm0, HQ.out]; rfl), H1.out⟩, by trivial⟩
                  case measure => simp [intOf]; omega
        · obtain rfl : k = L1 := by omega
          have HRt : Hid (rise n 0 l = true) := by
            show _ = _
            have := HR.out
            rw [← HL1.out, List.drop_length] at this
            rw [← this]; rfl
          clear hlt hk
          go_wp2
          clear e1 e2 e3
          go_loopw [5] (fun i wr => ∃ (k : Nat), k ≤ L2 ∧ i = .int .i64 k ∧ wrise (if k = 0 then none else c[k - 1]?) (c.drop k) = wrise none c ∧ Below W.heap.size W wr) (fun i _ => L2 - (intOf i).toNat)
          case atStart => exact ⟨0, by omega, rfl, rfl, Below.refl _ _⟩
          case round =>
            obtain ⟨k, hk, rfl, hr, hb⟩ := hrel
            have HW := Lib.hid hb; have HR := Lib.hid hr
            have HBw := Lib.hid (HB.out.trans (hb.mono HB.out.size))
            clear hb hr
            obtain ⟨e1, e2, e3⟩ := (HX.out.keep HW.out).cells
            clear e1 e2
            by_cases hlt : k < L2
            · have hlt' : (k : Int) < L2 := by omega
              have hk0 : (0 : Int) ≤ k := by omega
              have hi : k < c.length := by rw [HL2.out]; exact hlt
              have hs2 := HS2.out.keep HW.out
              rw [← HL2.out] at hs2
              obtain ⟨_, a', cap', he, -, hcell⟩ := hs2
              cases he
              obtain ⟨b, off, rfl, hbl, hcell⟩ := hcell (by omega)
              have HC := Lib.hid hcell
              obtain ⟨x1, x2⟩ := wcells_at (hcell k hi)
              clear hcell
              have hd : c.drop k = c[k] :: c.drop (k + 1) := List.drop_eq_getElem_cons hi
              have hq : c[k]? = some c[k] := by simp [hi]
              obtain ⟨x, hx⟩ : ∃ x, c[k] = x := ⟨_, rfl⟩
              rw [hx] at x1 x2 hd hq
              obtain ⟨p, q⟩ := x
              simp only at x1 x2
              have HD := Lib.hid hd; have HQ := Lib.hid hq
              clear hd hx hq hbl hcell
              by_cases h1 : p = q
              · have hR : wrise none c = false := by
                  have := HR.out
                  rw [HD.out, wrise_cons] at this
                  rw [← this]; simp [h1]
                have HRf := Lib.hid hR
                subst h1
                clear hR
                go_upto_region 12 with fail
                go_big_region_o
                have HBd := Lib.hid (HBw.out.drewN' 1)
                clear x1 x2 e3
                go_wp2
                go_ret
                exact ⟨by rw [HF2.out, HRt.out, HRf.out]; rfl, HBd.out⟩
              · have hpq : True → (p == q) = false := fun _ => by simp [h1]
                have H1 := Lib.hid h1
                clear h1
                cases k with
                | zero =>
                  have hR : wrise none c = wrise (some (p, q)) (c.drop 1) := by
                    have := HR.out
                    rw [HD.out, wrise_cons] at this
                    rw [← this]; simp [H1.out]
                  have HRn := Lib.hid hR
                  clear hR
                  simp only [Nat.zero_mul, Nat.add_zero] at x1 x2
                  go_upto_region 12 with fail
                  go_big_region_o
                  have HBd := Lib.hid (HW.out.drewN' 1)
                  clear x1 x2 e3
                  go_wp2
                  go_roundw
                  case rel => exact ⟨1, by omega, rfl, by rw [HRn.out, if_neg (by omega)]; simp only [Nat.sub_self]; rw [HQ.out], HBd.out⟩
                  case measure => simp [intOf]; omega
                | succ m =>
                  have hcm := HC.out m (by omega)
                  have hqm : c[m]? = some c[m] := by simp [show m < c.length by omega]
                  obtain ⟨y1, y2⟩ := wcells_at hcm
                  obtain ⟨y, hy⟩ : ∃ y, c[m]'(by omega) = y := ⟨_, rfl⟩
                  rw [hy] at y1 y2 hqm
                  obtain ⟨p2, q2⟩ := y
                  simp only at y1 y2
                  have hR : (ltW (p2, q2) (p, q) && wrise (some (p, q)) (c.drop (m + 1 + 1))) = wrise none c := by
                    have := HR.out
                    rw [HD.out, wrise_cons, if_neg (by omega), show m + 1 - 1 = m by omega, hqm] at this
                    rw [← this]; simp [H1.out]
                  have HRn := Lib.hid hR
                  clear hR hcm hqm hy
                  have hwp : IntKind.i64.wrap (m : Int) = (m : Int) := by rw [IntKind.wrap_i64]; omega
                  have hm0 : (0 : Int) ≤ m := by omega
                  have hm1 : (m : Int) < L2 := by omega
                  have hm2 : (m : Int) + 1 < L2 := by omega
                  have hm3 : (0 : Int) ≤ (m : Int) + 1 := by omega
                  go_upto_region 12 with fail
                  have hbl := cell_lt x1
                  have hNl := cell_lt e3
                  have b1 := cell_grown (a := ⟨b, off + (m + 1) * 2, none⟩) hbl x1
                  have b2 := cell_grown (a := ⟨b, off + (m + 1) * 2 + 1, none⟩) hbl x2
                  have b3 := cell_grown (a := ⟨b, off + m * 2, none⟩) hbl y1
                  have b4 := cell_grown (a := ⟨b, off + m * 2 + 1, none⟩) hbl y2
                  have b5 := cell_grown (a := ⟨N, 2, none⟩) hNl e3
                  have hord := fun n os => less_any (p2, q2) (p, q) (Sort.grow (wr.drewN n) os)
                  simp only at hord
                  obtain ⟨r, hr⟩ : ∃ r, ltW (p2, q2) (p, q) = r := ⟨_, rfl⟩
                  rw [hr] at hord
                  have HRr := Lib.hid hr
                  clear x1 x2 y1 y2 e3 hr hbl hNl
                  cases r with
                  | true =>
                    go_quiet_grown (first | (go_at_call 10; exact Calls.grown_of (hord _ _)))
                    have HBd := Lib.hid (HW.out.trans ((grow_below (w := wr) ⟨nq, osq, rfl⟩).mono HW.out.size))
                    simp only
                    generalize (Sort.grow (wr.drewN nq) osq) = W2 at HBd ⊢
                    clear b1 b2 b3 b4 b5 hord
                    go_wp2
                    go_roundw
                    case rel =>
                      refine ⟨m + 1 + 1, by omega, by go_num, ?_, HBd.out⟩
                      rw [if_neg (by omega), show m + 1 + 1 - 1 = m + 1 by omega, HQ.out, ← HRn.out, HRr.out, Bool.true_and]
                    case measure => simp [intOf]; omega
                  | false =>
                    go_quiet_grown (first | (go_at_call 10; exact Calls.grown_of (hord _ _)))
                    have HBd := Lib.hid (HBw.out.trans ((grow_below (w := wr) ⟨nq, osq, rfl⟩).mono HBw.out.size))
                    simp only
                    generalize (Sort.grow (wr.drewN nq) osq) = W2 at HBd ⊢
                    clear b1 b2 b3 b4 b5 hord
                    go_wp2
                    go_ret
                    exact ⟨by rw [HF2.out, HRt.out, ← HRn.out, HRr.out]; rfl, HBd.out⟩
            · obtain rfl : k = L2 := by omega
              have hwr : wrise none c = true := by
                have := HR.out
                rw [← HL2.out, List.drop_length] at this
                rw [← this]; rfl
              have HWr := Lib.hid hwr
              clear hwr
              go_wp2
              go_ret
              exact ⟨by rw [HF2.out, HRt.out, HWr.out]; rfl, HBw.out⟩

end Go.Proofs.YtalnmbfmfeaohaaGreat.flight
