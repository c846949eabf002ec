/- Texts laid together: RepAdd, RepFst, RepCln, RepFail, RepAwake. -/
import Derived.Test.YtcofmfjhgbihkaaRows
import Derived.Test.YtcofmfjhgbihkaaRepMA
import Derived.Lib.AppendZeros
import Derived.Maps.OwnOps
import Derived.Test.YtcofmfjhgbihkaaMapsRFst
namespace Go.Proofs.Ytcofmfjhgbihkaa.crush
open Go.RowKit
open Go.Proofs.Ytcofmfjhgbihkaa.kit Go.Proofs.Ytcofmfjhgbihkaa.own
set_option linter.unusedVariables false
set_option linter.unusedSimpArgs false

theorem ret_cell_tt {P : Program} {fn : Func} {t u u2 : Tmp} {T : TypeId} {tmps : Array Value} {w : World} {b : Nat} {cs : List Value} {d : TypeDesc} (h : fn.results = #[.cell t T, .tmp u, .tmp u2]) (ht : tmps.getD t undef = .pointer (some ⟨b, 0, none⟩))
    (hc : w.rangeAt b 0 cs) (hu : P.underlying T = some d) (hd : d.isRow = true) (hi : (P.info? T).map (·.size) = some cs.length) : (results fn tmps).run P w = .ok (.tuple #[.agg cs.toArray, tmps.getD u undef, tmps.getD u2 undef]) w := by
  have := run_loadVar_mid w b 0 T cs d hc hu hd hi
  have ht' : tmps[t]?.getD undef = .pointer (some ⟨b, 0, none⟩) := by simpa using ht
  simp [results, h, ht', asAddr, this]
def addE (l : List IncV) (m : MapV) (c : IncV) : List IncV × Bool := if 16 ≤ l.length ∨ hasInc l c = true ∨ usefulB m c = false then (l, false) else (l ++ [c], true)
def AddS (r : List IncV × Bool) (w : World) (e : Ending) (w' : World) : Prop := ∃ v, e = .returned (.tuple #[v, .bool r.2]) ∧ Own nc 8 87 w' w.heap.size v r.1 ∧ Below w.heap.size w w'
def zeroI : IncV := ⟨0, 0, 0, 0, ⟨0, 0, 0, 0⟩⟩
def firstI (l : List IncV) (m : MapV) : IncV × List IncV × Bool := match l.findIdx? (usefulB m) with
  | some i => (l.getD i zeroI, l.drop (i + 1), true)
  | none => (zeroI, [], false)
def FirstS (r : IncV × List IncV × Bool) (w : World) (e : Ending) (w' : World) : Prop := ∃ v, e = .returned (.tuple #[r.1.val, v, .bool r.2.2]) ∧ Own nc 8 87 w' w.heap.size v r.2.1 ∧ Below w.heap.size w w'

set_option maxHeartbeats 16000000 in
set_option maxRecDepth 100000 in
theorem Add_any (vl v : Value) (l : List IncV) (c : IncV) (m : MapV) (w : World) (hl : Sl nc 8 w vl l) (hz : l.length * 64 ≤ 100000000000000) (h : MapR w v m) (hs : m.Small) (hn : m.osds ≠ []) (hb : okBans m.bans = true) :
    Calls Try.prog 42 #[vl, v, c.val] w (AddS (addE l m c) w) := by
  have HU := Lib.hid (fun u (hu : Below w.heap.size w u) => Useful_any v c m u (h.keep hu) hs hn hb)
  have HCl := Lib.hid (fun u (hu : Below w.heap.size w u) => cloneN vl l u (hl.keep hu) (by omega))
  have HCo := Lib.hid (fun v' B u (h' : Own nc 8 87 u B v' l) => ContainsN_any v' l c u (h'.read nc_len))
  obtain ⟨vh, vo, vp, vb, rfl, h1, h2, h3, h4⟩ := h
  obtain ⟨ah, ch, rfl⟩ := h1.slice
  obtain ⟨ao, co, rfl⟩ := h2.slice
  obtain ⟨ap, cp, rfl⟩ := h3.slice
  obtain ⟨ab, cb, rfl⟩ := h4.slice
  obtain ⟨al, cl', rfl⟩ := hl.slice
  have hR : addE l m c = if 16 ≤ l.length ∨ hasInc l c = true ∨ usefulB m c = false then (l, false) else (l ++ [c], true) := rfl
  generalize addE l m c = R at hR ⊢
  generalize hasInc l c = q1 at HCo hR
  generalize usefulB m c = q2 at HU hR
  generalize m.hosts.length = Lh at HU ⊢
  generalize m.osds.length = Lo at HU ⊢
  generalize m.pools.length = Lp at HU ⊢
  generalize m.bans.length = Lb at HU ⊢
  obtain ⟨L, hL⟩ : ∃ L, l.length = L := ⟨_, rfl⟩
  have HL := Lib.hid hL
  have HZ := Lib.hid hz
  rw [hL] at HCl hz hR ⊢
  have hR' := hR
  have HYn := Lib.hid (show nc c = c.cells from rfl)
  obtain ⟨k, o, cl, n, ⟨a, b, p, d⟩⟩ := c
  unfold IncV.val at HU ⊢
  unfold nc IncV.cells at HCo
  simp only at HU HCo ⊢
  have HR := Lib.hid hR
  clear h1 h2 h3 h4 hR hR' hs hn hb hl hL hz HYn
  have b1 := below_new w (.cells #[.int .i64 m.epoch, .slice ah Lh ch, .slice ao Lo co, .slice ap Lp cp, .slice ab Lb cb] 83)
  have x1 := mbox_new w 83 m.epoch (.slice ah Lh ch) (.slice ao Lo co) (.slice ap Lp cp) (.slice ab Lb cb)
  have b2 := below_new (w.alloc (.cells #[.int .i64 m.epoch, .slice ah Lh ch, .slice ao Lo co, .slice ap Lp cp, .slice ab Lb cb] 83)) (.cells #[.int .i64 k, .int .i64 o, .int .i64 cl, .int .i64 n, .int .i64 a, .int .i64 b, .int .i64 p, .int .i64 d] 87)
  have x2 := ibx_new (w.alloc (.cells #[.int .i64 m.epoch, .slice ah Lh ch, .slice ao Lo co, .slice ap Lp cp, .slice ab Lb cb] 83)) ⟨k, o, cl, n, ⟨a, b, p, d⟩⟩
  rw [World.size_alloc] at x2
  have HX := Lib.hid (x1.keep b2)
  have HB := Lib.hid (b1.trans (b2.mono b1.size))
  have HY := Lib.hid x2
  clear b1 b2 x1 x2
  go_enter Try.func42, Try.ntmps42
  go_upto_region 1 with fail
  generalize ((w.alloc (.cells #[.int .i64 m.epoch, .slice ah Lh ch, .slice ao Lo co, .slice ap Lp cp, .slice ab Lb cb] 83)).alloc (.cells #[.int .i64 k, .int .i64 o, .int .i64 cl, .int .i64 n, .int .i64 a, .int .i64 b, .int .i64 p, .int .i64 d] 87)) = U at HX HB HY ⊢
  go_upto_region 2 with (go_at_call 83; refine (HCl.out _ HB.out).mono ?_; rintro e V ⟨v1, rfl, ho, hb⟩; obtain ⟨a1, y1, hv1⟩ := ho.slice; rw [HL.out] at hv1; subst hv1; have HO := Lib.hid (ho.mono (show w.heap.size + 1 + 1 ≤ _ from (Array.getElem?_eq_some_iff.1 HY.out).1)); have HB := Lib.hid (HB.out.trans (hb.mono HB.out.size)); have HX := Lib.hid (HX.out.keep hb); have HY := Lib.hid (HY.out.keep hb); clear ho hb)
  obtain ⟨c0, c1, c2, c3, c4, c5, c6, c7⟩ := HY.out.cells
  simp only at c0 c1 c2 c3 c4 c5 c6 c7
  obtain ⟨l0, l1, l2, l3, l4⟩ := HX.out.cells
  by_cases h16 : 16 ≤ L
  · have h16' : (16 : Int) ≤ L := by omega
    have HRr : Hid (R = (l, false)) := Lib.hid (by rw [HR.out, if_pos (Or.inl h16)])
    go_wp2
    go_ret2
    rw [HRr.out]
    exact ⟨_, rfl, HO.out.mono (by omega), HB.out⟩
  · have h16' : ¬ (16 : Int) ≤ L := by omega
    cases q1 with
    | true =>
      have HRr : Hid (R = (l, false)) := Lib.hid (by rw [HR.out, if_pos (Or.inr (Or.inl rfl))])
      go_wp2_with (go_at_call 84; refine (HCo.out _ _ _ HO.out).mono ?_; rintro e V2 ⟨rfl, hb⟩; have HO := Lib.hid (HO.out.below hb); have HB := Lib.hid (HB.out.trans (hb.mono HB.out.size)); have HX := Lib.hid (HX.out.keep hb); have HY := Lib.hid (HY.out.keep hb); clear hb c0 c1 c2 c3 c4 c5 c6 c7 l0 l1 l2 l3 l4)
      go_ret2
      rw [HRr.out]
      exact ⟨_, rfl, HO.out.mono (by omega), HB.out⟩
    | false =>
      cases q2 with
      | false =>
        have HRr : Hid (R = (l, false)) := Lib.hid (by rw [HR.out, if_pos (Or.inr (Or.inr rfl))])
        clear HR
        go_wp2_with (first
          | (go_at_call 84; refine (HCo.out _ _ _ HO.out).mono ?_; rintro e V2 ⟨rfl, hb⟩; have HO := Lib.hid (HO.out.below hb); have HB := Lib.hid (HB.out.trans (hb.mono HB.out.size)); have HX := Lib.hid (HX.out.keep hb); have HY := Lib.hid (HY.out.keep hb); clear hb c0 c1 c2 c3 c4 c5 c6 c7 l0 l1 l2 l3 l4; obtain ⟨c0, c1, c2, c3, c4, c5, c6, c7⟩ := HY.out.cells; simp only at c0 c1 c2 c3 c4 c5 c6 c7; obtain ⟨l0, l1, l2, l3, l4⟩ := HX.out.cells)
          | (go_at_call 45; refine (HU.out _ HB.out).mono ?_; rintro e V3 ⟨rfl, hb⟩; have HO := Lib.hid (HO.out.below hb); have HB := Lib.hid (HB.out.trans (hb.mono HB.out.size)); have HX := Lib.hid (HX.out.keep hb); have HY := Lib.hid (HY.out.keep hb); clear hb c0 c1 c2 c3 c4 c5 c6 c7 l0 l1 l2 l3 l4))
        go_ret2
        rw [HRr.out]
        exact ⟨_, rfl, HO.out.mono (by omega), HB.out⟩
      | true =>
        have HRr : Hid (R = (l ++ [⟨k, o, cl, n, ⟨a, b, p, d⟩⟩], true)) := Lib.hid (by rw [HR.out, if_neg (by simp; omega)])
        clear HR
        go_upto_region 4 with (first
          | (go_at_call 84; refine (HCo.out _ _ _ HO.out).mono ?_; rintro e V2 ⟨rfl, hb⟩; have HO := Lib.hid (HO.out.below hb); have HB := Lib.hid (HB.out.trans (hb.mono HB.out.size)); have HX := Lib.hid (HX.out.keep hb); have HY := Lib.hid (HY.out.keep hb); clear hb c0 c1 c2 c3 c4 c5 c6 c7 l0 l1 l2 l3 l4; obtain ⟨c0, c1, c2, c3, c4, c5, c6, c7⟩ := HY.out.cells; simp only at c0 c1 c2 c3 c4 c5 c6 c7; obtain ⟨l0, l1, l2, l3, l4⟩ := HX.out.cells)
          | (go_at_call 45; refine (HU.out _ HB.out).mono ?_; rintro e V3 ⟨rfl, hb⟩; have HO := Lib.hid (HO.out.below hb); have HB := Lib.hid (HB.out.trans (hb.mono HB.out.size)); have HX := Lib.hid (HX.out.keep hb); have HY := Lib.hid (HY.out.keep hb); clear hb c0 c1 c2 c3 c4 c5 c6 c7 l0 l1 l2 l3 l4; obtain ⟨c0, c1, c2, c3, c4, c5, c6, c7⟩ := HY.out.cells; simp only at c0 c1 c2 c3 c4 c5 c6 c7; obtain ⟨l0, l1, l2, l3, l4⟩ := HX.out.cells))
        have hbn := below_new V3 (.cells #[.int .i64 k, .int .i64 o, .int .i64 cl, .int .i64 n, .int .i64 a, .int .i64 b, .int .i64 p, .int .i64 d] 87)
        have HSo := Lib.hid (sl_new nc_len V3 (⟨k, o, cl, n, ⟨a, b, p, d⟩⟩ : IncV) 87 V3.heap.size rfl)
        simp only [nc, IncV.cells] at HSo
        have HO1 := Lib.hid (HO.out.below hbn)
        have HB1 := Lib.hid (HB.out.trans (hbn.mono HB.out.size))
        have HSz : Hid (w.heap.size + 1 + 1 ≤ (V3.alloc (.cells #[.int .i64 k, .int .i64 o, .int .i64 cl, .int .i64 n, .int .i64 a, .int .i64 b, .int .i64 p, .int .i64 d] 87)).heap.size) := Lib.hid (by have h1 := (Array.getElem?_eq_some_iff.1 HY.out).1; have h2 := hbn.size; omega)
        clear hbn
        go_wp2_with (at_builtin; refine appSl nc_len nc_one (by decide) rfl _ _ 78 rfl (w.heap.size + 1 + 1) 87 _ (by rfl) 64 Try.underlying78 infoIncR _ l rfl HO1.out _ [(⟨k, o, cl, n, ⟨a, b, p, d⟩⟩ : IncV)] rfl HSo.out (by rw [HL.out]; unfold maxLen; simp only [List.length_singleton]; omega) (by rw [HL.out]; simp only [List.length_singleton]; omega) HSz.out ?_; intro v9 w9 ho9 hk9; have HO9 := Lib.hid (ho9.mono (show w.heap.size ≤ w.heap.size + 1 + 1 by omega)); have HB9 := Lib.hid (HB1.out.trans (hk9.toBelow.mono (show w.heap.size ≤ w.heap.size + 1 + 1 by omega))); clear ho9 hk9 c0 c1 c2 c3 c4 c5 c6 c7 l0 l1 l2 l3 l4)
        go_ret2
        rw [HRr.out]
        exact ⟨_, rfl, HO9.out, HB9.out⟩

set_option maxHeartbeats 16000000 in
set_option maxRecDepth 100000 in
theorem rAdd_any (vl v : Value) (l : List IncV) (c : IncV) (m : MapV) (w : World) (hl : Sl nc 8 w vl l) (hz : l.length * 64 ≤ 100000000000000) (h : MapR w v m) (hb : okBans m.bans = true) :
    Calls Try.prog 43 #[vl, v, c.val] w (AddS (addE l m c) w) := by
  have HU := Lib.hid (fun u (hu : Below w.heap.size w u) => rUseful_any v c m u (h.keep hu) hb)
  have HS := Lib.hid (fun u (hu : Below w.heap.size w u) => hl.keep hu)
  obtain ⟨vh, vo, vp, vb, rfl, h1, h2, h3, h4⟩ := h
  obtain ⟨ah, ch, rfl⟩ := h1.slice
  obtain ⟨ao, co, rfl⟩ := h2.slice
  obtain ⟨ap, cp, rfl⟩ := h3.slice
  obtain ⟨ab, cb, rfl⟩ := h4.slice
  obtain ⟨al, yl, rfl⟩ := hl.slice
  have hmx := hl.1
  have hR : addE l m c = if 16 ≤ l.length ∨ hasInc l c = true ∨ usefulB m c = false then (l, false) else (l ++ [c], true) := rfl
  have HAll : Hid (∀ k, k = l.length → (∀ j (h : j < l.length), j < k → ¬ l[j] = c) → hasInc l c = false) := Lib.hid (fun k e h => by
    unfold hasInc
    refine List.any_eq_false.2 fun x hx => ?_
    obtain ⟨j, hj, e2⟩ := List.getElem_of_mem hx
    rw [← e2]
    simpa using fun e => h j hj (by omega) e.symm)
  have HOne : Hid (∀ k (h : k < l.length), l[k] = c → hasInc l c = true) := Lib.hid (fun k h e => List.any_eq_true.2 ⟨_, List.getElem_mem h, decide_eq_true e.symm⟩)
  have HQ := Lib.hid (fun x u => eql_inc x c u)
  generalize addE l m c = R at hR ⊢
  generalize hasInc l c = q1 at HAll HOne hR
  generalize usefulB m c = q2 at HU hR
  generalize m.hosts.length = Lh at HU ⊢
  generalize m.osds.length = Lo at HU ⊢
  generalize m.pools.length = Lp at HU ⊢
  generalize m.bans.length = Lb at HU ⊢
  obtain ⟨L, hL⟩ : ∃ L, l.length = L := ⟨_, rfl⟩
  have HL := Lib.hid hL
  rw [hL] at hz hmx HS hR ⊢
  obtain ⟨k, o, cl, n, ⟨a, b, p, d⟩⟩ := c
  unfold IncV.val at HU HQ ⊢
  simp only at HU HQ ⊢
  have HR := Lib.hid hR
  have HZ := Lib.hid hz
  clear h1 h2 h3 h4 hR hb hl hL hz
  have b1 := below_new w (.cells #[.int .i64 m.epoch, .slice ah Lh ch, .slice ao Lo co, .slice ap Lp cp, .slice ab Lb cb] 83)
  have x1 := mbox_new w 83 m.epoch (.slice ah Lh ch) (.slice ao Lo co) (.slice ap Lp cp) (.slice ab Lb cb)
  have b2 := below_new (w.alloc (.cells #[.int .i64 m.epoch, .slice ah Lh ch, .slice ao Lo co, .slice ap Lp cp, .slice ab Lb cb] 83)) (.cells #[.int .i64 k, .int .i64 o, .int .i64 cl, .int .i64 n, .int .i64 a, .int .i64 b, .int .i64 p, .int .i64 d] 87)
  have x2 := ibx_new (w.alloc (.cells #[.int .i64 m.epoch, .slice ah Lh ch, .slice ao Lo co, .slice ap Lp cp, .slice ab Lb cb] 83)) ⟨k, o, cl, n, ⟨a, b, p, d⟩⟩
  rw [World.size_alloc] at x2
  have HX := Lib.hid (x1.keep b2)
  have HB := Lib.hid (b1.trans (b2.mono b1.size))
  have HY := Lib.hid x2
  clear b1 b2 x1 x2
  go_enter Try.func43, Try.ntmps43
  go_upto_region 2 with fail
  generalize ((w.alloc (.cells #[.int .i64 m.epoch, .slice ah Lh ch, .slice ao Lo co, .slice ap Lp cp, .slice ab Lb cb] 83)).alloc (.cells #[.int .i64 k, .int .i64 o, .int .i64 cl, .int .i64 n, .int .i64 a, .int .i64 b, .int .i64 p, .int .i64 d] 87)) = U at HX HB HY ⊢
  have HSz : Hid (w.heap.size + 1 + 1 ≤ U.heap.size) := Lib.hid ((Array.getElem?_eq_some_iff.1 HY.out).1)
  go_upto_region 3 with (at_builtin; refine appSl nc_len nc_one (by decide) rfl _ _ 78 rfl (w.heap.size + 1 + 1) 87 _ (by rfl) 64 Try.underlying78 infoIncR _ [] rfl (Own.nil _ _ _) _ l rfl (HS.out _ HB.out) (by rw [HL.out]; have := HZ.out; unfold maxLen; simp only [List.length_nil]; omega) (by rw [HL.out]; have := HZ.out; simp only [List.length_nil]; omega) HSz.out ?_; intro v1 V ho hk; rw [List.nil_append] at ho; obtain ⟨a1, y1, hv1⟩ := ho.slice; rw [HL.out] at hv1; subst hv1; have hb2 := hk.toBelow; have HO := Lib.hid ho; have HX : Hid (MBox V w.heap.size 83 m.epoch (.slice ah Lh ch) (.slice ao Lo co) (.slice ap Lp cp) (.slice ab Lb cb)) := Lib.hid ((hb2.block _ (by omega)).trans HX.out); have HY : Hid (IBx V (w.heap.size + 1) ⟨k, o, cl, n, ⟨a, b, p, d⟩⟩) := Lib.hid ((hb2.block _ (by omega)).trans HY.out); have HB := Lib.hid (HB.out.trans (hb2.mono (show w.heap.size ≤ w.heap.size + 1 + 1 by omega))); clear ho hk hb2)
  go_upto_region 4 with fail
  go_loopw [9] (fun vi wr => ∃ i : Nat, i ≤ L ∧ vi = .int .i64 i ∧ Hid (∀ j (h : j < l.length), j < i → ¬ l[j] = (⟨k, o, cl, n, ⟨a, b, p, d⟩⟩ : IncV)) ∧ Below V.heap.size V wr) (fun i _ => L - (intOf i).toNat)
  case atStart => exact ⟨0, by omega, rfl, Lib.hid (fun j h h2 => by omega), Below.refl _ _⟩
  case round =>
    obtain ⟨i, hi, rfl, HN, hbw⟩ := hrel
    have HBw := Lib.hid hbw
    have HO2 := Lib.hid (HO.out.below hbw)
    clear hbw
    by_cases hlt : i < L
    · have hlt' : (i : Int) < L := by omega
      have hi0 : (0 : Int) ≤ i := by omega
      have hil : i < l.length := by rw [HL.out]; exact hlt
      have HBB := Lib.hid (HB.out.trans (HBw.out.mono HB.out.size))
      obtain ⟨g, off, rfl, hbl, hr⟩ := sl_elem (HS.out _ HBB.out) i hil
      have HDw := Lib.hid (below_drew HBw.out)
      have hd := range_keep hr hbl (below_drew (Below.refl wr.heap.size wr))
      obtain ⟨c0, c1, c2, c3, c4, c5, c6, c7⟩ := (HY.out.keep HDw.out).cells
      simp only at c0 c1 c2 c3 c4 c5 c6 c7
      obtain ⟨x, hxk⟩ : ∃ x, l[i] = x := ⟨_, rfl⟩
      have HY2 := Lib.hid hxk
      rw [hxk] at hd
      have hQ := HQ.out x
      obtain ⟨d0, d1, d2, d3, d4, d5, d6, d7⟩ := ncells8 hd
      obtain ⟨xk, xo, xc, xn, ⟨xa, xb, xp, xd⟩⟩ := x
      simp only at d0 d1 d2 d3 d4 d5 d6 d7
      obtain ⟨q, hq⟩ : ∃ q, decide ((⟨xk, xo, xc, xn, ⟨xa, xb, xp, xd⟩⟩ : IncV) = ⟨k, o, cl, n, ⟨a, b, p, d⟩⟩) = q := ⟨_, rfl⟩
      rw [hq] at hQ
      simp only at hQ
      have HQq := Lib.hid hq
      clear hr hbl hd hxk hq
      cases q with
      | true =>
        have HRr : Hid (R = (l, false)) := Lib.hid (by rw [HR.out, if_pos (Or.inr (Or.inl (HOne.out i hil (by rw [HY2.out]; exact of_decide_eq_true HQq.out))))])
        go_upto_region 6 with fail
        go_region_held3 (fun u => (u.cell? ⟨w.heap.size + 1, 0, none⟩ = some (.int .i64 k) ∧ u.cell? ⟨w.heap.size + 1, 1, none⟩ = some (.int .i64 o) ∧ u.cell? ⟨w.heap.size + 1, 2, none⟩ = some (.int .i64 cl) ∧ u.cell? ⟨w.heap.size + 1, 3, none⟩ = some (.int .i64 n) ∧ u.cell? ⟨w.heap.size + 1, 4, none⟩ = some (.int .i64 a) ∧ u.cell? ⟨w.heap.size + 1, 5, none⟩ = some (.int .i64 b) ∧ u.cell? ⟨w.heap.size + 1, 6, none⟩ = some (.int .i64 p) ∧ u.cell? ⟨w.heap.size + 1, 7, none⟩ = some (.int .i64 d)) ∧ u.cell? ⟨g, off + i * 8, none⟩ = some (.int .i64 xk) ∧ u.cell? ⟨g, off + i * 8 + 1, none⟩ = some (.int .i64 xo) ∧ u.cell? ⟨g, off + i * 8 + 2, none⟩ = some (.int .i64 xc) ∧ u.cell? ⟨g, off + i * 8 + 3, none⟩ = some (.int .i64 xn) ∧ u.cell? ⟨g, off + i * 8 + 4, none⟩ = some (.int .i64 xa) ∧ u.cell? ⟨g, off + i * 8 + 5, none⟩ = some (.int .i64 xb) ∧ u.cell? ⟨g, off + i * 8 + 6, none⟩ = some (.int .i64 xp) ∧ u.cell? ⟨g, off + i * 8 + 7, none⟩ = some (.int .i64 xd))
          (first | exact ⟨⟨c0, c1, c2, c3, c4, c5, c6, c7⟩, d0, d1, d2, d3, d4, d5, d6, d7⟩)
          (first | fail)
        go_wp2
        go_ret2
        rw [HRr.out]
        exact ⟨_, rfl, (HO2.out.below (below_drew (Below.refl _ _))).mono (by omega), HB.out.trans (HDw.out.mono HB.out.size)⟩
      | false =>
        have HN2 : Hid (∀ j (h : j < l.length), j < i + 1 → ¬ l[j] = (⟨k, o, cl, n, ⟨a, b, p, d⟩⟩ : IncV)) := Lib.hid (fun j h h2 => by
          rcases Nat.lt_or_ge j i with h3 | h3
          · exact HN.out j h h3
          · obtain rfl : j = i := by omega
            rw [HY2.out]; exact of_decide_eq_false HQq.out)
        go_upto_region 6 with fail
        go_region_held3 (fun u => (u.cell? ⟨w.heap.size + 1, 0, none⟩ = some (.int .i64 k) ∧ u.cell? ⟨w.heap.size + 1, 1, none⟩ = some (.int .i64 o) ∧ u.cell? ⟨w.heap.size + 1, 2, none⟩ = some (.int .i64 cl) ∧ u.cell? ⟨w.heap.size + 1, 3, none⟩ = some (.int .i64 n) ∧ u.cell? ⟨w.heap.size + 1, 4, none⟩ = some (.int .i64 a) ∧ u.cell? ⟨w.heap.size + 1, 5, none⟩ = some (.int .i64 b) ∧ u.cell? ⟨w.heap.size + 1, 6, none⟩ = some (.int .i64 p) ∧ u.cell? ⟨w.heap.size + 1, 7, none⟩ = some (.int .i64 d)) ∧ u.cell? ⟨g, off + i * 8, none⟩ = some (.int .i64 xk) ∧ u.cell? ⟨g, off + i * 8 + 1, none⟩ = some (.int .i64 xo) ∧ u.cell? ⟨g, off + i * 8 + 2, none⟩ = some (.int .i64 xc) ∧ u.cell? ⟨g, off + i * 8 + 3, none⟩ = some (.int .i64 xn) ∧ u.cell? ⟨g, off + i * 8 + 4, none⟩ = some (.int .i64 xa) ∧ u.cell? ⟨g, off + i * 8 + 5, none⟩ = some (.int .i64 xb) ∧ u.cell? ⟨g, off + i * 8 + 6, none⟩ = some (.int .i64 xp) ∧ u.cell? ⟨g, off + i * 8 + 7, none⟩ = some (.int .i64 xd))
          (first | exact ⟨⟨c0, c1, c2, c3, c4, c5, c6, c7⟩, d0, d1, d2, d3, d4, d5, d6, d7⟩)
          (first | fail)
        clear hQ d0 d1 d2 d3 d4 d5 d6 d7 c0 c1 c2 c3 c4 c5 c6 c7
        go_wp2
        go_roundw
        case rel => exact ⟨i + 1, by omega, by go_num, HN2, HDw.out⟩
        case measure => simp [intOf]; omega
    · obtain rfl : i = L := by omega
      have HF := Lib.hid (HAll.out i HL.out.symm HN.out)
      have HO := Lib.hid HO2.out
      have HX := Lib.hid (HX.out.keep HBw.out)
      have HY := Lib.hid (HY.out.keep HBw.out)
      have HB := Lib.hid (HB.out.trans (HBw.out.mono HB.out.size))
      clear HO2 HBw
      obtain rfl : q1 = false := HF.out
      obtain ⟨c0, c1, c2, c3, c4, c5, c6, c7⟩ := HY.out.cells
      simp only at c0 c1 c2 c3 c4 c5 c6 c7
      obtain ⟨l0, l1, l2, l3, l4⟩ := HX.out.cells
      cases q2 with
      | false =>
        have HRr : Hid (R = (l, false)) := Lib.hid (by rw [HR.out, if_pos (Or.inr (Or.inr rfl))])
        clear HR
        go_wp2_with (go_at_call 46; refine (HU.out _ HB.out).mono ?_; rintro e V3 ⟨rfl, hb⟩; have HO := Lib.hid (HO.out.below hb); have HB := Lib.hid (HB.out.trans (hb.mono HB.out.size)); have HX := Lib.hid (HX.out.keep hb); have HY := Lib.hid (HY.out.keep hb); clear hb c0 c1 c2 c3 c4 c5 c6 c7 l0 l1 l2 l3 l4)
        go_ret2
        rw [HRr.out]
        exact ⟨_, rfl, HO.out.mono (by omega), HB.out⟩
      | true =>
        by_cases h16 : 16 ≤ i
        · have h16' : (16 : Int) ≤ i := by omega
          have HRr : Hid (R = (l, false)) := Lib.hid (by rw [HR.out, if_pos (Or.inl h16)])
          clear HR
          go_wp2_with (go_at_call 46; refine (HU.out _ HB.out).mono ?_; rintro e V3 ⟨rfl, hb⟩; have HO := Lib.hid (HO.out.below hb); have HB := Lib.hid (HB.out.trans (hb.mono HB.out.size)); have HX := Lib.hid (HX.out.keep hb); have HY := Lib.hid (HY.out.keep hb); clear hb c0 c1 c2 c3 c4 c5 c6 c7 l0 l1 l2 l3 l4)
          go_ret2
          rw [HRr.out]
          exact ⟨_, rfl, HO.out.mono (by omega), HB.out⟩
        · have h16' : ¬ (16 : Int) ≤ i := by omega
          have HRr : Hid (R = (l ++ [⟨k, o, cl, n, ⟨a, b, p, d⟩⟩], true)) := Lib.hid (by rw [HR.out, if_neg (by simp; omega)])
          clear HR
          go_upto_region 10 with (go_at_call 46; refine (HU.out _ HB.out).mono ?_; rintro e V3 ⟨rfl, hb⟩; have HO := Lib.hid (HO.out.below hb); have HB := Lib.hid (HB.out.trans (hb.mono HB.out.size)); have HX := Lib.hid (HX.out.keep hb); have HY := Lib.hid (HY.out.keep hb); clear hb c0 c1 c2 c3 c4 c5 c6 c7 l0 l1 l2 l3 l4; obtain ⟨c0, c1, c2, c3, c4, c5, c6, c7⟩ := HY.out.cells; simp only at c0 c1 c2 c3 c4 c5 c6 c7; obtain ⟨l0, l1, l2, l3, l4⟩ := HX.out.cells)
          have hbn := below_new V3 (.cells #[.int .i64 k, .int .i64 o, .int .i64 cl, .int .i64 n, .int .i64 a, .int .i64 b, .int .i64 p, .int .i64 d] 87)
          have HSo := Lib.hid (sl_new nc_len V3 (⟨k, o, cl, n, ⟨a, b, p, d⟩⟩ : IncV) 87 V3.heap.size rfl)
          simp only [nc, IncV.cells] at HSo
          have HO1 := Lib.hid (HO.out.below hbn)
          have HB1 := Lib.hid (HB.out.trans (hbn.mono HB.out.size))
          have HSz2 : Hid (w.heap.size + 1 + 1 ≤ (V3.alloc (.cells #[.int .i64 k, .int .i64 o, .int .i64 cl, .int .i64 n, .int .i64 a, .int .i64 b, .int .i64 p, .int .i64 d] 87)).heap.size) := Lib.hid (by have h1 := (Array.getElem?_eq_some_iff.1 HY.out).1; have h2 := hbn.size; omega)
          clear hbn
          go_wp2_with (at_builtin; refine appSl nc_len nc_one (by decide) rfl _ _ 78 rfl (w.heap.size + 1 + 1) 87 _ (by rfl) 64 Try.underlying78 infoIncR _ l rfl HO1.out _ [(⟨k, o, cl, n, ⟨a, b, p, d⟩⟩ : IncV)] rfl HSo.out (by rw [HL.out]; unfold maxLen; simp only [List.length_singleton]; omega) (by rw [HL.out]; simp only [List.length_singleton]; omega) HSz2.out ?_; intro v9 w9 ho9 hk9; have HO9 := Lib.hid (ho9.mono (show w.heap.size ≤ w.heap.size + 1 + 1 by omega)); have HB9 := Lib.hid (HB1.out.trans (hk9.toBelow.mono (show w.heap.size ≤ w.heap.size + 1 + 1 by omega))); clear ho9 hk9 c0 c1 c2 c3 c4 c5 c6 c7 l0 l1 l2 l3 l4)
          go_ret2
          rw [HRr.out]
          exact ⟨_, rfl, HO9.out, HB9.out⟩

end Go.Proofs.Ytcofmfjhgbihkaa.crush

namespace Go.Proofs.Ytcofmfjhgbihkaa.crush
open Go.RowKit
open Go.Proofs.Ytcofmfjhgbihkaa.kit Go.Proofs.Ytcofmfjhgbihkaa.own
set_option linter.unusedVariables false
set_option linter.unusedSimpArgs false

theorem step_appSlR {α : Type} {enc : α → List Value} {k : Nat} (hk : ∀ x, (enc x).length = k) (h1 : ∀ x, ∀ v ∈ enc x, v.oneCell' = true) (hk0 : 0 < k) {P : Program} {ops : Array Oper} {o : Oper} {a : Act} {w : World} {K : Act → World → Prop} {Q : Exit → Act → World → Prop} {E : Prop} (hgd : o.guard = none) (s x : Operand) (t : TypeId)
    (ho : o.op = .call { callee := .builtin .append, args := #[s, x], argTypes := #[t, t] })
    (B e : Nat) (z : Value) (hz : z.cells.size = k) (bytes : Nat) (ht : P.underlying t = some (.slice e)) (hi : (P.info? e).map (fun i => (i.zero, i.size, i.bytes)) = some (some z, k, bytes))
    (v : Value) (xs : List α) (hs : a.eval s = v) (hown : Own enc k e w B v xs) (ax : Addr) (m cx : Nat) (ys : List α) (hx : a.eval x = .slice (some ax) m cx) (hr : Sl enc k w (.slice (some ax) m cx) ys)
    (h63 : xs.length + ys.length ≤ maxLen) (hb : (xs.length + ys.length) * bytes ≤ 140737488355328) (hB : B ≤ w.heap.size)
    (h : ∀ v' w', Own enc k e w' B v' (xs ++ ys) → Kept B e w w' → K (a.put o.dst v') w') :
    if Region.wanted o (yielded ops a.tmps) = true then Oper.wp P o a w K Q else E := by
  obtain ⟨hl, ax', cx', he, hnil, hc⟩ := hr
  obtain ⟨rfl, rfl, rfl⟩ : ax' = some ax ∧ m = ys.length ∧ cx' = cx := by cases he; exact ⟨rfl, rfl, rfl⟩
  clear he
  obtain ⟨i0, hi, hz0, hz1, hz2⟩ := info_parts hi
  obtain ⟨b, off, spot⟩ := ax
  have news : ∀ (j : Nat) u, (ys.flatMap enc)[j]? = some u → w.cell? ((⟨b, off, spot⟩ : Addr).add j) = some u := by
    intro j u hu
    have hj : j < ys.length * k := by have := (List.getElem?_eq_some_iff.1 hu).1; rwa [flat_len hk] at this
    have hq : j / k < ys.length := (Nat.div_lt_iff_lt_mul hk0).2 hj
    obtain ⟨b', off', e', hlt, hcell⟩ := hc (Nat.lt_of_le_of_lt (Nat.zero_le _) hq)
    cases e'
    have hd : j = (j / k) * k + j % k := (Nat.div_add_mod' j k).symm
    rw [hd, flat_at hk ys (j / k) (j % k) hq (Nat.mod_lt _ hk0)] at hu
    rw [add_plain', hd, ← Nat.add_assoc]
    exact hcell (j / k) hq (j % k) u hu
  have hone : ∀ u ∈ ys.flatMap enc, u.oneCell' = true := by
    intro u hu
    obtain ⟨y, _, hy⟩ := List.mem_flatMap.1 hu
    exact h1 y u hy
  rw [if_pos (by simp [Region.wanted, hgd])]
  obtain ⟨v', w', hr, h2, h3, h4, h5⟩ := run_append_own_at (P := P) w B t o.type e i0 z k bytes ht hi hz0 hz1 hz2 hz hk0 v xs.length (xs.flatMap enc) hown ⟨b, off, spot⟩ ys.length cx' (ys.flatMap enc) (flat_len hk ys) news hone h63 hb hB
  unfold Oper.wp execOp
  simp only [ho, resolve, invoke, builtin, Sem.run_bind, Sem.run_pure, Result.andThen_ok, List.map_toArray, List.map_cons, List.map_nil, hs, hx, hr]
  refine h v' w' ?_ (Kept.grown hB hown h3)
  unfold Own
  rw [List.length_append, List.flatMap_append]
  exact h2
theorem sl_dropR {α : Type} {enc : α → List Value} {k : Nat} {w : World} {bk off cx : Nat} {xs : List α} (h : Sl enc k w (.slice (some ⟨bk, off, none⟩) xs.length cx) xs) (i : Nat) (hi : i ≤ xs.length) (A : Addr) (c2 : Nat) (hA : i < xs.length → A = ⟨bk, off + i * k, none⟩) : Sl enc k w (.slice (some A) (xs.length - i) c2) (xs.drop i) := by
  obtain ⟨h1, a, c, he, h2, h3⟩ := h
  have hlen : (xs.drop i).length = xs.length - i := List.length_drop ..
  refine ⟨by rw [hlen]; omega, some A, c2, by rw [hlen], (by intro e; cases e), fun hp => ?_⟩
  rw [hlen] at hp
  obtain ⟨b, o, ha, hb, hr⟩ := h3 (by omega)
  cases he
  cases ha
  refine ⟨_, off + i * k, by rw [hA (by omega)], hb, fun j hj => ?_⟩
  rw [List.getElem_drop]
  have := hr (i + j) (by rw [List.length_drop] at hj; omega)
  rw [Nat.add_mul, ← Nat.add_assoc] at this
  exact this


theorem inc_one (k o cl n a b p d : Int) : (#[Value.int .i64 k, .int .i64 o, .int .i64 cl, .int .i64 n, .int .i64 a, .int .i64 b, .int .i64 p, .int .i64 d] : Array Value).all (·.oneCell') = true := by simp [Value.oneCell']
theorem IBx.there {W : World} {N : Nat} {c : IncV} (h : IBx W N c) : W.there N 0 8 := there_of h
theorem IBx.put {W : World} {N : Nat} {c : IncV} (h : IBx W N c) (c' : IncV) : IBx (W.setCells N 0 (nc c')) N c' := heap_setCells N 87 (nc c') 0 W _ h
theorem IBx.lt8 {W : World} {N : Nat} {c : IncV} (h : IBx W N c) : N < W.heap.size := (Array.getElem?_eq_some_iff.1 h).1
theorem Own.setCells_farW {α : Type} {enc : α → List Value} {k e B : Nat} {W : World} {v : Value} {xs : List α} (h : Own enc k e W B v xs) {N : Nat} (hN : N < B) (vs : List Value) : Own enc k e (W.setCells N 0 vs) B v xs := h.setCells_far hN 0 vs
theorem IBx.range {W : World} {N : Nat} {c : IncV} (h : IBx W N c) : W.rangeAt N 0 (nc c) := cells_range (l := nc c) h

set_option maxHeartbeats 8000000 in
set_option maxRecDepth 100000 in
theorem First1_any (c : IncV) (m : MapV) (N : Nat) (vh vo vp vb : Value) (w : World) (hN : MBox w N 83 m.epoch vh vo vp vb) (h : MapR w (.agg #[.int .i64 m.epoch, vh, vo, vp, vb]) m) (hs : m.Small) (hn : m.osds ≠ []) (hb : okBans m.bans = true) :
    Calls Try.prog 88 #[.agg #[.int .i64 c.kind, .int .i64 c.osd, .int .i64 c.client, .int .i64 c.num, .int .i64 c.pool.size, .int .i64 c.pool.min, .int .i64 c.pool.pgs, .int .i64 c.pool.dom], .pointer (some ⟨N, 0, none⟩)] w fun e w' => e = .returned (.bool (usefulB m c)) ∧ Below w.heap.size w w' := by
  have HU := Lib.hid (fun u (hu : Below w.heap.size w u) => Useful_any _ c m u (h.keep hu) hs hn hb)
  obtain ⟨h1, h2, h3, h4⟩ := mapR_rows h
  obtain ⟨ah, ch, rfl⟩ := h1.slice
  obtain ⟨ao, co, rfl⟩ := h2.slice
  obtain ⟨ap, cp, rfl⟩ := h3.slice
  obtain ⟨ab, cb, rfl⟩ := h4.slice
  have HB := Lib.hid (below_new w (.cells #[.int .i64 c.kind, .int .i64 c.osd, .int .i64 c.client, .int .i64 c.num, .int .i64 c.pool.size, .int .i64 c.pool.min, .int .i64 c.pool.pgs, .int .i64 c.pool.dom] 87))
  have HX := Lib.hid (hN.keep HB.out)
  have HY := Lib.hid (ibx_new w c)
  generalize usefulB m c = R at HU ⊢
  generalize m.hosts.length = Lh at HU HX ⊢
  generalize m.osds.length = Lo at HU HX ⊢
  generalize m.pools.length = Lp at HU HX ⊢
  generalize m.bans.length = Lb at HU HX ⊢
  obtain ⟨k, o, cl, n, ⟨a, b, p, d⟩⟩ := c
  unfold IncV.val at HU
  simp only at HU HB HX HY ⊢
  clear h h1 h2 h3 h4 hN hs hn hb
  go_enter Try.func88, Try.ntmps88
  go_upto_region 1 with fail
  generalize w.alloc _ = U at HB HX HY ⊢
  obtain ⟨c0, c1, c2, c3, c4, c5, c6, c7⟩ := HY.out.cells
  simp only at c0 c1 c2 c3 c4 c5 c6 c7
  obtain ⟨l0, l1, l2, l3, l4⟩ := HX.out.cells
  go_wp2_with (go_at_call 45; refine (HU.out _ HB.out).mono ?_; rintro e V ⟨rfl, hb⟩; have HB := Lib.hid (HB.out.trans (hb.mono HB.out.size)); clear hb)
  go_ret
  exact ⟨rfl, HB.out⟩
theorem firstI_none {l : List IncV} {m : MapV} (h : l.findIdx? (usefulB m) = none) : firstI l m = (zeroI, [], false) := by unfold firstI; rw [h]
theorem firstI_some {l : List IncV} {m : MapV} {i : Nat} (h : l.findIdx? (usefulB m) = some i) : ∃ hi : i < l.length, firstI l m = (l[i], l.drop (i + 1), true) := by
  obtain ⟨hi, -⟩ := List.findIdx?_eq_some_iff_getElem.1 h
  refine ⟨hi, ?_⟩
  unfold firstI; rw [h]
  simp only
  rw [List.getD_eq_getElem?_getD, List.getElem?_eq_getElem hi, Option.getD_some]

set_option maxHeartbeats 16000000 in
set_option maxRecDepth 100000 in
theorem FirstL_any (vl v : Value) (l : List IncV) (m : MapV) (w : World) (hl : Sl nc 8 w vl l) (hcap : ∃ a c, vl = .slice a l.length c ∧ l.length ≤ c) (hz : l.length * 64 ≤ 100000000000000) (h : MapR w v m) (hs : m.Small) (hn : m.osds ≠ []) (hb : okBans m.bans = true) :
    Calls Try.prog 47 #[vl, v] w (FirstS (firstI l m) w) := by
  have HS := Lib.hid (fun u (hu : Below w.heap.size w u) => hl.keep hu)
  have HF := Lib.hid (fun x N vh vo vp vb u (hN : MBox u N 83 m.epoch vh vo vp vb) (hr : MapR u (.agg #[.int .i64 m.epoch, vh, vo, vp, vb]) m) => First1_any x m N vh vo vp vb u hN hr hs hn hb)
  have HMr := Lib.hid (fun u (hu : Below w.heap.size w u) => h.keep hu)
  obtain ⟨vh, vo, vp, vb, rfl, h1, h2, h3, h4⟩ := h
  obtain ⟨ah, ch, rfl⟩ := h1.slice
  obtain ⟨ao, co, rfl⟩ := h2.slice
  obtain ⟨ap, cp, rfl⟩ := h3.slice
  obtain ⟨ab, cb, rfl⟩ := h4.slice
  obtain ⟨al, yl, rfl, hcap⟩ := hcap
  have hmx := hl.1
  generalize m.hosts.length = Lh at HMr ⊢
  generalize m.osds.length = Lo at HMr ⊢
  generalize m.pools.length = Lp at HMr ⊢
  generalize m.bans.length = Lb at HMr ⊢
  have HCap := Lib.hid hcap
  have HZ := Lib.hid hz
  obtain ⟨L, hL⟩ : ∃ L, l.length = L := ⟨_, rfl⟩
  have HL := Lib.hid hL
  rw [hL] at HS hcap hz hmx  ⊢
  clear h1 h2 h3 h4 hL hl
  have HX : Hid (Below w.heap.size w ((w.alloc (.cells #[.int .i64 m.epoch, .slice ah Lh ch, .slice ao Lo co, .slice ap Lp cp, .slice ab Lb cb] 83)).alloc (.cells #[.int .i64 0, .int .i64 0, .int .i64 0, .int .i64 0, .int .i64 0, .int .i64 0, .int .i64 0, .int .i64 0] 87)) ∧ MBox ((w.alloc (.cells #[.int .i64 m.epoch, .slice ah Lh ch, .slice ao Lo co, .slice ap Lp cp, .slice ab Lb cb] 83)).alloc (.cells #[.int .i64 0, .int .i64 0, .int .i64 0, .int .i64 0, .int .i64 0, .int .i64 0, .int .i64 0, .int .i64 0] 87)) w.heap.size 83 m.epoch (.slice ah Lh ch) (.slice ao Lo co) (.slice ap Lp cp) (.slice ab Lb cb) ∧ IBx ((w.alloc (.cells #[.int .i64 m.epoch, .slice ah Lh ch, .slice ao Lo co, .slice ap Lp cp, .slice ab Lb cb] 83)).alloc (.cells #[.int .i64 0, .int .i64 0, .int .i64 0, .int .i64 0, .int .i64 0, .int .i64 0, .int .i64 0, .int .i64 0] 87)) (w.heap.size + 1) zeroI) := by
    have b1 := below_new w (.cells #[.int .i64 m.epoch, .slice ah Lh ch, .slice ao Lo co, .slice ap Lp cp, .slice ab Lb cb] 83)
    have x1 := mbox_new w 83 m.epoch (.slice ah Lh ch) (.slice ao Lo co) (.slice ap Lp cp) (.slice ab Lb cb)
    have b2 := below_new (w.alloc (.cells #[.int .i64 m.epoch, .slice ah Lh ch, .slice ao Lo co, .slice ap Lp cp, .slice ab Lb cb] 83)) (.cells #[.int .i64 0, .int .i64 0, .int .i64 0, .int .i64 0, .int .i64 0, .int .i64 0, .int .i64 0, .int .i64 0] 87)
    have x2 := ibx_new (w.alloc (.cells #[.int .i64 m.epoch, .slice ah Lh ch, .slice ao Lo co, .slice ap Lp cp, .slice ab Lb cb] 83)) zeroI
    rw [World.size_alloc] at x2
    exact Lib.hid ⟨b1.trans (b2.mono b1.size), x1.keep b2, x2⟩
  have hmf : ∀ (fn : Fn) (first cap : Array Value) (w : World), (Instr.makeFunc fn first cap).run Try.prog w = .ok (.func fn first cap) w := fun _ _ _ _ => rfl
  have HIx := Lib.hid (fun u (hb : Below w.heap.size w u) (hx : MBox u w.heap.size 83 m.epoch (.slice ah Lh ch) (.slice ao Lo co) (.slice ap Lp cp) (.slice ab Lb cb)) => indexFN (.slice al L yl) l w.heap.size (usefulB m) u (HS.out u hb) (fun x u' hu' => HF.out x _ _ _ _ _ u' (hx.keep hu') (HMr.out u' (hb.trans (hu'.mono hb.size)))))
  clear HF HMr
  have HR0 := Lib.hid (fun h => firstI_none (l := l) (m := m) h)
  have HR1 := Lib.hid (fun i h => firstI_some (l := l) (m := m) (i := i) h)
  generalize firstI l m = R at HR0 HR1 ⊢
  go_enter Try.func47, Try.ntmps47
  go_upto_region 1 with fail
  generalize ((w.alloc (.cells #[.int .i64 m.epoch, .slice ah Lh ch, .slice ao Lo co, .slice ap Lp cp, .slice ab Lb cb] 83)).alloc (.cells #[.int .i64 0, .int .i64 0, .int .i64 0, .int .i64 0, .int .i64 0, .int .i64 0, .int .i64 0, .int .i64 0] 87)) = U at HX ⊢
  cases hfi : l.findIdx? (usefulB m) with
  | none =>
    have HRr := Lib.hid (HR0.out hfi)
    have hpi : posI (usefulB m) l = -1 := by unfold posI; rw [hfi]
    rw [hpi] at HIx
    clear hfi hpi
    go_upto_region 4 with (go_at_call 89; refine (HIx.out _ HX.out.1 HX.out.2.1).mono ?_; rintro e V ⟨rfl, hb⟩; have HX := Lib.hid (And.intro (HX.out.1.trans (hb.mono HX.out.1.size)) (And.intro (HX.out.2.1.keep hb) (HX.out.2.2.keep hb))); clear hb)
    clear hmf
    go_wp2_with (refine wpList_store_mid rfl 87 _ _ rfl (w.heap.size + 1) 0 #[.int .i64 0, .int .i64 0, .int .i64 0, .int .i64 0, .int .i64 0, .int .i64 0, .int .i64 0, .int .i64 0] rfl rfl HX.out.2.2.there sizeInc (inc_one _ _ _ _ _ _ _ _) ?_)
    refine bodyPost_ret (ret_cell_tt rfl rfl (HX.out.2.2.put zeroI).range Try.underlying87 rfl sizeInc) rfl ?_
    rw [HRr.out]
    exact ⟨_, rfl, Own.nil _ _ _, Below.setCells HX.out.1 (b := w.heap.size + 1) (by omega) 0 _⟩
  | some i =>
    obtain ⟨hi, hfe⟩ := HR1.out _ hfi
    have HRr := Lib.hid hfe
    have hpi : posI (usefulB m) l = i := by unfold posI; rw [hfi]
    rw [hpi] at HIx
    obtain ⟨x, hlx⟩ : ∃ x, l[i] = x := ⟨_, rfl⟩
    rw [hlx] at HRr
    obtain ⟨xk, xo, xc, xn, ⟨xa, xb, xp, xd⟩⟩ := x
    clear hfi hpi hfe
    have hi : i < l.length := hi
    obtain ⟨g, off, hal, hbl, hr⟩ := sl_elem (HS.out _ (Below.refl _ _)) i hi
    subst hal
    obtain ⟨kk, hkk⟩ : ∃ z, i + 1 = z := ⟨_, rfl⟩
    have HKk := Lib.hid hkk
    have HSl : Hid (∀ u, Below w.heap.size w u → Sl nc 8 u (.slice (some ⟨g, off, none⟩) l.length yl) l) := Lib.hid (by rw [HL.out]; exact HS.out)
    have HE : Hid (∀ u, Below w.heap.size w u → u.cell? ⟨g, off + i * 8, none⟩ = some (.int .i64 xk) ∧ u.cell? ⟨g, off + i * 8 + 1, none⟩ = some (.int .i64 xo) ∧ u.cell? ⟨g, off + i * 8 + 2, none⟩ = some (.int .i64 xc) ∧ u.cell? ⟨g, off + i * 8 + 3, none⟩ = some (.int .i64 xn) ∧ u.cell? ⟨g, off + i * 8 + 4, none⟩ = some (.int .i64 xa) ∧ u.cell? ⟨g, off + i * 8 + 5, none⟩ = some (.int .i64 xb) ∧ u.cell? ⟨g, off + i * 8 + 6, none⟩ = some (.int .i64 xp) ∧ u.cell? ⟨g, off + i * 8 + 7, none⟩ = some (.int .i64 xd)) := Lib.hid (fun u hu => by
      have hr2 := range_keep hr hbl hu
      rw [hlx] at hr2
      exact ncells8 hr2)
    have hiL : i < L := by rw [← HL.out]; exact hi
    have hkL : kk ≤ L := by omega
    have hk0 : (0 : Int) ≤ (kk : Int) := by omega
    have hi0 : (0 : Int) ≤ (i : Int) := by omega
    have hi1 : (i : Int) < (L : Int) := by omega
    have hk2 : (kk : Int) ≤ (L : Int) := by omega
    have hk3 : (kk : Int) ≤ (yl : Int) := by omega
    have hk4 : (L : Int) ≤ (yl : Int) := by omega
    have hk5 : kk ≤ yl := by omega
    have hk7 : L ≤ yl := by omega
    have hwr : IntKind.i64.wrap ((i : Int) + 1) = (kk : Int) := by
      have : (kk : Int) = i + 1 := by omega
      rw [this, IntKind.wrap_i64]; omega
    obtain ⟨A, hA, hA2⟩ : ∃ A : Addr, (if yl = kk then some (⟨g, off, none⟩ : Addr) else some (⟨g, off + kk * 8, none⟩ : Addr)) = some A ∧ (kk < l.length → A = ⟨g, off + kk * 8, none⟩) := by
      by_cases hc0 : yl = kk
      · exact ⟨⟨g, off, none⟩, by rw [if_pos hc0], fun hlt => by have := HL.out; omega⟩
      · exact ⟨⟨g, off + kk * 8, none⟩, by rw [if_neg hc0], fun _ => rfl⟩
    have HDr : Hid (∀ u, Below w.heap.size w u → Sl nc 8 u (.slice (some A) (L - kk) (yl - kk)) (l.drop kk)) := Lib.hid (fun u hu => by
      have h1 := sl_dropR (HSl.out u hu) kk (by rw [HL.out]; exact hkL) A (yl - kk) hA2
      rwa [HL.out] at h1)
    have HDl := Lib.hid (show (l.drop kk).length = L - kk by rw [List.length_drop, HL.out])
    clear hr hbl hkk hA2
    rw [HKk.out] at HRr
    have HCl := Lib.hid (fun u (v' : Value) (h' : Sl nc 8 u v' (l.drop kk)) => cloneN v' (l.drop kk) u h' (by rw [HDl.out]; have := HZ.out; have := HL.out; omega))
    have hiN : ¬ (i : Int) < 0 := by omega
    go_upto_region 5 with (go_at_call 89; refine (HIx.out _ HX.out.1 HX.out.2.1).mono ?_; rintro e V ⟨rfl, hb⟩; have HX := Lib.hid (And.intro (HX.out.1.trans (hb.mono HX.out.1.size)) (And.intro (HX.out.2.1.keep hb) (HX.out.2.2.keep hb))); clear hb)
    clear hmf HIx
    obtain ⟨U, rfl⟩ : ∃ Z, Z = V := ⟨_, rfl⟩
    have HX := Lib.hid (And.intro (below_drew HX.out.1) (And.intro (HX.out.2.1.keep (below_drew (Below.refl _ _))) (HX.out.2.2.keep (below_drew (Below.refl _ _)))))
    refine wp_region_held_drew (S := fun u => u.cell? ⟨g, off + i * 8, none⟩ = some (.int .i64 xk) ∧ u.cell? ⟨g, off + i * 8 + 1, none⟩ = some (.int .i64 xo) ∧ u.cell? ⟨g, off + i * 8 + 2, none⟩ = some (.int .i64 xc) ∧ u.cell? ⟨g, off + i * 8 + 3, none⟩ = some (.int .i64 xn) ∧ u.cell? ⟨g, off + i * 8 + 4, none⟩ = some (.int .i64 xa) ∧ u.cell? ⟨g, off + i * 8 + 5, none⟩ = some (.int .i64 xb) ∧ u.cell? ⟨g, off + i * 8 + 6, none⟩ = some (.int .i64 xp) ∧ u.cell? ⟨g, off + i * 8 + 7, none⟩ = some (.int .i64 xd)) (by kernel_rfl) (HE.out _ HX.out.1) (fun hHeld => ?_)
    generalize U.drew = U at *
    refine wpAnyH_take (i := 0) (oi := { dst := some 16, op := Op.move (Operand.tmp 0), type := 78, pos := "report.go:35", after := #[], guard := none }) (v := ?_) rfl (by kernel_rfl) (by kernel_rfl) (by kernel_rfl) (fun _ _ _ h => h) (Or.inl ⟨by rfl, ?_⟩) hHeld ?_
    rotate_left 1
    · intro W hSw
      (try dsimp only at hSw)
      go_simp
      try with_reducible rfl
    try simp only [Act.put, List.setIfInBounds_toArray, List.set_cons_zero, List.set_cons_succ]
    refine wpAnyH_take (i := 1) (oi := { dst := some 17, op := Op.move (Operand.tmp 8), type := 3, pos := "report.go:35", after := #[], guard := none }) (v := ?_) rfl (by kernel_rfl) (by kernel_rfl) (by kernel_rfl) (fun _ _ _ h => h) (Or.inl ⟨by rfl, ?_⟩) hHeld ?_
    rotate_left 1
    · intro W hSw
      (try dsimp only at hSw)
      go_simp
      try with_reducible rfl
    try simp only [Act.put, List.setIfInBounds_toArray, List.set_cons_zero, List.set_cons_succ]
    refine wpAnyH_take (i := 2) (oi := { dst := some 18, op := Op.indexAddr 78 (Operand.tmp 16) (Operand.tmp 17), type := 0, pos := "report.go:35", after := #[{ on := 0, ground := Ground.data }, { on := 1, ground := Ground.data }], guard := none }) (v := ?_) rfl (by kernel_rfl) (by kernel_rfl) (by kernel_rfl) (fun _ _ _ h => h) (Or.inl ⟨by rfl, ?_⟩) hHeld ?_
    rotate_left 1
    · intro W hSw
      (try dsimp only at hSw)
      go_simp
      try with_reducible rfl
    try simp only [Act.put, List.setIfInBounds_toArray, List.set_cons_zero, List.set_cons_succ]
    refine wpAnyH_take (i := 3) (oi := { dst := some 19, op := Op.load 87 (Operand.tmp 18), type := 87, pos := "report.go:35", after := #[{ on := 2, ground := Ground.data }], guard := none }) (v := ?_) rfl (by kernel_rfl) (by kernel_rfl) (by kernel_rfl) (fun _ _ _ h => h) (Or.inl ⟨by rfl, ?_⟩) hHeld ?_
    rotate_left 1
    · intro W hSw
      (try dsimp only at hSw)
      go_simp
      try with_reducible rfl
    try simp only [Act.put, List.setIfInBounds_toArray, List.set_cons_zero, List.set_cons_succ]
    refine wpAnyH_take (i := 4) (oi := { dst := some 20, op := Op.move (Operand.tmp 0), type := 78, pos := "report.go:35", after := #[], guard := none }) (v := ?_) rfl (by kernel_rfl) (by kernel_rfl) (by kernel_rfl) (fun _ _ _ h => h) (Or.inl ⟨by rfl, ?_⟩) hHeld ?_
    rotate_left 1
    · intro W hSw
      (try dsimp only at hSw)
      go_simp
      try with_reducible rfl
    try simp only [Act.put, List.setIfInBounds_toArray, List.set_cons_zero, List.set_cons_succ]
    refine wpAnyH_take (i := 5) (oi := { dst := some 21, op := Op.move (Operand.tmp 8), type := 3, pos := "report.go:35", after := #[], guard := none }) (v := ?_) rfl (by kernel_rfl) (by kernel_rfl) (by kernel_rfl) (fun _ _ _ h => h) (Or.inl ⟨by rfl, ?_⟩) hHeld ?_
    rotate_left 1
    · intro W hSw
      (try dsimp only at hSw)
      go_simp
      try with_reducible rfl
    try simp only [Act.put, List.setIfInBounds_toArray, List.set_cons_zero, List.set_cons_succ]
    refine wpAnyH_take (i := 6) (oi := { dst := some 22, op := Op.binOp BinOp.add 3 (Operand.tmp 21) (Operand.const (Value.int IntKind.i64 1)) 3, type := 3, pos := "report.go:35", after := #[{ on := 5, ground := Ground.data }], guard := none }) (v := ?_) rfl (by kernel_rfl) (by kernel_rfl) (by kernel_rfl) (fun _ _ _ h => h) (Or.inl ⟨by rfl, ?_⟩) hHeld ?_
    rotate_left 1
    · intro W hSw
      (try dsimp only at hSw)
      go_simp
      try with_reducible rfl
    try simp only [Act.put, List.setIfInBounds_toArray, List.set_cons_zero, List.set_cons_succ]
    refine wpAnyH_take (i := 7) (oi := { dst := some 23, op := Op.slice 78 (Operand.tmp 20) (some (Operand.tmp 22)) none none, type := 78, pos := "report.go:35", after := #[{ on := 4, ground := Ground.data }, { on := 6, ground := Ground.data }], guard := none }) (v := ?_) rfl (by kernel_rfl) (by kernel_rfl) (by kernel_rfl) (fun _ _ _ h => h) (Or.inl ⟨by rfl, ?_⟩) hHeld ?_
    rotate_left 1
    · intro W hSw
      (try dsimp only at hSw)
      go_simp
      try with_reducible rfl
    try simp only [Act.put, List.setIfInBounds_toArray, List.set_cons_zero, List.set_cons_succ]
    refine wpAnyH_ready (rs := [8]) (by kernel_rfl) (by simp) ?_
    refine AllReadyH.cons (o := { dst := some 24, op := Op.call { callee := Callee.value (Operand.func 83), args := #[Operand.tmp 23], argTypes := #[78] }, type := 78, pos := "report.go:35", after := #[{ on := 7, ground := Ground.data }], guard := none }) rfl (fun K7 hK7 => ?_) ?_
    · go_simp
      refine (HCl.out _ _ (HDr.out _ HX.out.1)).mono ?_
      rintro e V ⟨v8, rfl, ho, hb⟩
      obtain ⟨a8, y8, hv8⟩ := ho.slice
      rw [HDl.out] at hv8
      subst hv8
      have HO8 := Lib.hid (ho.mono (show w.heap.size + 1 + 1 ≤ _ from HX.out.2.2.lt8))
      have HX := Lib.hid (And.intro (HX.out.1.trans (hb.mono HX.out.1.size)) (And.intro (HX.out.2.1.keep hb) (HX.out.2.2.keep hb)))
      clear ho hb
      obtain ⟨U, rfl⟩ : ∃ Z, Z = V := ⟨_, rfl⟩
      try dsimp only
      refine hK7.out _ _ (HE.out _ HX.out.1) (fun hHeld => ?_)
      clear hK7 K7
      try simp only [Act.put, List.setIfInBounds_toArray, List.set_cons_zero, List.set_cons_succ]
      refine wpAnyH_ready (rs := [9]) (by kernel_rfl) (by simp) ?_
      refine AllReadyH.cons (o := { dst := none, op := Op.store 87 (Operand.tmp 4) (Operand.tmp 19), type := 0, pos := "report.go:35", after := #[{ on := 3, ground := Ground.data }, { on := 8, ground := Ground.chain }, { on := 0, ground := Ground.phase }, { on := 1, ground := Ground.phase }, { on := 2, ground := Ground.phase }, { on := 3, ground := Ground.phase }, { on := 4, ground := Ground.textOnly Departure.lateStores }, { on := 5, ground := Ground.textOnly Departure.lateStores }, { on := 6, ground := Ground.textOnly Departure.lateStores }, { on := 7, ground := Ground.textOnly Departure.lateStoresUnsure }, { on := 8, ground := Ground.textOnly Departure.lateStoresUnsure }], guard := none }) rfl (fun K7 hK7 => ?_) ?_
      · refine wp_store_mid 87 _ _ rfl (w.heap.size + 1) 0 #[.int .i64 xk, .int .i64 xo, .int .i64 xc, .int .i64 xn, .int .i64 xa, .int .i64 xb, .int .i64 xp, .int .i64 xd] rfl rfl HX.out.2.2.there sizeInc (inc_one _ _ _ _ _ _ _ _) ?_
        have HP := Lib.hid (HX.out.2.2.put ⟨xk, xo, xc, xn, ⟨xa, xb, xp, xd⟩⟩)
        have HBs := Lib.hid (Below.setCells HX.out.1 (b := w.heap.size + 1) (by omega) 0 (nc ⟨xk, xo, xc, xn, ⟨xa, xb, xp, xd⟩⟩))
        have HO9 := Lib.hid (HO8.out.setCells_farW (N := w.heap.size + 1) (by omega) (nc ⟨xk, xo, xc, xn, ⟨xa, xb, xp, xd⟩⟩))
        simp only [nc, IncV.cells] at HP HBs HO9
        try dsimp only
        refine hK7.out _ _ (HE.out _ HBs.out) (fun hHeld => ?_)
        clear hK7 K7
        try simp only [Act.put, List.setIfInBounds_toArray, List.set_cons_zero, List.set_cons_succ]
        refine wpAnyH_take (i := 10) (oi := { dst := some 5, op := Op.assign (Operand.tmp 24), type := 78, pos := "report.go:35", after := #[{ on := 8, ground := Ground.data }, { on := 9, ground := Ground.chain }, { on := 0, ground := Ground.phase }, { on := 1, ground := Ground.phase }, { on := 2, ground := Ground.phase }, { on := 3, ground := Ground.phase }, { on := 4, ground := Ground.phase }, { on := 5, ground := Ground.phase }, { on := 6, ground := Ground.phase }, { on := 7, ground := Ground.phase }, { on := 8, ground := Ground.phase }, { on := 9, ground := Ground.phase }], guard := none }) (v := ?_) rfl (by kernel_rfl) (by kernel_rfl) (by kernel_rfl) (fun _ _ _ h => h) (Or.inl ⟨by rfl, ?_⟩) hHeld ?_
        rotate_left 1
        · intro W hSw
          (try dsimp only at hSw)
          go_simp
          try with_reducible rfl
        try simp only [Act.put, List.setIfInBounds_toArray, List.set_cons_zero, List.set_cons_succ]
        refine wpAnyH_take (i := 11) (oi := { dst := some 6, op := Op.assign (Operand.const (Value.bool true)), type := 4, pos := "report.go:35", after := #[{ on := 10, ground := Ground.chain }, { on := 0, ground := Ground.phase }, { on := 1, ground := Ground.phase }, { on := 2, ground := Ground.phase }, { on := 3, ground := Ground.phase }, { on := 4, ground := Ground.phase }, { on := 5, ground := Ground.phase }, { on := 6, ground := Ground.phase }, { on := 7, ground := Ground.phase }, { on := 8, ground := Ground.phase }, { on := 9, ground := Ground.phase }, { on := 10, ground := Ground.phase }], guard := none }) (v := ?_) rfl (by kernel_rfl) (by kernel_rfl) (by kernel_rfl) (fun _ _ _ h => h) (Or.inl ⟨by rfl, ?_⟩) hHeld ?_
        rotate_left 1
        · intro W hSw
          (try dsimp only at hSw)
          go_simp
          try with_reducible rfl
        try simp only [Act.put, List.setIfInBounds_toArray, List.set_cons_zero, List.set_cons_succ]
        refine wpAnyH_done (by kernel_rfl) ?_ _
        clear hHeld
        go_wp2
        refine bodyPost_ret (ret_cell_tt rfl rfl HP.out.range Try.underlying87 rfl sizeInc) rfl ?_
        rw [HRr.out]
        exact ⟨_, rfl, HO9.out.mono (show w.heap.size ≤ w.heap.size + 1 + 1 by omega), HBs.out⟩
      exact AllReadyH.nil
    exact AllReadyH.nil

theorem firstI_at {l : List IncV} {m : MapV} {i : Nat} (hi : i < l.length) (h : usefulB m l[i] = true) (hn : ∀ j (hj : j < l.length), j < i → usefulB m l[j] = false) : firstI l m = (l[i], l.drop (i + 1), true) := by
  have : l.findIdx? (usefulB m) = some i := List.findIdx?_eq_some_iff_getElem.2 ⟨hi, h, fun j hj => by rw [hn j (by omega) hj]; decide⟩
  obtain ⟨_, e⟩ := firstI_some this
  exact e
theorem firstI_no {l : List IncV} {m : MapV} (hn : ∀ j (hj : j < l.length), usefulB m l[j] = false) : firstI l m = (zeroI, [], false) :=
  firstI_none (List.findIdx?_eq_none_iff.2 (fun x hx => by
    obtain ⟨j, hj, rfl⟩ := List.getElem_of_mem hx
    exact hn j hj))
set_option maxHeartbeats 16000000 in
set_option maxRecDepth 100000 in
theorem rFirstL_any (vl v : Value) (l : List IncV) (m : MapV) (w : World) (hl : Sl nc 8 w vl l) (hcap : ∃ a c, vl = .slice a l.length c ∧ l.length ≤ c) (hz : l.length * 64 ≤ 100000000000000) (h : MapR w v m) (hb : okBans m.bans = true) :
    Calls Try.prog 48 #[vl, v] w (FirstS (firstI l m) w) := by
  have HS := Lib.hid (fun u (hu : Below w.heap.size w u) => hl.keep hu)
  have HF := Lib.hid (fun x u (hu : Below w.heap.size w u) => rUseful_any v x m u (h.keep hu) hb)
  unfold IncV.val at HF
  obtain ⟨vh, vo, vp, vb, rfl, h1, h2, h3, h4⟩ := h
  obtain ⟨ah, ch, rfl⟩ := h1.slice
  obtain ⟨ao, co, rfl⟩ := h2.slice
  obtain ⟨ap, cp, rfl⟩ := h3.slice
  obtain ⟨ab, cb, rfl⟩ := h4.slice
  obtain ⟨al, yl, rfl, hcap⟩ := hcap
  have hmx := hl.1
  generalize m.hosts.length = Lh at HF ⊢
  generalize m.osds.length = Lo at HF ⊢
  generalize m.pools.length = Lp at HF ⊢
  generalize m.bans.length = Lb at HF ⊢
  have HCap := Lib.hid hcap
  have HZ := Lib.hid hz
  obtain ⟨L, hL⟩ : ∃ L, l.length = L := ⟨_, rfl⟩
  have HL := Lib.hid hL
  rw [hL] at HS hcap hz hmx  ⊢
  clear h1 h2 h3 h4 hL hl
  have HX : Hid (Below w.heap.size w ((w.alloc (.cells #[.int .i64 m.epoch, .slice ah Lh ch, .slice ao Lo co, .slice ap Lp cp, .slice ab Lb cb] 83)).alloc (.cells #[.int .i64 0, .int .i64 0, .int .i64 0, .int .i64 0, .int .i64 0, .int .i64 0, .int .i64 0, .int .i64 0] 87)) ∧ MBox ((w.alloc (.cells #[.int .i64 m.epoch, .slice ah Lh ch, .slice ao Lo co, .slice ap Lp cp, .slice ab Lb cb] 83)).alloc (.cells #[.int .i64 0, .int .i64 0, .int .i64 0, .int .i64 0, .int .i64 0, .int .i64 0, .int .i64 0, .int .i64 0] 87)) w.heap.size 83 m.epoch (.slice ah Lh ch) (.slice ao Lo co) (.slice ap Lp cp) (.slice ab Lb cb) ∧ IBx ((w.alloc (.cells #[.int .i64 m.epoch, .slice ah Lh ch, .slice ao Lo co, .slice ap Lp cp, .slice ab Lb cb] 83)).alloc (.cells #[.int .i64 0, .int .i64 0, .int .i64 0, .int .i64 0, .int .i64 0, .int .i64 0, .int .i64 0, .int .i64 0] 87)) (w.heap.size + 1) zeroI) := by
    have b1 := below_new w (.cells #[.int .i64 m.epoch, .slice ah Lh ch, .slice ao Lo co, .slice ap Lp cp, .slice ab Lb cb] 83)
    have x1 := mbox_new w 83 m.epoch (.slice ah Lh ch) (.slice ao Lo co) (.slice ap Lp cp) (.slice ab Lb cb)
    have b2 := below_new (w.alloc (.cells #[.int .i64 m.epoch, .slice ah Lh ch, .slice ao Lo co, .slice ap Lp cp, .slice ab Lb cb] 83)) (.cells #[.int .i64 0, .int .i64 0, .int .i64 0, .int .i64 0, .int .i64 0, .int .i64 0, .int .i64 0, .int .i64 0] 87)
    have x2 := ibx_new (w.alloc (.cells #[.int .i64 m.epoch, .slice ah Lh ch, .slice ao Lo co, .slice ap Lp cp, .slice ab Lb cb] 83)) zeroI
    rw [World.size_alloc] at x2
    exact Lib.hid ⟨b1.trans (b2.mono b1.size), x1.keep b2, x2⟩
  have HR0 := Lib.hid (firstI_no (l := l) (m := m))
  have HR1 := Lib.hid (fun i => firstI_at (l := l) (m := m) (i := i))
  generalize firstI l m = R at HR0 HR1 ⊢
  go_enter Try.func48, Try.ntmps48
  go_upto_region 1 with fail
  generalize ((w.alloc (.cells #[.int .i64 m.epoch, .slice ah Lh ch, .slice ao Lo co, .slice ap Lp cp, .slice ab Lb cb] 83)).alloc (.cells #[.int .i64 0, .int .i64 0, .int .i64 0, .int .i64 0, .int .i64 0, .int .i64 0, .int .i64 0, .int .i64 0] 87)) = U at HX ⊢
  have HBU := Lib.hid HX.out.1
  go_upto_region 2 with fail
  go_loopw [7] (fun vi wr => ∃ i : Nat, i ≤ L ∧ vi = .int .i64 i ∧ Hid (∀ j (hj : j < l.length), j < i → usefulB m l[j] = false) ∧ Below U.heap.size U wr) (fun i _ => L - (intOf i).toNat)
  case atStart => exact ⟨0, by omega, rfl, Lib.hid (fun j h h2 => by omega), Below.refl _ _⟩
  case round =>
    obtain ⟨i, hi, rfl, HN, hbw⟩ := hrel
    have HX := Lib.hid (And.intro (HX.out.1.trans (hbw.mono HX.out.1.size)) (And.intro (HX.out.2.1.keep hbw) (HX.out.2.2.keep hbw)))
    have HBw := Lib.hid hbw
    clear hbw
    have hii : (0 : Int) ≤ i := by omega
    by_cases hlt : i < L
    · have hlt' : (i : Int) < L := by omega
      have hi : i < l.length := by rw [HL.out]; exact hlt
      have HR1i := Lib.hid (fun h => HR1.out i hi h HN.out)
      obtain ⟨x, hlx⟩ : ∃ x, l[i] = x := ⟨_, rfl⟩
      rw [hlx] at HR1i
      have HF1 := Lib.hid (HF.out x)
      have HLx := Lib.hid hlx
      obtain ⟨q, hq⟩ : ∃ q, usefulB m x = q := ⟨_, rfl⟩
      rw [hq] at HF1 HR1i
      have HQ := Lib.hid hq
      obtain ⟨xk, xo, xc, xn, ⟨xa, xb, xp, xd⟩⟩ := x
      simp only at HF1
      clear hq
      have hi : i < l.length := hi
      obtain ⟨g, off, hal, hbl, hr⟩ := sl_elem (HS.out _ (Below.refl _ _)) i hi
      subst hal
      obtain ⟨kk, hkk⟩ : ∃ z, i + 1 = z := ⟨_, rfl⟩
      have HKk := Lib.hid hkk
      have HSl : Hid (∀ u, Below w.heap.size w u → Sl nc 8 u (.slice (some ⟨g, off, none⟩) l.length yl) l) := Lib.hid (by rw [HL.out]; exact HS.out)
      have HE : Hid (∀ u, Below w.heap.size w u → u.cell? ⟨g, off + i * 8, none⟩ = some (.int .i64 xk) ∧ u.cell? ⟨g, off + i * 8 + 1, none⟩ = some (.int .i64 xo) ∧ u.cell? ⟨g, off + i * 8 + 2, none⟩ = some (.int .i64 xc) ∧ u.cell? ⟨g, off + i * 8 + 3, none⟩ = some (.int .i64 xn) ∧ u.cell? ⟨g, off + i * 8 + 4, none⟩ = some (.int .i64 xa) ∧ u.cell? ⟨g, off + i * 8 + 5, none⟩ = some (.int .i64 xb) ∧ u.cell? ⟨g, off + i * 8 + 6, none⟩ = some (.int .i64 xp) ∧ u.cell? ⟨g, off + i * 8 + 7, none⟩ = some (.int .i64 xd)) := Lib.hid (fun u hu => by
        have hr2 := range_keep hr hbl hu
        rw [hlx] at hr2
        exact ncells8 hr2)
      have hiL : i < L := by rw [← HL.out]; exact hi
      have hkL : kk ≤ L := by omega
      have hk0 : (0 : Int) ≤ (kk : Int) := by omega
      have hi0 : (0 : Int) ≤ (i : Int) := by omega
      have hi1 : (i : Int) < (L : Int) := by omega
      have hk2 : (kk : Int) ≤ (L : Int) := by omega
      have hk3 : (kk : Int) ≤ (yl : Int) := by omega
      have hk4 : (L : Int) ≤ (yl : Int) := by omega
      have hk5 : kk ≤ yl := by omega
      have hk7 : L ≤ yl := by omega
      have hwr : IntKind.i64.wrap ((i : Int) + 1) = (kk : Int) := by
        have : (kk : Int) = i + 1 := by omega
        rw [this, IntKind.wrap_i64]; omega
      obtain ⟨A, hA, hA2⟩ : ∃ A : Addr, (if yl = kk then some (⟨g, off, none⟩ : Addr) else some (⟨g, off + kk * 8, none⟩ : Addr)) = some A ∧ (kk < l.length → A = ⟨g, off + kk * 8, none⟩) := by
        by_cases hc0 : yl = kk
        · exact ⟨⟨g, off, none⟩, by rw [if_pos hc0], fun hlt => by have := HL.out; omega⟩
        · exact ⟨⟨g, off + kk * 8, none⟩, by rw [if_neg hc0], fun _ => rfl⟩
      have HDr : Hid (∀ u, Below w.heap.size w u → Sl nc 8 u (.slice (some A) (L - kk) (yl - kk)) (l.drop kk)) := Lib.hid (fun u hu => by
        have h1 := sl_dropR (HSl.out u hu) kk (by rw [HL.out]; exact hkL) A (yl - kk) hA2
        rwa [HL.out] at h1)
      have HDl := Lib.hid (show (l.drop kk).length = L - kk by rw [List.length_drop, HL.out])
      clear hr hbl hkk hA2
      rw [HKk.out] at HR1i
      clear hlx
      have HD := Lib.hid (And.intro (below_drew HX.out.1) (And.intro (HX.out.2.1.keep (below_drew (Below.refl _ _))) (HX.out.2.2.keep (below_drew (Below.refl _ _)))))
      have HBd := Lib.hid (below_drew HBw.out)
      go_upto_region 4 with fail
      go_region_held3 (fun u => (u.cell? ⟨w.heap.size, 0, none⟩ = some (.int .i64 m.epoch) ∧ u.cell? ⟨w.heap.size, 1, none⟩ = some (.slice ah Lh ch) ∧ u.cell? ⟨w.heap.size, 2, none⟩ = some (.slice ao Lo co) ∧ u.cell? ⟨w.heap.size, 3, none⟩ = some (.slice ap Lp cp) ∧ u.cell? ⟨w.heap.size, 4, none⟩ = some (.slice ab Lb cb)) ∧ u.cell? ⟨g, off + i * 8, none⟩ = some (.int .i64 xk) ∧ u.cell? ⟨g, off + i * 8 + 1, none⟩ = some (.int .i64 xo) ∧ u.cell? ⟨g, off + i * 8 + 2, none⟩ = some (.int .i64 xc) ∧ u.cell? ⟨g, off + i * 8 + 3, none⟩ = some (.int .i64 xn) ∧ u.cell? ⟨g, off + i * 8 + 4, none⟩ = some (.int .i64 xa) ∧ u.cell? ⟨g, off + i * 8 + 5, none⟩ = some (.int .i64 xb) ∧ u.cell? ⟨g, off + i * 8 + 6, none⟩ = some (.int .i64 xp) ∧ u.cell? ⟨g, off + i * 8 + 7, none⟩ = some (.int .i64 xd))
        (first | exact ⟨HD.out.2.1.cells, HE.out _ HD.out.1⟩ | exact ⟨HX9.out.2.1.cells, HE.out _ HX9.out.1⟩)
        (first | (go_at_call 46; refine (HF1.out _ HD.out.1).mono ?_; rintro e V ⟨rfl, hb⟩; have HX9 := Lib.hid (And.intro (HD.out.1.trans (hb.mono HD.out.1.size)) (And.intro (HD.out.2.1.keep hb) (HD.out.2.2.keep hb))); have HB9 := Lib.hid (HBd.out.trans (hb.mono HBd.out.size)); clear hb))
      cases q with
      | false =>
        have HN2 : Hid (∀ j (hj : j < l.length), j < i + 1 → usefulB m l[j] = false) := Lib.hid (fun j h h2 => by
          rcases Nat.lt_or_ge j i with h3 | h3
          · exact HN.out j h h3
          · obtain rfl : j = i := by omega
            rw [HLx.out]; exact HQ.out)
        clear hwr hA hk0 hk2 hk3 hk4 hi1
        go_wp2
        go_roundw
        case rel => exact ⟨i + 1, by omega, by go_num, HN2, HB9.out⟩
        case measure => simp [intOf]; omega
      | true =>
        have HRr := Lib.hid (HR1i.out rfl)
        clear HD HBd HBw HB9 HX
        go_upto_region 6 with fail
        obtain ⟨U, rfl⟩ : ∃ Z, Z = V := ⟨_, rfl⟩
        have HX := Lib.hid (And.intro (below_drew HX9.out.1) (And.intro (HX9.out.2.1.keep (below_drew (Below.refl _ _))) (HX9.out.2.2.keep (below_drew (Below.refl _ _)))))
        clear HX9
        refine wp_region_held_drew (S := fun u => u.cell? ⟨g, off + i * 8, none⟩ = some (.int .i64 xk) ∧ u.cell? ⟨g, off + i * 8 + 1, none⟩ = some (.int .i64 xo) ∧ u.cell? ⟨g, off + i * 8 + 2, none⟩ = some (.int .i64 xc) ∧ u.cell? ⟨g, off + i * 8 + 3, none⟩ = some (.int .i64 xn) ∧ u.cell? ⟨g, off + i * 8 + 4, none⟩ = some (.int .i64 xa) ∧ u.cell? ⟨g, off + i * 8 + 5, none⟩ = some (.int .i64 xb) ∧ u.cell? ⟨g, off + i * 8 + 6, none⟩ = some (.int .i64 xp) ∧ u.cell? ⟨g, off + i * 8 + 7, none⟩ = some (.int .i64 xd)) (by kernel_rfl) (HE.out _ HX.out.1) (fun hHeld => ?_)
        generalize U.drew = U at *
        refine wpAnyH_take (i := 0) (oi := { dst := some 21, op := Op.move (Operand.tmp 0), type := 78, pos := "ref.go:45", after := #[], guard := none }) (v := ?_) rfl (by kernel_rfl) (by kernel_rfl) (by kernel_rfl) (fun _ _ _ h => h) (Or.inl ⟨by rfl, ?_⟩) hHeld ?_
        rotate_left 1
        · intro W hSw
          (try dsimp only at hSw)
          go_simp
          try with_reducible rfl
        try simp only [Act.put, List.setIfInBounds_toArray, List.set_cons_zero, List.set_cons_succ]
        refine wpAnyH_take (i := 1) (oi := { dst := some 22, op := Op.move (Operand.tmp 7), type := 3, pos := "ref.go:45", after := #[], guard := none }) (v := ?_) rfl (by kernel_rfl) (by kernel_rfl) (by kernel_rfl) (fun _ _ _ h => h) (Or.inl ⟨by rfl, ?_⟩) hHeld ?_
        rotate_left 1
        · intro W hSw
          (try dsimp only at hSw)
          go_simp
          try with_reducible rfl
        try simp only [Act.put, List.setIfInBounds_toArray, List.set_cons_zero, List.set_cons_succ]
        refine wpAnyH_take (i := 2) (oi := { dst := some 23, op := Op.indexAddr 78 (Operand.tmp 21) (Operand.tmp 22), type := 0, pos := "ref.go:45", after := #[{ on := 0, ground := Ground.data }, { on := 1, ground := Ground.data }], guard := none }) (v := ?_) rfl (by kernel_rfl) (by kernel_rfl) (by kernel_rfl) (fun _ _ _ h => h) (Or.inl ⟨by rfl, ?_⟩) hHeld ?_
        rotate_left 1
        · intro W hSw
          (try dsimp only at hSw)
          go_simp
          try with_reducible rfl
        try simp only [Act.put, List.setIfInBounds_toArray, List.set_cons_zero, List.set_cons_succ]
        refine wpAnyH_take (i := 3) (oi := { dst := some 24, op := Op.load 87 (Operand.tmp 23), type := 87, pos := "ref.go:45", after := #[{ on := 2, ground := Ground.data }], guard := none }) (v := ?_) rfl (by kernel_rfl) (by kernel_rfl) (by kernel_rfl) (fun _ _ _ h => h) (Or.inl ⟨by rfl, ?_⟩) hHeld ?_
        rotate_left 1
        · intro W hSw
          (try dsimp only at hSw)
          go_simp
          try with_reducible rfl
        try simp only [Act.put, List.setIfInBounds_toArray, List.set_cons_zero, List.set_cons_succ]
        refine wpAnyH_take (i := 4) (oi := { dst := some 25, op := Op.move (Operand.tmp 8), type := 78, pos := "ref.go:45", after := #[], guard := none }) (v := ?_) rfl (by kernel_rfl) (by kernel_rfl) (by kernel_rfl) (fun _ _ _ h => h) (Or.inl ⟨by rfl, ?_⟩) hHeld ?_
        rotate_left 1
        · intro W hSw
          (try dsimp only at hSw)
          go_simp
          try with_reducible rfl
        try simp only [Act.put, List.setIfInBounds_toArray, List.set_cons_zero, List.set_cons_succ]
        refine wpAnyH_take (i := 5) (oi := { dst := some 26, op := Op.move (Operand.tmp 0), type := 78, pos := "ref.go:45", after := #[], guard := none }) (v := ?_) rfl (by kernel_rfl) (by kernel_rfl) (by kernel_rfl) (fun _ _ _ h => h) (Or.inl ⟨by rfl, ?_⟩) hHeld ?_
        rotate_left 1
        · intro W hSw
          (try dsimp only at hSw)
          go_simp
          try with_reducible rfl
        try simp only [Act.put, List.setIfInBounds_toArray, List.set_cons_zero, List.set_cons_succ]
        refine wpAnyH_take (i := 6) (oi := { dst := some 27, op := Op.move (Operand.tmp 7), type := 3, pos := "ref.go:45", after := #[], guard := none }) (v := ?_) rfl (by kernel_rfl) (by kernel_rfl) (by kernel_rfl) (fun _ _ _ h => h) (Or.inl ⟨by rfl, ?_⟩) hHeld ?_
        rotate_left 1
        · intro W hSw
          (try dsimp only at hSw)
          go_simp
          try with_reducible rfl
        try simp only [Act.put, List.setIfInBounds_toArray, List.set_cons_zero, List.set_cons_succ]
        refine wpAnyH_take (i := 7) (oi := { dst := some 28, op := Op.binOp BinOp.add 3 (Operand.tmp 27) (Operand.const (Value.int IntKind.i64 1)) 3, type := 3, pos := "ref.go:45", after := #[{ on := 6, ground := Ground.data }], guard := none }) (v := ?_) rfl (by kernel_rfl) (by kernel_rfl) (by kernel_rfl) (fun _ _ _ h => h) (Or.inl ⟨by rfl, ?_⟩) hHeld ?_
        rotate_left 1
        · intro W hSw
          (try dsimp only at hSw)
          go_simp
          try with_reducible rfl
        try simp only [Act.put, List.setIfInBounds_toArray, List.set_cons_zero, List.set_cons_succ]
        refine wpAnyH_take (i := 8) (oi := { dst := some 29, op := Op.slice 78 (Operand.tmp 26) (some (Operand.tmp 28)) none none, type := 78, pos := "ref.go:45", after := #[{ on := 5, ground := Ground.data }, { on := 7, ground := Ground.data }], guard := none }) (v := ?_) rfl (by kernel_rfl) (by kernel_rfl) (by kernel_rfl) (fun _ _ _ h => h) (Or.inl ⟨by rfl, ?_⟩) hHeld ?_
        rotate_left 1
        · intro W hSw
          (try dsimp only at hSw)
          go_simp
          try with_reducible rfl
        try simp only [Act.put, List.setIfInBounds_toArray, List.set_cons_zero, List.set_cons_succ]
        refine wpAnyH_ready (rs := [9]) (by kernel_rfl) (by simp) ?_
        refine AllReadyH.cons (o := { dst := some 30, op := Op.call { callee := Callee.builtin Builtin.append, args := #[Operand.tmp 25, Operand.tmp 29], argTypes := #[78, 78] }, type := 78, pos := "ref.go:45", after := #[{ on := 4, ground := Ground.data }, { on := 8, ground := Ground.data }], guard := none }) rfl (fun K7 hK7 => ?_) ?_
        · refine step_appSlR nc_len nc_one (by decide) rfl (.tmp 25) (.tmp 29) 78 rfl (w.heap.size + 1 + 1) 87 _ (by rfl) 64 Try.underlying78 infoIncR _ [] rfl (Own.nil _ _ _) _ _ _ (l.drop kk) rfl (HDr.out _ HX.out.1) (by rw [HDl.out]; have := HZ.out; have := HL.out; unfold maxLen; simp only [List.length_nil]; omega) (by rw [HDl.out]; have := HZ.out; have := HL.out; simp only [List.length_nil]; omega) (show w.heap.size + 1 + 1 ≤ _ from HX.out.2.2.lt8) ?_
          intro v8 V ho hk
          rw [List.nil_append] at ho
          obtain ⟨a8, y8, hv8⟩ := ho.slice
          rw [HDl.out] at hv8
          subst hv8
          have HO8 := Lib.hid ho
          have hb := hk.toBelow
          have hn1 := HX.out.2.1.lt; have hn2 := HX.out.2.2.lt8
          have HX : Hid (Below w.heap.size w V ∧ MBox V w.heap.size 83 m.epoch (.slice ah Lh ch) (.slice ao Lo co) (.slice ap Lp cp) (.slice ab Lb cb) ∧ IBx V (w.heap.size + 1) zeroI) := Lib.hid (And.intro (HX.out.1.trans (hb.mono (show w.heap.size ≤ w.heap.size + 1 + 1 by omega))) (And.intro ((hb.block _ (by omega)).trans HX.out.2.1) ((hb.block _ (by omega)).trans HX.out.2.2)))
          clear ho hb hk hn1 hn2
          obtain ⟨U, rfl⟩ : ∃ Z, Z = V := ⟨_, rfl⟩
          try dsimp only
          refine hK7.out _ _ (HE.out _ HX.out.1) (fun hHeld => ?_)
          clear hK7 K7
          try simp only [Act.put, List.setIfInBounds_toArray, List.set_cons_zero, List.set_cons_succ]
          refine wpAnyH_ready (rs := [10]) (by kernel_rfl) (by simp) ?_
          refine AllReadyH.cons (o := { dst := none, op := Op.store 87 (Operand.tmp 4) (Operand.tmp 24), type := 0, pos := "ref.go:45", after := #[{ on := 3, ground := Ground.data }, { on := 9, ground := Ground.chain }, { on := 0, ground := Ground.phase }, { on := 1, ground := Ground.phase }, { on := 2, ground := Ground.phase }, { on := 3, ground := Ground.phase }, { on := 4, ground := Ground.textOnly Departure.lateStores }, { on := 5, ground := Ground.textOnly Departure.lateStores }, { on := 6, ground := Ground.textOnly Departure.lateStores }, { on := 7, ground := Ground.textOnly Departure.lateStores }, { on := 8, ground := Ground.textOnly Departure.lateStoresUnsure }, { on := 9, ground := Ground.textOnly Departure.lateStoresUnsure }], guard := none }) rfl (fun K7 hK7 => ?_) ?_
          · refine wp_store_mid 87 _ _ rfl (w.heap.size + 1) 0 #[.int .i64 xk, .int .i64 xo, .int .i64 xc, .int .i64 xn, .int .i64 xa, .int .i64 xb, .int .i64 xp, .int .i64 xd] rfl rfl HX.out.2.2.there sizeInc (inc_one _ _ _ _ _ _ _ _) ?_
            have HP := Lib.hid (HX.out.2.2.put ⟨xk, xo, xc, xn, ⟨xa, xb, xp, xd⟩⟩)
            have HBs := Lib.hid (Below.setCells HX.out.1 (b := w.heap.size + 1) (by omega) 0 (nc ⟨xk, xo, xc, xn, ⟨xa, xb, xp, xd⟩⟩))
            have HO9 := Lib.hid (HO8.out.setCells_farW (N := w.heap.size + 1) (by omega) (nc ⟨xk, xo, xc, xn, ⟨xa, xb, xp, xd⟩⟩))
            simp only [nc, IncV.cells] at HP HBs HO9
            try dsimp only
            refine hK7.out _ _ (HE.out _ HBs.out) (fun hHeld => ?_)
            clear hK7 K7
            try simp only [Act.put, List.setIfInBounds_toArray, List.set_cons_zero, List.set_cons_succ]
            refine wpAnyH_take (i := 11) (oi := { dst := some 5, op := Op.assign (Operand.tmp 30), type := 78, pos := "ref.go:45", after := #[{ on := 9, ground := Ground.data }, { on := 10, ground := Ground.chain }, { on := 0, ground := Ground.phase }, { on := 1, ground := Ground.phase }, { on := 2, ground := Ground.phase }, { on := 3, ground := Ground.phase }, { on := 4, ground := Ground.phase }, { on := 5, ground := Ground.phase }, { on := 6, ground := Ground.phase }, { on := 7, ground := Ground.phase }, { on := 8, ground := Ground.phase }, { on := 9, ground := Ground.phase }, { on := 10, ground := Ground.phase }], guard := none }) (v := ?_) rfl (by kernel_rfl) (by kernel_rfl) (by kernel_rfl) (fun _ _ _ h => h) (Or.inl ⟨by rfl, ?_⟩) hHeld ?_
            rotate_left 1
            · intro W hSw
              (try dsimp only at hSw)
              go_simp
              try with_reducible rfl
            try simp only [Act.put, List.setIfInBounds_toArray, List.set_cons_zero, List.set_cons_succ]
            refine wpAnyH_take (i := 12) (oi := { dst := some 6, op := Op.assign (Operand.const (Value.bool true)), type := 4, pos := "ref.go:45", after := #[{ on := 11, ground := Ground.chain }, { on := 0, ground := Ground.phase }, { on := 1, ground := Ground.phase }, { on := 2, ground := Ground.phase }, { on := 3, ground := Ground.phase }, { on := 4, ground := Ground.phase }, { on := 5, ground := Ground.phase }, { on := 6, ground := Ground.phase }, { on := 7, ground := Ground.phase }, { on := 8, ground := Ground.phase }, { on := 9, ground := Ground.phase }, { on := 10, ground := Ground.phase }, { on := 11, ground := Ground.phase }], guard := none }) (v := ?_) rfl (by kernel_rfl) (by kernel_rfl) (by kernel_rfl) (fun _ _ _ h => h) (Or.inl ⟨by rfl, ?_⟩) hHeld ?_
            rotate_left 1
            · intro W hSw
              (try dsimp only at hSw)
              go_simp
              try with_reducible rfl
            try simp only [Act.put, List.setIfInBounds_toArray, List.set_cons_zero, List.set_cons_succ]
            refine wpAnyH_done (by kernel_rfl) ?_ _
            clear hHeld
            go_wp2
            refine bodyPost_ret (ret_cell_tt rfl rfl HP.out.range Try.underlying87 rfl sizeInc) rfl ?_
            rw [HRr.out]
            exact ⟨_, rfl, HO9.out.mono (show w.heap.size ≤ w.heap.size + 1 + 1 by omega), HBs.out⟩
          exact AllReadyH.nil
        exact AllReadyH.nil
    · obtain rfl : i = L := by omega
      have HRr := Lib.hid (HR0.out (fun j hj => HN.out j hj (by rw [← HL.out]; exact hj)))
      go_wp2_with (refine wpList_store_mid rfl 87 _ _ rfl (w.heap.size + 1) 0 #[.int .i64 0, .int .i64 0, .int .i64 0, .int .i64 0, .int .i64 0, .int .i64 0, .int .i64 0, .int .i64 0] rfl rfl HX.out.2.2.there sizeInc (inc_one _ _ _ _ _ _ _ _) ?_)
      refine bodyPost_ret (ret_cell_tt rfl rfl (HX.out.2.2.put zeroI).range Try.underlying87 rfl sizeInc) rfl ?_
      rw [HRr.out]
      exact ⟨_, rfl, Own.nil _ _ _, Below.setCells HX.out.1 (b := w.heap.size + 1) (by omega) 0 _⟩

end Go.Proofs.Ytcofmfjhgbihkaa.crush

namespace Go.Proofs.Ytcofmfjhgbihkaa.crush
open Go.RowKit Go.Maps
open Go.Proofs.Ytcofmfjhgbihkaa.kit Go.Proofs.Ytcofmfjhgbihkaa.own
set_option linter.unusedVariables false
set_option linter.unusedSimpArgs false

set_option maxHeartbeats 4000000 in
set_option maxRecDepth 100000 in
theorem growR_any (n : Nat) (w : World) (hn : n * 24 ≤ 140737488355328) : Calls Try.prog 114 #[.slice none 0 0, .int .i64 n] w fun e w' => ∃ v, e = .returned v ∧ Own rc 3 98 w' w.heap.size v [] ∧ Below w.heap.size w w' := by
  rcases Nat.eq_zero_or_pos n with h0 | h0
  · subst h0
    have HR := Lib.hid (Own.nil (enc := rc) (k := 3) w 98 w.heap.size)
    go_enter Try.func114, Try.ntmps114
    go_wp2
    go_ret
    exact ⟨_, rfl, HR.out, Below.refl _ _⟩
  · obtain ⟨i0, hi, hz0, hz1, hz2⟩ := info_parts infoRep
    have hrun := fun ty => Lib.run_append_nil_zeros (P := Try.prog) w 96 3 ty 98 i0 _ .i64 .i64 Try.underlying96 Try.underlying3 hi hz0 n h0 (by rw [hz1]; decide) (by omega) (by rw [hz2]; omega)
    obtain ⟨c, hc⟩ : ∃ c, grownCap w n 0 98 = c := ⟨_, rfl⟩
    have hc1 := grownCap_ge w n 0 98
    have hc2 := grownCap_le_maxLen w n 0 98 (by unfold maxLen; omega)
    rw [hc] at hc1 hc2
    simp only [hc] at hrun
    obtain ⟨cur, hcur⟩ : ∃ cur, (Builtin.zeroCells (Value.cells (.agg #[.int .i64 0, .int .i64 0, .int .i64 0])) n ++ Builtin.zeroCells (Value.cells (.agg #[.int .i64 0, .int .i64 0, .int .i64 0])) (c - n)) = cur := ⟨_, rfl⟩
    have hsz : cur.size = c * 3 := by
      rw [← hcur, Array.size_append, size_zeroCells, size_zeroCells]
      show n * 3 + (c - n) * 3 = _
      rw [← Nat.add_mul, Nat.add_sub_cancel' hc1]
    have HO : Hid (Own rc 3 98 (w.drew.alloc (.cells cur 98)) w.heap.size (.slice (some ⟨w.heap.size, 0, none⟩) 0 c) []) := Lib.hid ⟨by simp, .inr ⟨w.heap.size, c, cur, rfl, Nat.le_refl _, alloc_at w.drew _, Nat.zero_le _, hc2, hsz, by simp⟩⟩
    have HB : Hid (Below w.heap.size w (w.drew.alloc (.cells cur 98))) := Lib.hid ((below_drew (Below.refl _ w)).alloc (Nat.le_refl _) _)
    rw [hcur] at hrun
    have hpos : (0 : Int) < n := by omega
    have hc0 : (0 : Int) ≤ c := by omega
    clear hi hz0 hz1 hz2 hsz hcur hc hc1 hc2
    go_enter Try.func114, Try.ntmps114
    go_wp2_with (at_builtin; refine Lib.wpList_append_run _ rfl _ _ 96 3 rfl _ _ rfl rfl _ _ (hrun _) ?_; clear hrun)
    go_ret
    exact ⟨_, rfl, HO.out, HB.out⟩

set_option maxHeartbeats 8000000 in
set_option maxRecDepth 100000 in
/-- 'slices.Concat' of two. -/
theorem concatR_any (b : Nat) (va vb : Value) (xs ys : List RepV) (w : World) (ha : Sl rc 3 w va xs) (hb : Sl rc 3 w vb ys) (h0 : w.cell? ⟨b, 0, none⟩ = some va) (h1 : w.cell? ⟨b, 1, none⟩ = some vb) (hl : (xs.length + ys.length) * 24 ≤ 140737488355328) :
    Calls Try.prog 92 #[.slice (some ⟨b, 0, none⟩) 2 2] w fun e w' => ∃ v, e = .returned v ∧ Own rc 3 98 w' w.heap.size v (xs ++ ys) ∧ Below w.heap.size w w' := by
  obtain ⟨a1, c1, rfl⟩ := ha.slice
  obtain ⟨a2, c2, rfl⟩ := hb.slice
  obtain ⟨L1, hL1⟩ : ∃ L, xs.length = L := ⟨_, rfl⟩
  obtain ⟨L2, hL2⟩ : ∃ L, ys.length = L := ⟨_, rfl⟩
  have HL1 := Lib.hid hL1; have HL2 := Lib.hid hL2
  simp only [hL1, hL2] at ha hb h0 h1 hl ⊢
  clear hL1 hL2
  have HA := Lib.hid ha; have HBb := Lib.hid hb; have HLn := Lib.hid hl; have H0 := Lib.hid h0; have H1 := Lib.hid h1
  have hwr : IntKind.i64.wrap ((L1 : Int) + L2) = L1 + L2 := by rw [IntKind.wrap_i64]; omega
  have hwr1 : IntKind.i64.wrap (L1 : Int) = L1 := by rw [IntKind.wrap_i64]; omega
  have n1 : ¬ (L1 : Int) < 0 := by omega
  have n2 : ¬ (L1 : Int) + L2 < 0 := by omega
  have hgr := (growR_any (L1 + L2) w hl)
  have hcast : ((L1 + L2 : Nat) : Int) = (L1 : Int) + L2 := by omega
  rw [hcast] at hgr
  have HG := Lib.hid hgr
  clear ha hb hl hgr hcast
  go_enter Try.func92, Try.ntmps92
  go_wp2
  refine wp_loop_rounds 3 ?_
  rw [rounds_succ]; go_wp2
  rw [rounds_succ]; go_wp2
  rw [rounds_succ]; go_wp2_with fail
  refine HG.out.mono ?_
  rintro e w2 ⟨v2, rfl, ho2, hb2⟩
  obtain ⟨x2, y2, rfl⟩ := ho2.slice
  have g0 := (hb2.cell (p := ⟨b, 0, none⟩) (cell_lt h0)).trans h0
  have g1 := (hb2.cell (p := ⟨b, 1, none⟩) (cell_lt h1)).trans h1
  have HO2 : Hid (Own rc 3 98 w2 w.heap.size (.slice x2 0 y2) []) := Lib.hid ho2
  have HB2 := Lib.hid hb2
  have HA2 := Lib.hid (HA.out.keep hb2); have HBb2 := Lib.hid (HBb.out.keep hb2)
  have HS0 : Hid (b < w.heap.size) := Lib.hid (cell_lt h0)
  clear h0 h1 ho2 hb2 n1 n2 hwr hwr1
  go_wp2
  refine wp_loop_rounds 3 ?_
  rw [rounds_succ]
  go_wp2_with (at_builtin; refine appSl rc_len rc_one (by decide) rfl _ _ 96 rfl w.heap.size 98 _ (by rfl) 24 Try.underlying96 infoRep _ [] rfl HO2.out _ xs rfl HA2.out (by have := HLn.out; have := HL1.out; unfold maxLen; simp; omega) (by have := HLn.out; have := HL1.out; simp; omega) HB2.out.size ?_; intro v3 w3 ho3 hk3; obtain ⟨x3, y3, rfl⟩ := ho3.slice)
  have g2 := (hk3.toBelow.cell (p := ⟨b, 0, none⟩) HS0.out).trans g0
  have g3 := (hk3.toBelow.cell (p := ⟨b, 1, none⟩) HS0.out).trans g1
  have HO3 : Hid (Own rc 3 98 w3 w.heap.size (.slice x3 L1 y3) xs) := Lib.hid (by rw [← HL1.out]; exact ho3)
  have HB3 := Lib.hid (HB2.out.trans hk3.toBelow)
  have HBb3 := Lib.hid (HBb.out.keep HB3.out)
  have hlen : xs.length = L1 := HL1.out
  rw [hlen]
  clear ho3 hk3 g0 g1 HA2 HBb2 HO2 hlen
  go_wp2
  rw [rounds_succ]
  go_wp2_with (at_builtin; refine appSl rc_len rc_one (by decide) rfl _ _ 96 rfl w.heap.size 98 _ (by rfl) 24 Try.underlying96 infoRep _ xs rfl HO3.out _ ys rfl HBb3.out (by rw [HL1.out, HL2.out]; have := HLn.out; unfold maxLen; omega) (by rw [HL1.out, HL2.out]; exact HLn.out) HB3.out.size ?_; intro v4 w4 ho4 hk4; obtain ⟨x4, y4, rfl⟩ := ho4.slice)
  have HO4 : Hid (Own rc 3 98 w4 w.heap.size (.slice x4 (L1 + L2) y4) (xs ++ ys)) := Lib.hid (by rw [← HL1.out, ← HL2.out, ← List.length_append]; exact ho4)
  have HB4 := Lib.hid (HB3.out.trans hk4.toBelow)
  rw [HL1.out, HL2.out]
  clear ho4 hk4 g2 g3 HO3 HBb3
  go_wp2
  rw [rounds_succ]
  go_wp2
  go_ret
  exact ⟨_, rfl, HO4.out, HB4.out⟩


def cleanE (m : MapV) (l : List RepV) : List RepV := uniL (cntR m) l l.length
theorem run_store_funcR {P : Program} {w : World} {a : Addr} {m : Mode} (fn : Fn) (first cap : Array Value) : (store a (.func fn first cap) m).run P w = stored P w a (.func fn first cap) m := run_store P w a _ m rfl
attribute [local go_sem] run_store_funcR
def CntS (m : MapV) (w : World) (e : Ending) (w' : World) : Prop := ∃ N M vh vo vp vb, e = .returned (.func (.func 113) #[] #[.pointer (some ⟨M, 0, none⟩), .pointer (some ⟨N, 0, none⟩)]) ∧ QBox w' N M m vh vo vp vb ∧ Below w.heap.size w w'

set_option maxHeartbeats 8000000 in
set_option maxRecDepth 100000 in
theorem counting_any (v : Value) (m : MapV) (w : World) (h : MapR w v m) : Calls Try.prog 90 #[v] w (CntS m w) := by
  obtain ⟨vh, vo, vp, vb, rfl, h1, h2, h3, h4⟩ := h
  have HS := Lib.hid (fun u (hu : Below w.heap.size w u) => h2.keep hu)
  obtain ⟨ah, ch, rfl⟩ := h1.slice
  obtain ⟨ao, co, rfl⟩ := h2.slice
  obtain ⟨ap, cp, rfl⟩ := h3.slice
  obtain ⟨ab, cb, rfl⟩ := h4.slice
  have HB := Lib.hid (below_new w (.cells #[.int .i64 m.epoch, .slice ah m.hosts.length ch, .slice ao m.osds.length co, .slice ap m.pools.length cp, .slice ab m.bans.length cb] 83))
  have HX := Lib.hid (mbox_new w 83 m.epoch (.slice ah m.hosts.length ch) (.slice ao m.osds.length co) (.slice ap m.pools.length cp) (.slice ab m.bans.length cb))
  have hmf : ∀ (fn : Fn) (first cap : Array Value) (w : World), (Instr.makeFunc fn first cap).run Try.prog w = .ok (.func fn first cap) w := fun _ _ _ _ => rfl
  clear h1 h2 h3 h4
  unfold CntS
  go_enter Try.func90, Try.ntmps90
  go_upto_region 1 with fail
  generalize w.alloc _ = W at HB HX ⊢
  go_upto_region 2 with fail
  have hbn := below_new W (.cells #[.func (.func 112) #[] #[.pointer (some ⟨w.heap.size, 0, none⟩)]] 167)
  have hx := alloc_at W (.cells #[.func (.func 112) #[] #[.pointer (some ⟨w.heap.size, 0, none⟩)]] 167)
  have HB2 := Lib.hid (HB.out.trans (hbn.mono HB.out.size))
  have HQ : Hid (QBox (W.alloc (.cells #[.func (.func 112) #[] #[.pointer (some ⟨w.heap.size, 0, none⟩)]] 167)) w.heap.size W.heap.size m (.slice ah m.hosts.length ch) (.slice ao m.osds.length co) (.slice ap m.pools.length cp) (.slice ab m.bans.length cb)) := Lib.hid ⟨HX.out.keep hbn, hx, HS.out _ HB2.out⟩
  clear hbn hx HX HB
  generalize W.alloc _ = V at HQ HB2 ⊢
  go_wp2
  go_ret
  exact ⟨_, _, _, _, _, _, rfl, HQ.out, HB2.out⟩

set_option maxHeartbeats 8000000 in
set_option maxRecDepth 100000 in
theorem Clean_any (vl v : Value) (l : List RepV) (m : MapV) (w : World) (hl : Sl rc 3 w vl l) (hok : ∀ r, r ∈ l → r.Ok) (hz : l.length ≤ 1000000000000) (h : MapR w v m) (hm : m.osds.length ≤ 1000000) :
    Calls Try.prog 52 #[vl, v] w (RowS rc 3 98 w (cleanE m l)) := by
  have HCt := Lib.hid (fun u (hu : Below w.heap.size w u) => counting_any v m u (h.keep hu))
  have HUn := Lib.hid (fun N M vh vo vp vb u (hu : Below w.heap.size w u) (hq : QBox u N M m vh vo vp vb) => unlike_any vl l m N M vh vo vp vb u (hl.keep hu) hok hz hq hm)
  obtain ⟨vh, vo, vp, vb, rfl, h1, h2, h3, h4⟩ := h
  obtain ⟨ah, ch, rfl⟩ := h1.slice
  obtain ⟨ao, co, rfl⟩ := h2.slice
  obtain ⟨ap, cp, rfl⟩ := h3.slice
  obtain ⟨ab, cb, rfl⟩ := h4.slice
  obtain ⟨al, yl, rfl⟩ := hl.slice
  unfold cleanE
  generalize uniL (cntR m) l l.length = ys at HUn ⊢
  generalize l.length = Ll at HUn ⊢
  unfold CntS at HCt
  unfold RowS at HUn ⊢
  have HB := Lib.hid (below_new w (.cells #[.int .i64 m.epoch, .slice ah m.hosts.length ch, .slice ao m.osds.length co, .slice ap m.pools.length cp, .slice ab m.bans.length cb] 83))
  have HX := Lib.hid (mbox_new w 83 m.epoch (.slice ah m.hosts.length ch) (.slice ao m.osds.length co) (.slice ap m.pools.length cp) (.slice ab m.bans.length cb))
  clear h1 h2 h3 h4 hl hok hz hm
  go_enter Try.func52, Try.ntmps52
  go_upto_region 1 with fail
  generalize w.alloc _ = W at HB HX ⊢
  obtain ⟨l0, l1, l2, l3, l4⟩ := HX.out.cells
  go_wp2_with (first
    | (go_at_call 90; refine (HCt.out _ HB.out).mono ?_; rintro e V ⟨N, M, vh, vo, vp, vb, rfl, hq, hb⟩; have HQ := Lib.hid hq; have HB := Lib.hid (HB.out.trans (hb.mono HB.out.size)); clear hq hb l0 l1 l2 l3 l4)
    | (go_at_call 94; refine (HUn.out N M vh vo vp vb _ HB.out HQ.out).mono ?_; rintro e V2 ⟨v2, rfl, ho, hb⟩; obtain ⟨p2, q2, rfl⟩ := ho.slice; have HO := Lib.hid (ho.mono HB.out.size); have HB := Lib.hid (HB.out.trans (hb.mono HB.out.size)); clear ho hb))
  go_ret
  exact ⟨_, rfl, HO.out, HB.out⟩

set_option maxHeartbeats 8000000 in
set_option maxRecDepth 100000 in
theorem latest_any (v : Value) (l : List RepV) (w : World) (hl : Sl rc 3 w v l) (hcap : ∃ a c, v = .slice a l.length c ∧ l.length ≤ c) (hz : l.length ≤ 1000000000000) :
    Calls Try.prog 91 #[v] w fun e w' => ∃ v', e = .returned v' ∧ Sl rc 3 w v' (l.drop (l.length - 64)) ∧ w' = w := by
  obtain ⟨a, c, rfl, hc⟩ := hcap
  obtain ⟨L, hL⟩ : ∃ L, l.length = L := ⟨_, rfl⟩
  by_cases h64 : 64 < l.length
  · obtain ⟨b, off, rfl, hbl, hr⟩ := sl_elem hl 0 (by omega)
    obtain ⟨j, hj⟩ : ∃ j, l.length - 64 = j := ⟨_, rfl⟩
    have HR := Lib.hid (sl_dropR hl j (by omega) ⟨b, off + j * 3, none⟩ (c - j) (fun _ => rfl))
    rw [hj]
    rw [hL] at HR hc hj h64 hz ⊢
    have h1 : max (0 : Int) (IntKind.i64.wrap ((L : Int) - 64)) = (j : Int) := by rw [IntKind.wrap_i64]; omega
    have hj0 : (0 : Int) ≤ (j : Int) := by omega
    have hj1 : (j : Int) ≤ (L : Int) := by omega
    have hj2 : (j : Int) ≤ (c : Int) := by omega
    have hj3 : (L : Int) ≤ (c : Int) := by omega
    have hj4 : j ≤ c := by omega
    have hj5 : j ≤ L := by omega
    have hj6 : L ≤ c := by omega
    have hj7 : ¬ c = j := by omega
    have hw : wrap64 ((L : Int) - 64) = (j : Int) := by unfold wrap64; omega
    have hmx : max (0 : Int) (j : Int) = (j : Int) := by omega
    have he : (max (0 : Int) ((L : Int) - 64)).toNat = j := by omega
    clear hl hbl hr hL hj h64
    go_enter Try.func91, Try.ntmps91
    go_wp2
    go_ret
    refine ⟨_, rfl, ?_, rfl⟩
    simp only [he]
    exact HR.out
  · have hj : l.length - 64 = 0 := by omega
    rw [hj, List.drop_zero]
    cases a with
    | none =>
      obtain ⟨rfl, -, rfl⟩ := hl.empty_of_nil
      have HR := Lib.hid hl
      clear hl hc hz hj h64 hL
      rw [List.length_nil] at HR ⊢
      go_enter Try.func91, Try.ntmps91
      go_wp2
      go_ret
      exact ⟨_, rfl, HR.out, rfl⟩
    | some a =>
      have HR := Lib.hid hl
      rw [hL] at HR hc h64 hz ⊢
      have he : (max (0 : Int) ((L : Int) - 64)).toNat = 0 := by omega
      have he2 : max (0 : Int) ((L : Int) - 64) = 0 := by omega
      have hw : wrap64 ((L : Int) - 64) = (L : Int) - 64 := by unfold wrap64; omega
      have hj3 : (L : Int) ≤ (c : Int) := by omega
      have hL0 : (0 : Int) ≤ (L : Int) := by omega
      have hc0 : (0 : Int) ≤ (c : Int) := by omega
      clear hl hL h64 hj
      go_enter Try.func91, Try.ntmps91
      go_wp2
      go_ret
      exact ⟨_, rfl, HR.out, rfl⟩
end Go.Proofs.Ytcofmfjhgbihkaa.crush

namespace Go.Proofs.Ytcofmfjhgbihkaa.crush
open Go.RowKit Go.Maps
open Go.Proofs.Ytcofmfjhgbihkaa.kit Go.Proofs.Ytcofmfjhgbihkaa.own
set_option linter.unusedVariables false
set_option linter.unusedSimpArgs false

theorem step_lookup_intR {H : Type} {P : Program} {ops : Array Oper} {o : Oper} {a : Act} {w : World} {K : Act → World → Prop} {Q : Exit → Act → World → Prop} {E : Prop} (hgd : o.guard = none) (m x : Operand) (t : TypeId) (hop : o.op = Op.lookup t m x false)
    (k e : TypeId) (q : IntKind) (Kd : Keyed P k) (ht : P.underlying t = some (.map k e)) (he : P.underlying e = some (.int q)) (hz : (zeroValue e).run P w = .ok (.int q 0) w) (b n : Nat) (D : DataW H)
    (hm : a.eval m = .map (some b)) (hown : w.ownsMap P k (plainElem P e) b n D) (key : Value) (kl : Lit) (hx : a.eval x = key) (hkey : Go.keyOf P k key = some kl)
    (hK : ∀ c : Int, D.atKey kl (.lit (.int q 0)) = .lit (.int q c) → (Lit.int q c).wf = true → K (a.put o.dst (.int q c)) w) :
    if Region.wanted o (yielded ops a.tmps) = true then Oper.wp P o a w K Q else E := by
  rw [if_pos (by simp [Region.wanted, hgd])]
  obtain ⟨c, hrun, hat, hwc⟩ := hown.lookup_int Kd ht he hz hkey
  unfold Oper.wp
  simp [execOp, hop, hm, hx, hrun, Result.andThen]
  exact hK c hat hwc
theorem own_cap {α : Type} {enc : α → List Value} {k e B : Nat} {w : World} {v : Value} {xs : List α} (h : Own enc k e w B v xs) : ∃ a c, v = .slice a xs.length c ∧ xs.length ≤ c := by
  rcases h.at with ⟨rfl, rfl⟩ | ⟨g, cap, rfl, -, h2⟩
  · exact ⟨_, _, rfl, Nat.le_refl _⟩
  · exact ⟨_, _, rfl, h2.le⟩
theorem uniL_mem (p : RepV → Bool) (l : List RepV) : ∀ k, k ≤ l.length → ∀ x, x ∈ uniL p l k → x ∈ l ∧ p x = true
  | 0, _, x, h => by simp [uniL] at h
  | k + 1, hk, x, h => by
    rw [uniL] at h
    split at h
    · exact uniL_mem p l k (by omega) x h
    · rename_i hn
      rcases List.mem_append.1 h with h | h
      · exact uniL_mem p l k (by omega) x h
      · have hx : x = l[k] := by
          have := List.mem_singleton.1 h
          rwa [List.getD_eq_getElem?_getD, List.getElem?_eq_getElem (by omega), Option.getD_some] at this
        have hg : l.getD k ⟨0, 0, 0⟩ = l[k] := by rw [List.getD_eq_getElem?_getD, List.getElem?_eq_getElem (by omega), Option.getD_some]
        rw [hg] at hn
        refine ⟨hx ▸ List.getElem_mem _, ?_⟩
        rw [hx]
        cases hp : p l[k] with
        | true => rfl
        | false => rw [hp] at hn; simp at hn
theorem cleanE_mem {m : MapV} {l : List RepV} {x : RepV} (h : x ∈ cleanE m l) : x ∈ l ∧ cntR m x = true := uniL_mem _ _ _ (Nat.le_refl _) x h
theorem cleanE_len (m : MapV) (l : List RepV) : (cleanE m l).length ≤ l.length := uniL_len _ _ _
def lastE (c : List RepV) : List RepV := c.drop (c.length - 64)
def failL (m : MapV) (l : List RepV) (r : RepV) : List RepV × Bool :=
  if cntR m r = true then (lastE (cleanE m (l ++ [r])), decide (needN m ≤ ((saidK (lastE (cleanE m (l ++ [r]))) r.osd (lastE (cleanE m (l ++ [r]))).length : Nat) : Int))) else (cleanE m l, false)
def FailS (q : List RepV × Bool) (w : World) (e : Ending) (w' : World) : Prop := ∃ v, e = .returned (.tuple #[v, .bool q.2]) ∧ Sl rc 3 w' v q.1 ∧ Below w.heap.size w w'
def RBx (W : World) (N : Nat) (r : RepV) : Prop := W.heap[N]? = some (.cells (rc r).toArray 98 (0, 0))
theorem RBx.keep {W W' : World} {N : Nat} {r : RepV} (h : RBx W N r) (hb : Below W.heap.size W W') : RBx W' N r := (hb.block N (Array.getElem?_eq_some_iff.1 h).1).trans h
theorem fail_cells {u : World} {N : Nat} {ep f d bt : Int} {v1 v2 v3 v4 : Value} (h : MBox u N 83 ep v1 v2 v3 v4) (h2 : RBx u (N + 1) ⟨f, d, bt⟩) : u.cell? ⟨N, 0, none⟩ = some (.int .i64 ep) ∧ u.cell? ⟨N, 1, none⟩ = some v1 ∧ u.cell? ⟨N, 2, none⟩ = some v2 ∧ u.cell? ⟨N, 3, none⟩ = some v3 ∧ u.cell? ⟨N, 4, none⟩ = some v4 ∧ u.cell? ⟨N + 1, 0, none⟩ = some (.int .i64 f) ∧ u.cell? ⟨N + 1, 1, none⟩ = some (.int .i64 d) ∧ u.cell? ⟨N + 1, 2, none⟩ = some (.int .i64 bt) := by
  obtain ⟨a, b, c, d', e⟩ := h.cells
  obtain ⟨x, y, z⟩ := rcells3 (x := ⟨f, d, bt⟩) (cells_range (l := rc ⟨f, d, bt⟩) h2)
  exact ⟨a, b, c, d', e, x, y, z⟩

set_option maxHeartbeats 16000000 in
set_option maxRecDepth 100000 in
theorem Fail_any (vl v : Value) (l : List RepV) (m : MapV) (r : RepV) (w : World) (hl : Sl rc 3 w vl l) (hok : ∀ r, r ∈ l → r.Ok) (hr : r.Ok) (hz : l.length ≤ 1000000000) (h : MapR w v m) (hm : m.osds.length ≤ 1000000) :
    Calls Try.prog 49 #[vl, v, r.val] w (FailS (failL m l r) w) := by
  have HCt := Lib.hid (fun u (hu : Below w.heap.size w u) => counting_any v m u (h.keep hu))
  have HCo := Lib.hid (fun N M vh vo vp vb u (hq : QBox u N M m vh vo vp vb) => counts_any r m N M vh vo vp vb u hq hm)
  have HCl1 := Lib.hid (fun u (hu : Below w.heap.size w u) => Clean_any vl v l m u (hl.keep hu) hok (by omega) (h.keep hu) hm)
  have hok2 : ∀ x, x ∈ l ++ [r] → x.Ok := fun x hx => (List.mem_append.1 hx).elim (hok x) (fun hx => by rw [List.mem_singleton.1 hx]; exact hr)
  have HCl2 := Lib.hid (fun v' u (hu : Below w.heap.size w u) (hs : Sl rc 3 u v' (l ++ [r])) => Clean_any v' v (l ++ [r]) m u hs hok2 (by rw [List.length_append, List.length_singleton]; omega) (h.keep hu) hm)
  have hcl : (cleanE m (l ++ [r])).length ≤ l.length + 1 := by have := cleanE_len m (l ++ [r]); rwa [List.length_append, List.length_singleton] at this
  have HLa := Lib.hid (fun v' u (hs : Sl rc 3 u v' (cleanE m (l ++ [r]))) (hcap : ∃ a c, v' = .slice a (cleanE m (l ++ [r])).length c ∧ (cleanE m (l ++ [r])).length ≤ c) => latest_any v' _ u hs hcap (by omega))
  have hLe : (cleanE m (l ++ [r])).drop ((cleanE m (l ++ [r])).length - 64) = lastE (cleanE m (l ++ [r])) := rfl
  have hld : (lastE (cleanE m (l ++ [r]))).length ≤ 1000000000 + 1 := by unfold lastE; rw [List.length_drop]; omega
  have hokd : ∀ x, x ∈ lastE (cleanE m (l ++ [r])) → x.Ok := fun x hx => hok2 x (cleanE_mem (List.mem_of_mem_drop hx)).1
  have HSd := Lib.hid (fun v' u (hs : Sl rc 3 u v' (lastE (cleanE m (l ++ [r])))) => said_any v' _ u hs hokd (by omega))
  have HNd := Lib.hid (fun u (hu : Below w.heap.size w u) => Need_any v m u (h.keep hu) hm)
  have hR : failL m l r = if cntR m r = true then (lastE (cleanE m (l ++ [r])), decide (needN m ≤ ((saidK (lastE (cleanE m (l ++ [r]))) r.osd (lastE (cleanE m (l ++ [r]))).length : Nat) : Int))) else (cleanE m l, false) := rfl
  rw [hLe] at HLa
  have HS := Lib.hid (fun u (hu : Below w.heap.size w u) => hl.keep hu)
  generalize failL m l r = R at hR ⊢
  generalize cntR m r = q1 at HCo hR
  generalize cleanE m l = C1 at HCl1 hR
  generalize lastE (cleanE m (l ++ [r])) = D at HLa HSd hR
  generalize cleanE m (l ++ [r]) = C at HCl2 HLa
  generalize needN m = nd at HNd hR
  obtain ⟨vh, vo, vp, vb, rfl, h1, h2, h3, h4⟩ := h
  obtain ⟨ah, ch, rfl⟩ := h1.slice
  obtain ⟨ao, co, rfl⟩ := h2.slice
  obtain ⟨ap, cp, rfl⟩ := h3.slice
  obtain ⟨ab, cb, rfl⟩ := h4.slice
  obtain ⟨al, yl, rfl⟩ := hl.slice
  generalize m.hosts.length = Lh at HCt HCl1 HCl2 HNd ⊢
  generalize m.osds.length = Lo at HCt HCl1 HCl2 HNd ⊢
  generalize m.pools.length = Lp at HCt HCl1 HCl2 HNd ⊢
  generalize m.bans.length = Lb at HCt HCl1 HCl2 HNd ⊢
  obtain ⟨L, hL⟩ : ∃ L, l.length = L := ⟨_, rfl⟩
  have HL := Lib.hid hL
  have HZ := Lib.hid hz
  rw [hL] at HCl1 HS ⊢
  have HKy : Hid (Go.keyOf Try.prog 3 (.int .i64 r.osd) = some (.int .i64 r.osd)) := Lib.hid (keyOf_int_mk Try.underlying3 (wfI hr.2))
  obtain ⟨f, d, bt⟩ := r
  unfold RepV.val at HCo ⊢
  simp only at HCo HKy hR ⊢
  have HR := Lib.hid hR
  have HX : Hid (Below w.heap.size w ((w.alloc (.cells #[.int .i64 m.epoch, .slice ah Lh ch, .slice ao Lo co, .slice ap Lp cp, .slice ab Lb cb] 83)).alloc (.cells #[.int .i64 f, .int .i64 d, .int .i64 bt] 98)) ∧ MBox ((w.alloc (.cells #[.int .i64 m.epoch, .slice ah Lh ch, .slice ao Lo co, .slice ap Lp cp, .slice ab Lb cb] 83)).alloc (.cells #[.int .i64 f, .int .i64 d, .int .i64 bt] 98)) w.heap.size 83 m.epoch (.slice ah Lh ch) (.slice ao Lo co) (.slice ap Lp cp) (.slice ab Lb cb) ∧ RBx ((w.alloc (.cells #[.int .i64 m.epoch, .slice ah Lh ch, .slice ao Lo co, .slice ap Lp cp, .slice ab Lb cb] 83)).alloc (.cells #[.int .i64 f, .int .i64 d, .int .i64 bt] 98)) (w.heap.size + 1) ⟨f, d, bt⟩) := by
    have b1 := below_new w (.cells #[.int .i64 m.epoch, .slice ah Lh ch, .slice ao Lo co, .slice ap Lp cp, .slice ab Lb cb] 83)
    have x1 := mbox_new w 83 m.epoch (.slice ah Lh ch) (.slice ao Lo co) (.slice ap Lp cp) (.slice ab Lb cb)
    have b2 := below_new (w.alloc (.cells #[.int .i64 m.epoch, .slice ah Lh ch, .slice ao Lo co, .slice ap Lp cp, .slice ab Lb cb] 83)) (.cells #[.int .i64 f, .int .i64 d, .int .i64 bt] 98)
    have x2 : RBx ((w.alloc (.cells #[.int .i64 m.epoch, .slice ah Lh ch, .slice ao Lo co, .slice ap Lp cp, .slice ab Lb cb] 83)).alloc (.cells #[.int .i64 f, .int .i64 d, .int .i64 bt] 98)) (w.alloc (.cells #[.int .i64 m.epoch, .slice ah Lh ch, .slice ao Lo co, .slice ap Lp cp, .slice ab Lb cb] 83)).heap.size ⟨f, d, bt⟩ := alloc_at _ _
    rw [World.size_alloc] at x2
    exact Lib.hid ⟨b1.trans (b2.mono b1.size), x1.keep b2, x2⟩
  clear h1 h2 h3 h4 hl hR hok hr hm hok2 hcl hLe hld hokd hL hz
  go_enter Try.func49, Try.ntmps49
  go_upto_region 1 with fail
  generalize ((w.alloc (.cells #[.int .i64 m.epoch, .slice ah Lh ch, .slice ao Lo co, .slice ap Lp cp, .slice ab Lb cb] 83)).alloc (.cells #[.int .i64 f, .int .i64 d, .int .i64 bt] 98)) = U at HX ⊢
  obtain ⟨k0, k1, k2, k3, k4, k5, k6, k7⟩ := fail_cells HX.out.2.1 HX.out.2.2
  unfold CntS at HCt
  go_upto_region 2 with (go_at_call 90; refine (HCt.out _ HX.out.1).mono ?_; rintro e V ⟨N, M, vh, vo, vp, vb, rfl, hq, hb⟩; have HQ := Lib.hid hq; have HX := Lib.hid (And.intro (HX.out.1.trans (hb.mono HX.out.1.size)) (And.intro (HX.out.2.1.keep hb) (HX.out.2.2.keep hb))); clear hq hb k0 k1 k2 k3 k4 k5 k6 k7; obtain ⟨k0, k1, k2, k3, k4, k5, k6, k7⟩ := fail_cells HX.out.2.1 HX.out.2.2)
  cases q1 with
  | false =>
    have HRr : Hid (R = (C1, false)) := Lib.hid (by rw [HR.out]; rfl)
    unfold RowS at HCl1
    go_wp2_with (first
      | (go_at_call 113; refine (HCo.out _ _ _ _ _ _ _ HQ.out).mono ?_; rintro e V2 ⟨rfl, hb⟩; have HX := Lib.hid (And.intro (HX.out.1.trans (hb.mono HX.out.1.size)) (And.intro (HX.out.2.1.keep hb) (HX.out.2.2.keep hb))); clear hb k0 k1 k2 k3 k4 k5 k6 k7; obtain ⟨k0, k1, k2, k3, k4, k5, k6, k7⟩ := fail_cells HX.out.2.1 HX.out.2.2)
      | (go_at_call 52; refine (HCl1.out _ HX.out.1).mono ?_; rintro e V3 ⟨v3, rfl, ho, hb⟩; have HO := Lib.hid (ho.read rc_len); have HX := Lib.hid (And.intro (HX.out.1.trans (hb.mono HX.out.1.size)) (And.intro (HX.out.2.1.keep hb) (HX.out.2.2.keep hb))); clear ho hb k0 k1 k2 k3 k4 k5 k6 k7))
    go_ret2
    rw [HRr.out]
    exact ⟨_, rfl, HO.out, HX.out.1⟩
  | true =>
    have HRr : Hid (R = (D, decide (nd ≤ ((saidK D d D.length : Nat) : Int)))) := Lib.hid (by rw [HR.out]; rfl)
    clear HR
    unfold RowS at HCl2
    go_upto_region 4 with (go_at_call 113; refine (HCo.out _ _ _ _ _ _ _ HQ.out).mono ?_; rintro e V2 ⟨rfl, hb⟩; have HX := Lib.hid (And.intro (HX.out.1.trans (hb.mono HX.out.1.size)) (And.intro (HX.out.2.1.keep hb) (HX.out.2.2.keep hb))); clear hb k0 k1 k2 k3 k4 k5 k6 k7)
    have hDr := below_drew (Below.refl V2.heap.size V2)
    have HX := Lib.hid (And.intro (HX.out.1.trans (hDr.mono HX.out.1.size)) (And.intro (HX.out.2.1.keep hDr) (HX.out.2.2.keep hDr)))
    clear hDr
    refine wp_region_held_drew (S := fun u => u.cell? ⟨w.heap.size, 0, none⟩ = some (.int .i64 m.epoch) ∧ u.cell? ⟨w.heap.size, 1, none⟩ = some (.slice ah Lh ch) ∧ u.cell? ⟨w.heap.size, 2, none⟩ = some (.slice ao Lo co) ∧ u.cell? ⟨w.heap.size, 3, none⟩ = some (.slice ap Lp cp) ∧ u.cell? ⟨w.heap.size, 4, none⟩ = some (.slice ab Lb cb) ∧ u.cell? ⟨w.heap.size + 1, 0, none⟩ = some (.int .i64 f) ∧ u.cell? ⟨w.heap.size + 1, 1, none⟩ = some (.int .i64 d) ∧ u.cell? ⟨w.heap.size + 1, 2, none⟩ = some (.int .i64 bt)) (by kernel_rfl) (fail_cells HX.out.2.1 HX.out.2.2) (fun hHeld => ?_)
    generalize V2.drew = U at *
    refine wpAnyH_take (i := 0) (oi := { dst := some 18, op := Op.move (Operand.tmp 0), type := 96, pos := "report.go:44", after := #[], guard := none }) (v := ?_) rfl (by kernel_rfl) (by kernel_rfl) (by kernel_rfl) (fun _ _ _ h => h) (Or.inl ⟨by rfl, ?_⟩) hHeld ?_
    rotate_left 1
    · intro W hSw
      (try dsimp only at hSw)
      go_simp
      try with_reducible rfl
    try simp only [Act.put, List.setIfInBounds_toArray, List.set_cons_zero, List.set_cons_succ]
    refine wpAnyH_take (i := 1) (oi := { dst := some 19, op := Op.load 98 (Operand.tmp 5), type := 98, pos := "report.go:44", after := #[], guard := none }) (v := ?_) rfl (by kernel_rfl) (by kernel_rfl) (by kernel_rfl) (fun _ _ _ h => h) (Or.inl ⟨by rfl, ?_⟩) hHeld ?_
    rotate_left 1
    · intro W hSw
      (try dsimp only at hSw)
      go_simp
      try with_reducible rfl
    try simp only [Act.put, List.setIfInBounds_toArray, List.set_cons_zero, List.set_cons_succ]
    refine wpAnyH_take (i := 5) (oi := { dst := some 23, op := Op.load 83 (Operand.tmp 4), type := 83, pos := "report.go:44", after := #[], guard := none }) (v := ?_) rfl (by kernel_rfl) (by kernel_rfl) (by kernel_rfl) (fun _ _ _ h => h) (Or.inl ⟨by rfl, ?_⟩) hHeld ?_
    rotate_left 1
    · intro W hSw
      (try dsimp only at hSw)
      go_simp
      try with_reducible rfl
    try simp only [Act.put, List.setIfInBounds_toArray, List.set_cons_zero, List.set_cons_succ]
    refine wpAnyH_ready (rs := [2]) (by kernel_rfl) (by simp) ?_
    refine AllReadyH.cons (o := { dst := some 20, op := Op.buildSlice 96 1 #[(0, Operand.tmp 19)], type := 96, pos := "report.go:44", after := #[{ on := 1, ground := Ground.data }], guard := none }) rfl (fun K7 hK7 => ?_) ?_
    · go_simp
      have hb1 := below_new U (.cells #[.int .i64 f, .int .i64 d, .int .i64 bt] 98)
      have hs1 := sl_new rc_len U (⟨f, d, bt⟩ : RepV) 98 U.heap.size rfl
      simp only [rc] at hs1
      have HX := Lib.hid (And.intro (HX.out.1.trans (hb1.mono HX.out.1.size)) (And.intro (HX.out.2.1.keep hb1) (HX.out.2.2.keep hb1)))
      have HS1 := Lib.hid hs1
      generalize U.alloc (.cells #[.int .i64 f, .int .i64 d, .int .i64 bt] 98) = V1 at HS1 HX ⊢
      generalize U.heap.size = K1 at HS1 ⊢
      clear hb1 hs1
      refine hK7.out _ _ (fail_cells HX.out.2.1 HX.out.2.2) (fun hHeld => ?_)
      clear hK7 K7
      try simp only [Act.put, List.setIfInBounds_toArray, List.set_cons_zero, List.set_cons_succ]
      refine wpAnyH_ready (rs := [3]) (by kernel_rfl) (by simp) ?_
      refine AllReadyH.cons (o := { dst := some 21, op := Op.buildSlice 168 2 #[(0, Operand.tmp 18), (1, Operand.tmp 20)], type := 168, pos := "report.go:44", after := #[{ on := 0, ground := Ground.data }, { on := 2, ground := Ground.data }], guard := none }) rfl (fun K7 hK7 => ?_) ?_
      · go_simp
        have hb1 := below_new V1 (.cells #[.slice al L yl, .slice (some ⟨K1, 0, none⟩) 1 1] 96)
        have hx1 := alloc_at V1 (.cells #[.slice al L yl, .slice (some ⟨K1, 0, none⟩) 1 1] 96)
        have HS1 := Lib.hid (HS1.out.keep hb1)
        have HX := Lib.hid (And.intro (HX.out.1.trans (hb1.mono HX.out.1.size)) (And.intro (HX.out.2.1.keep hb1) (HX.out.2.2.keep hb1)))
        have HX1 := Lib.hid hx1
        generalize V1.alloc (.cells #[.slice al L yl, .slice (some ⟨K1, 0, none⟩) 1 1] 96) = V2 at HS1 HX HX1 ⊢
        generalize V1.heap.size = K2 at HX1 ⊢
        clear hb1 hx1
        refine hK7.out _ _ (fail_cells HX.out.2.1 HX.out.2.2) (fun hHeld => ?_)
        clear hK7 K7
        try simp only [Act.put, List.setIfInBounds_toArray, List.set_cons_zero, List.set_cons_succ]
        refine wpAnyH_ready (rs := [4]) (by kernel_rfl) (by simp) ?_
        refine AllReadyH.cons (o := { dst := some 22, op := Op.call { callee := Callee.value (Operand.func 92), args := #[Operand.tmp 21], argTypes := #[168] }, type := 96, pos := "report.go:44", after := #[{ on := 3, ground := Ground.data }], guard := none }) rfl (fun K7 hK7 => ?_) ?_
        · go_simp
          refine (concatR_any K2 _ _ l [(⟨f, d, bt⟩ : RepV)] V2 (by rw [← HL.out] at *; exact HS.out _ HX.out.1) HS1.out (by simp [World.cell?, HX1.out]) (by simp [World.cell?, HX1.out]) (by have := HZ.out; have := HL.out; simp only [List.length_singleton]; omega)).mono ?_
          rintro e V3 ⟨v3, rfl, ho, hb⟩
          have HO := Lib.hid (ho.read rc_len)
          have HX := Lib.hid (And.intro (HX.out.1.trans (hb.mono HX.out.1.size)) (And.intro (HX.out.2.1.keep hb) (HX.out.2.2.keep hb)))
          clear ho hb
          refine hK7.out _ _ (fail_cells HX.out.2.1 HX.out.2.2) (fun hHeld => ?_)
          clear hK7 K7
          try simp only [Act.put, List.setIfInBounds_toArray, List.set_cons_zero, List.set_cons_succ]
          refine wpAnyH_ready (rs := [6]) (by kernel_rfl) (by simp) ?_
          refine AllReadyH.cons (o := { dst := some 24, op := Op.call { callee := Callee.value (Operand.func 52), args := #[Operand.tmp 22, Operand.tmp 23], argTypes := #[96, 83] }, type := 96, pos := "report.go:44", after := #[{ on := 4, ground := Ground.data }, { on := 5, ground := Ground.data }, { on := 4, ground := Ground.chain }], guard := none }) rfl (fun K7 hK7 => ?_) ?_
          · go_simp
            refine (HCl2.out _ _ HX.out.1 HO.out).mono ?_
            rintro e V4 ⟨v4, rfl, ho, hb⟩
            have HO := Lib.hid ho
            have HX := Lib.hid (And.intro (HX.out.1.trans (hb.mono HX.out.1.size)) (And.intro (HX.out.2.1.keep hb) (HX.out.2.2.keep hb)))
            clear ho hb
            refine hK7.out _ _ (fail_cells HX.out.2.1 HX.out.2.2) (fun hHeld => ?_)
            clear hK7 K7
            try simp only [Act.put, List.setIfInBounds_toArray, List.set_cons_zero, List.set_cons_succ]
            refine wpAnyH_ready (rs := [7]) (by kernel_rfl) (by simp) ?_
            refine AllReadyH.cons (o := { dst := some 25, op := Op.call { callee := Callee.value (Operand.func 91), args := #[Operand.tmp 24], argTypes := #[96] }, type := 96, pos := "report.go:44", after := #[{ on := 6, ground := Ground.data }, { on := 6, ground := Ground.chain }], guard := none }) rfl (fun K7 hK7 => ?_) ?_
            · go_simp
              refine (HLa.out _ _ (HO.out.read rc_len) (own_cap HO.out)).mono ?_
              rintro e V5 ⟨v5, rfl, ho, hv5⟩
              have HX : Hid (Below w.heap.size w V5 ∧ MBox V5 w.heap.size 83 m.epoch (.slice ah Lh ch) (.slice ao Lo co) (.slice ap Lp cp) (.slice ab Lb cb) ∧ RBx V5 (w.heap.size + 1) ⟨f, d, bt⟩) := Lib.hid (by rw [hv5]; exact HX.out)
              have HO : Hid (Sl rc 3 V5 v5 D) := Lib.hid (by rw [hv5]; exact ho)
              clear ho hv5
              refine hK7.out _ _ (fail_cells HX.out.2.1 HX.out.2.2) (fun hHeld => ?_)
              clear hK7 K7
              try simp only [Act.put, List.setIfInBounds_toArray, List.set_cons_zero, List.set_cons_succ]
              refine wpAnyH_take (i := 8) (oi := { dst := some 0, op := Op.assign (Operand.tmp 25), type := 96, pos := "report.go:44", after := #[{ on := 7, ground := Ground.data }, { on := 7, ground := Ground.chain }, { on := 0, ground := Ground.phase }, { on := 1, ground := Ground.phase }, { on := 2, ground := Ground.phase }, { on := 3, ground := Ground.phase }, { on := 4, ground := Ground.phase }, { on := 5, ground := Ground.phase }, { on := 6, ground := Ground.phase }, { on := 7, ground := Ground.phase }], guard := none }) (v := ?_) rfl (by kernel_rfl) (by kernel_rfl) (by kernel_rfl) (fun _ _ _ h => h) (Or.inl ⟨by rfl, ?_⟩) hHeld ?_
              rotate_left 1
              · intro W hSw
                (try dsimp only at hSw)
                go_simp
                try with_reducible rfl
              try simp only [Act.put, List.setIfInBounds_toArray, List.set_cons_zero, List.set_cons_succ]
              refine wpAnyH_done (by kernel_rfl) ?_ _
              clear hHeld
              go_upto_region 5 with fail
              have hDr := below_drew (Below.refl V5.heap.size V5)
              have HO := Lib.hid (HO.out.keep hDr)
              have HX := Lib.hid (And.intro (HX.out.1.trans (hDr.mono HX.out.1.size)) (And.intro (HX.out.2.1.keep hDr) (HX.out.2.2.keep hDr)))
              clear hDr
              refine wp_region_held_drew (S := fun u => u.cell? ⟨w.heap.size, 0, none⟩ = some (.int .i64 m.epoch) ∧ u.cell? ⟨w.heap.size, 1, none⟩ = some (.slice ah Lh ch) ∧ u.cell? ⟨w.heap.size, 2, none⟩ = some (.slice ao Lo co) ∧ u.cell? ⟨w.heap.size, 3, none⟩ = some (.slice ap Lp cp) ∧ u.cell? ⟨w.heap.size, 4, none⟩ = some (.slice ab Lb cb) ∧ u.cell? ⟨w.heap.size + 1, 0, none⟩ = some (.int .i64 f) ∧ u.cell? ⟨w.heap.size + 1, 1, none⟩ = some (.int .i64 d) ∧ u.cell? ⟨w.heap.size + 1, 2, none⟩ = some (.int .i64 bt)) (by kernel_rfl) (fail_cells HX.out.2.1 HX.out.2.2) (fun hHeld => ?_)
              generalize V5.drew = U at *
              refine wpAnyH_take (i := 0) (oi := { dst := some 26, op := Op.move (Operand.tmp 0), type := 96, pos := "report.go:45", after := #[], guard := none }) (v := ?_) rfl (by kernel_rfl) (by kernel_rfl) (by kernel_rfl) (fun _ _ _ h => h) (Or.inl ⟨by rfl, ?_⟩) hHeld ?_
              rotate_left 1
              · intro W hSw
                (try dsimp only at hSw)
                go_simp
                try with_reducible rfl
              try simp only [Act.put, List.setIfInBounds_toArray, List.set_cons_zero, List.set_cons_succ]
              refine wpAnyH_take (i := 1) (oi := { dst := some 27, op := Op.move (Operand.tmp 0), type := 96, pos := "report.go:45", after := #[], guard := none }) (v := ?_) rfl (by kernel_rfl) (by kernel_rfl) (by kernel_rfl) (fun _ _ _ h => h) (Or.inl ⟨by rfl, ?_⟩) hHeld ?_
              rotate_left 1
              · intro W hSw
                (try dsimp only at hSw)
                go_simp
                try with_reducible rfl
              try simp only [Act.put, List.setIfInBounds_toArray, List.set_cons_zero, List.set_cons_succ]
              refine wpAnyH_take (i := 3) (oi := { dst := some 29, op := Op.fieldAddr 98 (Operand.tmp 5) 1, type := 0, pos := "report.go:45", after := #[{ on := 9, ground := Ground.gcOnly Departure.lateStores }], guard := none }) (v := ?_) rfl (by kernel_rfl) (by kernel_rfl) (by kernel_rfl) (fun _ _ _ h => h) (Or.inl ⟨by rfl, ?_⟩) hHeld ?_
              rotate_left 1
              · intro W hSw
                (try dsimp only at hSw)
                go_simp
                try with_reducible rfl
              try simp only [Act.put, List.setIfInBounds_toArray, List.set_cons_zero, List.set_cons_succ]
              refine wpAnyH_take (i := 4) (oi := { dst := some 30, op := Op.load 3 (Operand.tmp 29), type := 3, pos := "report.go:45", after := #[{ on := 3, ground := Ground.data }, { on := 9, ground := Ground.gcOnly Departure.lateStores }], guard := none }) (v := ?_) rfl (by kernel_rfl) (by kernel_rfl) (by kernel_rfl) (fun _ _ _ h => h) (Or.inl ⟨by rfl, ?_⟩) hHeld ?_
              rotate_left 1
              · intro W hSw
                (try dsimp only at hSw)
                go_simp
                try with_reducible rfl
              try simp only [Act.put, List.setIfInBounds_toArray, List.set_cons_zero, List.set_cons_succ]
              refine wpAnyH_take (i := 6) (oi := { dst := some 32, op := Op.load 83 (Operand.tmp 4), type := 83, pos := "report.go:45", after := #[], guard := none }) (v := ?_) rfl (by kernel_rfl) (by kernel_rfl) (by kernel_rfl) (fun _ _ _ h => h) (Or.inl ⟨by rfl, ?_⟩) hHeld ?_
              rotate_left 1
              · intro W hSw
                (try dsimp only at hSw)
                go_simp
                try with_reducible rfl
              try simp only [Act.put, List.setIfInBounds_toArray, List.set_cons_zero, List.set_cons_succ]
              refine wpAnyH_ready (rs := [2]) (by kernel_rfl) (by simp) ?_
              refine AllReadyH.cons (o := { dst := some 28, op := Op.call { callee := Callee.value (Operand.func 93), args := #[Operand.tmp 27], argTypes := #[96] }, type := 148, pos := "report.go:45", after := #[{ on := 1, ground := Ground.data }], guard := none }) rfl (fun K7 hK7 => ?_) ?_
              · go_simp
                refine (HSd.out _ _ HO.out).mono ?_
                rintro e V6 ⟨bm, rfl, hsm, hb⟩
                obtain ⟨Dm, hDm, hAt⟩ := hsm
                have HDm := Lib.hid hDm; have HAt := Lib.hid hAt
                have HO := Lib.hid (HO.out.keep hb)
                have HX := Lib.hid (And.intro (HX.out.1.trans (hb.mono HX.out.1.size)) (And.intro (HX.out.2.1.keep hb) (HX.out.2.2.keep hb)))
                clear hDm hAt hb
                refine hK7.out _ _ (fail_cells HX.out.2.1 HX.out.2.2) (fun hHeld => ?_)
                clear hK7 K7
                try simp only [Act.put, List.setIfInBounds_toArray, List.set_cons_zero, List.set_cons_succ]
                refine wpAnyH_ready (rs := [5, 7]) (by kernel_rfl) (by simp) ?_
                refine AllReadyH.cons (o := { dst := some 31, op := Op.lookup 148 (Operand.tmp 28) (Operand.tmp 30) false, type := 3, pos := "report.go:45", after := #[{ on := 2, ground := Ground.data }, { on := 4, ground := Ground.data }, { on := 9, ground := Ground.gcOnly Departure.lateStores }], guard := none }) rfl (fun K7 hK7 => ?_) ?_
                · refine step_lookup_intR rfl (.tmp 28) (.tmp 30) 148 rfl 3 3 .i64 keyLawI Try.underlying148 Try.underlying3 (zeroIr _) bm _ Dm rfl HDm.out _ _ rfl HKy.out ?_
                  intro c hat hwc
                  have hc : c = ((saidK D d D.length : Nat) : Int) := (by have := hat.symm.trans (HAt.out d); injection this with this; injection this)
                  subst hc
                  clear hat hwc
                  try dsimp only
                  refine hK7.out _ _ (fail_cells HX.out.2.1 HX.out.2.2) (fun hHeld => ?_)
                  clear hK7 K7
                  try simp only [Act.put, List.setIfInBounds_toArray, List.set_cons_zero, List.set_cons_succ]
                  refine wpAnyH_ready (rs := [7]) (by kernel_rfl) (by simp) ?_
                  refine AllReadyH.cons (o := { dst := some 33, op := Op.call { callee := Callee.value (Operand.func 82), args := #[Operand.tmp 32], argTypes := #[83] }, type := 3, pos := "report.go:45", after := #[{ on := 6, ground := Ground.data }, { on := 2, ground := Ground.chain }], guard := none }) rfl (fun K7 hK7 => ?_) ?_
                  · go_simp
                    refine (HNd.out _ HX.out.1).mono ?_
                    rintro e V7 ⟨rfl, hb⟩
                    have HDm := Lib.hid (World.ownsMap.kept HDm.out (grown_belowR hb) (by simp))
                    have HO := Lib.hid (HO.out.keep hb)
                    have HX := Lib.hid (And.intro (HX.out.1.trans (hb.mono HX.out.1.size)) (And.intro (HX.out.2.1.keep hb) (HX.out.2.2.keep hb)))
                    clear hb
                    refine hK7.out _ _ (fail_cells HX.out.2.1 HX.out.2.2) (fun hHeld => ?_)
                    clear hK7 K7
                    try simp only [Act.put, List.setIfInBounds_toArray, List.set_cons_zero, List.set_cons_succ]
                    refine wpAnyH_take (i := 8) (oi := { dst := some 34, op := Op.binOp BinOp.geq 3 (Operand.tmp 31) (Operand.tmp 33) 3, type := 4, pos := "report.go:45", after := #[{ on := 5, ground := Ground.data }, { on := 7, ground := Ground.data }, { on := 9, ground := Ground.gcOnly Departure.lateStores }], guard := none }) (v := ?_) rfl (by kernel_rfl) (by kernel_rfl) (by kernel_rfl) (fun _ _ _ h => h) (Or.inl ⟨by rfl, ?_⟩) hHeld ?_
                    rotate_left 1
                    · intro W hSw
                      (try dsimp only at hSw)
                      go_simp
                      try with_reducible rfl
                    try simp only [Act.put, List.setIfInBounds_toArray, List.set_cons_zero, List.set_cons_succ]
                    refine wpAnyH_take (i := 9) (oi := { dst := some 6, op := Op.assign (Operand.tmp 26), type := 96, pos := "report.go:45", after := #[{ on := 0, ground := Ground.data }, { on := 7, ground := Ground.chain }, { on := 0, ground := Ground.phase }, { on := 1, ground := Ground.textOnly Departure.lateStores }, { on := 2, ground := Ground.textOnly Departure.lateStoresUnsure }, { on := 3, ground := Ground.textOnly Departure.lateStores }, { on := 4, ground := Ground.textOnly Departure.lateStores }, { on := 5, ground := Ground.textOnly Departure.lateStores }, { on := 6, ground := Ground.textOnly Departure.lateStores }, { on := 7, ground := Ground.textOnly Departure.lateStoresUnsure }, { on := 8, ground := Ground.textOnly Departure.lateStores }], guard := none }) (v := ?_) rfl (by kernel_rfl) (by kernel_rfl) (by kernel_rfl) (fun _ _ _ h => h) (Or.inl ⟨by rfl, ?_⟩) hHeld ?_
                    rotate_left 1
                    · intro W hSw
                      (try dsimp only at hSw)
                      go_simp
                      try with_reducible rfl
                    try simp only [Act.put, List.setIfInBounds_toArray, List.set_cons_zero, List.set_cons_succ]
                    refine wpAnyH_take (i := 10) (oi := { dst := some 7, op := Op.assign (Operand.tmp 34), type := 4, pos := "report.go:45", after := #[{ on := 8, ground := Ground.data }, { on := 9, ground := Ground.chain }, { on := 0, ground := Ground.phase }, { on := 1, ground := Ground.phase }, { on := 2, ground := Ground.phase }, { on := 3, ground := Ground.phase }, { on := 4, ground := Ground.phase }, { on := 5, ground := Ground.phase }, { on := 6, ground := Ground.phase }, { on := 7, ground := Ground.phase }, { on := 8, ground := Ground.phase }, { on := 9, ground := Ground.phase }], guard := none }) (v := ?_) rfl (by kernel_rfl) (by kernel_rfl) (by kernel_rfl) (fun _ _ _ h => h) (Or.inl ⟨by rfl, ?_⟩) hHeld ?_
                    rotate_left 1
                    · intro W hSw
                      (try dsimp only at hSw)
                      go_simp
                      try with_reducible rfl
                    try simp only [Act.put, List.setIfInBounds_toArray, List.set_cons_zero, List.set_cons_succ]
                    refine wpAnyH_done (by kernel_rfl) ?_ _
                    clear hHeld
                    go_wp2
                    go_ret2
                    rw [HRr.out]
                    exact ⟨_, rfl, HO.out, HX.out.1⟩
                  exact AllReadyH.nil
                refine AllReadyH.cons (o := { dst := some 33, op := Op.call { callee := Callee.value (Operand.func 82), args := #[Operand.tmp 32], argTypes := #[83] }, type := 3, pos := "report.go:45", after := #[{ on := 6, ground := Ground.data }, { on := 2, ground := Ground.chain }], guard := none }) rfl (fun K7 hK7 => ?_) ?_
                · go_simp
                  refine (HNd.out _ HX.out.1).mono ?_
                  rintro e V7 ⟨rfl, hb⟩
                  have HDm := Lib.hid (World.ownsMap.kept HDm.out (grown_belowR hb) (by simp))
                  have HO := Lib.hid (HO.out.keep hb)
                  have HX := Lib.hid (And.intro (HX.out.1.trans (hb.mono HX.out.1.size)) (And.intro (HX.out.2.1.keep hb) (HX.out.2.2.keep hb)))
                  clear hb
                  refine hK7.out _ _ (fail_cells HX.out.2.1 HX.out.2.2) (fun hHeld => ?_)
                  clear hK7 K7
                  try simp only [Act.put, List.setIfInBounds_toArray, List.set_cons_zero, List.set_cons_succ]
                  refine wpAnyH_take (i := 9) (oi := { dst := some 6, op := Op.assign (Operand.tmp 26), type := 96, pos := "report.go:45", after := #[{ on := 0, ground := Ground.data }, { on := 7, ground := Ground.chain }, { on := 0, ground := Ground.phase }, { on := 1, ground := Ground.textOnly Departure.lateStores }, { on := 2, ground := Ground.textOnly Departure.lateStoresUnsure }, { on := 3, ground := Ground.textOnly Departure.lateStores }, { on := 4, ground := Ground.textOnly Departure.lateStores }, { on := 5, ground := Ground.textOnly Departure.lateStores }, { on := 6, ground := Ground.textOnly Departure.lateStores }, { on := 7, ground := Ground.textOnly Departure.lateStoresUnsure }, { on := 8, ground := Ground.textOnly Departure.lateStores }], guard := none }) (v := ?_) rfl (by kernel_rfl) (by kernel_rfl) (by kernel_rfl) (fun _ _ _ h => h) (Or.inl ⟨by rfl, ?_⟩) hHeld ?_
                  rotate_left 1
                  · intro W hSw
                    (try dsimp only at hSw)
                    go_simp
                    try with_reducible rfl
                  try simp only [Act.put, List.setIfInBounds_toArray, List.set_cons_zero, List.set_cons_succ]
                  refine wpAnyH_ready (rs := [5]) (by kernel_rfl) (by simp) ?_
                  refine AllReadyH.cons (o := { dst := some 31, op := Op.lookup 148 (Operand.tmp 28) (Operand.tmp 30) false, type := 3, pos := "report.go:45", after := #[{ on := 2, ground := Ground.data }, { on := 4, ground := Ground.data }, { on := 9, ground := Ground.gcOnly Departure.lateStores }], guard := none }) rfl (fun K7 hK7 => ?_) ?_
                  · refine step_lookup_intR rfl (.tmp 28) (.tmp 30) 148 rfl 3 3 .i64 keyLawI Try.underlying148 Try.underlying3 (zeroIr _) bm _ Dm rfl HDm.out _ _ rfl HKy.out ?_
                    intro c hat hwc
                    have hc : c = ((saidK D d D.length : Nat) : Int) := (by have := hat.symm.trans (HAt.out d); injection this with this; injection this)
                    subst hc
                    clear hat hwc
                    try dsimp only
                    refine hK7.out _ _ (fail_cells HX.out.2.1 HX.out.2.2) (fun hHeld => ?_)
                    clear hK7 K7
                    try simp only [Act.put, List.setIfInBounds_toArray, List.set_cons_zero, List.set_cons_succ]
                    refine wpAnyH_take (i := 8) (oi := { dst := some 34, op := Op.binOp BinOp.geq 3 (Operand.tmp 31) (Operand.tmp 33) 3, type := 4, pos := "report.go:45", after := #[{ on := 5, ground := Ground.data }, { on := 7, ground := Ground.data }, { on := 9, ground := Ground.gcOnly Departure.lateStores }], guard := none }) (v := ?_) rfl (by kernel_rfl) (by kernel_rfl) (by kernel_rfl) (fun _ _ _ h => h) (Or.inl ⟨by rfl, ?_⟩) hHeld ?_
                    rotate_left 1
                    · intro W hSw
                      (try dsimp only at hSw)
                      go_simp
                      try with_reducible rfl
                    try simp only [Act.put, List.setIfInBounds_toArray, List.set_cons_zero, List.set_cons_succ]
                    refine wpAnyH_take (i := 10) (oi := { dst := some 7, op := Op.assign (Operand.tmp 34), type := 4, pos := "report.go:45", after := #[{ on := 8, ground := Ground.data }, { on := 9, ground := Ground.chain }, { on := 0, ground := Ground.phase }, { on := 1, ground := Ground.phase }, { on := 2, ground := Ground.phase }, { on := 3, ground := Ground.phase }, { on := 4, ground := Ground.phase }, { on := 5, ground := Ground.phase }, { on := 6, ground := Ground.phase }, { on := 7, ground := Ground.phase }, { on := 8, ground := Ground.phase }, { on := 9, ground := Ground.phase }], guard := none }) (v := ?_) rfl (by kernel_rfl) (by kernel_rfl) (by kernel_rfl) (fun _ _ _ h => h) (Or.inl ⟨by rfl, ?_⟩) hHeld ?_
                    rotate_left 1
                    · intro W hSw
                      (try dsimp only at hSw)
                      go_simp
                      try with_reducible rfl
                    try simp only [Act.put, List.setIfInBounds_toArray, List.set_cons_zero, List.set_cons_succ]
                    refine wpAnyH_done (by kernel_rfl) ?_ _
                    clear hHeld
                    go_wp2
                    go_ret2
                    rw [HRr.out]
                    exact ⟨_, rfl, HO.out, HX.out.1⟩
                  exact AllReadyH.nil
                exact AllReadyH.nil
              exact AllReadyH.nil
            exact AllReadyH.nil
          exact AllReadyH.nil
        exact AllReadyH.nil
      exact AllReadyH.nil
    exact AllReadyH.nil
end Go.Proofs.Ytcofmfjhgbihkaa.crush

namespace Go.Proofs.Ytcofmfjhgbihkaa.crush
open Go.RowKit
open Go.Proofs.Ytcofmfjhgbihkaa.kit Go.Proofs.Ytcofmfjhgbihkaa.own
set_option linter.unusedVariables false
set_option linter.unusedSimpArgs false

def wmR : Nat → MapV
  | 0 => firstE [0, 1, 2, 3]
  | k + 1 => appE ⟨1, k, 0, 1, ⟨0, 0, 0, 0⟩⟩ (wmR k)
theorem wm_ok : ∀ k, k < 5 → (wmR k).Small ∧ I64 (wmR k).epoch ∧ okBans (wmR k).bans = true ∧ (wmR k).osds.length ≤ 1000000 := fun k hk => by
  rcases (show k = 0 ∨ k = 1 ∨ k = 2 ∨ k = 3 ∨ k = 4 by omega) with rfl | rfl | rfl | rfl | rfl <;> exact ⟨by unfold MapV.Small; decide +kernel, by unfold I64; decide +kernel, by decide +kernel, by decide +kernel⟩
def wr0 : RepV := ⟨0, 3, 1⟩
def wr1 : RepV := ⟨1, 3, 1⟩
def wi : IncV := ⟨2, 3, 0, 1, ⟨0, 0, 0, 0⟩⟩
theorem wf1 : failL (wmR 4) [] wr0 = ([wr0], false) := by kernel_rfl
theorem wf2 : failL (wmR 4) [wr0] wr0 = ([wr0], false) := by kernel_rfl
theorem wf3 : failL (wmR 4) [wr0] wr1 = ([wr0, wr1], true) := by kernel_rfl
theorem wneed : needN (wmR 4) = 2 := by kernel_rfl
theorem wa1 : addE [] (wmR 4) wi = ([wi], true) := by kernel_rfl
theorem wa2 : addE [wi] (wmR 4) wi = ([wi], false) := by kernel_rfl
theorem wosds : (wmR 4).osds ≠ [] := by
  intro h
  have : (wmR 4).osds.length = 0 := by rw [h]; rfl
  exact absurd this (by decide +kernel)
theorem wrok (a : RepV) (h : a = wr0 ∨ a = wr1) : a.Ok := by
  rcases h with rfl | rfl <;> (unfold RepV.Ok; decide)
theorem sl_four (w : World) : Sl ic 1 (w.alloc (.cells #[.int .i64 0, .int .i64 1, .int .i64 2, .int .i64 3] 3)) (.slice (some ⟨w.heap.size, 0, none⟩) 4 4) [0, 1, 2, 3] := by
  refine ⟨by simp, _, _, rfl, fun h => (by cases h), fun _ => ⟨w.heap.size, 0, rfl, by simp, fun j hj i u hu => ?_⟩⟩
  have hj3 : j < 4 := hj
  rw [World.cell?_alloc_at _ _ _ _ rfl]
  rcases (show j = 0 ∨ j = 1 ∨ j = 2 ∨ j = 3 by omega) with rfl | rfl | rfl | rfl
  all_goals
    cases i with
    | zero => simpa [ic] using hu
    | succ i => simp [ic] at hu
theorem slN_nil {α : Type} {enc : α → List Value} {k : Nat} (w : World) : Sl enc k w (.slice none 0 0) ([] : List α) := ⟨by simp, _, _, rfl, fun _ => rfl, fun h => absurd h (by simp)⟩
theorem aw_putR {W w2 : World} {M : Nat} {t : TypeId} {ep : Int} {a1 a2 a3 a4 : Value} (hM : MBox W M t ep a1 a2 a3 a4) (hb : Below W.heap.size W w2) {vh vo vp vb : Value} {m' : MapV} (ho : MapO w2 W.heap.size vh vo vp vb m') :
    MBox (w2.setCells M 0 [.int .i64 m'.epoch, vh, vo, vp, vb]) M t m'.epoch vh vo vp vb ∧ MapO (w2.setCells M 0 [.int .i64 m'.epoch, vh, vo, vp, vb]) (M + 1) vh vo vp vb m' :=
  ⟨(hM.keep hb).put _ _ _ _ _, (ho.far hM.lt 0 _).mono hM.lt⟩

set_option maxHeartbeats 16000000 in
set_option maxRecDepth 100000 in
theorem awakeR_any (w : World) : Calls Try.prog 41 #[] w fun e w' => e = .returned (.bool true) ∧ Below w.heap.size w w' := by
  have HB0 := Lib.hid (below_new w (.cells #[.int .i64 0, .int .i64 1, .int .i64 2, .int .i64 3] 3))
  have HFi := Lib.hid (rFirst_any _ [0, 1, 2, 3] _ (sl_four w))
  rw [show firstE [0, 1, 2, 3] = wmR 0 from rfl] at HFi
  have HAp := Lib.hid (fun k (hk : k < 4) v u (h : MapR u v (wmR k)) => rApply_any v ⟨1, k, 0, 1, ⟨0, 0, 0, 0⟩⟩ (wmR k) u h (wm_ok k (by omega)).1 (wm_ok k (by omega)).2.1 (wm_ok k (by omega)).2.2.1)
  have HAp : Hid (∀ k (hk : k < 4) v u (h : MapR u v (wmR k)), Calls Try.prog 54 #[v, .agg #[.int .i64 1, .int .i64 k, .int .i64 0, .int .i64 1, .int .i64 0, .int .i64 0, .int .i64 0, .int .i64 0]] u (AppS u (wmR (k + 1)))) := HAp
  have k4 := wm_ok 4 (by omega)
  have HF1 := Lib.hid (fun v u (h : MapR u v (wmR 4)) => Fail_any (.slice none 0 0) v [] (wmR 4) wr0 u (slN_nil u) (fun r h => by cases h) (wrok _ (.inl rfl)) (by simp) h k4.2.2.2)
  have HF2 := Lib.hid (fun vl v u (hs : Sl rc 3 u vl [wr0]) (h : MapR u v (wmR 4)) => Fail_any vl v [wr0] (wmR 4) wr0 u hs (fun r h => wrok _ (.inl (by simpa using h))) (wrok _ (.inl rfl)) (by simp) h k4.2.2.2)
  have HF3 := Lib.hid (fun vl v u (hs : Sl rc 3 u vl [wr0]) (h : MapR u v (wmR 4)) => Fail_any vl v [wr0] (wmR 4) wr1 u hs (fun r h => wrok _ (.inl (by simpa using h))) (wrok _ (.inr rfl)) (by simp) h k4.2.2.2)
  have HNd := Lib.hid (fun v u (h : MapR u v (wmR 4)) => Need_any v (wmR 4) u h k4.2.2.2)
  have HA1 := Lib.hid (fun v u (h : MapR u v (wmR 4)) => Add_any (.slice none 0 0) v [] wi (wmR 4) u (slN_nil u) (by simp) h k4.1 wosds k4.2.2.1)
  have HA2 := Lib.hid (fun vl v u (hs : Sl nc 8 u vl [wi]) (h : MapR u v (wmR 4)) => Add_any vl v [wi] wi (wmR 4) u hs (by simp) h k4.1 wosds k4.2.2.1)
  rw [wf1] at HF1; rw [wf2] at HF2; rw [wf3] at HF3; rw [wneed] at HNd; rw [wa1] at HA1; rw [wa2] at HA2
  unfold FailS at HF1 HF2 HF3
  unfold AddS at HA1 HA2
  unfold RepV.val wr0 at HF1 HF2 HF3
  unfold wr1 at HF3
  unfold IncV.val wi at HA1 HA2
  simp only at HF1 HF2 HF3 HA1 HA2
  clear k4
  go_enter Try.func41, Try.ntmps41
  go_upto_region 2 with (go_at_call 81; refine HFi.out.mono ?_; rintro e w1 ⟨vh1, vo1, vp1, vb1, rfl, ho, hb⟩; obtain ⟨b1, d1, rfl⟩ := ho.1.slice; obtain ⟨b2, d2, rfl⟩ := ho.2.1.slice; obtain ⟨b3, d3, rfl⟩ := ho.2.2.1.slice; obtain ⟨b4, d4, rfl⟩ := ho.2.2.2.slice; have HO1 := Lib.hid ho; have HB1 := Lib.hid (HB0.out.trans (hb.mono HB0.out.size)); have HK1 := Lib.hid hb.size; clear hb ho)
  have hbn := below_new w1 (.cells #[.int .i64 (wmR 0).epoch, .slice b1 (wmR 0).hosts.length d1, .slice b2 (wmR 0).osds.length d2, .slice b3 (wmR 0).pools.length d3, .slice b4 (wmR 0).bans.length d4] 83)
  have hmn := mbox_new w1 83 (wmR 0).epoch (.slice b1 (wmR 0).hosts.length d1) (.slice b2 (wmR 0).osds.length d2) (.slice b3 (wmR 0).pools.length d3) (.slice b4 (wmR 0).bans.length d4)
  have HO1 := Lib.hid (HO1.out.below hbn)
  have HB1 := Lib.hid (HB1.out.trans (hbn.mono HB1.out.size))
  have HMx := Lib.hid hmn
  have HK1 : Hid (w.heap.size ≤ w1.heap.size) := Lib.hid (by have := HK1.out; have := HB0.out.size; omega)
  clear hbn hmn HB0 HFi
  generalize w1.alloc (.cells #[.int .i64 (wmR 0).epoch, .slice b1 (wmR 0).hosts.length d1, .slice b2 (wmR 0).osds.length d2, .slice b3 (wmR 0).pools.length d3, .slice b4 (wmR 0).bans.length d4] 83) = U1 at HO1 HB1 HMx ⊢
  generalize w1.heap.size = N at HMx HK1 ⊢
  have HR1 := Lib.hid HO1.out.read
  go_upto_region 3 with fail
  go_loopw [2] (fun v2 wr => ∃ k : Nat, k ≤ 4 ∧ v2 = .int .i64 k ∧ (∃ vh vo vp vb, MBox wr N 83 (wmR k).epoch vh vo vp vb ∧ MapR wr (.agg #[.int .i64 (wmR k).epoch, vh, vo, vp, vb]) (wmR k)) ∧ Below w.heap.size w wr) (fun i _ => 4 - (intOf i).toNat)
  case atStart => exact ⟨0, by omega, rfl, ⟨_, _, _, _, HMx.out, HR1.out⟩, HB1.out⟩
  case round =>
    obtain ⟨k, hk, rfl, ⟨vh, vo, vp, vb, hmx, hrd⟩, hbw⟩ := hrel
    obtain ⟨h1, h2, h3, h4⟩ := mapR_rows hrd
    obtain ⟨a1, c1, rfl⟩ := h1.slice
    obtain ⟨a2, c2, rfl⟩ := h2.slice
    obtain ⟨a3, c3, rfl⟩ := h3.slice
    obtain ⟨a4, c4, rfl⟩ := h4.slice
    have HMx := Lib.hid hmx; have HRd := Lib.hid hrd; have HBw := Lib.hid hbw
    clear hmx hrd hbw h1 h2 h3 h4
    have hk0 : (0 : Int) ≤ k := by omega
    by_cases hlt : k < 4
    · have hlt' : (k : Int) < 4 := by omega
      have HApk := Lib.hid (HAp.out k hlt _ _ HRd.out)
      unfold AppS at HApk
      obtain ⟨l0, l1, l2, l3, l4⟩ := HMx.out.cells
      obtain ⟨mk, hmk⟩ : ∃ z, wmR (k + 1) = z := ⟨_, rfl⟩
      have HMk := Lib.hid hmk
      rw [hmk] at HApk
      generalize wmR k = mo at HApk HMx HRd l0 l1 l2 l3 l4
      clear hmk
      go_upto_region 4 with (first
        | (go_at_call 54; refine HApk.out.mono ?_; rintro e w2 ⟨vh2, vo2, vp2, vb2, rfl, ho, hb⟩; obtain ⟨x1, y1, rfl⟩ := ho.1.slice; obtain ⟨x2, y2, rfl⟩ := ho.2.1.slice; obtain ⟨x3, y3, rfl⟩ := ho.2.2.1.slice; obtain ⟨x4, y4, rfl⟩ := ho.2.2.2.slice; have HPt2 := Lib.hid (aw_putR HMx.out hb ho); have HT2 := Lib.hid (HMx.out.keep hb).there; have HBl2 := Lib.hid (Below.setCells (HBw.out.trans (hb.mono HBw.out.size)) HK1.out 0 [.int .i64 mk.epoch, .slice x1 mk.hosts.length y1, .slice x2 mk.osds.length y2, .slice x3 mk.pools.length y3, .slice x4 mk.bans.length y4]); clear ho hb l0 l1 l2 l3 l4)
        | (refine wpList_store_mid rfl 83 _ _ rfl N 0 #[.int .i64 mk.epoch, .slice x1 mk.hosts.length y1, .slice x2 mk.osds.length y2, .slice x3 mk.pools.length y3, .slice x4 mk.bans.length y4] rfl rfl HT2.out sizeMap (map_one _ _ _ _ _ _ _ _ _ _ _ _ _) ?_))
      go_wp2
      go_roundw
      case rel => exact ⟨k + 1, by omega, by go_num, ⟨_, _, _, _, by rw [HMk.out]; exact HPt2.out.1, by rw [HMk.out]; exact HPt2.out.2.read⟩, HBl2.out⟩
      case measure => simp [intOf]; omega
    · obtain rfl : k = 4 := by omega
      clear hlt hk hk0 HAp
      obtain ⟨l0, l1, l2, l3, l4⟩ := HMx.out.cells
      generalize wmR 4 = mo at HF1 HF2 HF3 HNd HA1 HA2 HMx HRd l0 l1 l2 l3 l4
      go_upto_region 7 with (go_at_call 49; refine (HF1.out _ _ HRd.out).mono ?_; rintro e w2 ⟨u1, rfl, hs, hb⟩; have HMx := Lib.hid (HMx.out.keep hb); have HRd := Lib.hid (HRd.out.keep hb); have HBw := Lib.hid (HBw.out.trans (hb.mono HBw.out.size)); have HS := Lib.hid hs; clear hs hb l0 l1 l2 l3 l4; obtain ⟨l0, l1, l2, l3, l4⟩ := HMx.out.cells)
      go_upto_region 8 with (go_at_call 49; refine (HF2.out _ _ _ HS.out HRd.out).mono ?_; rintro e w3 ⟨u2, rfl, hs, hb⟩; have HMx := Lib.hid (HMx.out.keep hb); have HRd := Lib.hid (HRd.out.keep hb); have HBw := Lib.hid (HBw.out.trans (hb.mono HBw.out.size)); have HS := Lib.hid hs; clear hs hb l0 l1 l2 l3 l4; obtain ⟨l0, l1, l2, l3, l4⟩ := HMx.out.cells)
      go_upto_region 9 with (go_at_call 49; refine (HF3.out _ _ _ HS.out HRd.out).mono ?_; rintro e w4 ⟨u3, rfl, hs, hb⟩; have HMx := Lib.hid (HMx.out.keep hb); have HRd := Lib.hid (HRd.out.keep hb); have HBw := Lib.hid (HBw.out.trans (hb.mono HBw.out.size)); clear hs hb l0 l1 l2 l3 l4; obtain ⟨l0, l1, l2, l3, l4⟩ := HMx.out.cells)
      go_upto_region 10 with (go_at_call 42; refine (HA1.out _ _ HRd.out).mono ?_; rintro e w5 ⟨u4, rfl, ho, hb⟩; have HMx := Lib.hid (HMx.out.keep hb); have HRd := Lib.hid (HRd.out.keep hb); have HBw := Lib.hid (HBw.out.trans (hb.mono HBw.out.size)); have HQ := Lib.hid (ho.read nc_len); clear ho hb l0 l1 l2 l3 l4; obtain ⟨l0, l1, l2, l3, l4⟩ := HMx.out.cells)
      go_upto_region 11 with (go_at_call 42; refine (HA2.out _ _ _ HQ.out HRd.out).mono ?_; rintro e w6 ⟨u5, rfl, ho, hb⟩; have HMx := Lib.hid (HMx.out.keep hb); have HRd := Lib.hid (HRd.out.keep hb); have HBw := Lib.hid (HBw.out.trans (hb.mono HBw.out.size)); clear ho hb l0 l1 l2 l3 l4; obtain ⟨l0, l1, l2, l3, l4⟩ := HMx.out.cells)
      go_wp2_with (go_at_call 82; refine (HNd.out _ _ HRd.out).mono ?_; rintro e w7 ⟨rfl, hb⟩; have HMx := Lib.hid (HMx.out.keep hb); have HRd := Lib.hid (HRd.out.keep hb); have HBw := Lib.hid (HBw.out.trans (hb.mono HBw.out.size)); clear hb l0 l1 l2 l3 l4)
      go_ret
      exact ⟨rfl, HBw.out⟩
end Go.Proofs.Ytcofmfjhgbihkaa.crush
