/- What a change does to a storage node on a sheet. -/
import Derived.Test.YtcofmfjhgbihkaaRows
import Derived.Test.YtcofmfjhgbihkaaMapsFar
import Derived.BigQuiet
namespace Go.Proofs.Ytcofmfjhgbihkaa.crush
open Go.RowKit
open Go.Proofs.Ytcofmfjhgbihkaa.kit Go.Proofs.Ytcofmfjhgbihkaa.own
set_option linter.unusedVariables false
set_option linter.unusedSimpArgs false

theorem OwnAt.setField {α : Type} {enc : α → List Value} {k e g cap : Nat} {w : World} {xs : List α} (hk : ∀ x, (enc x).length = k) (h : OwnAt enc k e w g cap xs) (i : Nat) (hi : i < xs.length) (j : Nat) (hj : j < k) (u : Value) (x' : α) (hx : enc x' = (enc xs[i]).set j u) : OwnAt enc k e (w.setCell ⟨g, i * k + j, none⟩ u) g cap (xs.set i x') := by
  obtain ⟨cur, h1, h2, h3⟩ := h.ex
  have hcap := Nat.mul_le_mul_right k h.le
  have hik := Nat.mul_le_mul_right k (show i + 1 ≤ xs.length from hi)
  rw [Nat.add_mul, Nat.one_mul] at hik
  refine ⟨⟨_, heap_setCell_same w g (i * k + j) cur e u h1, by simpa using h2, ?_⟩, by simpa using h.le, h.max⟩
  rw [List.length_set]
  apply List.ext_getElem?
  intro t
  rw [List.getElem?_take]
  rcases Nat.lt_or_ge t (xs.length * k) with ht | ht
  · rw [if_pos ht]
    have hk0 : 0 < k := by omega
    have hq : t / k < xs.length := (Nat.div_lt_iff_lt_mul hk0).2 ht
    have hm := Nat.mod_lt t hk0
    have hd : t = t / k * k + t % k := (Nat.div_add_mod' t k).symm
    have e1 : ((xs.set i x').flatMap enc)[t]? = (enc ((xs.set i x')[t / k]'(by simpa using hq)))[t % k]? := by
      conv => lhs; rw [hd]
      exact flat_at hk (xs.set i x') (t / k) (t % k) (by simpa using hq) hm
    have e2 : cur.toList[t]? = (enc xs[t / k])[t % k]? := by
      have : (cur.toList.take (xs.length * k))[t]? = cur.toList[t]? := by rw [List.getElem?_take, if_pos ht]
      rw [← this, h3]
      conv => lhs; rw [hd]
      exact flat_at hk xs (t / k) (t % k) hq hm
    rw [e1]
    simp only [Array.toList_setIfInBounds, List.getElem?_set, Array.length_toList]
    by_cases he : i * k + j = t
    · have hqi : t / k = i := by rw [← he, Nat.mul_comm, Nat.mul_add_div hk0, Nat.div_eq_of_lt hj]; rfl
      have hri : t % k = j := by rw [← he, Nat.mul_comm, Nat.mul_add_mod, Nat.mod_eq_of_lt hj]
      rw [if_pos he, if_pos (by omega), List.getElem_set, if_pos hqi.symm, hx, hri, List.getElem?_set_self (by rw [hk]; exact hj)]
    · rw [if_neg he, e2, List.getElem_set]
      by_cases hqi : i = t / k
      · rw [if_pos hqi, hx]
        have hne : j ≠ t % k := fun e => he (by rw [hqi, e]; exact hd.symm)
        rw [List.getElem?_set_ne hne]
        subst hqi
        rfl
      · rw [if_neg hqi]
  · rw [if_neg (by omega)]
    symm
    rw [List.getElem?_eq_none]
    rw [flat_len hk, List.length_set]; exact ht

/-- A sheet whose storage nodes lie in the row g. -/
def SheetG (w : World) (B : Nat → Prop) (S g cap : Nat) (m : MapV) : Prop := ¬ B S ∧ ¬ B g ∧ ∃ vh vp vb, MBox w S 185 m.epoch vh (.slice (some ⟨g, 0, none⟩) m.osds.length cap) vp vb ∧ OwnP ic 1 3 w B vh m.hosts ∧ OwnAt oc 4 132 w g cap m.osds ∧ OwnP pc 4 85 w B vp m.pools ∧ OwnP bc 2 136 w B vb m.bans
theorem SheetAt.open {w : World} {B S : Nat} {m : MapV} (h : SheetAt w B S m) (hn : m.osds ≠ []) : ∃ g cap, SheetG w (fun k => k < B) S g cap m := by
  obtain ⟨h0, vh, vo, vp, vb, h1, h2, h3, h4, h5⟩ := h
  rcases h3.at with ⟨_, e⟩ | ⟨g, cap, rfl, hg, hat⟩
  · exact absurd e hn
  · exact ⟨g, cap, Nat.not_lt.2 h0, Nat.not_lt.2 hg, vh, vp, vb, h1, OwnP.of h2, hat, OwnP.of h4, OwnP.of h5⟩
theorem SheetG.keep {w w' : World} {B : Nat → Prop} {S g cap : Nat} {m : MapV} (h : SheetG w B S g cap m) (hb : Below w.heap.size w w') : SheetG w' B S g cap m := by
  obtain ⟨h0, hg, vh, vp, vb, h1, h2, h3, h4, h5⟩ := h
  exact ⟨h0, hg, vh, vp, vb, h1.keep hb, h2.below hb, h3.block (hb.block _ h3.lt), h4.below hb, h5.below hb⟩
/-- Rows of other types, and boxes, stay where a node's field is written. -/
theorem Own.far {α : Type} {enc : α → List Value} {k e e' B : Nat} {W : World} {v : Value} {xs : List α} (h : Own enc k e W B v xs) {g : Nat} {cur : Array Value} (hg : W.heap[g]? = some (.cells cur e' (0, 0))) (he : e ≠ e') (o : Nat) (u : Value) : Own enc k e (W.setCell ⟨g, o, none⟩ u) B v xs := by
  refine h.setOther (fun e1 => ?_) o u
  obtain ⟨h1, h2⟩ := id h
  rcases h2 with ⟨rfl, h0⟩ | ⟨g2, cap, cur2, rfl, hb, hg2, hr⟩
  · cases e1
  · have : g2 = g := by simpa [Value.ownBlock] using e1
    subst this
    rw [hg2] at hg
    cases hg
    exact he rfl
theorem OwnP.far {α : Type} {enc : α → List Value} {k e e' : Nat} {B : Nat → Prop} {W : World} {v : Value} {xs : List α} (h : OwnP enc k e W B v xs) {g : Nat} {cur : Array Value} (hg : W.heap[g]? = some (.cells cur e' (0, 0))) (he : e ≠ e') (o : Nat) (u : Value) : OwnP enc k e (W.setCell ⟨g, o, none⟩ u) B v xs := ⟨h.1.far hg he o u, h.2⟩
theorem SheetG.setOsd {w : World} {B : Nat → Prop} {S g cap : Nat} {m : MapV} (h : SheetG w B S g cap m) (i : Nat) (hi : i < m.osds.length) (j : Nat) (hj : j < 4) (u : Value) (x' : OsdV) (hx : oc x' = (oc m.osds[i]).set j u) : SheetG (w.setCell ⟨g, i * 4 + j, none⟩ u) B S g cap { m with osds := m.osds.set i x' } := by
  obtain ⟨h0, hg, vh, vp, vb, h1, h2, h3, h4, h5⟩ := h
  obtain ⟨cur, hc, -⟩ := h3.ex
  have hne : S ≠ g := fun e => by subst e; unfold MBox at h1; rw [h1] at hc; cases hc
  refine ⟨h0, hg, vh, vp, vb, ?_, h2.far hc (by decide) _ _, h3.setField oc_len i hi j hj u x' hx, h4.far hc (by decide) _ _, h5.far hc (by decide) _ _⟩
  show MBox _ _ _ _ _ (.slice (some ⟨g, 0, none⟩) (m.osds.set i x').length cap) _ _
  rw [List.length_set]
  exact (heap_setCell_other _ _ _ _ hne).trans h1
theorem SheetG.osd {w : World} {B : Nat → Prop} {S g cap : Nat} {m : MapV} (h : SheetG w B S g cap m) (i : Nat) (hi : i < m.osds.length) : w.rangeAt g (i * 4) (oc m.osds[i]) ∧ ∀ t, w.frozen? ⟨g, t, none⟩ = false := by
  obtain ⟨h0, hg, vh, vp, vb, h1, h2, h3, h4, h5⟩ := h
  exact ⟨h3.row oc_len i hi, h3.thaw⟩

set_option maxHeartbeats 16000000 in
set_option maxRecDepth 100000 in
theorem osd_any (c : IncV) (i : Nat) (hc : c.osd = i) (B : Nat → Prop) (S g cap : Nat) (m : MapV) (w : World) (h : SheetG w B S g cap m) :
    Calls Try.prog 137 #[.pointer (some ⟨S, 0, none⟩), c.val] w fun e w' => e = .returned (.tuple #[if i < m.osds.length then .pointer (some ⟨g, i * 4, none⟩) else .pointer none, .bool (decide (i < m.osds.length))]) ∧ Below w.heap.size w w' := by
  obtain ⟨k, o, cl, n, a, b, p, d⟩ := c
  simp only at hc
  subst hc
  unfold IncV.val
  simp only
  have hb := below_new w (.cells #[.int .i64 k, .int .i64 i, .int .i64 cl, .int .i64 n, .int .i64 a, .int .i64 b, .int .i64 p, .int .i64 d] 87)
  have hx := ibx_new w ⟨k, i, cl, n, ⟨a, b, p, d⟩⟩
  obtain ⟨-, -, vh, vp, vb, hm, -⟩ := h.keep hb
  have HB := Lib.hid hb; have HX := Lib.hid hx; have HM := Lib.hid hm
  generalize m.osds.length = L at HM ⊢
  generalize m.epoch = ep at HM ⊢
  have mixed : Try.prog.follows .mixedOrders = true := by kernel_rfl
  clear hb hx hm h
  simp only at HX
  go_enter Try.func137, Try.ntmps137
  go_upto_region 1 with fail
  generalize (w.alloc (.cells #[.int .i64 k, .int .i64 i, .int .i64 cl, .int .i64 n, .int .i64 a, .int .i64 b, .int .i64 p, .int .i64 d] 87)) = W at HB HX HM ⊢
  obtain ⟨c0, c1, c2, c3, c4, c5, c6, c7⟩ := HX.out.cells
  obtain ⟨l0, l1, l2, l3, l4⟩ := HM.out.cells
  go_quiet (fail)
  by_cases hi : i < L
  · have hi' : (i : Int) < L := by omega
    have hi0 : (0 : Int) ≤ i := by omega
    go_upto_region 3 with fail
    go_quiet (fail)
    go_wp2
    go_ret2
    exact ⟨by simp, HB.out.drewN' _⟩
  · have hi' : (L : Int) ≤ i := by omega
    go_wp2
    go_ret2
    exact ⟨by simp, HB.out.drewN' _⟩

def bootO (n ep : Int) (o : OsdV) : Option OsdV := if n ≤ o.boot then none else some ⟨n, true, o.wt, o.thru⟩
def downO (n ep : Int) (o : OsdV) : Option OsdV := if o.up = false ∨ n ≠ o.boot then none else some ⟨o.boot, false, o.wt, o.thru⟩
def weighO (n ep : Int) (o : OsdV) : Option OsdV := if n = o.wt then none else some ⟨o.boot, o.up, n, o.thru⟩
def thruO (n ep : Int) (o : OsdV) : Option OsdV := if o.up = false ∨ n ≤ o.thru ∨ ep < n then none else some ⟨o.boot, o.up, o.wt, n⟩
def putOsd (m : MapV) (i : Nat) (o : OsdV) : MapV := ⟨m.epoch, m.hosts, m.osds.set i o, m.pools, m.bans⟩
/-- One storage node's part of a change. -/
def setO (f : Int → Int → OsdV → Option OsdV) (n : Int) (i : Nat) (m : MapV) : MapV × Bool :=
  match m.osds[i]? with
  | none => (m, false)
  | some o => match f n m.epoch o with
    | none => (m, false)
    | some o' => (putOsd m i o', true)
theorem setO_none {f : Int → Int → OsdV → Option OsdV} {n : Int} {i : Nat} {m : MapV} (h : ¬ i < m.osds.length) : setO f n i m = (m, false) := by
  unfold setO
  rw [List.getElem?_eq_none (by omega)]
theorem setO_some {f : Int → Int → OsdV → Option OsdV} {n : Int} {i : Nat} {m : MapV} (h : i < m.osds.length) : setO f n i m = match f n m.epoch m.osds[i] with
    | none => (m, false)
    | some o' => (putOsd m i o', true) := by
  unfold setO
  rw [List.getElem?_eq_getElem h]
theorem SheetG.put1 {w : World} {B : Nat → Prop} {S g cap : Nat} {m : MapV} (h : SheetG w B S g cap m) {i : Nat} {y : OsdV} (hi : ∃ h : i < m.osds.length, m.osds[i] = y) (j : Nat) (hj : j < 4) (u : Value) (x' : OsdV) (hx : oc x' = (oc y).set j u) : SheetG (w.setCell ⟨g, i * 4 + j, none⟩ u) B S g cap (putOsd m i x') := by
  obtain ⟨h1, h2⟩ := hi
  exact h.setOsd i h1 j hj u x' (by rw [h2]; exact hx)
theorem SheetG.put2 {w : World} {B : Nat → Prop} {S g cap : Nat} {m : MapV} (h : SheetG w B S g cap m) {i : Nat} {y : OsdV} (hi : ∃ h : i < m.osds.length, m.osds[i] = y) (j : Nat) (hj : j < 4) (u : Value) (x' : OsdV) (hx : oc x' = (oc y).set j u) (j2 : Nat) (hj2 : j2 < 4) (u2 : Value) (x2 : OsdV) (hx2 : oc x2 = (oc x').set j2 u2) : SheetG ((w.setCell ⟨g, i * 4 + j, none⟩ u).setCell ⟨g, i * 4 + j2, none⟩ u2) B S g cap (putOsd m i x2) := by
  have h1 := h.put1 hi j hj u x' hx
  obtain ⟨h2, h3⟩ := hi
  have h4 := h1.put1 (i := i) (y := x') ⟨by show i < (m.osds.set i x').length; rw [List.length_set]; exact h2, by show (m.osds.set i x')[i]'_ = x'; simp⟩ j2 hj2 u2 x2 hx2
  have e : putOsd (putOsd m i x') i x2 = putOsd m i x2 := by unfold putOsd; simp only [List.set_set]
  rwa [e] at h4
theorem SheetG.rowOf {w : World} {B : Nat → Prop} {S g cap : Nat} {m : MapV} (h : SheetG w B S g cap m) : ¬ B g := h.2.1
def StO (B : Nat → Prop) (S g cap : Nat) (r : MapV × Bool) (w : World) (e : Ending) (w' : World) : Prop := e = .returned (.bool r.2) ∧ SheetG w' B S g cap r.1 ∧ Far B w w'

set_option maxHeartbeats 16000000 in
set_option maxRecDepth 100000 in
theorem boot_any (c : IncV) (i : Nat) (hc : c.osd = i) (B : Nat → Prop) (S g cap : Nat) (m : MapV) (w : World) (h : SheetG w B S g cap m) (hB : In B w) :
    Calls Try.prog 127 #[.pointer (some ⟨S, 0, none⟩), c.val] w (StO B S g cap (setO bootO c.num i m) w) := by
  have HOs := Lib.hid (fun u (hu : Below w.heap.size w u) => osd_any c i hc B S g cap m u (h.keep hu))
  obtain ⟨k, o, cl, n, a, b, p, d⟩ := c
  simp only at hc
  subst hc
  unfold IncV.val at HOs ⊢
  simp only at HOs ⊢
  have hb := below_new w (.cells #[.int .i64 k, .int .i64 i, .int .i64 cl, .int .i64 n, .int .i64 a, .int .i64 b, .int .i64 p, .int .i64 d] 87)
  have hx := ibx_new w ⟨k, i, cl, n, ⟨a, b, p, d⟩⟩
  have HB := Lib.hid hb; have HX := Lib.hid hx; have HG := Lib.hid (h.keep hb)
  have mixed : Try.prog.follows .mixedOrders = true := by kernel_rfl
  have HBB := Lib.hid hB
  simp only at HX
  by_cases hi : i < m.osds.length
  · rw [setO_some hi]
    simp only [if_pos hi, decide_eq_true hi] at HOs
    obtain ⟨y, hy⟩ : ∃ y, m.osds[i] = y := ⟨_, rfl⟩
    have HRow := Lib.hid (fun u (hu : SheetG u B S g cap m) => hu.osd i hi)
    have HI := Lib.hid (show ∃ h : i < m.osds.length, m.osds[i] = y from ⟨hi, hy⟩)
    rw [hy] at HRow ⊢
    obtain ⟨R, hR⟩ : ∃ R, (match bootO n m.epoch y with
      | none => (m, false)
      | some o' => (putOsd m i o', true)) = R := ⟨_, rfl⟩
    have HRes := Lib.hid hR
    rw [hR]
    clear hR
    clear hb hx h hB hy hi
    go_enter Try.func127, Try.ntmps127
    go_upto_region 2 with (go_at_call 137; refine (HOs.out _ HB.out).mono ?_; rintro e w5 ⟨rfl, hb⟩; have HB5 := Lib.hid (HB.out.trans (hb.mono HB.out.size)); have HG5 := Lib.hid (HG.out.keep hb); have HX5 := Lib.hid (HX.out.keep hb); clear hb)
    obtain ⟨hr, hf⟩ := HRow.out w5 HG5.out
    obtain ⟨d0, d1, d2, d3⟩ := ocells4 hr
    obtain ⟨c0, c1, c2, c3, c4, c5, c6, c7⟩ := HX5.out.cells
    obtain ⟨-, -, vh, vp, vb, hmb, -⟩ := id HG5.out
    obtain ⟨e0, -, -, -, -⟩ := hmb.cells
    simp only at c0 c1 c2 c3 c4 c5 c6 c7
    have HBw := Lib.hid (Far.of HB5.out HBB.out)
    have f0 := hf (i * 4); have f1 := hf (i * 4 + 1); have f2 := hf (i * 4 + 2); have f3 := hf (i * 4 + 3)
    have HRg := Lib.hid HG5.out.rowOf
    clear hr HOs HG HX HB HB5 hf hmb
    obtain ⟨bt, up, wt, th⟩ := y
    simp only at d0 d1 d2 d3
    by_cases hc : n ≤ bt
    ·
      have HE : Hid (bootO n m.epoch ⟨bt, up, wt, th⟩ = none) := Lib.hid (by unfold bootO; rw [if_pos hc])
      go_quiet (fail)
      go_wp2
      go_ret
      rw [← HRes.out, HE.out]
      exact ⟨rfl, HG5.out.keep ((Below.refl _ _).drewN' _), HBw.out.drewN' _⟩
    ·
      have HE : Hid (bootO n m.epoch ⟨bt, up, wt, th⟩ = some ⟨n, true, wt, th⟩) := Lib.hid (by unfold bootO; rw [if_neg hc])
      go_quiet (fail)
      have HG6 := Lib.hid (SheetG.put2 (HG5.out.keep ((Below.refl _ _).drewN' nq)) HI.out 0 (by omega) (.int .i64 n) ⟨n, up, wt, th⟩ rfl 1 (by omega) (.bool true) ⟨n, true, wt, th⟩ rfl)
      have HB6 := Lib.hid (((HBw.out.drewN' nq).setCell (p := ⟨g, i * 4 + 0, none⟩) HRg.out (.int .i64 n)).setCell (p := ⟨g, i * 4 + 1, none⟩) HRg.out (.bool true))
      go_wp2
      go_ret
      rw [← HRes.out, HE.out]
      exact ⟨rfl, HG6.out, HB6.out⟩
  · rw [setO_none hi]
    simp only [if_neg hi, decide_eq_false hi] at HOs
    clear hb hx h hB hi
    go_enter Try.func127, Try.ntmps127
    go_upto_region 2 with (go_at_call 137; refine (HOs.out _ HB.out).mono ?_; rintro e w5 ⟨rfl, hb⟩; have HB5 := Lib.hid (HB.out.trans (hb.mono HB.out.size)); have HG5 := Lib.hid (HG.out.keep hb); clear hb)
    go_region
    go_wp2
    go_ret
    exact ⟨rfl, (HG5.out.keep (below_drew (Below.refl _ _))), (Far.of HB5.out HBB.out).drew⟩

set_option maxHeartbeats 16000000 in
set_option maxRecDepth 100000 in
theorem down_any (c : IncV) (i : Nat) (hc : c.osd = i) (B : Nat → Prop) (S g cap : Nat) (m : MapV) (w : World) (h : SheetG w B S g cap m) (hB : In B w) :
    Calls Try.prog 128 #[.pointer (some ⟨S, 0, none⟩), c.val] w (StO B S g cap (setO downO c.num i m) w) := by
  have HOs := Lib.hid (fun u (hu : Below w.heap.size w u) => osd_any c i hc B S g cap m u (h.keep hu))
  obtain ⟨k, o, cl, n, a, b, p, d⟩ := c
  simp only at hc
  subst hc
  unfold IncV.val at HOs ⊢
  simp only at HOs ⊢
  have hb := below_new w (.cells #[.int .i64 k, .int .i64 i, .int .i64 cl, .int .i64 n, .int .i64 a, .int .i64 b, .int .i64 p, .int .i64 d] 87)
  have hx := ibx_new w ⟨k, i, cl, n, ⟨a, b, p, d⟩⟩
  have HB := Lib.hid hb; have HX := Lib.hid hx; have HG := Lib.hid (h.keep hb)
  have mixed : Try.prog.follows .mixedOrders = true := by kernel_rfl
  have HBB := Lib.hid hB
  simp only at HX
  by_cases hi : i < m.osds.length
  · rw [setO_some hi]
    simp only [if_pos hi, decide_eq_true hi] at HOs
    obtain ⟨y, hy⟩ : ∃ y, m.osds[i] = y := ⟨_, rfl⟩
    have HRow := Lib.hid (fun u (hu : SheetG u B S g cap m) => hu.osd i hi)
    have HI := Lib.hid (show ∃ h : i < m.osds.length, m.osds[i] = y from ⟨hi, hy⟩)
    rw [hy] at HRow ⊢
    obtain ⟨R, hR⟩ : ∃ R, (match downO n m.epoch y with
      | none => (m, false)
      | some o' => (putOsd m i o', true)) = R := ⟨_, rfl⟩
    have HRes := Lib.hid hR
    rw [hR]
    clear hR
    clear hb hx h hB hy hi
    go_enter Try.func128, Try.ntmps128
    go_upto_region 2 with (go_at_call 137; refine (HOs.out _ HB.out).mono ?_; rintro e w5 ⟨rfl, hb⟩; have HB5 := Lib.hid (HB.out.trans (hb.mono HB.out.size)); have HG5 := Lib.hid (HG.out.keep hb); have HX5 := Lib.hid (HX.out.keep hb); clear hb)
    obtain ⟨hr, hf⟩ := HRow.out w5 HG5.out
    obtain ⟨d0, d1, d2, d3⟩ := ocells4 hr
    obtain ⟨c0, c1, c2, c3, c4, c5, c6, c7⟩ := HX5.out.cells
    obtain ⟨-, -, vh, vp, vb, hmb, -⟩ := id HG5.out
    obtain ⟨e0, -, -, -, -⟩ := hmb.cells
    simp only at c0 c1 c2 c3 c4 c5 c6 c7
    have HBw := Lib.hid (Far.of HB5.out HBB.out)
    have f0 := hf (i * 4); have f1 := hf (i * 4 + 1); have f2 := hf (i * 4 + 2); have f3 := hf (i * 4 + 3)
    have HRg := Lib.hid HG5.out.rowOf
    clear hr HOs HG HX HB HB5 hf hmb
    obtain ⟨bt, up, wt, th⟩ := y
    simp only at d0 d1 d2 d3
    cases up with
    | false =>
      have HE : Hid (downO n m.epoch ⟨bt, false, wt, th⟩ = none) := Lib.hid (by unfold downO; simp)
      go_region
      go_wp2
      go_ret
      rw [← HRes.out, HE.out]
      exact ⟨rfl, HG5.out.keep (below_drew (Below.refl _ _)), HBw.out.drew⟩
    | true =>
      by_cases hc : n = bt
      · subst hc
        have HE : Hid (downO n m.epoch ⟨n, true, wt, th⟩ = some ⟨n, false, wt, th⟩) := Lib.hid (by unfold downO; simp)
        go_quiet (fail)
        have HG6 := Lib.hid (SheetG.put1 (HG5.out.keep ((Below.refl _ _).drewN' nq)) HI.out 1 (by omega) (.bool false) ⟨n, false, wt, th⟩ rfl)
        have HB6 := Lib.hid ((HBw.out.drewN' nq).setCell (p := ⟨g, i * 4 + 1, none⟩) HRg.out (.bool false))
        go_wp2
        go_ret
        rw [← HRes.out, HE.out]
        exact ⟨rfl, HG6.out, HB6.out⟩
      ·
        have HE : Hid (downO n m.epoch ⟨bt, true, wt, th⟩ = none) := Lib.hid (by unfold downO; simp [hc])
        go_quiet (fail)
        go_wp2
        go_ret
        rw [← HRes.out, HE.out]
        exact ⟨rfl, HG5.out.keep ((Below.refl _ _).drewN' _), HBw.out.drewN' _⟩
  · rw [setO_none hi]
    simp only [if_neg hi, decide_eq_false hi] at HOs
    clear hb hx h hB hi
    go_enter Try.func128, Try.ntmps128
    go_upto_region 2 with (go_at_call 137; refine (HOs.out _ HB.out).mono ?_; rintro e w5 ⟨rfl, hb⟩; have HB5 := Lib.hid (HB.out.trans (hb.mono HB.out.size)); have HG5 := Lib.hid (HG.out.keep hb); clear hb)
    go_region
    go_wp2
    go_ret
    exact ⟨rfl, (HG5.out.keep (below_drew (Below.refl _ _))), (Far.of HB5.out HBB.out).drew⟩

set_option maxHeartbeats 16000000 in
set_option maxRecDepth 100000 in
theorem weigh_any (c : IncV) (i : Nat) (hc : c.osd = i) (B : Nat → Prop) (S g cap : Nat) (m : MapV) (w : World) (h : SheetG w B S g cap m) (hB : In B w) :
    Calls Try.prog 129 #[.pointer (some ⟨S, 0, none⟩), c.val] w (StO B S g cap (setO weighO c.num i m) w) := by
  have HOs := Lib.hid (fun u (hu : Below w.heap.size w u) => osd_any c i hc B S g cap m u (h.keep hu))
  obtain ⟨k, o, cl, n, a, b, p, d⟩ := c
  simp only at hc
  subst hc
  unfold IncV.val at HOs ⊢
  simp only at HOs ⊢
  have hb := below_new w (.cells #[.int .i64 k, .int .i64 i, .int .i64 cl, .int .i64 n, .int .i64 a, .int .i64 b, .int .i64 p, .int .i64 d] 87)
  have hx := ibx_new w ⟨k, i, cl, n, ⟨a, b, p, d⟩⟩
  have HB := Lib.hid hb; have HX := Lib.hid hx; have HG := Lib.hid (h.keep hb)
  have mixed : Try.prog.follows .mixedOrders = true := by kernel_rfl
  have HBB := Lib.hid hB
  simp only at HX
  by_cases hi : i < m.osds.length
  · rw [setO_some hi]
    simp only [if_pos hi, decide_eq_true hi] at HOs
    obtain ⟨y, hy⟩ : ∃ y, m.osds[i] = y := ⟨_, rfl⟩
    have HRow := Lib.hid (fun u (hu : SheetG u B S g cap m) => hu.osd i hi)
    have HI := Lib.hid (show ∃ h : i < m.osds.length, m.osds[i] = y from ⟨hi, hy⟩)
    rw [hy] at HRow ⊢
    obtain ⟨R, hR⟩ : ∃ R, (match weighO n m.epoch y with
      | none => (m, false)
      | some o' => (putOsd m i o', true)) = R := ⟨_, rfl⟩
    have HRes := Lib.hid hR
    rw [hR]
    clear hR
    clear hb hx h hB hy hi
    go_enter Try.func129, Try.ntmps129
    go_upto_region 2 with (go_at_call 137; refine (HOs.out _ HB.out).mono ?_; rintro e w5 ⟨rfl, hb⟩; have HB5 := Lib.hid (HB.out.trans (hb.mono HB.out.size)); have HG5 := Lib.hid (HG.out.keep hb); have HX5 := Lib.hid (HX.out.keep hb); clear hb)
    obtain ⟨hr, hf⟩ := HRow.out w5 HG5.out
    obtain ⟨d0, d1, d2, d3⟩ := ocells4 hr
    obtain ⟨c0, c1, c2, c3, c4, c5, c6, c7⟩ := HX5.out.cells
    obtain ⟨-, -, vh, vp, vb, hmb, -⟩ := id HG5.out
    obtain ⟨e0, -, -, -, -⟩ := hmb.cells
    simp only at c0 c1 c2 c3 c4 c5 c6 c7
    have HBw := Lib.hid (Far.of HB5.out HBB.out)
    have f0 := hf (i * 4); have f1 := hf (i * 4 + 1); have f2 := hf (i * 4 + 2); have f3 := hf (i * 4 + 3)
    have HRg := Lib.hid HG5.out.rowOf
    clear hr HOs HG HX HB HB5 hf hmb
    obtain ⟨bt, up, wt, th⟩ := y
    simp only at d0 d1 d2 d3
    by_cases hc : n = wt
    · subst hc
      have HE : Hid (weighO n m.epoch ⟨bt, up, n, th⟩ = none) := Lib.hid (by unfold weighO; simp)
      go_quiet (fail)
      go_wp2
      go_ret
      rw [← HRes.out, HE.out]
      exact ⟨rfl, HG5.out.keep ((Below.refl _ _).drewN' _), HBw.out.drewN' _⟩
    ·
      have HE : Hid (weighO n m.epoch ⟨bt, up, wt, th⟩ = some ⟨bt, up, n, th⟩) := Lib.hid (by unfold weighO; rw [if_neg hc])
      go_quiet (fail)
      have HG6 := Lib.hid (SheetG.put1 (HG5.out.keep ((Below.refl _ _).drewN' nq)) HI.out 2 (by omega) (.int .i64 n) ⟨bt, up, n, th⟩ rfl)
      have HB6 := Lib.hid ((HBw.out.drewN' nq).setCell (p := ⟨g, i * 4 + 2, none⟩) HRg.out (.int .i64 n))
      go_wp2
      go_ret
      rw [← HRes.out, HE.out]
      exact ⟨rfl, HG6.out, HB6.out⟩
  · rw [setO_none hi]
    simp only [if_neg hi, decide_eq_false hi] at HOs
    clear hb hx h hB hi
    go_enter Try.func129, Try.ntmps129
    go_upto_region 2 with (go_at_call 137; refine (HOs.out _ HB.out).mono ?_; rintro e w5 ⟨rfl, hb⟩; have HB5 := Lib.hid (HB.out.trans (hb.mono HB.out.size)); have HG5 := Lib.hid (HG.out.keep hb); clear hb)
    go_region
    go_wp2
    go_ret
    exact ⟨rfl, (HG5.out.keep (below_drew (Below.refl _ _))), (Far.of HB5.out HBB.out).drew⟩

set_option maxHeartbeats 16000000 in
set_option maxRecDepth 100000 in
theorem thru_any (c : IncV) (i : Nat) (hc : c.osd = i) (B : Nat → Prop) (S g cap : Nat) (m : MapV) (w : World) (h : SheetG w B S g cap m) (hB : In B w) :
    Calls Try.prog 130 #[.pointer (some ⟨S, 0, none⟩), c.val] w (StO B S g cap (setO thruO c.num i m) w) := by
  have HOs := Lib.hid (fun u (hu : Below w.heap.size w u) => osd_any c i hc B S g cap m u (h.keep hu))
  obtain ⟨k, o, cl, n, a, b, p, d⟩ := c
  simp only at hc
  subst hc
  unfold IncV.val at HOs ⊢
  simp only at HOs ⊢
  have hb := below_new w (.cells #[.int .i64 k, .int .i64 i, .int .i64 cl, .int .i64 n, .int .i64 a, .int .i64 b, .int .i64 p, .int .i64 d] 87)
  have hx := ibx_new w ⟨k, i, cl, n, ⟨a, b, p, d⟩⟩
  have HB := Lib.hid hb; have HX := Lib.hid hx; have HG := Lib.hid (h.keep hb)
  have mixed : Try.prog.follows .mixedOrders = true := by kernel_rfl
  have HBB := Lib.hid hB
  simp only at HX
  by_cases hi : i < m.osds.length
  · rw [setO_some hi]
    simp only [if_pos hi, decide_eq_true hi] at HOs
    obtain ⟨y, hy⟩ : ∃ y, m.osds[i] = y := ⟨_, rfl⟩
    have HRow := Lib.hid (fun u (hu : SheetG u B S g cap m) => hu.osd i hi)
    have HI := Lib.hid (show ∃ h : i < m.osds.length, m.osds[i] = y from ⟨hi, hy⟩)
    rw [hy] at HRow ⊢
    obtain ⟨R, hR⟩ : ∃ R, (match thruO n m.epoch y with
      | none => (m, false)
      | some o' => (putOsd m i o', true)) = R := ⟨_, rfl⟩
    have HRes := Lib.hid hR
    rw [hR]
    clear hR
    clear hb hx h hB hy hi
    go_enter Try.func130, Try.ntmps130
    go_upto_region 2 with (go_at_call 137; refine (HOs.out _ HB.out).mono ?_; rintro e w5 ⟨rfl, hb⟩; have HB5 := Lib.hid (HB.out.trans (hb.mono HB.out.size)); have HG5 := Lib.hid (HG.out.keep hb); have HX5 := Lib.hid (HX.out.keep hb); clear hb)
    obtain ⟨hr, hf⟩ := HRow.out w5 HG5.out
    obtain ⟨d0, d1, d2, d3⟩ := ocells4 hr
    obtain ⟨c0, c1, c2, c3, c4, c5, c6, c7⟩ := HX5.out.cells
    obtain ⟨-, -, vh, vp, vb, hmb, -⟩ := id HG5.out
    obtain ⟨e0, -, -, -, -⟩ := hmb.cells
    simp only at c0 c1 c2 c3 c4 c5 c6 c7
    have HBw := Lib.hid (Far.of HB5.out HBB.out)
    have f0 := hf (i * 4); have f1 := hf (i * 4 + 1); have f2 := hf (i * 4 + 2); have f3 := hf (i * 4 + 3)
    have HRg := Lib.hid HG5.out.rowOf
    clear hr HOs HG HX HB HB5 hf hmb
    obtain ⟨bt, up, wt, th⟩ := y
    simp only at d0 d1 d2 d3
    cases up with
    | false =>
      have HE : Hid (thruO n m.epoch ⟨bt, false, wt, th⟩ = none) := Lib.hid (by unfold thruO; simp)
      go_region
      go_wp2
      go_ret
      rw [← HRes.out, HE.out]
      exact ⟨rfl, HG5.out.keep (below_drew (Below.refl _ _)), HBw.out.drew⟩
    | true =>
      by_cases hc : n ≤ th
      ·
        have HE : Hid (thruO n m.epoch ⟨bt, true, wt, th⟩ = none) := Lib.hid (by unfold thruO; simp [hc])
        go_region
        go_wp2
        go_ret
        rw [← HRes.out, HE.out]
        exact ⟨rfl, HG5.out.keep (below_drew (Below.refl _ _)), HBw.out.drew⟩
      · by_cases hd : m.epoch < n
        ·
          have HE : Hid (thruO n m.epoch ⟨bt, true, wt, th⟩ = none) := Lib.hid (by unfold thruO; simp [hd])
          go_quiet (fail)
          go_wp2
          go_ret
          rw [← HRes.out, HE.out]
          exact ⟨rfl, HG5.out.keep ((Below.refl _ _).drewN' _), HBw.out.drewN' _⟩
        ·
          have HE : Hid (thruO n m.epoch ⟨bt, true, wt, th⟩ = some ⟨bt, true, wt, n⟩) := Lib.hid (by unfold thruO; simp [hc, hd])
          go_quiet (fail)
          have HG6 := Lib.hid (SheetG.put1 (HG5.out.keep ((Below.refl _ _).drewN' nq)) HI.out 3 (by omega) (.int .i64 n) ⟨bt, true, wt, n⟩ rfl)
          have HB6 := Lib.hid ((HBw.out.drewN' nq).setCell (p := ⟨g, i * 4 + 3, none⟩) HRg.out (.int .i64 n))
          go_wp2
          go_ret
          rw [← HRes.out, HE.out]
          exact ⟨rfl, HG6.out, HB6.out⟩
  · rw [setO_none hi]
    simp only [if_neg hi, decide_eq_false hi] at HOs
    clear hb hx h hB hi
    go_enter Try.func130, Try.ntmps130
    go_upto_region 2 with (go_at_call 137; refine (HOs.out _ HB.out).mono ?_; rintro e w5 ⟨rfl, hb⟩; have HB5 := Lib.hid (HB.out.trans (hb.mono HB.out.size)); have HG5 := Lib.hid (HG.out.keep hb); clear hb)
    go_region
    go_wp2
    go_ret
    exact ⟨rfl, (HG5.out.keep (below_drew (Below.refl _ _))), (Far.of HB5.out HBB.out).drew⟩
end Go.Proofs.Ytcofmfjhgbihkaa.crush
