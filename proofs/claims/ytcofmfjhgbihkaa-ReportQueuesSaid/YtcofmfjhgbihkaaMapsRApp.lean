/- The document's Apply. -/
import Derived.Test.YtcofmfjhgbihkaaRows
import Derived.Test.YtcofmfjhgbihkaaMapsRChg
import Derived.Test.YtcofmfjhgbihkaaMapsRCopy
import Derived.Test.YtcofmfjhgbihkaaMapsRFit
namespace Go.Proofs.Ytcofmfjhgbihkaa.crush
open Go.RowKit
open Go.Proofs.Ytcofmfjhgbihkaa.kit Go.Proofs.Ytcofmfjhgbihkaa.own
set_option linter.unusedVariables false
set_option linter.unusedSimpArgs false

theorem setO_cases {f : Int → Int → OsdV → Option OsdV} {n : Int} {i : Nat} {m : MapV} : ((setO f n i m).2 = false ∧ (setO f n i m).1 = m) ∨ ((setO f n i m).2 = true ∧ ∃ h : i < m.osds.length, ∃ o', f n m.epoch m.osds[i] = some o' ∧ (setO f n i m).1 = putOsd m i o') := by
  unfold setO
  cases h : m.osds[i]? with
  | none => exact Or.inl ⟨rfl, rfl⟩
  | some o =>
    obtain ⟨hi, e⟩ := List.getElem?_eq_some_iff.1 h
    simp only
    cases hf : f n m.epoch o with
    | none => exact Or.inl ⟨rfl, rfl⟩
    | some o' => exact Or.inr ⟨rfl, hi, o', by rw [e]; exact hf, rfl⟩
theorem chE_no {c : IncV} {m : MapV} (h : (chE c m).2 = false) : (chE c m).1 = m := by
  have hs : ∀ {f : Int → Int → OsdV → Option OsdV} {n : Int} {i : Nat}, (setO f n i m).2 = false → (setO f n i m).1 = m := fun {f n i} h => by
    rcases setO_cases (f := f) (n := n) (i := i) (m := m) with e | e
    · exact e.2
    · rw [e.1] at h; cases h
  unfold chE at h ⊢
  by_cases h0 : okInc c = false
  · rw [if_pos h0]
  · rw [if_neg h0] at h ⊢
    by_cases k1 : c.kind = 1
    · rw [if_pos k1] at h ⊢; exact hs h
    · rw [if_neg k1] at h ⊢
      by_cases k2 : c.kind = 2
      · rw [if_pos k2] at h ⊢; exact hs h
      · rw [if_neg k2] at h ⊢
        by_cases k3 : c.kind = 3
        · rw [if_pos k3] at h ⊢; exact hs h
        · rw [if_neg k3] at h ⊢
          by_cases k4 : c.kind = 4
          · rw [if_pos k4] at h ⊢; exact hs h
          · rw [if_neg k4] at h ⊢
            by_cases k5 : c.kind = 5
            · rw [if_pos k5] at h ⊢
              unfold poolE at h ⊢
              split at h
              · next e => rw [if_pos e]
              · cases h
            · rw [if_neg k5] at h ⊢
              unfold banE at h ⊢
              split at h
              · next e => rw [if_pos e]
              · cases h
/-- What a change that changes something comes to. -/
theorem chE_yes {c : IncV} {m : MapV} (hb : okBans m.bans = true) (h : (chE c m).2 = true) :
    (∃ i : Nat, c.osd = i ∧ ∃ hi : i < m.osds.length, ∃ o', (chE c m).1 = putOsd m i o' ∧ ((c.kind = 1 ∧ o' = ⟨c.num, true, m.osds[i].wt, m.osds[i].thru⟩) ∨ (c.kind = 2 ∧ o' = ⟨m.osds[i].boot, false, m.osds[i].wt, m.osds[i].thru⟩) ∨ (c.kind = 3 ∧ o' = ⟨m.osds[i].boot, m.osds[i].up, c.num, m.osds[i].thru⟩) ∨ (c.kind = 4 ∧ o' = ⟨m.osds[i].boot, m.osds[i].up, m.osds[i].wt, c.num⟩))) ∨
    (c.kind = 5 ∧ m.pools.length < 2 ∧ (chE c m).1 = ⟨m.epoch, m.hosts, m.osds, m.pools ++ [c.pool], m.bans⟩) ∨
    (c.kind = 6 ∧ m.bans.length < 64 ∧ hasBan m.bans (banV c) = false ∧ (chE c m).1 = ⟨m.epoch, m.hosts, m.osds, m.pools, m.bans.take (posB m.bans (banV c)) ++ banV c :: m.bans.drop (posB m.bans (banV c))⟩) := by
  have hs : ∀ {f : Int → Int → OsdV → Option OsdV} {n : Int} {i : Nat}, (setO f n i m).2 = true → ∃ h : i < m.osds.length, ∃ o', f n m.epoch m.osds[i] = some o' ∧ (setO f n i m).1 = putOsd m i o' := fun {f n i} h => by
    rcases setO_cases (f := f) (n := n) (i := i) (m := m) with e | e
    · rw [e.1] at h; cases h
    · exact e.2
  have hok : okInc c = true := by
    cases ho : okInc c with
    | true => rfl
    | false => unfold chE at h; rw [if_pos ho] at h; cases h
  unfold chE at h ⊢
  rw [if_neg (by rw [hok]; decide)] at h ⊢
  by_cases k1 : c.kind = 1
  · rw [if_pos k1] at h ⊢
    obtain ⟨hi, o', e1, e2⟩ := hs h
    refine Or.inl ⟨_, osd_nat hok (by omega), hi, o', e2, Or.inl ⟨k1, ?_⟩⟩
    unfold bootO at e1
    split at e1
    · cases e1
    · cases e1; rfl
  · rw [if_neg k1] at h ⊢
    by_cases k2 : c.kind = 2
    · rw [if_pos k2] at h ⊢
      obtain ⟨hi, o', e1, e2⟩ := hs h
      refine Or.inl ⟨_, osd_nat hok (by omega), hi, o', e2, Or.inr (Or.inl ⟨k2, ?_⟩)⟩
      unfold downO at e1
      split at e1
      · cases e1
      · cases e1; rfl
    · rw [if_neg k2] at h ⊢
      by_cases k3 : c.kind = 3
      · rw [if_pos k3] at h ⊢
        obtain ⟨hi, o', e1, e2⟩ := hs h
        refine Or.inl ⟨_, osd_nat hok (by omega), hi, o', e2, Or.inr (Or.inr (Or.inl ⟨k3, ?_⟩))⟩
        unfold weighO at e1
        split at e1
        · cases e1
        · cases e1; rfl
      · rw [if_neg k3] at h ⊢
        by_cases k4 : c.kind = 4
        · rw [if_pos k4] at h ⊢
          obtain ⟨hi, o', e1, e2⟩ := hs h
          refine Or.inl ⟨_, osd_nat hok (by omega), hi, o', e2, Or.inr (Or.inr (Or.inr ⟨k4, ?_⟩))⟩
          unfold thruO at e1
          split at e1
          · cases e1
          · cases e1; rfl
        · rw [if_neg k4] at h ⊢
          by_cases k5 : c.kind = 5
          · rw [if_pos k5] at h ⊢
            refine Or.inr (Or.inl ⟨k5, ?_⟩)
            unfold poolE at h ⊢
            split at h
            · cases h
            · next e => rw [if_neg e]; exact ⟨by omega, rfl⟩
          · rw [if_neg k5] at h ⊢
            refine Or.inr (Or.inr ⟨kind_six hok k1 k2 k3 k4 k5, ?_⟩)
            rw [has_at hb]
            unfold banE at h ⊢
            split at h
            · cases h
            · next e =>
              rw [if_neg e]
              simp only [Bool.or_eq_true, decide_eq_true_eq, not_or, Bool.not_eq_true] at e
              exact ⟨by omega, e.1, rfl⟩

/-- The boxes: the map, the change, the result, the copy with rows of the call's own. -/
structure ApB (w : World) (K : Nat) (ep : Int) (s1 s2 s3 s4 : Value) (c : IncV) (m : MapV) (vh vo vp vb : Value) (W : World) : Prop where
  bel : Below w.heap.size w W
  one : MBox W w.heap.size 83 ep s1 s2 s3 s4
  inc : IBx W (w.heap.size + 1) c
  res : MBox W (w.heap.size + 1 + 1) 83 0 (.slice none 0 0) (.slice none 0 0) (.slice none 0 0) (.slice none 0 0)
  hK : w.heap.size + 1 + 1 < K
  cp : MBox W K 83 m.epoch vh vo vp vb
  rows : MapO W (w.heap.size + 1 + 1 + 1) vh vo vp vb m
section
variable {w : World} {K : Nat} {ep : Int} {s1 s2 s3 s4 : Value} {c : IncV} {m : MapV} {vh vo vp vb : Value} {W W' : World}
theorem ApB.keep (h : ApB w K ep s1 s2 s3 s4 c m vh vo vp vb W) (hb : Below W.heap.size W W') : ApB w K ep s1 s2 s3 s4 c m vh vo vp vb W' :=
  ⟨h.bel.trans (hb.mono h.bel.size), h.one.keep hb, h.inc.keep hb, h.res.keep hb, h.hK, h.cp.keep hb, h.rows.below hb⟩
theorem ApB.boxK (h : ApB w K ep s1 s2 s3 s4 c m vh vo vp vb W) : W.heap[K]? = some (.cells #[.int .i64 m.epoch, vh, vo, vp, vb] 83 (0, 0)) := h.cp
theorem ApB.cell (h : ApB w K ep s1 s2 s3 s4 c m vh vo vp vb W) (m' : MapV) (vh' vo' vp' vb' : Value) (j : Nat) (x : Value) (hc : MBox (W.setCell ⟨K, j, none⟩ x) K 83 m'.epoch vh' vo' vp' vb') (hr : MapO (W.setCell ⟨K, j, none⟩ x) (w.heap.size + 1 + 1 + 1) vh' vo' vp' vb' m') :
    ApB w K ep s1 s2 s3 s4 c m' vh' vo' vp' vb' (W.setCell ⟨K, j, none⟩ x) := by
  have hK := h.hK
  exact ⟨h.bel.setCell (p := ⟨K, j, none⟩) (by show w.heap.size ≤ K; omega) _, (heap_setCell_other _ _ _ _ (by show w.heap.size ≠ K; omega)).trans h.one, (heap_setCell_other _ _ _ _ (by show w.heap.size + 1 ≠ K; omega)).trans h.inc, (heap_setCell_other _ _ _ _ (by show w.heap.size + 1 + 1 ≠ K; omega)).trans h.res, hK, hc, hr⟩
theorem ApB.far (h : ApB w K ep s1 s2 s3 s4 c m vh vo vp vb W) (j : Nat) (x : Value) : MapO (W.setCell ⟨K, j, none⟩ x) (w.heap.size + 1 + 1 + 1) vh vo vp vb m :=
  ⟨h.rows.1.far h.boxK (by decide) _ _, h.rows.2.1.far h.boxK (by decide) _ _, h.rows.2.2.1.far h.boxK (by decide) _ _, h.rows.2.2.2.far h.boxK (by decide) _ _⟩
theorem ApB.tick (h : ApB w K ep s1 s2 s3 s4 c m vh vo vp vb W) : ApB w K ep s1 s2 s3 s4 c m.tick vh vo vp vb (W.setCell ⟨K, 0, none⟩ (.int .i64 (m.epoch + 1))) :=
  h.cell m.tick vh vo vp vb 0 _ (h.cp.at0 _) (h.far 0 _)
theorem ApB.pools (h : ApB w K ep s1 s2 s3 s4 c m vh vo vp vb W) {v' : Value} {ps : List PoolV} (ho : Own pc 4 85 W (w.heap.size + 1 + 1 + 1) v' ps) : ApB w K ep s1 s2 s3 s4 c ⟨m.epoch, m.hosts, m.osds, ps, m.bans⟩ vh vo v' vb (W.setCell ⟨K, 3, none⟩ v') :=
  h.cell ⟨m.epoch, m.hosts, m.osds, ps, m.bans⟩ vh vo v' vb 3 _ (h.cp.at3 _) ⟨(h.far 3 v').1, (h.far 3 v').2.1, ho.far h.boxK (by decide) _ _, (h.far 3 v').2.2.2⟩
theorem ApB.bans (h : ApB w K ep s1 s2 s3 s4 c m vh vo vp vb W) {v' : Value} {bs : List BanV} (ho : Own bc 2 136 W (w.heap.size + 1 + 1 + 1) v' bs) : ApB w K ep s1 s2 s3 s4 c ⟨m.epoch, m.hosts, m.osds, m.pools, bs⟩ vh vo vp v' (W.setCell ⟨K, 4, none⟩ v') :=
  h.cell ⟨m.epoch, m.hosts, m.osds, m.pools, bs⟩ vh vo vp v' 4 _ (h.cp.at4 _) ⟨(h.far 4 v').1, (h.far 4 v').2.1, (h.far 4 v').2.2.1, ho.far h.boxK (by decide) _ _⟩
/-- Where the storage nodes lie. -/
theorem ApB.osds (h : ApB w K ep s1 s2 s3 s4 c m vh vo vp vb W) (hn : m.osds ≠ []) : ∃ g cap, vo = .slice (some ⟨g, 0, none⟩) m.osds.length cap ∧ w.heap.size + 1 + 1 + 1 ≤ g ∧ OwnAt oc 4 132 W g cap m.osds := by
  rcases h.rows.2.1.at with ⟨_, e⟩ | ⟨g, cap, e, hg, hat⟩
  · exact absurd e hn
  · exact ⟨g, cap, e, hg, hat⟩
theorem ApB.put {g cap : Nat} (h : ApB w K ep s1 s2 s3 s4 c m vh (.slice (some ⟨g, 0, none⟩) m.osds.length cap) vp vb W) (hg : w.heap.size + 1 + 1 + 1 ≤ g) (hat : OwnAt oc 4 132 W g cap m.osds) (i : Nat) (hi : i < m.osds.length) (j : Nat) (hj : j < 4) (u : Value) (x' : OsdV) (hx : oc x' = (oc m.osds[i]).set j u) :
    ApB w K ep s1 s2 s3 s4 c (putOsd m i x') vh (.slice (some ⟨g, 0, none⟩) (putOsd m i x').osds.length cap) vp vb (W.setCell ⟨g, i * 4 + j, none⟩ u) ∧ OwnAt oc 4 132 (W.setCell ⟨g, i * 4 + j, none⟩ u) g cap (putOsd m i x').osds := by
  obtain ⟨cur, hc, -⟩ := hat.ex
  have hne : K ≠ g := fun e => by have := h.boxK; rw [e, hc] at this; cases this
  have hat2 := hat.setField oc_len i hi j hj u x' hx
  have hb := h.bel
  refine ⟨⟨hb.setCell (p := ⟨g, i * 4 + j, none⟩) (by show w.heap.size ≤ g; omega) _, (heap_setCell_other _ _ _ _ (by show w.heap.size ≠ g; omega)).trans h.one, (heap_setCell_other _ _ _ _ (by show w.heap.size + 1 ≠ g; omega)).trans h.inc, (heap_setCell_other _ _ _ _ (by show w.heap.size + 1 + 1 ≠ g; omega)).trans h.res, h.hK, ?_, ⟨h.rows.1.far hc (by decide) _ _, hat2.own oc_len hg, h.rows.2.2.1.far hc (by decide) _ _, h.rows.2.2.2.far hc (by decide) _ _⟩⟩, hat2⟩
  show MBox _ _ _ m.epoch _ (.slice _ (m.osds.set i x').length _) _ _
  rw [List.length_set]
  exact (heap_setCell_other _ _ _ _ (by show K ≠ g; exact hne)).trans h.cp
end
theorem ApB.putY {w : World} {K : Nat} {ep : Int} {s1 s2 s3 s4 : Value} {c : IncV} {m : MapV} {vh vp vb : Value} {W : World} {g cap : Nat} (h : ApB w K ep s1 s2 s3 s4 c m vh (.slice (some ⟨g, 0, none⟩) m.osds.length cap) vp vb W) (hg : w.heap.size + 1 + 1 + 1 ≤ g) (hat : OwnAt oc 4 132 W g cap m.osds) {i : Nat} {y : OsdV} (hi : ∃ h : i < m.osds.length, m.osds[i] = y) (j : Nat) (hj : j < 4) (u : Value) (x' : OsdV) (hx : oc x' = (oc y).set j u) :
    ApB w K ep s1 s2 s3 s4 c (putOsd m i x') vh (.slice (some ⟨g, 0, none⟩) (putOsd m i x').osds.length cap) vp vb (W.setCell ⟨g, i * 4 + j, none⟩ u) ∧ OwnAt oc 4 132 (W.setCell ⟨g, i * 4 + j, none⟩ u) g cap (putOsd m i x').osds := by
  obtain ⟨h1, h2⟩ := hi
  exact h.put hg hat i h1 j hj u x' (by rw [h2]; exact hx)
theorem rowY {W : World} {g cap : Nat} {xs : List OsdV} (hat : OwnAt oc 4 132 W g cap xs) {i : Nat} {y : OsdV} (hi : ∃ h : i < xs.length, xs[i] = y) : W.rangeAt g (i * 4) (oc y) := by
  obtain ⟨h1, h2⟩ := hi
  have := hat.row oc_len i h1
  rwa [h2] at this
theorem putOsd_get {m : MapV} {i : Nat} {x : OsdV} (hi : i < m.osds.length) : ∃ h : i < (putOsd m i x).osds.length, (putOsd m i x).osds[i] = x := by
  unfold putOsd
  exact ⟨by simpa using hi, by simp⟩
theorem putOsd_len {m : MapV} {i : Nat} {x : OsdV} : (putOsd m i x).osds.length = m.osds.length := by unfold putOsd; simp
theorem Own.keptM {α : Type} {enc : α → List Value} {k e e' B C : Nat} {W W' : World} {v : Value} {xs : List α} (h : Own enc k e W B v xs) (hk : Kept C e' W W') (hne : e ≠ e') : Own enc k e W' B v xs := by
  rcases h.2 with ⟨rfl, h0⟩ | ⟨g, cap, cur, rfl, hB, hg, hr⟩
  · exact ⟨h.1, .inl ⟨rfl, h0⟩⟩
  · have hl : g < W.heap.size := (Array.getElem?_eq_some_iff.1 hg).1
    have := hk.other g hl (fun c fz hc => by rw [hg] at hc; simp at hc; exact hne hc.2.1)
    exact ⟨h.1, .inr ⟨g, cap, cur, rfl, hB, this.trans hg, hr⟩⟩
theorem ApB.newP {w : World} {K : Nat} {ep : Int} {s1 s2 s3 s4 : Value} {c : IncV} {m : MapV} {vh vo vp vb : Value} {W W' : World} (h : ApB w K ep s1 s2 s3 s4 c m vh vo vp vb W) (hk : Kept (w.heap.size + 1 + 1 + 1) 85 W W') {v' : Value} {ps : List PoolV} (ho : Own pc 4 85 W' (w.heap.size + 1 + 1 + 1) v' ps) :
    ApB w K ep s1 s2 s3 s4 c ⟨m.epoch, m.hosts, m.osds, ps, m.bans⟩ vh vo v' vb (W'.setCell ⟨K, 3, none⟩ v') := by
  have hb := hk.toBelow
  have hK := h.hK
  have hcp := hk.box (by decide) h.boxK
  have hl1 := h.one.lt; have hl2 := (Array.getElem?_eq_some_iff.1 h.inc).1; have hl3 := h.res.lt
  refine ⟨(h.bel.trans (hb.mono (by omega))).setCell (p := ⟨K, 3, none⟩) (by show w.heap.size ≤ K; omega) _, ?_, ?_, ?_, hK, MBox.at3 (show MBox W' K 83 m.epoch vh vo vp vb from hcp) v', ?_⟩
  · exact (heap_setCell_other _ _ _ _ (by show w.heap.size ≠ K; omega)).trans ((hb.block _ (by omega)).trans h.one)
  · exact (heap_setCell_other _ _ _ _ (by show w.heap.size + 1 ≠ K; omega)).trans ((hb.block _ (by omega)).trans h.inc)
  · exact (heap_setCell_other _ _ _ _ (by show w.heap.size + 1 + 1 ≠ K; omega)).trans ((hb.block _ (by omega)).trans h.res)
  · exact ⟨(h.rows.1.keptM hk (by decide)).far hcp (by decide) _ _, (h.rows.2.1.keptM hk (by decide)).far hcp (by decide) _ _, ho.far hcp (by decide) _ _, (h.rows.2.2.2.keptM hk (by decide)).far hcp (by decide) _ _⟩
theorem putOsd_twice (m : MapV) (i : Nat) (x y : OsdV) : putOsd (putOsd m i x) i y = putOsd m i y := by unfold putOsd; simp only [List.set_set]
/-- The bans, one put in among the first k. -/
def insB (xs : List BanV) (y : BanV) (p k : Nat) : List BanV := if k ≤ p then xs.take k else xs.take p ++ y :: (xs.take k).drop p
theorem insB_end (xs : List BanV) (y : BanV) {p : Nat} (hp : p < xs.length) : insB xs y p xs.length = xs.take p ++ y :: xs.drop p := by
  unfold insB
  rw [if_neg (by omega), List.take_length]
theorem insB_all (xs : List BanV) (y : BanV) : insB xs y xs.length xs.length ++ [y] = xs.take xs.length ++ y :: xs.drop xs.length := by
  unfold insB
  rw [if_pos (Nat.le_refl _), List.drop_length]
theorem insB_low (xs : List BanV) (y : BanV) {p k : Nat} (hk : k < xs.length) (hp : k < p) : insB xs y p (k + 1) = insB xs y p k ++ [xs[k]] := by
  unfold insB
  rw [if_pos (by omega), if_pos (by omega), List.take_add_one, List.getElem?_eq_getElem hk]
  rfl
theorem insB_at (xs : List BanV) (y : BanV) {k : Nat} (hk : k < xs.length) : insB xs y k (k + 1) = (insB xs y k k ++ [y]) ++ [xs[k]] := by
  unfold insB
  rw [if_neg (by omega), if_pos (Nat.le_refl _), List.take_add_one, List.getElem?_eq_getElem hk, List.drop_append_of_le_length (by simp; omega)]
  simp
theorem insB_high (xs : List BanV) (y : BanV) {p k : Nat} (hk : k < xs.length) (hp : p < k) : insB xs y p (k + 1) = insB xs y p k ++ [xs[k]] := by
  unfold insB
  rw [if_neg (by omega), if_neg (by omega), List.take_add_one, List.getElem?_eq_getElem hk, List.drop_append_of_le_length (by simp; omega)]
  simp
theorem insB_len (xs : List BanV) (y : BanV) (p k : Nat) : (insB xs y p k).length ≤ xs.length + 1 := by
  unfold insB
  split
  · simp; omega
  · simp; omega

set_option maxHeartbeats 16000000 in
set_option maxRecDepth 100000 in
theorem rApply_any (v : Value) (c : IncV) (m : MapV) (w : World) (h : MapR w v m) (hs : m.Small) (hI : I64 m.epoch) (hb : okBans m.bans = true) :
    Calls Try.prog 54 #[v, c.val] w (AppS w (appE c m)) := by
  have HCg := Lib.hid (fun u (hu : Below w.heap.size w u) => rChanges_any v c m u (h.keep hu) hb)
  have HCp := Lib.hid (fun u (hu : Below w.heap.size w u) => rCopyM_any v m u (h.keep hu) hs)
  have HNo := Lib.hid (fun (e : (chE c m).2 = false) => chE_no e)
  have HYes := Lib.hid (fun (e : (chE c m).2 = true) => chE_yes hb e)
  have HBp := Lib.hid (bans_pos hb (banV c))
  have HBl := Lib.hid (((okBans_iff _).1 hb).2.2)
  have HHas := Lib.hid (has_at hb (banV c))
  obtain ⟨vh, vo, vp, vb, rfl, h1, h2, h3, h4⟩ := h
  obtain ⟨ah, ch, rfl⟩ := h1.slice
  obtain ⟨ao, co, rfl⟩ := h2.slice
  obtain ⟨ap, cp, rfl⟩ := h3.slice
  obtain ⟨ab, cb, rfl⟩ := h4.slice
  have HRes : Hid (appE c m = if m.epoch < 4096 then (chE c m).1.tick else m) := Lib.hid rfl
  generalize appE c m = mr at HRes ⊢
  generalize m.hosts.length = Lh at HCg HCp ⊢
  generalize m.osds.length = Lo at HCg HCp ⊢
  generalize m.pools.length = Lp at HCg HCp ⊢
  generalize m.bans.length = Lb at HCg HCp ⊢
  obtain ⟨k, o, cl, n, ⟨a, b, p, d⟩⟩ := c
  unfold IncV.val at HCg ⊢
  simp only at HCg ⊢
  clear h1 h2 h3 h4
  have HX : Hid (Below w.heap.size w (((w.alloc (.cells #[.int .i64 m.epoch, .slice ah Lh ch, .slice ao Lo co, .slice ap Lp cp, .slice ab Lb cb] 83)).alloc (.cells #[.int .i64 k, .int .i64 o, .int .i64 cl, .int .i64 n, .int .i64 a, .int .i64 b, .int .i64 p, .int .i64 d] 87)).alloc (.cells #[.int .i64 0, .slice none 0 0, .slice none 0 0, .slice none 0 0, .slice none 0 0] 83)) ∧ MBox (((w.alloc (.cells #[.int .i64 m.epoch, .slice ah Lh ch, .slice ao Lo co, .slice ap Lp cp, .slice ab Lb cb] 83)).alloc (.cells #[.int .i64 k, .int .i64 o, .int .i64 cl, .int .i64 n, .int .i64 a, .int .i64 b, .int .i64 p, .int .i64 d] 87)).alloc (.cells #[.int .i64 0, .slice none 0 0, .slice none 0 0, .slice none 0 0, .slice none 0 0] 83)) w.heap.size 83 m.epoch (.slice ah Lh ch) (.slice ao Lo co) (.slice ap Lp cp) (.slice ab Lb cb) ∧ IBx (((w.alloc (.cells #[.int .i64 m.epoch, .slice ah Lh ch, .slice ao Lo co, .slice ap Lp cp, .slice ab Lb cb] 83)).alloc (.cells #[.int .i64 k, .int .i64 o, .int .i64 cl, .int .i64 n, .int .i64 a, .int .i64 b, .int .i64 p, .int .i64 d] 87)).alloc (.cells #[.int .i64 0, .slice none 0 0, .slice none 0 0, .slice none 0 0, .slice none 0 0] 83)) (w.heap.size + 1) ⟨k, o, cl, n, ⟨a, b, p, d⟩⟩ ∧ MBox (((w.alloc (.cells #[.int .i64 m.epoch, .slice ah Lh ch, .slice ao Lo co, .slice ap Lp cp, .slice ab Lb cb] 83)).alloc (.cells #[.int .i64 k, .int .i64 o, .int .i64 cl, .int .i64 n, .int .i64 a, .int .i64 b, .int .i64 p, .int .i64 d] 87)).alloc (.cells #[.int .i64 0, .slice none 0 0, .slice none 0 0, .slice none 0 0, .slice none 0 0] 83)) (w.heap.size + 1 + 1) 83 0 (.slice none 0 0) (.slice none 0 0) (.slice none 0 0) (.slice none 0 0)) := by
    have b1 := below_new w (.cells #[.int .i64 m.epoch, .slice ah Lh ch, .slice ao Lo co, .slice ap Lp cp, .slice ab Lb cb] 83)
    have b2 := below_new (w.alloc (.cells #[.int .i64 m.epoch, .slice ah Lh ch, .slice ao Lo co, .slice ap Lp cp, .slice ab Lb cb] 83)) (.cells #[.int .i64 k, .int .i64 o, .int .i64 cl, .int .i64 n, .int .i64 a, .int .i64 b, .int .i64 p, .int .i64 d] 87)
    have b3 := below_new ((w.alloc (.cells #[.int .i64 m.epoch, .slice ah Lh ch, .slice ao Lo co, .slice ap Lp cp, .slice ab Lb cb] 83)).alloc (.cells #[.int .i64 k, .int .i64 o, .int .i64 cl, .int .i64 n, .int .i64 a, .int .i64 b, .int .i64 p, .int .i64 d] 87)) (.cells #[.int .i64 0, .slice none 0 0, .slice none 0 0, .slice none 0 0, .slice none 0 0] 83)
    have x1 := mbox_new w 83 m.epoch (.slice ah Lh ch) (.slice ao Lo co) (.slice ap Lp cp) (.slice ab Lb cb)
    have x2 := ibx_new (w.alloc (.cells #[.int .i64 m.epoch, .slice ah Lh ch, .slice ao Lo co, .slice ap Lp cp, .slice ab Lb cb] 83)) ⟨k, o, cl, n, ⟨a, b, p, d⟩⟩
    have x3 := mbox_new ((w.alloc (.cells #[.int .i64 m.epoch, .slice ah Lh ch, .slice ao Lo co, .slice ap Lp cp, .slice ab Lb cb] 83)).alloc (.cells #[.int .i64 k, .int .i64 o, .int .i64 cl, .int .i64 n, .int .i64 a, .int .i64 b, .int .i64 p, .int .i64 d] 87)) 83 0 (.slice none 0 0) (.slice none 0 0) (.slice none 0 0) (.slice none 0 0)
    rw [World.size_alloc] at x2
    rw [World.size_alloc, World.size_alloc] at x3
    have c12 := b1.trans (b2.mono b1.size)
    exact Lib.hid ⟨c12.trans (b3.mono c12.size), (x1.keep b2).keep b3, x2.keep b3, x3⟩
  go_enter Try.func54, Try.ntmps54
  go_upto_region 1 with fail
  generalize (((w.alloc (.cells #[.int .i64 m.epoch, .slice ah Lh ch, .slice ao Lo co, .slice ap Lp cp, .slice ab Lb cb] 83)).alloc (.cells #[.int .i64 k, .int .i64 o, .int .i64 cl, .int .i64 n, .int .i64 a, .int .i64 b, .int .i64 p, .int .i64 d] 87)).alloc (.cells #[.int .i64 0, .slice none 0 0, .slice none 0 0, .slice none 0 0, .slice none 0 0] 83)) = U at HX ⊢
  obtain ⟨l0, l1, l2, l3, l4⟩ := HX.out.2.1.cells
  go_upto_region 2 with (go_at_call 95; refine (HCp.out _ HX.out.1).mono ?_; rintro e w5 ⟨vh, vo, vp, vb, rfl, ho, hb⟩; obtain ⟨xh, yh, rfl⟩ := ho.1.slice; obtain ⟨xo, yo, rfl⟩ := ho.2.1.slice; obtain ⟨xp, yp, rfl⟩ := ho.2.2.1.slice; obtain ⟨xb, yb, rfl⟩ := ho.2.2.2.slice; have HO5 := Lib.hid (ho.mono (show w.heap.size + 1 + 1 + 1 ≤ _ from HX.out.2.2.2.lt)); have HX5 := Lib.hid (And.intro (HX.out.1.trans (hb.mono HX.out.1.size)) (And.intro (HX.out.2.1.keep hb) (And.intro (HX.out.2.2.1.keep hb) (HX.out.2.2.2.keep hb)))); clear ho hb l0 l1 l2 l3 l4)
  have hbn := below_new w5 (.cells #[.int .i64 m.epoch, .slice xh m.hosts.length yh, .slice xo m.osds.length yo, .slice xp m.pools.length yp, .slice xb m.bans.length yb] 83)
  have HA : Hid (ApB w w5.heap.size m.epoch (.slice ah Lh ch) (.slice ao Lo co) (.slice ap Lp cp) (.slice ab Lb cb) ⟨k, o, cl, n, ⟨a, b, p, d⟩⟩ m (.slice xh m.hosts.length yh) (.slice xo m.osds.length yo) (.slice xp m.pools.length yp) (.slice xb m.bans.length yb) (w5.alloc (.cells #[.int .i64 m.epoch, .slice xh m.hosts.length yh, .slice xo m.osds.length yo, .slice xp m.pools.length yp, .slice xb m.bans.length yb] 83))) := Lib.hid ⟨HX5.out.1.trans (hbn.mono HX5.out.1.size), HX5.out.2.1.keep hbn, HX5.out.2.2.1.keep hbn, HX5.out.2.2.2.keep hbn, HX5.out.2.2.2.lt, mbox_new _ _ _ _ _ _ _, HO5.out.below hbn⟩
  clear hbn HX HX5 HO5 HCp
  generalize w5.alloc _ = V at HA ⊢
  generalize w5.heap.size = K at HA ⊢
  obtain ⟨l0, l1, l2, l3, l4⟩ := HA.out.one.cells
  by_cases he : m.epoch < 4096
  · have HRes : Hid (mr = (chE ⟨k, o, cl, n, ⟨a, b, p, d⟩⟩ m).1.tick) := Lib.hid (by have := HRes.out; rwa [if_pos he] at this)
    unfold I64 at hI
    obtain ⟨ep, hep⟩ : ∃ ep, m.epoch = ep := ⟨_, rfl⟩
    have HEp := Lib.hid hep
    obtain ⟨z0, z1, z2, z3, z4⟩ := HA.out.cp.cells
    have t0 := HA.out.cp.thaw 0
    have HT := Lib.hid HA.out.tick
    rw [hep] at he hI l0 z0 HT
    have hI1 := hI.1
    clear hI hep
    go_upto_region 5 with fail
    clear l0 l1 l2 l3 l4 z0 z1 z2 z3 z4 t0 HA
    generalize V.setCell ⟨K, 0, none⟩ _ = U at HT ⊢
    obtain ⟨l0, l1, l2, l3, l4⟩ := HT.out.one.cells
    obtain ⟨c0, c1, c2, c3, c4, c5, c6, c7⟩ := HT.out.inc.cells
    simp only at c0 c1 c2 c3 c4 c5 c6 c7
    obtain ⟨q, hq⟩ : ∃ q, (chE ⟨k, o, cl, n, ⟨a, b, p, d⟩⟩ m).2 = q := ⟨_, rfl⟩
    rw [hq] at HCg
    rw [HEp.out] at HCg
    have HQ := Lib.hid hq
    clear hq
    cases q with
    | false =>
      have HRes : Hid (mr = m.tick) := Lib.hid (by rw [HRes.out, HNo.out HQ.out])
      go_upto_region 6 with (go_at_call 87; refine (HCg.out _ HT.out.bel).mono ?_; rintro e V2 ⟨rfl, hb⟩; have HA := Lib.hid (HT.out.keep hb); clear hb l0 l1 l2 l3 l4 c0 c1 c2 c3 c4 c5 c6 c7 HT)
      obtain ⟨xh, yh, hvh⟩ := HA.out.rows.1.slice
      obtain ⟨xo, yo, hvo⟩ := HA.out.rows.2.1.slice
      obtain ⟨xp, yp, hvp⟩ := HA.out.rows.2.2.1.slice
      obtain ⟨xb, yb, hvb⟩ := HA.out.rows.2.2.2.slice
      rw [hvh, hvo, hvp, hvb] at HA
      clear hvh hvo hvp hvb
      obtain ⟨z0, z1, z2, z3, z4⟩ := HA.out.cp.cells
      go_wp2_with (refine wpList_store_mid rfl 83 _ _ rfl (w.heap.size + 1 + 1) 0 #[.int .i64 (m.tick).epoch, .slice xh (m.tick).hosts.length yh, .slice xo (m.tick).osds.length yo, .slice xp (m.tick).pools.length yp, .slice xb (m.tick).bans.length yb] rfl rfl HA.out.res.there sizeMap (map_one _ _ _ _ _ _ _ _ _ _ _ _ _) ?_)
      refine bodyPost_ret (ret_cell rfl rfl (HA.out.res.put (m.tick).epoch (.slice xh (m.tick).hosts.length yh) (.slice xo (m.tick).osds.length yo) (.slice xp (m.tick).pools.length yp) (.slice xb (m.tick).bans.length yb)).range Try.underlying83 rfl sizeMap) rfl ?_
      rw [HRes.out]
      exact ⟨_, _, _, _, rfl, (HA.out.rows.far (N := w.heap.size + 1 + 1) (by omega) 0 _).mono (by omega), Below.setCells HA.out.bel (b := w.heap.size + 1 + 1) (by omega) 0 _⟩
    | true =>
      go_upto_region 8 with (go_at_call 87; refine (HCg.out _ HT.out.bel).mono ?_; rintro e V2 ⟨rfl, hb⟩; have HA := Lib.hid (HT.out.keep hb); clear hb l0 l1 l2 l3 l4 c0 c1 c2 c3 c4 c5 c6 c7 HT; obtain ⟨c0, c1, c2, c3, c4, c5, c6, c7⟩ := HA.out.inc.cells; simp only at c0 c1 c2 c3 c4 c5 c6 c7)
      rcases HYes.out HQ.out with ⟨i, ho, hi, o', he', hk⟩ | ⟨hk5, hlp, he'⟩ | ⟨hk6, hlb, hnb, he'⟩
      · have hdummy : True := trivial
        subst ho
        have hi0 : (0 : Int) ≤ i := by omega
        have hi' : (i : Int) < m.osds.length := by omega
        obtain ⟨g, cap, hvo, hg, hat⟩ := HA.out.osds (show m.osds ≠ [] from fun e => by rw [e] at hi; exact absurd hi (Nat.not_lt_zero _))
        obtain ⟨rfl, -, rfl⟩ := Value.slice.inj hvo
        have HAt := Lib.hid hat
        clear hvo hat
        have HA : Hid (ApB w K ep (.slice ah Lh ch) (.slice ao Lo co) (.slice ap Lp cp) (.slice ab Lb cb) ⟨k, i, cl, n, ⟨a, b, p, d⟩⟩ m.tick (.slice xh m.hosts.length yh) (.slice (some ⟨g, 0, none⟩) m.tick.osds.length yo) (.slice xp m.pools.length yp) (.slice xb m.bans.length yb) V2) := HA
        obtain ⟨y, hy⟩ : ∃ y, m.osds[i] = y := ⟨_, rfl⟩
        rw [hy] at hk
        have HI : Hid (∃ h : i < m.tick.osds.length, m.tick.osds[i] = y) := Lib.hid ⟨hi, hy⟩
        clear hy
        have hi : i < m.tick.osds.length := hi
        obtain ⟨bt, up, wt, th⟩ := y
        simp only at hk
        rcases hk with ⟨hk1, rfl⟩ | ⟨hk2, rfl⟩ | ⟨hk3, rfl⟩ | ⟨hk4, rfl⟩
        · subst hk1
          have HRes : Hid (mr = putOsd m.tick i ⟨n, true, wt, th⟩) := Lib.hid (by rw [HRes.out, he']; rfl)
          obtain ⟨z0, z1, z2, z3, z4⟩ := HA.out.cp.cells
          have hr := rowY HAt.out HI.out
          obtain ⟨d0, d1, d2, d3⟩ := ocells4 hr
          have f0 := HAt.out.thaw (i * 4); have f1 := HAt.out.thaw (i * 4 + 1); have f2 := HAt.out.thaw (i * 4 + 2); have f3 := HAt.out.thaw (i * 4 + 3)
          clear hr
          have HP := Lib.hid (HA.out.putY hg HAt.out HI.out 0 (by omega) (.int .i64 n) ⟨n, up, wt, th⟩ rfl)
          go_upto_region 10 with fail
          clear d0 d1 d2 d3 f0 f1 f2 f3 z0 z1 z2 z3 z4 c0 c1 c2 c3 c4 c5 c6 c7
          have HA := Lib.hid HP.out.1
          have HAt := Lib.hid HP.out.2
          clear HP
          generalize World.setCell _ ⟨g, i * 4, none⟩ _ = V3 at HA HAt ⊢
          obtain ⟨V2, rfl⟩ : ∃ Z, Z = V3 := ⟨_, rfl⟩
          have HI := Lib.hid (putOsd_get (m := m.tick) (x := ⟨n, up, wt, th⟩) hi)
          obtain ⟨c0, c1, c2, c3, c4, c5, c6, c7⟩ := HA.out.inc.cells
          simp only at c0 c1 c2 c3 c4 c5 c6 c7
          obtain ⟨z0, z1, z2, z3, z4⟩ := HA.out.cp.cells
          rw [putOsd_len] at z2
          have hr := rowY HAt.out HI.out
          obtain ⟨d0, d1, d2, d3⟩ := ocells4 hr
          have f1 := HAt.out.thaw (i * 4 + 1)
          have HP := Lib.hid (HA.out.putY hg HAt.out HI.out 1 (by omega) (.bool true) ⟨n, true, wt, th⟩ rfl)
          rw [putOsd_twice] at HP
          clear hr
          go_upto_region 33 with fail
          clear d0 d1 d2 d3 f1 c0 c1 c2 c3 c4 c5 c6 c7 z0 z1 z2 z3 z4
          have HA := Lib.hid HP.out.1
          clear HP HAt
          generalize World.setCell _ ⟨g, i * 4 + 1, none⟩ _ = V3 at HA ⊢
          obtain ⟨xh, yh, hvh⟩ := HA.out.rows.1.slice
          obtain ⟨xo, yo, hvo⟩ := HA.out.rows.2.1.slice
          obtain ⟨xp, yp, hvp⟩ := HA.out.rows.2.2.1.slice
          obtain ⟨xb, yb, hvb⟩ := HA.out.rows.2.2.2.slice
          rw [hvh, hvo, hvp, hvb] at HA
          clear hvh hvo hvp hvb
          obtain ⟨z0, z1, z2, z3, z4⟩ := HA.out.cp.cells
          go_wp2_with (refine wpList_store_mid rfl 83 _ _ rfl (w.heap.size + 1 + 1) 0 #[.int .i64 (putOsd m.tick i ⟨n, true, wt, th⟩).epoch, .slice xh (putOsd m.tick i ⟨n, true, wt, th⟩).hosts.length yh, .slice xo (putOsd m.tick i ⟨n, true, wt, th⟩).osds.length yo, .slice xp (putOsd m.tick i ⟨n, true, wt, th⟩).pools.length yp, .slice xb (putOsd m.tick i ⟨n, true, wt, th⟩).bans.length yb] rfl rfl HA.out.res.there sizeMap (map_one _ _ _ _ _ _ _ _ _ _ _ _ _) ?_)
          refine bodyPost_ret (ret_cell rfl rfl (HA.out.res.put (putOsd m.tick i ⟨n, true, wt, th⟩).epoch (.slice xh (putOsd m.tick i ⟨n, true, wt, th⟩).hosts.length yh) (.slice xo (putOsd m.tick i ⟨n, true, wt, th⟩).osds.length yo) (.slice xp (putOsd m.tick i ⟨n, true, wt, th⟩).pools.length yp) (.slice xb (putOsd m.tick i ⟨n, true, wt, th⟩).bans.length yb)).range Try.underlying83 rfl sizeMap) rfl ?_
          rw [HRes.out]
          exact ⟨_, _, _, _, rfl, (HA.out.rows.far (N := w.heap.size + 1 + 1) (by omega) 0 _).mono (by omega), Below.setCells HA.out.bel (b := w.heap.size + 1 + 1) (by omega) 0 _⟩
        · subst hk2
          have HRes : Hid (mr = putOsd m.tick i ⟨bt, false, wt, th⟩) := Lib.hid (by rw [HRes.out, he']; rfl)
          obtain ⟨z0, z1, z2, z3, z4⟩ := HA.out.cp.cells
          have hr := rowY HAt.out HI.out
          obtain ⟨d0, d1, d2, d3⟩ := ocells4 hr
          have f0 := HAt.out.thaw (i * 4); have f1 := HAt.out.thaw (i * 4 + 1); have f2 := HAt.out.thaw (i * 4 + 2); have f3 := HAt.out.thaw (i * 4 + 3)
          clear hr
          have HP := Lib.hid (HA.out.putY hg HAt.out HI.out 1 (by omega) (.bool false) ⟨bt, false, wt, th⟩ rfl)
          go_upto_region 33 with fail
          clear d0 d1 d2 d3 f0 f1 f2 f3 z0 z1 z2 z3 z4 c0 c1 c2 c3 c4 c5 c6 c7
          have HA := Lib.hid HP.out.1
          have HAt := Lib.hid HP.out.2
          clear HP
          generalize World.setCell _ ⟨g, i * 4 + 1, none⟩ _ = V3 at HA HAt ⊢
          obtain ⟨V2, rfl⟩ : ∃ Z, Z = V3 := ⟨_, rfl⟩
          obtain ⟨xh, yh, hvh⟩ := HA.out.rows.1.slice
          obtain ⟨xo, yo, hvo⟩ := HA.out.rows.2.1.slice
          obtain ⟨xp, yp, hvp⟩ := HA.out.rows.2.2.1.slice
          obtain ⟨xb, yb, hvb⟩ := HA.out.rows.2.2.2.slice
          rw [hvh, hvo, hvp, hvb] at HA
          clear hvh hvo hvp hvb
          obtain ⟨z0, z1, z2, z3, z4⟩ := HA.out.cp.cells
          go_wp2_with (refine wpList_store_mid rfl 83 _ _ rfl (w.heap.size + 1 + 1) 0 #[.int .i64 (putOsd m.tick i ⟨bt, false, wt, th⟩).epoch, .slice xh (putOsd m.tick i ⟨bt, false, wt, th⟩).hosts.length yh, .slice xo (putOsd m.tick i ⟨bt, false, wt, th⟩).osds.length yo, .slice xp (putOsd m.tick i ⟨bt, false, wt, th⟩).pools.length yp, .slice xb (putOsd m.tick i ⟨bt, false, wt, th⟩).bans.length yb] rfl rfl HA.out.res.there sizeMap (map_one _ _ _ _ _ _ _ _ _ _ _ _ _) ?_)
          refine bodyPost_ret (ret_cell rfl rfl (HA.out.res.put (putOsd m.tick i ⟨bt, false, wt, th⟩).epoch (.slice xh (putOsd m.tick i ⟨bt, false, wt, th⟩).hosts.length yh) (.slice xo (putOsd m.tick i ⟨bt, false, wt, th⟩).osds.length yo) (.slice xp (putOsd m.tick i ⟨bt, false, wt, th⟩).pools.length yp) (.slice xb (putOsd m.tick i ⟨bt, false, wt, th⟩).bans.length yb)).range Try.underlying83 rfl sizeMap) rfl ?_
          rw [HRes.out]
          exact ⟨_, _, _, _, rfl, (HA.out.rows.far (N := w.heap.size + 1 + 1) (by omega) 0 _).mono (by omega), Below.setCells HA.out.bel (b := w.heap.size + 1 + 1) (by omega) 0 _⟩
        · subst hk3
          have HRes : Hid (mr = putOsd m.tick i ⟨bt, up, n, th⟩) := Lib.hid (by rw [HRes.out, he']; rfl)
          obtain ⟨z0, z1, z2, z3, z4⟩ := HA.out.cp.cells
          have hr := rowY HAt.out HI.out
          obtain ⟨d0, d1, d2, d3⟩ := ocells4 hr
          have f0 := HAt.out.thaw (i * 4); have f1 := HAt.out.thaw (i * 4 + 1); have f2 := HAt.out.thaw (i * 4 + 2); have f3 := HAt.out.thaw (i * 4 + 3)
          clear hr
          have HP := Lib.hid (HA.out.putY hg HAt.out HI.out 2 (by omega) (.int .i64 n) ⟨bt, up, n, th⟩ rfl)
          go_upto_region 33 with fail
          clear d0 d1 d2 d3 f0 f1 f2 f3 z0 z1 z2 z3 z4 c0 c1 c2 c3 c4 c5 c6 c7
          have HA := Lib.hid HP.out.1
          have HAt := Lib.hid HP.out.2
          clear HP
          generalize World.setCell _ ⟨g, i * 4 + 2, none⟩ _ = V3 at HA HAt ⊢
          obtain ⟨V2, rfl⟩ : ∃ Z, Z = V3 := ⟨_, rfl⟩
          obtain ⟨xh, yh, hvh⟩ := HA.out.rows.1.slice
          obtain ⟨xo, yo, hvo⟩ := HA.out.rows.2.1.slice
          obtain ⟨xp, yp, hvp⟩ := HA.out.rows.2.2.1.slice
          obtain ⟨xb, yb, hvb⟩ := HA.out.rows.2.2.2.slice
          rw [hvh, hvo, hvp, hvb] at HA
          clear hvh hvo hvp hvb
          obtain ⟨z0, z1, z2, z3, z4⟩ := HA.out.cp.cells
          go_wp2_with (refine wpList_store_mid rfl 83 _ _ rfl (w.heap.size + 1 + 1) 0 #[.int .i64 (putOsd m.tick i ⟨bt, up, n, th⟩).epoch, .slice xh (putOsd m.tick i ⟨bt, up, n, th⟩).hosts.length yh, .slice xo (putOsd m.tick i ⟨bt, up, n, th⟩).osds.length yo, .slice xp (putOsd m.tick i ⟨bt, up, n, th⟩).pools.length yp, .slice xb (putOsd m.tick i ⟨bt, up, n, th⟩).bans.length yb] rfl rfl HA.out.res.there sizeMap (map_one _ _ _ _ _ _ _ _ _ _ _ _ _) ?_)
          refine bodyPost_ret (ret_cell rfl rfl (HA.out.res.put (putOsd m.tick i ⟨bt, up, n, th⟩).epoch (.slice xh (putOsd m.tick i ⟨bt, up, n, th⟩).hosts.length yh) (.slice xo (putOsd m.tick i ⟨bt, up, n, th⟩).osds.length yo) (.slice xp (putOsd m.tick i ⟨bt, up, n, th⟩).pools.length yp) (.slice xb (putOsd m.tick i ⟨bt, up, n, th⟩).bans.length yb)).range Try.underlying83 rfl sizeMap) rfl ?_
          rw [HRes.out]
          exact ⟨_, _, _, _, rfl, (HA.out.rows.far (N := w.heap.size + 1 + 1) (by omega) 0 _).mono (by omega), Below.setCells HA.out.bel (b := w.heap.size + 1 + 1) (by omega) 0 _⟩
        · subst hk4
          have HRes : Hid (mr = putOsd m.tick i ⟨bt, up, wt, n⟩) := Lib.hid (by rw [HRes.out, he']; rfl)
          obtain ⟨z0, z1, z2, z3, z4⟩ := HA.out.cp.cells
          have hr := rowY HAt.out HI.out
          obtain ⟨d0, d1, d2, d3⟩ := ocells4 hr
          have f0 := HAt.out.thaw (i * 4); have f1 := HAt.out.thaw (i * 4 + 1); have f2 := HAt.out.thaw (i * 4 + 2); have f3 := HAt.out.thaw (i * 4 + 3)
          clear hr
          have HP := Lib.hid (HA.out.putY hg HAt.out HI.out 3 (by omega) (.int .i64 n) ⟨bt, up, wt, n⟩ rfl)
          go_upto_region 33 with fail
          clear d0 d1 d2 d3 f0 f1 f2 f3 z0 z1 z2 z3 z4 c0 c1 c2 c3 c4 c5 c6 c7
          have HA := Lib.hid HP.out.1
          have HAt := Lib.hid HP.out.2
          clear HP
          generalize World.setCell _ ⟨g, i * 4 + 3, none⟩ _ = V3 at HA HAt ⊢
          obtain ⟨V2, rfl⟩ : ∃ Z, Z = V3 := ⟨_, rfl⟩
          obtain ⟨xh, yh, hvh⟩ := HA.out.rows.1.slice
          obtain ⟨xo, yo, hvo⟩ := HA.out.rows.2.1.slice
          obtain ⟨xp, yp, hvp⟩ := HA.out.rows.2.2.1.slice
          obtain ⟨xb, yb, hvb⟩ := HA.out.rows.2.2.2.slice
          rw [hvh, hvo, hvp, hvb] at HA
          clear hvh hvo hvp hvb
          obtain ⟨z0, z1, z2, z3, z4⟩ := HA.out.cp.cells
          go_wp2_with (refine wpList_store_mid rfl 83 _ _ rfl (w.heap.size + 1 + 1) 0 #[.int .i64 (putOsd m.tick i ⟨bt, up, wt, n⟩).epoch, .slice xh (putOsd m.tick i ⟨bt, up, wt, n⟩).hosts.length yh, .slice xo (putOsd m.tick i ⟨bt, up, wt, n⟩).osds.length yo, .slice xp (putOsd m.tick i ⟨bt, up, wt, n⟩).pools.length yp, .slice xb (putOsd m.tick i ⟨bt, up, wt, n⟩).bans.length yb] rfl rfl HA.out.res.there sizeMap (map_one _ _ _ _ _ _ _ _ _ _ _ _ _) ?_)
          refine bodyPost_ret (ret_cell rfl rfl (HA.out.res.put (putOsd m.tick i ⟨bt, up, wt, n⟩).epoch (.slice xh (putOsd m.tick i ⟨bt, up, wt, n⟩).hosts.length yh) (.slice xo (putOsd m.tick i ⟨bt, up, wt, n⟩).osds.length yo) (.slice xp (putOsd m.tick i ⟨bt, up, wt, n⟩).pools.length yp) (.slice xb (putOsd m.tick i ⟨bt, up, wt, n⟩).bans.length yb)).range Try.underlying83 rfl sizeMap) rfl ?_
          rw [HRes.out]
          exact ⟨_, _, _, _, rfl, (HA.out.rows.far (N := w.heap.size + 1 + 1) (by omega) 0 _).mono (by omega), Below.setCells HA.out.bel (b := w.heap.size + 1 + 1) (by omega) 0 _⟩
      · have hdummy : True := trivial
        subst hk5
        have HRes : Hid (mr = ⟨m.tick.epoch, m.tick.hosts, m.tick.osds, m.tick.pools ++ [⟨a, b, p, d⟩], m.tick.bans⟩) := Lib.hid (by rw [HRes.out, he']; rfl)
        go_upto_region 18 with fail
        have hbn := below_new V2 (.cells #[.int .i64 a, .int .i64 b, .int .i64 p, .int .i64 d] 85)
        have HSo := Lib.hid (sl_new pc_len V2 (⟨a, b, p, d⟩ : PoolV) 85 V2.heap.size rfl)
        simp only [pc] at HSo
        have HA1 := Lib.hid (HA.out.keep hbn)
        have hlp := (show m.tick.pools.length < 2 from hlp)
        have HLP := Lib.hid hlp
        have HSz : Hid (w.heap.size + 1 + 1 + 1 ≤ (V2.alloc (.cells #[.int .i64 a, .int .i64 b, .int .i64 p, .int .i64 d] 85)).heap.size) := Lib.hid (by have := HA1.out.cp.lt; have := HA1.out.hK; omega)
        clear hbn hlp
        obtain ⟨z0, z1, z2, z3, z4⟩ := HA.out.cp.cells
        go_upto_region 33 with (at_builtin; refine appSl pc_len pc_one (by decide) rfl _ _ 80 rfl (w.heap.size + 1 + 1 + 1) 85 _ (by rfl) 32 Try.underlying80 infoPool _ m.tick.pools rfl HA1.out.rows.2.2.1 _ [⟨a, b, p, d⟩] rfl HSo.out (by have := HLP.out; unfold maxLen; simp; omega) (by have := HLP.out; simp; omega) HSz.out ?_; intro v9 w9 ho9 hk9; obtain ⟨x9, y9, rfl⟩ := ho9.slice; have HA2 := Lib.hid (HA1.out.newP hk9 ho9); have hln : (m.tick.pools ++ [(⟨a, b, p, d⟩ : PoolV)]).length = m.tick.pools.length + 1 := (by simp); rw [hln] at HA2; clear hln; have e3 := (MBox.cells (show MBox w9 K 83 _ _ _ _ _ from hk9.box (by decide) HA1.out.boxK)).2.2.2.1; have g3 := (MBox.thaw (show MBox w9 K 83 _ _ _ _ _ from hk9.box (by decide) HA1.out.boxK)) 3; clear ho9 hk9 c0 c1 c2 c3 c4 c5 c6 c7 z0 z1 z2 z3 z4)
        clear e3 g3 HA HA1
        have HA := Lib.hid HA2.out
        clear HA2
        generalize World.setCell _ ⟨K, 3, none⟩ _ = V3 at HA ⊢
        obtain ⟨mp, hmp⟩ : ∃ mp, (⟨m.tick.epoch, m.tick.hosts, m.tick.osds, m.tick.pools ++ [⟨a, b, p, d⟩], m.tick.bans⟩ : MapV) = mp := ⟨_, rfl⟩
        have e9 : (m.tick.pools ++ [(⟨a, b, p, d⟩ : PoolV)]).length = mp.pools.length := by rw [← hmp]
        rw [hmp] at HA HRes
        clear e9
        obtain ⟨xh, yh, hvh⟩ := HA.out.rows.1.slice
        obtain ⟨xo, yo, hvo⟩ := HA.out.rows.2.1.slice
        obtain ⟨xp, yp, hvp⟩ := HA.out.rows.2.2.1.slice
        obtain ⟨xb, yb, hvb⟩ := HA.out.rows.2.2.2.slice
        rw [hvh, hvo, hvp, hvb] at HA
        clear hvh hvo hvp hvb
        obtain ⟨z0, z1, z2, z3, z4⟩ := HA.out.cp.cells
        go_wp2_with (refine wpList_store_mid rfl 83 _ _ rfl (w.heap.size + 1 + 1) 0 #[.int .i64 (mp).epoch, .slice xh (mp).hosts.length yh, .slice xo (mp).osds.length yo, .slice xp (mp).pools.length yp, .slice xb (mp).bans.length yb] rfl rfl HA.out.res.there sizeMap (map_one _ _ _ _ _ _ _ _ _ _ _ _ _) ?_)
        refine bodyPost_ret (ret_cell rfl rfl (HA.out.res.put (mp).epoch (.slice xh (mp).hosts.length yh) (.slice xo (mp).osds.length yo) (.slice xp (mp).pools.length yp) (.slice xb (mp).bans.length yb)).range Try.underlying83 rfl sizeMap) rfl ?_
        rw [HRes.out]
        exact ⟨_, _, _, _, rfl, (HA.out.rows.far (N := w.heap.size + 1 + 1) (by omega) 0 _).mono (by omega), Below.setCells HA.out.bel (b := w.heap.size + 1 + 1) (by omega) 0 _⟩
      · have hdummy : True := trivial
        subst hk6
        have HRes : Hid (mr = ⟨m.tick.epoch, m.tick.hosts, m.tick.osds, m.tick.pools, m.bans.take (posB m.bans ⟨cl, n⟩) ++ ⟨cl, n⟩ :: m.bans.drop (posB m.bans ⟨cl, n⟩)⟩) := Lib.hid (by rw [HRes.out, he']; rfl)
        have hnb : hasBan m.bans ⟨cl, n⟩ = false := hnb
        have HBp : Hid (∀ k (hk : k < m.bans.length), ordB m.bans[k] ⟨cl, n⟩ < 0 ↔ k < posB m.bans ⟨cl, n⟩) := HBp
        have HPl := Lib.hid (posB_le m.bans ⟨cl, n⟩)
        have HNe : Hid (∀ j (hj : j < m.bans.length), ¬ m.bans[j] = ⟨cl, n⟩) := Lib.hid (fun j hj e => by
          have : hasBan m.bans ⟨cl, n⟩ = true := List.any_eq_true.2 ⟨_, List.getElem_mem hj, decide_eq_true e.symm⟩
          rw [this] at hnb; cases hnb)
        generalize posB m.bans ⟨cl, n⟩ = P at HRes HBp HPl
        go_upto_region 21 with fail
        have hbn := below_new V2 (.cells #[.int .i64 cl, .int .i64 n] 136)
        have HYb := Lib.hid (alloc_at V2 (.cells #[.int .i64 cl, .int .i64 n] 136))
        have HA := Lib.hid (HA.out.keep hbn)
        have HZ : Hid ((V2.alloc (.cells #[.int .i64 cl, .int .i64 n] 136)).heap.size = V2.heap.size + 1) := Lib.hid (World.size_alloc _ _)
        have HQ3 : Hid (w.heap.size + 1 + 1 + 1 ≤ V2.heap.size + 1) := Lib.hid (by have h1 := HA.out.cp.lt; have h2 := HA.out.hK; rw [HZ.out] at h1; omega)
        clear hbn c0 c1 c2 c3 c4 c5 c6 c7 hnb
        generalize V2.alloc (.cells #[.int .i64 cl, .int .i64 n] 136) = V at HA HYb HZ ⊢
        generalize V2.heap.size = Q at HYb HZ HQ3 ⊢
        obtain ⟨ab2, cb2, hvb⟩ : ∃ x y, Value.slice xb m.bans.length yb = .slice x m.bans.length y := ⟨_, _, rfl⟩
        have HS := Lib.hid (fun u (hu : Below (Q + 1) V u) => ((HA.out.rows.2.2.2.read bc_len).keep (by rw [HZ.out]; exact hu) : Sl bc 2 u (.slice xb m.bans.length yb) m.bans))
        have HK4 := Lib.hid (fun u (hu : Below (Q + 1) V u) => ((HA.out.cp.keep (by rw [HZ.out]; exact hu)).cells.2.2.2.2))
        clear hvb
        obtain ⟨L, hL⟩ : ∃ L, m.bans.length = L := ⟨_, rfl⟩
        have HL := Lib.hid hL
        have hlb : L < 64 := by rw [← hL]; exact hlb
        have HK4 : Hid (∀ u, Below (Q + 1) V u → u.cell? ⟨K, 4, none⟩ = some (.slice xb L yb)) := Lib.hid (by rw [← hL]; exact HK4.out)
        have HS : Hid (∀ u, Below (Q + 1) V u → Sl bc 2 u (.slice xb L yb) m.bans) := Lib.hid (by rw [← hL]; exact HS.out)
        have hPl : P ≤ L := by rw [← hL]; exact HPl.out
        clear hL
        go_upto_region 24 with fail
        go_loopw [7, 8, 9] (fun v7 v8 v9 wr => ∃ i : Nat, i ≤ L ∧ v9 = .int .i64 i ∧ v8 = .bool (decide (P < i)) ∧ Own bc 2 136 wr (Q + 1) v7 (insB m.bans ⟨cl, n⟩ P i) ∧ Below (Q + 1) V wr) (fun _ _ i _ => L - (intOf i).toNat)
        case atStart => exact ⟨0, by omega, rfl, by simp, by unfold insB; rw [if_pos (Nat.zero_le _)]; exact Own.nil _ _ _, Below.refl _ _⟩
        case round =>
          obtain ⟨i, hi, rfl, rfl, ho, hbw⟩ := hrel
          have HBw := Lib.hid hbw
          obtain ⟨p7, q7, rfl⟩ := ho.slice
          have HO := Lib.hid ho
          clear hbw ho
          have hi0 : (0 : Int) ≤ i := by omega
          have HLn : Hid ((insB m.bans ⟨cl, n⟩ P i).length ≤ 66) := Lib.hid (by have := insB_len m.bans ⟨cl, n⟩ P i; have := HL.out; omega)
          by_cases hlt : i < L
          · have hlt' : (i : Int) < L := by omega
            have hib : i < m.bans.length := by rw [HL.out]; exact hlt
            have HNi := Lib.hid (HNe.out i hib)
            have HPi := Lib.hid (HBp.out i hib)
            have HLow := Lib.hid (insB_low m.bans ⟨cl, n⟩ (p := P) hib)
            have HAt := Lib.hid (insB_at m.bans ⟨cl, n⟩ hib)
            have HHi := Lib.hid (insB_high m.bans ⟨cl, n⟩ (p := P) hib)
            have HSi := Lib.hid (fun u (hu : Below (Q + 1) V u) => sl_elem (HS.out u hu) i hib)
            obtain ⟨x, hxi⟩ : ∃ x, m.bans[i] = x := ⟨_, rfl⟩
            rw [hxi] at HNi HPi HLow HHi HSi
            have HAt : Hid (insB m.bans ⟨cl, n⟩ i (i + 1) = (insB m.bans ⟨cl, n⟩ i i ++ [⟨cl, n⟩]) ++ [x]) := Lib.hid (by rw [HAt.out, hxi])
            clear hxi
            have HBf := Lib.hid (fun u => rBefore_any ⟨cl, n⟩ x u)
            obtain ⟨ec, en⟩ := x
            simp only [bc] at HBf
            obtain ⟨gb, ob, hxb, hbl, hrb⟩ := HSi.out _ HBw.out
            subst hxb
            have HE : Hid (∀ u, Below (Q + 1) V u → u.cell? ⟨gb, ob + i * 2, none⟩ = some (.int .i64 ec) ∧ u.cell? ⟨gb, ob + i * 2 + 1, none⟩ = some (.int .i64 en)) := Lib.hid (fun u hu => by
              obtain ⟨g', o', he, _, hr⟩ := HSi.out u hu
              cases he
              exact ⟨hr 0 _ rfl, hr 1 _ rfl⟩)
            have HYc : Hid (∀ u, Below (Q + 1) V u → u.cell? ⟨Q, 0, none⟩ = some (.int .i64 cl) ∧ u.cell? ⟨Q, 1, none⟩ = some (.int .i64 n)) := Lib.hid (fun u hu => by
              have := cells_range (l := [.int .i64 cl, .int .i64 n]) ((hu.block Q (by omega)).trans HYb.out)
              exact ⟨this 0 _ rfl, this 1 _ rfl⟩)
            clear hrb hbl HSi
            rcases Nat.lt_trichotomy P i with hc | hc | hc
            · have hdn : decide (P < i) = true := decide_eq_true hc
              rw [hdn]
              have HNew := Lib.hid (HHi.out hc)
              have k4 := HK4.out _ HBw.out
              go_upto_region 26 with fail
              go_region
              clear k4
              have HB9 := Lib.hid (below_drew HBw.out)
              have HO9 := Lib.hid (HO.out.below (below_drew (Below.refl _ _)))
              generalize wr.drew = wq at HB9 HO9 ⊢
              have k4 := HK4.out _ HB9.out
              obtain ⟨e0, e1⟩ := HE.out _ HB9.out
              have hbo := below_new wq (.cells #[.int .i64 ec, .int .i64 en] 136)
              have HSo := Lib.hid (sl_new bc_len wq (⟨ec, en⟩ : BanV) 136 wq.heap.size rfl)
              simp only [bc] at HSo
              have HO1 := Lib.hid (HO9.out.below hbo)
              have HB1 := Lib.hid (HB9.out.trans (hbo.mono (show Q + 1 ≤ _ by have := HB9.out.size; have := HZ.out; omega)))
              have HSz : Hid (Q + 1 ≤ (wq.alloc (.cells #[.int .i64 ec, .int .i64 en] 136)).heap.size) := Lib.hid (by have := HB1.out.size; have := HZ.out; omega)
              clear hbo
              go_upto_region 25 with (at_builtin; refine appSl bc_len bc_one (by decide) rfl _ _ 81 rfl (Q + 1) 136 _ (by rfl) 16 Try.underlying81 infoBan _ (insB m.bans ⟨cl, n⟩ P i) rfl HO1.out _ [⟨ec, en⟩] rfl HSo.out (by have := HLn.out; unfold maxLen; simp only [List.length_append, List.length_singleton]; omega) (by have := HLn.out; simp only [List.length_append, List.length_singleton]; omega) HSz.out ?_; intro v8 w8 ho9 hk9; obtain ⟨p8, q8, hv9⟩ := ho9.slice; simp only [List.length_append, List.length_singleton] at hv9; subst hv9; have HO8 := Lib.hid ho9; have HB8 := Lib.hid (HB1.out.trans hk9.toBelow); clear ho9 hk9 k4 e0 e1)
              clear HO1 HB1 HSz HSo
              go_wp2
              go_roundw
              case rel => exact ⟨i + 1, by omega, by go_num, by rw [decide_eq_true (show P < i + 1 by omega)], by rw [HNew.out]; exact HO8.out, HB8.out⟩
              case measure => simp [intOf]; omega
            · subst hc
              have hdn : decide (P < P) = false := decide_eq_false (by omega)
              rw [hdn]
              have HNew := Lib.hid (HAt.out)
              have HLt : Hid (ltBan ⟨cl, n⟩ ⟨ec, en⟩ = true) := Lib.hid (ltBan_other (fun e => by have := HPi.out.1 e; omega) (fun e => HNi.out (ordB_zero e)))
              rw [show ltBan ⟨cl, n⟩ ⟨ec, en⟩ = true from HLt.out] at HBf
              have HDw := Lib.hid (below_drew HBw.out)
              have HSzD : Hid (Q + 1 ≤ wr.drew.heap.size) := Lib.hid (by have := HDw.out.size; have := HZ.out; omega)
              have k4 := HK4.out _ HBw.out
              go_upto_region 26 with fail
              clear k4
              go_region_held3 (fun u => (u.cell? ⟨Q, 0, none⟩ = some (.int .i64 cl) ∧ u.cell? ⟨Q, 1, none⟩ = some (.int .i64 n)) ∧ u.cell? ⟨K, 4, none⟩ = some (.slice (some ⟨gb, ob, none⟩) L yb) ∧ (u.cell? ⟨gb, ob + P * 2, none⟩ = some (.int .i64 ec) ∧ u.cell? ⟨gb, ob + P * 2 + 1, none⟩ = some (.int .i64 en)))
                (first | exact ⟨HYc.out _ HDw.out, HK4.out _ HDw.out, HE.out _ HDw.out⟩ | exact ⟨HYc.out _ HB9.out, HK4.out _ HB9.out, HE.out _ HB9.out⟩)
                (first | (go_at_call 80; refine (HBf.out _).mono ?_; rintro e wq ⟨rfl, hb⟩; have HB9 := Lib.hid (HDw.out.trans (hb.mono HSzD.out)); have HO9 := Lib.hid ((HO.out.below (below_drew (Below.refl _ _))).below hb); clear hb))
              clear HDw HSzD
              obtain ⟨y0, y1⟩ := HYc.out _ HB9.out
              have hbo := below_new wq (.cells #[.int .i64 cl, .int .i64 n] 136)
              have HSo := Lib.hid (sl_new bc_len wq (⟨cl, n⟩ : BanV) 136 wq.heap.size rfl)
              simp only [bc] at HSo
              have HO1 := Lib.hid (HO9.out.below hbo)
              have HB1 := Lib.hid (HB9.out.trans (hbo.mono (show Q + 1 ≤ _ by have := HB9.out.size; have := HZ.out; omega)))
              have HSz : Hid (Q + 1 ≤ (wq.alloc (.cells #[.int .i64 cl, .int .i64 n] 136)).heap.size) := Lib.hid (by have := HB1.out.size; have := HZ.out; omega)
              clear hbo
              go_upto_region 29 with (at_builtin; refine appSl bc_len bc_one (by decide) rfl _ _ 81 rfl (Q + 1) 136 _ (by rfl) 16 Try.underlying81 infoBan _ (insB m.bans ⟨cl, n⟩ P P) rfl HO1.out _ [⟨cl, n⟩] rfl HSo.out (by have := HLn.out; unfold maxLen; simp only [List.length_append, List.length_singleton]; omega) (by have := HLn.out; simp only [List.length_append, List.length_singleton]; omega) HSz.out ?_; intro v7 w7 ho9 hk9; obtain ⟨p7, q7, hv9⟩ := ho9.slice; simp only [List.length_append, List.length_singleton] at hv9; subst hv9; have HO7 := Lib.hid ho9; have HB7 := Lib.hid (HB1.out.trans hk9.toBelow); clear ho9 hk9 y0 y1)
              clear HO1 HB1 HSz HSo
              have k4 := HK4.out _ HB7.out
              obtain ⟨e0, e1⟩ := HE.out _ HB7.out
              have hbo := below_new w7 (.cells #[.int .i64 ec, .int .i64 en] 136)
              have HSo := Lib.hid (sl_new bc_len w7 (⟨ec, en⟩ : BanV) 136 w7.heap.size rfl)
              simp only [bc] at HSo
              have HO1 := Lib.hid (HO7.out.below hbo)
              have HB1 := Lib.hid (HB7.out.trans (hbo.mono (show Q + 1 ≤ _ by have := HB7.out.size; have := HZ.out; omega)))
              have HSz : Hid (Q + 1 ≤ (w7.alloc (.cells #[.int .i64 ec, .int .i64 en] 136)).heap.size) := Lib.hid (by have := HB1.out.size; have := HZ.out; omega)
              clear hbo
              go_upto_region 25 with (at_builtin; refine appSl bc_len bc_one (by decide) rfl _ _ 81 rfl (Q + 1) 136 _ (by rfl) 16 Try.underlying81 infoBan _ (insB m.bans ⟨cl, n⟩ P P ++ [(⟨cl, n⟩ : BanV)]) rfl HO1.out _ [⟨ec, en⟩] rfl HSo.out (by have := HLn.out; unfold maxLen; simp only [List.length_append, List.length_singleton]; omega) (by have := HLn.out; simp only [List.length_append, List.length_singleton]; omega) HSz.out ?_; intro v8 w8 ho9 hk9; obtain ⟨p8, q8, hv9⟩ := ho9.slice; simp only [List.length_append, List.length_singleton] at hv9; subst hv9; have HO8 := Lib.hid ho9; have HB8 := Lib.hid (HB1.out.trans hk9.toBelow); clear ho9 hk9 k4 e0 e1)
              clear HO1 HB1 HSz HSo
              go_wp2
              go_roundw
              case rel => exact ⟨P + 1, by omega, by go_num, by rw [decide_eq_true (show P < P + 1 by omega)], by rw [HNew.out]; exact HO8.out, HB8.out⟩
              case measure => simp [intOf]; omega
            · have hdn : decide (P < i) = false := decide_eq_false (by omega)
              rw [hdn]
              have HNew := Lib.hid (HLow.out hc)
              have HLt : Hid (ltBan ⟨cl, n⟩ ⟨ec, en⟩ = false) := Lib.hid (by
                have h1 : ltBan ⟨ec, en⟩ ⟨cl, n⟩ = true := by rw [← ordB_lt]; exact decide_eq_true (HPi.out.2 hc)
                cases h2 : ltBan ⟨cl, n⟩ ⟨ec, en⟩ with
                | false => rfl
                | true =>
                  simp only [ltBan, Bool.or_eq_true, Bool.and_eq_true, decide_eq_true_eq] at h1 h2
                  omega)
              rw [show ltBan ⟨cl, n⟩ ⟨ec, en⟩ = false from HLt.out] at HBf
              have HDw := Lib.hid (below_drew HBw.out)
              have HSzD : Hid (Q + 1 ≤ wr.drew.heap.size) := Lib.hid (by have := HDw.out.size; have := HZ.out; omega)
              have k4 := HK4.out _ HBw.out
              go_upto_region 26 with fail
              clear k4
              go_region_held3 (fun u => (u.cell? ⟨Q, 0, none⟩ = some (.int .i64 cl) ∧ u.cell? ⟨Q, 1, none⟩ = some (.int .i64 n)) ∧ u.cell? ⟨K, 4, none⟩ = some (.slice (some ⟨gb, ob, none⟩) L yb) ∧ (u.cell? ⟨gb, ob + i * 2, none⟩ = some (.int .i64 ec) ∧ u.cell? ⟨gb, ob + i * 2 + 1, none⟩ = some (.int .i64 en)))
                (first | exact ⟨HYc.out _ HDw.out, HK4.out _ HDw.out, HE.out _ HDw.out⟩ | exact ⟨HYc.out _ HB9.out, HK4.out _ HB9.out, HE.out _ HB9.out⟩)
                (first | (go_at_call 80; refine (HBf.out _).mono ?_; rintro e wq ⟨rfl, hb⟩; have HB9 := Lib.hid (HDw.out.trans (hb.mono HSzD.out)); have HO9 := Lib.hid ((HO.out.below (below_drew (Below.refl _ _))).below hb); clear hb))
              clear HDw HSzD
              have k4 := HK4.out _ HB9.out
              obtain ⟨e0, e1⟩ := HE.out _ HB9.out
              have hbo := below_new wq (.cells #[.int .i64 ec, .int .i64 en] 136)
              have HSo := Lib.hid (sl_new bc_len wq (⟨ec, en⟩ : BanV) 136 wq.heap.size rfl)
              simp only [bc] at HSo
              have HO1 := Lib.hid (HO9.out.below hbo)
              have HB1 := Lib.hid (HB9.out.trans (hbo.mono (show Q + 1 ≤ _ by have := HB9.out.size; have := HZ.out; omega)))
              have HSz : Hid (Q + 1 ≤ (wq.alloc (.cells #[.int .i64 ec, .int .i64 en] 136)).heap.size) := Lib.hid (by have := HB1.out.size; have := HZ.out; omega)
              clear hbo
              go_upto_region 25 with (at_builtin; refine appSl bc_len bc_one (by decide) rfl _ _ 81 rfl (Q + 1) 136 _ (by rfl) 16 Try.underlying81 infoBan _ (insB m.bans ⟨cl, n⟩ P i) rfl HO1.out _ [⟨ec, en⟩] rfl HSo.out (by have := HLn.out; unfold maxLen; simp only [List.length_append, List.length_singleton]; omega) (by have := HLn.out; simp only [List.length_append, List.length_singleton]; omega) HSz.out ?_; intro v8 w8 ho9 hk9; obtain ⟨p8, q8, hv9⟩ := ho9.slice; simp only [List.length_append, List.length_singleton] at hv9; subst hv9; have HO8 := Lib.hid ho9; have HB8 := Lib.hid (HB1.out.trans hk9.toBelow); clear ho9 hk9 k4 e0 e1)
              clear HO1 HB1 HSz HSo
              go_wp2
              go_roundw
              case rel => exact ⟨i + 1, by omega, by go_num, by rw [decide_eq_false (show ¬ P < i + 1 by omega)], by rw [HNew.out]; exact HO8.out, HB8.out⟩
              case measure => simp [intOf]; omega
          · obtain rfl : i = L := by omega

            by_cases hc : P < i
            · have hdn : decide (P < i) = true := decide_eq_true hc
              rw [hdn]
              have hEnd : insB m.bans ⟨cl, n⟩ P i = m.bans.take P ++ ⟨cl, n⟩ :: m.bans.drop P := by rw [← HL.out]; exact insB_end _ _ (by rw [HL.out]; exact hc)
              have hln : (m.bans.take P ++ (⟨cl, n⟩ : BanV) :: m.bans.drop P).length = (insB m.bans ⟨cl, n⟩ P i).length := by rw [hEnd]
              rw [hEnd] at HO
              rw [hln] at HO
              clear hEnd
              have k4 := HK4.out _ HBw.out
              have HA := Lib.hid (HA.out.keep (by rw [HZ.out]; exact HBw.out))
              have g4 := HA.out.cp.thaw 4
              have HA := Lib.hid (HA.out.bans (HO.out.mono HQ3.out))
              go_upto_region 33 with fail
              clear g4 k4
              generalize World.setCell _ ⟨K, 4, none⟩ _ = V3 at HA ⊢
              obtain ⟨mp, hmp⟩ : ∃ mp, (⟨m.tick.epoch, m.tick.hosts, m.tick.osds, m.tick.pools, m.bans.take P ++ ⟨cl, n⟩ :: m.bans.drop P⟩ : MapV) = mp := ⟨_, rfl⟩
              rw [hmp] at HA HRes
              obtain ⟨xh, yh, hvh⟩ := HA.out.rows.1.slice
              obtain ⟨xo, yo, hvo⟩ := HA.out.rows.2.1.slice
              obtain ⟨xp, yp, hvp⟩ := HA.out.rows.2.2.1.slice
              obtain ⟨xb, yb, hvb⟩ := HA.out.rows.2.2.2.slice
              rw [hvh, hvo, hvp, hvb] at HA
              clear hvh hvo hvp hvb
              obtain ⟨z0, z1, z2, z3, z4⟩ := HA.out.cp.cells
              go_wp2_with (refine wpList_store_mid rfl 83 _ _ rfl (w.heap.size + 1 + 1) 0 #[.int .i64 (mp).epoch, .slice xh (mp).hosts.length yh, .slice xo (mp).osds.length yo, .slice xp (mp).pools.length yp, .slice xb (mp).bans.length yb] rfl rfl HA.out.res.there sizeMap (map_one _ _ _ _ _ _ _ _ _ _ _ _ _) ?_)
              refine bodyPost_ret (ret_cell rfl rfl (HA.out.res.put (mp).epoch (.slice xh (mp).hosts.length yh) (.slice xo (mp).osds.length yo) (.slice xp (mp).pools.length yp) (.slice xb (mp).bans.length yb)).range Try.underlying83 rfl sizeMap) rfl ?_
              rw [HRes.out]
              exact ⟨_, _, _, _, rfl, (HA.out.rows.far (N := w.heap.size + 1 + 1) (by omega) 0 _).mono (by omega), Below.setCells HA.out.bel (b := w.heap.size + 1 + 1) (by omega) 0 _⟩
            · obtain rfl : P = i := by omega
              have hdn : decide (P < P) = false := decide_eq_false (by omega)
              rw [hdn]
              have hEnd : insB m.bans ⟨cl, n⟩ P P ++ [⟨cl, n⟩] = m.bans.take P ++ ⟨cl, n⟩ :: m.bans.drop P := by rw [← HL.out]; exact insB_all _ _
              have hyb := cells_range (l := [.int .i64 cl, .int .i64 n]) ((HBw.out.block Q (by have := HZ.out; omega)).trans HYb.out)
              have y0 : _ = some (Value.int .i64 cl) := hyb 0 _ rfl
              have y1 : _ = some (Value.int .i64 n) := hyb 1 _ rfl
              simp only [Nat.zero_add] at y0 y1
              have k4 := HK4.out _ HBw.out
              clear hyb
              have hbo := below_new wr (.cells #[.int .i64 cl, .int .i64 n] 136)
              have HSo := Lib.hid (sl_new bc_len wr (⟨cl, n⟩ : BanV) 136 wr.heap.size rfl)
              simp only [bc] at HSo
              have HO1 := Lib.hid (HO.out.below hbo)
              have HB1 := Lib.hid (HBw.out.trans (hbo.mono (show Q + 1 ≤ _ by have := HBw.out.size; have := HZ.out; omega)))
              have HSz : Hid (Q + 1 ≤ (wr.alloc (.cells #[.int .i64 cl, .int .i64 n] 136)).heap.size) := Lib.hid (by have := HB1.out.size; have := HZ.out; omega)
              clear hbo
              go_upto_region 32 with (at_builtin; refine appSl bc_len bc_one (by decide) rfl _ _ 81 rfl (Q + 1) 136 _ (by rfl) 16 Try.underlying81 infoBan _ (insB m.bans ⟨cl, n⟩ P P) rfl HO1.out _ [⟨cl, n⟩] rfl HSo.out (by have := HLn.out; unfold maxLen; simp only [List.length_append, List.length_singleton]; omega) (by have := HLn.out; simp only [List.length_append, List.length_singleton]; omega) HSz.out ?_; intro v7 w7 ho9 hk9; obtain ⟨p7, q7, hv9⟩ := ho9.slice; simp only [List.length_append, List.length_singleton] at hv9; subst hv9; have HO7 := Lib.hid ho9; have HB7 := Lib.hid (HB1.out.trans hk9.toBelow); clear ho9 hk9 y0 y1 k4)
              clear HO1 HB1 HSz HSo
              have hln : (m.bans.take P ++ (⟨cl, n⟩ : BanV) :: m.bans.drop P).length = (insB m.bans ⟨cl, n⟩ P P).length + 1 := by rw [← hEnd]; simp
              rw [hEnd] at HO7
              clear hEnd
              have HA := Lib.hid (HA.out.keep (by rw [HZ.out]; exact HB7.out))
              have g4 := HA.out.cp.thaw 4
              have k4 := HK4.out _ HB7.out
              have HA := Lib.hid (HA.out.bans (HO7.out.mono HQ3.out))
              go_upto_region 33 with fail
              clear g4 k4
              generalize World.setCell _ ⟨K, 4, none⟩ _ = V3 at HA ⊢
              obtain ⟨mp, hmp⟩ : ∃ mp, (⟨m.tick.epoch, m.tick.hosts, m.tick.osds, m.tick.pools, m.bans.take P ++ ⟨cl, n⟩ :: m.bans.drop P⟩ : MapV) = mp := ⟨_, rfl⟩
              rw [hmp] at HA HRes
              obtain ⟨xh, yh, hvh⟩ := HA.out.rows.1.slice
              obtain ⟨xo, yo, hvo⟩ := HA.out.rows.2.1.slice
              obtain ⟨xp, yp, hvp⟩ := HA.out.rows.2.2.1.slice
              obtain ⟨xb, yb, hvb⟩ := HA.out.rows.2.2.2.slice
              rw [hvh, hvo, hvp, hvb] at HA
              clear hvh hvo hvp hvb
              obtain ⟨z0, z1, z2, z3, z4⟩ := HA.out.cp.cells
              go_wp2_with (refine wpList_store_mid rfl 83 _ _ rfl (w.heap.size + 1 + 1) 0 #[.int .i64 (mp).epoch, .slice xh (mp).hosts.length yh, .slice xo (mp).osds.length yo, .slice xp (mp).pools.length yp, .slice xb (mp).bans.length yb] rfl rfl HA.out.res.there sizeMap (map_one _ _ _ _ _ _ _ _ _ _ _ _ _) ?_)
              refine bodyPost_ret (ret_cell rfl rfl (HA.out.res.put (mp).epoch (.slice xh (mp).hosts.length yh) (.slice xo (mp).osds.length yo) (.slice xp (mp).pools.length yp) (.slice xb (mp).bans.length yb)).range Try.underlying83 rfl sizeMap) rfl ?_
              rw [HRes.out]
              exact ⟨_, _, _, _, rfl, (HA.out.rows.far (N := w.heap.size + 1 + 1) (by omega) 0 _).mono (by omega), Below.setCells HA.out.bel (b := w.heap.size + 1 + 1) (by omega) 0 _⟩

  · have HRes : Hid (mr = m) := Lib.hid (by have := HRes.out; rwa [if_neg he] at this)
    clear l0 l1 l2 l3 l4
    obtain ⟨l0, l1, l2, l3, l4⟩ := HA.out.one.cells
    go_upto_region 3 with fail
    clear l0 l1 l2 l3 l4
    obtain ⟨xh, yh, hvh⟩ := HA.out.rows.1.slice
    obtain ⟨xo, yo, hvo⟩ := HA.out.rows.2.1.slice
    obtain ⟨xp, yp, hvp⟩ := HA.out.rows.2.2.1.slice
    obtain ⟨xb, yb, hvb⟩ := HA.out.rows.2.2.2.slice
    rw [hvh, hvo, hvp, hvb] at HA
    clear hvh hvo hvp hvb
    obtain ⟨z0, z1, z2, z3, z4⟩ := HA.out.cp.cells
    go_wp2_with (refine wpList_store_mid rfl 83 _ _ rfl (w.heap.size + 1 + 1) 0 #[.int .i64 (m).epoch, .slice xh (m).hosts.length yh, .slice xo (m).osds.length yo, .slice xp (m).pools.length yp, .slice xb (m).bans.length yb] rfl rfl HA.out.res.there sizeMap (map_one _ _ _ _ _ _ _ _ _ _ _ _ _) ?_)
    refine bodyPost_ret (ret_cell rfl rfl (HA.out.res.put (m).epoch (.slice xh (m).hosts.length yh) (.slice xo (m).osds.length yo) (.slice xp (m).pools.length yp) (.slice xb (m).bans.length yb)).range Try.underlying83 rfl sizeMap) rfl ?_
    rw [HRes.out]
    exact ⟨_, _, _, _, rfl, (HA.out.rows.far (N := w.heap.size + 1 + 1) (by omega) 0 _).mono (by omega), Below.setCells HA.out.bel (b := w.heap.size + 1 + 1) (by omega) 0 _⟩
end Go.Proofs.Ytcofmfjhgbihkaa.crush
