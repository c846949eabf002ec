/- Plain mathematics of the layer crush: which item is ahead of all others, and what follows. No program is named here. -/
import Derived.Test.YtcofmfjhgbihkaaHashMix
import Derived.Test.YtcofmfjhgbihkaaHashMath
namespace Go.Proofs.Ytcofmfjhgbihkaa.crush
open Go.Proofs.Ytcofmfjhgbihkaa.hash Go.Proofs.Ytcofmfjhgbihkaa.hm
set_option linter.unusedVariables false

/-- An item: its Id, its weight. -/
abbrev It := Int × Int
/-- A number as 32 bits. -/
def w32 (z : Int) : Nat := (z % 4294967296).toNat
theorem w32_lt (z : Int) : w32 z < 4294967296 := by unfold w32; omega
def drawN (x : Nat) (id r : Int) : Nat := fin32 (mixL 2166136261 [x, w32 id, w32 r]) % 65536
/-- The cost of a straw. -/
def costN (x : Nat) (id r : Int) : Nat := 1048576 - lgx (drawN x id r + 1)
/-- The weight as it counts; 0 where the item may not be chosen. -/
def wtN (z : Int) : Nat := (min z 1048576).toNat
theorem drawN_lt (x : Nat) (id r : Int) : drawN x id r < 65536 := Nat.mod_lt _ (by decide)
theorem lg_le (u : Nat) (h : u < 65536) : lgx (u + 1) ≤ 1048576 := by
  have h1 := lgx_mono (u + 1) 65536 (by omega)
  have h2 : lgx 65536 = 1048576 := by decide +kernel
  omega
theorem costN_le (x : Nat) (id r : Int) : costN x id r ≤ 1048576 := by unfold costN; omega
theorem wtN_le (z : Int) : wtN z ≤ 1048576 := by unfold wtN; omega
theorem wtN_zero (z : Int) : wtN z = 0 ↔ z < 1 := by unfold wtN; omega
theorem wtN_pos (z : Int) : 0 < wtN z ↔ 1 ≤ z := by unfold wtN; omega

/-- A key: the cost, the weight. -/
abbrev Ky := Nat × Nat
def keyOf (x : Nat) (r : Int) (i : It) : Ky := (costN x i.1 r, wtN i.2)
def keys (x : Nat) (r : Int) (l : List It) : List Ky := l.map (keyOf x r)
theorem keys_len (x : Nat) (r : Int) (l : List It) : (keys x r l).length = l.length := by simp [keys]

def cO (ks : List Ky) (i : Nat) : Nat := (ks.getD i (0, 0)).1
def wO (ks : List Ky) (i : Nat) : Nat := (ks.getD i (0, 0)).2

/-- The place that is ahead of all others, of the first n. -/
def best (ks : List Ky) : Nat → Option Nat
  | 0 => none
  | n + 1 => if wO ks n = 0 then best ks n else match best ks n with
    | none => some n
    | some b => if cO ks n * wO ks b < cO ks b * wO ks n then some n else some b
def pick (ks : List Ky) : Option Nat := best ks ks.length

/-- The place b is ahead of all others, of the first n. -/
def IsB (ks : List Ky) (n b : Nat) : Prop := b < n ∧ 0 < wO ks b ∧ ∀ j, j < n → 0 < wO ks j → cO ks b * wO ks j ≤ cO ks j * wO ks b ∧ (j < b → cO ks b * wO ks j < cO ks j * wO ks b)

theorem frac_le {a u b v c w : Nat} (hv : 0 < v) (h1 : a * v ≤ b * u) (h2 : b * w ≤ c * v) : a * w ≤ c * u := by
  have e1 : a * v * w ≤ b * u * w := Nat.mul_le_mul_right w h1
  have e2 : b * w * u ≤ c * v * u := Nat.mul_le_mul_right u h2
  have e3 : (a * w) * v ≤ (c * u) * v := by
    have q1 : a * w * v = a * v * w := by rw [Nat.mul_right_comm]
    have q2 : c * u * v = c * v * u := by rw [Nat.mul_right_comm]
    have q3 : b * u * w = b * w * u := by rw [Nat.mul_right_comm]
    omega
  exact Nat.le_of_mul_le_mul_right e3 hv
theorem frac_lt1 {a u b v c w : Nat} (hv : 0 < v) (hw : 0 < w) (h1 : a * v < b * u) (h2 : b * w ≤ c * v) : a * w < c * u := by
  have e1 : a * v * w < b * u * w := Nat.mul_lt_mul_of_pos_right h1 hw
  have e2 : b * w * u ≤ c * v * u := Nat.mul_le_mul_right u h2
  have e3 : (a * w) * v < (c * u) * v := by
    have q1 : a * w * v = a * v * w := by rw [Nat.mul_right_comm]
    have q2 : c * u * v = c * v * u := by rw [Nat.mul_right_comm]
    have q3 : b * u * w = b * w * u := by rw [Nat.mul_right_comm]
    omega
  exact Nat.lt_of_mul_lt_mul_right e3
theorem frac_lt2 {a u b v c w : Nat} (hv : 0 < v) (hu : 0 < u) (h1 : a * v ≤ b * u) (h2 : b * w < c * v) : a * w < c * u := by
  have e1 : a * v * w ≤ b * u * w := Nat.mul_le_mul_right w h1
  have e2 : b * w * u < c * v * u := Nat.mul_lt_mul_of_pos_right h2 hu
  have e3 : (a * w) * v < (c * u) * v := by
    have q1 : a * w * v = a * v * w := by rw [Nat.mul_right_comm]
    have q2 : c * u * v = c * v * u := by rw [Nat.mul_right_comm]
    have q3 : b * u * w = b * w * u := by rw [Nat.mul_right_comm]
    omega
  exact Nat.lt_of_mul_lt_mul_right e3

theorem best_spec (ks : List Ky) : ∀ n, (∀ b, best ks n = some b → IsB ks n b) ∧ (best ks n = none → ∀ j, j < n → wO ks j = 0)
  | 0 => ⟨fun b h => by simp [best] at h, fun _ j h => by omega⟩
  | n + 1 => by
    obtain ⟨h1, h2⟩ := best_spec ks n
    simp only [best]
    by_cases hw : wO ks n = 0
    · simp only [hw, if_true]
      refine ⟨fun b hb => ?_, fun hn j hj => ?_⟩
      · obtain ⟨a1, a2, a3⟩ := h1 b hb
        refine ⟨by omega, a2, fun j hj hj0 => a3 j ?_ hj0⟩
        have : j ≠ n := fun e => by rw [e] at hj0; omega
        omega
      · by_cases e : j = n
        · rw [e]; exact hw
        · exact h2 hn j (by omega)
    · simp only [hw, if_false]
      cases hb : best ks n with
      | none =>
        refine ⟨fun b e => ?_, fun e => by simp at e⟩
        obtain rfl : n = b := by simpa using e
        refine ⟨by omega, by omega, fun j hj hj0 => ?_⟩
        have h3 := h2 hb
        by_cases e2 : j = n
        · subst e2; exact ⟨Nat.le_refl _, fun h => by omega⟩
        · have := h3 j (by omega); omega
      | some b =>
        obtain ⟨a1, a2, a3⟩ := h1 b hb
        simp only
        by_cases hc : cO ks n * wO ks b < cO ks b * wO ks n
        · rw [if_pos hc]
          refine ⟨fun b' e => ?_, fun e => by simp at e⟩
          obtain rfl : n = b' := by simpa using e
          refine ⟨by omega, by omega, fun j hj hj0 => ?_⟩
          by_cases e2 : j = n
          · subst e2; exact ⟨Nat.le_refl _, fun h => by omega⟩
          · have q := (a3 j (by omega) hj0).1
            have := frac_lt1 a2 hj0 hc q
            exact ⟨Nat.le_of_lt this, fun _ => this⟩
        · rw [if_neg hc]
          refine ⟨fun b' e => ?_, fun e => by simp at e⟩
          obtain rfl : b = b' := by simpa using e
          refine ⟨by omega, a2, fun j hj hj0 => ?_⟩
          by_cases e2 : j = n
          · subst e2; exact ⟨by omega, fun h => by omega⟩
          · exact a3 j (by omega) hj0

theorem IsB.uniq {ks : List Ky} {n a b : Nat} (ha : IsB ks n a) (hb : IsB ks n b) : a = b := by
  obtain ⟨a1, a2, a3⟩ := ha
  obtain ⟨b1, b2, b3⟩ := hb
  have p := a3 b b1 b2
  have q := b3 a a1 a2
  rcases Nat.lt_trichotomy a b with h | h | h
  · have := q.2 h; omega
  · exact h
  · have := p.2 h; omega

/-- The place b is ahead of all others. -/
def Is (ks : List Ky) (b : Nat) : Prop := IsB ks ks.length b
theorem pick_is {ks : List Ky} {b : Nat} : pick ks = some b ↔ Is ks b := by
  obtain ⟨h1, h2⟩ := best_spec ks ks.length
  refine ⟨h1 b, fun h => ?_⟩
  cases hp : best ks ks.length with
  | none => have := h2 hp b h.1; have := h.2.1; omega
  | some a => exact hp.trans (congrArg some ((h1 a hp).uniq h))
theorem pick_none {ks : List Ky} : pick ks = none ↔ ∀ j, j < ks.length → wO ks j = 0 := by
  obtain ⟨h1, h2⟩ := best_spec ks ks.length
  refine ⟨h2, fun h => ?_⟩
  cases hp : best ks ks.length with
  | none => exact hp
  | some a => have q := h1 a hp; have := h a q.1; have := q.2.1; omega
theorem pick_lt {ks : List Ky} {b : Nat} (h : pick ks = some b) : b < ks.length := (pick_is.1 h).1
theorem pick_some {ks : List Ky} {j : Nat} (hj : j < ks.length) (h : 0 < wO ks j) : ∃ b, pick ks = some b := by
  cases hp : pick ks with
  | none => have := pick_none.1 hp j hj; omega
  | some b => exact ⟨b, rfl⟩

theorem wO_set {ks : List Ky} {k i : Nat} {y : Ky} (hk : k < ks.length) : wO (ks.set k y) i = if i = k then y.2 else wO ks i := by
  unfold wO
  by_cases h : i = k
  · subst h; simp [List.getD, hk]
  · have h' : k ≠ i := fun e => h e.symm
    simp [List.getD, h, h']
theorem cO_set {ks : List Ky} {k i : Nat} {y : Ky} (hk : k < ks.length) : cO (ks.set k y) i = if i = k then y.1 else cO ks i := by
  unfold cO
  by_cases h : i = k
  · subst h; simp [List.getD, hk]
  · have h' : k ≠ i := fun e => h e.symm
    simp [List.getD, h, h']

/-- An item with another weight. -/
def reweigh (ks : List Ky) (k v : Nat) : List Ky := ks.set k (cO ks k, v)
theorem wO_re {ks : List Ky} {k i v : Nat} (hk : k < ks.length) : wO (reweigh ks k v) i = if i = k then v else wO ks i := wO_set hk
theorem cO_re {ks : List Ky} {k i v : Nat} (hk : k < ks.length) : cO (reweigh ks k v) i = cO ks i := by
  unfold reweigh
  rw [cO_set hk]
  by_cases h : i = k
  · subst h; simp
  · simp [h]
theorem re_len {ks : List Ky} {k v : Nat} : (reweigh ks k v).length = ks.length := by simp [reweigh]

/-- Raised: the choice stays, or is that item. -/
theorem raised {ks : List Ky} {k v : Nat} (hk : k < ks.length) (hv : wO ks k < v) : ∃ b, pick (reweigh ks k v) = some b ∧ ∀ a, pick ks = some a → b = a ∨ b = k := by
  obtain ⟨b, hb⟩ := pick_some (ks := reweigh ks k v) (j := k) (by rw [re_len]; exact hk) (by rw [wO_re hk]; simp; omega)
  refine ⟨b, hb, fun a ha => ?_⟩
  by_cases hbk : b = k
  · exact .inr hbk
  · refine .inl ?_
    obtain ⟨b1, b2, b3⟩ := pick_is.1 hb
    rw [re_len] at b1 b3
    rw [wO_re hk, if_neg hbk] at b2
    have hi : Is ks b := by
      refine ⟨b1, b2, fun j hj hj0 => ?_⟩
      have q := b3 j hj (by rw [wO_re hk]; split <;> omega)
      rw [wO_re hk, wO_re hk, if_neg hbk, cO_re hk, cO_re hk] at q
      by_cases e : j = k
      · subst e
        rw [if_pos rfl] at q
        have : cO ks b * wO ks j ≤ cO ks b * v := Nat.mul_le_mul_left _ (Nat.le_of_lt hv)
        exact ⟨by omega, fun h => by have := q.2 h; omega⟩
      · rw [if_neg e] at q; exact q
    exact hi.uniq (pick_is.1 ha)
/-- Lowered, or gone: the choice stays, unless it was that item. -/
theorem lowered {ks : List Ky} {k v : Nat} (hk : k < ks.length) (hv : v < wO ks k) : ∃ a, pick ks = some a ∧ (a ≠ k → pick (reweigh ks k v) = some a) := by
  obtain ⟨a, ha⟩ := pick_some hk (show 0 < wO ks k by omega)
  refine ⟨a, ha, fun hak => pick_is.2 ?_⟩
  obtain ⟨a1, a2, a3⟩ := pick_is.1 ha
  refine ⟨by rw [re_len]; exact a1, by rw [wO_re hk, if_neg hak]; exact a2, fun j hj hj0 => ?_⟩
  rw [re_len] at hj
  rw [wO_re hk] at hj0
  rw [wO_re hk, wO_re hk, if_neg hak, cO_re hk, cO_re hk]
  by_cases e : j = k
  · subst e
    rw [if_pos rfl] at hj0 ⊢
    have q := a3 j hj (by omega)
    have : cO ks a * v ≤ cO ks a * wO ks j := Nat.mul_le_mul_left _ (Nat.le_of_lt hv)
    exact ⟨by omega, fun h => by have := q.2 h; omega⟩
  · rw [if_neg e] at hj0 ⊢
    exact a3 j hj hj0
theorem same_w {ks : List Ky} {k : Nat} (hk : k < ks.length) : reweigh ks k (wO ks k) = ks := by
  unfold reweigh cO wO
  apply List.ext_getElem?
  intro i
  by_cases h : k = i
  · subst h; simp [List.getD, hk]
  · simp [h]

/-- The places, the one that is ahead first. -/
def Ranked (ks : List Ky) (ps : List Nat) : Prop :=
  ps.Pairwise (fun a b => cO ks a * wO ks b ≤ cO ks b * wO ks a ∧ (b ≤ a → cO ks a * wO ks b < cO ks b * wO ks a)) ∧ ∀ i, i ∈ ps ↔ i < ks.length ∧ 0 < wO ks i
theorem Ranked.nil {ks : List Ky} (h : Ranked ks []) : pick ks = none := pick_none.2 fun j hj => by
  have := (h.2 j)
  simp at this
  have := this hj
  omega
theorem Ranked.cons {ks : List Ky} {p : Nat} {ps : List Nat} (h : Ranked ks (p :: ps)) : p < ks.length ∧ pick ks = some p ∧ Ranked (reweigh ks p 0) ps := by
  obtain ⟨h1, h2⟩ := h
  rw [List.pairwise_cons] at h1
  obtain ⟨hp, h1⟩ := h1
  have hin := (h2 p).1 (by simp)
  have hk := hin.1
  have hnot : p ∉ ps := fun hm => by have := (hp p hm).2 (Nat.le_refl _); omega
  refine ⟨hk, pick_is.2 ⟨hin.1, hin.2, fun j hj hj0 => ?_⟩, ?_, fun i => ?_⟩
  · have hm := (h2 j).2 ⟨hj, hj0⟩
    rcases List.mem_cons.1 hm with rfl | hm
    · exact ⟨Nat.le_refl _, fun h => by omega⟩
    · have q := hp j hm
      exact ⟨q.1, fun hlt => q.2 (by omega)⟩
  · refine h1.imp_of_mem ?_
    intro a b ha hb q
    have ea : a ≠ p := fun e => hnot (e ▸ ha)
    have eb : b ≠ p := fun e => hnot (e ▸ hb)
    rw [wO_re hk, wO_re hk, if_neg ea, if_neg eb, cO_re hk, cO_re hk]
    exact q
  · rw [re_len, wO_re hk]
    have q := h2 i
    rw [List.mem_cons] at q
    by_cases e : i = p
    · subst e
      simp [hnot]
    · rw [if_neg e, ← q]
      simp [e]

/-- Any two of unlike places cost unlike by their weights. -/
def Apart (ks : List Ky) : Prop := ∀ i j, i < ks.length → j < i → cO ks i * wO ks j ≠ cO ks j * wO ks i
/-- Where no two cost the same the choice hangs on no order. -/
theorem moved_is {ks ms : List Ky} {f : Nat → Nat} {b : Nat} (hA : Apart ks) (hl : ms.length = ks.length) (hf : ∀ i, i < ks.length → f i < ks.length) (hs : ∀ j, j < ks.length → ∃ i, i < ks.length ∧ f i = j)
    (hc : ∀ i, i < ks.length → cO ms i = cO ks (f i)) (hw : ∀ i, i < ks.length → wO ms i = wO ks (f i)) (h : Is ms b) : Is ks (f b) := by
  obtain ⟨b1, b2, b3⟩ := h
  rw [hl] at b1 b3
  refine ⟨hf b b1, by rw [← hw b b1]; exact b2, fun j hj hj0 => ?_⟩
  obtain ⟨i, hi, rfl⟩ := hs j hj
  have q := (b3 i hi (by rw [hw i hi]; exact hj0)).1
  rw [hw i hi, hw b b1, hc i hi, hc b b1] at q
  refine ⟨q, fun hlt => ?_⟩
  have := hA (f b) (f i) (hf b b1) hlt
  omega

/-- How often each place is chosen, of the first n x. -/
def cntF (l : List It) (b : Nat) : Nat → List Nat
  | 0 => List.replicate l.length 0
  | n + 1 => match pick (keys ((b + n) % 4294967296) 0 l) with
    | none => cntF l b n
    | some p => (cntF l b n).set p ((cntF l b n).getD p 0 + 1)
theorem cntF_len (l : List It) (b : Nat) : ∀ n, (cntF l b n).length = l.length
  | 0 => by simp [cntF]
  | n + 1 => by
    simp only [cntF]
    split
    · exact cntF_len l b n
    · rw [List.length_set]; exact cntF_len l b n
theorem cntF_le (l : List It) (b : Nat) : ∀ n p, (cntF l b n).getD p 0 ≤ n
  | 0, p => by
    simp only [cntF, List.getD]
    cases h : (List.replicate l.length 0)[p]? with
    | none => simp
    | some z => have := List.mem_of_getElem? h; simp at this; simp; omega
  | n + 1, p => by
    simp only [cntF]
    split
    · exact Nat.le_succ_of_le (cntF_le l b n p)
    · rename_i q _
      by_cases e : q = p
      · subst e
        by_cases hq : q < (cntF l b n).length
        · have := cntF_le l b n q
          simp only [List.getD, List.getElem?_set_self hq, Option.getD_some]
          simp only [List.getD] at this
          omega
        · have : ((cntF l b n).set q ((cntF l b n).getD q 0 + 1)).getD q 0 = 0 := by
            simp only [List.getD]
            rw [List.getElem?_eq_none (by rw [List.length_set]; omega)]
            rfl
          omega
      · have : ((cntF l b n).set q ((cntF l b n).getD q 0 + 1)).getD p 0 = (cntF l b n).getD p 0 := by
          simp only [List.getD]
          rw [List.getElem?_set_ne e]
        have := cntF_le l b n p
        omega

/-- Whether two lists' choices are unlike. -/
def unlike (l m : List It) (x : Nat) : Bool := match pick (keys x 0 l), pick (keys x 0 m) with
  | none, none => false
  | some _, none => true
  | none, some _ => true
  | some p, some q => (l.getD p (0, 0)).1 != (m.getD q (0, 0)).1
def movF (l m : List It) (b : Nat) : Nat → Nat
  | 0 => 0
  | n + 1 => movF l m b n + if unlike l m ((b + n) % 4294967296) then 1 else 0
theorem movF_le (l m : List It) (b : Nat) : ∀ n, movF l m b n ≤ n
  | 0 => Nat.le_refl _
  | n + 1 => by
    have := movF_le l m b n
    simp only [movF]
    split <;> omega

theorem aw_cnt : cntF [(1, 65536), (2, 196608)] 0 400 = [98, 302] := by decide +kernel
end Go.Proofs.Ytcofmfjhgbihkaa.crush
