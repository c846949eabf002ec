/- The document's journal's mathematics: what it reads at a sector. -/
import Derived.Test.YtkhghkklekjdaaaDoorRows
import Derived.Test.YtkhghkklekjdaaaDoorJournalMath
import Derived.Test.YtkhghkklekjdaaaDoorJournalGreat
namespace Go.Proofs.YtkhghkklekjdaaaDoor.jm
open Go.Proofs.YtkhghkklekjdaaaDoor.fm (crc)
set_option linter.unusedVariables false

theorem le_ofLe : ∀ (l : List Nat), (∀ b ∈ l, b < 256) → le l.length (ofLe l) = l
  | [], _ => rfl
  | b :: l, h => by
    have h1 := h b List.mem_cons_self
    have h2 := le_ofLe l (fun x hx => h x (List.mem_cons_of_mem _ hx))
    simp only [List.length_cons, le, ofLe]
    rw [show (b + 256 * ofLe l) % 256 = b by omega, show (b + 256 * ofLe l) / 256 = ofLe l by omega, h2]

/-- The count that a record's first sector bears. -/
def cntS (b : List Nat) : Nat := ofLe ((b.drop 9).take 4)
/-- The bytes of the sectors behind the first, so many of them. -/
def tailS (S : Nat → List Nat) (at_ k : Nat) : List Nat := (List.range k).flatMap fun i => (S (at_ + 1 + i)).drop 9
def goodS (S : Nat → List Nat) (at_ i : Nat) : Prop := (S (at_ + 1 + i)).getD 0 0 = 2 ∧ (pcOf (S (at_ + 1 + i))).num = (pcOf (S at_)).num
def textS (S : Nat → List Nat) (at_ : Nat) : List Nat := ((S at_).drop 17 ++ tailS S at_ (need (cntS (S at_)) - 1)).take (cntS (S at_))
/-- Whether the document finds a record there. -/
def foundS (S : Nat → List Nat) (n at_ : Nat) : Prop :=
  (S at_).getD 0 0 = 1 ∧ at_ + need (cntS (S at_)) ≤ n ∧ (∀ i, i < need (cntS (S at_)) - 1 → goodS S at_ i) ∧ crc (((S at_).drop 1).take 12 ++ textS S at_) = ofLe (((S at_).drop 13).take 4)

theorem tailS_succ (S : Nat → List Nat) (at_ k : Nat) : tailS S at_ (k + 1) = tailS S at_ k ++ (S (at_ + 1 + k)).drop 9 := by
  simp [tailS, List.range_succ]
theorem tailS_len {S : Nat → List Nat} {at_ : Nat} : ∀ k, (∀ i, i < k → (S (at_ + 1 + i)).length = 64) → (tailS S at_ k).length = 55 * k
  | 0, _ => rfl
  | k + 1, h => by
    rw [tailS_succ, List.length_append, tailS_len k (fun i hi => h i (by omega)), List.length_drop, h k (by omega)]
    omega

theorem pc_num0 {b : List Nat} (h : (pcOf b).num = 0) : (pcOf b).mark = 0 := by
  unfold pcOf at h ⊢
  split
  · next hc => rw [if_pos hc] at h; simp only at h; omega
  · rfl
theorem pc_num1 {b : List Nat} (h : 1 ≤ (pcOf b).num) : (b.getD 0 0 = 1 ∨ b.getD 0 0 = 2) ∧ pcOf b = ⟨b.getD 0 0, ofLe ((b.drop 1).take 8), b.drop 9⟩ := by
  unfold pcOf at h ⊢
  split
  · next hc => exact ⟨hc.1, rfl⟩
  · next hc => rw [if_neg hc] at h; simp only at h; omega

theorem found_whole {S : Nat → List Nat} {n at_ : Nat} (hat : at_ < n) (hl : ∀ i, i < n → (S i).length = 64 ∧ ∀ x ∈ S i, x < 256) {V : List Pc} (hV : V = (List.range n).map fun i => pcOf (S i)) (h1 : 1 ≤ (pcOf (S at_)).num) :
    (foundS S n at_ ↔ WholeAt 0 (V.drop at_)) ∧ (foundS S n at_ → need (cnt (V.drop at_)) = need (cntS (S at_)) ∧ textS S at_ = textAt (cnt (V.drop at_)) (need (cnt (V.drop at_))) (V.drop at_)) := by
  obtain ⟨hm, hp⟩ := pc_num1 h1
  have hd : V.drop at_ = pcOf (S at_) :: V.drop (at_ + 1) := by
    rw [List.drop_eq_getElem_cons (by rw [hV]; simpa using hat)]
    congr 1
    simp [hV]
  have hlen : (V.drop (at_ + 1)).length = n - at_ - 1 := by rw [hV]; simp; omega
  have hget : ∀ i, i < n - at_ - 1 → (V.drop (at_ + 1))[i]? = some (pcOf (S (at_ + 1 + i))) := by
    intro i hi
    rw [hV, List.getElem?_drop, List.getElem?_map, List.getElem?_range (by omega)]
    rfl
  have hc : ofLe ((pcOf (S at_)).rest.take 4) = cntS (S at_) := by rw [hp]; rfl
  have htk : ∀ k, k ≤ n - at_ - 1 → (V.drop (at_ + 1)).take k = (List.range k).map fun i => pcOf (S (at_ + 1 + i)) := by
    intro k hk
    refine List.ext_getElem? fun i => ?_
    rw [List.getElem?_take]
    split
    · next hi => rw [hget i (by omega), List.getElem?_map, List.getElem?_range hi]; rfl
    · next hi => rw [List.getElem?_eq_none (by simpa using hi)]
  have hn1 : (pcOf (S at_)).mark = (S at_).getD 0 0 := by rw [hp]
  have hsum : ofLe (((pcOf (S at_)).rest.drop 4).take 4) = ofLe (((S at_).drop 13).take 4) := by rw [hp]; simp [List.drop_drop]
  obtain ⟨hl64, hl8⟩ := hl at_ hat
  have hk : need (cntS (S at_)) - 1 + 1 = need (cntS (S at_)) := by have := need_pos (cntS (S at_)); omega
  -- where the sectors behind are good, the bytes are the same
  have htxt : at_ + need (cntS (S at_)) ≤ n → (∀ i, i < need (cntS (S at_)) - 1 → goodS S at_ i) → textAt (cntS (S at_)) (need (cntS (S at_))) (V.drop at_) = textS S at_ := by
    intro h2 h3
    rw [hd]
    unfold textAt textS
    simp only
    rw [htk _ (by omega)]
    congr 2
    · rw [hp]; simp [List.drop_drop]
    · unfold tailS
      rw [List.flatMap_map]
      have : ∀ (l : List Nat), (∀ i ∈ l, i < need (cntS (S at_)) - 1) → l.flatMap (fun i => (pcOf (S (at_ + 1 + i))).rest) = l.flatMap fun i => (S (at_ + 1 + i)).drop 9 := by
        intro l
        induction l with
        | nil => intro _; rfl
        | cons i l ih =>
          intro h
          rw [List.flatMap_cons, List.flatMap_cons, ih fun j hj => h j (List.mem_cons_of_mem _ hj)]
          have := h3 i (h i List.mem_cons_self)
          rw [(pc_num1 (by rw [this.2]; exact h1)).2]
      exact this _ fun i hi => by simpa using hi
  have hcrc : at_ + need (cntS (S at_)) ≤ n → sumR (pcOf (S at_)).num (textS S at_) = crc (((S at_).drop 1).take 12 ++ textS S at_) := by
    intro h2
    have hlt : (textS S at_).length = cntS (S at_) := by
      unfold textS
      rw [List.length_take, List.length_append, tailS_len _ (fun i hi => (hl _ (by omega)).1), List.length_drop, hl64]
      have := need_ge (cntS (S at_))
      omega
    unfold sumR
    rw [hlt]
    congr 1
    congr 1
    have e1 : (pcOf (S at_)).num = ofLe (((S at_).drop 1).take 8) := by rw [hp]
    have e2 := le_ofLe (((S at_).drop 1).take 8) (fun x hx => hl8 x (List.mem_of_mem_drop (List.mem_of_mem_take hx)))
    have e3 := le_ofLe (((S at_).drop 9).take 4) (fun x hx => hl8 x (List.mem_of_mem_drop (List.mem_of_mem_take hx)))
    rw [show (((S at_).drop 1).take 8).length = 8 by simp [hl64]] at e2
    rw [show (((S at_).drop 9).take 4).length = 4 by simp [hl64]] at e3
    unfold cntS
    rw [e1, e2, e3, show (12 : Nat) = 8 + 4 from rfl, List.take_add, List.drop_drop]
  have hiff : foundS S n at_ ↔ WholeAt 0 (V.drop at_) := by
    have hw : WholeAt 0 (V.drop at_) ↔ (S at_).getD 0 0 = 1 ∧ 0 < (pcOf (S at_)).num ∧ need (cntS (S at_)) ≤ n - at_ - 1 + 1 ∧ (∀ q ∈ (V.drop (at_ + 1)).take (need (cntS (S at_)) - 1), q.mark = 2 ∧ q.num = (pcOf (S at_)).num) ∧ sumR (pcOf (S at_)).num (textAt (cntS (S at_)) (need (cntS (S at_))) (V.drop at_)) = ofLe (((S at_).drop 13).take 4) := by
      rw [← hlen, ← hn1, ← hsum, ← hc, hd]
      exact Iff.rfl
    rw [hw]
    unfold foundS
    constructor
    · rintro ⟨a1, a2, a3, a4⟩
      refine ⟨a1, by omega, by omega, ?_, ?_⟩
      · rw [htk _ (by omega)]
        intro q hq
        obtain ⟨i, hi, rfl⟩ := List.mem_map.1 hq
        have := a3 i (by simpa using hi)
        obtain ⟨_, b2⟩ := pc_num1 (by rw [this.2]; exact h1 : 1 ≤ (pcOf (S (at_ + 1 + i))).num)
        exact ⟨by rw [b2]; exact this.1, this.2⟩
      · rw [htxt a2 a3, hcrc a2]; exact a4
    · rintro ⟨a1, a2, a3, a4, a5⟩
      have a2' : at_ + need (cntS (S at_)) ≤ n := by omega
      have a3' : ∀ i, i < need (cntS (S at_)) - 1 → goodS S at_ i := by
        intro i hi
        have := a4 (pcOf (S (at_ + 1 + i))) (by rw [htk _ (by omega)]; exact List.mem_map_of_mem (by simpa using hi))
        obtain ⟨_, b2⟩ := pc_num1 (by rw [this.2]; exact h1 : 1 ≤ (pcOf (S (at_ + 1 + i))).num)
        exact ⟨by rw [b2] at this; exact this.1, this.2⟩
      refine ⟨a1, a2', a3', ?_⟩
      rw [htxt a2' a3', hcrc a2'] at a5
      exact a5
  refine ⟨hiff, fun hf => ?_⟩
  have hcn : cnt (V.drop at_) = cntS (S at_) := by rw [hd]; exact hc
  rw [hcn]
  exact ⟨rfl, (htxt hf.2.1 hf.2.2.1).symm⟩
theorem not_whole {S : Nat → List Nat} {n at_ : Nat} (hat : at_ < n) {V : List Pc} (hV : V = (List.range n).map fun i => pcOf (S i)) (h0 : (pcOf (S at_)).num = 0) (last : Nat) : ¬ WholeAt last (V.drop at_) := by
  have hd : V.drop at_ = pcOf (S at_) :: V.drop (at_ + 1) := by
    rw [List.drop_eq_getElem_cons (by rw [hV]; simpa using hat)]
    congr 1
    simp [hV]
  rw [hd]
  intro h
  have := h.2.1
  omega
theorem whole_last {last : Nat} {ps : List Pc} : WholeAt last ps ↔ WholeAt 0 ps ∧ last < numAt ps := by
  cases ps with
  | nil => exact ⟨fun h => h.elim, fun h => h.1.elim⟩
  | cons p ps =>
    unfold WholeAt numAt
    constructor
    · rintro ⟨a, b, c⟩; exact ⟨⟨a, by omega, c⟩, b⟩
    · rintro ⟨⟨a, _, c⟩, b⟩; exact ⟨a, b, c⟩

end Go.Proofs.YtkhghkklekjdaaaDoor.jm
