/- What a loss makes of each sector; texts of bytes. -/
import Derived.Test.YtkhghkklekjdaaaDoorRows
import Derived.Test.YtkhghkklekjdaaaDoorSectorLift
namespace Go.Proofs.YtkhghkklekjdaaaDoor.sector
open Go.RowKit
open Go.Proofs.YtkhghkklekjdaaaDoor.kit Go.Proofs.YtkhghkklekjdaaaDoor.own
set_option linter.unusedVariables false

theorem putC_same (m : Dev) (k : Nat) (x : List Nat) : (putC m k x).power = m.power ∧ (putC m k x).n = m.n ∧ (putC m k x).cut = m.cut ∧ (putC m k x).ws = m.ws ∧ (putC m k x).fs = m.fs ∧ (putC m k x).laid = m.laid := by
  unfold putC
  split <;> exact ⟨rfl, rfl, rfl, rfl, rfl, rfl⟩
theorem wrote_same (m : Dev) (k : Nat) (x : List Nat) : (wrote m k x).power = m.power ∧ (wrote m k x).n = m.n ∧ (wrote m k x).cut = (m.cut.map fun p => (p.1 - 1, p.2)) ∧ (wrote m k x).ws = m.ws + 1 ∧ (wrote m k x).fs = m.fs ∧ (wrote m k x).laid = m.laid := by
  obtain ⟨h1, h2, h3, h4, h5, h6⟩ := putC_same (afterLets m) k x
  refine ⟨h1, h2, h3, ?_, h5, h6⟩
  show (putC (afterLets m) k x).ws + 1 = _
  rw [h4]; rfl
/-- What lies in the cache behind a write: what lay there, of other sectors, and the new bytes. -/
theorem wrote_cache {m : Dev} (h : m.Ok) (k : Nat) (x : List Nat) : ∀ p ∈ (wrote m k x).cache, p = (k, x) ∨ (p ∈ m.cache ∧ p.1 ≠ k) := by
  intro p hp
  have e : (wrote m k x).cache = (putC (afterLets m) k x).cache := rfl
  rw [e] at hp
  unfold putC at hp
  have ek : keys (afterLets m).cache = keys m.cache := rfl
  have ec : (afterLets m).cache = m.cache := rfl
  rw [ek, ec] at hp
  by_cases hj : (keys m.cache).idxOf k < m.cache.length
  · rw [if_pos hj] at hp
    have hp' : p ∈ m.cache.set ((keys m.cache).idxOf k) (k, x) := hp
    obtain ⟨i, hi, he⟩ := List.mem_iff_getElem.1 hp'
    rw [List.length_set] at hi
    rw [List.getElem_set] at he
    by_cases e2 : (keys m.cache).idxOf k = i
    · rw [if_pos e2] at he
      exact .inl he.symm
    · rw [if_neg e2] at he
      refine .inr ⟨by rw [← he]; exact List.getElem_mem hi, fun hk => e2 ?_⟩
      have h1 := idx_hit (ns := keys m.cache) (k := k) (by rw [keys_len]; exact hj)
      have hi' : i < (keys m.cache).length := by rw [keys_len]; exact hi
      have hj' : (keys m.cache).idxOf k < (keys m.cache).length := by rw [keys_len]; exact hj
      have h2 : (keys m.cache)[(keys m.cache).idxOf k]'hj' = (keys m.cache)[i]'hi' := by
        rw [List.getElem_idxOf hj']
        simp only [keys, List.getElem_map]
        rw [he]; exact hk.symm
      exact (List.getElem_inj h.once).1 h2
  · rw [if_neg hj] at hp
    have hp' : p ∈ m.cache ++ [(k, x)] := hp
    rcases List.mem_append.1 hp' with h1 | h1
    · refine .inr ⟨h1, fun hk => ?_⟩
      have := keys_out (c := m.cache) (k := k) (by
        have := idx_miss (ns := keys m.cache) (k := k) (by rw [keys_len]; exact hj)
        simpa using this)
      exact this (by rw [← hk]; exact List.mem_map_of_mem h1)
    · simp at h1
      exact .inl h1

/-- The text of bytes. -/
def strN (ns : List Nat) : ByteArray := strOfNums (ns.map fun n : Nat => (n : Int))
theorem conv_sl {w : World} {v : Value} {ns : List Nat} (h : SlI w .u8 v ns) : (convert 22 9 v).run Tryd.prog w = .ok (.string (strN ns)) w :=
  conv_bytes (P := Tryd.prog) 22 5 9 Tryd.underlying22 Tryd.underlying5 Tryd.underlying9 h

/-- What is laid at k is read there, and nowhere else. -/
theorem sectorOf_layAt {l : List Nat} {n : Nat} (hl : l.length = 64 * n) {k k' : Nat} {x : List Nat} (hx : x.length = 64) (hk : k < n) : sectorOf (layAt l k x) k' = if k' = k then x else sectorOf l k' := by
  apply List.ext_getElem?
  intro i
  simp only [sectorOf, layAt, splice, List.getElem?_take]
  by_cases hi : i < 64
  · rw [if_pos hi, List.getElem?_drop]
    have h1 : (l.take (k * 64)).length = k * 64 := by rw [List.length_take]; omega
    by_cases hkk : k' = k
    · subst hkk
      rw [if_pos rfl, List.getElem?_append_right (by omega), h1, List.getElem?_append_left (by omega), show k' * 64 + i - k' * 64 = i by omega]
    · rw [if_neg hkk, List.getElem?_take, if_pos hi, List.getElem?_drop]
      rcases Nat.lt_or_ge k' k with h | h
      · have := Nat.mul_le_mul_right 64 (show k' + 1 ≤ k from h)
        rw [List.getElem?_append_left (by omega), List.getElem?_take, if_pos (by omega)]
      · have := Nat.mul_le_mul_right 64 (show k + 1 ≤ k' by omega)
        rw [List.getElem?_append_right (by omega), h1, List.getElem?_append_right (by omega), List.getElem?_drop, hx]
        congr 1
        omega
  · rw [if_neg hi]
    split
    · rw [List.getElem?_eq_none (by omega)]
    · rw [List.getElem?_take, if_neg hi]

/-- Behind a loss a sector has what it had, or what lay in the cache of it. -/
theorem settleF_or (p n : Nat) (k : Nat) : ∀ (c : List (Nat × List Nat)) (j : Nat) (l : List Nat), (∀ q ∈ c, q.1 < n ∧ q.2.length = 64 ∧ ∀ x ∈ q.2, x < 256) → l.length = 64 * n →
    sectorOf (settleF p j c l) k = sectorOf l k ∨ ∃ q ∈ c, q.1 = k ∧ sectorOf (settleF p j c l) k = q.2
  | [], j, l, _, _ => .inl rfl
  | y :: c, j, l, hc, hl => by
    have hy := hc y (by simp)
    unfold settleF
    split
    · rcases settleF_or p n k c (j + 1) _ (fun q hq => hc q (by simp [hq])) (layAt_len hl hy.2.1 hy.1) with h | ⟨q, hq, h1, h2⟩
      · rw [h, sectorOf_layAt hl hy.2.1 hy.1]
        by_cases e : k = y.1
        · rw [if_pos e]
          exact .inr ⟨y, by simp, e.symm, rfl⟩
        · rw [if_neg e]
          exact .inl rfl
      · exact .inr ⟨q, by simp [hq], h1, h2⟩
    · rcases settleF_or p n k c (j + 1) l (fun q hq => hc q (by simp [hq])) hl with h | ⟨q, hq, h1, h2⟩
      · exact .inl h
      · exact .inr ⟨q, by simp [hq], h1, h2⟩
/-- A sector that isn't in the cache keeps what it had. -/
theorem settleF_not (p n : Nat) (k : Nat) : ∀ (c : List (Nat × List Nat)) (j : Nat) (l : List Nat), (∀ q ∈ c, q.1 < n ∧ q.2.length = 64 ∧ ∀ x ∈ q.2, x < 256) → l.length = 64 * n → k ∉ keys c →
    sectorOf (settleF p j c l) k = sectorOf l k := by
  intro c j l hc hl hk
  rcases settleF_or p n k c j l hc hl with h | ⟨q, hq, h1, _⟩
  · exact h
  · exact absurd (by rw [← h1]; exact List.mem_map_of_mem hq) hk
/-- What the pick says is laid down. -/
theorem settleF_bit (p n : Nat) : ∀ (c : List (Nat × List Nat)) (j : Nat) (l : List Nat), (∀ q ∈ c, q.1 < n ∧ q.2.length = 64 ∧ ∀ x ∈ q.2, x < 256) → l.length = 64 * n → (keys c).Nodup →
    ∀ i, i < c.length → bitAt p (j + i) = 1 → sectorOf (settleF p j c l) ((keys c).getD i 0) = nth c i
  | [], j, l, _, _, _, i, hi, _ => by simp at hi
  | y :: c, j, l, hc, hl, hn, i, hi, hb => by
    have hy := hc y (by simp)
    have hn' : y.1 ∉ keys c ∧ (keys c).Nodup := by simpa [keys] using hn
    unfold settleF
    cases i with
    | zero =>
      rw [if_pos (by simpa using hb)]
      have e1 : (keys (y :: c)).getD 0 0 = y.1 := rfl
      have e2 : nth (y :: c) 0 = y.2 := rfl
      rw [e1, e2, settleF_not p n y.1 c (j + 1) _ (fun q hq => hc q (by simp [hq])) (layAt_len hl hy.2.1 hy.1) hn'.1, sectorOf_layAt hl hy.2.1 hy.1, if_pos rfl]
    | succ i =>
      have e1 : (keys (y :: c)).getD (i + 1) 0 = (keys c).getD i 0 := rfl
      have e2 : nth (y :: c) (i + 1) = nth c i := rfl
      rw [e1, e2]
      split
      · exact settleF_bit p n c (j + 1) _ (fun q hq => hc q (by simp [hq])) (layAt_len hl hy.2.1 hy.1) hn'.2 i (by simpa using hi) (by rw [show j + 1 + i = j + (i + 1) by omega]; exact hb)
      · exact settleF_bit p n c (j + 1) l (fun q hq => hc q (by simp [hq])) hl hn'.2 i (by simpa using hi) (by rw [show j + 1 + i = j + (i + 1) by omega]; exact hb)

end Go.Proofs.YtkhghkklekjdaaaDoor.sector
