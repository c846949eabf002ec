/- What stands in a journal's row, call by call. -/
import Derived.Test.YtgdfdljgbogbnaaDoorRows
import Derived.Test.YtgdfdljgbogbnaaDoorJournalDevM
import Derived.Test.YtgdfdljgbogbnaaDoorJournalApp
namespace Go.Proofs.YtgdfdljgbogbnaaDoor.journal
open Go.RowKit
open Go.Proofs.YtgdfdljgbogbnaaDoor.kit Go.Proofs.YtgdfdljgbogbnaaDoor.own Go.Proofs.YtgdfdljgbogbnaaDoor.jm Go.Proofs.YtgdfdljgbogbnaaDoor.sector
set_option linter.unusedVariables false

/-- A device at rest: its cache is empty. -/
structure Rests (m : Dev) : Prop where
  ok : m.Ok
  power : m.power = true
  cache : m.cache = []

/-- What a row's sectors tell where a record was laid into it, whole or in part. -/
theorem pcs_mixed {m m' : Dev} {num : Nat} {text : List Nat} {from_ n k : Nat} (hf : from_ + n ≤ m.n) (h1 : 1 ≤ num) (h2 : num ≤ maxNum) (hk : k + need text.length ≤ n)
    (h : ∀ j, sector.look m' j = sector.look m j ∨ (from_ + k ≤ j ∧ j < from_ + k + need text.length ∧ sector.look m' j = pieceB num text (j - (from_ + k)))) :
    Mixed num text ((pcsOf m from_ n).drop k) ((pcsOf m' from_ n).drop k) ∧ (pcsOf m' from_ n).take k = (pcsOf m from_ n).take k := by
  have hl : (pcsOf m from_ n).length = n := pcsOf_len _ _ _
  have hl' : (pcsOf m' from_ n).length = n := pcsOf_len _ _ _
  refine ⟨⟨by rw [List.length_drop, List.length_drop, hl, hl'], by rw [List.length_drop, hl]; omega, fun i hi => ?_⟩, ?_⟩
  · rw [List.length_drop, hl] at hi
    rw [List.getElem?_drop, pcsOf_at m' from_ n (k + i) (by omega)]
    have e : ((pcsOf m from_ n).drop k)[i]'(by rw [List.length_drop, hl]; exact hi) = pcOf (sector.look m (from_ + (k + i))) := by
      rw [List.getElem_drop]
      have := pcsOf_at m from_ n (k + i) (by omega)
      rw [List.getElem?_eq_getElem (by rw [hl]; omega)] at this
      exact Option.some.inj this
    rw [e]
    rcases h (from_ + (k + i)) with h3 | ⟨h3, h4, h5⟩
    · rw [h3]; exact .inl rfl
    · right
      refine ⟨by omega, ?_⟩
      rw [h5, show from_ + (k + i) - (from_ + k) = i by omega, pcOf_piece num text i h1 h2]
  · refine List.ext_getElem? fun i => ?_
    rw [List.getElem?_take, List.getElem?_take]
    split
    · next hi =>
      rw [pcsOf_at m' from_ n i (by omega), pcsOf_at m from_ n i (by omega)]
      rcases h (from_ + i) with h3 | ⟨h3, _, _⟩
      · rw [h3]
      · omega
    · rfl

/-- The journal holds just these records, and its next number is a new one. -/
structure Stood (first from_ n : Nat) (recs : List (List Nat)) (j : Jn) (m : Dev) : Prop where
  rest : Rests m
  fits : from_ + n ≤ m.n
  jf : j.from_ = from_
  je : j.end_ = from_ + n
  torn : j.torn = false
  at_ : ∃ k, j.at_ = from_ + k ∧ Stands (first - 1) (pcsOf m from_ n) recs k
  first1 : 1 ≤ first
  next : first ≤ j.next
  new : ∀ p ∈ pcsOf m from_ n, p.num < j.next

theorem Stood.room {first from_ n : Nat} {recs : List (List Nat)} {j : Jn} {m : Dev} (h : Stood first from_ n recs j m) : j.at_ ≤ j.end_ := by
  obtain ⟨k, hk, hs⟩ := h.at_
  have := hs.len
  rw [pcsOf_len] at this
  rw [hk, h.je]; omega

theorem mem_drop_num {N : Nat} {V : List Pc} {k : Nat} (h : ∀ p ∈ V, p.num < N) : ∀ p ∈ V.drop k, p.num < N := fun p hp => h p (List.mem_of_mem_drop hp)

/-- An append, whole or torn. -/
theorem Stood.app {first from_ n : Nat} {recs : List (List Nat)} {j : Jn} {m : Dev} {text : List Nat} (h : Stood first from_ n recs j m) (h8 : ∀ x ∈ text, x < 256)
    (hl : ¬ leftV j.end_ j.at_ j.next < need text.length) (hws : m.ws + 4096 < 4611686018427387904) (hfs : m.fs + 1 < 4611686018427387904) :
    ((appD j.next text j.at_ m).2 = true ∧ AppOk j.next text j.at_ m (appD j.next text j.at_ m).1 ∧ Stood first from_ n (recs ++ [text]) { j with at_ := j.at_ + need text.length, next := j.next + 1 } (appD j.next text j.at_ m).1) ∨
    ((appD j.next text j.at_ m).2 = false ∧ AppBad j.next text j.at_ m (appD j.next text j.at_ m).1 ∧
      ((∃ k, Stands (first - 1) (pcsOf (appD j.next text j.at_ m).1 from_ n) recs k) ∨ ∃ k, Stands (first - 1) (pcsOf (appD j.next text j.at_ m).1 from_ n) (recs ++ [text]) k)) := by
  obtain ⟨k, hk, hs⟩ := h.at_
  have hnp := need_pos text.length
  have hklen := hs.len
  rw [pcsOf_len] at hklen
  have hmn := h.rest.ok.n
  have hft := h.fits
  have hnx : j.next ≤ maxNum := by
    unfold leftV at hl
    split at hl
    · omega
    · unfold maxNum; omega
  have hnd : k + need text.length ≤ n := by
    unfold leftV at hl
    rw [if_neg (by unfold maxNum at hnx; omega), hk, h.je] at hl
    omega
  have hlen : text.length < 4294967296 := by have := need_ge text.length; omega
  have hn1 : 1 ≤ j.next := Nat.le_trans h.first1 h.next
  obtain ⟨last2, l1, l2, l3⟩ := hs.split
  have hl2 : last2 < j.next := by
    rcases l1 with rfl | ⟨p, hp, rfl⟩
    · have := h.next; have := h.first1; omega
    · exact h.new p hp
  rcases appD_out j.next text j.at_ m h.rest.ok h.rest.power h.rest.cache h8 (by rw [hk]; omega) (by omega) hfs with ⟨e1, e2⟩ | ⟨e1, e2⟩
  · left
    refine ⟨e1, e2, ?_⟩
    obtain ⟨a1, a2, a3, a4, a5, a6, a7, a8⟩ := e2
    generalize (appD j.next text j.at_ m).1 = m' at a1 a2 a3 a4 a5 a6 a7 a8
    rw [hk] at a8
    obtain ⟨hm, ht⟩ := pcs_mixed (m := m) (m' := m') (text := text) (from_ := from_) (n := n) (k := k) hft hn1 hnx hnd (fun i => by
      rw [a8 i]
      split
      · next hi => exact .inr ⟨hi.1, hi.2, rfl⟩
      · exact .inl rfl)
    have hall : ∀ i, i < need text.length → ((pcsOf m' from_ n).drop k)[i]? = some ⟨if i = 0 then 1 else 2, j.next, restB j.next text i⟩ := by
      intro i hi
      rw [List.getElem?_drop, pcsOf_at m' from_ n (k + i) (by omega), a8, if_pos ⟨by omega, by omega⟩, show from_ + (k + i) - (from_ + k) = i by omega, pcOf_piece _ _ _ hn1 hnx]
    have hst := new_stands hm hall hlen fm.crc_lt (mem_drop_num h.new) hl2 l2
    have hfull := l3 _ hm.len _ _ hst
    rw [← ht, List.take_append_drop] at hfull
    refine ⟨⟨a1, a2, a3⟩, by rw [a4]; exact hft, h.jf, h.je, h.torn, ⟨k + need text.length, by simp only [hk]; omega, hfull⟩, h.first1, by have := h.next; simp only; omega, fun p hp => ?_⟩
    simp only
    obtain ⟨i, hi⟩ := List.getElem?_of_mem hp
    have hin : i < n := by have := (List.getElem?_eq_some_iff.1 hi).1; rw [pcsOf_len] at this; exact this
    rw [pcsOf_at m' from_ n i hin, a8] at hi
    by_cases hz : from_ + k ≤ from_ + i ∧ from_ + i < from_ + k + need text.length
    · rw [if_pos hz, pcOf_piece _ _ _ hn1 hnx] at hi
      cases hi
      simp only; omega
    · rw [if_neg hz] at hi
      have := h.new p (List.mem_of_getElem? (i := i) (by rw [pcsOf_at m from_ n i hin]; exact hi))
      omega
  · right
    refine ⟨e1, e2, ?_⟩
    obtain ⟨a1, a2, a3, a4, a5, a6, a7, a8, a9⟩ := e2
    generalize (appD j.next text j.at_ m).1 = m' at a1 a2 a3 a4 a5 a6 a7 a9
    rw [hk] at a9
    obtain ⟨hm, ht⟩ := pcs_mixed (m := m) (m' := m') (text := text) (from_ := from_) (n := n) (k := k) hft hn1 hnx hnd a9
    rcases mixed_stands hm hlen fm.crc_lt (mem_drop_num h.new) hl2 l2 with hst | hst
    · left
      have hfull := l3 _ hm.len _ _ hst
      rw [← ht, List.take_append_drop, List.append_nil] at hfull
      exact ⟨_, hfull⟩
    · right
      have hfull := l3 _ hm.len _ _ hst
      rw [← ht, List.take_append_drop] at hfull
      exact ⟨_, hfull⟩

theorem le_gmax {V : List Pc} {p : Pc} (hp : p ∈ V) : p.num ≤ gmax V := by
  obtain ⟨A, B, rfl⟩ := List.append_of_mem hp
  unfold gmax
  rw [List.foldl_append, List.foldl_cons]
  have h : ∀ (B : List Pc) (a : Nat), a ≤ B.foldl (fun a p => max a p.num) a := by
    intro B
    induction B with
    | nil => intro a; exact Nat.le_refl _
    | cons q B ih => intro a; rw [List.foldl_cons]; exact Nat.le_trans (Nat.le_max_left _ _) (ih _)
  exact Nat.le_trans (Nat.le_max_right _ _) (h _ _)
/-- Behind Open. -/
theorem stood_open {m : Dev} (hm : Rests m) (d first from_ n : Nat) (hf : from_ + n ≤ m.n) (h1 : 1 ≤ first) :
    Stood first from_ n (standF first (pcsOf m from_ n)).1 ⟨d, from_, from_ + n, from_ + (standF first (pcsOf m from_ n)).2, max (gmax (pcsOf m from_ n) + 1) first, false⟩ m :=
  ⟨hm, hf, rfl, rfl, rfl, ⟨_, rfl, stands_of first _ (pcsOf_ok hm.ok from_ n hf)⟩, h1, Nat.le_max_right _ _, fun p hp => by have := le_gmax hp; simp only; omega⟩

end Go.Proofs.YtgdfdljgbogbnaaDoor.journal
