/- What is taken and what is left; sectors there and back. -/
import Derived.Test.YtijafehhhknamaaExtV
import Derived.Test.YtijafehhhknamaaExtMath2
import Derived.Test.YtijafehhhknamaaExtIter
import Derived.Test.YtijafehhhknamaaExtLawT
namespace Go.Proofs.Ytijafehhhknamaa.ext
set_option linter.unusedVariables false

theorem split_spec : ∀ (xs : List Wy) (n : Int), Pos xs → 1 ≤ n → n ≤ sumE xs →
    Pos (splitE xs n).1 ∧ Pos (splitE xs n).2 ∧ sumE (splitE xs n).1 = n ∧ sumE (splitE xs n).1 + sumE (splitE xs n).2 = sumE xs ∧ (∀ k, cnt (splitE xs n).1 k + cnt (splitE xs n).2 k = cnt xs k) ∧ (∀ y ∈ (splitE xs n).2, ∃ x ∈ xs, x.1 ≤ y.1)
  | [], n, _, h1, h2 => by simp only [sumE] at h2; omega
  | x :: r, n, hp, h1, h2 => by
    have hx := hp x (List.mem_cons_self ..)
    have hr : Pos r := fun z hz => hp z (List.mem_cons_of_mem _ hz)
    simp only [sumE] at h2
    rw [splitE]
    by_cases c1 : x.2 < n
    · rw [if_pos c1]
      obtain ⟨i1, i2, i3, i4, i5, i6⟩ := split_spec r (n - x.2) hr (by omega) (by omega)
      refine ⟨?_, i2, ?_, ?_, ?_, ?_⟩
      · intro z hz
        rcases List.mem_cons.1 hz with rfl | hz
        · exact hx
        · exact i1 z hz
      · simp only [sumE]; omega
      · simp only [sumE]; omega
      · intro k
        simp only
        rw [cnt_cons, cnt_cons, ← i5 k]; omega
      · intro y hy
        obtain ⟨z, hz, h⟩ := i6 y hy
        exact ⟨z, List.mem_cons_of_mem _ hz, h⟩
    · rw [if_neg c1]
      by_cases c2 : x.2 = n
      · rw [if_pos c2]
        refine ⟨?_, hr, ?_, ?_, ?_, ?_⟩
        · intro z hz
          rw [List.mem_singleton.1 hz]; exact hx
        · simp only [sumE]; omega
        · simp only [sumE]; omega
        · intro k
          simp only
          rw [cnt_cons, cnt_cons]
          have : cnt [] k = 0 := rfl
          omega
        · intro y hy
          exact ⟨y, List.mem_cons_of_mem _ hy, Int.le_refl _⟩
      · rw [if_neg c2]
        refine ⟨?_, ?_, ?_, ?_, ?_, ?_⟩
        · intro z hz
          rw [List.mem_singleton.1 hz]; exact h1
        · intro z hz
          rcases List.mem_cons.1 hz with rfl | hz
          · simp only; omega
          · exact hr z hz
        · simp only [sumE]; omega
        · simp only [sumE]; omega
        · intro k
          simp only
          rw [cnt_cons, cnt_cons, cnt_cons]
          have h0 : cnt [] k = 0 := rfl
          by_cases a1 : inE k (x.1, n) = true
          · have a1' := (inE_iff _ _).1 a1
            simp only at a1'
            have a2 : ¬ inE k (x.1 + n, x.2 - n) = true := fun h => by have := (inE_iff _ _).1 h; simp only at this; omega
            have a3 : inE k x = true := (inE_iff _ _).2 ⟨by omega, by omega⟩
            rw [if_pos a1, if_neg a2, if_pos a3]; omega
          · by_cases a2 : inE k (x.1 + n, x.2 - n) = true
            · have a2' := (inE_iff _ _).1 a2
              simp only at a2'
              have a3 : inE k x = true := (inE_iff _ _).2 ⟨by omega, by omega⟩
              rw [if_neg a1, if_pos a2, if_pos a3]; omega
            · have a3 : ¬ inE k x = true := fun h => by
                have h' := (inE_iff _ _).1 h
                by_cases hk : k < x.1 + n
                · exact a1 ((inE_iff _ _).2 ⟨by simp only; omega, by simp only; omega⟩)
                · exact a2 ((inE_iff _ _).2 ⟨by simp only; omega, by simp only; omega⟩)
              rw [if_neg a1, if_neg a2, if_neg a3]; omega
        · intro y hy
          rcases List.mem_cons.1 hy with rfl | hy
          · exact ⟨x, List.mem_cons_self .., by simp only; omega⟩
          · exact ⟨y, List.mem_cons_of_mem _ hy, Int.le_refl _⟩
theorem split_gap : ∀ (xs : List Wy) (n : Int), Gap xs → Gap (splitE xs n).2
  | [], _, _ => List.Pairwise.nil
  | x :: r, n, hg => by
    obtain ⟨gx, gr⟩ := gap_head hg
    rw [splitE]
    split
    · exact split_gap r _ gr
    · split
      · exact gr
      · refine List.pairwise_cons.2 ⟨fun y hy => ?_, gr⟩
        have := gx y hy
        simp only; omega
/-- What is taken, and what is left. -/
structure TkOk (t : Int) (free : List Wy) (n : Int) (tk lf : List Wy) : Prop where
  fit : FitF t lf
  lie : ∀ x ∈ tk, lieE t x = true
  sum : sumE tk = n
  rest : sumE lf + n = sumE free
  cnt : ∀ k, cnt tk k + cnt lf k = cnt free k
theorem take_ok {t : Int} {free : List Wy} (hf : FitF t free) {n : Int} (h0 : ¬ n < 0) (hs : ¬ sumE free < n) : (takeE n free).2.2 = 0 ∧ TkOk t free n (takeE n free).1 (takeE n free).2.1 := by
  rw [takeE, if_neg h0, if_neg hs]
  by_cases hn : n = 0
  · rw [if_pos hn]
    refine ⟨rfl, hf, (fun x hx => by cases hx), by simp only [sumE]; omega, by simp only; omega, fun k => by have h0 : ext.cnt [] k = 0 := rfl; simp only; omega⟩
  · rw [if_neg hn]
    have hp := lie_pos hf.lie
    have h0x : ∀ x ∈ free, 0 ≤ x.2 := fun x hx => by have := hp x hx; omega
    have hfr : fromE n free ≤ free.length ∧ n ≤ sumE (free.drop (fromE n free)) := by
      by_cases hall : ∀ x ∈ free, x.2 < n
      · rw [fromE_none hall]
        exact ⟨Nat.zero_le _, by rw [List.drop_zero]; omega⟩
      · unfold fromE
        cases hi : free.findIdx? (fun x => decide (n ≤ x.2)) with
        | none =>
          exfalso
          apply hall
          intro x hx
          have := (List.findIdx?_eq_none_iff.1 hi) x hx
          simp at this
          exact this
        | some i =>
          obtain ⟨hil, hge, _⟩ := List.findIdx?_eq_some_iff_getElem.1 hi
          have hge' : n ≤ free[i].2 := by simpa using hge
          have := sumE_ge h0x hil
          simp only [Option.getD_some]
          exact ⟨by omega, by omega⟩
    obtain ⟨fr, hfre⟩ : ∃ fr, fromE n free = fr := ⟨_, rfl⟩
    rw [hfre] at hfr ⊢
    have hpd : Pos (free.drop fr) := fun x hx => hp x (List.mem_of_mem_drop hx)
    have hgd : Gap (free.take fr ++ free.drop fr) := by rw [List.take_append_drop]; exact hf.gap
    obtain ⟨gt, gd, gtd⟩ := List.pairwise_append.1 hgd
    obtain ⟨i1, i2, i3, i4, i5, i6⟩ := split_spec (free.drop fr) n hpd (by omega) hfr.2
    have i7 := split_gap (free.drop fr) n gd
    have hc : ∀ k, ext.cnt (splitE (free.drop fr) n).1 k + ext.cnt (free.take fr ++ (splitE (free.drop fr) n).2) k = ext.cnt free k := fun k => by
      have h1 := i5 k
      have h2 : ext.cnt free k = ext.cnt (free.take fr) k + ext.cnt (free.drop fr) k := by rw [← cnt_append, List.take_append_drop]
      rw [cnt_append]; omega
    have hs2 : sumE free = sumE (free.take fr) + sumE (free.drop fr) := by rw [← sumE_append, List.take_append_drop]
    have hcov : ∀ k, cov (free.take fr ++ (splitE (free.drop fr) n).2) k → cov free k := fun k hk => by
      rw [cov_cnt] at hk ⊢
      have := hc k; omega
    have hcov1 : ∀ k, cov (splitE (free.drop fr) n).1 k → cov free k := fun k hk => by
      rw [cov_cnt] at hk ⊢
      have := hc k; omega
    have hpl : Pos (free.take fr ++ (splitE (free.drop fr) n).2) := fun x hx => by
      rcases List.mem_append.1 hx with h | h
      · exact hp x (List.mem_of_mem_take h)
      · exact i2 x h
    refine ⟨rfl, ⟨hf.row, lie_of_cov hpl fun k hk => cov_lie hf.lie k (hcov k hk), ?_⟩, lie_of_cov i1 fun k hk => cov_lie hf.lie k (hcov1 k hk), i3, ?_, hc⟩
    · refine List.pairwise_append.2 ⟨gt, i7, ?_⟩
      intro a ha b hb
      obtain ⟨x, hx, hxb⟩ := i6 b hb
      have := gtd a ha x hx
      omega
    · simp only [sumE_append]; omega

/-- Given back, all is as it was. -/
theorem give_back {t : Int} {free : List Wy} {n : Int} {tk lf r : List Wy} {c : Int} (hf : FitF t free) (h : TkOk t free n tk lf) (hg : GiveR t lf tk r c) : c = 0 ∧ r = free := by
  have h1 := flat_cnt free (lie_pos hf.lie) hf.gap.flat
  have := GiveR_unique hg (.inr (.inr ⟨h.lie, fun k => by rw [cnt_append]; have := h.cnt k; have := h1 k; omega, rfl, lie_pos hf.lie, hf.gap, fun k => by rw [cov_cnt, cov_cnt, cov_cnt]; have := h.cnt k; omega⟩))
  exact ⟨this.2, this.1⟩
theorem claim_there {t : Int} {free : List Wy} {n : Int} {tk lf r : List Wy} {c : Int} (hf : FitF t free) (h : TkOk t free n tk lf) (hg : ClaimR t free tk r c) : c = 0 ∧ r = lf := by
  have h1 := flat_cnt free (lie_pos hf.lie) hf.gap.flat
  have := ClaimR_unique hg (.inr (.inr ⟨h.lie, fun k hk => by rw [cov_cnt] at hk ⊢; have := h.cnt k; have := h1 k; omega, rfl, lie_pos h.fit.lie, h.fit.gap, fun k => by rw [cov_cnt, cov_cnt, cov_cnt]; have := h.cnt k; have := h1 k; omega⟩))
  exact ⟨this.2, this.1⟩
theorem claim_gone {t : Int} {free : List Wy} {n : Int} {tk lf r : List Wy} {c : Int} (hf : FitF t free) (h : TkOk t free n tk lf) (hn : 1 ≤ n) (hg : ClaimR t lf tk r c) : c = 24 := by
  have h1 := flat_cnt free (lie_pos hf.lie) hf.gap.flat
  have hne : tk ≠ [] := by
    rintro rfl
    have := h.sum
    simp only [sumE] at this
    omega
  obtain ⟨x, r', rfl⟩ := List.exists_cons_of_ne_nil hne
  have hx := (lieE_iff t x).1 (h.lie x (List.mem_cons_self ..))
  have hc : cov (x :: r') x.1 := ⟨x, List.mem_cons_self .., by omega, by omega⟩
  have := ClaimR_unique hg (.inr (.inl ⟨h.lie, ⟨x.1, hc, .inl fun hl => by
    rw [cov_cnt] at hc hl
    have := h.cnt x.1; have := h1 x.1; omega⟩, rfl, rfl⟩))
  exact this.2

theorem sec_mem (xs : List Wy) (hp : Pos xs) (k : Int) : k ∈ secE xs ↔ cov xs k := by
  unfold secE cov
  rw [List.mem_flatMap]
  constructor
  · rintro ⟨x, hx, h⟩
    obtain ⟨i, hi, rfl⟩ := List.mem_map.1 h
    have := List.mem_range.1 hi
    exact ⟨x, hx, by omega, by omega⟩
  · rintro ⟨x, hx, h1, h2⟩
    exact ⟨x, hx, List.mem_map.2 ⟨(k - x.1).toNat, List.mem_range.2 (by omega), by omega⟩⟩
theorem sec_rise (xs : List Wy) (hg : Gap xs) : (secE xs).Pairwise (· < ·) := by
  induction xs with
  | nil => exact List.Pairwise.nil
  | cons x r ih =>
    obtain ⟨gx, gr⟩ := gap_head hg
    unfold secE
    rw [List.flatMap_cons]
    refine List.pairwise_append.2 ⟨?_, ih gr, ?_⟩
    · unfold sec1
      rw [List.pairwise_map]
      exact List.pairwise_lt_range.imp fun h => by omega
    · intro a ha b hb
      obtain ⟨i, hi, rfl⟩ := List.mem_map.1 ha
      obtain ⟨y, hy, hb⟩ := List.mem_flatMap.1 hb
      obtain ⟨j, hj, rfl⟩ := List.mem_map.1 hb
      have := List.mem_range.1 hi
      have := gx y hy
      omega
theorem sec_sum (xs : List Wy) (h : ∀ x ∈ xs, 0 ≤ x.2) : ((secE xs).length : Int) = sumE xs := by
  induction xs with
  | nil => rfl
  | cons x r ih =>
    have := ih (fun y hy => h y (List.mem_cons_of_mem _ hy))
    have := h x (List.mem_cons_self ..)
    unfold secE at *
    rw [List.flatMap_cons, List.length_append, sec1_len]
    simp only [sumE]
    omega
def onesL (ns : List Int) : List Wy := ns.map fun n => (n, 1)
/-- Packed again, they are as they were. -/
theorem pack_back {t : Int} {free : List Wy} (hf : FitF t free) : joinE (onesL (secE free)) = free := by
  have hp := lie_pos hf.lie
  have hpo : Pos (onesL (secE free)) := fun x hx => by
    obtain ⟨n, _, rfl⟩ := List.mem_map.1 hx
    exact Int.le_refl _
  have hfl : Flat (onesL (secE free)) := by
    unfold Flat onesL
    rw [List.pairwise_map]
    exact (sec_rise free hf.gap).imp fun h => by simp only; omega
  have hj := join_joined _ hpo hfl
  refine gap_unique _ _ hj.pos hp hj.gap hf.gap fun k => ?_
  rw [hj.cov k, ← sec_mem free hp k]
  constructor
  · rintro ⟨x, hx, h1, h2⟩
    obtain ⟨n, hn, rfl⟩ := List.mem_map.1 hx
    simp only at h1 h2
    obtain rfl : n = k := by omega
    exact hn
  · intro h
    exact ⟨(k, 1), List.mem_map.2 ⟨k, h, rfl⟩, Int.le_refl _, by simp only; omega⟩

end Go.Proofs.Ytijafehhhknamaa.ext
