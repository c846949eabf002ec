/- The document's Ban, before, Fit. -/
import Derived.Test.YtcofmfjhgbihkaaRows
import Derived.Test.YtcofmfjhgbihkaaMapsRInc
import Derived.Test.YtcofmfjhgbihkaaMapsEq
import Derived.Test.YtcofmfjhgbihkaaMapsHas
import Derived.Test.YtcofmfjhgbihkaaMapsOk
namespace Go.Proofs.Ytcofmfjhgbihkaa.crush
open Go.RowKit
open Go.Proofs.Ytcofmfjhgbihkaa.kit Go.Proofs.Ytcofmfjhgbihkaa.own
set_option linter.unusedVariables false
set_option linter.unusedSimpArgs false

set_option maxHeartbeats 8000000 in
theorem rBan_any (x : BanV) (w : World) : Calls Try.prog 79 #[.agg (bc x).toArray] w fun e w' => e = .returned (.bool (okBan x.client x.inst)) ∧ Below w.heap.size w w' := by
  obtain ⟨c, n⟩ := x
  obtain ⟨y, hy⟩ : ∃ y, inR n 1 1073741824 = y := ⟨_, rfl⟩
  have HW := Lib.hid (fun u => rwithin_any n 1 1073741824 u)
  rw [hy] at HW
  obtain ⟨R, hR⟩ : ∃ R, okBan c n = R := ⟨_, rfl⟩
  simp only [hR, bc]
  unfold okBan okBoot at hR
  rw [hy] at hR
  have HB := Lib.hid (below_new w (.cells #[.int .i64 c, .int .i64 n] 136))
  have hcs : (c < 0 ∧ R = false) ∨ (¬ c < 0 ∧ ¬ c < 4 ∧ R = false) ∨ (¬ c < 0 ∧ c < 4 ∧ y = R) := by
    subst hR
    unfold inR
    by_cases h1 : c < 0
    · exact .inl ⟨h1, by rw [decide_eq_false (by omega : ¬ 0 ≤ c)]; rfl⟩
    · by_cases h2 : c < 4
      · exact .inr (.inr ⟨h1, h2, by rw [decide_eq_true (by omega : 0 ≤ c), decide_eq_true (by omega : c ≤ 3)]; rfl⟩)
      · exact .inr (.inl ⟨h1, h2, by rw [decide_eq_false (by omega : ¬ c ≤ 3)]; simp⟩)
  clear hR hy
  go_enter Try.func79, Try.ntmps79
  rcases hcs with ⟨h1, hr⟩ | ⟨h1, h2, hr⟩ | ⟨h1, h2, hr⟩
  all_goals
    have HR := Lib.hid hr
    clear hr
    go_wp2_with (go_at_call 77; refine (HW.out _).mono ?_; rintro e w5 ⟨rfl, rfl⟩)
    go_ret
    exact ⟨by rw [← HR.out]; rfl, HB.out⟩
set_option maxHeartbeats 8000000 in
theorem rBefore_any (x y : BanV) (w : World) : Calls Try.prog 80 #[.agg (bc x).toArray, .agg (bc y).toArray] w fun e w' => e = .returned (.bool (ltBan x y)) ∧ Below w.heap.size w w' := by
  obtain ⟨c, n⟩ := x
  obtain ⟨c', n'⟩ := y
  obtain ⟨R, hR⟩ : ∃ R, ltBan ⟨c, n⟩ ⟨c', n'⟩ = R := ⟨_, rfl⟩
  simp only [hR, bc]
  unfold ltBan at hR
  simp only at hR
  have HB := Lib.hid ((below_new w (.cells #[.int .i64 c, .int .i64 n] 136)).alloc (by simp) (.cells #[.int .i64 c', .int .i64 n'] 136))
  have hcs : (c < c' ∧ R = true) ∨ (¬ c < c' ∧ (True → (c == c') = false) ∧ R = false) ∨ (¬ c < c' ∧ (True → (c == c') = true) ∧ n < n' ∧ R = true) ∨ (¬ c < c' ∧ (True → (c == c') = true) ∧ ¬ n < n' ∧ R = false) := by
    subst hR
    by_cases h1 : c < c'
    · exact .inl ⟨h1, by simp [h1]⟩
    · by_cases h2 : c = c'
      · by_cases h3 : n < n'
        · exact .inr (.inr (.inl ⟨h1, fun _ => by simp [h2], h3, by simp [h2, h3]⟩))
        · exact .inr (.inr (.inr ⟨h1, fun _ => by simp [h2], h3, by simp [h2, h3]⟩))
      · exact .inr (.inl ⟨h1, fun _ => by simp [h2], by simp [h1, h2]⟩)
  clear hR
  go_enter Try.func80, Try.ntmps80
  rcases hcs with ⟨h1, hr⟩ | ⟨h1, h2, hr⟩ | ⟨h1, h2, h3, hr⟩ | ⟨h1, h2, h3, hr⟩
  all_goals
    have HR := Lib.hid hr
    clear hr
    go_wp2
    go_ret
    exact ⟨by rw [HR.out]; rfl, HB.out⟩
theorem pools_iff (l : List PoolV) : okPools l = true ↔ l.length ≤ 2 ∧ ∀ p ∈ l, okPool p = true := by
  unfold okPools
  rw [Bool.and_eq_true, decide_eq_true_eq]
  simp
/-- A storage node, as the document asks. -/
theorem osd_cases (e : Int) (o : OsdV) : (inR o.boot 0 1073741824 = false ∧ unOsd e o = true) ∨ (inR o.boot 0 1073741824 = true ∧ o.up = true ∧ (True → (o.boot == 0) = true) ∧ unOsd e o = true) ∨
    (inR o.boot 0 1073741824 = true ∧ (o.up = false ∨ (o.up = true ∧ (True → (o.boot == 0) = false))) ∧ inR o.wt 0 1048576 = false ∧ unOsd e o = true) ∨
    (inR o.boot 0 1073741824 = true ∧ (o.up = false ∨ (o.up = true ∧ (True → (o.boot == 0) = false))) ∧ inR o.wt 0 1048576 = true ∧ (inR o.thru 0 e = !(unOsd e o))) := by
  have h := unOsd_iff e o
  obtain ⟨b, u, wt, th⟩ := o
  simp only at h ⊢
  cases h1 : inR b 0 1073741824 with
  | false =>
    refine .inl ⟨rfl, ?_⟩
    cases hu : unOsd e ⟨b, u, wt, th⟩ with
    | true => rfl
    | false =>
      have := h.1 hu
      unfold inR at h1
      simp only [Bool.and_eq_false_iff, decide_eq_false_iff_not] at h1
      omega
  | true =>
    unfold inR at h1
    simp only [Bool.and_eq_true, decide_eq_true_eq] at h1
    by_cases h2 : u = true ∧ b = 0
    · refine .inr (.inl ⟨rfl, h2.1, fun _ => by simp [h2.2], ?_⟩)
      cases hu : unOsd e ⟨b, u, wt, th⟩ with
      | true => rfl
      | false =>
        have := h.1 hu
        have h3 := h2.1
        subst h3
        simp at this
        omega
    · have h2' : u = false ∨ (u = true ∧ (True → (b == 0) = false)) := by
        cases u with
        | false => exact .inl rfl
        | true => exact .inr ⟨rfl, fun _ => by simp at h2; simp [h2]⟩
      cases h3 : inR wt 0 1048576 with
      | false =>
        refine .inr (.inr (.inl ⟨rfl, h2', rfl, ?_⟩))
        cases hu : unOsd e ⟨b, u, wt, th⟩ with
        | true => rfl
        | false =>
          have := h.1 hu
          unfold inR at h3
          simp only [Bool.and_eq_false_iff, decide_eq_false_iff_not] at h3
          omega
      | true =>
        refine .inr (.inr (.inr ⟨rfl, h2', rfl, ?_⟩))
        unfold inR at h3 ⊢
        simp only [Bool.and_eq_true, decide_eq_true_eq] at h3
        cases hu : unOsd e ⟨b, u, wt, th⟩ with
        | false =>
          have := h.1 hu
          simp
          omega
        | true =>
          simp only [Bool.not_true, Bool.and_eq_false_iff, decide_eq_false_iff_not]
          by_cases h4 : 0 ≤ th
          · by_cases h5 : th ≤ e
            · have : unOsd e ⟨b, u, wt, th⟩ = false := h.2 ⟨by
                rcases h2' with hf | ⟨ht, h0⟩
                · by_cases hb : b = 0
                  · exact .inr ⟨hb, hf⟩
                  · exact .inl (by omega)
                · have := h0 trivial
                  simp at this
                  exact .inl (by omega), by omega, by omega, h4, h5⟩
              rw [hu] at this
              cases this
            · exact .inr h5
          · exact .inl h4
end Go.Proofs.Ytcofmfjhgbihkaa.crush
