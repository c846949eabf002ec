/- Bans that are fit. -/
import Derived.Test.YtcofmfjhgbihkaaRows
import Derived.Test.YtcofmfjhgbihkaaMapsOrd
import Derived.Test.YtcofmfjhgbihkaaMapsFitM
namespace Go.Proofs.Ytcofmfjhgbihkaa.crush
open Go.RowKit
open Go.Proofs.Ytcofmfjhgbihkaa.kit Go.Proofs.Ytcofmfjhgbihkaa.own
set_option linter.unusedVariables false
set_option linter.unusedSimpArgs false

theorem ordB_lt (a b : BanV) : decide (ordB a b < 0) = ltBan a b := by
  unfold ordB first2 cmp3 ltBan
  by_cases h1 : a.client < b.client
  · simp [h1]
  · by_cases h2 : b.client < a.client
    · have h3 : ¬ a.client = b.client := by omega
      simp [h1, h2, h3]
    · have h3 : a.client = b.client := by omega
      by_cases h4 : a.inst < b.inst
      · simp [h1, h2, h3, h4]
      · by_cases h5 : b.inst < a.inst
        · simp [h1, h2, h3, h4, h5]
        · simp [h1, h2, h3, h4, h5]
theorem okBansF_false {l : List BanV} {j : Nat} (h : okBansF l j = false) : ∀ k, j ≤ k → okBansF l k = false := by
  intro k hk
  induction k with
  | zero => obtain rfl : j = 0 := by omega
            exact h
  | succ k ih =>
    rcases Nat.lt_or_ge k j with h1 | h1
    · obtain rfl : j = k + 1 := by omega
      exact h
    · unfold okBansF; rw [ih h1]; rfl
theorem okBansF_step {l : List BanV} {k : Nat} (hk : k < l.length) : okBansF l (k + 1) = (okBansF l k && (okBan l[k].client l[k].inst && (decide (k = 0) || decide (ordB (l.getD (k - 1) ⟨0, 0⟩) l[k] < 0)))) := by
  rw [ordB_lt]
  rw [okBansF, List.getD_eq_getElem?_getD, List.getElem?_eq_getElem hk, Option.getD_some]

end Go.Proofs.Ytcofmfjhgbihkaa.crush
