/- The document's 'later'. -/
import Derived.Test.YtmdipcemhaomhaaRows
import Derived.Test.YtmdipcemhaomhaaAccLow
namespace Go.Proofs.Ytmdipcemhaomhaa.crush
open Go.RowKit
open Go.Proofs.Ytmdipcemhaomhaa.kit Go.Proofs.Ytmdipcemhaomhaa.own
set_option linter.unusedVariables false
set_option linter.unusedSimpArgs false

set_option maxHeartbeats 8000000 in
theorem rLater_any (r m r' m' : Int) (w : World) : Calls Try.prog 29 #[.agg #[.int .i64 r, .int .i64 m], .agg #[.int .i64 r', .int .i64 m']] w fun e w' => e = .returned (.bool (laterB r m r' m')) ∧ Below w.heap.size w w' := by
  obtain ⟨R, hR⟩ : ∃ R, laterB r m r' m' = R := ⟨_, rfl⟩
  rw [hR]
  have HB := Lib.hid ((below_new w (.cells #[.int .i64 r, .int .i64 m] 23)).alloc (by simp) (.cells #[.int .i64 r', .int .i64 m'] 23))
  have hcs : (r > r' ∧ R = true) ∨ (¬ r > r' ∧ (True → (r == r') = false) ∧ R = false) ∨ (¬ r > r' ∧ (True → (r == r') = true) ∧ m > m' ∧ R = true) ∨ (¬ r > r' ∧ (True → (r == r') = true) ∧ ¬ m > m' ∧ R = false) := by
    subst hR
    unfold laterB
    by_cases h1 : r' < r
    · exact .inl ⟨h1, by simp [h1]⟩
    · by_cases h2 : r = r'
      · by_cases h3 : m' < m
        · exact .inr (.inr (.inl ⟨h1, fun _ => by simp [h2], h3, by simp [h2, h3]⟩))
        · exact .inr (.inr (.inr ⟨h1, fun _ => by simp [h2], h3, by simp [h2, h3]⟩))
      · exact .inr (.inl ⟨h1, fun _ => by simp [h2], by simp [h1, h2]⟩)
  clear hR
  go_enter Try.func29, Try.ntmps29
  rcases hcs with ⟨h1, hr⟩ | ⟨h1, h2, hr⟩ | ⟨h1, h2, h3, hr⟩ | ⟨h1, h2, h3, hr⟩
  all_goals
    have HR := Lib.hid hr
    clear hr
    go_wp2
    go_ret
    exact ⟨by rw [HR.out]; rfl, HB.out⟩
end Go.Proofs.Ytmdipcemhaomhaa.crush
