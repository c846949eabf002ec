/- The small functions of accept: Later, proper, fitPromised, fitValue. -/
import Derived.Test.YtcofmfjhgbihkaaRows
import Derived.Test.YtcofmfjhgbihkaaAccIdx
import Derived.Test.YtcofmfjhgbihkaaAccClone
namespace Go.Proofs.Ytcofmfjhgbihkaa.crush
open Go.RowKit
open Go.Proofs.Ytcofmfjhgbihkaa.kit Go.Proofs.Ytcofmfjhgbihkaa.own
set_option linter.unusedVariables false
set_option linter.unusedSimpArgs false

theorem beq_int (a b : Int) : (a == b) = decide (a = b) := rfl
def balBox (r m : Int) : Obj := .cells #[.int .i64 r, .int .i64 m] 23

set_option maxHeartbeats 8000000 in
theorem Later_any (r m r' m' : Int) (w : World) : Calls Try.prog 67 #[.agg #[.int .i64 r, .int .i64 m], .agg #[.int .i64 r', .int .i64 m']] w fun e w' => e = .returned (.bool (laterB r m r' m')) ∧ Below w.heap.size w w' := by
  obtain ⟨R, hR⟩ : ∃ R, laterB r m r' m' = R := ⟨_, rfl⟩
  rw [hR]
  have HB := Lib.hid ((below_new w (.cells #[.int .i64 r, .int .i64 m] 23)).alloc (by simp) (.cells #[.int .i64 r', .int .i64 m'] 23))
  have hcs : ((True → (r != r') = true) ∧ r > r' ∧ R = true) ∨ ((True → (r != r') = true) ∧ ¬ r > r' ∧ R = false) ∨ ((True → (r != r') = false) ∧ m > m' ∧ R = true) ∨ ((True → (r != r') = false) ∧ ¬ m > m' ∧ R = false) := by
    subst hR
    unfold laterB
    by_cases h1 : r = r'
    · by_cases h2 : m' < m
      · exact .inr (.inr (.inl ⟨fun _ => by simp [h1], h2, by simp [h1, h2]⟩))
      · exact .inr (.inr (.inr ⟨fun _ => by simp [h1], h2, by simp [h1, h2]⟩))
    · by_cases h2 : r' < r
      · exact .inl ⟨fun _ => by simp [h1], h2, by simp [h2]⟩
      · exact .inr (.inl ⟨fun _ => by simp [h1], h2, by simp [h1, h2]⟩)
  clear hR
  go_enter Try.func67, Try.ntmps67
  rcases hcs with ⟨h1, h2, hr⟩ | ⟨h1, h2, hr⟩ | ⟨h1, h2, hr⟩ | ⟨h1, h2, hr⟩
  all_goals
    have HR := Lib.hid hr
    clear hr
    go_wp2
    go_ret
    exact ⟨by rw [HR.out]; first | rfl | simp [h2], HB.out⟩

set_option maxHeartbeats 8000000 in
theorem proper_any (r m : Int) (w : World) : Calls Try.prog 66 #[.agg #[.int .i64 r, .int .i64 m]] w fun e w' => e = .returned (.bool (okBal r m)) ∧ Below w.heap.size w w' := by
  obtain ⟨R, hR⟩ : ∃ R, okBal r m = R := ⟨_, rfl⟩
  rw [hR]
  have HB := Lib.hid (below_new w (.cells #[.int .i64 r, .int .i64 m] 23))
  have hcs : (¬ 1 ≤ r ∧ R = false) ∨ (1 ≤ r ∧ ¬ r ≤ 1073741824 ∧ R = false) ∨ (1 ≤ r ∧ r ≤ 1073741824 ∧ ¬ 0 ≤ m ∧ R = false) ∨ (1 ≤ r ∧ r ≤ 1073741824 ∧ 0 ≤ m ∧ ¬ m < 5 ∧ R = false) ∨ (1 ≤ r ∧ r ≤ 1073741824 ∧ 0 ≤ m ∧ m < 5 ∧ R = true) := by
    subst hR
    unfold okBal
    by_cases h1 : 1 ≤ r
    · by_cases h2 : r ≤ 1073741824
      · by_cases h3 : 0 ≤ m
        · by_cases h4 : m < 5
          · exact .inr (.inr (.inr (.inr ⟨h1, h2, h3, h4, by simp [h1, h2, h3, h4]⟩)))
          · exact .inr (.inr (.inr (.inl ⟨h1, h2, h3, h4, by simp [h4]⟩)))
        · exact .inr (.inr (.inl ⟨h1, h2, h3, by simp [h3]⟩))
      · exact .inr (.inl ⟨h1, h2, by simp [h2]⟩)
    · exact .inl ⟨h1, by simp [h1]⟩
  clear hR
  go_enter Try.func66, Try.ntmps66
  rcases hcs with ⟨h1, hr⟩ | ⟨h1, h2, hr⟩ | ⟨h1, h2, h3, hr⟩ | ⟨h1, h2, h3, h4, hr⟩ | ⟨h1, h2, h3, h4, hr⟩
  all_goals
    have HR := Lib.hid hr
    clear hr
    go_wp2
    go_ret
    exact ⟨by rw [HR.out]; rfl, HB.out⟩

set_option maxHeartbeats 8000000 in
theorem fitValue_any (s : ByteArray) (w : World) : Calls Try.prog 74 #[.string s] w fun e w' => e = .returned (.bool (okTxt s)) ∧ Below w.heap.size w w' := by
  obtain ⟨R, hR⟩ : ∃ R, okTxt s = R := ⟨_, rfl⟩
  rw [hR]
  have hcs : (¬ 1 ≤ s.size ∧ R = false) ∨ (1 ≤ s.size ∧ ¬ s.size ≤ 256 ∧ R = false) ∨ (1 ≤ s.size ∧ s.size ≤ 256 ∧ R = true) := by
    subst hR
    unfold okTxt
    by_cases h1 : 1 ≤ s.size
    · by_cases h2 : s.size ≤ 256
      · exact .inr (.inr ⟨h1, h2, by simp [h1, h2]⟩)
      · exact .inr (.inl ⟨h1, h2, by simp [h2]⟩)
    · exact .inl ⟨h1, by simp [h1]⟩
  obtain ⟨n, hn⟩ : ∃ n, s.size = n := ⟨_, rfl⟩
  rw [hn] at hcs
  have HN := Lib.hid hn
  clear hR hn
  go_enter Try.func74, Try.ntmps74
  rcases hcs with ⟨h1, hr⟩ | ⟨h1, h2, hr⟩ | ⟨h1, h2, hr⟩
  all_goals
    have HR := Lib.hid hr
    have hs : True → s.size = n := fun _ => HN.out
    clear hr
    go_wp2
    go_ret
    exact ⟨by rw [HR.out]; first | rfl | (simp; omega), Below.refl _ _⟩

end Go.Proofs.Ytcofmfjhgbihkaa.crush
