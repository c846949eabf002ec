/- What a call makes of a device, in a few words. -/
import Derived.Test.YtkhghkklekjdaaaDoorRows
import Derived.Test.YtkhghkklekjdaaaDoorSectorAll
import Derived.Test.YtkhghkklekjdaaaDoorSectorWallM
namespace Go.Proofs.YtkhghkklekjdaaaDoor.sector
open Go.RowKit
open Go.Proofs.YtkhghkklekjdaaaDoor.kit Go.Proofs.YtkhghkklekjdaaaDoor.own
set_option linter.unusedVariables false

theorem wDev_more (m : Dev) (z : Int) (x : List Nat) (hpk : PickOk m) : PickOk (wDev m z x) ∧ (wDev m z x).n = m.n ∧ (wDev m z x).ws ≤ m.ws + 1 ∧ (wDev m z x).fs ≤ m.fs + 1 := by
  unfold wDev
  split
  · exact ⟨hpk, rfl, by omega, by omega⟩
  split
  · exact ⟨hpk, rfl, by omega, by omega⟩
  split
  · exact ⟨hpk, rfl, by omega, by omega⟩
  split
  · refine ⟨fun p hp => (by cases hp), rfl, ?_, ?_⟩
    · show m.ws ≤ _; omega
    · show m.fs ≤ _; omega
  · obtain ⟨h1, h2, h3, h4, h5, h6⟩ := wrote_same m z.toNat x
    refine ⟨fun p hp => ?_, h2, by rw [h4]; omega, by rw [h5]; omega⟩
    rw [h3] at hp
    cases hm : m.cut with
    | none => rw [hm] at hp; cases hp
    | some q =>
      rw [hm] at hp
      simp at hp
      subst hp
      exact hpk q hm
theorem wDev_fs (m : Dev) (z : Int) (x : List Nat) : (wDev m z x).fs = m.fs := by
  unfold wDev
  split
  · rfl
  split
  · rfl
  split
  · rfl
  split
  · rfl
  · exact (wrote_same m z.toNat x).2.2.2.2.1
theorem fDev_more (m : Dev) (hpk : PickOk m) : PickOk (fDev m) ∧ (fDev m).n = m.n ∧ (fDev m).ws ≤ m.ws + 1 ∧ (fDev m).fs ≤ m.fs + 1 := by
  unfold fDev
  split
  · exact ⟨hpk, rfl, by omega, by omega⟩
  · refine ⟨hpk, rfl, ?_, ?_⟩
    · show m.ws ≤ _; omega
    · show m.fs + 1 ≤ _; omega
theorem lDev_more (m : Dev) (p : Nat) (hpk : PickOk m) : PickOk (lDev m p) ∧ (lDev m p).n = m.n ∧ (lDev m p).ws ≤ m.ws + 1 ∧ (lDev m p).fs ≤ m.fs + 1 := by
  unfold lDev
  split
  · exact ⟨hpk, rfl, by omega, by omega⟩
  · refine ⟨fun p hp => (by cases hp), rfl, ?_, ?_⟩
    · show m.ws ≤ _; omega
    · show m.fs ≤ _; omega
theorem cDev_more (m : Dev) (z : Int) (p : Nat) (h64 : p < 18446744073709551616) (hpk : PickOk m) : PickOk (cDev m z p) ∧ (cDev m z p).n = m.n ∧ (cDev m z p).ws ≤ m.ws + 1 ∧ (cDev m z p).fs ≤ m.fs + 1 := by
  unfold cDev
  split
  · exact ⟨hpk, rfl, by omega, by omega⟩
  split
  · refine ⟨fun p hp => (by cases hp), rfl, ?_, ?_⟩
    · show m.ws ≤ _; omega
    · show m.fs ≤ _; omega
  · refine ⟨fun q hq => (by cases hq; exact h64), rfl, ?_, ?_⟩
    · show m.ws ≤ _; omega
    · show m.fs ≤ _; omega


end Go.Proofs.YtkhghkklekjdaaaDoor.sector
