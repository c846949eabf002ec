/- The document's own look at a field. -/
import Derived.Test.YtoeklnmmnmmjeaaGreatRows
import Derived.Test.YtoeklnmmnmmjeaaGreatCodeField
import Derived.Test.YtoeklnmmnmmjeaaGreatCodePick
namespace Go.Proofs.YtoeklnmmnmmjeaaGreat.code
open Go.RowKit
open Go.Proofs.YtoeklnmmnmmjeaaGreat.kit Go.Proofs.YtoeklnmmnmmjeaaGreat.cm
set_option linter.unusedVariables false

set_option maxHeartbeats 4000000 in
set_option maxRecDepth 100000 in
theorem rfit_any (f : Fld) (w : World) :
    Calls Tryz.prog 160 #[f.val] w fun e w' => e = .returned (.bool f.fit) ∧ Below w.heap.size w w' := by
  obtain ⟨k, n, t, b⟩ := f
  unfold Fld.val
  by_cases h3 : k = 3
  · subst h3
    obtain ⟨m, hm⟩ : ∃ m, min (max n 0) 4294967295 = m := ⟨_, rfl⟩
    have hd : (n == m) = (decide (0 ≤ n) && decide (n ≤ 4294967295)) := by
      rw [← hm]
      by_cases h1 : 0 ≤ n
      · by_cases h2 : n ≤ 4294967295
        · have : min (max n 0) 4294967295 = n := by omega
          rw [this]; simp [h1, h2]
        · have : ¬ n = min (max n 0) 4294967295 := by omega
          simp [this, h2]
      · have : ¬ n = min (max n 0) 4294967295 := by omega
        simp [this, h1]
    have HF := Lib.hid (show (Fld.mk 3 n t b).fit = ((n == m) && (decide (t.toList = [])) && !b) by rw [hd]; simp [Fld.fit])
    clear hd
    go_enter Tryz.func160, Tryz.ntmps160
    go_wp2
    all_goals go_ret
    all_goals refine ⟨?_, ((Below.refl _ w).alloc (Nat.le_refl _) _).alloc (by simp) _⟩
    all_goals change Ending.returned (Value.bool _) = Ending.returned (Value.bool _)
    all_goals refine congrArg Ending.returned (congrArg Value.bool ?_)
    all_goals rw [HF.out]
    all_goals simp_all
  by_cases h1 : k = 1
  · subst h1
    obtain ⟨m, hm⟩ : ∃ m, max n 0 = m := ⟨_, rfl⟩
    have hd : (n == m) = decide (0 ≤ n) := by
      rw [← hm]
      by_cases h1 : 0 ≤ n
      · have : max n 0 = n := by omega
        rw [this]; simp [h1]
      · have : ¬ n = max n 0 := by omega
        simp [this, h1]
    have HF := Lib.hid (show (Fld.mk 1 n t b).fit = ((n == m) && decide (t.toList = []) && !b) by rw [hd]; simp [Fld.fit])
    clear hd
    go_enter Tryz.func160, Tryz.ntmps160
    go_wp2
    all_goals go_ret
    all_goals refine ⟨?_, ((Below.refl _ w).alloc (Nat.le_refl _) _).alloc (by simp) _⟩
    all_goals change Ending.returned (Value.bool _) = Ending.returned (Value.bool _)
    all_goals refine congrArg Ending.returned (congrArg Value.bool ?_)
    all_goals rw [HF.out]
    all_goals simp_all
  by_cases h2 : k = 2
  · subst h2
    have HF := Lib.hid (show (Fld.mk 2 n t b).fit = (decide (t.toList = []) && !b) by simp [Fld.fit])
    go_enter Tryz.func160, Tryz.ntmps160
    go_wp2
    all_goals go_ret
    all_goals refine ⟨?_, ((Below.refl _ w).alloc (Nat.le_refl _) _).alloc (by simp) _⟩
    all_goals change Ending.returned (Value.bool _) = Ending.returned (Value.bool _)
    all_goals refine congrArg Ending.returned (congrArg Value.bool ?_)
    all_goals rw [HF.out]
    all_goals simp_all
  by_cases h4 : k = 4
  · subst h4
    have HF := Lib.hid (show (Fld.mk 4 n t b).fit = (decide (n = 0) && !b) by simp [Fld.fit])
    go_enter Tryz.func160, Tryz.ntmps160
    go_wp2
    all_goals go_ret
    all_goals refine ⟨?_, ((Below.refl _ w).alloc (Nat.le_refl _) _).alloc (by simp) _⟩
    all_goals change Ending.returned (Value.bool _) = Ending.returned (Value.bool _)
    all_goals refine congrArg Ending.returned (congrArg Value.bool ?_)
    all_goals rw [HF.out]
    all_goals simp_all
  by_cases h5 : k = 5
  · subst h5
    have HF := Lib.hid (show (Fld.mk 5 n t b).fit = (decide (n = 0) && decide (t.toList = [])) by simp [Fld.fit])
    go_enter Tryz.func160, Tryz.ntmps160
    go_wp2
    all_goals go_ret
    all_goals refine ⟨?_, ((Below.refl _ w).alloc (Nat.le_refl _) _).alloc (by simp) _⟩
    all_goals change Ending.returned (Value.bool _) = Ending.returned (Value.bool _)
    all_goals refine congrArg Ending.returned (congrArg Value.bool ?_)
    all_goals rw [HF.out]
    all_goals simp_all
  have b1 : True → (k == 1) = false := fun _ => by simpa using h1
  have b2 : True → (k == 2) = false := fun _ => by simpa using h2
  have b3 : True → (k == 3) = false := fun _ => by simpa using h3
  have b4 : True → (k == 4) = false := fun _ => by simpa using h4
  have b5 : True → (k == 5) = false := fun _ => by simpa using h5
  have HF := Lib.hid (show (Fld.mk k n t b).fit = false by simp [Fld.fit, h1, h2, h3, h4, h5])
  clear h1 h2 h3 h4 h5
  go_enter Tryz.func160, Tryz.ntmps160
  go_wp2
  go_ret
  exact ⟨by rw [HF.out]; rfl, ((Below.refl _ w).alloc (Nat.le_refl _) _).alloc (by simp) _⟩

end Go.Proofs.YtoeklnmmnmmjeaaGreat.code
