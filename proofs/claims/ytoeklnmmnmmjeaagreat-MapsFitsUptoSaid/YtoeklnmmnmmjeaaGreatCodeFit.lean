/- Which fields are fit: the program's walk. -/
import Derived.Test.YtoeklnmmnmmjeaaGreatRows
import Derived.Test.YtoeklnmmnmmjeaaGreatCodeMath
import Derived.OpenShut
import Derived.WalkSpells
namespace Go.Proofs.YtoeklnmmnmmjeaaGreat.code
open Go.RowKit
open Go.Proofs.YtoeklnmmnmmjeaaGreat.kit Go.Proofs.YtoeklnmmnmmjeaaGreat.cm
set_option linter.unusedVariables false

set_option maxHeartbeats 4000000 in
set_option maxRecDepth 100000 in
theorem fit_any (f : Fld) (w : World) :
    Calls Tryz.prog 155 #[f.val] w fun e w' => e = .returned (.bool f.fit) ∧ Below w.heap.size w w' := by
  obtain ⟨k, n, t, b⟩ := f
  go_enter Tryz.func155, Tryz.ntmps155
  unfold Fld.val
  go_wp2
  all_goals go_ret
  all_goals refine ⟨?_, (Below.refl _ _).alloc (Nat.le_refl _) _⟩
  all_goals change Ending.returned (Value.bool _) = Ending.returned (Value.bool _)
  all_goals refine congrArg Ending.returned (congrArg Value.bool ?_)
  all_goals simp only [Fld.fit]
  all_goals (simp_all; try omega)
  all_goals (cases t.toList <;> rfl)


end Go.Proofs.YtoeklnmmnmmjeaaGreat.code
