/- The next ballot, and a majority: the document's. -/
import Derived.Test.YtmdipcemhaomhaaRows
import Derived.Test.YtmdipcemhaomhaaLeadNext
namespace Go.Proofs.Ytmdipcemhaomhaa.crush
open Go.RowKit
open Go.Proofs.Ytmdipcemhaomhaa.kit Go.Proofs.Ytmdipcemhaomhaa.own
set_option linter.unusedVariables false
set_option linter.unusedSimpArgs false

set_option maxHeartbeats 4000000 in
set_option maxRecDepth 100000 in
theorem rMost_any (n : Int) (hn : I64 n) (w : World) : Calls Try.prog 28 #[.int .i64 n] w fun e w' => e = .returned (.int .i64 (mostN n)) ∧ w = w' := by
  unfold I64 at hn
  unfold mostN
  go_enter Try.func28, Try.ntmps28
  by_cases h : n < 1
  · rw [if_pos h]
    go_wp2
    go_ret
    exact ⟨rfl, rfl⟩
  · rw [if_neg h]
    go_wp2
    go_ret
    exact ⟨rfl, rfl⟩

set_option maxHeartbeats 4000000 in
set_option maxRecDepth 100000 in
theorem rNext_any (r m s n : Int) (w : World) : Calls Try.prog 26 #[.agg #[.int .i64 r, .int .i64 m], .int .i64 s, .int .i64 n] w fun e w' => e = .returned (NextE (max r s) n) ∧ Below w.heap.size w w' := by
  have HR := Lib.hid (fun x y => bal_two w r m x y)
  go_enter Try.func26, Try.ntmps26
  go_wp2
  all_goals refine bodyPost_ret (ret_cell_tmp rfl rfl (HR.out _ _).1 Try.underlying23 rfl sizeBal) rfl ?_
  all_goals refine ⟨?_, (HR.out _ _).2⟩
  all_goals first
    | exact congrArg Ending.returned (next_no (by omega)).symm
    | exact congrArg Ending.returned (next_yes (by omega) (by omega) (by omega) (by omega)).symm
    | trace_state
end Go.Proofs.Ytmdipcemhaomhaa.crush
