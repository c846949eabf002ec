/- The next ballot, and a majority, on both sides. -/
import Derived.Test.YtcofmfjhgbihkaaRows
import Derived.Test.YtcofmfjhgbihkaaLeadBase
namespace Go.Proofs.Ytcofmfjhgbihkaa.crush
open Go.RowKit
open Go.Proofs.Ytcofmfjhgbihkaa.kit Go.Proofs.Ytcofmfjhgbihkaa.own
set_option linter.unusedVariables false
set_option linter.unusedSimpArgs false

/-- Is there a ballot behind that number? -/
def nextOk (t m : Int) : Bool := decide (0 ≤ t) && decide (t < 1073741824) && decide (0 ≤ m) && decide (m < 5)
def NextE (t m : Int) : Value := if nextOk t m then .tuple #[.agg #[.int .i64 (t + 1), .int .i64 m], .bool true] else .tuple #[.agg #[.int .i64 0, .int .i64 0], .bool false]
theorem next_no {t m : Int} (h : t < 0 ∨ 1073741824 ≤ t ∨ m < 0 ∨ 5 ≤ m) : NextE t m = .tuple #[.agg #[.int .i64 0, .int .i64 0], .bool false] := by
  have : nextOk t m = false := by
    unfold nextOk
    simp only [Bool.and_eq_false_iff, decide_eq_false_iff_not]
    omega
  unfold NextE
  rw [this]; rfl
theorem next_yes {t m : Int} (h1 : ¬ t < 0) (h2 : ¬ 1073741824 ≤ t) (h3 : ¬ m < 0) (h4 : ¬ 5 ≤ m) : NextE t m = .tuple #[.agg #[.int .i64 (t + 1), .int .i64 m], .bool true] := by
  have : nextOk t m = true := by
    unfold nextOk
    simp only [Bool.and_eq_true, decide_eq_true_eq]
    omega
  unfold NextE
  rw [this]; rfl

theorem sizeBal : (Try.prog.info? 23).map (·.size) = some 2 := by kernel_rfl
/-- The result's box behind the argument's. -/
theorem bal_two (w : World) (r m x y : Int) : ((w.alloc (.cells #[.int .i64 r, .int .i64 m] 23)).alloc (.cells #[.int .i64 x, .int .i64 y] 23)).rangeAt (w.heap.size + 1) 0 [.int .i64 x, .int .i64 y] ∧ Below w.heap.size w ((w.alloc (.cells #[.int .i64 r, .int .i64 m] 23)).alloc (.cells #[.int .i64 x, .int .i64 y] 23)) := by
  refine ⟨?_, (below_new w _).alloc (by simp) _⟩
  have h := alloc_at (w.alloc (.cells #[.int .i64 r, .int .i64 m] 23)) (.cells #[.int .i64 x, .int .i64 y] 23)
  rw [World.size_alloc] at h
  intro j v hv
  simp only [World.cell?, h]
  simpa using hv

set_option maxHeartbeats 4000000 in
set_option maxRecDepth 100000 in
theorem Next_any (r m s n : Int) (w : World) : Calls Try.prog 27 #[.agg #[.int .i64 r, .int .i64 m], .int .i64 s, .int .i64 n] w fun e w' => e = .returned (NextE (max r s) n) ∧ Below w.heap.size w w' := by
  have HR := Lib.hid (fun x y => bal_two w r m x y)
  go_enter Try.func27, Try.ntmps27
  go_wp2
  all_goals refine bodyPost_ret (ret_cell_tmp rfl rfl (HR.out _ _).1 Try.underlying23 rfl sizeBal) rfl ?_
  all_goals refine ⟨?_, (HR.out _ _).2⟩
  all_goals first
    | exact congrArg Ending.returned (next_no (by omega)).symm
    | exact congrArg Ending.returned (next_yes (by omega) (by omega) (by omega) (by omega)).symm
    | trace_state

set_option maxHeartbeats 4000000 in
set_option maxRecDepth 100000 in
theorem Most_any (n : Int) (hn : I64 n) (w : World) : Calls Try.prog 26 #[.int .i64 n] w fun e w' => e = .returned (.int .i64 (mostN n)) ∧ w = w' := by
  unfold I64 at hn
  unfold mostN
  go_enter Try.func26, Try.ntmps26
  by_cases h : n < 1
  · rw [if_pos h]
    go_wp2
    go_ret
    exact ⟨rfl, rfl⟩
  · rw [if_neg h]
    go_wp2
    go_ret
    exact ⟨rfl, rfl⟩
end Go.Proofs.Ytcofmfjhgbihkaa.crush
