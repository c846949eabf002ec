/- The walk of bits.Len32 at every word, of bits.Len64 at the two words that are all ones. -/
import Derived.Test.YtbelemfdkbgjiaaRows
import Derived.Lib.Walk
import Derived.Lib.BitFns
namespace Go.Proofs.Ytbelemfdkbgjiaa.hash
set_option maxHeartbeats 4000000 in
set_option maxRecDepth 100000 in
theorem len64_32 (w : World) :
    Calls Try.prog 98 #[.int .u64 4294967295] w fun e w' => e = .returned (.int .i64 32) ∧ w = w' := by
  go_enter Try.func98, Try.ntmps98
  go_wp2
  go_ret
  refine ⟨congrArg Ending.returned (congrArg (Value.int IntKind.i64) ?_), rfl⟩
  decide +kernel

set_option maxHeartbeats 4000000 in
set_option maxRecDepth 100000 in
theorem len64_64 (w : World) :
    Calls Try.prog 98 #[.int .u64 18446744073709551615] w fun e w' => e = .returned (.int .i64 64) ∧ w = w' := by
  go_enter Try.func98, Try.ntmps98
  go_wp2
  go_ret
  refine ⟨congrArg Ending.returned (congrArg (Value.int IntKind.i64) ?_), rfl⟩
  decide +kernel

end Go.Proofs.Ytbelemfdkbgjiaa.hash
