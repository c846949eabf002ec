/- 'ReadKey'. -/
import Derived.Test.YtlghbfgkhdnaoaaRows
import Derived.Test.YtlghbfgkhdnaoaaCodeReadP
import Derived.Test.YtlghbfgkhdnaoaaCodeReadW
import Derived.Lib.ConvBytes
namespace Go.Proofs.Ytlghbfgkhdnaoaa.code
open Go.RowKit
open Go.Proofs.Ytlghbfgkhdnaoaa.kit Go.Proofs.Ytlghbfgkhdnaoaa.cm
set_option linter.unusedVariables false

/-- '[]byte(s)'. -/
theorem str_bytes (w : World) (s : ByteArray) (hs : s.size ≤ 100000000000) : ∃ cap W1, (convert 9 62 (.string s)).run Try.prog w = .ok (.slice (some ⟨w.heap.size, 0, none⟩) s.size cap) W1 ∧
    SlB W1 (.slice (some ⟨w.heap.size, 0, none⟩) s.size cap) (txtN s) (fun _ => True) ∧ Below w.heap.size w W1 := by
  refine ⟨_, _, Lib.run_convert_string_bytes (P := Try.prog) w 9 62 5 s Try.underlying9 Try.underlying62 Try.underlying5, ?_, ?_⟩
  · have e : (txtN s).length = s.size := by unfold txtN; rw [List.length_map, Array.length_toList]; rfl
    refine ⟨by omega, _, _, by rw [e], by rw [e]; exact grownCap_ge _ _ _ _, fun _ => ⟨w.heap.size, 0, rfl, trivial, by rw [Lib.bytesWorld_size]; omega, fun j hj => ?_⟩⟩
    rw [e] at hj
    rw [Nat.zero_add, Lib.bytesWorld_cell w _ s j hj]
    have hj' : j < s.data.toList.length := by rw [Array.length_toList]; exact hj
    simp [txtN, List.getD, List.getElem?_eq_getElem hj']
  · exact ⟨rfl, rfl, rfl, by rw [Lib.bytesWorld_size]; omega, fun k hk => Lib.bytesWorld_at_old w _ s k hk⟩

/-- What 'ReadKey' says. -/
def ReadKS (w : World) (R0 : Except Int (List Fld × List Nat)) (e : Ending) (w' : World) : Prop :=
  Below w.heap.size w w' ∧
    match R0 with
    | .ok (fs, []) => ∃ v, e = .returned (.tuple #[v, .int .i64 0]) ∧ OwnF w' w.heap.size v fs
    | .ok (_, _ :: _) => e = .returned (.tuple #[.slice none 0 0, .int .i64 10])
    | .error er => e = .returned (.tuple #[.slice none 0 0, .int .i64 er]) ∧ er ≠ 0

end Go.Proofs.Ytlghbfgkhdnaoaa.code
