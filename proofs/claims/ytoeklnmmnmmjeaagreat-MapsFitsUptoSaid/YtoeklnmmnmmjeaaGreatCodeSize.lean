/- 'Fields', and the size of a field. -/
import Derived.Test.YtoeklnmmnmmjeaaGreatRows
import Derived.Test.YtoeklnmmnmmjeaaGreatCodePick
import Derived.Test.YtoeklnmmnmmjeaaGreatCodeWrite
import Derived.IntWalk
import Derived.BigQuiet
namespace Go.Proofs.YtoeklnmmnmmjeaaGreat.code
open Go.RowKit
open Go.Proofs.YtoeklnmmnmmjeaaGreat.kit Go.Proofs.YtoeklnmmnmmjeaaGreat.cm
set_option linter.unusedVariables false

theorem own_len {W : World} {B e : Nat} {k : IntKind} {a : Option Addr} {n c : Nat} {ns : List Nat} (h : OwnI W B e k (.slice a n c) ns) : n = ns.length := by
  rcases h.2 with ⟨h1, h2⟩ | ⟨g, cap, cur, h1, _⟩
  · cases h1; simpa using h2.symm
  · cases h1; simp

set_option maxHeartbeats 4000000 in
set_option maxRecDepth 100000 in
theorem Fields_any (sl : Value) (fs : List Fld) (w : World) (hs : SlF w sl fs) (hok : ∀ f ∈ fs, f.Ok) (hlen : (fs.flatMap Fld.bytes).length ≤ 800000000000) (htx : ∀ f ∈ fs, f.text.size ≤ 100000000000) :
    Calls Tryz.prog 77 #[sl] w fun e w' => ∃ v, e = .returned v ∧ OwnI w' w.heap.size 5 .u8 v (bytesL fs) ∧ Below w.heap.size w w' := by
  go_enter Tryz.func77, Tryz.ntmps77
  go_wp2_with fail
  refine (write_putField sl fs w hs hok hlen htx).mono ?_
  rintro e w1 ⟨v, rfl, ho, hb⟩
  have HO := Lib.hid ho; have HB := Lib.hid hb
  clear ho hb
  go_wp2
  go_ret
  exact ⟨_, rfl, HO.out, HB.out⟩

theorem boxed4 {w w1 : World} {k n : Int} {t : ByteArray} {b : Bool} {T : TypeId} (hb : Below (w.alloc (Obj.cells #[Value.int .i64 k, Value.int .i64 n, Value.string t, Value.bool b] T)).heap.size (w.alloc (Obj.cells #[Value.int .i64 k, Value.int .i64 n, Value.string t, Value.bool b] T)) w1) :
    w1.cell? ⟨w.heap.size, 0, none⟩ = some (.int .i64 k) ∧ w1.cell? ⟨w.heap.size, 1, none⟩ = some (.int .i64 n) ∧ w1.cell? ⟨w.heap.size, 2, none⟩ = some (.string t) ∧ w1.cell? ⟨w.heap.size, 3, none⟩ = some (.bool b) ∧ Below w.heap.size w w1 := by
  have h := (hb.block w.heap.size (by simp)).trans (heap_alloc_last w (Obj.cells #[Value.int .i64 k, Value.int .i64 n, Value.string t, Value.bool b] T))
  have hb' := ((Below.refl w.heap.size w).alloc (Nat.le_refl _) (Obj.cells #[Value.int .i64 k, Value.int .i64 n, Value.string t, Value.bool b] T)).trans (hb.mono (by simp))
  refine ⟨?_, ?_, ?_, ?_, hb'⟩ <;> (simp only [World.cell?, h]; rfl)

theorem width_q (x : Nat) (hx : x < 18446744073709551616) (w : World) : Calls Tryz.prog 194 #[.int .u64 x] w fun e w' => e = .returned (.int .i64 ((numB x).length : Nat)) ∧ w' = w :=
  (width_any x hx w).mono fun _ _ h => ⟨h.1, h.2.symm⟩

theorem size_eq (f : Fld) (hf : f.fit = true) : (bytesL [f]).length = f.bytes.length := by simp [bytesL, fits, hf]

end Go.Proofs.YtoeklnmmnmmjeaaGreat.code
