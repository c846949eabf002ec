/- The row that 'write' and 'read' range over: the iterator's own walk. -/
import Derived.Test.YtoeklnmmnmmjeaaGreatRows
import Derived.Test.YtoeklnmmnmmjeaaGreatCodePick
import Derived.Test.YtoeklnmmnmmjeaaGreatCodeRow
namespace Go.Proofs.YtoeklnmmnmmjeaaGreat.code
open Go.RowKit
open Go.Proofs.YtoeklnmmnmmjeaaGreat.kit Go.Proofs.YtoeklnmmnmmjeaaGreat.cm Go.Proofs.YtoeklnmmnmmjeaaGreat.iter
set_option linter.unusedVariables false
attribute [local go_sem] Oper.semAt_some

set_option maxHeartbeats 4000000 in
set_option maxRecDepth 100000 in
/-- The iterator that 'row' makes, over a closure of function number 182. -/
theorem row1_read (l n bn bf : Nat) (lb : Array Value) (I X : Nat → World → Prop) (Mid : Nat → Fld → Int → World → Prop)
    (hcells : ∀ i W, I i W → W.cell? ⟨bn, 0, none⟩ = some (.int .i64 n) ∧ W.cell? ⟨bf, 0, none⟩ = some (.func (.func 182) #[] lb))
    (hn : n ≤ 9223372036854775807)
    (hfield : ∀ i W, i < n → I i W → CallsIn Fence.wide 0 Tryz.prog 182 (#[.int .i64 i] ++ lb) W fun e W' => ∃ f er, e = .returned (.tuple #[.agg #[.int .i64 f.kind, .int .i64 f.num, .string f.text, .bool f.is], .int .i64 er]) ∧ Mid i f er W')
    (hyield : ∀ i f er W, i < n → Mid i f er W → YieldAt Fence.wide 0 Tryz.prog l #[.agg #[.int .i64 f.kind, .int .i64 f.num, .string f.text, .bool f.is], .int .i64 er] (W.alloc (.cells #[.int .i64 f.kind, .int .i64 f.num, .string f.text, .bool f.is] 86)) fun e W' =>
      (e = .returned (.bool true) ∧ er = 0 ∧ I (i + 1) W') ∨ (e = .returned (.bool false) ∧ X i W'))
    (W : World) (h0 : I 0 W) :
    CallsIn Fence.wide 0 Tryz.prog 192 #[.func (.yield l) #[] #[], .pointer (some ⟨bn, 0, none⟩), .pointer (some ⟨bf, 0, none⟩)] W fun e W' => (∃ v, e = .returned v) ∧ (I n W' ∨ ∃ i, i < n ∧ X i W') := by
  obtain ⟨c1, c2⟩ := hcells 0 W h0
  refine callsIn_of_wp Tryz.func192 rfl trivial ?_ rfl
  simp only [Tryz.ntmps192, List.size_toArray, List.length_cons, List.length_nil, Nat.reduceAdd, Nat.reduceSub, Array.replicate_succ, Array.replicate_zero, List.push_toArray, List.append_toArray, List.nil_append, List.cons_append]
  gi_wp2
  gi_loopw [8] (fun v wr => ∃ k : Nat, k ≤ n ∧ v = .int .i64 k ∧ I k wr) (fun v _ => n - (intOf v).toNat)
  case atStart => exact ⟨0, by omega, rfl, h0⟩
  case round =>
    obtain ⟨k, hk, rfl, hi⟩ := hrel
    by_cases hlt : k < n
    · have hlt' : (k : Int) < n := by omega
      have hc2 := (hcells k wr hi).2
      have HF := Lib.hid hfield; have HY := Lib.hid hyield; have HC := Lib.hid hcells; have HI := Lib.hid hi
      clear hfield hyield hcells hi
      gi_wp2_with (refine ⟨trivial, rfl, ?_⟩; gi_at_call 182; refine (HF.out k wr hlt HI.out).mono ?_; rintro e W1 ⟨f, er, rfl, hm⟩; obtain ⟨fn, tmps, asg, bd, hy, hR⟩ := HY.out k f er W1 hlt hm; have HR := Lib.hid hR; clear hm hR hc2)
      refine ⟨rfl, HR.out.mono ?_⟩
      rintro e W3 (⟨rfl, rfl, hI⟩ | ⟨rfl, hX⟩)
      · have HI3 := Lib.hid hI
        clear hI hy
        gi_wp2
        go_roundw
        case rel => exact ⟨k + 1, by omega, by go_num, HI3.out⟩
        case measure => simp [intOf]; omega
      · have HX3 := Lib.hid hX
        clear hX hy
        gi_wp2
        refine bodyPost_ret (results_none rfl _ _ _) rfl ?_
        exact ⟨⟨_, rfl⟩, .inr ⟨k, hlt, HX3.out⟩⟩
    · obtain rfl : k = n := by omega
      have HI := Lib.hid hi
      clear hfield hyield hcells hi
      gi_wp2
      go_end0
      exact ⟨⟨_, rfl⟩, .inl HI.out⟩

end Go.Proofs.YtoeklnmmnmmjeaaGreat.code
