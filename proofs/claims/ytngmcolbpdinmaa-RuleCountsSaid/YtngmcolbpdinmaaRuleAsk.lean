/- What is asked of a rule, one after another. -/
import Derived.Test.YtngmcolbpdinmaaRows
import Derived.Test.YtngmcolbpdinmaaRulePl
namespace Go.Proofs.Ytngmcolbpdinmaa.crush
open Go.RowKit
open Go.Proofs.Ytngmcolbpdinmaa.kit Go.Proofs.Ytngmcolbpdinmaa.own Go.Proofs.Ytngmcolbpdinmaa.iter Go.Proofs.Ytngmcolbpdinmaa.heldin
set_option linter.unusedVariables false
attribute [local go_sem] Oper.semAt_some

/-- How many x are gone over. -/
def askR (n : Int) : Nat := (min n 2000).toNat

set_option maxHeartbeats 4000000 in
theorem askedR_any (x : Nat) (n : Int) (w : World) : Calls Try.prog 14 #[.int .u32 x, .int .i64 n] w fun e w' =>
    e = .returned (.func (.func 23) #[] #[.pointer (some ⟨w.heap.size + 1, 0, none⟩), .pointer (some ⟨w.heap.size, 0, none⟩)]) ∧
      w' = (w.alloc (.cells #[.int .u32 x] 24)).alloc (.cells #[.int .i64 n] 3) := by
  have hmf : ∀ (fn : Fn) (first cap : Array Value) (w : World), (Instr.makeFunc fn first cap).run Try.prog w = .ok (.func fn first cap) w := fun _ _ _ _ => rfl
  go_enter Try.func14, Try.ntmps14
  go_wp2
  go_ret
  exact ⟨rfl, rfl⟩

set_option maxHeartbeats 4000000 in
set_option maxRecDepth 100000 in
theorem askedR1_any (l bn bf : Nat) (x : Nat) (hx : x < 4294967296) (n : Int) (I : Nat → World → Prop)
    (hcells : ∀ i W, I i W → W.cell? ⟨bn, 0, none⟩ = some (.int .i64 n) ∧ W.cell? ⟨bf, 0, none⟩ = some (.int .u32 x))
    (hyield : ∀ i W, i < askR n → I i W → YieldAt Fence.wide 0 Try.prog l #[.int .u32 (((x + i) % 4294967296 : Nat) : Int)] W fun e W' => e = .returned (.bool true) ∧ I (i + 1) W')
    (W : World) (h0 : I 0 W) :
    CallsIn Fence.wide 0 Try.prog 23 #[.func (.yield l) #[] #[], .pointer (some ⟨bn, 0, none⟩), .pointer (some ⟨bf, 0, none⟩)] W fun e W' => (∃ v, e = .returned v) ∧ I (askR n) W' := by
  obtain ⟨c1, -⟩ := hcells 0 W h0
  have HC := Lib.hid hcells; have HY := Lib.hid hyield; have HI0 := Lib.hid h0
  obtain ⟨m, hm⟩ : ∃ m, askR n = m := ⟨_, rfl⟩
  have hle : m ≤ 2000 := by unfold askR at hm; omega
  have hlt : ∀ k : Nat, ((k : Int) < min n 2000) ↔ k < m := by intro k; unfold askR at hm; omega
  rw [hm] at HY ⊢
  have HLt := Lib.hid hlt; have HX := Lib.hid hx
  clear hcells hyield h0 hm hlt hx
  refine callsIn_of_wp Try.func23 rfl trivial ?_ rfl
  simp only [Try.ntmps23, List.size_toArray, List.length_cons, List.length_nil, Nat.reduceAdd, Nat.reduceSub, Array.replicate_succ, Array.replicate_zero, List.push_toArray, List.append_toArray, List.nil_append, List.cons_append]
  gi_wp2
  generalize min n 2000 = mi at HLt ⊢
  clear c1
  gi_loopw [7] (fun v wr => ∃ k : Nat, k ≤ m ∧ v = .int .i64 k ∧ I k wr) (fun v _ => m - (intOf v).toNat)
  case atStart => exact ⟨0, by omega, rfl, HI0.out⟩
  case round =>
    obtain ⟨k, hk, rfl, hi⟩ := hrel
    by_cases hlt : k < m
    · have hlt' : (k : Int) < mi := (HLt.out k).2 hlt
      obtain ⟨-, d1⟩ := HC.out _ _ hi
      obtain ⟨fn, tmps, asg, bd, hy, hYr⟩ := HY.out k wr hlt hi
      have HYr := Lib.hid hYr
      have e2 : True → ((x : Int) + (k : Int)) % 4294967296 = (((x + k) % 4294967296 : Nat) : Int) := fun _ => by omega
      generalize (x + k) % 4294967296 = z at hy e2
      have e1 : True → (k : Int) % 4294967296 = k := fun _ => by omega
      clear hYr hi
      gi_wp2
      refine ⟨rfl, HYr.out.mono ?_⟩
      rintro e W3 ⟨rfl, hI⟩
      have HI3 := Lib.hid hI
      clear hI hy d1 e1 e2
      gi_wp2
      go_roundw
      case rel => exact ⟨k + 1, by omega, by go_num, HI3.out⟩
      case measure => simp [intOf]; omega
    · obtain rfl : k = m := by omega
      have hge : ¬ (k : Int) < mi := fun h => hlt ((HLt.out k).1 h)
      have HI := Lib.hid hi
      clear hi
      gi_wp2
      go_end0
      exact ⟨⟨_, rfl⟩, HI.out⟩
end Go.Proofs.Ytngmcolbpdinmaa.crush
