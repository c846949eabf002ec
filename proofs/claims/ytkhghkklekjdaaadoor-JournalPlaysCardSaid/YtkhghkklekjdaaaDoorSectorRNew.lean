/- The document's New; how the law compares: ints. -/
import Derived.Test.YtkhghkklekjdaaaDoorRows
import Derived.Test.YtkhghkklekjdaaaDoorSectorRTell
namespace Go.Proofs.YtkhghkklekjdaaaDoor.sector
open Go.RowKit
open Go.Proofs.YtkhghkklekjdaaaDoor.kit Go.Proofs.YtkhghkklekjdaaaDoor.own
set_option linter.unusedVariables false

def RNewAt (w : World) (n : Nat) (e : Ending) (w' : World) : Prop := ∃ d, e = .returned (.pointer (some ⟨d, 0, none⟩)) ∧ RAt w' (Fresh w w') d (fresh n) ∧ Below w.heap.size w w'
theorem made_down (w : World) (N : Nat) (hN : N ≤ 1000000) : ∃ w1, (Instr.makeSlice 22 (.int .i64 (N : Nat)) (.int .i64 (N : Nat))).run Tryd.prog w = .ok (.slice (some ⟨w.heap.size, 0, none⟩) N N) w1 ∧
    OwnI w1 0 5 .u8 (.slice (some ⟨w.heap.size, 0, none⟩) N N) (List.replicate N 0) ∧ Below w.heap.size w w1 := by
  obtain ⟨i0, hi, hz0, hz1, hz2⟩ := info_parts infoByte
  obtain ⟨w1, h1, h2, h3⟩ := run_makeSlice_full (P := Tryd.prog) w 0 22 5 i0 (.int .u8 0) 1 Tryd.underlying22 hi hz0 hz1 .i64 .i64 N (by omega) (by rw [hz2]; omega) (by unfold maxLen; omega) (Nat.zero_le _)
  have e : (Value.int .u8 0).cells = #[.int .u8 0] := rfl
  rw [e, toList_madeCells_one, Nat.mul_one] at h2
  refine ⟨w1, h1, ?_, ⟨h3.os, h3.tape, h3.output, h3.size, fun k hk => h3.block k hk (by simp)⟩⟩
  unfold OwnI
  rw [List.length_replicate, List.map_replicate]
  exact h2

set_option maxHeartbeats 1000000 in
set_option maxRecDepth 100000 in
theorem rNew_ok (w : World) (n : Nat) (h1 : 1 ≤ n) (hn : n ≤ 4096) :
    Calls Tryd.prog 33 #[.int .i64 n] w (RNewAt w n) := by
  obtain ⟨w1, hmk, ho, hb⟩ := made_down w (n * 64) (by omega)
  rw [show ((n * 64 : Nat) : Int) = (n : Int) * 64 by omega] at hmk
  have HO := Lib.hid ho; have HB := Lib.hid hb; have HN := Lib.hid hn
  have hn1 : (1 : Int) ≤ (n : Int) := by omega
  have hn2 : (n : Int) ≤ 4096 := by omega
  clear ho hb h1 hn
  go_enter Tryd.func33, Tryd.ntmps33
  go_wp2
  go_ret
  have hs := HB.out.size
  have hg := (HO.out.lt w.heap.size rfl).2
  refine ⟨w1.heap.size, rfl, ⟨fresh_ok HN.out, .slice (some ⟨w.heap.size, 0, none⟩) (n * 64) (n * 64), .slice none 0 0, 0, ?_⟩, HB.out.alloc hs _⟩
  refine ⟨?_, HO.out.alloc _, World.ownsRow_nil _ _ _ _, fun p hp => (by simp [fresh] at hp), .inr ⟨hs, by simp⟩, fun g hg => ?_, fun g hg => (by cases hg), fun k hk => hk.elim False.elim (·.2)⟩
  · rw [alloc_at]
    simp [rCells, fresh, leftI]
  · cases hg
    refine .inr ⟨Nat.le_refl _, ?_⟩
    simp only [World.size_alloc]
    omega

set_option maxRecDepth 100000 in
theorem rNew_bad (w : World) (z : Int) (h : z < 1 ∨ 4096 < z) :
    Calls Tryd.prog 33 #[.int .i64 z] w fun e w' => e = .returned (.pointer none) ∧ w = w' := by
  by_cases h1 : z < 1
  · clear h
    go_enter Tryd.func33, Tryd.ntmps33
    go_wp2
    go_ret
    exact ⟨rfl, rfl⟩
  · have h2 : 4096 < z := by omega
    have h1' : 1 ≤ z := by omega
    clear h h1
    go_enter Tryd.func33, Tryd.ntmps33
    go_wp2
    go_ret
    exact ⟨rfl, rfl⟩

end Go.Proofs.YtkhghkklekjdaaaDoor.sector
