/- A new device. -/
import Derived.Test.YtkhghkklekjdaaaDoorRows
import Derived.Test.YtkhghkklekjdaaaDoorSectorRead
namespace Go.Proofs.YtkhghkklekjdaaaDoor.sector
open Go.RowKit
open Go.Proofs.YtkhghkklekjdaaaDoor.kit Go.Proofs.YtkhghkklekjdaaaDoor.own
set_option linter.unusedVariables false

def fresh (n : Nat) : Dev := { cache := [], laid := List.replicate (n * 64) 0, n := n, power := true, cut := none, ws := 0, fs := 0 }
theorem fresh_ok {n : Nat} (h : n ≤ 4096) : (fresh n).Ok := ⟨h, by simp [fresh]; omega, by simp [fresh], by simp [fresh], by simp [fresh, keys], by simp [fresh], by simp [fresh], by simp [fresh]⟩
/-- What is new. -/
def Fresh (w w' : World) : Nat → Prop := More (fun _ => False) w w'
def NewAt (w : World) (n : Nat) (e : Ending) (w' : World) : Prop := ∃ d, e = .returned (.pointer (some ⟨d, 0, none⟩)) ∧ DevAt w' (Fresh w w') d (fresh n) ∧ Below w.heap.size w w'

theorem infoBlkAll : (Tryd.prog.info? 61).map (fun i => (i.zero, i.size, i.bytes)) = some (some (.agg (ba zeros64)), 64, 64) := by kernel_rfl
theorem made_zeros (n : Nat) : (madeCells (ba zeros64) n).toList = bv (List.replicate n 0) := by
  apply List.ext_getElem?
  intro j
  have hz : (ba zeros64).size = 64 := by rw [ba_size]; simp [zeros64]
  by_cases hj : j < n
  · have h64 : j % 64 < 64 := by omega
    have e : (ba zeros64)[j % 64]? = some (.int .u8 0) := by
      have := bv_at zeros64 (j % 64) (by simp [zeros64]; omega)
      rw [ba, List.getElem?_toArray, this]
      have : zeros64.getD (j % 64) 0 = 0 := by simp only [zeros64, List.getD, List.getElem?_replicate]; split <;> rfl
      rw [this]; rfl
    have e2 : (ba zeros64)[j % 64]! = .int .u8 0 := by rw [getElem!_def, e]
    simp [madeCells, bv, hj, hz, e2]
  · simp [madeCells, bv, hj]
theorem made_blocks (w : World) (n : Nat) (hn : n ≤ 4096) : ∃ w1, (Instr.makeSlice 63 (.int .i64 (n : Nat)) (.int .i64 (n : Nat))).run Tryd.prog w = .ok (.slice (some ⟨w.heap.size, 0, none⟩) n n) w1 ∧
    w1.ownsRow 0 61 64 (.slice (some ⟨w.heap.size, 0, none⟩) n n) n (bv (List.replicate (n * 64) 0)) ∧ Below w.heap.size w w1 := by
  obtain ⟨i0, hi, hz0, hz1, hz2⟩ := info_parts infoBlkAll
  obtain ⟨w1, h1, h2, h3⟩ := run_makeSlice_full (P := Tryd.prog) w 0 63 61 i0 (.agg (ba zeros64)) 64 Tryd.underlying63 hi hz0 hz1 .i64 .i64 n (by omega) (by rw [hz2]; omega) (by unfold maxLen; omega) (Nat.zero_le _)
  have e : (Value.agg (ba zeros64)).cells = ba zeros64 := rfl
  rw [e, made_zeros] at h2
  exact ⟨w1, h1, h2, ⟨h3.os, h3.tape, h3.output, h3.size, fun k hk => h3.block k hk (by simp)⟩⟩

set_option maxHeartbeats 1000000 in
set_option maxRecDepth 100000 in
theorem New_ok (w : World) (n : Nat) (h1 : 1 ≤ n) (hn : n ≤ 4096) :
    Calls Tryd.prog 30 #[.int .i64 n] w (NewAt w n) := by
  obtain ⟨w1, hmk, ho, hb⟩ := made_blocks w n hn
  have HO := Lib.hid ho; have HB := Lib.hid hb; have HN := Lib.hid hn
  have hn1 : (1 : Int) ≤ (n : Int) := by omega
  have hn2 : (n : Int) ≤ 4096 := by omega
  clear ho hb h1 hn
  go_enter Tryd.func30, Tryd.ntmps30
  go_wp2
  go_ret
  have hs := HB.out.size
  have hg := (HO.out.lt w.heap.size rfl).2
  refine ⟨w1.heap.size, rfl, ⟨fresh_ok HN.out, .slice none 0 0, .slice none 0 0, .slice (some ⟨w.heap.size, 0, none⟩) n n, ?_⟩, HB.out.alloc hs _⟩
  refine ⟨?_, OwnI.nil _ _ _ _, World.ownsRow_nil _ _ _ _, ?_, fun g hg => (by cases hg), .inr ⟨hs, by simp⟩, fun g hg => (by cases hg), fun g hg => (by cases hg), fun g hg => ?_, fun k hk => hk.elim False.elim (·.2)⟩
  · rw [alloc_at]
    simp [devCells, fresh, isCut, cutLeft, cutPick]
  · exact HO.out.alloc _
  · cases hg
    refine .inr ⟨Nat.le_refl _, ?_⟩
    simp only [World.size_alloc]
    omega

set_option maxRecDepth 100000 in
theorem New_bad (w : World) (z : Int) (h : z < 1 ∨ 4096 < z) :
    Calls Tryd.prog 30 #[.int .i64 z] w fun e w' => e = .returned (.pointer none) ∧ w = w' := by
  by_cases h1 : z < 1
  · clear h
    go_enter Tryd.func30, Tryd.ntmps30
    go_wp2
    go_ret
    exact ⟨rfl, rfl⟩
  · have h2 : 4096 < z := by omega
    have h1' : 1 ≤ z := by omega
    clear h h1
    go_enter Tryd.func30, Tryd.ntmps30
    go_wp2
    go_ret
    exact ⟨rfl, rfl⟩

end Go.Proofs.YtkhghkklekjdaaaDoor.sector
