/- Whether a number stands in a row: slices.Contains. -/
import Derived.Test.YtngmcolbpdinmaaRows
import Derived.Test.YtngmcolbpdinmaaCrushBase
namespace Go.Proofs.Ytngmcolbpdinmaa.crush
open Go.RowKit
open Go.Proofs.Ytngmcolbpdinmaa.kit Go.Proofs.Ytngmcolbpdinmaa.own
set_option linter.unusedVariables false

def IdxS (w : World) (xs : List Int) (z : Int) (e : Ending) (w' : World) : Prop := ∃ i : Int, e = .returned (.int .i64 i) ∧ (decide (0 ≤ i) = xs.contains z) ∧ Below w.heap.size w w'
set_option maxHeartbeats 8000000 in
set_option maxRecDepth 100000 in
theorem Index_any (v : Value) (xs : List Int) (z : Int) (w : World) (h : Sl ic 1 w v xs) : Calls Try.prog 27 #[v, .int .i64 z] w (IdxS w xs z) := by
  obtain ⟨hl, a, c, rfl, -, hc⟩ := h
  have HC := Lib.hid hc
  have HAll : Hid (∀ k, k ≤ xs.length → (∀ j (h : j < xs.length), j < k → xs[j] ≠ z) → k = xs.length → xs.contains z = false) := Lib.hid (fun k _ h e => by
    cases hh : xs.contains z with
    | false => rfl
    | true =>
      obtain ⟨j, hj, e2⟩ := List.getElem_of_mem (List.contains_iff_mem.1 hh)
      exact absurd e2 (h j hj (by omega)))
  have HOne : Hid (∀ k (h : k < xs.length), xs[k] = z → xs.contains z = true) := Lib.hid (fun k h e => by rw [List.contains_iff_mem, ← e]; exact List.getElem_mem h)
  obtain ⟨L, hL⟩ : ∃ L, xs.length = L := ⟨_, rfl⟩
  have HL := Lib.hid hL
  rw [hL] at hl ⊢
  clear hc hL
  go_enter Try.func27, Try.ntmps27
  go_wp2
  go_loopw [8] (fun vi wr => ∃ k : Nat, k ≤ L ∧ vi = .int .i64 k ∧ Hid (∀ j (h : j < xs.length), j < k → xs[j] ≠ z) ∧ Below w.heap.size w wr) (fun i _ => L - (intOf i).toNat)
  case atStart => exact ⟨0, by omega, rfl, Lib.hid (fun j h h2 => by omega), Below.refl _ _⟩
  case round =>
    obtain ⟨k, hk, rfl, HN, hbw⟩ := hrel
    have HB := Lib.hid hbw
    clear hbw
    by_cases hlt : k < L
    · have hlt' : (k : Int) < L := by omega
      have hk0 : (0 : Int) ≤ k := by omega
      have hi : k < xs.length := by rw [HL.out]; exact hlt
      obtain ⟨b, off, rfl, hbl, hcell⟩ := HC.out (by omega)
      have d1 := icell_at (range_keep (hcell k hi) hbl HB.out)
      rw [Nat.mul_one] at d1
      clear hcell hbl
      obtain ⟨y, hy⟩ : ∃ y, xs[k] = y := ⟨_, rfl⟩
      have HY := Lib.hid hy
      rw [hy] at d1
      by_cases hyz : z = y
      · have heq : True → (z == y) = true := fun _ => by simp [hyz]
        have HR : Hid (xs.contains z = true) := Lib.hid (HOne.out k hi (by rw [hy]; exact hyz.symm))
        clear hyz hy
        go_wp2
        go_ret
        exact ⟨_, rfl, by rw [HR.out]; simp, HB.out⟩
      · have heq : True → (z == y) = false := fun _ => by simp [hyz]
        have HN2 : Hid (∀ j (h : j < xs.length), j < k + 1 → xs[j] ≠ z) := Lib.hid (fun j h h2 => by
          rcases Nat.lt_or_ge j k with h3 | h3
          · exact HN.out j h h3
          · obtain rfl : j = k := by omega
            rw [HY.out]; exact fun e => hyz e.symm)
        clear hyz hy
        go_wp2
        clear heq d1
        go_roundw
        case rel => exact ⟨k + 1, by omega, by go_num, HN2, HB.out⟩
        case measure => simp [intOf]; omega
    · obtain rfl : k = L := by omega
      have HF := Lib.hid (HAll.out k (by rw [HL.out]; exact Nat.le_refl _) HN.out HL.out.symm)
      go_wp2
      go_ret
      exact ⟨_, rfl, by rw [HF.out]; rfl, HB.out⟩

set_option maxHeartbeats 4000000 in
theorem Contains_any (v : Value) (xs : List Int) (z : Int) (w : World) (h : Sl ic 1 w v xs) : Calls Try.prog 18 #[v, .int .i64 z] w fun e w' => e = .returned (.bool (xs.contains z)) ∧ Below w.heap.size w w' := by
  have HI := Lib.hid (Index_any v xs z w h)
  obtain ⟨a, c, rfl⟩ := h.slice
  generalize xs.length = L at HI ⊢
  clear h
  go_enter Try.func18, Try.ntmps18
  go_wp2_with fail
  refine HI.out.mono ?_
  rintro e w1 ⟨i, rfl, hi, hb⟩
  have HH := Lib.hid hi; have HB := Lib.hid hb
  clear hi hb HI
  go_wp2
  go_ret
  exact ⟨by rw [← HH.out]; rfl, HB.out⟩
end Go.Proofs.Ytngmcolbpdinmaa.crush
