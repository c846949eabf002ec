/- slices.IndexFunc and slices.ContainsFunc of numbers, storage nodes and pools. -/
import Derived.Test.YtoeklnmmnmmjeaaRows
import Derived.Test.YtoeklnmmnmmjeaaAccBase
namespace Go.Proofs.Ytoeklnmmnmmjeaa.crush
open Go.RowKit
open Go.Proofs.Ytoeklnmmnmmjeaa.kit Go.Proofs.Ytoeklnmmnmmjeaa.own
set_option linter.unusedVariables false

def IdxF {α : Type} (w : World) (xs : List α) (p : α → Bool) (e : Ending) (w' : World) : Prop := ∃ i : Int, e = .returned (.int .i64 i) ∧ (decide (0 ≤ i) = xs.any p) ∧ Below w.heap.size w w'
theorem any_none {α : Type} (xs : List α) (p : α → Bool) (h : ∀ j (hj : j < xs.length), p xs[j] = false) : xs.any p = false := by
  rw [List.any_eq_false]
  intro x hx
  obtain ⟨j, hj, rfl⟩ := List.getElem_of_mem hx
  rw [h j hj]; simp
theorem any_some {α : Type} (xs : List α) (p : α → Bool) (j : Nat) (hj : j < xs.length) (h : p xs[j] = true) : xs.any p = true := List.any_eq_true.2 ⟨xs[j], List.getElem_mem hj, h⟩

set_option maxHeartbeats 8000000 in
set_option maxRecDepth 100000 in
theorem indexFT (v : Value) (xs : List ByteArray )  (p : ByteArray → Bool) (w : World) (h : Sl tx 1 w v xs)
    (H : ∀ (x : ByteArray ) u, Below w.heap.size w u → Calls Try.prog 41 #[.string x  ] u fun e w' => e = .returned (.bool (p x)) ∧ Below u.heap.size u w') :
    Calls Try.prog 43 #[v, .func (.func 41 ) #[] #[ ]] w (IdxF w xs p) := by
  obtain ⟨hl, a, c, rfl, -, hc⟩ := h
  have HC := Lib.hid hc; have HH := Lib.hid H
  have HNo := Lib.hid (any_none xs p); have HYes := Lib.hid (any_some xs p)
  obtain ⟨L, hL⟩ : ∃ L, xs.length = L := ⟨_, rfl⟩
  have HL := Lib.hid hL
  rw [hL] at hl ⊢
  clear hc hL H
  go_enter Try.func43 , Try.ntmps43 
  go_wp2
  go_loopw [8] (fun vi wr => ∃ k : Nat, k ≤ L ∧ vi = .int .i64 k ∧ Hid (∀ j (h : j < xs.length), j < k → p xs[j] = false) ∧ Below w.heap.size w wr) (fun i _ => L - (intOf i).toNat)
  case atStart => exact ⟨0, by omega, rfl, Lib.hid (fun j h h2 => by omega), Below.refl _ _⟩
  case round =>
    obtain ⟨k, hk, rfl, HN, hbw⟩ := hrel
    have HB := Lib.hid hbw
    clear hbw
    by_cases hlt : k < L
    · have hlt' : (k : Int) < L := by omega
      have hk0 : (0 : Int) ≤ k := by omega
      have hi : k < xs.length := by rw [HL.out]; exact hlt
      obtain ⟨b, off, rfl, hbl, hcell⟩ := HC.out (by omega)
      have hr := range_keep (hcell k hi) hbl HB.out
      have d1 := tcell_at hr
      rw [Nat.mul_one] at d1
      clear hcell hbl hr
      obtain ⟨y, hy⟩ : ∃ y, xs[k] = y := ⟨_, rfl⟩
      have HY := Lib.hid hy
      rw [hy] at d1 
      have HCy := Lib.hid (HH.out y wr HB.out)
      obtain ⟨q, hq⟩ : ∃ q, p y = q := ⟨_, rfl⟩
      rw [hq] at HCy
      have HQ := Lib.hid hq
      clear hy hq
      cases q with
      | true =>
        have HR : Hid (xs.any p = true) := Lib.hid (HYes.out k hi (by rw [HY.out]; exact HQ.out))
        go_wp2_with (go_at_call 41 ; refine HCy.out.mono ?_; rintro e w5 ⟨rfl, hb⟩; have HB5 := Lib.hid (HB.out.trans (hb.mono HB.out.size)); clear hb d1 )
        go_ret
        exact ⟨_, rfl, by rw [HR.out]; simp, HB5.out⟩
      | false =>
        have HN2 : Hid (∀ j (h : j < xs.length), j < k + 1 → p xs[j] = false) := Lib.hid (fun j h h2 => by
          rcases Nat.lt_or_ge j k with h3 | h3
          · exact HN.out j h h3
          · obtain rfl : j = k := by omega
            rw [HY.out]; exact HQ.out)
        go_wp2_with (go_at_call 41 ; refine HCy.out.mono ?_; rintro e w5 ⟨rfl, hb⟩; have HB5 := Lib.hid (HB.out.trans (hb.mono HB.out.size)); clear hb d1 )
        go_roundw
        case rel => exact ⟨k + 1, by omega, by go_num, HN2, HB5.out⟩
        case measure => simp [intOf]; omega
    · obtain rfl : k = L := by omega
      have HF : Hid (xs.any p = false) := Lib.hid (HNo.out (fun j hj => HN.out j hj (by rw [← HL.out]; exact hj)))
      go_wp2
      go_ret
      exact ⟨_, rfl, by rw [HF.out]; rfl, HB.out⟩

set_option maxHeartbeats 4000000 in
theorem containsFT (v : Value) (xs : List ByteArray )  (p : ByteArray → Bool) (w : World) (h : Sl tx 1 w v xs)
    (H : ∀ (x : ByteArray ) u, Below w.heap.size w u → Calls Try.prog 41 #[.string x  ] u fun e w' => e = .returned (.bool (p x)) ∧ Below u.heap.size u w') :
    Calls Try.prog 42 #[v, .func (.func 41 ) #[] #[ ]] w fun e w' => e = .returned (.bool (xs.any p)) ∧ Below w.heap.size w w' := by
  have HI := Lib.hid (indexFT v xs  p w h H)
  obtain ⟨a, c, rfl⟩ := h.slice
  generalize xs.length = L at HI ⊢
  clear h H
  go_enter Try.func42 , Try.ntmps42 
  go_wp2_with fail
  refine HI.out.mono ?_
  rintro e w1 ⟨i, rfl, hi, hb⟩
  have HH := Lib.hid hi; have HB := Lib.hid hb
  clear hi hb HI
  go_wp2
  go_ret
  exact ⟨by rw [← HH.out]; rfl, HB.out⟩
end Go.Proofs.Ytoeklnmmnmmjeaa.crush
