/- slices.IndexFunc and slices.ContainsFunc of numbers, storage nodes and pools. -/
import Derived.Test.YtoeklnmmnmmjeaaGreatRows
import Derived.Test.YtoeklnmmnmmjeaaGreatMapsRow
namespace Go.Proofs.YtoeklnmmnmmjeaaGreat.crush
open Go.RowKit
open Go.Proofs.YtoeklnmmnmmjeaaGreat.kit Go.Proofs.YtoeklnmmnmmjeaaGreat.own
set_option linter.unusedVariables false

def IdxF {α : Type} (w : World) (xs : List α) (p : α → Bool) (e : Ending) (w' : World) : Prop := ∃ i : Int, e = .returned (.int .i64 i) ∧ (decide (0 ≤ i) = xs.any p) ∧ Below w.heap.size w w'
theorem any_none {α : Type} (xs : List α) (p : α → Bool) (h : ∀ j (hj : j < xs.length), p xs[j] = false) : xs.any p = false := by
  rw [List.any_eq_false]
  intro x hx
  obtain ⟨j, hj, rfl⟩ := List.getElem_of_mem hx
  rw [h j hj]; simp
theorem any_some {α : Type} (xs : List α) (p : α → Bool) (j : Nat) (hj : j < xs.length) (h : p xs[j] = true) : xs.any p = true := List.any_eq_true.2 ⟨xs[j], List.getElem_mem hj, h⟩
theorem ocells4 {w : World} {b o : Nat} {x : OsdV} (h : w.rangeAt b o (oc x)) : w.cell? ⟨b, o, none⟩ = some (.int .i64 x.boot) ∧ w.cell? ⟨b, o + 1, none⟩ = some (.bool x.up) ∧ w.cell? ⟨b, o + 2, none⟩ = some (.int .i64 x.wt) ∧ w.cell? ⟨b, o + 3, none⟩ = some (.int .i64 x.thru) := ⟨h 0 _ rfl, h 1 _ rfl, h 2 _ rfl, h 3 _ rfl⟩
theorem pcells4 {w : World} {b o : Nat} {x : PoolV} (h : w.rangeAt b o (pc x)) : w.cell? ⟨b, o, none⟩ = some (.int .i64 x.size) ∧ w.cell? ⟨b, o + 1, none⟩ = some (.int .i64 x.min) ∧ w.cell? ⟨b, o + 2, none⟩ = some (.int .i64 x.pgs) ∧ w.cell? ⟨b, o + 3, none⟩ = some (.int .i64 x.dom) := ⟨h 0 _ rfl, h 1 _ rfl, h 2 _ rfl, h 3 _ rfl⟩

set_option maxHeartbeats 8000000 in
set_option maxRecDepth 100000 in
theorem indexFI (v : Value) (xs : List Int )  (p : Int → Bool) (w : World) (h : Sl ic 1 w v xs)
    (H : ∀ (x : Int ) u, Below w.heap.size w u → Calls Tryz.prog 109 #[.int .i64 x  ] u fun e w' => e = .returned (.bool (p x)) ∧ Below u.heap.size u w') :
    Calls Tryz.prog 147 #[v, .func (.func 109 ) #[] #[ ]] w (IdxF w xs p) := by
  obtain ⟨hl, a, c, rfl, -, hc⟩ := h
  have HC := Lib.hid hc; have HH := Lib.hid H
  have HNo := Lib.hid (any_none xs p); have HYes := Lib.hid (any_some xs p)
  obtain ⟨L, hL⟩ : ∃ L, xs.length = L := ⟨_, rfl⟩
  have HL := Lib.hid hL
  rw [hL] at hl ⊢
  clear hc hL H
  go_enter Tryz.func147 , Tryz.ntmps147 
  go_wp2
  go_loopw [8] (fun vi wr => ∃ k : Nat, k ≤ L ∧ vi = .int .i64 k ∧ Hid (∀ j (h : j < xs.length), j < k → p xs[j] = false) ∧ Below w.heap.size w wr) (fun i _ => L - (intOf i).toNat)
  case atStart => exact ⟨0, by omega, rfl, Lib.hid (fun j h h2 => by omega), Below.refl _ _⟩
  case round =>
    obtain ⟨k, hk, rfl, HN, hbw⟩ := hrel
    have HB := Lib.hid hbw
    clear hbw
    by_cases hlt : k < L
    · have hlt' : (k : Int) < L := by omega
      have hk0 : (0 : Int) ≤ k := by omega
      have hi : k < xs.length := by rw [HL.out]; exact hlt
      obtain ⟨b, off, rfl, hbl, hcell⟩ := HC.out (by omega)
      have hr := range_keep (hcell k hi) hbl HB.out
      have d1 := icell_at hr
      rw [Nat.mul_one] at d1
      clear hcell hbl hr
      obtain ⟨y, hy⟩ : ∃ y, xs[k] = y := ⟨_, rfl⟩
      have HY := Lib.hid hy
      rw [hy] at d1 
      have HCy := Lib.hid (HH.out y wr HB.out)
      obtain ⟨q, hq⟩ : ∃ q, p y = q := ⟨_, rfl⟩
      rw [hq] at HCy
      have HQ := Lib.hid hq
      clear hy hq
      cases q with
      | true =>
        have HR : Hid (xs.any p = true) := Lib.hid (HYes.out k hi (by rw [HY.out]; exact HQ.out))
        go_wp2_with (go_at_call 109 ; refine HCy.out.mono ?_; rintro e w5 ⟨rfl, hb⟩; have HB5 := Lib.hid (HB.out.trans (hb.mono HB.out.size)); clear hb d1 )
        go_ret
        exact ⟨_, rfl, by rw [HR.out]; simp, HB5.out⟩
      | false =>
        have HN2 : Hid (∀ j (h : j < xs.length), j < k + 1 → p xs[j] = false) := Lib.hid (fun j h h2 => by
          rcases Nat.lt_or_ge j k with h3 | h3
          · exact HN.out j h h3
          · obtain rfl : j = k := by omega
            rw [HY.out]; exact HQ.out)
        go_wp2_with (go_at_call 109 ; refine HCy.out.mono ?_; rintro e w5 ⟨rfl, hb⟩; have HB5 := Lib.hid (HB.out.trans (hb.mono HB.out.size)); clear hb d1 )
        go_roundw
        case rel => exact ⟨k + 1, by omega, by go_num, HN2, HB5.out⟩
        case measure => simp [intOf]; omega
    · obtain rfl : k = L := by omega
      have HF : Hid (xs.any p = false) := Lib.hid (HNo.out (fun j hj => HN.out j hj (by rw [← HL.out]; exact hj)))
      go_wp2
      go_ret
      exact ⟨_, rfl, by rw [HF.out]; rfl, HB.out⟩

set_option maxHeartbeats 4000000 in
theorem containsFI (v : Value) (xs : List Int )  (p : Int → Bool) (w : World) (h : Sl ic 1 w v xs)
    (H : ∀ (x : Int ) u, Below w.heap.size w u → Calls Tryz.prog 109 #[.int .i64 x  ] u fun e w' => e = .returned (.bool (p x)) ∧ Below u.heap.size u w') :
    Calls Tryz.prog 111 #[v, .func (.func 109 ) #[] #[ ]] w fun e w' => e = .returned (.bool (xs.any p)) ∧ Below w.heap.size w w' := by
  have HI := Lib.hid (indexFI v xs  p w h H)
  obtain ⟨a, c, rfl⟩ := h.slice
  generalize xs.length = L at HI ⊢
  clear h H
  go_enter Tryz.func111 , Tryz.ntmps111 
  go_wp2_with fail
  refine HI.out.mono ?_
  rintro e w1 ⟨i, rfl, hi, hb⟩
  have HH := Lib.hid hi; have HB := Lib.hid hb
  clear hi hb HI
  go_wp2
  go_ret
  exact ⟨by rw [← HH.out]; rfl, HB.out⟩

set_option maxHeartbeats 8000000 in
set_option maxRecDepth 100000 in
theorem indexFO (v : Value) (xs : List OsdV ) (N : Nat) (p : OsdV → Bool) (w : World) (h : Sl oc 4 w v xs)
    (H : ∀ (x : OsdV ) u, Below w.heap.size w u → Calls Tryz.prog 112 #[.agg #[.int .i64 x.boot, .bool x.up, .int .i64 x.wt, .int .i64 x.thru] , .pointer (some ⟨N, 0, none⟩) ] u fun e w' => e = .returned (.bool (p x)) ∧ Below u.heap.size u w') :
    Calls Tryz.prog 148 #[v, .func (.func 112 ) #[] #[.pointer (some ⟨N, 0, none⟩) ]] w (IdxF w xs p) := by
  obtain ⟨hl, a, c, rfl, -, hc⟩ := h
  have HC := Lib.hid hc; have HH := Lib.hid H
  have HNo := Lib.hid (any_none xs p); have HYes := Lib.hid (any_some xs p)
  obtain ⟨L, hL⟩ : ∃ L, xs.length = L := ⟨_, rfl⟩
  have HL := Lib.hid hL
  rw [hL] at hl ⊢
  clear hc hL H
  go_enter Tryz.func148 , Tryz.ntmps148 
  go_wp2
  go_loopw [8] (fun vi wr => ∃ k : Nat, k ≤ L ∧ vi = .int .i64 k ∧ Hid (∀ j (h : j < xs.length), j < k → p xs[j] = false) ∧ Below w.heap.size w wr) (fun i _ => L - (intOf i).toNat)
  case atStart => exact ⟨0, by omega, rfl, Lib.hid (fun j h h2 => by omega), Below.refl _ _⟩
  case round =>
    obtain ⟨k, hk, rfl, HN, hbw⟩ := hrel
    have HB := Lib.hid hbw
    clear hbw
    by_cases hlt : k < L
    · have hlt' : (k : Int) < L := by omega
      have hk0 : (0 : Int) ≤ k := by omega
      have hi : k < xs.length := by rw [HL.out]; exact hlt
      obtain ⟨b, off, rfl, hbl, hcell⟩ := HC.out (by omega)
      have hr := range_keep (hcell k hi) hbl HB.out
      obtain ⟨d1, d2, d3, d4⟩ := ocells4 hr
      clear hcell hbl hr
      obtain ⟨y, hy⟩ : ∃ y, xs[k] = y := ⟨_, rfl⟩
      have HY := Lib.hid hy
      rw [hy] at d1 d2 d3 d4 
      have HCy := Lib.hid (HH.out y wr HB.out)
      obtain ⟨q, hq⟩ : ∃ q, p y = q := ⟨_, rfl⟩
      rw [hq] at HCy
      have HQ := Lib.hid hq
      clear hy hq
      cases q with
      | true =>
        have HR : Hid (xs.any p = true) := Lib.hid (HYes.out k hi (by rw [HY.out]; exact HQ.out))
        go_wp2_with (go_at_call 112 ; refine HCy.out.mono ?_; rintro e w5 ⟨rfl, hb⟩; have HB5 := Lib.hid (HB.out.trans (hb.mono HB.out.size)); clear hb d1 d2 d3 d4 )
        go_ret
        exact ⟨_, rfl, by rw [HR.out]; simp, HB5.out⟩
      | false =>
        have HN2 : Hid (∀ j (h : j < xs.length), j < k + 1 → p xs[j] = false) := Lib.hid (fun j h h2 => by
          rcases Nat.lt_or_ge j k with h3 | h3
          · exact HN.out j h h3
          · obtain rfl : j = k := by omega
            rw [HY.out]; exact HQ.out)
        go_wp2_with (go_at_call 112 ; refine HCy.out.mono ?_; rintro e w5 ⟨rfl, hb⟩; have HB5 := Lib.hid (HB.out.trans (hb.mono HB.out.size)); clear hb d1 d2 d3 d4 )
        go_roundw
        case rel => exact ⟨k + 1, by omega, by go_num, HN2, HB5.out⟩
        case measure => simp [intOf]; omega
    · obtain rfl : k = L := by omega
      have HF : Hid (xs.any p = false) := Lib.hid (HNo.out (fun j hj => HN.out j hj (by rw [← HL.out]; exact hj)))
      go_wp2
      go_ret
      exact ⟨_, rfl, by rw [HF.out]; rfl, HB.out⟩

set_option maxHeartbeats 4000000 in
theorem containsFO (v : Value) (xs : List OsdV ) (N : Nat) (p : OsdV → Bool) (w : World) (h : Sl oc 4 w v xs)
    (H : ∀ (x : OsdV ) u, Below w.heap.size w u → Calls Tryz.prog 112 #[.agg #[.int .i64 x.boot, .bool x.up, .int .i64 x.wt, .int .i64 x.thru] , .pointer (some ⟨N, 0, none⟩) ] u fun e w' => e = .returned (.bool (p x)) ∧ Below u.heap.size u w') :
    Calls Tryz.prog 113 #[v, .func (.func 112 ) #[] #[.pointer (some ⟨N, 0, none⟩) ]] w fun e w' => e = .returned (.bool (xs.any p)) ∧ Below w.heap.size w w' := by
  have HI := Lib.hid (indexFO v xs N p w h H)
  obtain ⟨a, c, rfl⟩ := h.slice
  generalize xs.length = L at HI ⊢
  clear h H
  go_enter Tryz.func113 , Tryz.ntmps113 
  go_wp2_with fail
  refine HI.out.mono ?_
  rintro e w1 ⟨i, rfl, hi, hb⟩
  have HH := Lib.hid hi; have HB := Lib.hid hb
  clear hi hb HI
  go_wp2
  go_ret
  exact ⟨by rw [← HH.out]; rfl, HB.out⟩

set_option maxHeartbeats 8000000 in
set_option maxRecDepth 100000 in
theorem indexFP (v : Value) (xs : List PoolV )  (p : PoolV → Bool) (w : World) (h : Sl pc 4 w v xs)
    (H : ∀ (x : PoolV ) u, Below w.heap.size w u → Calls Tryz.prog 114 #[.agg #[.int .i64 x.size, .int .i64 x.min, .int .i64 x.pgs, .int .i64 x.dom]  ] u fun e w' => e = .returned (.bool (p x)) ∧ Below u.heap.size u w') :
    Calls Tryz.prog 149 #[v, .func (.func 114 ) #[] #[ ]] w (IdxF w xs p) := by
  obtain ⟨hl, a, c, rfl, -, hc⟩ := h
  have HC := Lib.hid hc; have HH := Lib.hid H
  have HNo := Lib.hid (any_none xs p); have HYes := Lib.hid (any_some xs p)
  obtain ⟨L, hL⟩ : ∃ L, xs.length = L := ⟨_, rfl⟩
  have HL := Lib.hid hL
  rw [hL] at hl ⊢
  clear hc hL H
  go_enter Tryz.func149 , Tryz.ntmps149 
  go_wp2
  go_loopw [8] (fun vi wr => ∃ k : Nat, k ≤ L ∧ vi = .int .i64 k ∧ Hid (∀ j (h : j < xs.length), j < k → p xs[j] = false) ∧ Below w.heap.size w wr) (fun i _ => L - (intOf i).toNat)
  case atStart => exact ⟨0, by omega, rfl, Lib.hid (fun j h h2 => by omega), Below.refl _ _⟩
  case round =>
    obtain ⟨k, hk, rfl, HN, hbw⟩ := hrel
    have HB := Lib.hid hbw
    clear hbw
    by_cases hlt : k < L
    · have hlt' : (k : Int) < L := by omega
      have hk0 : (0 : Int) ≤ k := by omega
      have hi : k < xs.length := by rw [HL.out]; exact hlt
      obtain ⟨b, off, rfl, hbl, hcell⟩ := HC.out (by omega)
      have hr := range_keep (hcell k hi) hbl HB.out
      obtain ⟨d1, d2, d3, d4⟩ := pcells4 hr
      clear hcell hbl hr
      obtain ⟨y, hy⟩ : ∃ y, xs[k] = y := ⟨_, rfl⟩
      have HY := Lib.hid hy
      rw [hy] at d1 d2 d3 d4 
      have HCy := Lib.hid (HH.out y wr HB.out)
      obtain ⟨q, hq⟩ : ∃ q, p y = q := ⟨_, rfl⟩
      rw [hq] at HCy
      have HQ := Lib.hid hq
      clear hy hq
      cases q with
      | true =>
        have HR : Hid (xs.any p = true) := Lib.hid (HYes.out k hi (by rw [HY.out]; exact HQ.out))
        go_wp2_with (go_at_call 114 ; refine HCy.out.mono ?_; rintro e w5 ⟨rfl, hb⟩; have HB5 := Lib.hid (HB.out.trans (hb.mono HB.out.size)); clear hb d1 d2 d3 d4 )
        go_ret
        exact ⟨_, rfl, by rw [HR.out]; simp, HB5.out⟩
      | false =>
        have HN2 : Hid (∀ j (h : j < xs.length), j < k + 1 → p xs[j] = false) := Lib.hid (fun j h h2 => by
          rcases Nat.lt_or_ge j k with h3 | h3
          · exact HN.out j h h3
          · obtain rfl : j = k := by omega
            rw [HY.out]; exact HQ.out)
        go_wp2_with (go_at_call 114 ; refine HCy.out.mono ?_; rintro e w5 ⟨rfl, hb⟩; have HB5 := Lib.hid (HB.out.trans (hb.mono HB.out.size)); clear hb d1 d2 d3 d4 )
        go_roundw
        case rel => exact ⟨k + 1, by omega, by go_num, HN2, HB5.out⟩
        case measure => simp [intOf]; omega
    · obtain rfl : k = L := by omega
      have HF : Hid (xs.any p = false) := Lib.hid (HNo.out (fun j hj => HN.out j hj (by rw [← HL.out]; exact hj)))
      go_wp2
      go_ret
      exact ⟨_, rfl, by rw [HF.out]; rfl, HB.out⟩

set_option maxHeartbeats 4000000 in
theorem containsFP (v : Value) (xs : List PoolV )  (p : PoolV → Bool) (w : World) (h : Sl pc 4 w v xs)
    (H : ∀ (x : PoolV ) u, Below w.heap.size w u → Calls Tryz.prog 114 #[.agg #[.int .i64 x.size, .int .i64 x.min, .int .i64 x.pgs, .int .i64 x.dom]  ] u fun e w' => e = .returned (.bool (p x)) ∧ Below u.heap.size u w') :
    Calls Tryz.prog 115 #[v, .func (.func 114 ) #[] #[ ]] w fun e w' => e = .returned (.bool (xs.any p)) ∧ Below w.heap.size w w' := by
  have HI := Lib.hid (indexFP v xs  p w h H)
  obtain ⟨a, c, rfl⟩ := h.slice
  generalize xs.length = L at HI ⊢
  clear h H
  go_enter Tryz.func115 , Tryz.ntmps115 
  go_wp2_with fail
  refine HI.out.mono ?_
  rintro e w1 ⟨i, rfl, hi, hb⟩
  have HH := Lib.hid hi; have HB := Lib.hid hb
  clear hi hb HI
  go_wp2
  go_ret
  exact ⟨by rw [← HH.out]; rfl, HB.out⟩
end Go.Proofs.YtoeklnmmnmmjeaaGreat.crush
