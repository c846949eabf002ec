/- Which extents are fit: of the program. -/
import Derived.Test.YtijafehhhknamaaRows
import Derived.Test.YtijafehhhknamaaExtMath
import Derived.Test.YtijafehhhknamaaExtOrd
import Derived.Test.YtijafehhhknamaaExtLib
namespace Go.Proofs.Ytijafehhhknamaa.ext
open Go.RowKit
open Go.Proofs.Ytijafehhhknamaa.kit Go.Proofs.Ytijafehhhknamaa.own
set_option linter.unusedVariables false

set_option maxHeartbeats 1000000 in
theorem isRow_any (t : Int) (w : World) : Calls Try.prog 22 #[.int .i64 t] w fun e w' => e = .returned (.bool (rowE t)) ∧ w = w' := by
  by_cases h1 : 0 ≤ t
  · by_cases h2 : t ≤ 65536
    · have HE := Lib.hid (show rowE t = true by simp [rowE]; omega)
      rw [HE.out]
      go_enter Try.func22, Try.ntmps22
      go_wp2
      go_ret
      exact ⟨rfl, rfl⟩
    · have HE := Lib.hid (show rowE t = false by simp [rowE]; omega)
      rw [HE.out]
      go_enter Try.func22, Try.ntmps22
      go_wp2
      go_ret
      exact ⟨rfl, rfl⟩
  · have HE := Lib.hid (show rowE t = false by simp [rowE]; omega)
    rw [HE.out]
    go_enter Try.func22, Try.ntmps22
    go_wp2
    go_ret
    exact ⟨rfl, rfl⟩

set_option maxHeartbeats 2000000 in
theorem end_any (x : Wy) (w : World) (h : -9223372036854775808 ≤ x.1 + x.2 ∧ x.1 + x.2 ≤ 9223372036854775807) : Calls Try.prog 24 #[.agg #[.int .i64 x.1, .int .i64 x.2]] w fun e w' => e = .returned (.int .i64 (x.1 + x.2)) ∧ w' = w.alloc (ebox x) := by
  have hw : IntKind.i64.wrap (x.1 + x.2) = x.1 + x.2 := by rw [IntKind.wrap_i64]; omega
  obtain ⟨a, b⟩ := x
  simp only at hw ⊢
  clear h
  go_enter Try.func24, Try.ntmps24
  go_wp2
  go_ret
  exact ⟨rfl, rfl⟩

set_option maxHeartbeats 2000000 in
theorem lies_any (t : Int) (x : Wy) (w : World) (hx : Wy.Ok x) : Calls Try.prog 41 #[.int .i64 t, .agg #[.int .i64 x.1, .int .i64 x.2]] w fun e w' => e = .returned (.bool (rowE t && lieE t x)) ∧ Below w.heap.size w w' := by
  obtain ⟨a, b⟩ := x
  obtain ⟨h1, h2⟩ := hx
  simp only at h1 h2 ⊢
  have HB := Lib.hid (below_new w (.cells #[.int .i64 a, .int .i64 b] 48))
  by_cases hr : rowE t = true
  · have hR : rowE t = true := hr
    simp [rowE] at hR
    by_cases hb : 1 ≤ b
    · by_cases ha : 0 ≤ a
      · have hw : IntKind.i64.wrap (t - b) = t - b := by rw [IntKind.wrap_i64]; omega
        have HW := Lib.hid hw
        by_cases hc : a ≤ t - b
        · have HE := Lib.hid (show (rowE t && lieE t (a, b)) = true by rw [hr]; simp [lieE]; omega)
          rw [HE.out]
          have HR := Lib.hid hr
          clear hr hR h1 h2
          go_enter Try.func41, Try.ntmps41
          go_wp2_with (go_at_call 22; refine (isRow_any _ _).mono ?_; rintro e w' ⟨rfl, rfl⟩; rw [HR.out])
          go_ret
          exact ⟨rfl, HB.out⟩
        · have HE := Lib.hid (show (rowE t && lieE t (a, b)) = false by rw [hr]; simp [lieE]; omega)
          rw [HE.out]
          have HR := Lib.hid hr
          clear hr hR h1 h2
          go_enter Try.func41, Try.ntmps41
          go_wp2_with (go_at_call 22; refine (isRow_any _ _).mono ?_; rintro e w' ⟨rfl, rfl⟩; rw [HR.out])
          go_ret
          exact ⟨congrArg _ (congrArg _ (decide_eq_false (by omega))), HB.out⟩
      · have HE := Lib.hid (show (rowE t && lieE t (a, b)) = false by rw [hr]; simp [lieE]; omega)
        rw [HE.out]
        have HR := Lib.hid hr
        clear hr hR h1 h2
        go_enter Try.func41, Try.ntmps41
        go_wp2_with (go_at_call 22; refine (isRow_any _ _).mono ?_; rintro e w' ⟨rfl, rfl⟩; rw [HR.out])
        go_ret
        exact ⟨rfl, HB.out⟩
    · have HE := Lib.hid (show (rowE t && lieE t (a, b)) = false by rw [hr]; simp [lieE]; omega)
      rw [HE.out]
      have HR := Lib.hid hr
      clear hr hR h1 h2
      go_enter Try.func41, Try.ntmps41
      go_wp2_with (go_at_call 22; refine (isRow_any _ _).mono ?_; rintro e w' ⟨rfl, rfl⟩; rw [HR.out])
      go_ret
      exact ⟨rfl, HB.out⟩
  · have HR := Lib.hid (show rowE t = false by simpa using hr)
    rw [HR.out]
    clear hr h1 h2
    go_enter Try.func41, Try.ntmps41
    go_wp2_with (go_at_call 22; refine (isRow_any _ _).mono ?_; rintro e w' ⟨rfl, rfl⟩; rw [HR.out])
    go_ret
    exact ⟨rfl, HB.out⟩

set_option maxHeartbeats 4000000 in
set_option maxRecDepth 100000 in
theorem allLie_any (t : Int) (v : Value) (xs : List Wy) (w : World) (h : Sl wc 2 w v xs) (hok : ∀ x ∈ xs, Wy.Ok x) :
    Calls Try.prog 23 #[.int .i64 t, v] w fun e w' => e = .returned (.bool (xs.all fun x => rowE t && lieE t x)) ∧ Below w.heap.size w w' := by
  obtain ⟨hl, a, cap, rfl, -, -⟩ := id h
  have HS := Lib.hid h; have HOk := Lib.hid hok
  obtain ⟨L, hL⟩ : ∃ L, xs.length = L := ⟨_, rfl⟩
  have HL := Lib.hid hL
  rw [hL] at hl HS ⊢
  clear h hL hok
  go_enter Try.func23, Try.ntmps23
  go_wp2
  go_loopw [9] (fun i wr => ∃ (k : Nat), k ≤ L ∧ i = .int .i64 k ∧ ((xs.drop k).all fun x => rowE t && lieE t x) = (xs.all fun x => rowE t && lieE t x) ∧ Below w.heap.size w wr) (fun i _ => L - (intOf i).toNat)
  case atStart => exact ⟨0, by omega, rfl, rfl, Below.refl _ _⟩
  case round =>
    obtain ⟨k, hk, rfl, hr, hb⟩ := hrel
    have HB := Lib.hid hb; have HR := Lib.hid hr
    clear hb hr
    by_cases hlt : k < L
    · have hlt' : (k : Int) < L := by omega
      have hi : k < xs.length := by rw [HL.out]; exact hlt
      have hs2 : Sl wc 2 wr (.slice a L cap) xs := HS.out.keep HB.out
      obtain ⟨_, a', cap', he, -, hcell⟩ := hs2
      cases he
      obtain ⟨b, off, rfl, hbl, hcell⟩ := hcell (by omega)
      obtain ⟨c1, c2⟩ := wcells_at (hcell k hi)
      clear hcell hbl
      have hd : xs.drop k = xs[k] :: xs.drop (k + 1) := List.drop_eq_getElem_cons hi
      have ho := HOk.out _ (List.getElem_mem hi)
      obtain ⟨x, hx⟩ : ∃ x, xs[k] = x := ⟨_, rfl⟩
      rw [hx] at c1 c2 hd ho
      obtain ⟨p, q⟩ := x
      simp only at c1 c2
      have HD := Lib.hid hd; have HO := Lib.hid ho
      clear hd hx ho
      have hr := HR.out
      rw [HD.out, List.all_cons] at hr
      have HBn := Lib.hid (HB.out.alloc (HB.out.size) (.cells #[.int .i64 p, .int .i64 q] 48))
      cases hc : (rowE t && lieE t (p, q)) with
      | false =>
        rw [hc, Bool.false_and] at hr
        have HC := Lib.hid hc; have HRr := Lib.hid hr
        clear hc hr
        go_wp2_with (go_at_call 41; refine (lies_any t (p, q) _ HO.out).mono ?_; rintro e w1 ⟨rfl, hb1⟩; rw [HC.out]; have HB1 := Lib.hid (HBn.out.trans (hb1.mono HBn.out.size)); clear hb1)
        go_ret
        exact ⟨by rw [← HRr.out]; rfl, HB1.out⟩
      | true =>
        rw [hc, Bool.true_and] at hr
        have HC := Lib.hid hc; have HRr := Lib.hid hr
        clear hc hr
        go_wp2_with (go_at_call 41; refine (lies_any t (p, q) _ HO.out).mono ?_; rintro e w1 ⟨rfl, hb1⟩; rw [HC.out]; have HB1 := Lib.hid (HBn.out.trans (hb1.mono HBn.out.size)); clear hb1)
        go_roundw
        case rel => exact ⟨k + 1, by omega, by go_num, HRr.out, HB1.out⟩
        case measure => simp [intOf]; omega
    · obtain rfl : k = L := by omega
      go_wp2
      go_ret
      refine ⟨?_, HB.out⟩
      have := HR.out
      rw [← HL.out, List.drop_length] at this
      rw [← this]; rfl

end Go.Proofs.Ytijafehhhknamaa.ext
