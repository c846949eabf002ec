/- Rows that are the same, copies, counts. -/
import Derived.Test.YtijafehhhknamaaRows
import Derived.Test.YtijafehhhknamaaExtMath
import Derived.Test.YtijafehhhknamaaExtOrd
import Derived.Test.YtijafehhhknamaaExtLib
import Derived.BigQuiet
namespace Go.Proofs.Ytijafehhhknamaa.ext
open Go.RowKit Go.Sort
open Go.Proofs.Ytijafehhhknamaa.kit Go.Proofs.Ytijafehhhknamaa.own
set_option linter.unusedVariables false

set_option maxHeartbeats 8000000 in
set_option maxRecDepth 100000 in
theorem same_any (s1 s2 : Value) (fa fb : List Wy) (w : World) (hs1 : Sl wc 2 w s1 fa) (hs2 : Sl wc 2 w s2 fb) :
    Calls Try.prog 8 #[s1, s2] w (EqS w fa fb) := by
  obtain ⟨hl1, a1, cap1, rfl, _, _⟩ := id hs1
  obtain ⟨hl2, a2, cap2, rfl, _, _⟩ := id hs2
  by_cases hlen : fa.length = fb.length
  · have HS1 := Lib.hid hs1; have HS2 := Lib.hid hs2
    have HLen := Lib.hid hlen
    obtain ⟨L, hL⟩ : ∃ L, fb.length = L := ⟨_, rfl⟩
    rw [hL] at hlen
    have HL1 := Lib.hid hlen; have HL2 := Lib.hid hL
    rw [hlen] at hl1 ⊢
    rw [hL] at hl2 ⊢
    clear hs1 hs2 hL hlen
    rename_i hx1 hx2 hx3 hx4
    clear hx1 hx2 hx3 hx4
    go_enter Try.func8, Try.ntmps8
    go_wp2
    go_loopw [13] (fun i wr => ∃ k : Nat, k ≤ L ∧ i = .int .i64 k ∧ fa.take k = fb.take k ∧ Below w.heap.size w wr) (fun i _ => L - (intOf i).toNat)
    case atStart => exact ⟨0, by omega, rfl, rfl, Below.refl _ _⟩
    case round =>
      obtain ⟨k, hk, rfl, heq, hb⟩ := hrel
      have HB := Lib.hid hb; have HE := Lib.hid heq
      clear hb heq
      by_cases hlt : k < L
      · have hlt' : (k : Int) < L := by omega
        have hk0 : (0 : Int) ≤ k := by omega
        have hi1 : k < fa.length := by rw [HL1.out]; exact hlt
        have hi2 : k < fb.length := by rw [HL2.out]; exact hlt
        have hsa : Sl wc 2 wr (.slice a1 fa.length cap1) fa := HS1.out.keep HB.out
        obtain ⟨_, a', cap', he, -, hcell⟩ := hsa
        cases he
        obtain ⟨b, off, rfl, hbl, hcell⟩ := hcell (by omega)
        obtain ⟨c1, c2⟩ := wcells_at (hcell k hi1)
        clear hcell
        have hsb : Sl wc 2 wr (.slice a2 fb.length cap2) fb := HS2.out.keep HB.out
        obtain ⟨_, a', cap', he, -, hcell⟩ := hsb
        cases he
        obtain ⟨b2, off2, rfl, hbl2, hcell⟩ := hcell (by omega)
        obtain ⟨d1, d2⟩ := wcells_at (hcell k hi2)
        have ht1 : fa.take (k + 1) = fa.take k ++ [fa[k]] := List.take_succ_eq_append_getElem hi1
        have ht2 : fb.take (k + 1) = fb.take k ++ [fb[k]] := List.take_succ_eq_append_getElem hi2
        have hne : fa[k] ≠ fb[k] → fa ≠ fb := fun h e => h (by subst e; rfl)
        obtain ⟨f, hf⟩ : ∃ f, fa[k] = f := ⟨_, rfl⟩
        obtain ⟨g, hg⟩ : ∃ g, fb[k] = g := ⟨_, rfl⟩
        rw [hf] at c1 c2 ht1 hne
        rw [hg] at d1 d2 ht2 hne
        have HT1 := Lib.hid ht1; have HT2 := Lib.hid ht2; have HNe := Lib.hid hne
        clear hcell hf hg ht1 ht2 hne hbl hbl2
        by_cases hfg : f = g
        · subst hfg
          go_upto_region 6 with fail
          go_quiet (fail)
          have HBn := Lib.hid (HB.out.drewN' nq)
          clear c1 c2 d1 d2
          go_wp2
          go_roundw
          case rel => exact ⟨k + 1, by omega, by go_num, by rw [HT1.out, HT2.out, HE.out], HBn.out⟩
          case measure => simp [intOf]; omega
        · have HNq := Lib.hid (HNe.out hfg)
          have hnf := neq_way f g hfg
          go_upto_region 6 with fail
          go_quiet (fail)
          have HBn := Lib.hid (HB.out.drewN' nq)
          clear c1 c2 d1 d2 hnf
          go_wp2
          go_ret
          exact ⟨false, rfl, ⟨fun h => (by cases h), fun h => absurd h HNq.out⟩, HBn.out⟩
      · obtain rfl : k = L := by omega
        go_wp2
        go_ret
        refine ⟨true, rfl, ⟨fun _ => ?_, fun _ => rfl⟩, HB.out⟩
        have := HE.out
        rw [← HL1.out, List.take_length, HLen.out, List.take_length] at this
        exact this
  · have hne : ¬ (fa.length : Int) = fb.length := by omega
    have hnq : fa ≠ fb := fun e => hlen (by rw [e])
    have HNq := Lib.hid hnq
    clear hs1 hs2 hlen hnq
    rename_i hx1 hx2 hx3 hx4
    clear hx1 hx2 hx3 hx4
    go_enter Try.func8, Try.ntmps8
    go_wp2
    go_ret
    exact ⟨false, rfl, ⟨fun h => (by cases h), fun h => absurd h HNq.out⟩, Below.refl _ _⟩

set_option maxHeartbeats 4000000 in
set_option maxRecDepth 100000 in
theorem copied_any (v : Value) (xs : List Wy) (w : World) (h : Sl wc 2 w v xs) (hl : xs.length * 16 ≤ 140737488355328) :
    Calls Try.prog 12 #[v] w (ClonW w xs) := by
  have HS := Lib.hid h; have HL := Lib.hid hl
  have HO := Lib.hid (Own.nil (enc := wc) (k := 2) w 48 w.heap.size)
  obtain ⟨a, c, rfl⟩ := h.slice
  clear h hl
  go_enter Try.func12, Try.ntmps12
  go_wp2_with (at_builtin; refine appSl wc_len wc_one (by decide) rfl _ _ 22 rfl w.heap.size 48 _ (by rfl) 16 Try.underlying22 infoWay _ [] rfl HO.out _ xs rfl HS.out (by have := HL.out; unfold maxLen; simp; omega) (by have := HL.out; simpa using this) (Nat.le_refl _) ?_; intro v' w' ho hk; have HO2 := Lib.hid ho; have HK := Lib.hid hk; clear ho hk)
  go_ret
  exact ⟨_, rfl, by simpa using HO2.out, HK.out.toBelow⟩

set_option maxHeartbeats 4000000 in
set_option maxRecDepth 100000 in
theorem rcopied_any (v : Value) (xs : List Wy) (w : World) (h : Sl wc 2 w v xs) (hl : xs.length * 16 ≤ 140737488355328) :
    Calls Try.prog 31 #[v] w (ClonW w xs) := by
  have HS := Lib.hid h; have HL := Lib.hid hl
  have HO := Lib.hid (Own.nil (enc := wc) (k := 2) w 48 w.heap.size)
  obtain ⟨a, c, rfl⟩ := h.slice
  clear h hl
  go_enter Try.func31, Try.ntmps31
  go_wp2_with (at_builtin; refine appSl wc_len wc_one (by decide) rfl _ _ 22 rfl w.heap.size 48 _ (by rfl) 16 Try.underlying22 infoWay _ [] rfl HO.out _ xs rfl HS.out (by have := HL.out; unfold maxLen; simp; omega) (by have := HL.out; simpa using this) (Nat.le_refl _) ?_; intro v' w' ho hk; have HO2 := Lib.hid ho; have HK := Lib.hid hk; clear ho hk)
  go_ret
  exact ⟨_, rfl, by simpa using HO2.out, HK.out.toBelow⟩

/-- One extent of all. -/
def allE (t : Int) : List Wy := if 1 ≤ t ∧ t ≤ 65536 then [(0, t)] else []
set_option maxHeartbeats 4000000 in
theorem rAll_any (t : Int) (w : World) : Calls Try.prog 10 #[.int .i64 t] w fun e w' => ∃ v, e = .returned v ∧ Sl wc 2 w' v (allE t) ∧ Below w.heap.size w w' := by
  by_cases h1 : t < 1
  · have HE := Lib.hid (show allE t = [] by unfold allE; rw [if_neg (by omega)])
    rw [HE.out]
    go_enter Try.func10, Try.ntmps10
    go_wp2
    go_ret
    exact ⟨_, rfl, Sl.nil _, Below.refl _ _⟩
  by_cases h2 : 65536 < t
  · have HE := Lib.hid (show allE t = [] by unfold allE; rw [if_neg (by omega)])
    rw [HE.out]
    go_enter Try.func10, Try.ntmps10
    go_wp2
    go_ret
    exact ⟨_, rfl, Sl.nil _, Below.refl _ _⟩
  have HE := Lib.hid (show allE t = [(0, t)] by unfold allE; rw [if_pos (by omega)])
  rw [HE.out]
  have HS := Lib.hid (sl_new wc_len w ((0, t) : Wy) 48 _ rfl)
  go_enter Try.func10, Try.ntmps10
  go_wp2
  go_ret
  exact ⟨_, rfl, HS.out, below_new _ _⟩

set_option maxHeartbeats 8000000 in
set_option maxRecDepth 100000 in
theorem Count_any (v : Value) (xs : List Wy) (w : World) (h : Sl wc 2 w v xs) (h0 : ∀ x ∈ xs, 0 ≤ x.2) (hs : sumE xs ≤ 65536) :
    Calls Try.prog 19 #[v] w fun e w' => e = .returned (.int .i64 (sumE xs)) ∧ Below w.heap.size w w' := by
  obtain ⟨hl, a, cap, rfl, -, -⟩ := id h
  have HS := Lib.hid h; have H0 := Lib.hid h0; have HSm := Lib.hid hs
  obtain ⟨L, hL⟩ : ∃ L, xs.length = L := ⟨_, rfl⟩
  have HL := Lib.hid hL
  rw [hL] at hl HS ⊢
  clear h hL h0 hs
  go_enter Try.func19, Try.ntmps19
  go_wp2
  go_loopw [3, 8] (fun s i wr => ∃ (k : Nat), k ≤ L ∧ i = .int .i64 k ∧ s = .int .i64 (sumE (xs.take k)) ∧ Below w.heap.size w wr) (fun _ i _ => L - (intOf i).toNat)
  case atStart => exact ⟨0, by omega, rfl, rfl, Below.refl _ _⟩
  case round =>
    obtain ⟨k, hk, rfl, rfl, hb⟩ := hrel
    have HB := Lib.hid hb
    clear hb
    by_cases hlt : k < L
    · have hlt' : (k : Int) < L := by omega
      have hi : k < xs.length := by rw [HL.out]; exact hlt
      have hs2 : Sl wc 2 wr (.slice a L cap) xs := HS.out.keep HB.out
      obtain ⟨_, a', cap', he, -, hcell⟩ := hs2
      have he' : a = a' ∧ cap = cap' := by cases he; exact ⟨rfl, rfl⟩
      obtain ⟨rfl, rfl⟩ := he'
      clear he
      obtain ⟨b, off, rfl, hbl, hcell⟩ := hcell (by omega)
      obtain ⟨c1, c2⟩ := wcells_at (hcell k hi)
      clear hcell hbl
      have ht : xs.take (k + 1) = xs.take k ++ [xs[k]] := List.take_succ_eq_append_getElem hi
      have hq := H0.out _ (List.getElem_mem hi)
      have hn := sumE_nonneg (xs.take k) (fun y hy => H0.out y (List.mem_of_mem_take hy))
      have hn2 := sumE_nonneg (xs.drop (k + 1)) (fun y hy => H0.out y (List.mem_of_mem_drop hy))
      have hall : sumE xs = sumE (xs.take k) + xs[k].2 + sumE (xs.drop (k + 1)) := by
        conv => lhs; rw [← List.take_append_drop (k + 1) xs, sumE_append, ht, sumE_append]
        simp [sumE]
      have hsn : sumE (xs.take (k + 1)) = sumE (xs.take k) + xs[k].2 := by rw [ht, sumE_append]; simp [sumE]
      have hsm := HSm.out
      obtain ⟨x, hx⟩ : ∃ x, xs[k] = x := ⟨_, rfl⟩
      rw [hx] at c1 c2 hq hsn hall
      obtain ⟨p, q⟩ := x
      obtain ⟨s, hs⟩ : ∃ s, sumE (xs.take k) = s := ⟨_, rfl⟩
      rw [hs] at hn hsn hall ⊢
      simp only at c1 c2 hq hsn hall
      have hw : IntKind.i64.wrap (s + q) = s + q := by rw [IntKind.wrap_i64]; omega
      have HN := Lib.hid hsn
      clear ht hx hn hn2 hall hsn hsm hs
      have HBn := Lib.hid (HB.out.alloc (HB.out.size) (.cells #[.int .i64 p, .int .i64 q] 48))
      by_cases hq0 : q = 0
      · subst hq0
        have hw0 : IntKind.i64.wrap s = s := by rw [Int.add_zero] at hw; exact hw
        go_wp2
        go_roundw
        case rel => exact ⟨k + 1, by omega, by go_num, by rw [HN.out]; simp, HBn.out⟩
        case measure => simp [intOf]; omega
      · have hq1 : 0 < q := by omega
        have hmx : max q 0 = q := by omega
        go_wp2
        go_roundw
        case rel => exact ⟨k + 1, by omega, by go_num, by rw [HN.out], HBn.out⟩
        case measure => simp [intOf]; omega
    · obtain rfl : k = L := by omega
      have HE : Hid (xs.take k = xs) := Lib.hid (by rw [← HL.out, List.take_length])
      rw [HE.out]
      go_wp2
      go_ret
      exact ⟨rfl, HB.out⟩

set_option maxHeartbeats 8000000 in
set_option maxRecDepth 100000 in
theorem rCount_any (v : Value) (xs : List Wy) (w : World) (h : Sl wc 2 w v xs) (h0 : ∀ x ∈ xs, 0 ≤ x.2) (hs : sumE xs ≤ 65536) :
    Calls Try.prog 32 #[v] w fun e w' => e = .returned (.int .i64 (sumE xs)) ∧ Below w.heap.size w w' := by
  obtain ⟨hl, a, cap, rfl, -, -⟩ := id h
  have HS := Lib.hid h; have H0 := Lib.hid h0; have HSm := Lib.hid hs
  obtain ⟨L, hL⟩ : ∃ L, xs.length = L := ⟨_, rfl⟩
  have HL := Lib.hid hL
  rw [hL] at hl HS ⊢
  clear h hL h0 hs
  go_enter Try.func32, Try.ntmps32
  go_wp2
  go_loopw [3, 4] (fun s i wr => ∃ (k : Nat), k ≤ L ∧ i = .int .i64 k ∧ s = .int .i64 (sumE (xs.take k)) ∧ Below w.heap.size w wr) (fun _ i _ => L - (intOf i).toNat)
  case atStart => exact ⟨0, by omega, rfl, rfl, Below.refl _ _⟩
  case round =>
    obtain ⟨k, hk, rfl, rfl, hb⟩ := hrel
    have HB := Lib.hid hb
    clear hb
    by_cases hlt : k < L
    · have hlt' : (k : Int) < L := by omega
      have hi : k < xs.length := by rw [HL.out]; exact hlt
      have hs2 : Sl wc 2 wr (.slice a L cap) xs := HS.out.keep HB.out
      obtain ⟨_, a', cap', he, -, hcell⟩ := hs2
      have he' : a = a' ∧ cap = cap' := by cases he; exact ⟨rfl, rfl⟩
      obtain ⟨rfl, rfl⟩ := he'
      clear he
      obtain ⟨b, off, rfl, hbl, hcell⟩ := hcell (by omega)
      obtain ⟨c1, c2⟩ := wcells_at (hcell k hi)
      clear hcell hbl
      have ht : xs.take (k + 1) = xs.take k ++ [xs[k]] := List.take_succ_eq_append_getElem hi
      have hq := H0.out _ (List.getElem_mem hi)
      have hn := sumE_nonneg (xs.take k) (fun y hy => H0.out y (List.mem_of_mem_take hy))
      have hn2 := sumE_nonneg (xs.drop (k + 1)) (fun y hy => H0.out y (List.mem_of_mem_drop hy))
      have hall : sumE xs = sumE (xs.take k) + xs[k].2 + sumE (xs.drop (k + 1)) := by
        conv => lhs; rw [← List.take_append_drop (k + 1) xs, sumE_append, ht, sumE_append]
        simp [sumE]
      have hsn : sumE (xs.take (k + 1)) = sumE (xs.take k) + xs[k].2 := by rw [ht, sumE_append]; simp [sumE]
      have hsm := HSm.out
      obtain ⟨x, hx⟩ : ∃ x, xs[k] = x := ⟨_, rfl⟩
      rw [hx] at c1 c2 hq hsn hall
      obtain ⟨p, q⟩ := x
      obtain ⟨s, hs⟩ : ∃ s, sumE (xs.take k) = s := ⟨_, rfl⟩
      rw [hs] at hn hsn hall ⊢
      simp only at c1 c2 hq hsn hall
      have hw : IntKind.i64.wrap (s + q) = s + q := by rw [IntKind.wrap_i64]; omega
      have HN := Lib.hid hsn
      clear ht hx hn hn2 hall hsn hsm hs
      have HBn := Lib.hid (HB.out.alloc (HB.out.size) (.cells #[.int .i64 p, .int .i64 q] 48))
      by_cases hq0 : q = 0
      · subst hq0
        have hw0 : IntKind.i64.wrap s = s := by rw [Int.add_zero] at hw; exact hw
        go_wp2
        go_roundw
        case rel => exact ⟨k + 1, by omega, by go_num, by rw [HN.out]; simp, HB.out⟩
        case measure => simp [intOf]; omega
      · have hq1 : 0 < q := by omega
        have hmx : max q 0 = q := by omega
        go_wp2
        go_roundw
        case rel => exact ⟨k + 1, by omega, by go_num, by rw [HN.out], HB.out⟩
        case measure => simp [intOf]; omega
    · obtain rfl : k = L := by omega
      have HE : Hid (xs.take k = xs) := Lib.hid (by rw [← HL.out, List.take_length])
      rw [HE.out]
      go_wp2
      go_ret
      exact ⟨rfl, HB.out⟩

end Go.Proofs.Ytijafehhhknamaa.ext
