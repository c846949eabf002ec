/- The first extent with enough sectors; what is taken of extents. -/
import Derived.Test.YtijafehhhknamaaRows
import Derived.Test.YtijafehhhknamaaExtH
namespace Go.Proofs.Ytijafehhhknamaa.ext
open Go.RowKit Go.Sort
open Go.Proofs.Ytijafehhhknamaa.kit Go.Proofs.Ytijafehhhknamaa.own
set_option linter.unusedVariables false

set_option maxHeartbeats 2000000 in
theorem enough_any (x : Wy) (N : Nat) (n : Int) (w : World) (hN : w.cell? ⟨N, 0, none⟩ = some (.int .i64 n)) : Calls Try.prog 27 #[.agg #[.int .i64 x.1, .int .i64 x.2], .pointer (some ⟨N, 0, none⟩)] w fun e w' => e = .returned (.bool (decide (n ≤ x.2))) ∧ Below w.heap.size w w' := by
  obtain ⟨a, b⟩ := x
  have hb := below_new w (ebox (a, b))
  have hc := (hb.cell (p := ⟨N, 0, none⟩) (cell_lt hN)).trans hN
  have HB := Lib.hid hb
  simp only [ebox] at hc HB
  clear hb hN
  by_cases h : n ≤ b
  · go_enter Try.func27, Try.ntmps27
    go_wp2
    go_ret
    exact ⟨by simp [h], HB.out⟩
  · go_enter Try.func27, Try.ntmps27
    go_wp2
    go_ret
    exact ⟨by simp; omega, HB.out⟩

/-- What 'slices.IndexFunc' tells. -/
def IdxS (w : World) (n : Int) (xs : List Wy) (e : Ending) (w' : World) : Prop := Below w.heap.size w w' ∧
  (((∀ x ∈ xs, x.2 < n) ∧ e = .returned (.int .i64 (-1))) ∨ ∃ (i : Nat) (h : i < xs.length), n ≤ xs[i].2 ∧ (∀ j (hj : j < i), (xs[j]'(by omega)).2 < n) ∧ e = .returned (.int .i64 i))

set_option maxHeartbeats 4000000 in
set_option maxRecDepth 100000 in
theorem idx_any (v : Value) (xs : List Wy) (N : Nat) (n : Int) (w : World) (hs : Sl wc 2 w v xs) (hN : w.cell? ⟨N, 0, none⟩ = some (.int .i64 n)) : Calls Try.prog 28 #[v, .func (.func 27) #[] #[.pointer (some ⟨N, 0, none⟩)]] w (IdxS w n xs) := by
  obtain ⟨hl, a, cap, rfl, -, -⟩ := id hs
  have HS := Lib.hid hs; have HN := Lib.hid hN
  have HNl := Lib.hid (cell_lt hN)
  obtain ⟨L, hL⟩ : ∃ L, xs.length = L := ⟨_, rfl⟩
  have HL := Lib.hid hL
  rw [hL] at hl HS ⊢
  clear hs hN hL
  go_enter Try.func28, Try.ntmps28
  go_wp2
  go_loopw [8] (fun i wr => ∃ (k : Nat), k ≤ L ∧ i = .int .i64 k ∧ (∀ j (hj : j < xs.length), j < k → xs[j].2 < n) ∧ Below w.heap.size w wr) (fun i _ => L - (intOf i).toNat)
  case atStart => exact ⟨0, by omega, rfl, fun j _ hj => by omega, Below.refl _ _⟩
  case round =>
    obtain ⟨k, hk, rfl, hno, hb⟩ := hrel
    have HB := Lib.hid hb; have HNo := Lib.hid hno
    clear hb hno
    by_cases hlt : k < L
    · have hlt' : (k : Int) < L := by omega
      have hi : k < xs.length := by rw [HL.out]; exact hlt
      have hs2 : Sl wc 2 wr (.slice a L cap) xs := HS.out.keep HB.out
      obtain ⟨_, a', cap', he, -, hcell⟩ := hs2
      cases he
      obtain ⟨b, off, rfl, hbl, hcell⟩ := hcell (by omega)
      obtain ⟨c1, c2⟩ := wcells_at (hcell k hi)
      clear hcell hbl
      obtain ⟨x, hx⟩ : ∃ x, xs[k] = x := ⟨_, rfl⟩
      have HX := Lib.hid hx
      rw [hx] at c1 c2
      obtain ⟨p, q⟩ := x
      simp only at c1 c2
      have HC := Lib.hid (enough_any (p, q) N n wr ((HB.out.cell (p := ⟨N, 0, none⟩) HNl.out).trans HN.out))
      clear hx
      by_cases hq : n ≤ q
      · have HDc := Lib.hid (show decide (n ≤ q) = true by simp; omega)
        go_wp2_with (go_at_call 27; refine HC.out.mono ?_; rintro e w2 ⟨rfl, hb2⟩; rw [HDc.out]; have HB2 := Lib.hid (HB.out.trans (hb2.mono HB.out.size)); clear hb2 c1 c2)
        go_ret
        exact ⟨HB2.out, .inr ⟨k, hi, by rw [HX.out]; exact hq, fun j hj => HNo.out j (by omega) hj, rfl⟩⟩
      · have hq' : q < n := by omega
        have HDc := Lib.hid (show decide (n ≤ q) = false by simp; omega)
        go_wp2_with (go_at_call 27; refine HC.out.mono ?_; rintro e w2 ⟨rfl, hb2⟩; rw [HDc.out]; have HB2 := Lib.hid (HB.out.trans (hb2.mono HB.out.size)); clear hb2 c1 c2)
        go_roundw
        case rel => exact ⟨k + 1, by omega, by go_num, fun j hj hjk => by
            by_cases h : j < k
            · exact HNo.out j hj h
            · obtain rfl : j = k := by omega
              rw [HX.out]; exact hq', HB2.out⟩
        case measure => simp [intOf]; omega
    · obtain rfl : k = L := by omega
      go_wp2
      go_ret
      refine ⟨HB.out, .inl ⟨fun x hx => ?_, rfl⟩⟩
      obtain ⟨j, hj, rfl⟩ := List.getElem_of_mem hx
      exact HNo.out j hj (by rw [← HL.out]; exact hj)

/-- The rest of a row, from a place on. -/
theorem sub_sl {W : World} {b off L cap j : Nat} {xs : List Wy} (h : Sl wc 2 W (.slice (some ⟨b, off, none⟩) L cap) xs) (hL : xs.length = L) (hj : j < L) (hc : j + 1 < cap) : Sl wc 2 W (.slice (some ⟨b, off + (j + 1) * 2, none⟩) (L - (j + 1)) (cap - (j + 1))) (xs.drop (j + 1)) := by
  subst hL
  obtain ⟨hl, a, c, he, hn, hcell⟩ := h
  cases he
  have e1 : (xs.drop (j + 1)).length = xs.length - (j + 1) := List.length_drop
  refine ⟨by omega, some ⟨b, off + (j + 1) * 2, none⟩, cap - (j + 1), by rw [e1], (fun h => by cases h), fun h0 => ?_⟩
  rw [e1] at h0
  obtain ⟨b', off', e, hb, hcell⟩ := hcell (by omega)
  cases e
  refine ⟨b, _, rfl, hb, fun i hi => ?_⟩
  have h2 := hcell (j + 1 + i) (by omega)
  rw [List.getElem_drop]
  have e2 : off + (j + 1) * 2 + i * 2 = off + (j + 1 + i) * 2 := by omega
  rw [e2]
  exact h2
/-- n sectors from the beginning of extents on, and what is left of these. -/
def splitE : List Wy → Int → List Wy × List Wy
  | [], _ => ([], [])
  | x :: r, n => if x.2 < n then (x :: (splitE r (n - x.2)).1, (splitE r (n - x.2)).2) else if x.2 = n then ([x], r) else ([(x.1, n)], (x.1 + n, x.2 - n) :: r)
/-- What 'split' tells. -/
def SplitS (w : World) (r : List Wy × List Wy) (e : Ending) (w' : World) : Prop := ∃ v1 v2, e = .returned (.tuple #[v1, v2]) ∧ Own wc 2 48 w' w.heap.size v1 r.1 ∧ Own wc 2 48 w' w.heap.size v2 r.2 ∧ Below w.heap.size w w'

set_option maxHeartbeats 8000000 in
set_option maxRecDepth 100000 in
theorem split_any (a : Option Addr) (cap : Nat) (xs : List Wy) (n : Int) (w : World) (h : Sl wc 2 w (.slice a xs.length cap) xs) (hcap : xs.length ≤ cap) (hcm : cap ≤ maxLen) (hf : ∀ x ∈ xs, Fine x) (hn : 1 ≤ n ∧ n ≤ 65536) (hsum : n ≤ sumE xs) (hlen : (xs.length + 2) * 16 ≤ 140737488355328) :
    Calls Try.prog 29 #[.slice a xs.length cap, .int .i64 n] w (SplitS w (splitE xs n)) := by
  have hl := h.1
  have HS := Lib.hid h; have HFn := Lib.hid hf; have HLn := Lib.hid hlen
  obtain ⟨L, hL⟩ : ∃ L, xs.length = L := ⟨_, rfl⟩
  have HL := Lib.hid hL
  rw [hL] at hl HS HLn hcap ⊢
  obtain ⟨hn1, hn2⟩ := hn
  clear h hL hf hlen
  go_enter Try.func29, Try.ntmps29
  go_wp2
  go_step3
  go_wp2
  go_step3
  go_wp2
  go_loopw [1, 4, 5, 6, 11] (fun vn vt vl vs i wr => ∃ (k : Nat) (m : Int), k ≤ L ∧ i = .int .i64 k ∧ vs = .int .i64 k ∧ vn = .int .i64 m ∧ vl = .slice none 0 0 ∧ 1 ≤ m ∧ m ≤ 65536 ∧ m ≤ sumE (xs.drop k) ∧ Own wc 2 48 wr w.heap.size vt (xs.take k) ∧ splitE xs n = (xs.take k ++ (splitE (xs.drop k) m).1, (splitE (xs.drop k) m).2) ∧ Below w.heap.size w wr) (fun _ _ _ _ i _ => L - (intOf i).toNat)
  case atStart => exact ⟨0, n, by omega, rfl, rfl, rfl, rfl, hn1, hn2, hsum, Own.nil _ _ _, rfl, Below.refl _ _⟩
  case round =>
    obtain ⟨k, m, hk, rfl, rfl, rfl, rfl, hm1, hm2, hms, ho, hsp, hb⟩ := hrel
    have HB := Lib.hid hb; have HO := Lib.hid ho; have HSp := Lib.hid hsp
    obtain ⟨xa, xc, rfl⟩ := ho.slice
    clear hb ho hsp
    by_cases hlt : k < L
    · have hlt' : (k : Int) < L := by omega
      have hi : k < xs.length := by rw [HL.out]; exact hlt
      have hs2 : Sl wc 2 wr (.slice a L cap) xs := HS.out.keep HB.out
      obtain ⟨_, a', cap', he, -, hcell⟩ := hs2
      have he' : a = a' ∧ cap = cap' := by cases he; exact ⟨rfl, rfl⟩
      obtain ⟨rfl, rfl⟩ := he'
      clear he
      obtain ⟨b, off, rfl, hbl, hcell⟩ := hcell (by omega)
      obtain ⟨c1, c2⟩ := wcells_at (hcell k hi)
      clear hcell
      have hd : xs.drop k = xs[k] :: xs.drop (k + 1) := List.drop_eq_getElem_cons hi
      have ht : xs.take (k + 1) = xs.take k ++ [xs[k]] := List.take_succ_eq_append_getElem hi
      have hfx := HFn.out _ (List.getElem_mem hi)
      unfold Fine at hfx
      obtain ⟨x, hx⟩ : ∃ x, xs[k] = x := ⟨_, rfl⟩
      rw [hx] at c1 c2 hd hfx ht
      obtain ⟨p, q⟩ := x
      simp only at c1 c2 hfx
      have HMs : Hid (m - q ≤ sumE (xs.drop (k + 1))) := Lib.hid (by rw [hd] at hms; simp only [sumE] at hms; omega)
      clear hms
      have HD := Lib.hid hd; have HT := Lib.hid ht
      have htl : (xs.take k).length = k := by rw [List.length_take, HL.out]; omega
      have HTl := Lib.hid htl
      rw [htl] at HO ⊢
      clear hd hx ht htl
      obtain ⟨b1, b2⟩ := ebox_cells wr (p, q)
      have hbA := below_new wr (ebox (p, q))
      have HBn := Lib.hid (HB.out.trans (hbA.mono HB.out.size))
      have HOn := Lib.hid (HO.out.below hbA)
      simp only [ebox] at b1 b2 hbA HBn HOn
      by_cases h1 : q < m
      · have hw : IntKind.i64.wrap (m - q) = m - q := by rw [IntKind.wrap_i64]; omega
        have HS' : Hid (splitE xs n = (xs.take (k + 1) ++ (splitE (xs.drop (k + 1)) (m - q)).1, (splitE (xs.drop (k + 1)) (m - q)).2)) := Lib.hid (by rw [HSp.out, HD.out, splitE, if_pos (show ((p, q) : Wy).2 < m from h1), HT.out, List.append_assoc]; rfl)
        go_upto_region 9 with fail
        generalize hWd : (wr.alloc (.cells #[.int .i64 p, .int .i64 q] 48)) = W at HBn HOn b1 b2 hbA ⊢
        have hX := alloc_at wr (ebox (p, q))
        rw [show wr.alloc (ebox (p, q)) = W from hWd] at hX
        obtain ⟨M, hM⟩ : ∃ M, wr.heap.size = M := ⟨_, rfl⟩
        have HbA := Lib.hid hbA; have HM := Lib.hid hM
        rw [hM] at b1 b2 hX ⊢
        have HX := Lib.hid hX
        have HMl := Lib.hid (cell_lt b1)
        clear c1 c2 hbA hM hWd hX
        have HB3 := Lib.hid (HBn.out.trans ((below_new W (.cells (wc (p, q)).toArray 48)).mono HBn.out.size))
        have HO3 := Lib.hid (HOn.out.below (below_new W (.cells (wc (p, q)).toArray 48)))
        have HbC := Lib.hid (below_new W (.cells (wc (p, q)).toArray 48))
        have HSn := Lib.hid (fun W => sl_new wc_len W ((p, q) : Wy) 48 _ rfl)
        go_upto_region 10 with (at_builtin; refine appSlG wc_len wc_one (by decide) rfl _ _ 22 rfl w.heap.size 48 _ (by rfl) 16 Try.underlying22 infoWay _ (xs.take k) rfl HO3.out _ [(p, q)] rfl (HSn.out _) (by have := HTl.out; have := HLn.out; unfold maxLen; simp; omega) (by have := HTl.out; have := HLn.out; simp; omega) HB3.out.size ?_; intro v3 w3 ho3 hk3 hg3; obtain ⟨x3, y3, rfl⟩ := ho3.slice; have HO4 := Lib.hid ho3; have HG3 := Lib.hid hg3; have HB4 := Lib.hid (HB3.out.trans hk3.toBelow); clear ho3 hk3 hg3)
        clear b1 b2
        have hX3 : w3.heap[M]? = some (ebox (p, q)) := (grown_keep HO.out (HbA.out.trans (HbC.out.mono HbA.out.size)) HG3.out (by rw [HM.out]; exact Nat.le_refl _) (Nat.lt_of_lt_of_le HMl.out HbC.out.size)).trans ((HbC.out.block M HMl.out).trans HX.out)
        obtain ⟨k1, k2⟩ := ebox_at hX3
        simp only at k1 k2
        clear hX3
        go_wp2
        clear k1 k2
        go_roundw
        case rel => exact ⟨k + 1, m - q, by omega, by go_num, by go_num, rfl, rfl, by omega, by omega, HMs.out, by rw [HT.out]; have := HO4.out; rw [List.length_append, List.length_take] at this; exact this, HS'.out, HB4.out⟩
        case measure => simp [intOf]; omega
      · by_cases h2 : q = m
        · subst h2
          have HS' : Hid (splitE xs n = (xs.take (k + 1), xs.drop (k + 1))) := Lib.hid (by rw [HSp.out, HD.out, splitE, if_neg (show ¬ ((p, q) : Wy).2 < q from h1), if_pos rfl, HT.out])
          go_upto_region 12 with fail
          generalize hWd : (wr.alloc (.cells #[.int .i64 p, .int .i64 q] 48)) = W at HBn HOn b1 b2 hbA ⊢
          have hX := alloc_at wr (ebox (p, q))
          rw [show wr.alloc (ebox (p, q)) = W from hWd] at hX
          obtain ⟨M, hM⟩ : ∃ M, wr.heap.size = M := ⟨_, rfl⟩
          have HbA := Lib.hid hbA; have HM := Lib.hid hM
          rw [hM] at b1 b2 hX ⊢
          have HX := Lib.hid hX
          have HMl := Lib.hid (cell_lt b1)
          clear c1 c2 hbA hM hWd hX
          have HB3 := Lib.hid (HBn.out.trans ((below_new W (.cells (wc (p, q)).toArray 48)).mono HBn.out.size))
          have HO3 := Lib.hid (HOn.out.below (below_new W (.cells (wc (p, q)).toArray 48)))
          have HbC := Lib.hid (below_new W (.cells (wc (p, q)).toArray 48))
          have HSn := Lib.hid (fun W => sl_new wc_len W ((p, q) : Wy) 48 _ rfl)
          go_upto_region 14 with (at_builtin; refine appSlG wc_len wc_one (by decide) rfl _ _ 22 rfl w.heap.size 48 _ (by rfl) 16 Try.underlying22 infoWay _ (xs.take k) rfl HO3.out _ [(p, q)] rfl (HSn.out _) (by have := HTl.out; have := HLn.out; unfold maxLen; simp; omega) (by have := HTl.out; have := HLn.out; simp; omega) HB3.out.size ?_; intro v3 w3 ho3 hk3 hg3; obtain ⟨x3, y3, rfl⟩ := ho3.slice; have HO4 := Lib.hid ho3; have HG3 := Lib.hid hg3; have HB4 := Lib.hid (HB3.out.trans hk3.toBelow); clear ho3 hk3 hg3)
          clear b1 b2
          have HOn9 := Lib.hid (Own.nil (enc := wc) (k := 2) w3 48 w3.heap.size)
          have HSw := Lib.hid (HS.out.keep HB4.out)
          by_cases hcc : k + 1 < cap
          · have HSub := Lib.hid (sub_sl HSw.out HL.out hlt hcc)
            go_wp2_with (at_builtin; refine appSlG wc_len wc_one (by decide) rfl _ _ 22 rfl w3.heap.size 48 _ (by rfl) 16 Try.underlying22 infoWay _ [] rfl HOn9.out _ (xs.drop (k + 1)) rfl HSub.out (by have := HLn.out; have := HL.out; unfold maxLen; simp <;> omega) (by have := HLn.out; have := HL.out; simp <;> omega) (Nat.le_refl _) ?_; intro v9 w9 ho9 hk9 hg9; have HO9 := Lib.hid ho9; have HK9 := Lib.hid hk9.toBelow; clear ho9 hk9 hg9)
            go_ret2
            exact ⟨_, _, rfl, by rw [HS'.out]; have := HO4.out.below HK9.out; rw [List.length_append, List.length_take, ← HT.out] at this; exact this, by rw [HS'.out]; exact (by simpa using HO9.out : Own wc 2 48 w9 w3.heap.size _ (xs.drop (k + 1))).mono HB4.out.size, HB4.out.trans (HK9.out.mono HB4.out.size)⟩
          · obtain rfl : cap = k + 1 := by omega
            obtain rfl : L = k + 1 := by omega
            have HNil : Hid (xs.drop (k + 1) = []) := Lib.hid (by rw [List.drop_eq_nil_iff, HL.out]; exact Nat.le_refl _)
            have HSub : Hid (Sl wc 2 w3 (.slice (some ⟨b, off, none⟩) 0 0) []) := Lib.hid ⟨by simp, _, _, rfl, (fun h => by cases h), fun h => by simp at h⟩
            go_wp2_with (at_builtin; refine appSlG wc_len wc_one (by decide) rfl _ _ 22 rfl w3.heap.size 48 _ (by rfl) 16 Try.underlying22 infoWay _ [] rfl HOn9.out _ [] rfl HSub.out (by have := HLn.out; have := HL.out; unfold maxLen; simp <;> omega) (by have := HLn.out; have := HL.out; simp <;> omega) (Nat.le_refl _) ?_; intro v9 w9 ho9 hk9 hg9; have HO9 := Lib.hid ho9; have HK9 := Lib.hid hk9.toBelow; clear ho9 hk9 hg9)
            go_ret2
            exact ⟨_, _, rfl, by rw [HS'.out]; have := HO4.out.below HK9.out; rw [List.length_append, List.length_take, ← HT.out] at this; exact this, by rw [HS'.out]; exact (by simpa [HNil.out] using HO9.out : Own wc 2 48 w9 w3.heap.size _ (xs.drop (k + 1))).mono HB4.out.size, HB4.out.trans (HK9.out.mono HB4.out.size)⟩
        · have h3 : m < q := by omega
          have hwa : IntKind.i64.wrap (p + m) = p + m := by rw [IntKind.wrap_i64]; omega
          have hwb : IntKind.i64.wrap (q - m) = q - m := by rw [IntKind.wrap_i64]; omega
          have HS' : Hid (splitE xs n = (xs.take k ++ [(p, m)], (p + m, q - m) :: xs.drop (k + 1))) := Lib.hid (by rw [HSp.out, HD.out, splitE, if_neg (show ¬ ((p, q) : Wy).2 < m from h1), if_neg (show ¬ ((p, q) : Wy).2 = m from h2)])
          go_upto_region 6 with fail
          generalize hWd : (wr.alloc (.cells #[.int .i64 p, .int .i64 q] 48)) = W at HBn HOn b1 b2 hbA ⊢
          have hX := alloc_at wr (ebox (p, q))
          rw [show wr.alloc (ebox (p, q)) = W from hWd] at hX
          obtain ⟨M, hM⟩ : ∃ M, wr.heap.size = M := ⟨_, rfl⟩
          have HbA := Lib.hid hbA; have HM := Lib.hid hM
          rw [hM] at b1 b2 hX ⊢
          have HX := Lib.hid hX
          have HMl := Lib.hid (cell_lt b1)
          clear c1 c2 hbA hM hWd hX
          have HB3 := Lib.hid (HBn.out.trans ((below_new W (.cells (wc (p, m)).toArray 48)).mono HBn.out.size))
          have HO3 := Lib.hid (HOn.out.below (below_new W (.cells (wc (p, m)).toArray 48)))
          have HbC := Lib.hid (below_new W (.cells (wc (p, m)).toArray 48))
          have HSn := Lib.hid (fun W => sl_new wc_len W ((p, m) : Wy) 48 _ rfl)
          have k1 := (HbC.out.cell (p := ⟨M, 0, none⟩) HMl.out).trans b1
          have k2 := (HbC.out.cell (p := ⟨M, 1, none⟩) HMl.out).trans b2
          go_upto_region 7 with (at_builtin; refine appSlG wc_len wc_one (by decide) rfl _ _ 22 rfl w.heap.size 48 _ (by rfl) 16 Try.underlying22 infoWay _ (xs.take k) rfl HO3.out _ [(p, m)] rfl (HSn.out _) (by have := HTl.out; have := HLn.out; unfold maxLen; simp; omega) (by have := HTl.out; have := HLn.out; simp; omega) HB3.out.size ?_; intro v3 w3 ho3 hk3 hg3; obtain ⟨x3, y3, rfl⟩ := ho3.slice; have HO4 := Lib.hid ho3; have HG3 := Lib.hid hg3; have HB4 := Lib.hid (HB3.out.trans hk3.toBelow); clear ho3 hk3 hg3)
          clear b1 b2 k1 k2
          have hX3 : w3.heap[M]? = some (ebox (p, q)) := (grown_keep HO.out (HbA.out.trans (HbC.out.mono HbA.out.size)) HG3.out (by rw [HM.out]; exact Nat.le_refl _) (Nat.lt_of_lt_of_le HMl.out HbC.out.size)).trans ((HbC.out.block M HMl.out).trans HX.out)
          obtain ⟨k1, k2⟩ := ebox_at hX3
          simp only at k1 k2
          clear hX3
          have hbD := below_new w3 (.cells (wc (p + m, q - m)).toArray 48)
          have HbD := Lib.hid hbD
          have HOn8 := Lib.hid (Own.nil (enc := wc) (k := 2) (w3.alloc (.cells (wc (p + m, q - m)).toArray 48)) 48 w3.heap.size)
          have HSn8 := Lib.hid (sl_new wc_len w3 ((p + m, q - m) : Wy) 48 _ rfl)
          clear hbD
          go_upto_region 14 with (at_builtin; refine appSlG wc_len wc_one (by decide) rfl _ _ 22 rfl w3.heap.size 48 _ (by rfl) 16 Try.underlying22 infoWay _ [] rfl HOn8.out _ [(p + m, q - m)] rfl HSn8.out (by unfold maxLen; simp) (by simp) HbD.out.size ?_; intro v8 w4 ho8 hk8 hg8; obtain ⟨x8, y8, rfl⟩ := ho8.slice; have HO8 := Lib.hid (show Own wc 2 48 w4 w3.heap.size _ [(p + m, q - m)] from ho8); have HK8 := Lib.hid (HbD.out.trans hk8.toBelow); clear ho8 hk8 hg8)
          clear k1 k2
          have hseen : (k : Int) + 1 ≤ L := by omega
          have HSw := Lib.hid (HS.out.keep (HB4.out.trans (HK8.out.mono HB4.out.size)))
          by_cases hcc : k + 1 < cap
          · have HSub := Lib.hid (sub_sl HSw.out HL.out hlt hcc)
            go_wp2_with (at_builtin; refine appSlG wc_len wc_one (by decide) rfl _ _ 22 rfl w3.heap.size 48 _ (by rfl) 16 Try.underlying22 infoWay _ [(p + m, q - m)] rfl HO8.out _ (xs.drop (k + 1)) rfl HSub.out (by have := HLn.out; have := HL.out; unfold maxLen; simp <;> omega) (by have := HLn.out; have := HL.out; simp <;> omega) HK8.out.size ?_; intro v9 w9 ho9 hk9 hg9; have HO9 := Lib.hid ho9; have HK9 := Lib.hid (HK8.out.trans hk9.toBelow); clear ho9 hk9 hg9)
            go_ret2
            exact ⟨_, _, rfl, by rw [HS'.out]; have := HO4.out.below HK9.out; rw [List.length_append, List.length_take] at this; exact this, by rw [HS'.out]; exact (by simpa using HO9.out : Own wc 2 48 w9 w3.heap.size _ ((p + m, q - m) :: xs.drop (k + 1))).mono HB4.out.size, HB4.out.trans (HK9.out.mono HB4.out.size)⟩
          · obtain rfl : cap = k + 1 := by omega
            obtain rfl : L = k + 1 := by omega
            have HNil : Hid (xs.drop (k + 1) = []) := Lib.hid (by rw [List.drop_eq_nil_iff, HL.out]; exact Nat.le_refl _)
            have HSub : Hid (Sl wc 2 w4 (.slice (some ⟨b, off, none⟩) 0 0) []) := Lib.hid ⟨by simp, _, _, rfl, (fun h => by cases h), fun h => by simp at h⟩
            go_wp2_with (at_builtin; refine appSlG wc_len wc_one (by decide) rfl _ _ 22 rfl w3.heap.size 48 _ (by rfl) 16 Try.underlying22 infoWay _ [(p + m, q - m)] rfl HO8.out _ [] rfl HSub.out (by have := HLn.out; have := HL.out; unfold maxLen; simp <;> omega) (by have := HLn.out; have := HL.out; simp <;> omega) HK8.out.size ?_; intro v9 w9 ho9 hk9 hg9; have HO9 := Lib.hid ho9; have HK9 := Lib.hid (HK8.out.trans hk9.toBelow); clear ho9 hk9 hg9)
            go_ret2
            exact ⟨_, _, rfl, by rw [HS'.out]; have := HO4.out.below HK9.out; rw [List.length_append, List.length_take] at this; exact this, by rw [HS'.out]; exact (by simpa [HNil.out] using HO9.out : Own wc 2 48 w9 w3.heap.size _ ((p + m, q - m) :: xs.drop (k + 1))).mono HB4.out.size, HB4.out.trans (HK9.out.mono HB4.out.size)⟩
    · obtain rfl : k = L := by omega
      exfalso
      rw [List.drop_eq_nil_of_le (by rw [HL.out]; exact Nat.le_refl _)] at hms
      simp only [sumE] at hms
      omega

end Go.Proofs.Ytijafehhhknamaa.ext
