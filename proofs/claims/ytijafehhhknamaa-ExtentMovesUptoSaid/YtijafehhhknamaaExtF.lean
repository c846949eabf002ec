/- Extents that stand over one another; what lies between; both in order. -/
import Derived.Test.YtijafehhhknamaaRows
import Derived.Test.YtijafehhhknamaaExtE
import Derived.Test.YtijafehhhknamaaExtSort
import Derived.Test.YtijafehhhknamaaExtD
namespace Go.Proofs.Ytijafehhhknamaa.ext
open Go.RowKit Go.Sort
open Go.Proofs.Ytijafehhhknamaa.kit Go.Proofs.Ytijafehhhknamaa.own
set_option linter.unusedVariables false

/-- Some one begins ahead of the end of the one ahead of it. -/
def overE : List Wy → Bool
  | x :: y :: r => decide (y.1 < x.1 + x.2) || overE (y :: r)
  | _ => false

set_option maxHeartbeats 8000000 in
set_option maxRecDepth 100000 in
theorem overlap_any (v : Value) (xs : List Wy) (w : World) (h : Sl wc 2 w v xs) (hf : ∀ x ∈ xs, Fine x) :
    Calls Try.prog 34 #[v] w fun e w' => e = .returned (.bool (overE xs)) ∧ Below w.heap.size w w' := by
  obtain ⟨hl, a, cap, rfl, -, -⟩ := id h
  have HS := Lib.hid h; have HFn := Lib.hid hf
  obtain ⟨L, hL⟩ : ∃ L, xs.length = L := ⟨_, rfl⟩
  have HL := Lib.hid hL
  rw [hL] at hl HS ⊢
  clear h hL hf
  have mixed : Try.prog.follows .mixedOrders = true := by kernel_rfl
  go_enter Try.func34, Try.ntmps34
  go_wp2
  go_loopw [3] (fun i wr => ∃ (k i' : Nat), i' = k + 1 ∧ (k ≤ L - 1) ∧ i = .int .i64 i' ∧ overE (xs.drop k) = overE xs ∧ Below w.heap.size w wr) (fun i _ => L - (intOf i).toNat)
  case atStart => exact ⟨0, 1, rfl, by omega, rfl, rfl, Below.refl _ _⟩
  case round =>
    obtain ⟨k, i, hik, hk, rfl, hr, hb⟩ := hrel
    have HI := Lib.hid hik
    have HB := Lib.hid hb; have HC := Lib.hid hr
    clear hb hr
    by_cases hlt : i < L
    · have hlt' : (i : Int) < L := by omega
      have hk0 : (0 : Int) ≤ k := by omega
      have hkL : (k : Int) < L := by omega
      have hki : (i : Int) - 1 = k := by omega
      have hi : k < xs.length := by rw [HL.out]; omega
      have hi2 : i < xs.length := by rw [HL.out]; exact hlt
      have hs2 : Sl wc 2 wr (.slice a L cap) xs := HS.out.keep HB.out
      obtain ⟨_, a', cap', he, -, hcell⟩ := hs2
      have he' : a = a' ∧ cap = cap' := by cases he; exact ⟨rfl, rfl⟩
      obtain ⟨rfl, rfl⟩ := he'
      clear he
      obtain ⟨b, off, rfl, hbl, hcell⟩ := hcell (by omega)
      obtain ⟨c1, c2⟩ := wcells_at (hcell k hi)
      obtain ⟨d1, d2⟩ := wcells_at (hcell i hi2)
      clear hcell
      have hd : xs.drop k = xs[k] :: xs[i] :: xs.drop (k + 2) := by subst hik; rw [List.drop_eq_getElem_cons hi, List.drop_eq_getElem_cons hi2]
      have hd2 : xs.drop (k + 1) = xs[i] :: xs.drop (k + 2) := by subst hik; rw [List.drop_eq_getElem_cons hi2]
      have hl1 := HFn.out _ (List.getElem_mem hi)
      unfold Fine at hl1
      obtain ⟨x, hx⟩ : ∃ x, xs[k] = x := ⟨_, rfl⟩
      obtain ⟨y, hy⟩ : ∃ y, xs[i] = y := ⟨_, rfl⟩
      rw [hx] at c1 c2 hd hl1
      rw [hy] at d1 d2 hd hd2
      obtain ⟨p, q⟩ := x
      obtain ⟨p2, q2⟩ := y
      simp only at c1 c2 d1 d2 hl1
      have hw : IntKind.i64.wrap (p + q) = p + q := by rw [IntKind.wrap_i64]; omega
      have HSm := Lib.hid (show -9223372036854775808 ≤ (p, q).1 + (p, q).2 ∧ (p, q).1 + (p, q).2 ≤ 9223372036854775807 by simp only; omega)
      have HT := Lib.hid (show TwoC b (off + k * 2) b (off + i * 2) p q p2 q2 wr wr from ⟨Below.refl _ _, c1, c2, d1, d2⟩)
      have HCh : Hid (overE xs = (decide (p2 < p + q) || overE (xs.drop (k + 1)))) := Lib.hid (by
        rw [← HC.out, hd, hd2]; simp [overE])
      clear hd hd2 hx hy hl1 hik
      have hend := fun n os => end_grow (p, q) (Sort.grow (wr.drewN n) os) HSm.out
      simp only at hend
      have c1 := cell_grown (a := ⟨b, _, none⟩) hbl c1
      have c2 := cell_grown (a := ⟨b, _, none⟩) hbl c2
      have d1 := cell_grown (a := ⟨b, _, none⟩) hbl d1
      have d2 := cell_grown (a := ⟨b, _, none⟩) hbl d2
      have hwk : IntKind.i64.wrap (k : Int) = (k : Int) := by rw [IntKind.wrap_i64]; omega
      clear HT
      by_cases hc : p2 < p + q
      · have HF : Hid (overE xs = true) := Lib.hid (by rw [HCh.out, decide_eq_true hc]; rfl)
        go_upto_region 4 with fail
        go_quiet_grown (first | (go_at_call 24; exact Calls.grown_of (hend _ _)))
        have HBd := Lib.hid (HB.out.trans ((grow_below (w := wr) ⟨nq, osq, rfl⟩).mono HB.out.size))
        simp only
        generalize (Sort.grow (wr.drewN nq) osq) = W2 at HBd ⊢
        clear hend
        clear c1 c2 d1 d2
        go_wp2
        go_ret
        exact ⟨by rw [HF.out]; rfl, HBd.out⟩
      · have HF : Hid (overE (xs.drop (k + 1)) = overE xs) := Lib.hid (by rw [HCh.out, decide_eq_false (by omega)]; rfl)
        go_upto_region 4 with fail
        go_quiet_grown (first | (go_at_call 24; exact Calls.grown_of (hend _ _)))
        have HBd := Lib.hid (HB.out.trans ((grow_below (w := wr) ⟨nq, osq, rfl⟩).mono HB.out.size))
        simp only
        generalize (Sort.grow (wr.drewN nq) osq) = W2 at HBd ⊢
        clear hend
        clear c1 c2 d1 d2
        go_wp2
        go_roundw
        case rel => exact ⟨k + 1, i + 1, by have := HI.out; omega, by have := HI.out; omega, by go_num, HF.out, HBd.out⟩
        case measure => simp [intOf]; omega
    · have HF : Hid (overE xs = false) := Lib.hid (by
        rw [← HC.out]
        rcases hd : xs.drop k with _ | ⟨x, _ | ⟨y, r⟩⟩
        · rfl
        · rfl
        · have := congrArg List.length hd
          simp [HL.out] at this
          omega)
      have hlt' : ¬ (i : Int) < L := by omega
      go_wp2
      go_ret
      exact ⟨by rw [HF.out]; rfl, HB.out⟩


/-- What lies between extents from a sector on, and behind the last one. -/
def othR (t : Int) : Int → List Wy → List Wy
  | p, [] => if p < t then [(p, t - p)] else []
  | p, x :: r => (if p < x.1 then [(p, x.1 - p)] else []) ++ othR t (x.1 + x.2) r

set_option maxHeartbeats 8000000 in
set_option maxRecDepth 100000 in
theorem others_any (t : Int) (v : Value) (xs : List Wy) (w : World) (h : Sl wc 2 w v xs) (ht : 0 ≤ t ∧ t ≤ 65536) (hf : ∀ x ∈ xs, Fine x) (hlen : (xs.length + 1) * 16 ≤ 140737488355328) :
    Calls Try.prog 25 #[.int .i64 t, v] w (RowS w (othR t 0 xs)) := by
  obtain ⟨hl, a, cap, rfl, -, -⟩ := id h
  have HS := Lib.hid h; have HFn := Lib.hid hf; have HLn := Lib.hid hlen
  obtain ⟨L, hL⟩ : ∃ L, xs.length = L := ⟨_, rfl⟩
  have HL := Lib.hid hL
  rw [hL] at hl HS HLn ⊢
  obtain ⟨ht0, ht1⟩ := ht
  clear h hL hf hlen
  have mixed : Try.prog.follows .mixedOrders = true := by kernel_rfl
  go_enter Try.func25, Try.ntmps25
  go_wp2
  go_loopw [5, 6, 11] (fun vf va i wr => ∃ (k : Nat) (s : Int) (pre : List Wy), k ≤ L ∧ i = .int .i64 k ∧ va = .int .i64 s ∧ 0 ≤ s ∧ s ≤ 65536 ∧ pre.length ≤ k ∧ Own wc 2 48 wr w.heap.size vf pre ∧ pre ++ othR t s (xs.drop k) = othR t 0 xs ∧ Below w.heap.size w wr) (fun _ _ i _ => L - (intOf i).toNat)
  case atStart => exact ⟨0, 0, [], by omega, rfl, rfl, by omega, by omega, by simp, Own.nil _ _ _, rfl, Below.refl _ _⟩
  case round =>
    obtain ⟨k, s, pre, hk, rfl, rfl, hs0, hs1, hpl, ho, hr, hb⟩ := hrel
    have HB := Lib.hid hb; have HR := Lib.hid hr; have HO := Lib.hid ho; have HPl := Lib.hid hpl
    obtain ⟨xa, xc, rfl⟩ := ho.slice
    clear hb hr ho
    by_cases hlt : k < L
    · have hlt' : (k : Int) < L := by omega
      have hi : k < xs.length := by rw [HL.out]; exact hlt
      have hs2 : Sl wc 2 wr (.slice a L cap) xs := HS.out.keep HB.out
      obtain ⟨_, a', cap', he, -, hcell⟩ := hs2
      have he' : a = a' ∧ cap = cap' := by cases he; exact ⟨rfl, rfl⟩
      obtain ⟨rfl, rfl⟩ := he'
      clear he
      obtain ⟨b, off, rfl, hbl, hcell⟩ := hcell (by omega)
      obtain ⟨c1, c2⟩ := wcells_at (hcell k hi)
      clear hcell
      have hd : xs.drop k = xs[k] :: xs.drop (k + 1) := List.drop_eq_getElem_cons hi
      have hfx := HFn.out _ (List.getElem_mem hi)
      unfold Fine at hfx
      obtain ⟨x, hx⟩ : ∃ x, xs[k] = x := ⟨_, rfl⟩
      rw [hx] at c1 c2 hd hfx
      obtain ⟨p, q⟩ := x
      simp only at c1 c2 hfx
      have HD : Hid (othR t 0 xs = pre ++ ((if s < p then [(s, p - s)] else []) ++ othR t (p + q) (xs.drop (k + 1)))) := Lib.hid (by rw [← HR.out, hd]; rfl)
      clear hd hx HR
      obtain ⟨b1, b2⟩ := ebox_cells wr (p, q)
      have hbA := below_new wr (ebox (p, q))
      have HBn := Lib.hid (HB.out.trans (hbA.mono HB.out.size))
      have HOn := Lib.hid (HO.out.below hbA)
      simp only [ebox] at b1 b2 hbA HBn HOn
      have HSm := Lib.hid (show -9223372036854775808 ≤ (p, q).1 + (p, q).2 ∧ (p, q).1 + (p, q).2 ≤ 9223372036854775807 by simp only; omega)
      by_cases hc : s < p
      · have hw : IntKind.i64.wrap (p - s) = p - s := by rw [IntKind.wrap_i64]; omega
        rw [if_pos hc] at HD
        go_upto_region 6 with fail
        generalize hWd : (wr.alloc (.cells #[.int .i64 p, .int .i64 q] 48)) = W at HBn HOn b1 b2 hbA ⊢
        have hX := alloc_at wr (ebox (p, q))
        rw [show wr.alloc (ebox (p, q)) = W from hWd] at hX
        obtain ⟨M, hM⟩ : ∃ M, wr.heap.size = M := ⟨_, rfl⟩
        have HbA := Lib.hid hbA; have HM := Lib.hid hM
        rw [hM] at b1 b2 hX ⊢
        have HX := Lib.hid hX
        have HMl := Lib.hid (cell_lt b1)
        clear c1 c2 hbA hM hWd hX
        have HSn := Lib.hid (fun W => sl_new wc_len W ((s, p - s) : Wy) 48 _ rfl)
        have HB3 := Lib.hid (HBn.out.trans ((below_new W (.cells (wc (s, p - s)).toArray 48)).mono HBn.out.size))
        have HO3 := Lib.hid (HOn.out.below (below_new W (.cells (wc (s, p - s)).toArray 48)))
        have HbC := Lib.hid (below_new W (.cells (wc (s, p - s)).toArray 48))
        have k1 := (HbC.out.cell (p := ⟨M, 0, none⟩) HMl.out).trans b1
        have k2 := (HbC.out.cell (p := ⟨M, 1, none⟩) HMl.out).trans b2
        go_upto_region 8 with (at_builtin; refine appSlG wc_len wc_one (by decide) rfl _ _ 22 rfl w.heap.size 48 _ (by rfl) 16 Try.underlying22 infoWay _ pre rfl HO3.out _ [(s, p - s)] rfl (HSn.out _) (by have := HPl.out; have := HLn.out; unfold maxLen; simp; omega) (by have := HPl.out; have := HLn.out; simp; omega) HB3.out.size ?_; intro v3 w3 ho3 hk3 hg3; obtain ⟨x3, y3, rfl⟩ := ho3.slice; have HO4 := Lib.hid ho3; have HG3 := Lib.hid hg3; have HB4 := Lib.hid (HB3.out.trans hk3.toBelow); clear ho3 hk3 hg3)
        clear b1 b2 k1 k2
        have hX3 : w3.heap[M]? = some (ebox (p, q)) := (grown_keep HO.out (HbA.out.trans (HbC.out.mono HbA.out.size)) HG3.out (by rw [HM.out]; exact Nat.le_refl _) (Nat.lt_of_lt_of_le HMl.out HbC.out.size)).trans ((HbC.out.block M HMl.out).trans HX.out)
        obtain ⟨k1, k2⟩ := ebox_at hX3
        simp only at k1 k2
        clear hX3
        go_wp2_with (go_at_call 24; refine (end_any (p, q) _ HSm.out).mono ?_; rintro e w4 ⟨rfl, rfl⟩)
        have HB5 := Lib.hid (HB4.out.trans ((below_new w3 (ebox (p, q))).mono HB4.out.size))
        have HO5 := Lib.hid (HO4.out.below (below_new w3 (ebox (p, q))))
        clear k1 k2
        go_roundw
        case rel => exact ⟨k + 1, p + q, pre ++ [(s, p - s)], by omega, by go_num, rfl, by omega, by omega, by simp; exact HPl.out, by have := HO5.out; rw [List.length_append] at this; exact this, by rw [HD.out, List.append_assoc], HB5.out⟩
        case measure => simp [intOf]; omega
      · rw [if_neg hc] at HD
        have hX := ebox_cells wr (p, q)
        have HX := Lib.hid hX
        clear hX
        go_wp2_with (go_at_call 24; refine (end_any (p, q) _ HSm.out).mono ?_; rintro e w4 ⟨rfl, rfl⟩)
        have HB5 := Lib.hid (HBn.out.trans ((below_new _ (ebox (p, q))).mono HBn.out.size))
        have HO5 := Lib.hid (HOn.out.below (below_new _ (ebox (p, q))))
        clear b1 b2 c1 c2 hbA
        go_roundw
        case rel => exact ⟨k + 1, p + q, pre, by omega, by go_num, rfl, by omega, by omega, by have := HPl.out; omega, HO5.out, by rw [HD.out, List.nil_append], HB5.out⟩
        case measure => simp [intOf]; omega
    · obtain rfl : k = L := by omega
      have HE : Hid (othR t 0 xs = pre ++ othR t s []) := Lib.hid (by rw [← HR.out, ← HL.out, List.drop_length])
      by_cases hc : s < t
      · have hw : IntKind.i64.wrap (t - s) = t - s := by rw [IntKind.wrap_i64]; omega
        have HF : Hid (othR t 0 xs = pre ++ [(s, t - s)]) := Lib.hid (by rw [HE.out, othR, if_pos hc])
        have HSn := Lib.hid (fun W => sl_new wc_len W ((s, t - s) : Wy) 48 _ rfl)
        have HB3 := Lib.hid (HB.out.trans ((below_new wr (.cells (wc (s, t - s)).toArray 48)).mono HB.out.size))
        have HO3 := Lib.hid (HO.out.below (below_new wr (.cells (wc (s, t - s)).toArray 48)))
        go_wp2_with (at_builtin; refine appSlG wc_len wc_one (by decide) rfl _ _ 22 rfl w.heap.size 48 _ (by rfl) 16 Try.underlying22 infoWay _ pre rfl HO3.out _ [(s, t - s)] rfl (HSn.out _) (by have := HPl.out; have := HLn.out; unfold maxLen; simp; omega) (by have := HPl.out; have := HLn.out; simp; omega) HB3.out.size ?_; intro v3 w3 ho3 hk3 hg3; obtain ⟨x3, y3, rfl⟩ := ho3.slice; have HO4 := Lib.hid ho3; have HG3 := Lib.hid hg3; have HB4 := Lib.hid (HB3.out.trans hk3.toBelow); clear ho3 hk3 hg3)
        go_ret
        exact ⟨_, rfl, by rw [HF.out]; have := HO4.out; rw [List.length_append] at this; exact this, HB4.out⟩
      · have HF : Hid (othR t 0 xs = pre) := Lib.hid (by rw [HE.out, othR, if_neg hc, List.append_nil])
        go_wp2
        go_ret
        exact ⟨_, rfl, by rw [HF.out]; exact HO.out, HB.out⟩
end Go.Proofs.Ytijafehhhknamaa.ext
