/- Fit and copies of the document, rows that are the same, counts. -/
import Derived.Test.YtijafehhhknamaaRows
import Derived.Test.YtijafehhhknamaaExtB
import Derived.BigQuiet
namespace Go.Proofs.Ytijafehhhknamaa.ext
open Go.RowKit Go.Sort
open Go.Proofs.Ytijafehhhknamaa.kit Go.Proofs.Ytijafehhhknamaa.own
set_option linter.unusedVariables false

set_option maxHeartbeats 8000000 in
set_option maxRecDepth 100000 in
theorem rFit_any (t : Int) (v : Value) (xs : List Wy) (w : World) (h : Sl wc 2 w v xs) (hok : ∀ x ∈ xs, Wy.Ok x) :
    Calls Try.prog 7 #[.int .i64 t, v] w fun e w' => e = .returned (.bool (fitE t xs)) ∧ Below w.heap.size w w' := by
  obtain ⟨hl, a, cap, rfl, -, -⟩ := id h
  have HS := Lib.hid h; have HOk := Lib.hid hok
  obtain ⟨L, hL⟩ : ∃ L, xs.length = L := ⟨_, rfl⟩
  have HL := Lib.hid hL
  rw [hL] at hl HS ⊢
  clear h hL hok
  have mixed : Try.prog.follows .mixedOrders = true := by kernel_rfl
  by_cases ht0 : t < 0
  · have HE : Hid (fitE t xs = false) := Lib.hid (by rw [fitE, show rowE t = false by simp [rowE]; omega]; rfl)
    rw [HE.out]
    go_enter Try.func7, Try.ntmps7
    go_wp2
    go_ret
    exact ⟨rfl, Below.refl _ _⟩
  by_cases ht1 : 65536 < t
  · have HE : Hid (fitE t xs = false) := Lib.hid (by rw [fitE, show rowE t = false by simp [rowE]; omega]; rfl)
    rw [HE.out]
    go_enter Try.func7, Try.ntmps7
    go_wp2
    go_ret
    exact ⟨rfl, Below.refl _ _⟩
  have HE : Hid (fitE t xs = fitR t none xs) := Lib.hid (by rw [fitE, show rowE t = true by simp [rowE]; omega, fitR_eq]; rfl)
  rw [HE.out]
  go_enter Try.func7, Try.ntmps7
  go_wp2
  go_loopw [5] (fun i wr => ∃ (k : Nat), k ≤ L ∧ i = .int .i64 k ∧ fitR t (prevE xs k) (xs.drop k) = fitR t none xs ∧ (∀ y, prevE xs k = some y → 1 ≤ y.2 ∧ 0 ≤ y.1 ∧ y.1 + y.2 ≤ 65536) ∧ Below w.heap.size w wr) (fun i _ => L - (intOf i).toNat)
  case atStart => exact ⟨0, by omega, rfl, rfl, fun y h => (by cases h), Below.refl _ _⟩
  case round =>
    obtain ⟨k, hk, rfl, hr, hly, hb⟩ := hrel
    have HLy := Lib.hid hly
    have HB := Lib.hid hb; have HR := Lib.hid hr
    clear hb hr hly
    by_cases hlt : k < L
    · have hlt' : (k : Int) < L := by omega
      have hi : k < xs.length := by rw [HL.out]; exact hlt
      have hs2 : Sl wc 2 wr (.slice a L cap) xs := HS.out.keep HB.out
      obtain ⟨_, a', cap', he, -, hcell⟩ := hs2
      have he' : a = a' ∧ cap = cap' := by cases he; exact ⟨rfl, rfl⟩
      obtain ⟨rfl, rfl⟩ := he'
      clear he
      obtain ⟨b, off, rfl, hbl, hcell⟩ := hcell (by omega)
      have HCl := Lib.hid hcell
      obtain ⟨c1, c2⟩ := wcells_at (hcell k hi)
      clear hcell
      have hd : xs.drop k = xs[k] :: xs.drop (k + 1) := List.drop_eq_getElem_cons hi
      have hp := prevE_succ xs k hi
      have ho := HOk.out _ (List.getElem_mem hi)
      obtain ⟨x, hx⟩ : ∃ x, xs[k] = x := ⟨_, rfl⟩
      rw [hx] at c1 c2 hd ho hp
      obtain ⟨p, q⟩ := x
      unfold Wy.Ok at ho
      simp only at c1 c2 ho
      have HD : Hid (fitR t none xs = (lieE t (p, q) && (linkE (prevE xs k) (p, q) && fitR t (some (p, q)) (xs.drop (k + 1))))) := Lib.hid (by rw [← HR.out, hd]; rfl)
      have HP := Lib.hid hp
      clear hd hx hp
      have HBn := Lib.hid (HB.out.alloc (HB.out.size) (.cells #[.int .i64 p, .int .i64 q] 48))
      by_cases h1 : q < 1
      · have HF : Hid (fitR t none xs = false) := Lib.hid (by rw [HD.out, show lieE t (p, q) = false by simp [lieE]; omega]; rfl)
        clear ho
        go_wp2
        go_ret
        exact ⟨by rw [HF.out]; rfl, HBn.out⟩
      by_cases h2 : t < q
      · have HF : Hid (fitR t none xs = false) := Lib.hid (by rw [HD.out, show lieE t (p, q) = false by simp [lieE]; omega]; rfl)
        clear ho
        go_wp2
        go_ret
        exact ⟨by rw [HF.out]; rfl, HBn.out⟩
      by_cases h3 : p < 0
      · have HF : Hid (fitR t none xs = false) := Lib.hid (by rw [HD.out, show lieE t (p, q) = false by simp [lieE]; omega]; rfl)
        clear ho
        go_wp2
        go_ret
        exact ⟨by rw [HF.out]; rfl, HBn.out⟩
      have hw : IntKind.i64.wrap (t - q) = t - q := by rw [IntKind.wrap_i64]; omega
      by_cases h4 : t - q < p
      · have HF : Hid (fitR t none xs = false) := Lib.hid (by rw [HD.out, show lieE t (p, q) = false by simp [lieE]; omega]; rfl)
        clear ho
        go_wp2
        go_ret
        exact ⟨by rw [HF.out]; rfl, HBn.out⟩
      have HLx : Hid (∀ y, prevE xs (k + 1) = some y → 1 ≤ y.2 ∧ 0 ≤ y.1 ∧ y.1 + y.2 ≤ 65536) := Lib.hid (by rw [HP.out]; intro y hy; cases hy; simp only; omega)
      have HD2 : Hid (fitR t none xs = (linkE (prevE xs k) (p, q) && fitR t (some (p, q)) (xs.drop (k + 1)))) := Lib.hid (by rw [HD.out, show lieE t (p, q) = true by simp [lieE]; omega, Bool.true_and])
      clear HD ho
      have hn1 : ¬ q < 1 := h1
      obtain ⟨b1, b2⟩ := ebox_cells wr (p, q)
      have hbA := below_new wr (ebox (p, q))
      simp only [ebox] at b1 b2 hbA
      by_cases hk0 : k = 0
      · subst hk0
        simp only [Nat.zero_mul, Nat.add_zero] at c1 c2
        have HF : Hid (fitR t (some (p, q)) (xs.drop (0 + 1)) = fitR t none xs) := Lib.hid (by rw [HD2.out]; rfl)
        go_upto_region 9 with fail
        generalize (wr.alloc (.cells #[.int .i64 p, .int .i64 q] 48)) = W at HBn b1 b2 hbA ⊢
        obtain ⟨M, hM⟩ : ∃ M, wr.heap.size = M := ⟨_, rfl⟩
        rw [hM] at b1 b2 ⊢
        clear c1 c2 hbA hM
        go_quiet (fail)
        have HBd := Lib.hid (HBn.out.drewN' nq)
        clear b1 b2
        go_wp2
        go_roundw
        case rel => exact ⟨1, by omega, by go_num, by rw [HP.out]; exact HF.out, HLx.out, HBd.out⟩
        case measure => simp [intOf]; omega
      · obtain ⟨m, hm⟩ : ∃ m, k = m + 1 := ⟨k - 1, by omega⟩
        have hm1 : m < xs.length := by omega
        have hkm : (k : Int) - 1 = m := by omega
        have hkp : 0 < k := by omega
        have hm0 : (0 : Int) ≤ m := by omega
        have hmL : (m : Int) < L := by omega
        have hwm : IntKind.i64.wrap (m : Int) = m := by rw [IntKind.wrap_i64]; omega
        obtain ⟨d1, d2⟩ := wcells_at (HCl.out m hm1)
        have hp2 := prevE_succ xs m hm1
        rw [← hm] at hp2
        obtain ⟨y, hy⟩ : ∃ y, xs[m] = y := ⟨_, rfl⟩
        rw [hy] at d1 d2 hp2
        have hyl := HLy.out _ hp2
        obtain ⟨p2, q2⟩ := y
        simp only at d1 d2 hyl
        have d1 := (hbA.cell (p := ⟨b, off + m * 2, none⟩) hbl).trans d1
        have d2 := (hbA.cell (p := ⟨b, off + m * 2 + 1, none⟩) hbl).trans d2
        have hws : IntKind.i64.wrap (p2 + q2) = p2 + q2 := by rw [IntKind.wrap_i64]; omega
        have HD3 : Hid (fitR t none xs = (decide (p2 + q2 < p) && fitR t (some (p, q)) (xs.drop (k + 1)))) := Lib.hid (by rw [HD2.out, hp2]; rfl)
        clear hy hp2 hm HCl HLy
        by_cases hc : p ≤ p2 + q2
        · have HF : Hid (fitR t none xs = false) := Lib.hid (by rw [HD3.out, decide_eq_false (by omega)]; rfl)
          go_upto_region 9 with fail
          generalize (wr.alloc (.cells #[.int .i64 p, .int .i64 q] 48)) = W at HBn b1 b2 hbA d1 d2 ⊢
          obtain ⟨M, hM⟩ : ∃ M, wr.heap.size = M := ⟨_, rfl⟩
          rw [hM] at b1 b2 ⊢
          clear c1 c2 hbA hM
          go_quiet (fail)
          have HBd := Lib.hid (HBn.out.drewN' nq)
          clear b1 b2 d1 d2
          go_wp2
          go_ret
          exact ⟨by rw [HF.out]; rfl, HBd.out⟩
        · have HF : Hid (fitR t (some (p, q)) (xs.drop (k + 1)) = fitR t none xs) := Lib.hid (by rw [HD3.out, decide_eq_true (by omega)]; rfl)
          go_upto_region 9 with fail
          generalize (wr.alloc (.cells #[.int .i64 p, .int .i64 q] 48)) = W at HBn b1 b2 hbA d1 d2 ⊢
          obtain ⟨M, hM⟩ : ∃ M, wr.heap.size = M := ⟨_, rfl⟩
          rw [hM] at b1 b2 ⊢
          clear c1 c2 hbA hM
          go_quiet (fail)
          have HBd := Lib.hid (HBn.out.drewN' nq)
          clear b1 b2 d1 d2
          go_wp2
          go_roundw
          case rel => exact ⟨k + 1, by omega, by go_num, by rw [HP.out]; exact HF.out, HLx.out, HBd.out⟩
          case measure => simp [intOf]; omega
    · obtain rfl : k = L := by omega
      go_wp2
      go_ret
      refine ⟨?_, HB.out⟩
      have := HR.out
      rw [← HL.out, List.drop_length] at this
      rw [← this]; rfl

end Go.Proofs.Ytijafehhhknamaa.ext
