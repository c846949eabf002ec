/- Fit, of the program. -/
import Derived.Test.YtijafehhhknamaaRows
import Derived.Test.YtijafehhhknamaaExtA
import Derived.Shelf.SlSortCmp.QuietGrown
namespace Go.Proofs.Ytijafehhhknamaa.ext
open Go.RowKit Go.Sort
open Go.Proofs.Ytijafehhhknamaa.kit Go.Proofs.Ytijafehhhknamaa.own
set_option linter.unusedVariables false

/-- The cells that a region reads stay as they are. -/
def TwoC (b o b2 o2 : Nat) (p q p2 q2 : Int) (W u : World) : Prop :=
  Below W.heap.size W u ∧ u.cell? ⟨b, o, none⟩ = some (.int .i64 p) ∧ u.cell? ⟨b, o + 1, none⟩ = some (.int .i64 q) ∧ u.cell? ⟨b2, o2, none⟩ = some (.int .i64 p2) ∧ u.cell? ⟨b2, o2 + 1, none⟩ = some (.int .i64 q2)
theorem TwoC.keep {b o b2 o2 : Nat} {p q p2 q2 : Int} {W u v : World} (h : TwoC b o b2 o2 p q p2 q2 W u) (hb : Below u.heap.size u v) : TwoC b o b2 o2 p q p2 q2 W v := by
  obtain ⟨h0, h1, h2, h3, h4⟩ := h
  exact ⟨h0.trans (hb.mono h0.size), (hb.cell (p := ⟨b, _, none⟩) (cell_lt h1)).trans h1, (hb.cell (p := ⟨b, _, none⟩) (cell_lt h2)).trans h2, (hb.cell (p := ⟨b2, _, none⟩) (cell_lt h3)).trans h3, (hb.cell (p := ⟨b2, _, none⟩) (cell_lt h4)).trans h4⟩
theorem all_and (t : Int) (h : rowE t = true) (xs : List Wy) : (xs.all fun x => rowE t && lieE t x) = xs.all (lieE t) := by
  rw [h]; simp only [Bool.true_and]
theorem chain_drop : ∀ (p : Option Wy) (xs : List Wy), chainE p xs = (match xs with | [] => true | x :: r => linkE p x && chainE (some x) r)
  | _, [] => rfl
  | _, _ :: _ => rfl
theorem sum_ok {t : Int} {x : Wy} (hr : rowE t = true) (h : lieE t x = true) : 1 ≤ x.2 ∧ 0 ≤ x.1 ∧ x.1 + x.2 ≤ 65536 := by
  rw [lieE_iff] at h
  simp [rowE] at hr
  omega

theorem end_grow (x : Wy) (w : World) (h : -9223372036854775808 ≤ x.1 + x.2 ∧ x.1 + x.2 ≤ 9223372036854775807) : Calls Try.prog 24 #[.agg #[.int .i64 x.1, .int .i64 x.2]] w fun e w' => e = .returned (.int .i64 (x.1 + x.2)) ∧ ∃ q os', w' = Sort.grow (w.drewN q) os' :=
  (end_any x w h).mono fun e w' ⟨h1, h2⟩ => ⟨h1, 0, #[ebox x], by rw [h2, Sort.alloc_eq_grow]; rfl⟩
set_option maxHeartbeats 8000000 in
set_option maxRecDepth 100000 in
theorem Fit_any (t : Int) (v : Value) (xs : List Wy) (w : World) (h : Sl wc 2 w v xs) (hok : ∀ x ∈ xs, Wy.Ok x) :
    Calls Try.prog 6 #[.int .i64 t, v] w fun e w' => e = .returned (.bool (fitE t xs)) ∧ Below w.heap.size w w' := by
  obtain ⟨hl, a, cap, rfl, -, -⟩ := id h
  have HS := Lib.hid h; have HOk := Lib.hid hok
  obtain ⟨L, hL⟩ : ∃ L, xs.length = L := ⟨_, rfl⟩
  have HL := Lib.hid hL
  rw [hL] at hl HS ⊢
  clear h hL hok
  have mixed : Try.prog.follows .mixedOrders = true := by kernel_rfl
  cases hr : rowE t with
  | false =>
    have HE : Hid (fitE t xs = false) := Lib.hid (by rw [fitE, hr]; rfl)
    rw [HE.out]
    have HR := Lib.hid hr
    clear hr
    go_enter Try.func6, Try.ntmps6
    go_wp2_with (go_at_call 22; refine (isRow_any _ _).mono ?_; rintro e w' ⟨rfl, rfl⟩; rw [HR.out])
    go_ret
    exact ⟨rfl, Below.refl _ _⟩
  | true =>
    have HR := Lib.hid hr
    cases ha : xs.all (lieE t) with
    | false =>
      have HE : Hid (fitE t xs = false) := Lib.hid (by rw [fitE, ha]; simp)
      have HA : Hid ((xs.all fun x => rowE t && lieE t x) = false) := Lib.hid ((all_and t hr xs).trans ha)
      rw [HE.out]
      clear hr ha
      go_enter Try.func6, Try.ntmps6
      go_wp2_with (first
        | (go_at_call 22; refine (isRow_any _ _).mono ?_; rintro e w' ⟨rfl, rfl⟩; rw [HR.out])
        | (go_at_call 23; refine (allLie_any _ _ xs _ HS.out HOk.out).mono ?_; rintro e w1 ⟨rfl, hb1⟩; rw [HA.out]; have HB1 := Lib.hid hb1; clear hb1))
      go_ret
      exact ⟨rfl, HB1.out⟩
    | true =>
      have HE : Hid (fitE t xs = chainE none xs) := Lib.hid (by rw [fitE, ha, hr]; simp)
      have HA : Hid ((xs.all fun x => rowE t && lieE t x) = true) := Lib.hid ((all_and t hr xs).trans ha)
      have HLi : Hid (∀ x ∈ xs, 1 ≤ x.2 ∧ 0 ≤ x.1 ∧ x.1 + x.2 ≤ 65536) := Lib.hid (fun x hx => sum_ok hr (List.all_eq_true.1 ha x hx))
      rw [HE.out]
      clear hr ha
      go_enter Try.func6, Try.ntmps6
      go_wp2_with (first
        | (go_at_call 22; refine (isRow_any _ _).mono ?_; rintro e w' ⟨rfl, rfl⟩; rw [HR.out])
        | (go_at_call 23; refine (allLie_any _ _ xs _ HS.out HOk.out).mono ?_; rintro e w1 ⟨rfl, hb1⟩; rw [HA.out]; have HB1 := Lib.hid hb1; clear hb1))
      go_loopw [5] (fun i wr => ∃ (k i' : Nat), i' = k + 1 ∧ (k ≤ L - 1) ∧ i = .int .i64 i' ∧ chainE none (xs.drop k) = chainE none xs ∧ Below w.heap.size w wr) (fun i _ => L - (intOf i).toNat)
      case atStart => exact ⟨0, 1, rfl, by omega, rfl, rfl, HB1.out⟩
      case round =>
        obtain ⟨k, i, hik, hk, rfl, hr, hb⟩ := hrel
        have HI := Lib.hid hik
        have HB := Lib.hid hb; have HC := Lib.hid hr
        clear hb hr
        by_cases hlt : i < L
        · have hlt' : (i : Int) < L := by omega
          have hk0 : (0 : Int) ≤ k := by omega
          have hkL : (k : Int) < L := by omega
          have hki : (i : Int) - 1 = k := by omega
          have hi : k < xs.length := by rw [HL.out]; omega
          have hi2 : i < xs.length := by rw [HL.out]; exact hlt
          have hs2 : Sl wc 2 wr (.slice a L cap) xs := HS.out.keep HB.out
          obtain ⟨_, a', cap', he, -, hcell⟩ := hs2
          have he' : a = a' ∧ cap = cap' := by cases he; exact ⟨rfl, rfl⟩
          obtain ⟨rfl, rfl⟩ := he'
          clear he
          obtain ⟨b, off, rfl, hbl, hcell⟩ := hcell (by omega)
          obtain ⟨c1, c2⟩ := wcells_at (hcell k hi)
          obtain ⟨d1, d2⟩ := wcells_at (hcell i hi2)
          clear hcell
          have hd : xs.drop k = xs[k] :: xs[i] :: xs.drop (k + 2) := by subst hik; rw [List.drop_eq_getElem_cons hi, List.drop_eq_getElem_cons hi2]
          have hd2 : xs.drop (k + 1) = xs[i] :: xs.drop (k + 2) := by subst hik; rw [List.drop_eq_getElem_cons hi2]
          have hl1 := HLi.out _ (List.getElem_mem hi)
          obtain ⟨x, hx⟩ : ∃ x, xs[k] = x := ⟨_, rfl⟩
          obtain ⟨y, hy⟩ : ∃ y, xs[i] = y := ⟨_, rfl⟩
          rw [hx] at c1 c2 hd hl1
          rw [hy] at d1 d2 hd hd2
          obtain ⟨p, q⟩ := x
          obtain ⟨p2, q2⟩ := y
          simp only at c1 c2 d1 d2 hl1
          have hw : IntKind.i64.wrap (p + q) = p + q := by rw [IntKind.wrap_i64]; omega
          have HSm := Lib.hid (show -9223372036854775808 ≤ (p, q).1 + (p, q).2 ∧ (p, q).1 + (p, q).2 ≤ 9223372036854775807 by simp only; omega)
          have HT := Lib.hid (show TwoC b (off + k * 2) b (off + i * 2) p q p2 q2 wr wr from ⟨Below.refl _ _, c1, c2, d1, d2⟩)
          have HCh : Hid (chainE none xs = (decide (p + q < p2) && chainE none (xs.drop (k + 1)))) := Lib.hid (by
            rw [← HC.out, hd, hd2]; simp [chainE, linkE])
          clear hd hd2 hx hy hl1 hik
          have hend := fun n os => end_grow (p, q) (Sort.grow (wr.drewN n) os) HSm.out
          simp only at hend
          have c1 := cell_grown (a := ⟨b, _, none⟩) hbl c1
          have c2 := cell_grown (a := ⟨b, _, none⟩) hbl c2
          have d1 := cell_grown (a := ⟨b, _, none⟩) hbl d1
          have d2 := cell_grown (a := ⟨b, _, none⟩) hbl d2
          have hwk : IntKind.i64.wrap (k : Int) = (k : Int) := by rw [IntKind.wrap_i64]; omega
          clear HT
          by_cases hc : p2 ≤ p + q
          · have HF : Hid (chainE none xs = false) := Lib.hid (by rw [HCh.out]; simp; intro h; omega)
            go_upto_region 6 with fail
            go_quiet_grown (first | (go_at_call 24; exact Calls.grown_of (hend _ _)))
            have HBd := Lib.hid (HB.out.trans ((grow_below (w := wr) ⟨nq, osq, rfl⟩).mono HB.out.size))
            simp only
            generalize (Sort.grow (wr.drewN nq) osq) = W2 at HBd ⊢
            clear hend
            clear c1 c2 d1 d2
            go_wp2
            go_ret
            exact ⟨by rw [HF.out]; rfl, HBd.out⟩
          · have HF : Hid (chainE none (xs.drop (k + 1)) = chainE none xs) := Lib.hid (by rw [HCh.out, decide_eq_true (by omega)]; rfl)
            go_upto_region 6 with fail
            go_quiet_grown (first | (go_at_call 24; exact Calls.grown_of (hend _ _)))
            have HBd := Lib.hid (HB.out.trans ((grow_below (w := wr) ⟨nq, osq, rfl⟩).mono HB.out.size))
            simp only
            generalize (Sort.grow (wr.drewN nq) osq) = W2 at HBd ⊢
            clear hend
            clear c1 c2 d1 d2
            go_wp2
            go_roundw
            case rel => exact ⟨k + 1, i + 1, by have := HI.out; omega, by have := HI.out; omega, by go_num, HF.out, HBd.out⟩
            case measure => simp [intOf]; omega
        · have HF : Hid (chainE none xs = true) := Lib.hid (by
            rw [← HC.out]
            rcases hd : xs.drop k with _ | ⟨x, _ | ⟨y, r⟩⟩
            · rfl
            · rfl
            · have := congrArg List.length hd
              simp [HL.out] at this
              omega)
          have hlt' : ¬ (i : Int) < L := by omega
          go_wp2
          go_ret
          exact ⟨by rw [HF.out]; rfl, HB.out⟩

end Go.Proofs.Ytijafehhhknamaa.ext
