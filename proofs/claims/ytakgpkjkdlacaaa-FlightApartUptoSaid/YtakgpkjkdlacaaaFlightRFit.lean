/- The document's Fit. -/
import Derived.Test.YtakgpkjkdlacaaaRows
import Derived.Test.YtakgpkjkdlacaaaFlightFit2
namespace Go.Proofs.Ytakgpkjkdlacaaa.flight
open Go.RowKit
open Go.Proofs.Ytakgpkjkdlacaaa.kit Go.Proofs.Ytakgpkjkdlacaaa.own
set_option linter.unusedVariables false

/-- The last number that was read. -/
def LastIs (l : List Frm) (k : Nat) (last : Int) : Prop := (k = 0 → last = 0) ∧ (∀ m, k = m + 1 → l[m]?.map Frm.num = some last) ∧ 0 ≤ last

set_option maxHeartbeats 8000000 in
set_option maxRecDepth 100000 in
theorem rFit_any (v : Value) (f : Flt) (w : World) (h : FlR w v f) : Calls Try.prog 8 #[v] w fun e w' => e = .returned (.bool f.fit) ∧ Below w.heap.size w w' := by
  obtain ⟨vl, vc, rfl, hl, hc⟩ := h
  have hb := below_new w (.cells #[.int .i64 f.next, vl, vc] 25)
  have HS1 := Lib.hid (hl.keep hb); have HS2 := Lib.hid (hc.keep hb)
  have HX := Lib.hid (fbox_new w f.next vl vc)
  have HB := Lib.hid hb
  obtain ⟨a1, c1, rfl⟩ := hl.slice
  obtain ⟨a2, c2, rfl⟩ := hc.slice
  have hnl : f.list.length ≤ 9223372036854775807 := hl.1
  obtain ⟨n, l, c⟩ := f
  simp only at HS1 HS2 HX HB hnl ⊢
  obtain ⟨L1, hL1⟩ : ∃ L, l.length = L := ⟨_, rfl⟩
  obtain ⟨L2, hL2⟩ : ∃ L, c.length = L := ⟨_, rfl⟩
  have HL1 := Lib.hid hL1; have HL2 := Lib.hid hL2
  simp only [hL1, hL2] at HS1 HS2 HX HB hnl ⊢
  have HNl := Lib.hid hnl
  clear hl hc hb hL1 hL2 hnl
  have HF : Hid ((⟨n, l, c⟩ : Flt).fit = (decide (0 ≤ n) && (decide (n ≤ 4611686018427387904) && (decide (L1 ≤ 65536) && (rise n 0 l && wrise none c))))) := by rw [← HL1.out]; rfl
  by_cases h1 : n < 0
  · go_enter Try.func8, Try.ntmps8
    go_wp2
    go_ret
    refine ⟨?_, HB.out⟩
    rw [HF.out, decide_eq_false (show ¬ 0 ≤ n by omega)]; rfl
  obtain ⟨x, hx⟩ : ∃ x, decide (4611686018427387904 < n) = x := ⟨_, rfl⟩
  have HXd := Lib.hid hx
  cases x with
  | true =>
    have h2 : True → decide (4611686018427387904 < n) = true := fun _ => hx
    clear hx
    go_enter Try.func8, Try.ntmps8
    go_wp2
    go_ret
    refine ⟨?_, HB.out⟩
    have := of_decide_eq_true HXd.out
    rw [HF.out, decide_eq_false (show ¬ n ≤ 4611686018427387904 by omega)]; simp
  | false =>
    have h2 : True → decide (4611686018427387904 < n) = false := fun _ => hx
    clear hx
    by_cases h3 : 65536 < L1
    · have h3' : (65536 : Int) < L1 := by omega
      go_enter Try.func8, Try.ntmps8
      go_wp2
      go_ret
      refine ⟨?_, HB.out⟩
      rw [HF.out, decide_eq_false (show ¬ L1 ≤ 65536 by omega)]; simp
    · have h3' : ¬ (65536 : Int) < L1 := by omega
      have HF2 : Hid ((⟨n, l, c⟩ : Flt).fit = (rise n 0 l && wrise none c)) := by
        have hn := of_decide_eq_false HXd.out
        show _ = _
        rw [HF.out, decide_eq_true (show 0 ≤ n by omega), decide_eq_true (show n ≤ 4611686018427387904 by omega), decide_eq_true (show L1 ≤ 65536 by omega)]; rfl
      clear HF HXd
      go_enter Try.func8, Try.ntmps8
      go_upto_region 3 with fail
      generalize (w.alloc (.cells #[.int .i64 n, .slice a1 L1 c1, .slice a2 L2 c2] 25)) = W at HS1 HS2 HX HB ⊢
      obtain ⟨N, hN⟩ : ∃ N, w.heap.size = N := ⟨_, rfl⟩
      rw [hN] at HX ⊢
      have mixed : Try.prog.follows .mixedOrders = true := by kernel_rfl
      clear hN
      obtain ⟨e1, e2, e3⟩ := HX.out.cells
      clear h1 h2 h3 h3'
      go_wp2
      go_loopw [3] (fun i wr => ∃ (k : Nat) (last : Int), k ≤ L1 ∧ i = .int .i64 k ∧ rise n last (l.drop k) = rise n 0 l ∧ LastIs l k last ∧ wr = W) (fun i _ => L1 - (intOf i).toNat)
      case atStart => exact ⟨0, 0, by omega, rfl, rfl, ⟨fun _ => rfl, fun m h => by omega, by omega⟩, rfl⟩
      case round =>
        obtain ⟨k, last, hk, rfl, hr, ⟨hz, hp, hge⟩, hwr⟩ := hrel
        have hw2 : W = wr := hwr.symm
        clear hwr
        subst hw2
        have HR := Lib.hid hr; have HZ := Lib.hid hz; have HPv := Lib.hid hp; have HGe := Lib.hid hge
        clear hr hz hp hge
        by_cases hlt : k < L1
        · have hlt' : (k : Int) < L1 := by omega
          have hk0 : (0 : Int) ≤ k := by omega
          have hi1 : k < l.length := by rw [HL1.out]; exact hlt
          have hsa := HS1.out
          rw [← HL1.out] at hsa
          obtain ⟨_, a', cap', he, -, hcell⟩ := hsa
          cases he
          obtain ⟨b, off, rfl, hbl, hcell⟩ := hcell (by omega)
          have HC := Lib.hid hcell
          obtain ⟨x1, x2, x3, x4⟩ := fcells_at (hcell k hi1)
          have hd : l.drop k = l[k] :: l.drop (k + 1) := List.drop_eq_getElem_cons hi1
          have hqk : l[k]? = some l[k] := by simp [hi1]
          obtain ⟨x, hx⟩ : ∃ x, l[k] = x := ⟨_, rfl⟩
          rw [hx] at x1 x2 x3 x4 hd hqk
          obtain ⟨xn, xs, xd, xb⟩ := x
          simp only at x1 x2 x3 x4
          have HD := Lib.hid hd; have HQ := Lib.hid hqk
          clear hcell hx hbl hd x2 x3 x4 hqk
          have HNo : Hid (¬ (last < xn ∧ xn ≤ n) → (⟨n, l, c⟩ : Flt).fit = false) := by
            show _ → _
            intro hno
            have := HR.out
            rw [HD.out, rise] at this
            rw [HF2.out, ← this]
            simp only
            by_cases h5 : last < xn
            · rw [decide_eq_false (show ¬ xn ≤ n from fun h => hno ⟨h5, h⟩)]; simp
            · rw [decide_eq_false h5]; rfl
          have HYes : Hid (last < xn ∧ xn ≤ n → rise n xn (l.drop (k + 1)) = rise n 0 l) := by
            show _ → _
            intro hy
            have := HR.out
            rw [HD.out, rise] at this
            simp only at this
            rw [decide_eq_true hy.1, decide_eq_true hy.2] at this
            simpa using this
          cases k with
          | zero =>
            simp only [Nat.zero_mul, Nat.add_zero] at x1
            have hl0 := HZ.out rfl
            by_cases h1 : xn < 1
            · have HE := Lib.hid (HNo.out (by omega))
              go_wp2
              go_ret
              exact ⟨by rw [HE.out]; rfl, HB.out⟩
            · by_cases h2 : n < xn
              · have HE := Lib.hid (HNo.out (by omega))
                go_wp2
                go_ret
                exact ⟨by rw [HE.out]; rfl, HB.out⟩
              · have HE := Lib.hid (HYes.out (by omega))
                have H1 := Lib.hid (show 0 ≤ xn by omega)
                go_wp2
                go_roundw
                case rel => exact ⟨1, xn, by omega, rfl, HE.out, ⟨fun h => by omega, fun m hm => (by have hm0 : m = 0 := (by omega); rw [hm0, HQ.out]; rfl), H1.out⟩, by trivial⟩
                case measure => simp [intOf]; omega
          | succ m =>
            have hcm := HC.out m (by omega)
            have hpm := HPv.out m rfl
            obtain ⟨y1, y2, y3, y4⟩ := fcells_at hcm
            obtain ⟨y, hy⟩ : ∃ y, l[m]'(by omega) = y := ⟨_, rfl⟩
            have hyl : y.num = last := by
              have : l[m]? = some (l[m]'(by omega)) := by simp [show m < l.length by omega]
              rw [this, hy] at hpm
              simpa using hpm
            rw [hy, hyl] at y1
            have hge := HGe.out
            have hwp : IntKind.i64.wrap (m : Int) = (m : Int) := by rw [IntKind.wrap_i64]; omega
            have hm0 : (0 : Int) ≤ m := by omega
            have hm1 : (m : Int) < l.length := by omega
            clear hcm hpm y2 y3 y4 hy hyl
            by_cases h1 : xn < 1
            · have HE := Lib.hid (HNo.out (by omega))
              go_wp2
              go_ret
              exact ⟨by rw [HE.out]; rfl, HB.out⟩
            · by_cases h2 : n < xn
              · have HE := Lib.hid (HNo.out (by omega))
                go_wp2
                go_ret
                exact ⟨by rw [HE.out]; rfl, HB.out⟩
              · by_cases h3 : xn ≤ last
                · have HE := Lib.hid (HNo.out (by omega))
                  go_wp2
                  go_ret
                  exact ⟨by rw [HE.out]; rfl, HB.out⟩
                · have HE := Lib.hid (HYes.out (by omega))
                  have H1 := Lib.hid (show 0 ≤ xn by omega)
                  go_wp2
                  go_roundw
                  case rel => exact ⟨m + 1 + 1, xn, by omega, by go_num, HE.out, ⟨fun h => by omega, fun m' hm => (by have hm0 : m' = m + 1 := (by omega); rw [hm0, HQ.out]; rfl), H1.out⟩, by trivial⟩
                  case measure => simp [intOf]; omega
        · obtain rfl : k = L1 := by omega
          have HRt : Hid (rise n 0 l = true) := by
            show _ = _
            have := HR.out
            rw [← HL1.out, List.drop_length] at this
            rw [← this]; rfl
          clear hlt hk
          go_wp2
          clear e1 e2 e3
          go_loopw [5] (fun i wr => ∃ (k : Nat), k ≤ L2 ∧ i = .int .i64 k ∧ wrise (if k = 0 then none else c[k - 1]?) (c.drop k) = wrise none c ∧ Below W.heap.size W wr) (fun i _ => L2 - (intOf i).toNat)
          case atStart => exact ⟨0, by omega, rfl, rfl, Below.refl _ _⟩
          case round =>
            obtain ⟨k, hk, rfl, hr, hb⟩ := hrel
            have HW := Lib.hid hb; have HR := Lib.hid hr
            have HBw := Lib.hid (HB.out.trans (hb.mono HB.out.size))
            clear hb hr
            obtain ⟨e1, e2, e3⟩ := (HX.out.keep HW.out).cells
            clear e1 e2
            by_cases hlt : k < L2
            · have hlt' : (k : Int) < L2 := by omega
              have hk0 : (0 : Int) ≤ k := by omega
              have hi : k < c.length := by rw [HL2.out]; exact hlt
              have hs2 := HS2.out.keep HW.out
              rw [← HL2.out] at hs2
              obtain ⟨_, a', cap', he, -, hcell⟩ := hs2
              cases he
              obtain ⟨b, off, rfl, hbl, hcell⟩ := hcell (by omega)
              have HC := Lib.hid hcell
              obtain ⟨x1, x2⟩ := wcells_at (hcell k hi)
              clear hcell
              have hd : c.drop k = c[k] :: c.drop (k + 1) := List.drop_eq_getElem_cons hi
              have hq : c[k]? = some c[k] := by simp [hi]
              obtain ⟨x, hx⟩ : ∃ x, c[k] = x := ⟨_, rfl⟩
              rw [hx] at x1 x2 hd hq
              obtain ⟨p, q⟩ := x
              simp only at x1 x2
              have HD := Lib.hid hd; have HQ := Lib.hid hq
              clear hd hx hq hbl hcell
              by_cases h1 : p = q
              · have hR : wrise none c = false := by
                  have := HR.out
                  rw [HD.out, wrise_cons] at this
                  rw [← this]; simp [h1]
                have HRf := Lib.hid hR
                subst h1
                clear hR
                go_upto_region 12 with fail
                go_big_region_o
                have HBd := Lib.hid (HBw.out.drewN' 1)
                clear x1 x2 e3
                go_wp2
                go_ret
                exact ⟨by rw [HF2.out, HRt.out, HRf.out]; rfl, HBd.out⟩
              · have hpq : True → (p == q) = false := fun _ => by simp [h1]
                have H1 := Lib.hid h1
                clear h1
                cases k with
                | zero =>
                  have hR : wrise none c = wrise (some (p, q)) (c.drop 1) := by
                    have := HR.out
                    rw [HD.out, wrise_cons] at this
                    rw [← this]; simp [H1.out]
                  have HRn := Lib.hid hR
                  clear hR
                  simp only [Nat.zero_mul, Nat.add_zero] at x1 x2
                  go_upto_region 12 with fail
                  go_big_region_o
                  have HBd := Lib.hid (HW.out.drewN' 1)
                  clear x1 x2 e3
                  go_wp2
                  go_roundw
                  case rel => exact ⟨1, by omega, rfl, by rw [HRn.out, if_neg (by omega)]; simp only [Nat.sub_self]; rw [HQ.out], HBd.out⟩
                  case measure => simp [intOf]; omega
                | succ m =>
                  have hcm := HC.out m (by omega)
                  have hqm : c[m]? = some c[m] := by simp [show m < c.length by omega]
                  obtain ⟨y1, y2⟩ := wcells_at hcm
                  obtain ⟨y, hy⟩ : ∃ y, c[m]'(by omega) = y := ⟨_, rfl⟩
                  rw [hy] at y1 y2 hqm
                  obtain ⟨p2, q2⟩ := y
                  simp only at y1 y2
                  have hR : (ltW (p2, q2) (p, q) && wrise (some (p, q)) (c.drop (m + 1 + 1))) = wrise none c := by
                    have := HR.out
                    rw [HD.out, wrise_cons, if_neg (by omega), show m + 1 - 1 = m by omega, hqm] at this
                    rw [← this]; simp [H1.out]
                  have HRn := Lib.hid hR
                  clear hR hcm hqm hy
                  have hwp : IntKind.i64.wrap (m : Int) = (m : Int) := by rw [IntKind.wrap_i64]; omega
                  have hm0 : (0 : Int) ≤ m := by omega
                  have hm1 : (m : Int) < L2 := by omega
                  have hm2 : (m : Int) + 1 < L2 := by omega
                  have hm3 : (0 : Int) ≤ (m : Int) + 1 := by omega
                  go_upto_region 12 with fail
                  have hbl := cell_lt x1
                  have hNl := cell_lt e3
                  have b1 := cell_grown (a := ⟨b, off + (m + 1) * 2, none⟩) hbl x1
                  have b2 := cell_grown (a := ⟨b, off + (m + 1) * 2 + 1, none⟩) hbl x2
                  have b3 := cell_grown (a := ⟨b, off + m * 2, none⟩) hbl y1
                  have b4 := cell_grown (a := ⟨b, off + m * 2 + 1, none⟩) hbl y2
                  have b5 := cell_grown (a := ⟨N, 2, none⟩) hNl e3
                  have hord := fun n os => less_any (p2, q2) (p, q) (Sort.grow (wr.drewN n) os)
                  simp only at hord
                  obtain ⟨r, hr⟩ : ∃ r, ltW (p2, q2) (p, q) = r := ⟨_, rfl⟩
                  rw [hr] at hord
                  have HRr := Lib.hid hr
                  clear x1 x2 y1 y2 e3 hr hbl hNl
                  cases r with
                  | true =>
                    go_quiet_grown (first | (go_at_call 26; exact Calls.grown_of (hord _ _)))
                    have HBd := Lib.hid (HW.out.trans ((grow_below (w := wr) ⟨nq, osq, rfl⟩).mono HW.out.size))
                    simp only
                    generalize (Sort.grow (wr.drewN nq) osq) = W2 at HBd ⊢
                    clear b1 b2 b3 b4 b5 hord
                    go_wp2
                    go_roundw
                    case rel =>
                      refine ⟨m + 1 + 1, by omega, by go_num, ?_, HBd.out⟩
                      rw [if_neg (by omega), show m + 1 + 1 - 1 = m + 1 by omega, HQ.out, ← HRn.out, HRr.out, Bool.true_and]
                    case measure => simp [intOf]; omega
                  | false =>
                    go_quiet_grown (first | (go_at_call 26; exact Calls.grown_of (hord _ _)))
                    have HBd := Lib.hid (HBw.out.trans ((grow_below (w := wr) ⟨nq, osq, rfl⟩).mono HBw.out.size))
                    simp only
                    generalize (Sort.grow (wr.drewN nq) osq) = W2 at HBd ⊢
                    clear b1 b2 b3 b4 b5 hord
                    go_wp2
                    go_ret
                    exact ⟨by rw [HF2.out, HRt.out, ← HRn.out, HRr.out]; rfl, HBd.out⟩
            · obtain rfl : k = L2 := by omega
              have hwr : wrise none c = true := by
                have := HR.out
                rw [← HL2.out, List.drop_length] at this
                rw [← this]; rfl
              have HWr := Lib.hid hwr
              clear hwr
              go_wp2
              go_ret
              exact ⟨by rw [HF2.out, HRt.out, HWr.out]; rfl, HBw.out⟩

end Go.Proofs.Ytakgpkjkdlacaaa.flight
