/- The walk of the document's Open. -/
import Derived.Test.YtkjenddmkmlbeaaDoorRows
import Derived.Test.YtkjenddmkmlbeaaDoorFrameRead
namespace Go.Proofs.YtkjenddmkmlbeaaDoor.frame
open Go.RowKit
open Go.Proofs.YtkjenddmkmlbeaaDoor.kit Go.Proofs.YtkjenddmkmlbeaaDoor.own Go.Proofs.YtkjenddmkmlbeaaDoor.fm
set_option linter.unusedVariables false

theorem ofInt_i64 (a : Nat) (ha : a < 9223372036854775808) : (BitVec.ofInt 64 (a : Int)).toNat = a := by
  rw [BitVec.ofInt_natCast, BitVec.toNat_ofNat]; exact Nat.mod_eq_of_lt (by omega)
theorem i64_or_nat (a b : Nat) (ha : a < 9223372036854775808) (hb : b < 9223372036854775808) : bits .or .i64 (a : Int) (b : Int) = ((a ||| b : Nat) : Int) := by
  have hx : a ||| b < 2 ^ 63 := Nat.or_lt_two_pow (by omega) (by omega)
  show IntKind.i64.wrap ((BitVec.ofInt 64 (a : Int) ||| BitVec.ofInt 64 (b : Int)).toNat : Int) = _
  rw [BitVec.toNat_or, ofInt_i64 a ha, ofInt_i64 b hb, IntKind.wrap_i64]
  omega
theorem val4_eq (y0 y1 y2 y3 c : Nat) (h0 : y0 < 256) (h1 : y1 < 256) (h2 : y2 < 256) (h3 : y3 < 256) (hc : c < 4294967296) :
    c = val [y0, y1, y2, y3] ↔ y0 = c % 256 ∧ y1 = c / 256 % 256 ∧ y2 = c / 65536 % 256 ∧ y3 = c / 16777216 % 256 := by
  simp only [val]; omega
theorem or3 (x y z : Nat) (hx : x < 256) (hy : y < 256) (hz : z < 256) : x ||| y * 256 ||| z * 65536 = val [x, y, z] := by
  have h1 := or_add 8 x y (by omega)
  have h2 := or_add 16 (x + y * 256) z (by omega)
  rw [show (2 : Nat) ^ 8 = 256 from rfl] at h1
  rw [show (2 : Nat) ^ 16 = 65536 from rfl] at h2
  rw [h1, h2]; simp [val]; omega
theorem sub3 (l : List Nat) (h : 5 ≤ l.length) : sub l 2 3 = [l.getD 2 0, l.getD 3 0, l.getD 4 0] := by
  match l, h with
  | a :: b :: c :: d :: e :: r, _ => simp [sub, List.getD]
theorem sub4 (l : List Nat) (E : Nat) (h : E + 4 ≤ l.length) : sub l E 4 = [l.getD E 0, l.getD (E + 1) 0, l.getD (E + 2) 0, l.getD (E + 3) 0] := by
  apply List.ext_getElem
  · rw [sub_len l E 4 h]; rfl
  · intro i h1 h2
    have hi : i < 4 := by simpa using h2
    simp only [sub, List.getElem_drop, List.getElem_take]
    match i, hi with
    | 0, _ => simp [List.getD, show E < l.length by omega]
    | 1, _ => simp [List.getD, show E + 1 < l.length by omega]
    | 2, _ => simp [List.getD, show E + 2 < l.length by omega]
    | 3, _ => simp [List.getD, show E + 3 < l.length by omega]

theorem rOpenErr {w : World} {l : List Nat} {er : Int} {n : Nat} (h : openP l = .error er) : OpenP w l (.returned (.tuple #[.int .u8 0, .slice none 0 0, .int .i64 0, .int .i64 er])) (w.drewN n) := by
  unfold OpenP
  rw [h]
  exact ⟨(Below.refl _ _).drewN' _, rfl⟩

set_option maxHeartbeats 8000000 in
set_option maxRecDepth 100000 in
theorem rOpen_any (v : Value) (l : List Nat) (w : World) (hv : Bts w v l) (hlen : l.length ≤ 140737488355328) :
    Calls Tryd.prog 12 #[v] w (OpenP w l) := by
  obtain ⟨hl, a, cap, rfl, hc⟩ := id hv.1
  have HV := Lib.hid hv; have HC := Lib.hid hc
  clear hc hv
  go_enter Tryd.func12, Tryd.ntmps12
  by_cases h1 : l.length < 1
  · have HO := Lib.hid (open_err (show sizeP l = .error 11 by unfold sizeP; rw [if_neg (by omega), if_pos (by omega)]))
    have hI : ¬ (0 : Int) < l.length := by omega
    have hI5 : (l.length : Int) < 5 := by omega
    clear hlen
    generalize l.length = L at hl h1 hI hI5 ⊢
    go_wp2
    exact bodyPost_ret (v := .tuple #[.int .u8 0, .slice none 0 0, .int .i64 0, .int .i64 11]) (by simp [results, Tryd.results12, go_sem]) rfl (rOpenErr (n := 0) HO.out)
  obtain ⟨b, off, rfl, hcell⟩ := HC.out (by omega)
  have hc0 := hcell 0 (by omega)
  rw [Nat.add_zero] at hc0
  have hI : (0 : Int) < l.length := by omega
  by_cases h2 : l.getD 0 0 = 167
  · have hne : (((l.getD 0 0 : Nat) : Int) != 167) = false := by rw [h2]; rfl
    by_cases h3 : l.length < 5
    · have HO := Lib.hid (open_err (show sizeP l = .error 11 by unfold sizeP; rw [if_neg (by omega), if_pos (by omega)]))
      have hI5 : (l.length : Int) < 5 := by omega
      clear hcell h1 h2 HV HC hlen
      generalize l.getD 0 0 = x0 at hc0 hne
      generalize l.length = L at hl hI hI5 h3 ⊢
      go_wp2
      exact bodyPost_ret (v := .tuple #[.int .u8 0, .slice none 0 0, .int .i64 0, .int .i64 11]) (by simp [results, Tryd.results12, go_sem]) rfl (rOpenErr (n := 0) HO.out)
    · have hc2 := hcell 2 (by omega); have hc3 := hcell 3 (by omega); have hc4 := hcell 4 (by omega)
      have h82 := byte_at l HV.out.2.1 2; have h83 := byte_at l HV.out.2.1 3; have h84 := byte_at l HV.out.2.1 4
      have hI5 : (5 : Int) ≤ l.length := by omega
      have hsz : sizeP l = if 1048575 < val (sub l 2 3) then .error 10 else if l.length < val (sub l 2 3) + 9 then .error 11 else .ok (val (sub l 2 3) + 9) := by
        conv => lhs; unfold sizeP
        rw [if_neg (by omega), if_neg (by omega)]
      have hv3 := val3_lt l HV.out.2.1 (by omega)
      have hor : True → bits BinOp.or IntKind.i64 (bits BinOp.or IntKind.i64 ((l.getD 2 0 : Nat) : Int) (((l.getD 3 0 : Nat) : Int) * 256)) (((l.getD 4 0 : Nat) : Int) * 65536) = ((val (sub l 2 3) : Nat) : Int) := fun _ => by
        rw [sub3 l (by omega), ← or3 _ _ _ h82 h83 h84]
        have e1 := i64_or_nat (l.getD 2 0) (l.getD 3 0 * 256) (by omega) (by omega)
        have e2 := i64_or_nat (l.getD 2 0 ||| l.getD 3 0 * 256) (l.getD 4 0 * 65536) (by have := or_add 8 (l.getD 2 0) (l.getD 3 0) (by omega); rw [show (2 : Nat) ^ 8 = 256 from rfl] at this; omega) (by omega)
        rw [← e2, Int.natCast_mul, ← e1, Int.natCast_mul]; rfl
      have HSz := Lib.hid hsz; have HCell := Lib.hid hcell
      clear h1 h2 HC hsz hcell
      generalize hN : val (sub l 2 3) = N at HSz hv3 hor
      clear hN
      generalize l.getD 0 0 = x0 at hc0 hne
      generalize l.getD 2 0 = x2 at hc2 h82 hor
      generalize l.getD 3 0 = x3 at hc3 h83 hor
      generalize l.getD 4 0 = x4 at hc4 h84 hor
      obtain ⟨L, hL⟩ : ∃ L, l.length = L := ⟨_, rfl⟩
      have HL := Lib.hid hL
      rw [hL] at hl hI hI5 h3 hlen HSz ⊢
      clear hL
      go_upto_region 5 with fail
      go_quiet (fail)
      clear hc0 hc2 hc3 hc4 h82 h83 h84 hne
      by_cases h4 : 1048575 < N
      · have HO := Lib.hid (open_err (show sizeP l = .error 10 by rw [HSz.out, if_pos h4]))
        have hI4 : (1048575 : Int) < N := by omega
        clear h4
        go_wp2
        exact bodyPost_ret (v := .tuple #[.int .u8 0, .slice none 0 0, .int .i64 0, .int .i64 10]) (by simp [results, Tryd.results12, go_sem]) rfl (rOpenErr HO.out)
      have hI4 : ¬ (1048575 : Int) < N := by omega
      by_cases h6 : L < N + 9
      · have HO := Lib.hid (open_err (show sizeP l = .error 11 by rw [HSz.out, if_neg h4, if_pos h6]))
        have hI6 : (L : Int) < 5 + (N : Int) + 4 := by omega
        clear h4 h6
        go_wp2
        exact bodyPost_ret (v := .tuple #[.int .u8 0, .slice none 0 0, .int .i64 0, .int .i64 11]) (by simp [results, Tryd.results12, go_sem]) rfl (rOpenErr HO.out)
      have hs : sizeP l = .ok (N + 9) := by rw [HSz.out, if_neg h4, if_neg h6]
      have hE1 : True → (5 : Int) + (N : Int) = ((N + 5 : Nat) : Int) := fun _ => by omega
      have hEL : N + 5 + 4 ≤ L := by omega
      have hcapL : L ≤ cap := by have := HV.out.2.2.2 _ _ _ rfl; have := HL.out; omega
      have HB0 := HV.out.1
      have hsum : Hid (SlI w .u8 (.slice (some ⟨b, off + 1, none⟩) (N + 5 - 1) (cap - 1)) (sub l 1 (N + 9 - 5))) := by
        have := sub_read (lo := 1) (hi := N + 5) (a' := some ⟨b, off + 1, none⟩) (cap' := cap - 1) HV.out.1 (by omega) (by have := HL.out; omega) (fun _ b off e => by cases e; rfl)
        unfold sub
        rw [show 1 + (N + 9 - 5) = N + 5 by omega]
        exact this
      have HS8 := Lib.hid (sub_lt l 1 (N + 9 - 5) HV.out.2.1)
      have HCl := Lib.hid (crc_lt (sub l 1 (N + 9 - 5)))
      have HGood := Lib.hid (open_good hs); have HBadF := Lib.hid (open_bad hs)
      have HB5 := Lib.hid (sub_read (lo := 5) (hi := N + 5) (a' := some ⟨b, off + 5, none⟩) (cap' := cap - 5) HV.out.1 (by omega) (by have := HL.out; omega) (fun _ b off e => by cases e; rfl))
      rw [show N + 9 - 4 = N + 5 by omega, sub4 l (N + 5) (by have := HL.out; omega)] at HGood HBadF
      have HV4 := Lib.hid (val4_eq (l.getD (N + 5) 0) (l.getD (N + 5 + 1) 0) (l.getD (N + 5 + 2) 0) (l.getD (N + 5 + 3) 0) (crc (sub l 1 (N + 9 - 5))) (byte_at l HV.out.2.1 _) (byte_at l HV.out.2.1 _) (byte_at l HV.out.2.1 _) (byte_at l HV.out.2.1 _) HCl.out)
      have k0 := HCell.out (N + 5) (by have := HL.out; omega)
      have k1 := HCell.out (N + 5 + 1) (by have := HL.out; omega)
      have k2 := HCell.out (N + 5 + 2) (by have := HL.out; omega)
      have k3 := HCell.out (N + 5 + 3) (by have := HL.out; omega)
      have hkd := HCell.out 1 (by have := HL.out; omega)
      clear hs hor HSz h4 h6 HB0 HCell
      have HSm : Hid (∀ n, Calls Tryd.prog 10 #[.slice (some ⟨b, off + 1, none⟩) (N + 5 - 1) (cap - 1)] (w.drewN n) fun e w' => e = .returned (.int .u32 (crc (sub l 1 (N + 9 - 5)))) ∧ w.drewN n = w') := fun n => rSum_any _ _ (w.drewN n) hsum.out HS8.out
      generalize crc (sub l 1 (N + 9 - 5)) = c at HSm HCl HGood HBadF HV4
      generalize l.getD (N + 5) 0 = y0 at k0 HV4 HGood HBadF
      generalize l.getD (N + 5 + 1) 0 = y1 at k1 HV4 HGood HBadF
      generalize l.getD (N + 5 + 2) 0 = y2 at k2 HV4 HGood HBadF
      generalize l.getD (N + 5 + 3) 0 = y3 at k3 HV4 HGood HBadF
      generalize l.getD 1 0 = kd at hkd HGood
      clear hsum HS8
      rw [show N + 9 = N + 5 + 4 by omega] at HGood
      have hcp : N + 5 < 4294967296 := by omega
      have h5E : 5 ≤ N + 5 := by omega
      generalize N + 5 = E at *
      clear hv3
      have HBE := Lib.hid HB5.out
      have e0 : True → (c : Int) % 256 = ((c % 256 : Nat) : Int) := fun _ => by omega
      have e1 : True → (c : Int) / 256 % 256 = ((c / 256 % 256 : Nat) : Int) := fun _ => by omega
      have e2 : True → (c : Int) / 65536 % 256 = ((c / 65536 % 256 : Nat) : Int) := fun _ => by omega
      have e3 : True → (c : Int) / 16777216 % 256 = ((c / 16777216 % 256 : Nat) : Int) := fun _ => by omega
      generalize c % 256 = z0 at e0 HV4
      generalize c / 256 % 256 = z1 at e1 HV4
      generalize c / 65536 % 256 = z2 at e2 HV4
      generalize c / 16777216 % 256 = z3 at e3 HV4
      have hc1 : (cap : Int) ≠ 1 := by omega
      have hc5 : (cap : Int) ≠ 5 := by omega
      have hEI : (5 : Int) ≤ E := by omega
      have hELI : (E : Int) + 4 ≤ L := by omega
      have hEcI : (E : Int) ≤ cap := by omega
      clear hcp
      go_upto_region 11 with fail
      go_wp2_with fail
      refine (HSm.out _).mono ?_
      rintro e w' ⟨rfl, rfl⟩
      clear HSm
      by_cases q0 : y0 = z0
      · have n0 : ((y0 : Int) != (z0 : Int)) = false := by rw [q0]; simp
        have Q0 := Lib.hid q0
        clear q0
        by_cases q1 : y1 = z1
        · have n1 : ((y1 : Int) != (z1 : Int)) = false := by rw [q1]; simp
          have Q1 := Lib.hid q1
          clear q1
          by_cases q2 : y2 = z2
          · have n2 : ((y2 : Int) != (z2 : Int)) = false := by rw [q2]; simp
            have Q2 := Lib.hid q2
            clear q2
            by_cases q3 : y3 = z3
            · have n3 : ((y3 : Int) != (z3 : Int)) = false := by rw [q3]; simp
              have Q3 := Lib.hid q3
              clear q3
              have HG := Lib.hid (HGood.out (HV4.out.2 ⟨Q0.out, Q1.out, Q2.out, Q3.out⟩))
              clear HGood HBadF HV4 HB5
              go_upto_region 14 with fail
              clear k0 k1 k2 k3 e0 e1 e2 e3 n0 n1 n2 n3
              have HE1 := Lib.hid (show ((L : Int)) = L from rfl)
              have HSub : Hid (SlI (w.drewN nq) .u8 (.slice (some ⟨b, off + 5, none⟩) (E - 5) (cap - 5)) (sub l 5 (E - 5))) := by
                have := HBE.out
                unfold sub
                rw [show 5 + (E - 5) = E by omega]
                exact this
              have hln : (sub l 5 (E - 5)).length = E - 5 := SlI.len HSub.out
              have HLn := Lib.hid hln
              clear hln HBE
              rw [show E + 4 - 9 = E - 5 by omega] at HG
              go_wp2_with (at_builtin; refine appS rfl (.tmp 91) (.tmp 94) 22 rfl w.heap.size 5 .u8 1 Tryd.underlying22 infoByte _ [] rfl (OwnI.nil _ _ _ _) _ (sub l 5 (E - 5)) rfl HSub.out (fun n c e => by cases e) ?_ ?_ (Nat.le_refl _) ?_)
              case refine_1 => have := HLn.out; simp [maxLen]; omega
              case refine_2 => have := HLn.out; simp; omega
              case refine_3 =>
                intro v' w' ho hk
                have HO : Hid (OwnI w' w.heap.size 5 .u8 v' (sub l 5 (E - 5))) := ho
                have HK := Lib.hid (show Below w.heap.size w w' from ⟨hk.os, hk.tape, hk.output, hk.size, hk.below⟩)
                have hkd' := (HK.out.cell (p := ⟨b, off + 1, none⟩) (cell_lt (a := ⟨b, off + 1, none⟩) hkd)).trans hkd
                clear ho hk
                go_wp2
                refine bodyPost_ret (v := .tuple #[.int .u8 kd, v', .int .i64 ((E + 4 : Nat) : Int), .int .i64 0]) (by simp [results, Tryd.results12, go_sem]) rfl ?_
                unfold OpenP
                rw [HG.out]
                exact ⟨HK.out, v', rfl, HO.out⟩
            · have n3 : ((y3 : Int) != (z3 : Int)) = true := by rw [bne_iff_ne]; omega
              have HB := Lib.hid (HBadF.out (fun e => q3 (HV4.out.1 e).2.2.2))
              clear HGood HBadF HV4 HB5 hkd q3
              go_wp2
              exact bodyPost_ret (v := .tuple #[.int .u8 0, .slice none 0 0, .int .i64 0, .int .i64 12]) (by simp [results, Tryd.results12, go_sem]) rfl (rOpenErr HB.out)
          · have n2 : ((y2 : Int) != (z2 : Int)) = true := by rw [bne_iff_ne]; omega
            have HB := Lib.hid (HBadF.out (fun e => q2 (HV4.out.1 e).2.2.1))
            clear HGood HBadF HV4 HB5 hkd q2
            go_wp2
            exact bodyPost_ret (v := .tuple #[.int .u8 0, .slice none 0 0, .int .i64 0, .int .i64 12]) (by simp [results, Tryd.results12, go_sem]) rfl (rOpenErr HB.out)
        · have n1 : ((y1 : Int) != (z1 : Int)) = true := by rw [bne_iff_ne]; omega
          have HB := Lib.hid (HBadF.out (fun e => q1 (HV4.out.1 e).2.1))
          clear HGood HBadF HV4 HB5 hkd q1
          go_wp2
          exact bodyPost_ret (v := .tuple #[.int .u8 0, .slice none 0 0, .int .i64 0, .int .i64 12]) (by simp [results, Tryd.results12, go_sem]) rfl (rOpenErr HB.out)
      · have n0 : ((y0 : Int) != (z0 : Int)) = true := by rw [bne_iff_ne]; omega
        have HB := Lib.hid (HBadF.out (fun e => q0 (HV4.out.1 e).1))
        clear HGood HBadF HV4 HB5 hkd q0
        go_wp2
        exact bodyPost_ret (v := .tuple #[.int .u8 0, .slice none 0 0, .int .i64 0, .int .i64 12]) (by simp [results, Tryd.results12, go_sem]) rfl (rOpenErr HB.out)
  · have HO := Lib.hid (open_err (show sizeP l = .error 10 by unfold sizeP; rw [if_pos ⟨by omega, h2⟩]))
    have hne : (((l.getD 0 0 : Nat) : Int) != 167) = true := by rw [bne_iff_ne]; omega
    clear hcell h1 h2 HV HC hlen
    generalize l.getD 0 0 = x0 at hc0 hne
    generalize l.length = L at hl hI ⊢
    go_wp2
    exact bodyPost_ret (v := .tuple #[.int .u8 0, .slice none 0 0, .int .i64 0, .int .i64 10]) (by simp [results, Tryd.results12, go_sem]) rfl (rOpenErr (n := 0) HO.out)

end Go.Proofs.YtkjenddmkmlbeaaDoor.frame
