/- The document's journal: the record that stands at a sector. -/
import Derived.Test.YtkhghkklekjdaaaDoorRows
import Derived.Test.YtkhghkklekjdaaaDoorJournalRNum
import Derived.Test.YtkhghkklekjdaaaDoorJournalRMath
import Derived.Test.YtkhghkklekjdaaaDoorJournalText
import Derived.Test.YtkhghkklekjdaaaDoorFrameSum
import Derived.BigQuiet
namespace Go.Proofs.YtkhghkklekjdaaaDoor.journal
open Go.RowKit
open Go.Proofs.YtkhghkklekjdaaaDoor.kit Go.Proofs.YtkhghkklekjdaaaDoor.own Go.Proofs.YtkhghkklekjdaaaDoor.jm Go.Proofs.YtkhghkklekjdaaaDoor.iter
open Go.Proofs.YtkhghkklekjdaaaDoor.fm (crc crc_lt)
open Go.Proofs.YtkhghkklekjdaaaDoor.frame (byte_at rSum_any)
open Go.Proofs.YtkhghkklekjdaaaDoor.sector (Dev RAt RReads look_len strN infoByte conv_sl)
set_option linter.unusedVariables false

/-- The row's sectors. -/
def rowS (m : Dev) (f : Nat) : Nat → List Nat := fun i => sector.look m (f + i)
theorem rowS_ok {m : Dev} (hm : m.Ok) {f n : Nat} (hf : f + n ≤ m.n) : ∀ i, i < n → (rowS m f i).length = 64 ∧ ∀ x ∈ rowS m f i, x < 256 := fun i hi => ⟨look_len hm (by omega), look_lt hm (by omega)⟩
theorem rowS_pcs (m : Dev) (f n : Nat) : pcsOf m f n = (List.range n).map fun i => pcOf (rowS m f i) := rfl
/-- What 'read' gives. -/
def RGot (w : World) (S : Nat → List Nat) (n at_ : Nat) (e : Ending) (w' : World) : Prop :=
  (∃ t b, e = .returned (.tuple #[.string t, .bool b]) ∧ (b = true ↔ foundS S n at_) ∧ (b = true → t = strN (textS S at_))) ∧ Below w.heap.size w w'

theorem got_no {w w' : World} {S : Nat → List Nat} {n at_ : Nat} {t : ByteArray} (hb : Below w.heap.size w w') (h : ¬ foundS S n at_) : RGot w S n at_ (.returned (.tuple #[.string t, .bool false])) w' :=
  ⟨⟨_, _, rfl, ⟨fun h => (by simp at h), fun h2 => absurd h2 h⟩, fun h => (by simp at h)⟩, hb⟩
set_option maxHeartbeats 8000000 in
set_option maxRecDepth 100000 in
theorem read_any (w : World) (Y : Nat → Prop) (K r f n a num : Nat) (bad : Bool) (m : Dev) (hj : RJ w K r f n a num bad) (hr : RAt w Y r m) (hp : m.power = true) (hf : f + n ≤ m.n) (at_ : Nat) (hat : at_ < n) :
    Calls Tryd.prog 39 #[.pointer (some ⟨K, 0, none⟩), .int .i64 (at_ : Int)] w (RGot w (rowS m f) n at_) := by
  obtain ⟨k0, k1, k2, k3, k4, k5⟩ := hj.cells
  have hmn := hr.1.n
  have hSall := rowS_ok hr.1 hf
  obtain ⟨hL, h8⟩ := hSall at_ hat
  have HJ := Lib.hid hj; have HRt := Lib.hid hr; have HSa := Lib.hid hSall; have HF := Lib.hid hf; have HAt := Lib.hid hat; have HPw := Lib.hid hp; have HMn := Lib.hid hmn
  have HR := Lib.hid (rRead_in w.drew Y r m (hr.keep (drewBelow w)) hp (f + at_) (by omega))
  have e1 : IntKind.i64.wrap ((f : Int) + (at_ : Int)) = ((f + at_ : Nat) : Int) := by rw [IntKind.wrap_i64]; omega
  have HE1 := Lib.hid e1
  have hlook : sector.look m (f + at_) = rowS m f at_ := rfl
  rw [hlook] at HR
  obtain ⟨S, hS⟩ : ∃ S, rowS m f = S := ⟨_, rfl⟩
  rw [hS] at HR HSa hL h8 ⊢
  have HSe := Lib.hid hS
  have HL := Lib.hid hL; have H8 := Lib.hid h8
  clear hj hr hp hf hat hmn e1 hL h8 hlook hSall hS
  go_enter Tryd.func39, Tryd.ntmps39
  go_upto_region 1 with fail
  clear k2 k3 k4 k5
  have hlt := cell_lt k0
  go_region_held3 (fun u => u.cell? ⟨K, 0, none⟩ = some (.pointer (some ⟨r, 0, none⟩)) ∧ u.cell? ⟨K, 1, none⟩ = some (.int .i64 (f : Int)))
    (first | exact ⟨k0, k1⟩ | exact ⟨q0, q1⟩)
    (first | (go_at_call 53; rw [HE1.out]; refine HR.out.mono ?_; rintro e w2 ⟨b, o, l, c, rfl, hs, hb, hcl⟩; have q0 := (hb.cell (p := ⟨K, 0, none⟩) hlt).trans k0; have q1 := (hb.cell (p := ⟨K, 1, none⟩) hlt).trans k1; obtain ⟨rfl, hsc⟩ := read_sec hs hcl HL.out; have HS := Lib.hid hsc; have HB := Lib.hid hb; clear hs hb hcl hsc))
  have HBw := Lib.hid (show Below w.heap.size w w2 from (drewBelow w).trans HB.out)
  have c0 := HS.out.2 0 (by omega)
  have hm := byte_at (S at_) H8.out 0
  have hcc := HS.out.1
  rw [Nat.add_zero] at c0
  have h17 : (17 : Int) ≤ (c : Int) := by omega
  have h13 : (13 : Int) ≤ (c : Int) := by omega
  clear k0 k1 q0 q1 HR HE1 HB hlt
  by_cases hy : (S at_).getD 0 0 = 1
  case neg =>
    have HNo : Hid (¬ foundS S n at_) := Lib.hid fun h => hy h.1
    generalize (S at_).getD 0 0 = y at c0 hm hy
    have n1 : ¬ (y : Int) = 1 := by omega
    clear hm hy hcc
    go_wp2
    go_ret2
    exact got_no HBw.out HNo.out
  have HN := Lib.hid (number_any _ _ w2 (HS.out.sub HL.out 9 4 (by omega) (by omega) (c - 9)) (fun x hx => H8.out x (List.mem_of_mem_drop (List.mem_of_mem_take hx))) (by simp; omega))
  have hx := ofLe_lt (((S at_).drop 9).take 4) (fun x hx => H8.out x (List.mem_of_mem_drop (List.mem_of_mem_take hx)))
  rw [show (((S at_).drop 9).take 4).length = 4 by simp [HL.out]] at hx
  have hcs : ofLe (((S at_).drop 9).take 4) = cntS (S at_) := rfl
  rw [hcs] at HN hx
  have HY := Lib.hid hy
  rw [hy] at c0
  obtain ⟨C, hC⟩ : ∃ C, cntS (S at_) = C := ⟨_, rfl⟩
  rw [hC] at HN hx
  have HC := Lib.hid hC
  have HX := Lib.hid (show C < 4294967296 from hx)
  have HI := Lib.hid (show wrap64 (C : Int) = (C : Int) by unfold wrap64; omega)
  clear hx hcs hm hy hC hcc
  go_wp2_with fail
  refine HN.out.mono ?_
  rintro e w' ⟨rfl, rfl⟩
  go_upto_region 5 with fail
  rw [HI.out]
  have hj2 := HJ.out.keep HBw.out
  obtain ⟨-, -, k2, -, -, -⟩ := hj2.cells
  have HJ2 := Lib.hid hj2
  obtain ⟨N, hN⟩ : ∃ N, need C = N := ⟨_, rfl⟩
  have hnl := need_le C
  rw [hN] at hnl
  have HNe : Hid (∀ u, Calls Tryd.prog 29 #[.int .i64 (C : Int)] u fun e w' => e = .returned (.int .i64 (N : Nat)) ∧ u = w') := Lib.hid fun u => by
    have := rNeed_any (C : Int) u (by omega) (by have := HX.out; omega)
    rw [Int.toNat_natCast, hN] at this
    exact this
  have HN1 := Lib.hid (show 1 ≤ N by rw [← hN]; exact need_pos C)
  have HNC := Lib.hid hN
  have e2 : True → wrap64 ((at_ : Int) + (N : Int)) = ((at_ + N : Nat) : Int) := fun _ => by have := HAt.out; have := HF.out; have := HMn.out; have := HX.out; unfold wrap64; omega
  clear hN hnl hj2 h13
  go_quiet ((go_at_call 29; exact Calls.quiet_of_same ((HNe.out _).mono fun _ _ hh => ⟨hh.1, hh.2.symm⟩)))
  have HB2 := Lib.hid (show Below w.heap.size w (w2.drewN nq) from HBw.out.drewN' nq)
  have HSd : Hid (RSec (w2.drewN nq) b o c (S at_)) := HS
  clear HS HBw HJ2 c0 k2
  generalize w2.drewN nq = W2 at HB2 HSd ⊢
  by_cases hlong : n < at_ + N
  · have HNo : Hid (¬ foundS S n at_) := Lib.hid fun h => by
      have := h.2.1
      rw [HC.out, HNC.out] at this
      omega
    have hl2 : (n : Int) < (at_ : Int) + (N : Int) := by omega
    have hl3 : ¬ (at_ : Int) + (N : Int) ≤ (n : Int) := by omega
    clear hlong e2
    go_wp2
    go_ret2
    exact got_no HB2.out HNo.out
  have hl2 : ¬ (n : Int) < (at_ : Int) + (N : Int) := by omega
  have hl3 : (at_ : Int) + (N : Int) ≤ (n : Int) := by omega
  have HLg := Lib.hid (show at_ + N ≤ n by omega)
  clear hlong e2
  have hc17 : ∀ j, j < 47 → W2.cell? ⟨b, o + 17 + j, none⟩ = some (.int .u8 (((S at_).drop 17).getD j 0 : Nat)) := fun j hj => by
    rw [Nat.add_assoc, HSd.out.2 (17 + j) (by omega)]
    simp [List.getD]
  have HC17 := Lib.hid hc17
  have hcne : ¬ c = 17 := by have := HSd.out.1; omega
  clear hc17
  go_wp2_with (at_builtin; refine appN rfl (.tmp 49) (.tmp 51) 22 rfl W2.heap.size 5 .u8 1 Tryd.underlying22 infoByte (.slice none 0 0) [] rfl (OwnI.nil _ _ _ _) b (o + 17) 47 (c - 17) ((S at_).drop 17) (by rw [List.length_drop, HL.out]) rfl HC17.out (by simp [maxLen]) (by simp) (Nat.le_refl _) ?_; intro v3 w3 ho3 hk3)
  have HB3 := Lib.hid hk3.toBelow
  have HO3 := Lib.hid (show OwnI w3 W2.heap.size 5 .u8 v3 ((S at_).drop 17 ++ tailS S at_ 0) from by simpa [tailS] using ho3)
  have HSz := Lib.hid hk3.size
  clear ho3 hk3 hl2 hl3 hcne h17
  go_loopw [9, 10] (fun v i W => ∃ q : Nat, 1 ≤ q ∧ q ≤ N ∧ i = .int .i64 q ∧ OwnI W W2.heap.size 5 .u8 v ((S at_).drop 17 ++ tailS S at_ (q - 1)) ∧ Below W2.heap.size W2 W ∧ ∀ j, j < q - 1 → goodS S at_ j) (fun _ i _ => N - (intOf i).toNat)
  case atStart => exact ⟨1, Nat.le_refl _, HN1.out, rfl, HO3.out, HB3.out, fun j hj => by omega⟩
  case round =>
    obtain ⟨q, hq1, hqN, rfl, ho, hb, hgood⟩ := hrel
    have HO := Lib.hid ho; have HB := Lib.hid hb; have HGd := Lib.hid hgood
    have HBr := Lib.hid (HB2.out.trans (hb.mono HB2.out.size))
    clear ho hb hgood HO3 HB3
    by_cases hlt : q < N
    · have hqI : (q : Int) < (N : Int) := by omega
      have hq0 : (0 : Int) ≤ (q : Int) := by omega
      have hin : at_ + q < n := by have := HLg.out; omega
      have HIn := Lib.hid hin
      obtain ⟨k0, k1, -, -, -, -⟩ := (HJ.out.keep HBr.out).cells
      obtain ⟨hLq, h8q⟩ := HSa.out (at_ + q) hin
      have HLq := Lib.hid hLq; have H8q := Lib.hid h8q
      have HRq := Lib.hid (rRead_in wr.drew Y r m ((HRt.out.keep HBr.out).keep (drewBelow wr)) HPw.out (f + (at_ + q)) (by have := HF.out; omega))
      have hlook : sector.look m (f + (at_ + q)) = S (at_ + q) := by rw [← HSe.out]; rfl
      rw [hlook] at HRq
      have HEq := Lib.hid (show IntKind.i64.wrap (IntKind.i64.wrap ((f : Int) + (at_ : Int)) + (q : Int)) = ((f + (at_ + q) : Nat) : Int) by have := HF.out; have := HMn.out; rw [IntKind.wrap_i64, IntKind.wrap_i64]; omega)
      have HEa := Lib.hid (show wrap64 ((at_ : Int) + (q : Int)) = ((at_ + q : Nat) : Int) by have := HF.out; have := HMn.out; unfold wrap64; omega)
      have HQ1 := Lib.hid (show wrap64 ((q : Int) + 1) = ((q + 1 : Nat) : Int) by have := HF.out; have := HMn.out; unfold wrap64; omega)
      have HQq := Lib.hid hq1
      have hlt0 := cell_lt k0
      clear hLq h8q hlook hin
      go_wp2_with fail
      refine (HNe.out _).mono ?_
      rintro e w' ⟨rfl, rfl⟩
      go_upto_region 12 with fail
      go_region_held3 (fun u => u.cell? ⟨K, 0, none⟩ = some (.pointer (some ⟨r, 0, none⟩)) ∧ u.cell? ⟨K, 1, none⟩ = some (.int .i64 (f : Int)))
        (first | exact ⟨k0, k1⟩ | exact ⟨q0, q1⟩)
        (first | (go_at_call 53; rw [HEq.out]; refine HRq.out.mono ?_; rintro e w4 ⟨b2, o2, l2, c2, rfl, hs2, hb2, hcl2⟩; have q0 := (hb2.cell (p := ⟨K, 0, none⟩) hlt0).trans k0; have q1 := (hb2.cell (p := ⟨K, 1, none⟩) hlt0).trans k1; obtain ⟨rfl, hsc2⟩ := read_sec hs2 hcl2 HLq.out; have HS4 := Lib.hid hsc2; have HB4 := Lib.hid hb2; clear hs2 hb2 hcl2 hsc2))
      have HBs := Lib.hid (show Below wr.heap.size wr w4 from (drewBelow wr).trans HB4.out)
      have HBw4 := Lib.hid (HBr.out.trans (HBs.out.mono HBr.out.size))
      have d0 := HS4.out.2 0 (by omega)
      have hm := byte_at (S (at_ + q)) H8q.out 0
      rw [Nat.add_zero] at d0
      clear k0 k1 q0 q1 HB4 HRq HEq hlt0
      by_cases hy2 : (S (at_ + q)).getD 0 0 = 2
      case neg =>
        have HNo : Hid (¬ foundS S n at_) := Lib.hid fun h => hy2 (by
          have := h.2.2.1 (q - 1) (by rw [HC.out, HNC.out]; omega)
          have h2 := this.1
          rw [show at_ + 1 + (q - 1) = at_ + q by have := HQq.out; omega] at h2
          exact h2)
        generalize (S (at_ + q)).getD 0 0 = y at d0 hm hy2
        have n1 : ¬ (y : Int) = 2 := by omega
        clear hm hy2
        go_wp2
        go_ret2
        exact got_no HBw4.out HNo.out
      have HY2 := Lib.hid hy2
      rw [hy2] at d0
      have HM1 := Lib.hid (num_any w4 Y K r f n a num bad m (HJ.out.keep HBw4.out) (HRt.out.keep HBw4.out) HPw.out HF.out (at_ + q) HIn.out)
      rw [show sector.look m (f + (at_ + q)) = S (at_ + q) by rw [← HSe.out]; rfl] at HM1
      clear hm hy2
      go_wp2_with fail
      rw [HEa.out]
      refine HM1.out.mono ?_
      rintro e w5 ⟨rfl, hb5⟩
      have HB5 := Lib.hid hb5
      have HBw5 := Lib.hid (HBw4.out.trans (hb5.mono HBw4.out.size))
      have HM2 := Lib.hid (num_any w5 Y K r f n a num bad m (HJ.out.keep HBw5.out) (HRt.out.keep HBw5.out) HPw.out HF.out at_ HAt.out)
      rw [show sector.look m (f + at_) = S at_ by rw [← HSe.out]; rfl] at HM2
      obtain ⟨p1, hp1⟩ : ∃ p, (pcOf (S (at_ + q))).num = p := ⟨_, rfl⟩
      obtain ⟨p2, hp2⟩ : ∃ p, (pcOf (S at_)).num = p := ⟨_, rfl⟩
      rw [hp1]
      rw [hp2] at HM2
      have HP1 := Lib.hid hp1; have HP2 := Lib.hid hp2
      clear hb5 hp1 hp2 HM1
      go_wp2_with fail
      refine HM2.out.mono ?_
      rintro e w6 ⟨rfl, hb6⟩
      have HB6 := Lib.hid hb6
      have HBw6 := Lib.hid (HBw5.out.trans (hb6.mono HBw5.out.size))
      have HS6 := Lib.hid ((HS4.out.keep HB5.out).keep HB6.out)
      have HO6 := Lib.hid (((HO.out.below HBs.out).below HB5.out).below HB6.out)
      have HB26 := Lib.hid (HB.out.trans (((HBs.out.trans (HB5.out.mono HBs.out.size)).trans (HB6.out.mono (Nat.le_trans HBs.out.size HB5.out.size))).mono HB.out.size))
      clear hb6 HM2 d0
      by_cases hpp : p1 = p2
      case neg =>
        have HNo : Hid (¬ foundS S n at_) := Lib.hid fun h => hpp (by
          have := h.2.2.1 (q - 1) (by rw [HC.out, HNC.out]; omega)
          have h2 := this.2
          rw [show at_ + 1 + (q - 1) = at_ + q by have := HQq.out; omega, HP1.out, HP2.out] at h2
          exact h2)
        have n1 : ¬ (p1 : Int) = (p2 : Int) := by omega
        clear hpp
        go_wp2
        go_ret2
        exact got_no HBw6.out HNo.out
      subst hpp
      have hc9 : ∀ j, j < 55 → w6.cell? ⟨b2, o2 + 9 + j, none⟩ = some (.int .u8 (((S (at_ + q)).drop 9).getD j 0 : Nat)) := fun j hj => by
        rw [Nat.add_assoc, HS6.out.2 (9 + j) (by omega)]
        simp [List.getD]
      have HC9 := Lib.hid hc9
      have hcne2 : ¬ c2 = 9 := by have := HS6.out.1; omega
      have hc9' : (9 : Int) ≤ (c2 : Int) := by have := HS6.out.1; omega
      have hlen : ((S at_).drop 17 ++ tailS S at_ (q - 1)).length = 47 + 55 * (q - 1) := by
        rw [List.length_append, List.length_drop, HL.out, tailS_len _ (fun i hi => (HSa.out _ (by have := HLg.out; omega)).1)]
      have hq4 : q ≤ 4096 := by have := HIn.out; have := HF.out; have := HMn.out; omega
      have HA1 := Lib.hid (show ((S at_).drop 17 ++ tailS S at_ (q - 1)).length + 55 ≤ maxLen by rw [hlen]; unfold maxLen; omega)
      have HA2 := Lib.hid (show (((S at_).drop 17 ++ tailS S at_ (q - 1)).length + 55) * 1 ≤ 140737488355328 by rw [hlen]; omega)
      have HSz6 := Lib.hid HB26.out.size
      clear hc9 hlen hq4
      go_wp2_with (at_builtin; refine appN rfl (.tmp 94) (.tmp 96) 22 rfl W2.heap.size 5 .u8 1 Tryd.underlying22 infoByte u9 _ rfl HO6.out b2 (o2 + 9) 55 (c2 - 9) ((S (at_ + q)).drop 9) (by rw [List.length_drop, HLq.out]) rfl HC9.out HA1.out HA2.out HSz6.out ?_; intro v7 w7 ho7 hk7)
      have HB7 := Lib.hid (HB26.out.trans hk7.toBelow)
      have HO7 := Lib.hid (show OwnI w7 W2.heap.size 5 .u8 v7 ((S at_).drop 17 ++ tailS S at_ (q + 1 - 1)) by
        rw [show q + 1 - 1 = (q - 1) + 1 by have := HQq.out; omega, tailS_succ, ← List.append_assoc, show at_ + 1 + (q - 1) = at_ + q by have := HQq.out; omega]
        exact ho7)
      have HG7 := Lib.hid (show ∀ j, j < q + 1 - 1 → goodS S at_ j from fun j hj => by
        by_cases hjq : j < q - 1
        · exact HGd.out j hjq
        · have : at_ + 1 + j = at_ + q := by have := HQq.out; omega
          unfold goodS
          rw [this, HP1.out, HP2.out]
          exact ⟨HY2.out, rfl⟩)
      clear ho7 hk7 hcne2 hc9'
      go_wp2_with fail
      rw [HQ1.out]
      go_roundw
      case rel => exact ⟨q + 1, by omega, by omega, rfl, HO7.out, HB7.out, HG7.out⟩
      case measure => simp [intOf]; omega
    · obtain rfl : q = N := by omega
      have hlen : ((S at_).drop 17 ++ tailS S at_ (q - 1)).length = 47 + 55 * (q - 1) := by
        rw [List.length_append, List.length_drop, HL.out, tailS_len _ (fun i hi => (HSa.out _ (by have := HLg.out; omega)).1)]
      have hgeC : C ≤ 47 + 55 * (q - 1) := by have := need_ge C; rw [HNC.out] at this; exact this
      have h8D : ∀ x ∈ (S at_).drop 17 ++ tailS S at_ (q - 1), x < 256 := by
        intro x hx
        rcases List.mem_append.1 hx with hx | hx
        · exact H8.out x (List.mem_of_mem_drop hx)
        · obtain ⟨i, hi, hx⟩ := List.mem_flatMap.1 hx
          have hi := List.mem_range.1 hi
          exact (HSa.out (at_ + 1 + i) (by have := HLg.out; omega)).2 x (List.mem_of_mem_drop hx)
      have hq4 : q ≤ 4096 := by have := HLg.out; have := HF.out; have := HMn.out; omega
      have htx : textS S at_ = ((S at_).drop 17 ++ tailS S at_ (q - 1)).take C := by unfold textS; rw [HC.out, HNC.out]
      have HTx := Lib.hid htx
      obtain ⟨D, hD⟩ : ∃ D, (S at_).drop 17 ++ tailS S at_ (q - 1) = D := ⟨_, rfl⟩
      rw [hD] at HO hlen h8D HTx
      obtain ⟨g, cap, rfl⟩ := sector.own_form HO.out (47 + 55 * (q - 1)) hlen (by omega)
      have hcap := sector.own_cap2 HO.out hlen
      have hDc : ∀ j, j < C → wr.cell? ⟨g, 0 + j, none⟩ = some (.int .u8 ((D.take C).getD j 0 : Nat)) := fun j hj => by
        rw [sector.SlI.cell HO.out.read j (by omega)]
        simp [List.getD, hj]
      have HDc := Lib.hid hDc
      have HSr := Lib.hid (HSd.out.keep HB.out)
      have hc1 : ∀ j, j < 12 → wr.cell? ⟨b, o + 1 + j, none⟩ = some (.int .u8 ((((S at_).drop 1).take 12).getD j 0 : Nat)) := fun j hj => by
        rw [Nat.add_assoc, HSr.out.2 (1 + j) (by omega)]
        simp [List.getD, hj, Nat.add_comm]
      have HC1 := Lib.hid hc1
      have HDl := Lib.hid (show (D.take C).length = C by rw [List.length_take, hlen]; omega)
      have H8D := Lib.hid h8D
      have HHl := Lib.hid (show (((S at_).drop 1).take 12).length = 12 by simp [HL.out])
      have hcne3 : ¬ c = 1 := by have := HSr.out.1; omega
      have hc17 : (17 : Int) ≤ (c : Int) := by have := HSr.out.1; omega
      have hc13 : (13 : Int) ≤ (c : Int) := by have := HSr.out.1; omega
      have hCcap : (C : Int) ≤ (cap : Int) := by omega
      have hC0 : (0 : Int) ≤ (C : Int) := by omega
      have HCs := Lib.hid (show C ≤ 300000 by omega)
      have HGcap := Lib.hid hcap
      have hqq : ¬ (q : Int) < (q : Int) := by omega
      clear hlen hgeC h8D hq4 htx hD hDc hc1 hcap
      go_wp2_with fail
      refine (HNe.out _).mono ?_
      rintro e w' ⟨rfl, rfl⟩
      go_wp2_with (first | (at_builtin; refine appN rfl (.tmp 98) (.tmp 100) 22 rfl wr.heap.size 5 .u8 1 Tryd.underlying22 infoByte (.slice none 0 0) [] rfl (OwnI.nil _ _ _ _) b (o + 1) 12 (c - 1) (((S at_).drop 1).take 12) HHl.out rfl HC1.out (by simp [maxLen]) (by simp) (Nat.le_refl _) ?_; intro v5 w5 ho5 hk5; have HO5 := Lib.hid ho5; have HK5 := Lib.hid hk5; clear ho5 hk5) | (at_builtin; refine appN rfl (.tmp 102) (.tmp 105) 22 rfl wr.heap.size 5 .u8 1 Tryd.underlying22 infoByte _ ([] ++ ((S at_).drop 1).take 12) rfl HO5.out g 0 C cap (D.take C) HDl.out rfl (fun j hj => (HK5.out.toBelow.cell (p := ⟨g, 0 + j, none⟩) (cell_lt (HDc.out j hj))).trans (HDc.out j hj)) (by have := HCs.out; rw [List.nil_append, HHl.out]; unfold maxLen; omega) (by have := HCs.out; rw [List.nil_append, HHl.out]; omega) HK5.out.size ?_; intro v6 w6 ho6 hk6; have HO6 := Lib.hid ho6; have HK6 := Lib.hid (HK5.out.toBelow.trans hk6.toBelow); clear ho6 hk6))
      have hs6 : SlI w6 .u8 (.slice (some ⟨g, 0, none⟩) C cap) (D.take C) := ⟨by rw [HDl.out]; have := HCs.out; omega, some ⟨g, 0, none⟩, cap, by rw [HDl.out], fun h0 => ⟨g, 0, rfl, fun j hj => by
        rw [HDl.out] at hj
        exact (HK6.out.cell (p := ⟨g, 0 + j, none⟩) (cell_lt (HDc.out j hj))).trans (HDc.out j hj)⟩⟩
      have HCv : Hid (∀ k, (convert 22 9 (.slice (some ⟨g, 0, none⟩) C cap)).run Tryd.prog (w6.drewN k) = .ok (.string (strN (D.take C))) (w6.drewN k)) := Lib.hid fun k => conv_sl (w := w6.drewN k) hs6
      have HSm : Hid (∀ k, Calls Tryd.prog 55 #[v6] (w6.drewN k) fun e w' => e = .returned (.int .u32 (crc (((S at_).drop 1).take 12 ++ D.take C))) ∧ w6.drewN k = w') := Lib.hid fun k => by
        have := rSum_any v6 (([] ++ ((S at_).drop 1).take 12) ++ D.take C) (w6.drewN k) HO6.out.read (fun x hx => by
          rw [List.nil_append] at hx
          rcases List.mem_append.1 hx with hx | hx
          · exact H8.out x (List.mem_of_mem_drop (List.mem_of_mem_take hx))
          · exact H8D.out x (List.mem_of_mem_take hx))
        exact this
      have HNm : Hid (∀ k, Calls Tryd.prog 54 #[.slice (some ⟨b, o + 13, none⟩) 4 (c - 13)] (w6.drewN k) fun e w' => e = .returned (.int .u64 (ofLe (((S at_).drop 13).take 4) : Nat)) ∧ w6.drewN k = w') := Lib.hid fun k => by
        have hsr : RSec (w6.drewN k) b o c (S at_) := HSr.out.keep (w' := w6) HK6.out
        exact number_any _ _ (w6.drewN k) (hsr.sub HL.out 13 4 (by omega) (by omega) (c - 13)) (fun x hx => H8.out x (List.mem_of_mem_drop (List.mem_of_mem_take hx))) (by simp; omega)
      have HBf := Lib.hid (HBr.out.trans (HK6.out.mono HBr.out.size))
      have HFo : Hid (foundS S n at_ ↔ crc (((S at_).drop 1).take 12 ++ D.take C) = ofLe (((S at_).drop 13).take 4)) := Lib.hid (by
        unfold foundS
        rw [HC.out, HNC.out, HTx.out]
        exact ⟨fun h => h.2.2.2, fun h => ⟨HY.out, HLg.out, fun i hi => HGd.out i hi, h⟩⟩)
      have hx1 := crc_lt (((S at_).drop 1).take 12 ++ D.take C)
      generalize crc (((S at_).drop 1).take 12 ++ D.take C) = x1 at HSm HFo hx1
      generalize ofLe (((S at_).drop 13).take 4) = x2 at HNm HFo
      have e9 : True → IntKind.u64.wrap (x1 : Int) = (x1 : Int) := fun _ => by rw [IntKind.wrap_u64]; omega
      have hcv := HCv.out
      clear hx1 hs6 hcne3
      go_quiet (first | (go_at_call 55; exact Calls.quiet_of_same ((HSm.out _).mono fun _ _ hh => ⟨hh.1, hh.2.symm⟩)) | (go_at_call 54; exact Calls.quiet_of_same ((HNm.out _).mono fun _ _ hh => ⟨hh.1, hh.2.symm⟩)))
      clear hcv e9
      go_wp2
      go_ret2
      refine ⟨⟨_, _, rfl, ?_, fun _ => by rw [HTx.out]⟩, HBf.out.drewN' nq⟩
      rw [HFo.out]
      simp only [beq_iff_eq]
      omega

end Go.Proofs.YtkhghkklekjdaaaDoor.journal
