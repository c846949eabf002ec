/- FlightKeeps: no frame comes from nowhere. -/
import Derived.Test.YtakgpkjkdlacaaaRows
import Derived.Test.YtakgpkjkdlacaaaFlightAwake
import Derived.Test.YtakgpkjkdlacaaaFlightActs
import Derived.Test.YtakgpkjkdlacaaaFlightGood
import Derived.Test.YtakgpkjkdlacaaaFlightOn
namespace Go.Proofs.Ytakgpkjkdlacaaa.flight
open Go.ChangeShapes Go.WideShapes Go.ChangeAt Go.RowKit
open Go.Proofs.Ytakgpkjkdlacaaa.kit Go.Proofs.Ytakgpkjkdlacaaa.own Go.Proofs.Ytakgpkjkdlacaaa.lift
set_option linter.unusedVariables false

theorem acells_at {w : World} {b o : Nat} {x : ActV} (h : w.rangeAt b o (ac x)) : w.cell? ⟨b, o, none⟩ = some (.int .i64 x.kind) ∧ w.cell? ⟨b, o + 1, none⟩ = some (.int .i64 x.num) ∧ w.cell? ⟨b, o + 2, none⟩ = some (.int .i64 x.src) ∧ w.cell? ⟨b, o + 3, none⟩ = some (.int .i64 x.dst) ∧ w.cell? ⟨b, o + 4, none⟩ = some (.string x.body) ∧ w.cell? ⟨b, o + 5, none⟩ = some (.slice x.va x.vn x.vc) ∧ w.cell? ⟨b, o + 6, none⟩ = some (.slice x.ua x.un x.uc) :=
  ⟨h 0 _ rfl, h 1 _ rfl, h 2 _ rfl, h 3 _ rfl, h 4 _ rfl, h 5 _ rfl, h 6 _ rfl⟩
/-- A box of an act. -/
def ABox (W : World) (R : Nat) (x : ActV) : Prop := W.heap[R]? = some (.cells #[.int .i64 x.kind, .int .i64 x.num, .int .i64 x.src, .int .i64 x.dst, .string x.body, .slice x.va x.vn x.vc, .slice x.ua x.un x.uc] 39 (0, 0))
theorem ABox.keep {W W' : World} {R : Nat} {x : ActV} (h : ABox W R x) (hb : Below W.heap.size W W') : ABox W' R x := (hb.block R (Array.getElem?_eq_some_iff.1 h).1).trans h
theorem ABox.cells {W : World} {R : Nat} {x : ActV} (h : ABox W R x) : W.cell? ⟨R, 0, none⟩ = some (.int .i64 x.kind) ∧ W.cell? ⟨R, 1, none⟩ = some (.int .i64 x.num) ∧ W.cell? ⟨R, 2, none⟩ = some (.int .i64 x.src) ∧ W.cell? ⟨R, 3, none⟩ = some (.int .i64 x.dst) ∧ W.cell? ⟨R, 4, none⟩ = some (.string x.body) := by
  unfold ABox at h
  refine ⟨?_, ?_, ?_, ?_, ?_⟩ <;> simp [World.cell?, h]
/-- What holds at the head of a round. -/
def KeepI (w : World) (L : Nat) (v4 v5 : Value) (wr : World) : Prop := ∃ (k : Nat) (f : Flt) (vl vc : Value), k ≤ L ∧ v5 = .int .i64 k ∧ v4 = .int .i64 ((f.list.length : Nat) : Int) ∧ Good f k ∧ FBox wr w.heap.size f.next vl vc ∧
  Own fc 4 44 wr (w.heap.size + 1) vl f.list ∧ Own wc 2 59 wr (w.heap.size + 1) vc f.cut ∧ Below w.heap.size w wr

theorem neq_frm_self (a b c : Int) (d : ByteArray) (w : World) : (binOp .neq 44 (.agg #[.int .i64 a, .int .i64 b, .int .i64 c, .string d]) (.agg #[.int .i64 a, .int .i64 b, .int .i64 c, .string d])).run Try.prog w = .ok (.bool false) w := by
  go_simp

set_option maxHeartbeats 32000000 in
set_option maxRecDepth 100000 in
theorem walkKeeps (v : Value) (acts : List ActV) (w : World) (h : Sl ac 7 w v acts) (hok : ∀ a ∈ acts, a.Ok) (hn : acts.length * 96 ≤ 140737488355328) :
    Calls Try.prog 5 #[v] w fun e w' => e = .returned (.bool true) ∧ Below w.heap.size w w' := by
  obtain ⟨hl, aa, cap, rfl, -, -⟩ := id h
  have HS := Lib.hid h; have HOk := Lib.hid hok
  obtain ⟨L, hL⟩ : ∃ L, acts.length = L := ⟨_, rfl⟩
  have HL := Lib.hid hL
  rw [hL] at hl HS hn ⊢
  have HLn := Lib.hid hn
  clear h hok hL hn
  have HX0 := Lib.hid (fbox_new w 0 (.slice none 0 0) (.slice none 0 0)); have HB0 := Lib.hid (below_new w (.cells #[.int .i64 0, .slice none 0 0, .slice none 0 0] 25))
  go_enter Try.func5, Try.ntmps5
  go_wp2
  go_loopw [4, 5] (fun v4 v5 wr => KeepI w L v4 v5 wr) (fun _ v5 _ => L - (intOf v5).toNat)
  case atStart => exact ⟨0, ⟨0, [], []⟩, _, _, Nat.zero_le _, rfl, rfl, good_zero, HX0.out, Own.nil _ _ _, Own.nil _ _ _, HB0.out⟩
  case round =>
    obtain ⟨k, f, vl, vc, hk, rfl, rfl, hg, hx, ho1, ho2, hb⟩ := hrel
    obtain ⟨al, cl, rfl⟩ := ho1.slice
    obtain ⟨ax, cx, rfl⟩ := ho2.slice
    have HG := Lib.hid hg; have HB := Lib.hid hb
    have hlen := hg.len
    obtain ⟨N, hN⟩ : ∃ N, w.heap.size = N := ⟨_, rfl⟩
    have HN := Lib.hid hN
    rw [hN] at hx ho1 ho2 ⊢
    clear HX0 HB0
    by_cases hlt : k < L
    · have hlt' : (k : Int) < L := by omega
      have hk0 : (0 : Int) ≤ k := by omega
      have hi : k < acts.length := by rw [HL.out]; exact hlt
      have hs := HS.out.keep HB.out
      obtain ⟨_, a', cap', he, -, hcell⟩ := hs
      obtain ⟨bk, off, hak, hbl, hcell⟩ := hcell (by omega)
      have hao := HOk.out acts[k] (List.getElem_mem hi)
      have hrow := hcell k hi
      have hv : aa = some ⟨bk, off, none⟩ := by cases he; exact hak
      subst hv
      obtain ⟨x, hxk⟩ : ∃ x, acts[k] = x := ⟨_, rfl⟩
      rw [hxk] at hao hrow
      have hn := below_new wr (.cells #[.int .i64 x.kind, .int .i64 x.num, .int .i64 x.src, .int .i64 x.dst, .string x.body, .slice x.va x.vn x.vc, .slice x.ua x.un x.uc] 39)
      have HAb := Lib.hid (show ABox (wr.alloc (.cells #[.int .i64 x.kind, .int .i64 x.num, .int .i64 x.src, .int .i64 x.dst, .string x.body, .slice x.va x.vn x.vc, .slice x.ua x.un x.uc] 39)) wr.heap.size x from alloc_at wr _)
      have HX := Lib.hid (hx.keep hn)
      have HF := Lib.hid (show FlR (wr.alloc (.cells #[.int .i64 x.kind, .int .i64 x.num, .int .i64 x.src, .int .i64 x.dst, .string x.body, .slice x.va x.vn x.vc, .slice x.ua x.un x.uc] 39)) (.agg #[.int .i64 f.next, .slice al f.list.length cl, .slice ax f.cut.length cx]) f from ⟨_, _, rfl, (ho1.below hn).read fc_len, (ho2.below hn).read wc_len⟩)
      have HO1 := Lib.hid (ho1.below hn); have HO2 := Lib.hid (ho2.below hn)
      have HB1 := Lib.hid (HB.out.trans (hn.mono HB.out.size))
      have HNR := Lib.hid (show N < wr.heap.size from hx.lt)
      have HAo := Lib.hid hao
      have HCl := Lib.hid (show (k + 1) * 16 ≤ 140737488355328 by have := HLn.out; omega)
      obtain ⟨c0, c1, c2, c3, c4, c5, c6⟩ := acells_at hrow
      obtain ⟨kd, nm, sr, ds, bo, va, vn, vcp, ua, un, ucp⟩ := x
      simp only at c0 c1 c2 c3 c4 c5 c6
      clear hg hx ho1 ho2 hb hcell hrow hbl hao hxk hn he hak hi hN HB HS
      go_upto_region 7 with fail
      generalize (wr.alloc (.cells #[.int .i64 kd, .int .i64 nm, .int .i64 sr, .int .i64 ds, .string bo, .slice va vn vcp, .slice ua un ucp] 39)) = W at HAb HX HF HO1 HO2 HB1 ⊢
      generalize wr.heap.size = R at HAb HNR ⊢
      clear c0 c1 c2 c3 c4 c5 c6
      have HW1 := Lib.hid (show N + 1 ≤ W.heap.size from HX.out.lt)
      obtain ⟨A, hA⟩ : ∃ A, f.list.length = A := ⟨_, rfl⟩
      have HA := Lib.hid hA
      rw [hA] at HX HF HO1 hlen ⊢
      clear hA
      obtain ⟨b0, b1, b2, b3, b4⟩ := HAb.out.cells
      simp only at b0 b1 b2 b3 b4
      have hl1 : Hid (f.list.length * 40 ≤ 140737488355328) := Lib.hid (by have := HG.out.len; omega)
      have hl2 : Hid (f.cut.length * 16 ≤ 140737488355328) := Lib.hid (by have := HG.out.cl; have := HCl.out; omega)
      by_cases h1 : kd = 1
      · subst h1
        go_upto_region 9 with fail
        obtain ⟨e1, e2, e3⟩ := HX.out.cells
        go_wp2_with fail
        refine (Put_any _ f sr ds bo _ HF.out HG.out.way HAo.out.1 hl1.out hl2.out HG.out.i64).mono ?_
        obtain ⟨hgp, hyes, hno⟩ := good_put HG.out sr ds bo HAo.out.1
        obtain ⟨r, hr⟩ : ∃ r, putE f sr ds bo = r := ⟨_, rfl⟩
        rw [hr] at hgp hyes hno ⊢
        obtain ⟨g, q2, r2⟩ := r
        simp only at hgp hyes hno
        rintro e w2 ⟨vl2, vc2, rfl, ho1, ho2, hb⟩
        simp only at ho1 ho2 ⊢
        have HG9 := Lib.hid (hgp.mono (Nat.le_succ k)); have HYes := Lib.hid hyes; have HNo := Lib.hid hno
        clear hgp hyes hno hr
        obtain ⟨al2, cl2, rfl⟩ := ho1.slice
        obtain ⟨ax2, cx2, rfl⟩ := ho2.slice
        obtain ⟨m2, hm2⟩ : ∃ m, g.list.length = m := ⟨_, rfl⟩
        have HM9 := Lib.hid hm2
        rw [hm2] at ho1 ⊢
        have hn := below_new w2 (.cells #[.int .i64 g.next, .slice al2 m2 cl2, .slice ax2 g.cut.length cx2] 25)
        have hbb := hb.trans (hn.mono hb.size)
        have HX2 := Lib.hid (HX.out.keep hbb); have HAb2 := Lib.hid (HAb.out.keep hbb)
        have HXx := Lib.hid (fbox_new w2 g.next (.slice al2 m2 cl2) (.slice ax2 g.cut.length cx2))
        have HO12 := Lib.hid ((ho1.below hn).mono HW1.out); have HO22 := Lib.hid ((ho2.below hn).mono HW1.out)
        have HB2 := Lib.hid (HB1.out.trans (hbb.mono HB1.out.size))
        clear ho1 ho2 hb hn hbb hm2 e1 e2 e3 b0 b1 b2 b3 b4
        go_upto_region 10 with fail
        generalize w2.alloc (.cells #[.int .i64 g.next, .slice al2 m2 cl2, .slice ax2 g.cut.length cx2] 25) = W2 at HX2 HAb2 HXx HO12 HO22 HB2 ⊢
        generalize w2.heap.size = X at HXx ⊢
        by_cases hr0 : r2 = 0
        · subst hr0
          obtain ⟨hq, hlist, hA6, hnx⟩ := HYes.out rfl
          subst hq
          have hm2 : m2 = A + 1 := by rw [← HM9.out, hlist, List.length_append, HA.out]; rfl
          subst hm2
          have hA6' : A < 65536 := by rw [← HA.out]; exact hA6
          rcases HO12.out.at with ⟨-, h0⟩ | ⟨g2, cap2, hv2, hB2', hat2⟩
          · exfalso; have := HM9.out; rw [h0] at this; simp at this
          obtain ⟨rfl, rfl⟩ : al2 = some ⟨g2, 0, none⟩ ∧ cl2 = cap2 := by rw [HM9.out] at hv2; cases hv2; exact ⟨rfl, rfl⟩
          have hrow := hat2.row fc_len A (by rw [HM9.out]; omega)
          have hlast : g.list[A]'(by rw [HM9.out]; omega) = ⟨f.next + 1, sr, ds, bo⟩ := by
            have h1 : g.list[A]? = some ⟨f.next + 1, sr, ds, bo⟩ := by rw [hlist, List.getElem?_append_right (by rw [HA.out]; exact Nat.le_refl _), HA.out]; simp
            rw [List.getElem?_eq_getElem (by rw [HM9.out]; omega)] at h1
            exact Option.some.inj h1
          rw [hlast] at hrow
          obtain ⟨r0, r1, r2, r3⟩ := fcells_at hrow
          simp only at r0 r1 r2 r3
          have hne := neq_frm_self (f.next + 1) sr ds bo
          have hwn : IntKind.i64.wrap (f.next + 1) = f.next + 1 := by rw [IntKind.wrap_i64]; have := HG.out.n0; omega
          have hwA : IntKind.i64.wrap (A : Int) = (A : Int) := by rw [IntKind.wrap_i64]; omega
          obtain ⟨e1, e2, e3⟩ := HX2.out.cells
          obtain ⟨x1, x2, x3⟩ := HXx.out.cells
          obtain ⟨b0, b1, b2, b3, b4⟩ := HAb2.out.cells
          simp only at b0 b1 b2 b3 b4
          obtain ⟨nx, hnx0⟩ : ∃ n, f.next = n := ⟨_, rfl⟩
          rw [hnx0] at hne hwn e1 r0 HX2 ⊢
          have hA0 : (0 : Int) ≤ (A : Int) := by omega
          have hA1 : (A : Int) < (A : Int) + 1 := by omega
          clear hlist hnx hA6 hrow hlast hv2 hB2' hat2 hnx0 HYes HNo
          go_upto_region 12 with fail
          go_quiet (fail)
          clear e1 e2 e3 x1 x2 x3 b0 b1 b2 b3 b4 r0 r1 r2 r3 hne hwn hwA hA0 hA1
          have hdr := (Below.refl W2.heap.size W2).drewN' nq
          have HX3 := Lib.hid (HX2.out.keep hdr); have HXx3 := Lib.hid (HXx.out.keep hdr); have HO13 := Lib.hid (HO12.out.below hdr); have HO23 := Lib.hid (HO22.out.below hdr); have HB3 := Lib.hid (HB2.out.trans (hdr.mono HB2.out.size))
          clear hdr
          generalize W2.drewN nq = W3 at HX3 HXx3 HO13 HO23 HB3 ⊢
          obtain ⟨al2, hal⟩ : ∃ a, some (⟨g2, 0, none⟩ : Addr) = a := ⟨_, rfl⟩
          rw [hal] at HXx3 HO13 ⊢
          clear hal
          obtain ⟨e1, e2, e3⟩ := HX3.out.cells
          obtain ⟨t1, t2, t3⟩ := HX3.out.thaw
          obtain ⟨x1, x2, x3⟩ := HXx3.out.cells
          go_upto_region 39 with fail
          have HX9 := Lib.hid (HX3.out.set g.next (.slice al2 (A + 1) cl2) (.slice ax2 g.cut.length cx2))
          have HO19 := Lib.hid (HO13.out.set3 (Nat.lt_succ_self N) (.int .i64 g.next) (.slice al2 (A + 1) cl2) (.slice ax2 g.cut.length cx2))
          have HO29 := Lib.hid (HO23.out.set3 (Nat.lt_succ_self N) (.int .i64 g.next) (.slice al2 (A + 1) cl2) (.slice ax2 g.cut.length cx2))
          have HB9 := Lib.hid (below_set3 HB3.out (show w.heap.size ≤ N by rw [HN.out]; exact Nat.le_refl _) (.int .i64 g.next) (.slice al2 (A + 1) cl2) (.slice ax2 g.cut.length cx2))
          clear e1 e2 e3 t1 t2 t3 x1 x2 x3
          generalize (((W3.setCell ⟨N, 0, none⟩ (.int .i64 g.next)).setCell ⟨N, 1, none⟩ (.slice al2 (A + 1) cl2)).setCell ⟨N, 2, none⟩ (.slice ax2 g.cut.length cx2)) = W9 at HX9 HO19 HO29 HB9 ⊢
          have HF9 := Lib.hid (show FlR W9 (.agg #[.int .i64 g.next, .slice al2 (A + 1) cl2, .slice ax2 g.cut.length cx2]) g from ⟨_, _, rfl, HO19.out.read fc_len, HO29.out.read wc_len⟩)
          obtain ⟨e1, e2, e3⟩ := HX9.out.cells
          go_wp2_with fail
          refine (Fit_any _ g _ HF9.out).mono ?_
          rintro e w9 ⟨rfl, hb9⟩
          rw [good_fit HG9.out]
          have HX8 := Lib.hid (HX9.out.keep hb9); have HO18 := Lib.hid (HO19.out.below hb9); have HO28 := Lib.hid (HO29.out.below hb9); have HB8 := Lib.hid (HB9.out.trans (hb9.mono HB9.out.size))
          clear hb9 e1 e2 e3
          go_wp2
          go_roundw
          case rel => exact ⟨k + 1, g, _, _, by omega, by go_num, by rw [HM9.out] <;> first | rfl | go_num, HG9.out, by rw [HN.out]; exact HX8.out, by rw [HN.out]; exact HO18.out, by rw [HN.out]; exact HO28.out, HB8.out⟩
          case measure => simp [intOf]; omega
        · obtain rfl := HNo.out hr0
          obtain rfl : m2 = A := by rw [← HM9.out, HA.out]
          have d0 : True → (r2 == 0) = false := fun _ => by simp [hr0]
          clear HYes HNo hr0
          go_upto_region 14 with fail
          clear d0
          have HX3 := HX2; have HXx3 := HXx; have HO13 := HO12; have HO23 := HO22; have HB3 := HB2
          obtain ⟨W3, hW3⟩ : ∃ W3, W2 = W3 := ⟨_, rfl⟩
          rw [hW3] at HX3 HXx3 HO13 HO23 HB3 ⊢
          clear hW3
          obtain ⟨e1, e2, e3⟩ := HX3.out.cells
          obtain ⟨t1, t2, t3⟩ := HX3.out.thaw
          obtain ⟨x1, x2, x3⟩ := HXx3.out.cells
          go_upto_region 39 with fail
          have HX9 := Lib.hid (HX3.out.set g.next (.slice al2 m2 cl2) (.slice ax2 g.cut.length cx2))
          have HO19 := Lib.hid (HO13.out.set3 (Nat.lt_succ_self N) (.int .i64 g.next) (.slice al2 m2 cl2) (.slice ax2 g.cut.length cx2))
          have HO29 := Lib.hid (HO23.out.set3 (Nat.lt_succ_self N) (.int .i64 g.next) (.slice al2 m2 cl2) (.slice ax2 g.cut.length cx2))
          have HB9 := Lib.hid (below_set3 HB3.out (show w.heap.size ≤ N by rw [HN.out]; exact Nat.le_refl _) (.int .i64 g.next) (.slice al2 m2 cl2) (.slice ax2 g.cut.length cx2))
          clear e1 e2 e3 t1 t2 t3 x1 x2 x3
          generalize (((W3.setCell ⟨N, 0, none⟩ (.int .i64 g.next)).setCell ⟨N, 1, none⟩ (.slice al2 m2 cl2)).setCell ⟨N, 2, none⟩ (.slice ax2 g.cut.length cx2)) = W9 at HX9 HO19 HO29 HB9 ⊢
          have HF9 := Lib.hid (show FlR W9 (.agg #[.int .i64 g.next, .slice al2 m2 cl2, .slice ax2 g.cut.length cx2]) g from ⟨_, _, rfl, HO19.out.read fc_len, HO29.out.read wc_len⟩)
          obtain ⟨e1, e2, e3⟩ := HX9.out.cells
          go_wp2_with fail
          refine (Fit_any _ g _ HF9.out).mono ?_
          rintro e w9 ⟨rfl, hb9⟩
          rw [good_fit HG9.out]
          have HX8 := Lib.hid (HX9.out.keep hb9); have HO18 := Lib.hid (HO19.out.below hb9); have HO28 := Lib.hid (HO29.out.below hb9); have HB8 := Lib.hid (HB9.out.trans (hb9.mono HB9.out.size))
          clear hb9 e1 e2 e3
          go_wp2
          go_roundw
          case rel => exact ⟨k + 1, g, _, _, by omega, by go_num, by rw [HM9.out] <;> first | rfl | go_num, HG9.out, by rw [HN.out]; exact HX8.out, by rw [HN.out]; exact HO18.out, by rw [HN.out]; exact HO28.out, HB8.out⟩
          case measure => simp [intOf]; omega
      by_cases h2 : kd = 2
      · subst h2
        go_upto_region 16 with fail
        obtain ⟨e1, e2, e3⟩ := HX.out.cells
        go_wp2_with fail
        refine (Take_any _ f nm _ HF.out (HG.out.fits (by have := HCl.out; omega))).mono ?_
        obtain ⟨hgp, hyes, hno⟩ := good_take HG.out nm
        obtain ⟨r, hr⟩ : ∃ r, takeE f nm = r := ⟨_, rfl⟩
        rw [hr] at hgp hyes hno ⊢
        obtain ⟨g, ⟨dn, dsr, dds, dbo⟩, r2⟩ := r
        simp only at hgp hyes hno
        rintro e w2 ⟨vl2, vc2, rfl, ho1, ho2, hb⟩
        unfold fval
        simp only at ho1 ho2 ⊢
        have HG9 := Lib.hid (hgp.mono (Nat.le_succ k)); have HG8 := Lib.hid hgp; have HYes := Lib.hid hyes; have HNo := Lib.hid hno
        clear hgp hyes hno hr
        obtain ⟨al2, cl2, rfl⟩ := ho1.slice
        obtain ⟨ax2, cx2, rfl⟩ := ho2.slice
        obtain ⟨m2, hm2⟩ : ∃ m, g.list.length = m := ⟨_, rfl⟩
        have HM9 := Lib.hid hm2
        rw [hm2] at ho1 ⊢
        have hn := below_new w2 (.cells #[.int .i64 g.next, .slice al2 m2 cl2, .slice ax2 g.cut.length cx2] 25)
        have hbb := hb.trans (hn.mono hb.size)
        have HX2 := Lib.hid (HX.out.keep hbb); have HAb2 := Lib.hid (HAb.out.keep hbb)
        have HXx := Lib.hid (fbox_new w2 g.next (.slice al2 m2 cl2) (.slice ax2 g.cut.length cx2))
        have HO12 := Lib.hid ((ho1.below hn).mono HW1.out); have HO22 := Lib.hid ((ho2.below hn).mono HW1.out)
        have HB2 := Lib.hid (HB1.out.trans (hbb.mono HB1.out.size))
        clear ho1 ho2 hb hn hbb hm2 e1 e2 e3 b0 b1 b2 b3 b4
        have hn1 := below_new (w2.alloc (.cells #[.int .i64 g.next, .slice al2 m2 cl2, .slice ax2 g.cut.length cx2] 25)) (.cells #[.int .i64 dn, .int .i64 dsr, .int .i64 dds, .string dbo] 44)
        have HX2 := Lib.hid (HX2.out.keep hn1); have HAb2 := Lib.hid (HAb2.out.keep hn1); have HXx := Lib.hid (HXx.out.keep hn1); have HO12 := Lib.hid (HO12.out.below hn1); have HO22 := Lib.hid (HO22.out.below hn1); have HB2 := Lib.hid (HB2.out.trans (hn1.mono HB2.out.size))
        have HD := Lib.hid (alloc_at (w2.alloc (.cells #[.int .i64 g.next, .slice al2 m2 cl2, .slice ax2 g.cut.length cx2] 25)) (.cells #[.int .i64 dn, .int .i64 dsr, .int .i64 dds, .string dbo] 44))
        simp only [World.size_alloc] at HD
        clear hn1
        go_upto_region 17 with fail
        generalize (w2.alloc (.cells #[.int .i64 g.next, .slice al2 m2 cl2, .slice ax2 g.cut.length cx2] 25)).alloc (.cells #[.int .i64 dn, .int .i64 dsr, .int .i64 dds, .string dbo] 44) = W2 at HX2 HAb2 HXx HO12 HO22 HB2 HD ⊢
        generalize w2.heap.size + 1 = D at HD ⊢
        generalize w2.heap.size = X at HXx ⊢
        by_cases hr0 : r2 = 0
        · subst hr0
          obtain ⟨hdn, hlen1, htk⟩ := HYes.out rfl
          subst hdn
          obtain rfl : A = m2 + 1 := by rw [← HM9.out, ← HA.out]; exact hlen1.symm
          have HTk := Lib.hid htk
          have hM0 : (0 : Int) ≤ (m2 : Int) := by omega
          have hF2 : FlR W2 (.agg #[.int .i64 g.next, .slice al2 m2 cl2, .slice ax2 g.cut.length cx2]) g := ⟨_, _, rfl, HO12.out.read fc_len, HO22.out.read wc_len⟩
          have HF2 := Lib.hid hF2
          clear hlen1 htk hF2 HYes HNo
          go_upto_region 19 with fail
          obtain ⟨x1, x2, x3⟩ := HXx.out.cells
          obtain ⟨b0, b1, b2, b3, b4⟩ := HAb2.out.cells
          simp only at b0 b1 b2 b3 b4
          go_wp2_with fail
          refine (Take_any _ g dn _ HF2.out (HG8.out.fits (by have := HCl.out; omega))).mono ?_
          rw [HTk.out]
          rintro e w4 ⟨vl4, vc4, rfl, ho1, ho2, hb⟩
          unfold fval zeroFr
          simp only
          obtain ⟨al4, cl4, rfl⟩ := ho1.slice
          obtain ⟨ax4, cx4, rfl⟩ := ho2.slice
          have hn3 := below_new w4 (.cells #[.int .i64 g.next, .slice al4 g.list.length cl4, .slice ax4 g.cut.length cx4] 25)
          have hn4 := below_new (w4.alloc (.cells #[.int .i64 g.next, .slice al4 g.list.length cl4, .slice ax4 g.cut.length cx4] 25)) (.cells #[.int .i64 0, .int .i64 0, .int .i64 0, .string { data := #[] }] 44)
          have hbb := (hb.trans (hn3.mono hb.size)).trans (hn4.mono (by have := hb.size; simp; omega))
          have HX3 := Lib.hid (HX2.out.keep hbb); have HAb3 := Lib.hid (HAb2.out.keep hbb); have HXx3 := Lib.hid (HXx.out.keep hbb); have HO13 := Lib.hid (HO12.out.below hbb); have HO23 := Lib.hid (HO22.out.below hbb); have HB3 := Lib.hid (HB2.out.trans (hbb.mono HB2.out.size))
          have HD3 := Lib.hid ((hbb.block _ (Array.getElem?_eq_some_iff.1 HD.out).1).trans HD.out)
          clear ho1 ho2 hb hn3 hn4 hbb x1 x2 x3 b0 b1 b2 b3 b4
          go_upto_region 20 with fail
          generalize (w4.alloc (.cells #[.int .i64 g.next, .slice al4 g.list.length cl4, .slice ax4 g.cut.length cx4] 25)).alloc (.cells #[.int .i64 0, .int .i64 0, .int .i64 0, .string { data := #[] }] 44) = W3 at HX3 HAb3 HXx3 HO13 HO23 HB3 HD3 ⊢
          obtain ⟨b0, b1, b2, b3, b4⟩ := HAb3.out.cells
          simp only at b0 b1 b2 b3 b4
          obtain ⟨d0, d1, d2, d3⟩ := cells_at4 HD3.out
          go_upto_region 22 with fail
          clear b0 b1 b2 b3 b4 d0 d1 d2 d3
          obtain ⟨e1, e2, e3⟩ := HX3.out.cells
          obtain ⟨t1, t2, t3⟩ := HX3.out.thaw
          obtain ⟨x1, x2, x3⟩ := HXx3.out.cells
          go_upto_region 39 with fail
          have HX9 := Lib.hid (HX3.out.set g.next (.slice al2 m2 cl2) (.slice ax2 g.cut.length cx2))
          have HO19 := Lib.hid (HO13.out.set3 (Nat.lt_succ_self N) (.int .i64 g.next) (.slice al2 m2 cl2) (.slice ax2 g.cut.length cx2))
          have HO29 := Lib.hid (HO23.out.set3 (Nat.lt_succ_self N) (.int .i64 g.next) (.slice al2 m2 cl2) (.slice ax2 g.cut.length cx2))
          have HB9 := Lib.hid (below_set3 HB3.out (show w.heap.size ≤ N by rw [HN.out]; exact Nat.le_refl _) (.int .i64 g.next) (.slice al2 m2 cl2) (.slice ax2 g.cut.length cx2))
          clear e1 e2 e3 t1 t2 t3 x1 x2 x3
          generalize (((W3.setCell ⟨N, 0, none⟩ (.int .i64 g.next)).setCell ⟨N, 1, none⟩ (.slice al2 m2 cl2)).setCell ⟨N, 2, none⟩ (.slice ax2 g.cut.length cx2)) = W9 at HX9 HO19 HO29 HB9 ⊢
          have HF9 := Lib.hid (show FlR W9 (.agg #[.int .i64 g.next, .slice al2 m2 cl2, .slice ax2 g.cut.length cx2]) g from ⟨_, _, rfl, HO19.out.read fc_len, HO29.out.read wc_len⟩)
          obtain ⟨e1, e2, e3⟩ := HX9.out.cells
          go_wp2_with fail
          refine (Fit_any _ g _ HF9.out).mono ?_
          rintro e w9 ⟨rfl, hb9⟩
          rw [good_fit HG9.out]
          have HX8 := Lib.hid (HX9.out.keep hb9); have HO18 := Lib.hid (HO19.out.below hb9); have HO28 := Lib.hid (HO29.out.below hb9); have HB8 := Lib.hid (HB9.out.trans (hb9.mono HB9.out.size))
          clear hb9 e1 e2 e3
          go_wp2
          go_roundw
          case rel => exact ⟨k + 1, g, _, _, by omega, by go_num, by rw [HM9.out] <;> first | rfl | go_num, HG9.out, by rw [HN.out]; exact HX8.out, by rw [HN.out]; exact HO18.out, by rw [HN.out]; exact HO28.out, HB8.out⟩
          case measure => simp [intOf]; omega
        · obtain rfl := HNo.out hr0
          obtain rfl : m2 = A := by rw [← HM9.out, HA.out]
          have d0 : True → (r2 == 0) = false := fun _ => by simp [hr0]
          clear HYes HNo hr0
          go_upto_region 22 with fail
          clear d0
          have HX3 := HX2; have HXx3 := HXx; have HO13 := HO12; have HO23 := HO22; have HB3 := HB2
          obtain ⟨W3, hW3⟩ : ∃ W3, W2 = W3 := ⟨_, rfl⟩
          rw [hW3] at HX3 HXx3 HO13 HO23 HB3 ⊢
          clear hW3
          obtain ⟨e1, e2, e3⟩ := HX3.out.cells
          obtain ⟨t1, t2, t3⟩ := HX3.out.thaw
          obtain ⟨x1, x2, x3⟩ := HXx3.out.cells
          go_upto_region 39 with fail
          have HX9 := Lib.hid (HX3.out.set g.next (.slice al2 m2 cl2) (.slice ax2 g.cut.length cx2))
          have HO19 := Lib.hid (HO13.out.set3 (Nat.lt_succ_self N) (.int .i64 g.next) (.slice al2 m2 cl2) (.slice ax2 g.cut.length cx2))
          have HO29 := Lib.hid (HO23.out.set3 (Nat.lt_succ_self N) (.int .i64 g.next) (.slice al2 m2 cl2) (.slice ax2 g.cut.length cx2))
          have HB9 := Lib.hid (below_set3 HB3.out (show w.heap.size ≤ N by rw [HN.out]; exact Nat.le_refl _) (.int .i64 g.next) (.slice al2 m2 cl2) (.slice ax2 g.cut.length cx2))
          clear e1 e2 e3 t1 t2 t3 x1 x2 x3
          generalize (((W3.setCell ⟨N, 0, none⟩ (.int .i64 g.next)).setCell ⟨N, 1, none⟩ (.slice al2 m2 cl2)).setCell ⟨N, 2, none⟩ (.slice ax2 g.cut.length cx2)) = W9 at HX9 HO19 HO29 HB9 ⊢
          have HF9 := Lib.hid (show FlR W9 (.agg #[.int .i64 g.next, .slice al2 m2 cl2, .slice ax2 g.cut.length cx2]) g from ⟨_, _, rfl, HO19.out.read fc_len, HO29.out.read wc_len⟩)
          obtain ⟨e1, e2, e3⟩ := HX9.out.cells
          go_wp2_with fail
          refine (Fit_any _ g _ HF9.out).mono ?_
          rintro e w9 ⟨rfl, hb9⟩
          rw [good_fit HG9.out]
          have HX8 := Lib.hid (HX9.out.keep hb9); have HO18 := Lib.hid (HO19.out.below hb9); have HO28 := Lib.hid (HO29.out.below hb9); have HB8 := Lib.hid (HB9.out.trans (hb9.mono HB9.out.size))
          clear hb9 e1 e2 e3
          go_wp2
          go_roundw
          case rel => exact ⟨k + 1, g, _, _, by omega, by go_num, by rw [HM9.out] <;> first | rfl | go_num, HG9.out, by rw [HN.out]; exact HX8.out, by rw [HN.out]; exact HO18.out, by rw [HN.out]; exact HO28.out, HB8.out⟩
          case measure => simp [intOf]; omega
      by_cases h4 : kd = 4
      · subst h4
        go_upto_region 24 with fail
        obtain ⟨e1, e2, e3⟩ := HX.out.cells
        go_wp2_with fail
        refine (Cut_any _ f sr ds _ HF.out (HG.out.fits (by have := HCl.out; omega)) HAo.out.1 (by have := HG.out.cl; have := HCl.out; omega)).mono ?_
        obtain ⟨hgp, hon⟩ := good_cut HG.out sr ds HAo.out.1
        have hsub : (cutE f sr ds).list.length ≤ f.list.length := List.length_filter_le ..
        obtain ⟨g, hg⟩ : ∃ g, cutE f sr ds = g := ⟨_, rfl⟩
        rintro e w2 ⟨vl2, vc2, he, ho1, ho2, hb⟩
        have he' : e = .returned (.tuple #[.agg #[.int .i64 (cutE f sr ds).next, vl2, vc2], .int .i64 ((f.list.length : Int) - ((cutE f sr ds).list.length : Nat))]) := he
        have ho1 : Own fc 4 44 w2 W.heap.size vl2 (cutE f sr ds).list := ho1
        have ho2 : Own wc 2 59 w2 W.heap.size vc2 (cutE f sr ds).cut := ho2
        rw [hg] at he' ho1 ho2 hgp hon hsub
        subst he'
        have HG9 := Lib.hid hgp; have HOn := Lib.hid hon
        clear hgp hon he hg
        obtain ⟨al2, cl2, rfl⟩ := ho1.slice
        obtain ⟨ax2, cx2, rfl⟩ := ho2.slice
        obtain ⟨m2, hm2⟩ : ∃ m, g.list.length = m := ⟨_, rfl⟩
        have HM9 := Lib.hid hm2
        rw [hm2] at ho1 ⊢
        have hn := below_new w2 (.cells #[.int .i64 g.next, .slice al2 m2 cl2, .slice ax2 g.cut.length cx2] 25)
        have hbb := hb.trans (hn.mono hb.size)
        have HX2 := Lib.hid (HX.out.keep hbb); have HAb2 := Lib.hid (HAb.out.keep hbb)
        have HXx := Lib.hid (fbox_new w2 g.next (.slice al2 m2 cl2) (.slice ax2 g.cut.length cx2))
        have HO12 := Lib.hid ((ho1.below hn).mono HW1.out); have HO22 := Lib.hid ((ho2.below hn).mono HW1.out)
        have HB2 := Lib.hid (HB1.out.trans (hbb.mono HB1.out.size))
        clear ho1 ho2 hb hn hbb hm2 e1 e2 e3 b0 b1 b2 b3 b4
        rw [HA.out]
        have hmA : m2 ≤ A := by rw [← HM9.out, ← HA.out]; exact hsub
        have hq1 : (0 : Int) ≤ (A : Int) - (m2 : Int) := by omega
        have hq2 : (A : Int) - (m2 : Int) ≤ 65536 := by omega
        have hsb : (A : Int) - ((A : Int) - (m2 : Int)) = (m2 : Int) := by omega
        clear hsub
        go_upto_region 25 with fail
        generalize w2.alloc (.cells #[.int .i64 g.next, .slice al2 m2 cl2, .slice ax2 g.cut.length cx2] 25) = W2 at HX2 HAb2 HXx HO12 HO22 HB2 ⊢
        generalize w2.heap.size = X at HXx ⊢
        go_upto_region 26 with fail
        (try rw [hsb])
        clear hsb hq1 hq2 hmA
        by_cases hsd : sr = ds
        · have d0 : True → (sr != ds) = false := fun _ => by simp [hsd]
          obtain ⟨b0, b1, b2, b3, b4⟩ := HAb2.out.cells
          simp only at b0 b1 b2 b3 b4
          clear hsd
          go_upto_region 28 with fail
          clear d0 b0 b1 b2 b3 b4
          have HX3 := HX2; have HXx3 := HXx; have HO13 := HO12; have HO23 := HO22; have HB3 := HB2
          obtain ⟨W3, hW3⟩ : ∃ W3, W2 = W3 := ⟨_, rfl⟩
          rw [hW3] at HX3 HXx3 HO13 HO23 HB3 ⊢
          clear hW3
          obtain ⟨e1, e2, e3⟩ := HX3.out.cells
          obtain ⟨t1, t2, t3⟩ := HX3.out.thaw
          obtain ⟨x1, x2, x3⟩ := HXx3.out.cells
          go_upto_region 39 with fail
          have HX9 := Lib.hid (HX3.out.set g.next (.slice al2 m2 cl2) (.slice ax2 g.cut.length cx2))
          have HO19 := Lib.hid (HO13.out.set3 (Nat.lt_succ_self N) (.int .i64 g.next) (.slice al2 m2 cl2) (.slice ax2 g.cut.length cx2))
          have HO29 := Lib.hid (HO23.out.set3 (Nat.lt_succ_self N) (.int .i64 g.next) (.slice al2 m2 cl2) (.slice ax2 g.cut.length cx2))
          have HB9 := Lib.hid (below_set3 HB3.out (show w.heap.size ≤ N by rw [HN.out]; exact Nat.le_refl _) (.int .i64 g.next) (.slice al2 m2 cl2) (.slice ax2 g.cut.length cx2))
          clear e1 e2 e3 t1 t2 t3 x1 x2 x3
          generalize (((W3.setCell ⟨N, 0, none⟩ (.int .i64 g.next)).setCell ⟨N, 1, none⟩ (.slice al2 m2 cl2)).setCell ⟨N, 2, none⟩ (.slice ax2 g.cut.length cx2)) = W9 at HX9 HO19 HO29 HB9 ⊢
          have HF9 := Lib.hid (show FlR W9 (.agg #[.int .i64 g.next, .slice al2 m2 cl2, .slice ax2 g.cut.length cx2]) g from ⟨_, _, rfl, HO19.out.read fc_len, HO29.out.read wc_len⟩)
          obtain ⟨e1, e2, e3⟩ := HX9.out.cells
          go_wp2_with fail
          refine (Fit_any _ g _ HF9.out).mono ?_
          rintro e w9 ⟨rfl, hb9⟩
          rw [good_fit HG9.out]
          have HX8 := Lib.hid (HX9.out.keep hb9); have HO18 := Lib.hid (HO19.out.below hb9); have HO28 := Lib.hid (HO29.out.below hb9); have HB8 := Lib.hid (HB9.out.trans (hb9.mono HB9.out.size))
          clear hb9 e1 e2 e3
          go_wp2
          go_roundw
          case rel => exact ⟨k + 1, g, _, _, by omega, by go_num, by rw [HM9.out] <;> first | rfl | go_num, HG9.out, by rw [HN.out]; exact HX8.out, by rw [HN.out]; exact HO18.out, by rw [HN.out]; exact HO28.out, HB8.out⟩
          case measure => simp [intOf]; omega
        · have d0 : True → (sr != ds) = true := fun _ => by simp [hsd]
          obtain ⟨b0, b1, b2, b3, b4⟩ := HAb2.out.cells
          simp only at b0 b1 b2 b3 b4
          obtain ⟨x1, x2, x3⟩ := HXx.out.cells
          have HOnE := Lib.hid (HOn.out hsd)
          have HF2 := Lib.hid (show FlR W2 (.agg #[.int .i64 g.next, .slice al2 m2 cl2, .slice ax2 g.cut.length cx2]) g from ⟨_, _, rfl, HO12.out.read fc_len, HO22.out.read wc_len⟩)
          clear hsd
          go_wp2_with fail
          refine (On_any _ g sr ds _ HF2.out HG9.out.ok (by have := HG9.out.len; omega)).mono ?_
          rw [HOnE.out]
          rintro e w4 ⟨v4, rfl, ho4, hb⟩
          obtain ⟨x4, y4, rfl⟩ := ho4.slice
          have HX3 := Lib.hid (HX2.out.keep hb); have HXx3 := Lib.hid (HXx.out.keep hb); have HO13 := Lib.hid (HO12.out.below hb); have HO23 := Lib.hid (HO22.out.below hb); have HB3 := Lib.hid (HB2.out.trans (hb.mono HB2.out.size))
          clear ho4 hb b0 b1 b2 b3 b4 x1 x2 x3
          go_upto_region 28 with fail
          clear d0
          obtain ⟨W3, hW3⟩ : ∃ W3, w4 = W3 := ⟨_, rfl⟩
          rw [hW3] at HX3 HXx3 HO13 HO23 HB3 ⊢
          clear hW3
          obtain ⟨e1, e2, e3⟩ := HX3.out.cells
          obtain ⟨t1, t2, t3⟩ := HX3.out.thaw
          obtain ⟨x1, x2, x3⟩ := HXx3.out.cells
          go_upto_region 39 with fail
          have HX9 := Lib.hid (HX3.out.set g.next (.slice al2 m2 cl2) (.slice ax2 g.cut.length cx2))
          have HO19 := Lib.hid (HO13.out.set3 (Nat.lt_succ_self N) (.int .i64 g.next) (.slice al2 m2 cl2) (.slice ax2 g.cut.length cx2))
          have HO29 := Lib.hid (HO23.out.set3 (Nat.lt_succ_self N) (.int .i64 g.next) (.slice al2 m2 cl2) (.slice ax2 g.cut.length cx2))
          have HB9 := Lib.hid (below_set3 HB3.out (show w.heap.size ≤ N by rw [HN.out]; exact Nat.le_refl _) (.int .i64 g.next) (.slice al2 m2 cl2) (.slice ax2 g.cut.length cx2))
          clear e1 e2 e3 t1 t2 t3 x1 x2 x3
          generalize (((W3.setCell ⟨N, 0, none⟩ (.int .i64 g.next)).setCell ⟨N, 1, none⟩ (.slice al2 m2 cl2)).setCell ⟨N, 2, none⟩ (.slice ax2 g.cut.length cx2)) = W9 at HX9 HO19 HO29 HB9 ⊢
          have HF9 := Lib.hid (show FlR W9 (.agg #[.int .i64 g.next, .slice al2 m2 cl2, .slice ax2 g.cut.length cx2]) g from ⟨_, _, rfl, HO19.out.read fc_len, HO29.out.read wc_len⟩)
          obtain ⟨e1, e2, e3⟩ := HX9.out.cells
          go_wp2_with fail
          refine (Fit_any _ g _ HF9.out).mono ?_
          rintro e w9 ⟨rfl, hb9⟩
          rw [good_fit HG9.out]
          have HX8 := Lib.hid (HX9.out.keep hb9); have HO18 := Lib.hid (HO19.out.below hb9); have HO28 := Lib.hid (HO29.out.below hb9); have HB8 := Lib.hid (HB9.out.trans (hb9.mono HB9.out.size))
          clear hb9 e1 e2 e3
          go_wp2
          go_roundw
          case rel => exact ⟨k + 1, g, _, _, by omega, by go_num, by rw [HM9.out] <;> first | rfl | go_num, HG9.out, by rw [HN.out]; exact HX8.out, by rw [HN.out]; exact HO18.out, by rw [HN.out]; exact HO28.out, HB8.out⟩
          case measure => simp [intOf]; omega
      by_cases h5 : kd = 5
      · subst h5
        go_upto_region 30 with fail
        obtain ⟨e1, e2, e3⟩ := HX.out.cells
        go_wp2_with fail
        refine (Join_any _ f sr ds _ HF.out (HG.out.fits (by have := HCl.out; omega)) HAo.out.1 HG.out.nodup).mono ?_
        have hgp := good_join HG.out (sr, ds)
        have hsame : (joinE f (sr, ds)).list.length = A := HA.out
        obtain ⟨g, hg⟩ : ∃ g, joinE f (sr, ds) = g := ⟨_, rfl⟩
        obtain ⟨bj, hbj⟩ : ∃ b, decide ((sr, ds) ∈ f.cut) = b := ⟨_, rfl⟩
        rw [hg] at hgp hsame ⊢
        rw [hbj]
        rintro e w2 ⟨vl2, vc2, rfl, ho1, ho2, hb⟩
        have HG9 := Lib.hid (hgp.mono (Nat.le_succ k))
        clear hgp hg hbj
        obtain ⟨al2, cl2, rfl⟩ := ho1.slice
        obtain ⟨ax2, cx2, rfl⟩ := ho2.slice
        obtain ⟨m2, hm2⟩ : ∃ m, g.list.length = m := ⟨_, rfl⟩
        have HM9 := Lib.hid hm2
        rw [hm2] at ho1 ⊢
        have hn := below_new w2 (.cells #[.int .i64 g.next, .slice al2 m2 cl2, .slice ax2 g.cut.length cx2] 25)
        have hbb := hb.trans (hn.mono hb.size)
        have HX2 := Lib.hid (HX.out.keep hbb); have HAb2 := Lib.hid (HAb.out.keep hbb)
        have HXx := Lib.hid (fbox_new w2 g.next (.slice al2 m2 cl2) (.slice ax2 g.cut.length cx2))
        have HO12 := Lib.hid ((ho1.below hn).mono HW1.out); have HO22 := Lib.hid ((ho2.below hn).mono HW1.out)
        have HB2 := Lib.hid (HB1.out.trans (hbb.mono HB1.out.size))
        clear ho1 ho2 hb hn hbb hm2 e1 e2 e3 b0 b1 b2 b3 b4
        obtain rfl : m2 = A := by rw [← HM9.out]; exact hsame
        clear hsame
        go_upto_region 31 with fail
        generalize w2.alloc (.cells #[.int .i64 g.next, .slice al2 m2 cl2, .slice ax2 g.cut.length cx2] 25) = W2 at HX2 HAb2 HXx HO12 HO22 HB2 ⊢
        generalize w2.heap.size = X at HXx ⊢
        have HX3 := HX2; have HXx3 := HXx; have HO13 := HO12; have HO23 := HO22; have HB3 := HB2
        obtain ⟨W3, hW3⟩ : ∃ W3, W2 = W3 := ⟨_, rfl⟩
        rw [hW3] at HX3 HXx3 HO13 HO23 HB3 ⊢
        clear hW3
        obtain ⟨e1, e2, e3⟩ := HX3.out.cells
        obtain ⟨t1, t2, t3⟩ := HX3.out.thaw
        obtain ⟨x1, x2, x3⟩ := HXx3.out.cells
        go_upto_region 39 with fail
        have HX9 := Lib.hid (HX3.out.set g.next (.slice al2 m2 cl2) (.slice ax2 g.cut.length cx2))
        have HO19 := Lib.hid (HO13.out.set3 (Nat.lt_succ_self N) (.int .i64 g.next) (.slice al2 m2 cl2) (.slice ax2 g.cut.length cx2))
        have HO29 := Lib.hid (HO23.out.set3 (Nat.lt_succ_self N) (.int .i64 g.next) (.slice al2 m2 cl2) (.slice ax2 g.cut.length cx2))
        have HB9 := Lib.hid (below_set3 HB3.out (show w.heap.size ≤ N by rw [HN.out]; exact Nat.le_refl _) (.int .i64 g.next) (.slice al2 m2 cl2) (.slice ax2 g.cut.length cx2))
        clear e1 e2 e3 t1 t2 t3 x1 x2 x3
        generalize (((W3.setCell ⟨N, 0, none⟩ (.int .i64 g.next)).setCell ⟨N, 1, none⟩ (.slice al2 m2 cl2)).setCell ⟨N, 2, none⟩ (.slice ax2 g.cut.length cx2)) = W9 at HX9 HO19 HO29 HB9 ⊢
        have HF9 := Lib.hid (show FlR W9 (.agg #[.int .i64 g.next, .slice al2 m2 cl2, .slice ax2 g.cut.length cx2]) g from ⟨_, _, rfl, HO19.out.read fc_len, HO29.out.read wc_len⟩)
        obtain ⟨e1, e2, e3⟩ := HX9.out.cells
        go_wp2_with fail
        refine (Fit_any _ g _ HF9.out).mono ?_
        rintro e w9 ⟨rfl, hb9⟩
        rw [good_fit HG9.out]
        have HX8 := Lib.hid (HX9.out.keep hb9); have HO18 := Lib.hid (HO19.out.below hb9); have HO28 := Lib.hid (HO29.out.below hb9); have HB8 := Lib.hid (HB9.out.trans (hb9.mono HB9.out.size))
        clear hb9 e1 e2 e3
        go_wp2
        go_roundw
        case rel => exact ⟨k + 1, g, _, _, by omega, by go_num, by rw [HM9.out] <;> first | rfl | go_num, HG9.out, by rw [HN.out]; exact HX8.out, by rw [HN.out]; exact HO18.out, by rw [HN.out]; exact HO28.out, HB8.out⟩
        case measure => simp [intOf]; omega
      by_cases h6 : kd = 6
      · subst h6
        go_upto_region 33 with fail
        obtain ⟨e1, e2, e3⟩ := HX.out.cells
        go_wp2_with fail
        refine (Lose_any _ f ds _ HF.out (HG.out.fits (by have := HCl.out; omega))).mono ?_
        obtain ⟨hgp, hold⟩ := good_lose HG.out ds
        have hsub : (loseE f ds).list.length ≤ f.list.length := List.length_filter_le ..
        obtain ⟨g, hg⟩ : ∃ g, loseE f ds = g := ⟨_, rfl⟩
        rintro e w2 ⟨vl2, vc2, he, ho1, ho2, hb⟩
        have he' : e = .returned (.tuple #[.agg #[.int .i64 (loseE f ds).next, vl2, vc2], .int .i64 ((f.list.length : Int) - ((loseE f ds).list.length : Nat))]) := he
        have ho1 : Own fc 4 44 w2 W.heap.size vl2 (loseE f ds).list := ho1
        have ho2 : Own wc 2 59 w2 W.heap.size vc2 (loseE f ds).cut := ho2
        rw [hg] at he' ho1 ho2 hgp hold hsub
        subst he'
        have HG9 := Lib.hid (hgp.mono (Nat.le_succ k)); have HOld := Lib.hid hold
        clear hgp hold he hg
        obtain ⟨al2, cl2, rfl⟩ := ho1.slice
        obtain ⟨ax2, cx2, rfl⟩ := ho2.slice
        obtain ⟨m2, hm2⟩ : ∃ m, g.list.length = m := ⟨_, rfl⟩
        have HM9 := Lib.hid hm2
        rw [hm2] at ho1 ⊢
        have hn := below_new w2 (.cells #[.int .i64 g.next, .slice al2 m2 cl2, .slice ax2 g.cut.length cx2] 25)
        have hbb := hb.trans (hn.mono hb.size)
        have HX2 := Lib.hid (HX.out.keep hbb); have HAb2 := Lib.hid (HAb.out.keep hbb)
        have HXx := Lib.hid (fbox_new w2 g.next (.slice al2 m2 cl2) (.slice ax2 g.cut.length cx2))
        have HO12 := Lib.hid ((ho1.below hn).mono HW1.out); have HO22 := Lib.hid ((ho2.below hn).mono HW1.out)
        have HB2 := Lib.hid (HB1.out.trans (hbb.mono HB1.out.size))
        clear ho1 ho2 hb hn hbb hm2 e1 e2 e3 b0 b1 b2 b3 b4
        rw [HA.out]
        have hmA : m2 ≤ A := by rw [← HM9.out, ← HA.out]; exact hsub
        have hq1 : (0 : Int) ≤ (A : Int) - (m2 : Int) := by omega
        have hq2 : (A : Int) - (m2 : Int) ≤ 65536 := by omega
        have hsb : (A : Int) - ((A : Int) - (m2 : Int)) = (m2 : Int) := by omega
        clear hsub
        go_upto_region 34 with fail
        generalize w2.alloc (.cells #[.int .i64 g.next, .slice al2 m2 cl2, .slice ax2 g.cut.length cx2] 25) = W2 at HX2 HAb2 HXx HO12 HO22 HB2 ⊢
        generalize w2.heap.size = X at HXx ⊢
        go_upto_region 35 with fail
        (try rw [hsb])
        clear hsb hq1 hq2 hmA
        obtain ⟨b0, b1, b2, b3, b4⟩ := HAb2.out.cells
        simp only at b0 b1 b2 b3 b4
        obtain ⟨x1, x2, x3⟩ := HXx.out.cells
        have HF2 := Lib.hid (show FlR W2 (.agg #[.int .i64 g.next, .slice al2 m2 cl2, .slice ax2 g.cut.length cx2]) g from ⟨_, _, rfl, HO12.out.read fc_len, HO22.out.read wc_len⟩)
        go_wp2_with fail
        refine (Oldest_any _ g ds _ HF2.out HG9.out.ok).mono ?_
        rw [HOld.out]
        rintro e w4 ⟨rfl, hb⟩
        have HX3 := Lib.hid (HX2.out.keep hb); have HXx3 := Lib.hid (HXx.out.keep hb); have HO13 := Lib.hid (HO12.out.below hb); have HO23 := Lib.hid (HO22.out.below hb); have HB3 := Lib.hid (HB2.out.trans (hb.mono HB2.out.size))
        clear hb b0 b1 b2 b3 b4 x1 x2 x3
        go_upto_region 38 with fail
        obtain ⟨W3, hW3⟩ : ∃ W3, w4 = W3 := ⟨_, rfl⟩
        rw [hW3] at HX3 HXx3 HO13 HO23 HB3 ⊢
        clear hW3
        obtain ⟨e1, e2, e3⟩ := HX3.out.cells
        obtain ⟨t1, t2, t3⟩ := HX3.out.thaw
        obtain ⟨x1, x2, x3⟩ := HXx3.out.cells
        go_upto_region 39 with fail
        have HX9 := Lib.hid (HX3.out.set g.next (.slice al2 m2 cl2) (.slice ax2 g.cut.length cx2))
        have HO19 := Lib.hid (HO13.out.set3 (Nat.lt_succ_self N) (.int .i64 g.next) (.slice al2 m2 cl2) (.slice ax2 g.cut.length cx2))
        have HO29 := Lib.hid (HO23.out.set3 (Nat.lt_succ_self N) (.int .i64 g.next) (.slice al2 m2 cl2) (.slice ax2 g.cut.length cx2))
        have HB9 := Lib.hid (below_set3 HB3.out (show w.heap.size ≤ N by rw [HN.out]; exact Nat.le_refl _) (.int .i64 g.next) (.slice al2 m2 cl2) (.slice ax2 g.cut.length cx2))
        clear e1 e2 e3 t1 t2 t3 x1 x2 x3
        generalize (((W3.setCell ⟨N, 0, none⟩ (.int .i64 g.next)).setCell ⟨N, 1, none⟩ (.slice al2 m2 cl2)).setCell ⟨N, 2, none⟩ (.slice ax2 g.cut.length cx2)) = W9 at HX9 HO19 HO29 HB9 ⊢
        have HF9 := Lib.hid (show FlR W9 (.agg #[.int .i64 g.next, .slice al2 m2 cl2, .slice ax2 g.cut.length cx2]) g from ⟨_, _, rfl, HO19.out.read fc_len, HO29.out.read wc_len⟩)
        obtain ⟨e1, e2, e3⟩ := HX9.out.cells
        go_wp2_with fail
        refine (Fit_any _ g _ HF9.out).mono ?_
        rintro e w9 ⟨rfl, hb9⟩
        rw [good_fit HG9.out]
        have HX8 := Lib.hid (HX9.out.keep hb9); have HO18 := Lib.hid (HO19.out.below hb9); have HO28 := Lib.hid (HO29.out.below hb9); have HB8 := Lib.hid (HB9.out.trans (hb9.mono HB9.out.size))
        clear hb9 e1 e2 e3
        go_wp2
        go_roundw
        case rel => exact ⟨k + 1, g, _, _, by omega, by go_num, by rw [HM9.out] <;> first | rfl | go_num, HG9.out, by rw [HN.out]; exact HX8.out, by rw [HN.out]; exact HO18.out, by rw [HN.out]; exact HO28.out, HB8.out⟩
        case measure => simp [intOf]; omega
      have d1 : True → (kd == 1) = false := fun _ => by simp [h1]
      have d2 : True → (kd == 2) = false := fun _ => by simp [h2]
      have d4 : True → (kd == 4) = false := fun _ => by simp [h4]
      have d5 : True → (kd == 5) = false := fun _ => by simp [h5]
      have d6 : True → (kd == 6) = false := fun _ => by simp [h6]
      clear h1 h2 h4 h5 h6
      go_upto_region 39 with fail
      clear d1 d2 d4 d5 d6 b0 b1 b2 b3 b4
      have HX9 := HX; have HO19 := HO1; have HO29 := HO2; have HB9 := HB1; have HF9 := HF; have HM9 := HA
      have HG9 := Lib.hid (HG.out.mono (Nat.le_succ k))
      obtain ⟨e1, e2, e3⟩ := HX9.out.cells
      go_wp2_with fail
      refine (Fit_any _ f _ HF9.out).mono ?_
      rintro e w9 ⟨rfl, hb9⟩
      rw [good_fit HG9.out]
      have HX8 := Lib.hid (HX9.out.keep hb9); have HO18 := Lib.hid (HO19.out.below hb9); have HO28 := Lib.hid (HO29.out.below hb9); have HB8 := Lib.hid (HB9.out.trans (hb9.mono HB9.out.size))
      clear hb9 e1 e2 e3
      go_wp2
      go_roundw
      case rel => exact ⟨k + 1, f, _, _, by omega, by go_num, by rw [HM9.out] <;> first | rfl | go_num, HG9.out, by rw [HN.out]; exact HX8.out, by rw [HN.out]; exact HO18.out, by rw [HN.out]; exact HO28.out, HB8.out⟩
      case measure => simp [intOf]; omega
    · obtain rfl : k = L := by omega
      have HB9 := Lib.hid hb
      clear hx ho1 ho2 hb hg
      go_wp2_with fail
      refine (awake_any _).mono ?_
      rintro e w9 ⟨rfl, hb9⟩
      have HB8 := Lib.hid (HB9.out.trans (hb9.mono HB9.out.size))
      clear hb9
      go_wp2
      go_ret
      exact ⟨rfl, HB8.out⟩

set_option maxRecDepth 100000 in
theorem liftedKeeps (os : Os) (started : os.Started) (H : Type) (enc : TypeId × Value → H) :
    ReturnsInHanded {} Try.checked os 5 .any (Rows.flightKeepsSpec.pre6 enc Try.prog Try.f5 Rows.flightKeepsRow.domain false) (Rows.flightKeepsSpec.post enc Try.prog Try.f5 false true false false) := by
  refine lift.law (C := Try.checked) ownKn started (by kernel_rfl) Try.func5
    (ChangeSpec.witness6 (enc := enc) (C := Try.checked) false ⟨#[], #[.slice none 0 0], []⟩ 8 (by kernel_rfl) (by kernel_rfl) (by kernel_rfl) (by kernel_rfl)) laidOut (by kernel_rfl) 4 Try.underlying4 (by kernel_rfl) rfl ?_ ?_
  · intro ds hd
    match ds, hd with
    | [_], _ => rfl
  · intro W base args ds ps hg
    have hA : DataW.TrodAll enc Try.prog W 0 (fun _ => true) true Try.f5.params.toList args.toList ds ps := hg.read
    have hval : ∀ (j : Nat) t v, Try.f5.params[j]? = some t → args[j]? = some v → Value.okWide Try.prog W .any base t v := hg.ok
    have hz : (DataW.weightsEach Try.prog Try.f5.params.toList ds).all (· ≤ reachBytes) = true := hg.sized
    rw [Try.params5] at hA hval hz
    obtain ⟨v0, vs0, d0, ds0, p0, q0, hargs, rfl, rfl, h0, r0⟩ := trodAll_cons hA
    obtain ⟨rfl, rfl, rfl⟩ := trodAll_nil r0
    obtain rfl : args = #[v0] := by cases args; simp_all
    obtain ⟨acts, hs, hok, hl⟩ := acts_open (hval 0 36 v0 rfl rfl) h0 (weight hz (j := 0) rfl rfl)
    exact walkKeeps v0 acts W hs hok hl

theorem keeps_holds : Rows.FlightKeepsSaid :=
  OpenClaim.holds_of_wide 5 Try.f5 rfl rfl rfl rfl rfl rfl rfl ⟨rfl, rfl, rfl, rfl, rfl⟩ rfl rfl rfl rfl rfl (by kernel_rfl) Try.func5 (by kernel_rfl)
    (of_decide_eq_true (by kernel_rfl)) (by unfold Func.isWrapper; first | (rw [if_pos (by decide +kernel)]; kernel_rfl) | (rw [if_neg (by decide +kernel)]; exact ⟨rfl, rfl⟩))
    (fun os started H enc _ => liftedKeeps os started H enc)

#print axioms keeps_holds
end Go.Proofs.Ytakgpkjkdlacaaa.flight
