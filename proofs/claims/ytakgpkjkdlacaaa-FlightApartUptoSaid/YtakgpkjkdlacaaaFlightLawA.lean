/- FlightApart: between two sets that were kept apart no frame goes, and all other frames stay. -/
import Derived.Test.YtakgpkjkdlacaaaRows
import Derived.Test.YtakgpkjkdlacaaaFlightLawF
import Derived.Test.YtakgpkjkdlacaaaFlightApartM
import Derived.Test.YtakgpkjkdlacaaaFlightUpto
namespace Go.Proofs.Ytakgpkjkdlacaaa.flight
open Go.ChangeShapes Go.WideShapes Go.ChangeAt Go.RowKit
open Go.Proofs.Ytakgpkjkdlacaaa.kit Go.Proofs.Ytakgpkjkdlacaaa.own Go.Proofs.Ytakgpkjkdlacaaa.lift
set_option linter.unusedVariables false

theorem idx_of (i : Int) (n : Nat) (hn : 0 < n) (hl : n ≤ 1048576) : ∃ j : Nat, j < n ∧ wrap64 ((IntKind.u64.wrap i).tmod (n : Int)) = (j : Int) := by
  have h0 : 0 ≤ IntKind.u64.wrap i := by
    unfold IntKind.wrap
    simp [IntKind.signed, IntKind.bits]
    omega
  rw [Int.tmod_eq_emod_of_nonneg h0]
  have h1 := Int.emod_nonneg (IntKind.u64.wrap i) (show (n : Int) ≠ 0 by omega)
  have h2 := Int.emod_lt_of_pos (IntKind.u64.wrap i) (show (0 : Int) < n by omega)
  obtain ⟨j, hj⟩ := Int.eq_ofNat_of_zero_le h1
  refine ⟨j, by omega, ?_⟩
  rw [hj, IntWalk.wrap64_in _ ⟨by omega, by omega⟩]

set_option maxHeartbeats 32000000 in
set_option maxRecDepth 100000 in
theorem walkApart (v va vb : Value) (f : Flt) (a b : List Int) (i k : Int) (w : World) (h : FlR w v f) (hok : ∀ x ∈ f.list, Frm.Ok x) (hway : ∀ y ∈ f.cut, Wy.Ok y) (ha : Sl ic 1 w va a) (hb' : Sl ic 1 w vb b) (hoa : ∀ z ∈ a, I64 z) (hob : ∀ z ∈ b, I64 z) (hi : I64 i) (hk : I64 k)
    (hl : f.cut.length + a.length + b.length ≤ 1048576) :
    Calls Try.prog 6 #[v, va, vb, .int .i64 i, .int .i64 k] w fun e w' => e = .returned (.bool true) ∧ Below w.heap.size w w' := by
  obtain ⟨vl, vc, rfl, hll, hc⟩ := id h
  have hb := below_new w (.cells #[.int .i64 f.next, vl, vc] 25)
  have HX := Lib.hid (fbox_new w f.next vl vc); have HF0 := Lib.hid (h.keep hb); have HB := Lib.hid hb
  have HA := Lib.hid (ha.keep hb); have HBb := Lib.hid (hb'.keep hb)
  have HOa := Lib.hid hoa; have HOb := Lib.hid hob; have HIk : Hid (Wy.Ok (i, k)) := Lib.hid ⟨hi, hk⟩
  have HOk := Lib.hid hok; have HWay := Lib.hid hway
  have HPr : Hid (a.length * b.length ≤ 1048576 * 1048576) := Lib.hid (Nat.mul_le_mul (by omega) (by omega))
  have HLl := Lib.hid hl
  obtain ⟨al, cl, hvl⟩ := hll.slice
  obtain ⟨ax, cx, hvc⟩ := hc.slice
  subst hvl hvc
  obtain ⟨aa, ca, rfl⟩ := ha.slice
  obtain ⟨ab, cb, rfl⟩ := hb'.slice
  clear h hll hc hb ha hb' hoa hob hi hk hl hok hway
  go_enter Try.func6, Try.ntmps6
  go_upto_region 1 with fail
  generalize w.alloc (.cells #[.int .i64 f.next, .slice al f.list.length cl, .slice ax f.cut.length cx] 25) = W at HX HF0 HB HA HBb ⊢
  generalize w.heap.size = N at HX ⊢
  have HFl : Hid (∀ u, Below W.heap.size W u → FlR u (.agg #[.int .i64 f.next, .slice al f.list.length cl, .slice ax f.cut.length cx]) f) := Lib.hid (fun u hu => HF0.out.keep hu)
  obtain ⟨e1, e2, e3⟩ := HX.out.cells
  go_wp2_with fail
  refine (rFit_any _ f _ HF0.out).mono ?_
  rintro e w1 ⟨rfl, hb⟩
  have HW1 := Lib.hid hb
  clear hb e1 e2 e3
  cases hfit : f.fit with
  | false =>
    clear hfit
    go_wp2_with fail
    refine (awake_any _).mono ?_
    rintro e w99 ⟨rfl, hb⟩
    have HW99 := Lib.hid (HW1.out.trans (hb.mono HW1.out.size))
    clear hb
    go_wp2
    go_ret
    exact ⟨rfl, HB.out.trans (HW99.out.mono HB.out.size)⟩
  | true =>
    have HG := Lib.hid (good_of hfit HOk.out HWay.out)
    have HBd : Hid ((f.cut.length + 2) * 16 ≤ 140737488355328 ∧ (f.cut.length + 2 * (a.length * b.length)) * 16 ≤ 140737488355328) := Lib.hid (by have := HPr.out; have := HLl.out; omega)
    have HFits := Lib.hid (HG.out.fits (by have := HBd.out; omega))
    clear hfit
    go_upto_region 3 with fail
    obtain ⟨e1, e2, e3⟩ := (HX.out.keep HW1.out).cells
    go_wp2_with fail
    refine (Isolate_any _ _ _ f a b _ (HFl.out _ HW1.out) HFits.out (HA.out.keep HW1.out) (HBb.out.keep HW1.out) HOa.out HOb.out (by have := HLl.out; omega) (by have := HLl.out; omega) HBd.out.2).mono ?_
    rintro e w2 ⟨vl2, vc2, he, ho1, ho2, hb⟩
    have he' : e = .returned (.tuple #[.agg #[.int .i64 (isoE f a b).next, vl2, vc2], .int .i64 ((f.list.length : Int) - ((isoE f a b).list.length : Nat))]) := he
    have ho1 : Own fc 4 44 w2 w1.heap.size vl2 (isoE f a b).list := ho1
    have ho2 : Own wc 2 59 w2 w1.heap.size vc2 (isoE f a b).cut := ho2
    clear he
    have hgx := good_iso HG.out a b HOa.out HOb.out
    have hic := fun (p q : Int) (hp : p ∈ a) (hq : q ∈ b) (hne : p ≠ q) => iso_cut (f := f) hp hq hne { data := #[] }
    have hsub : (isoE f a b).list.length ≤ f.list.length := List.length_filter_le ..
    obtain ⟨x, hx⟩ : ∃ x, isoE f a b = x := ⟨_, rfl⟩
    rw [hx] at he' ho1 ho2 hgx hic hsub
    subst he'
    have HGx := Lib.hid hgx; have HIc := Lib.hid hic
    clear hgx hic hx e1 e2 e3
    obtain ⟨al2, cl2, rfl⟩ := ho1.slice
    obtain ⟨ax2, cx2, rfl⟩ := ho2.slice
    obtain ⟨m2, hm⟩ : ∃ m, x.list.length = m := ⟨_, rfl⟩
    obtain ⟨c2, hc⟩ : ∃ m, x.cut.length = m := ⟨_, rfl⟩
    have HM2 := Lib.hid hm; have HC2 := Lib.hid hc
    rw [hm] at ho1 ⊢
    rw [hc] at ho2 ⊢
    have hn := below_new w2 (.cells #[.int .i64 x.next, .slice al2 m2 cl2, .slice ax2 c2 cx2] 25)
    have HX2 := Lib.hid (fbox_new w2 x.next (.slice al2 m2 cl2) (.slice ax2 c2 cx2))
    have HF2 := Lib.hid (show FlR (w2.alloc (.cells #[.int .i64 x.next, .slice al2 m2 cl2, .slice ax2 c2 cx2] 25)) (.agg #[.int .i64 x.next, .slice al2 m2 cl2, .slice ax2 c2 cx2]) x from ⟨_, _, rfl, (ho1.below hn).read fc_len, (ho2.below hn).read wc_len⟩)
    have hb := hb.trans (hn.mono hb.size)
    have HW2 := Lib.hid (HW1.out.trans (hb.mono HW1.out.size))
    clear ho1 ho2 hb hn hm hc
    rw [HM2.out] at hsub
    obtain ⟨Lf, hLf⟩ : ∃ L, f.list.length = L := ⟨_, rfl⟩
    have hLf2 : Lf ≤ 65536 := by rw [← hLf]; exact HG.out.len
    rw [hLf] at hsub ⊢
    go_upto_region 4 with fail
    generalize w2.alloc (.cells #[.int .i64 x.next, .slice al2 m2 cl2, .slice ax2 c2 cx2] 25) = W2 at HW2 HX2 HF2 ⊢
    generalize w2.heap.size = X2 at HX2 ⊢
    obtain ⟨e1, e2, e3⟩ := (HX.out.keep HW2.out).cells
    rw [hLf] at e2
    obtain ⟨z1, z2, z3⟩ := HX2.out.cells
    go_wp2_with fail
    refine (Fit_any _ x _ HF2.out).mono ?_
    rintro e w3 ⟨rfl, hb⟩
    rw [good_fit HGx.out]
    have HR2 := Lib.hid (Below.refl W2.heap.size W2)
    have HW3 := Lib.hid (HW2.out.trans (hb.mono HW2.out.size))
    have HV3 := Lib.hid (HR2.out.trans (hb.mono HR2.out.size))
    have HK2 : Hid (∀ u, Below W2.heap.size W2 u → FBox u X2 x.next (.slice al2 m2 cl2) (.slice ax2 c2 cx2) ∧ FlR u (.agg #[.int .i64 x.next, .slice al2 m2 cl2, .slice ax2 c2 cx2]) x) := Lib.hid (fun u hu => ⟨HX2.out.keep hu, HF2.out.keep hu⟩)
    clear hb e1 e2 e3 z1 z2 z3
    obtain ⟨e1, e2, e3⟩ := (HX.out.keep HW3.out).cells
    rw [hLf] at e2
    obtain ⟨z1, z2, z3⟩ := (HK2.out _ HV3.out).1.cells
    go_upto_region 6 with fail
    clear e1 e2 e3 z1 z2 z3 hsub hLf2
    rw [← hLf]
    clear hLf
    have HSa3 := Lib.hid (HA.out.keep HW3.out); have HSb3 := Lib.hid (HBb.out.keep HW3.out)
    have hla2 : a.length ≤ 1048576 := by have := HLl.out; omega
    have hlb2 : b.length ≤ 1048576 := by have := HLl.out; omega
    by_cases hpos : 0 < a.length ∧ 0 < b.length
    · obtain ⟨hp1, hp2⟩ := hpos
      have hp1' : (0 : Int) < a.length := by omega
      have hp2' : (0 : Int) < b.length := by omega
      obtain ⟨-, a', cap', he, -, hca⟩ := HSa3.out
      obtain ⟨ba, oa, haa, hbla, hca⟩ := hca hp1
      have haa2 : aa = some ⟨ba, oa, none⟩ := by injection he with h1 h2 h3; rw [h1, haa]
      obtain ⟨j1, hj1, hw1⟩ := idx_of i a.length hp1 hla2
      have c1 := icell_at (hca j1 hj1)
      rw [Nat.mul_one] at c1
      have hm1 : a[j1] ∈ a := List.getElem_mem hj1
      obtain ⟨p, hp⟩ : ∃ p, a[j1] = p := ⟨_, rfl⟩
      rw [hp] at c1 hm1
      obtain ⟨-, a'', cap'', he2, -, hcb⟩ := HSb3.out
      obtain ⟨bb, ob, hbb2, hblb, hcb⟩ := hcb hp2
      have hab2 : ab = some ⟨bb, ob, none⟩ := by injection he2 with h1 h2 h3; rw [h1, hbb2]
      obtain ⟨j2, hj2, hw2⟩ := idx_of k b.length hp2 hlb2
      have c2' := icell_at (hcb j2 hj2)
      rw [Nat.mul_one] at c2'
      have hm2 : b[j2] ∈ b := List.getElem_mem hj2
      obtain ⟨q, hq⟩ : ∃ q, b[j2] = q := ⟨_, rfl⟩
      rw [hq] at c2' hm2
      have hw1' : True → wrap64 ((IntKind.u64.wrap i).tmod (a.length : Int)) = (j1 : Int) := fun _ => hw1
      have hw2' : True → wrap64 ((IntKind.u64.wrap k).tmod (b.length : Int)) = (j2 : Int) := fun _ => hw2
      have hj1' : (j1 : Int) < a.length := by omega
      have hj2' : (j2 : Int) < b.length := by omega
      have HPq := Lib.hid (show Wy.Ok (p, q) ∧ Wy.Ok (q, p) from ⟨⟨HOa.out p hm1, HOb.out q hm2⟩, ⟨HOb.out q hm2, HOa.out p hm1⟩⟩)
      have HIpq := Lib.hid (HIc.out p q hm1 hm2)
      subst haa2 hab2
      clear he haa hbla hca he2 hbb2 hblb hcb hp hq hm1 hm2 hw1 hw2 hj1 hj2
      go_upto_region 9 with fail
      clear c1 c2' hw1' hw2' hj1' hj2' hp1 hp2 hp1' hp2'
      have HGx2 := Lib.hid (show x.list.length * 40 ≤ 140737488355328 ∧ x.cut.length * 16 ≤ 140737488355328 from ⟨by have := HGx.out.len; omega, by have := HGx.out.cl; have := HBd.out; omega⟩)
      obtain ⟨z1, z2, z3⟩ := (HK2.out _ HV3.out).1.cells
      go_wp2_with fail
      refine (Put_any _ x p q { data := #[] } _ (HK2.out _ HV3.out).2 HGx.out.way HPq.out.1 HGx2.out.1 HGx2.out.2 HGx.out.i64).mono ?_
      obtain ⟨r1, hr1⟩ : ∃ r, putE x p q { data := #[] } = r := ⟨_, rfl⟩
      obtain ⟨r2, hr2⟩ : ∃ r, putE x q p { data := #[] } = r := ⟨_, rfl⟩
      rw [hr1, hr2] at HIpq
      have HR2' := Lib.hid hr2
      rw [hr1]
      clear hr1 hr2
      obtain ⟨g1, n1, e1'⟩ := r1
      obtain ⟨g2, n2, e2'⟩ := r2
      simp only at HIpq
      rintro e w31 ⟨vl31, vc31, he, ho1, ho2, hb⟩
      have he' : e = .returned (.tuple #[.agg #[.int .i64 g1.next, vl31, vc31], .int .i64 n1, .int .i64 e1']) := he
      have ho1 : Own fc 4 44 w31 w3.heap.size vl31 g1.list := ho1
      have ho2 : Own wc 2 59 w31 w3.heap.size vc31 g1.cut := ho2
      clear he
      subst he'
      clear z1 z2 z3
      obtain ⟨al31, cl31, rfl⟩ := ho1.slice
      obtain ⟨ax31, cx31, rfl⟩ := ho2.slice
      obtain ⟨m31, hm⟩ : ∃ m, g1.list.length = m := ⟨_, rfl⟩
      obtain ⟨c31, hc⟩ : ∃ m, g1.cut.length = m := ⟨_, rfl⟩
      have HM31 := Lib.hid hm; have HC31 := Lib.hid hc
      rw [hm] at ho1 ⊢
      rw [hc] at ho2 ⊢
      have hn := below_new w31 (.cells #[.int .i64 g1.next, .slice al31 m31 cl31, .slice ax31 c31 cx31] 25)
      have HX31 := Lib.hid (fbox_new w31 g1.next (.slice al31 m31 cl31) (.slice ax31 c31 cx31))
      have HF31 := Lib.hid (show FlR (w31.alloc (.cells #[.int .i64 g1.next, .slice al31 m31 cl31, .slice ax31 c31 cx31] 25)) (.agg #[.int .i64 g1.next, .slice al31 m31 cl31, .slice ax31 c31 cx31]) g1 from ⟨_, _, rfl, (ho1.below hn).read fc_len, (ho2.below hn).read wc_len⟩)
      have hb := hb.trans (hn.mono hb.size)
      have HW31 := Lib.hid (HW3.out.trans (hb.mono HW3.out.size))
      have HV31 := Lib.hid (HV3.out.trans (hb.mono HV3.out.size))
      clear ho1 ho2 hb hn hm hc
      go_upto_region 10 with fail
      generalize w31.alloc (.cells #[.int .i64 g1.next, .slice al31 m31 cl31, .slice ax31 c31 cx31] 25) = W31 at HW31 HV31 HX31 HF31 ⊢
      generalize w31.heap.size = X31 at HX31 ⊢
      obtain ⟨z1, z2, z3⟩ := (HK2.out _ HV31.out).1.cells
      go_wp2_with fail
      refine (Put_any _ x q p { data := #[] } _ (HK2.out _ HV31.out).2 HGx.out.way HPq.out.2 HGx2.out.1 HGx2.out.2 HGx.out.i64).mono ?_
      rw [HR2'.out]
      rintro e w32 ⟨vl32, vc32, he, ho1, ho2, hb⟩
      have he' : e = .returned (.tuple #[.agg #[.int .i64 g2.next, vl32, vc32], .int .i64 n2, .int .i64 e2']) := he
      have ho1 : Own fc 4 44 w32 W31.heap.size vl32 g2.list := ho1
      have ho2 : Own wc 2 59 w32 W31.heap.size vc32 g2.cut := ho2
      clear he
      subst he'
      clear z1 z2 z3
      obtain ⟨al32, cl32, rfl⟩ := ho1.slice
      obtain ⟨ax32, cx32, rfl⟩ := ho2.slice
      obtain ⟨m32, hm⟩ : ∃ m, g2.list.length = m := ⟨_, rfl⟩
      obtain ⟨c32, hc⟩ : ∃ m, g2.cut.length = m := ⟨_, rfl⟩
      have HM32 := Lib.hid hm; have HC32 := Lib.hid hc
      rw [hm] at ho1 ⊢
      rw [hc] at ho2 ⊢
      have hn := below_new w32 (.cells #[.int .i64 g2.next, .slice al32 m32 cl32, .slice ax32 c32 cx32] 25)
      have HX32 := Lib.hid (fbox_new w32 g2.next (.slice al32 m32 cl32) (.slice ax32 c32 cx32))
      have HF32 := Lib.hid (show FlR (w32.alloc (.cells #[.int .i64 g2.next, .slice al32 m32 cl32, .slice ax32 c32 cx32] 25)) (.agg #[.int .i64 g2.next, .slice al32 m32 cl32, .slice ax32 c32 cx32]) g2 from ⟨_, _, rfl, (ho1.below hn).read fc_len, (ho2.below hn).read wc_len⟩)
      have hb := hb.trans (hn.mono hb.size)
      have HW32 := Lib.hid (HW31.out.trans (hb.mono HW31.out.size))
      clear ho1 ho2 hb hn hm hc
      go_upto_region 11 with fail
      generalize w32.alloc (.cells #[.int .i64 g2.next, .slice al32 m32 cl32, .slice ax32 c32 cx32] 25) = W32 at HW32 HX32 HF32 ⊢
      generalize w32.heap.size = X32 at HX32 ⊢
      by_cases hpq : p = q
      · have d0 : True → (p != q) = false := fun _ => by simp [hpq]
        clear hpq
        go_upto_region 13 with fail
        clear d0
        go_upto_region 13 with fail
        obtain ⟨e1, e2, e3⟩ := (HX.out.keep HW32.out).cells
        go_wp2_with fail
        refine (Cut_any _ f i k _ (HFl.out _ HW32.out) HFits.out HIk.out (by have := HBd.out; omega)).mono ?_
        rintro e w5 ⟨vl5, vc5, he, ho1, ho2, hb⟩
        have he' : e = .returned (.tuple #[.agg #[.int .i64 (cutE f i k).next, vl5, vc5], .int .i64 ((f.list.length : Int) - ((cutE f i k).list.length : Nat))]) := he
        have ho1 : Own fc 4 44 w5 W32.heap.size vl5 (cutE f i k).list := ho1
        have ho2 : Own wc 2 59 w5 W32.heap.size vc5 (cutE f i k).cut := ho2
        clear he
        obtain ⟨hgy, -⟩ := good_cut HG.out i k HIk.out
        have h2 := cut_twice f i k
        have hcj := cut_join HG.out i k
        obtain ⟨y, hy⟩ : ∃ y, cutE f i k = y := ⟨_, rfl⟩
        rw [hy] at he' ho1 ho2 hgy hcj h2
        subst he'
        have HGy := Lib.hid hgy; have H2 := Lib.hid h2; have HCj := Lib.hid hcj
        clear hgy h2 hcj hy e1 e2 e3
        obtain ⟨al5, cl5, rfl⟩ := ho1.slice
        obtain ⟨ax5, cx5, rfl⟩ := ho2.slice
        obtain ⟨m5, hm⟩ : ∃ m, y.list.length = m := ⟨_, rfl⟩
        obtain ⟨c5, hc⟩ : ∃ m, y.cut.length = m := ⟨_, rfl⟩
        have HM5 := Lib.hid hm; have HC5 := Lib.hid hc
        rw [hm] at ho1 ⊢
        rw [hc] at ho2 ⊢
        have hn := below_new w5 (.cells #[.int .i64 y.next, .slice al5 m5 cl5, .slice ax5 c5 cx5] 25)
        have HX5 := Lib.hid (fbox_new w5 y.next (.slice al5 m5 cl5) (.slice ax5 c5 cx5))
        have HF5 := Lib.hid (show FlR (w5.alloc (.cells #[.int .i64 y.next, .slice al5 m5 cl5, .slice ax5 c5 cx5] 25)) (.agg #[.int .i64 y.next, .slice al5 m5 cl5, .slice ax5 c5 cx5]) y from ⟨_, _, rfl, (ho1.below hn).read fc_len, (ho2.below hn).read wc_len⟩)
        have hb := hb.trans (hn.mono hb.size)
        have HW5 := Lib.hid (HW32.out.trans (hb.mono HW32.out.size))
        clear ho1 ho2 hb hn hm hc
        go_upto_region 14 with fail
        generalize w5.alloc (.cells #[.int .i64 y.next, .slice al5 m5 cl5, .slice ax5 c5 cx5] 25) = W5 at HW5 HX5 HF5 ⊢
        generalize w5.heap.size = X5 at HX5 ⊢
        have HR5 := Lib.hid (Below.refl W5.heap.size W5)
        have HK5 : Hid (∀ u, Below W5.heap.size W5 u → FBox u X5 y.next (.slice al5 m5 cl5) (.slice ax5 c5 cx5) ∧ FlR u (.agg #[.int .i64 y.next, .slice al5 m5 cl5, .slice ax5 c5 cx5]) y) := Lib.hid (fun u hu => ⟨HX5.out.keep hu, HF5.out.keep hu⟩)
        obtain ⟨e1, e2, e3⟩ := HX5.out.cells
        go_wp2_with fail
        refine (Cut_any _ y i k _ HF5.out (HGy.out.fits (by have := HBd.out; omega)) HIk.out (by have := HGy.out.cl; have := HBd.out; omega)).mono ?_
        rintro e w6 ⟨vl6, vc6, he, ho1, ho2, hb⟩
        have he' : e = .returned (.tuple #[.agg #[.int .i64 (cutE y i k).next, vl6, vc6], .int .i64 ((y.list.length : Int) - ((cutE y i k).list.length : Nat))]) := he
        have ho1 : Own fc 4 44 w6 W5.heap.size vl6 (cutE y i k).list := ho1
        have ho2 : Own wc 2 59 w6 W5.heap.size vc6 (cutE y i k).cut := ho2
        clear he
        rw [H2.out] at he' ho1 ho2
        rw [Int.sub_self] at he'
        subst he'
        clear e1 e2 e3
        obtain ⟨al6, cl6, rfl⟩ := ho1.slice
        obtain ⟨ax6, cx6, rfl⟩ := ho2.slice
        obtain ⟨m6, hm⟩ : ∃ m, y.list.length = m := ⟨_, rfl⟩
        obtain ⟨c6, hc⟩ : ∃ m, y.cut.length = m := ⟨_, rfl⟩
        have HM6 := Lib.hid hm; have HC6 := Lib.hid hc
        rw [hm] at ho1 ⊢
        rw [hc] at ho2 ⊢
        have hn := below_new w6 (.cells #[.int .i64 y.next, .slice al6 m6 cl6, .slice ax6 c6 cx6] 25)
        have HX6 := Lib.hid (fbox_new w6 y.next (.slice al6 m6 cl6) (.slice ax6 c6 cx6))
        have HF6 := Lib.hid (show FlR (w6.alloc (.cells #[.int .i64 y.next, .slice al6 m6 cl6, .slice ax6 c6 cx6] 25)) (.agg #[.int .i64 y.next, .slice al6 m6 cl6, .slice ax6 c6 cx6]) y from ⟨_, _, rfl, (ho1.below hn).read fc_len, (ho2.below hn).read wc_len⟩)
        have hb := hb.trans (hn.mono hb.size)
        have HW6 := Lib.hid (HW5.out.trans (hb.mono HW5.out.size))
        have HV6 := Lib.hid (HR5.out.trans (hb.mono HR5.out.size))
        clear ho1 ho2 hb hn hm hc
        go_upto_region 15 with fail
        generalize w6.alloc (.cells #[.int .i64 y.next, .slice al6 m6 cl6, .slice ax6 c6 cx6] 25) = W6 at HW6 HV6 HX6 HF6 ⊢
        generalize w6.heap.size = X6 at HX6 ⊢
        obtain ⟨e1, e2, e3⟩ := (HK5.out _ HV6.out).1.cells
        obtain ⟨z1, z2, z3⟩ := HX6.out.cells
        go_wp2_with fail
        refine (same_v _ _ y y _ (HK5.out _ HV6.out).2 HF6.out).mono ?_
        rintro e w7 ⟨rfl, hb⟩
        rw [sameB_self]
        have HW7 := Lib.hid (HW6.out.trans (hb.mono HW6.out.size))
        have HV7 := Lib.hid (HV6.out.trans (hb.mono HV6.out.size))
        clear hb e1 e2 e3 z1 z2 z3
        go_upto_region 17 with fail
        obtain ⟨e1, e2, e3⟩ := (HX.out.keep HW7.out).cells
        go_wp2_with fail
        refine (Join_any _ f i k _ (HFl.out _ HW7.out) HFits.out HIk.out HG.out.nodup).mono ?_
        obtain ⟨jf, hjf⟩ : ∃ j, joinE f (i, k) = j := ⟨_, rfl⟩
        rw [hjf]
        rintro e w8 ⟨vl8, vc8, he, ho1, ho2, hb⟩
        have he' : e = .returned (.tuple #[.agg #[.int .i64 (jf).next, vl8, vc8], .bool (decide ((i, k) ∈ f.cut))]) := he
        have ho1 : Own fc 4 44 w8 w7.heap.size vl8 (jf).list := ho1
        have ho2 : Own wc 2 59 w8 w7.heap.size vc8 (jf).cut := ho2
        clear he
        subst he'
        clear hjf e1 e2 e3
        obtain ⟨al8, cl8, rfl⟩ := ho1.slice
        obtain ⟨ax8, cx8, rfl⟩ := ho2.slice
        obtain ⟨m8, hm⟩ : ∃ m, jf.list.length = m := ⟨_, rfl⟩
        obtain ⟨c8, hc⟩ : ∃ m, jf.cut.length = m := ⟨_, rfl⟩
        have HM8 := Lib.hid hm; have HC8 := Lib.hid hc
        rw [hm] at ho1 ⊢
        rw [hc] at ho2 ⊢
        have hn := below_new w8 (.cells #[.int .i64 jf.next, .slice al8 m8 cl8, .slice ax8 c8 cx8] 25)
        have HX8 := Lib.hid (fbox_new w8 jf.next (.slice al8 m8 cl8) (.slice ax8 c8 cx8))
        have HF8 := Lib.hid (show FlR (w8.alloc (.cells #[.int .i64 jf.next, .slice al8 m8 cl8, .slice ax8 c8 cx8] 25)) (.agg #[.int .i64 jf.next, .slice al8 m8 cl8, .slice ax8 c8 cx8]) jf from ⟨_, _, rfl, (ho1.below hn).read fc_len, (ho2.below hn).read wc_len⟩)
        have hb := hb.trans (hn.mono hb.size)
        have HW8 := Lib.hid (HW7.out.trans (hb.mono HW7.out.size))
        have HV8 := Lib.hid (HV7.out.trans (hb.mono HV7.out.size))
        clear ho1 ho2 hb hn hm hc
        go_upto_region 18 with fail
        generalize w8.alloc (.cells #[.int .i64 jf.next, .slice al8 m8 cl8, .slice ax8 c8 cx8] 25) = W8 at HW8 HV8 HX8 HF8 ⊢
        generalize w8.heap.size = X8 at HX8 ⊢
        by_cases hin : (i, k) ∈ f.cut
        · rw [decide_eq_true hin]
          clear hin
          go_wp2_with fail
          refine (awake_any _).mono ?_
          rintro e w99 ⟨rfl, hb⟩
          have HW99 := Lib.hid (HW8.out.trans (hb.mono HW8.out.size))
          clear hb
          go_wp2
          go_ret
          exact ⟨rfl, HB.out.trans (HW99.out.mono HB.out.size)⟩
        · rw [decide_eq_false hin]
          by_cases hik : i = k
          · have d0 : True → (i == k) = true := fun _ => by simp [hik]
            clear hik hin
            go_wp2_with fail
            refine (awake_any _).mono ?_
            rintro e w99 ⟨rfl, hb⟩
            have HW99 := Lib.hid (HW8.out.trans (hb.mono HW8.out.size))
            clear hb
            go_wp2
            go_ret
            exact ⟨rfl, HB.out.trans (HW99.out.mono HB.out.size)⟩
          · have d0 : True → (i == k) = false := fun _ => by simp [hik]
            obtain ⟨hyin, hycut⟩ := HCj.out hin hik
            have HYin := Lib.hid hyin; have HYc := Lib.hid hycut
            clear hik hin hyin hycut
            go_upto_region 20 with fail
            clear d0
            obtain ⟨e1, e2, e3⟩ := (HK5.out _ HV8.out).1.cells
            go_wp2_with fail
            refine (Join_any _ y i k _ (HK5.out _ HV8.out).2 (HGy.out.fits (by have := HBd.out; omega)) HIk.out HGy.out.nodup).mono ?_
            obtain ⟨ju, hju⟩ : ∃ j, joinE y (i, k) = j := ⟨_, rfl⟩
            rw [hju] at HYc ⊢
            rw [decide_eq_true HYin.out]
            rintro e w9 ⟨vl9, vc9, he, ho1, ho2, hb⟩
            have he' : e = .returned (.tuple #[.agg #[.int .i64 (ju).next, vl9, vc9], .bool true]) := he
            have ho1 : Own fc 4 44 w9 W8.heap.size vl9 (ju).list := ho1
            have ho2 : Own wc 2 59 w9 W8.heap.size vc9 (ju).cut := ho2
            clear he
            subst he'
            clear hju e1 e2 e3
            obtain ⟨al9, cl9, rfl⟩ := ho1.slice
            obtain ⟨ax9, cx9, rfl⟩ := ho2.slice
            obtain ⟨m9, hm⟩ : ∃ m, ju.list.length = m := ⟨_, rfl⟩
            obtain ⟨c9, hc⟩ : ∃ m, ju.cut.length = m := ⟨_, rfl⟩
            have HM9 := Lib.hid hm; have HC9 := Lib.hid hc
            rw [hm] at ho1 ⊢
            rw [hc] at ho2 ⊢
            have hn := below_new w9 (.cells #[.int .i64 ju.next, .slice al9 m9 cl9, .slice ax9 c9 cx9] 25)
            have HX9 := Lib.hid (fbox_new w9 ju.next (.slice al9 m9 cl9) (.slice ax9 c9 cx9))
            have HF9 := Lib.hid (show FlR (w9.alloc (.cells #[.int .i64 ju.next, .slice al9 m9 cl9, .slice ax9 c9 cx9] 25)) (.agg #[.int .i64 ju.next, .slice al9 m9 cl9, .slice ax9 c9 cx9]) ju from ⟨_, _, rfl, (ho1.below hn).read fc_len, (ho2.below hn).read wc_len⟩)
            have hb := hb.trans (hn.mono hb.size)
            have HW9 := Lib.hid (HW8.out.trans (hb.mono HW8.out.size))
            clear ho1 ho2 hb hn hm hc
            have hcc : f.cut.length = c9 := by rw [← HC9.out, HYc.out]
            go_upto_region 21 with fail
            generalize w9.alloc (.cells #[.int .i64 ju.next, .slice al9 m9 cl9, .slice ax9 c9 cx9] 25) = W9 at HW9 HX9 HF9 ⊢
            generalize w9.heap.size = X9 at HX9 ⊢
            obtain ⟨e1, e2, e3⟩ := (HX.out.keep HW9.out).cells
            obtain ⟨z1, z2, z3⟩ := HX9.out.cells
            rw [hcc] at e3
            clear hcc
            go_wp2_with fail
            refine (awake_any _).mono ?_
            rintro e w99 ⟨rfl, hb⟩
            have HW99 := Lib.hid (HW9.out.trans (hb.mono HW9.out.size))
            clear hb e1 e2 e3 z1 z2 z3
            go_wp2
            go_ret
            exact ⟨rfl, HB.out.trans (HW99.out.mono HB.out.size)⟩
      · have d0 : True → (p != q) = true := fun _ => by simp [hpq]
        obtain ⟨h1, h2⟩ := HIpq.out hpq
        subst h1 h2
        clear hpq
        go_upto_region 13 with fail
        clear d0
        go_upto_region 13 with fail
        obtain ⟨e1, e2, e3⟩ := (HX.out.keep HW32.out).cells
        go_wp2_with fail
        refine (Cut_any _ f i k _ (HFl.out _ HW32.out) HFits.out HIk.out (by have := HBd.out; omega)).mono ?_
        rintro e w5 ⟨vl5, vc5, he, ho1, ho2, hb⟩
        have he' : e = .returned (.tuple #[.agg #[.int .i64 (cutE f i k).next, vl5, vc5], .int .i64 ((f.list.length : Int) - ((cutE f i k).list.length : Nat))]) := he
        have ho1 : Own fc 4 44 w5 W32.heap.size vl5 (cutE f i k).list := ho1
        have ho2 : Own wc 2 59 w5 W32.heap.size vc5 (cutE f i k).cut := ho2
        clear he
        obtain ⟨hgy, -⟩ := good_cut HG.out i k HIk.out
        have h2 := cut_twice f i k
        have hcj := cut_join HG.out i k
        obtain ⟨y, hy⟩ : ∃ y, cutE f i k = y := ⟨_, rfl⟩
        rw [hy] at he' ho1 ho2 hgy hcj h2
        subst he'
        have HGy := Lib.hid hgy; have H2 := Lib.hid h2; have HCj := Lib.hid hcj
        clear hgy h2 hcj hy e1 e2 e3
        obtain ⟨al5, cl5, rfl⟩ := ho1.slice
        obtain ⟨ax5, cx5, rfl⟩ := ho2.slice
        obtain ⟨m5, hm⟩ : ∃ m, y.list.length = m := ⟨_, rfl⟩
        obtain ⟨c5, hc⟩ : ∃ m, y.cut.length = m := ⟨_, rfl⟩
        have HM5 := Lib.hid hm; have HC5 := Lib.hid hc
        rw [hm] at ho1 ⊢
        rw [hc] at ho2 ⊢
        have hn := below_new w5 (.cells #[.int .i64 y.next, .slice al5 m5 cl5, .slice ax5 c5 cx5] 25)
        have HX5 := Lib.hid (fbox_new w5 y.next (.slice al5 m5 cl5) (.slice ax5 c5 cx5))
        have HF5 := Lib.hid (show FlR (w5.alloc (.cells #[.int .i64 y.next, .slice al5 m5 cl5, .slice ax5 c5 cx5] 25)) (.agg #[.int .i64 y.next, .slice al5 m5 cl5, .slice ax5 c5 cx5]) y from ⟨_, _, rfl, (ho1.below hn).read fc_len, (ho2.below hn).read wc_len⟩)
        have hb := hb.trans (hn.mono hb.size)
        have HW5 := Lib.hid (HW32.out.trans (hb.mono HW32.out.size))
        clear ho1 ho2 hb hn hm hc
        go_upto_region 14 with fail
        generalize w5.alloc (.cells #[.int .i64 y.next, .slice al5 m5 cl5, .slice ax5 c5 cx5] 25) = W5 at HW5 HX5 HF5 ⊢
        generalize w5.heap.size = X5 at HX5 ⊢
        have HR5 := Lib.hid (Below.refl W5.heap.size W5)
        have HK5 : Hid (∀ u, Below W5.heap.size W5 u → FBox u X5 y.next (.slice al5 m5 cl5) (.slice ax5 c5 cx5) ∧ FlR u (.agg #[.int .i64 y.next, .slice al5 m5 cl5, .slice ax5 c5 cx5]) y) := Lib.hid (fun u hu => ⟨HX5.out.keep hu, HF5.out.keep hu⟩)
        obtain ⟨e1, e2, e3⟩ := HX5.out.cells
        go_wp2_with fail
        refine (Cut_any _ y i k _ HF5.out (HGy.out.fits (by have := HBd.out; omega)) HIk.out (by have := HGy.out.cl; have := HBd.out; omega)).mono ?_
        rintro e w6 ⟨vl6, vc6, he, ho1, ho2, hb⟩
        have he' : e = .returned (.tuple #[.agg #[.int .i64 (cutE y i k).next, vl6, vc6], .int .i64 ((y.list.length : Int) - ((cutE y i k).list.length : Nat))]) := he
        have ho1 : Own fc 4 44 w6 W5.heap.size vl6 (cutE y i k).list := ho1
        have ho2 : Own wc 2 59 w6 W5.heap.size vc6 (cutE y i k).cut := ho2
        clear he
        rw [H2.out] at he' ho1 ho2
        rw [Int.sub_self] at he'
        subst he'
        clear e1 e2 e3
        obtain ⟨al6, cl6, rfl⟩ := ho1.slice
        obtain ⟨ax6, cx6, rfl⟩ := ho2.slice
        obtain ⟨m6, hm⟩ : ∃ m, y.list.length = m := ⟨_, rfl⟩
        obtain ⟨c6, hc⟩ : ∃ m, y.cut.length = m := ⟨_, rfl⟩
        have HM6 := Lib.hid hm; have HC6 := Lib.hid hc
        rw [hm] at ho1 ⊢
        rw [hc] at ho2 ⊢
        have hn := below_new w6 (.cells #[.int .i64 y.next, .slice al6 m6 cl6, .slice ax6 c6 cx6] 25)
        have HX6 := Lib.hid (fbox_new w6 y.next (.slice al6 m6 cl6) (.slice ax6 c6 cx6))
        have HF6 := Lib.hid (show FlR (w6.alloc (.cells #[.int .i64 y.next, .slice al6 m6 cl6, .slice ax6 c6 cx6] 25)) (.agg #[.int .i64 y.next, .slice al6 m6 cl6, .slice ax6 c6 cx6]) y from ⟨_, _, rfl, (ho1.below hn).read fc_len, (ho2.below hn).read wc_len⟩)
        have hb := hb.trans (hn.mono hb.size)
        have HW6 := Lib.hid (HW5.out.trans (hb.mono HW5.out.size))
        have HV6 := Lib.hid (HR5.out.trans (hb.mono HR5.out.size))
        clear ho1 ho2 hb hn hm hc
        go_upto_region 15 with fail
        generalize w6.alloc (.cells #[.int .i64 y.next, .slice al6 m6 cl6, .slice ax6 c6 cx6] 25) = W6 at HW6 HV6 HX6 HF6 ⊢
        generalize w6.heap.size = X6 at HX6 ⊢
        obtain ⟨e1, e2, e3⟩ := (HK5.out _ HV6.out).1.cells
        obtain ⟨z1, z2, z3⟩ := HX6.out.cells
        go_wp2_with fail
        refine (same_v _ _ y y _ (HK5.out _ HV6.out).2 HF6.out).mono ?_
        rintro e w7 ⟨rfl, hb⟩
        rw [sameB_self]
        have HW7 := Lib.hid (HW6.out.trans (hb.mono HW6.out.size))
        have HV7 := Lib.hid (HV6.out.trans (hb.mono HV6.out.size))
        clear hb e1 e2 e3 z1 z2 z3
        go_upto_region 17 with fail
        obtain ⟨e1, e2, e3⟩ := (HX.out.keep HW7.out).cells
        go_wp2_with fail
        refine (Join_any _ f i k _ (HFl.out _ HW7.out) HFits.out HIk.out HG.out.nodup).mono ?_
        obtain ⟨jf, hjf⟩ : ∃ j, joinE f (i, k) = j := ⟨_, rfl⟩
        rw [hjf]
        rintro e w8 ⟨vl8, vc8, he, ho1, ho2, hb⟩
        have he' : e = .returned (.tuple #[.agg #[.int .i64 (jf).next, vl8, vc8], .bool (decide ((i, k) ∈ f.cut))]) := he
        have ho1 : Own fc 4 44 w8 w7.heap.size vl8 (jf).list := ho1
        have ho2 : Own wc 2 59 w8 w7.heap.size vc8 (jf).cut := ho2
        clear he
        subst he'
        clear hjf e1 e2 e3
        obtain ⟨al8, cl8, rfl⟩ := ho1.slice
        obtain ⟨ax8, cx8, rfl⟩ := ho2.slice
        obtain ⟨m8, hm⟩ : ∃ m, jf.list.length = m := ⟨_, rfl⟩
        obtain ⟨c8, hc⟩ : ∃ m, jf.cut.length = m := ⟨_, rfl⟩
        have HM8 := Lib.hid hm; have HC8 := Lib.hid hc
        rw [hm] at ho1 ⊢
        rw [hc] at ho2 ⊢
        have hn := below_new w8 (.cells #[.int .i64 jf.next, .slice al8 m8 cl8, .slice ax8 c8 cx8] 25)
        have HX8 := Lib.hid (fbox_new w8 jf.next (.slice al8 m8 cl8) (.slice ax8 c8 cx8))
        have HF8 := Lib.hid (show FlR (w8.alloc (.cells #[.int .i64 jf.next, .slice al8 m8 cl8, .slice ax8 c8 cx8] 25)) (.agg #[.int .i64 jf.next, .slice al8 m8 cl8, .slice ax8 c8 cx8]) jf from ⟨_, _, rfl, (ho1.below hn).read fc_len, (ho2.below hn).read wc_len⟩)
        have hb := hb.trans (hn.mono hb.size)
        have HW8 := Lib.hid (HW7.out.trans (hb.mono HW7.out.size))
        have HV8 := Lib.hid (HV7.out.trans (hb.mono HV7.out.size))
        clear ho1 ho2 hb hn hm hc
        go_upto_region 18 with fail
        generalize w8.alloc (.cells #[.int .i64 jf.next, .slice al8 m8 cl8, .slice ax8 c8 cx8] 25) = W8 at HW8 HV8 HX8 HF8 ⊢
        generalize w8.heap.size = X8 at HX8 ⊢
        by_cases hin : (i, k) ∈ f.cut
        · rw [decide_eq_true hin]
          clear hin
          go_wp2_with fail
          refine (awake_any _).mono ?_
          rintro e w99 ⟨rfl, hb⟩
          have HW99 := Lib.hid (HW8.out.trans (hb.mono HW8.out.size))
          clear hb
          go_wp2
          go_ret
          exact ⟨rfl, HB.out.trans (HW99.out.mono HB.out.size)⟩
        · rw [decide_eq_false hin]
          by_cases hik : i = k
          · have d0 : True → (i == k) = true := fun _ => by simp [hik]
            clear hik hin
            go_wp2_with fail
            refine (awake_any _).mono ?_
            rintro e w99 ⟨rfl, hb⟩
            have HW99 := Lib.hid (HW8.out.trans (hb.mono HW8.out.size))
            clear hb
            go_wp2
            go_ret
            exact ⟨rfl, HB.out.trans (HW99.out.mono HB.out.size)⟩
          · have d0 : True → (i == k) = false := fun _ => by simp [hik]
            obtain ⟨hyin, hycut⟩ := HCj.out hin hik
            have HYin := Lib.hid hyin; have HYc := Lib.hid hycut
            clear hik hin hyin hycut
            go_upto_region 20 with fail
            clear d0
            obtain ⟨e1, e2, e3⟩ := (HK5.out _ HV8.out).1.cells
            go_wp2_with fail
            refine (Join_any _ y i k _ (HK5.out _ HV8.out).2 (HGy.out.fits (by have := HBd.out; omega)) HIk.out HGy.out.nodup).mono ?_
            obtain ⟨ju, hju⟩ : ∃ j, joinE y (i, k) = j := ⟨_, rfl⟩
            rw [hju] at HYc ⊢
            rw [decide_eq_true HYin.out]
            rintro e w9 ⟨vl9, vc9, he, ho1, ho2, hb⟩
            have he' : e = .returned (.tuple #[.agg #[.int .i64 (ju).next, vl9, vc9], .bool true]) := he
            have ho1 : Own fc 4 44 w9 W8.heap.size vl9 (ju).list := ho1
            have ho2 : Own wc 2 59 w9 W8.heap.size vc9 (ju).cut := ho2
            clear he
            subst he'
            clear hju e1 e2 e3
            obtain ⟨al9, cl9, rfl⟩ := ho1.slice
            obtain ⟨ax9, cx9, rfl⟩ := ho2.slice
            obtain ⟨m9, hm⟩ : ∃ m, ju.list.length = m := ⟨_, rfl⟩
            obtain ⟨c9, hc⟩ : ∃ m, ju.cut.length = m := ⟨_, rfl⟩
            have HM9 := Lib.hid hm; have HC9 := Lib.hid hc
            rw [hm] at ho1 ⊢
            rw [hc] at ho2 ⊢
            have hn := below_new w9 (.cells #[.int .i64 ju.next, .slice al9 m9 cl9, .slice ax9 c9 cx9] 25)
            have HX9 := Lib.hid (fbox_new w9 ju.next (.slice al9 m9 cl9) (.slice ax9 c9 cx9))
            have HF9 := Lib.hid (show FlR (w9.alloc (.cells #[.int .i64 ju.next, .slice al9 m9 cl9, .slice ax9 c9 cx9] 25)) (.agg #[.int .i64 ju.next, .slice al9 m9 cl9, .slice ax9 c9 cx9]) ju from ⟨_, _, rfl, (ho1.below hn).read fc_len, (ho2.below hn).read wc_len⟩)
            have hb := hb.trans (hn.mono hb.size)
            have HW9 := Lib.hid (HW8.out.trans (hb.mono HW8.out.size))
            clear ho1 ho2 hb hn hm hc
            have hcc : f.cut.length = c9 := by rw [← HC9.out, HYc.out]
            go_upto_region 21 with fail
            generalize w9.alloc (.cells #[.int .i64 ju.next, .slice al9 m9 cl9, .slice ax9 c9 cx9] 25) = W9 at HW9 HX9 HF9 ⊢
            generalize w9.heap.size = X9 at HX9 ⊢
            obtain ⟨e1, e2, e3⟩ := (HX.out.keep HW9.out).cells
            obtain ⟨z1, z2, z3⟩ := HX9.out.cells
            rw [hcc] at e3
            clear hcc
            go_wp2_with fail
            refine (awake_any _).mono ?_
            rintro e w99 ⟨rfl, hb⟩
            have HW99 := Lib.hid (HW9.out.trans (hb.mono HW9.out.size))
            clear hb e1 e2 e3 z1 z2 z3
            go_wp2
            go_ret
            exact ⟨rfl, HB.out.trans (HW99.out.mono HB.out.size)⟩
    · by_cases hp1 : 0 < a.length
      · have hp2' : ¬ (0 : Int) < b.length := by omega
        have hp1' : (0 : Int) < a.length := by omega
        go_upto_region 13 with fail
        clear hp1 hp1' hp2' hpos
        go_upto_region 13 with fail
        obtain ⟨e1, e2, e3⟩ := (HX.out.keep HW3.out).cells
        go_wp2_with fail
        refine (Cut_any _ f i k _ (HFl.out _ HW3.out) HFits.out HIk.out (by have := HBd.out; omega)).mono ?_
        rintro e w5 ⟨vl5, vc5, he, ho1, ho2, hb⟩
        have he' : e = .returned (.tuple #[.agg #[.int .i64 (cutE f i k).next, vl5, vc5], .int .i64 ((f.list.length : Int) - ((cutE f i k).list.length : Nat))]) := he
        have ho1 : Own fc 4 44 w5 w3.heap.size vl5 (cutE f i k).list := ho1
        have ho2 : Own wc 2 59 w5 w3.heap.size vc5 (cutE f i k).cut := ho2
        clear he
        obtain ⟨hgy, -⟩ := good_cut HG.out i k HIk.out
        have h2 := cut_twice f i k
        have hcj := cut_join HG.out i k
        obtain ⟨y, hy⟩ : ∃ y, cutE f i k = y := ⟨_, rfl⟩
        rw [hy] at he' ho1 ho2 hgy hcj h2
        subst he'
        have HGy := Lib.hid hgy; have H2 := Lib.hid h2; have HCj := Lib.hid hcj
        clear hgy h2 hcj hy e1 e2 e3
        obtain ⟨al5, cl5, rfl⟩ := ho1.slice
        obtain ⟨ax5, cx5, rfl⟩ := ho2.slice
        obtain ⟨m5, hm⟩ : ∃ m, y.list.length = m := ⟨_, rfl⟩
        obtain ⟨c5, hc⟩ : ∃ m, y.cut.length = m := ⟨_, rfl⟩
        have HM5 := Lib.hid hm; have HC5 := Lib.hid hc
        rw [hm] at ho1 ⊢
        rw [hc] at ho2 ⊢
        have hn := below_new w5 (.cells #[.int .i64 y.next, .slice al5 m5 cl5, .slice ax5 c5 cx5] 25)
        have HX5 := Lib.hid (fbox_new w5 y.next (.slice al5 m5 cl5) (.slice ax5 c5 cx5))
        have HF5 := Lib.hid (show FlR (w5.alloc (.cells #[.int .i64 y.next, .slice al5 m5 cl5, .slice ax5 c5 cx5] 25)) (.agg #[.int .i64 y.next, .slice al5 m5 cl5, .slice ax5 c5 cx5]) y from ⟨_, _, rfl, (ho1.below hn).read fc_len, (ho2.below hn).read wc_len⟩)
        have hb := hb.trans (hn.mono hb.size)
        have HW5 := Lib.hid (HW3.out.trans (hb.mono HW3.out.size))
        clear ho1 ho2 hb hn hm hc
        go_upto_region 14 with fail
        generalize w5.alloc (.cells #[.int .i64 y.next, .slice al5 m5 cl5, .slice ax5 c5 cx5] 25) = W5 at HW5 HX5 HF5 ⊢
        generalize w5.heap.size = X5 at HX5 ⊢
        have HR5 := Lib.hid (Below.refl W5.heap.size W5)
        have HK5 : Hid (∀ u, Below W5.heap.size W5 u → FBox u X5 y.next (.slice al5 m5 cl5) (.slice ax5 c5 cx5) ∧ FlR u (.agg #[.int .i64 y.next, .slice al5 m5 cl5, .slice ax5 c5 cx5]) y) := Lib.hid (fun u hu => ⟨HX5.out.keep hu, HF5.out.keep hu⟩)
        obtain ⟨e1, e2, e3⟩ := HX5.out.cells
        go_wp2_with fail
        refine (Cut_any _ y i k _ HF5.out (HGy.out.fits (by have := HBd.out; omega)) HIk.out (by have := HGy.out.cl; have := HBd.out; omega)).mono ?_
        rintro e w6 ⟨vl6, vc6, he, ho1, ho2, hb⟩
        have he' : e = .returned (.tuple #[.agg #[.int .i64 (cutE y i k).next, vl6, vc6], .int .i64 ((y.list.length : Int) - ((cutE y i k).list.length : Nat))]) := he
        have ho1 : Own fc 4 44 w6 W5.heap.size vl6 (cutE y i k).list := ho1
        have ho2 : Own wc 2 59 w6 W5.heap.size vc6 (cutE y i k).cut := ho2
        clear he
        rw [H2.out] at he' ho1 ho2
        rw [Int.sub_self] at he'
        subst he'
        clear e1 e2 e3
        obtain ⟨al6, cl6, rfl⟩ := ho1.slice
        obtain ⟨ax6, cx6, rfl⟩ := ho2.slice
        obtain ⟨m6, hm⟩ : ∃ m, y.list.length = m := ⟨_, rfl⟩
        obtain ⟨c6, hc⟩ : ∃ m, y.cut.length = m := ⟨_, rfl⟩
        have HM6 := Lib.hid hm; have HC6 := Lib.hid hc
        rw [hm] at ho1 ⊢
        rw [hc] at ho2 ⊢
        have hn := below_new w6 (.cells #[.int .i64 y.next, .slice al6 m6 cl6, .slice ax6 c6 cx6] 25)
        have HX6 := Lib.hid (fbox_new w6 y.next (.slice al6 m6 cl6) (.slice ax6 c6 cx6))
        have HF6 := Lib.hid (show FlR (w6.alloc (.cells #[.int .i64 y.next, .slice al6 m6 cl6, .slice ax6 c6 cx6] 25)) (.agg #[.int .i64 y.next, .slice al6 m6 cl6, .slice ax6 c6 cx6]) y from ⟨_, _, rfl, (ho1.below hn).read fc_len, (ho2.below hn).read wc_len⟩)
        have hb := hb.trans (hn.mono hb.size)
        have HW6 := Lib.hid (HW5.out.trans (hb.mono HW5.out.size))
        have HV6 := Lib.hid (HR5.out.trans (hb.mono HR5.out.size))
        clear ho1 ho2 hb hn hm hc
        go_upto_region 15 with fail
        generalize w6.alloc (.cells #[.int .i64 y.next, .slice al6 m6 cl6, .slice ax6 c6 cx6] 25) = W6 at HW6 HV6 HX6 HF6 ⊢
        generalize w6.heap.size = X6 at HX6 ⊢
        obtain ⟨e1, e2, e3⟩ := (HK5.out _ HV6.out).1.cells
        obtain ⟨z1, z2, z3⟩ := HX6.out.cells
        go_wp2_with fail
        refine (same_v _ _ y y _ (HK5.out _ HV6.out).2 HF6.out).mono ?_
        rintro e w7 ⟨rfl, hb⟩
        rw [sameB_self]
        have HW7 := Lib.hid (HW6.out.trans (hb.mono HW6.out.size))
        have HV7 := Lib.hid (HV6.out.trans (hb.mono HV6.out.size))
        clear hb e1 e2 e3 z1 z2 z3
        go_upto_region 17 with fail
        obtain ⟨e1, e2, e3⟩ := (HX.out.keep HW7.out).cells
        go_wp2_with fail
        refine (Join_any _ f i k _ (HFl.out _ HW7.out) HFits.out HIk.out HG.out.nodup).mono ?_
        obtain ⟨jf, hjf⟩ : ∃ j, joinE f (i, k) = j := ⟨_, rfl⟩
        rw [hjf]
        rintro e w8 ⟨vl8, vc8, he, ho1, ho2, hb⟩
        have he' : e = .returned (.tuple #[.agg #[.int .i64 (jf).next, vl8, vc8], .bool (decide ((i, k) ∈ f.cut))]) := he
        have ho1 : Own fc 4 44 w8 w7.heap.size vl8 (jf).list := ho1
        have ho2 : Own wc 2 59 w8 w7.heap.size vc8 (jf).cut := ho2
        clear he
        subst he'
        clear hjf e1 e2 e3
        obtain ⟨al8, cl8, rfl⟩ := ho1.slice
        obtain ⟨ax8, cx8, rfl⟩ := ho2.slice
        obtain ⟨m8, hm⟩ : ∃ m, jf.list.length = m := ⟨_, rfl⟩
        obtain ⟨c8, hc⟩ : ∃ m, jf.cut.length = m := ⟨_, rfl⟩
        have HM8 := Lib.hid hm; have HC8 := Lib.hid hc
        rw [hm] at ho1 ⊢
        rw [hc] at ho2 ⊢
        have hn := below_new w8 (.cells #[.int .i64 jf.next, .slice al8 m8 cl8, .slice ax8 c8 cx8] 25)
        have HX8 := Lib.hid (fbox_new w8 jf.next (.slice al8 m8 cl8) (.slice ax8 c8 cx8))
        have HF8 := Lib.hid (show FlR (w8.alloc (.cells #[.int .i64 jf.next, .slice al8 m8 cl8, .slice ax8 c8 cx8] 25)) (.agg #[.int .i64 jf.next, .slice al8 m8 cl8, .slice ax8 c8 cx8]) jf from ⟨_, _, rfl, (ho1.below hn).read fc_len, (ho2.below hn).read wc_len⟩)
        have hb := hb.trans (hn.mono hb.size)
        have HW8 := Lib.hid (HW7.out.trans (hb.mono HW7.out.size))
        have HV8 := Lib.hid (HV7.out.trans (hb.mono HV7.out.size))
        clear ho1 ho2 hb hn hm hc
        go_upto_region 18 with fail
        generalize w8.alloc (.cells #[.int .i64 jf.next, .slice al8 m8 cl8, .slice ax8 c8 cx8] 25) = W8 at HW8 HV8 HX8 HF8 ⊢
        generalize w8.heap.size = X8 at HX8 ⊢
        by_cases hin : (i, k) ∈ f.cut
        · rw [decide_eq_true hin]
          clear hin
          go_wp2_with fail
          refine (awake_any _).mono ?_
          rintro e w99 ⟨rfl, hb⟩
          have HW99 := Lib.hid (HW8.out.trans (hb.mono HW8.out.size))
          clear hb
          go_wp2
          go_ret
          exact ⟨rfl, HB.out.trans (HW99.out.mono HB.out.size)⟩
        · rw [decide_eq_false hin]
          by_cases hik : i = k
          · have d0 : True → (i == k) = true := fun _ => by simp [hik]
            clear hik hin
            go_wp2_with fail
            refine (awake_any _).mono ?_
            rintro e w99 ⟨rfl, hb⟩
            have HW99 := Lib.hid (HW8.out.trans (hb.mono HW8.out.size))
            clear hb
            go_wp2
            go_ret
            exact ⟨rfl, HB.out.trans (HW99.out.mono HB.out.size)⟩
          · have d0 : True → (i == k) = false := fun _ => by simp [hik]
            obtain ⟨hyin, hycut⟩ := HCj.out hin hik
            have HYin := Lib.hid hyin; have HYc := Lib.hid hycut
            clear hik hin hyin hycut
            go_upto_region 20 with fail
            clear d0
            obtain ⟨e1, e2, e3⟩ := (HK5.out _ HV8.out).1.cells
            go_wp2_with fail
            refine (Join_any _ y i k _ (HK5.out _ HV8.out).2 (HGy.out.fits (by have := HBd.out; omega)) HIk.out HGy.out.nodup).mono ?_
            obtain ⟨ju, hju⟩ : ∃ j, joinE y (i, k) = j := ⟨_, rfl⟩
            rw [hju] at HYc ⊢
            rw [decide_eq_true HYin.out]
            rintro e w9 ⟨vl9, vc9, he, ho1, ho2, hb⟩
            have he' : e = .returned (.tuple #[.agg #[.int .i64 (ju).next, vl9, vc9], .bool true]) := he
            have ho1 : Own fc 4 44 w9 W8.heap.size vl9 (ju).list := ho1
            have ho2 : Own wc 2 59 w9 W8.heap.size vc9 (ju).cut := ho2
            clear he
            subst he'
            clear hju e1 e2 e3
            obtain ⟨al9, cl9, rfl⟩ := ho1.slice
            obtain ⟨ax9, cx9, rfl⟩ := ho2.slice
            obtain ⟨m9, hm⟩ : ∃ m, ju.list.length = m := ⟨_, rfl⟩
            obtain ⟨c9, hc⟩ : ∃ m, ju.cut.length = m := ⟨_, rfl⟩
            have HM9 := Lib.hid hm; have HC9 := Lib.hid hc
            rw [hm] at ho1 ⊢
            rw [hc] at ho2 ⊢
            have hn := below_new w9 (.cells #[.int .i64 ju.next, .slice al9 m9 cl9, .slice ax9 c9 cx9] 25)
            have HX9 := Lib.hid (fbox_new w9 ju.next (.slice al9 m9 cl9) (.slice ax9 c9 cx9))
            have HF9 := Lib.hid (show FlR (w9.alloc (.cells #[.int .i64 ju.next, .slice al9 m9 cl9, .slice ax9 c9 cx9] 25)) (.agg #[.int .i64 ju.next, .slice al9 m9 cl9, .slice ax9 c9 cx9]) ju from ⟨_, _, rfl, (ho1.below hn).read fc_len, (ho2.below hn).read wc_len⟩)
            have hb := hb.trans (hn.mono hb.size)
            have HW9 := Lib.hid (HW8.out.trans (hb.mono HW8.out.size))
            clear ho1 ho2 hb hn hm hc
            have hcc : f.cut.length = c9 := by rw [← HC9.out, HYc.out]
            go_upto_region 21 with fail
            generalize w9.alloc (.cells #[.int .i64 ju.next, .slice al9 m9 cl9, .slice ax9 c9 cx9] 25) = W9 at HW9 HX9 HF9 ⊢
            generalize w9.heap.size = X9 at HX9 ⊢
            obtain ⟨e1, e2, e3⟩ := (HX.out.keep HW9.out).cells
            obtain ⟨z1, z2, z3⟩ := HX9.out.cells
            rw [hcc] at e3
            clear hcc
            go_wp2_with fail
            refine (awake_any _).mono ?_
            rintro e w99 ⟨rfl, hb⟩
            have HW99 := Lib.hid (HW9.out.trans (hb.mono HW9.out.size))
            clear hb e1 e2 e3 z1 z2 z3
            go_wp2
            go_ret
            exact ⟨rfl, HB.out.trans (HW99.out.mono HB.out.size)⟩
      · have hp1' : ¬ (0 : Int) < a.length := by omega
        go_upto_region 13 with fail
        clear hp1 hp1' hpos
        go_upto_region 13 with fail
        obtain ⟨e1, e2, e3⟩ := (HX.out.keep HW3.out).cells
        go_wp2_with fail
        refine (Cut_any _ f i k _ (HFl.out _ HW3.out) HFits.out HIk.out (by have := HBd.out; omega)).mono ?_
        rintro e w5 ⟨vl5, vc5, he, ho1, ho2, hb⟩
        have he' : e = .returned (.tuple #[.agg #[.int .i64 (cutE f i k).next, vl5, vc5], .int .i64 ((f.list.length : Int) - ((cutE f i k).list.length : Nat))]) := he
        have ho1 : Own fc 4 44 w5 w3.heap.size vl5 (cutE f i k).list := ho1
        have ho2 : Own wc 2 59 w5 w3.heap.size vc5 (cutE f i k).cut := ho2
        clear he
        obtain ⟨hgy, -⟩ := good_cut HG.out i k HIk.out
        have h2 := cut_twice f i k
        have hcj := cut_join HG.out i k
        obtain ⟨y, hy⟩ : ∃ y, cutE f i k = y := ⟨_, rfl⟩
        rw [hy] at he' ho1 ho2 hgy hcj h2
        subst he'
        have HGy := Lib.hid hgy; have H2 := Lib.hid h2; have HCj := Lib.hid hcj
        clear hgy h2 hcj hy e1 e2 e3
        obtain ⟨al5, cl5, rfl⟩ := ho1.slice
        obtain ⟨ax5, cx5, rfl⟩ := ho2.slice
        obtain ⟨m5, hm⟩ : ∃ m, y.list.length = m := ⟨_, rfl⟩
        obtain ⟨c5, hc⟩ : ∃ m, y.cut.length = m := ⟨_, rfl⟩
        have HM5 := Lib.hid hm; have HC5 := Lib.hid hc
        rw [hm] at ho1 ⊢
        rw [hc] at ho2 ⊢
        have hn := below_new w5 (.cells #[.int .i64 y.next, .slice al5 m5 cl5, .slice ax5 c5 cx5] 25)
        have HX5 := Lib.hid (fbox_new w5 y.next (.slice al5 m5 cl5) (.slice ax5 c5 cx5))
        have HF5 := Lib.hid (show FlR (w5.alloc (.cells #[.int .i64 y.next, .slice al5 m5 cl5, .slice ax5 c5 cx5] 25)) (.agg #[.int .i64 y.next, .slice al5 m5 cl5, .slice ax5 c5 cx5]) y from ⟨_, _, rfl, (ho1.below hn).read fc_len, (ho2.below hn).read wc_len⟩)
        have hb := hb.trans (hn.mono hb.size)
        have HW5 := Lib.hid (HW3.out.trans (hb.mono HW3.out.size))
        clear ho1 ho2 hb hn hm hc
        go_upto_region 14 with fail
        generalize w5.alloc (.cells #[.int .i64 y.next, .slice al5 m5 cl5, .slice ax5 c5 cx5] 25) = W5 at HW5 HX5 HF5 ⊢
        generalize w5.heap.size = X5 at HX5 ⊢
        have HR5 := Lib.hid (Below.refl W5.heap.size W5)
        have HK5 : Hid (∀ u, Below W5.heap.size W5 u → FBox u X5 y.next (.slice al5 m5 cl5) (.slice ax5 c5 cx5) ∧ FlR u (.agg #[.int .i64 y.next, .slice al5 m5 cl5, .slice ax5 c5 cx5]) y) := Lib.hid (fun u hu => ⟨HX5.out.keep hu, HF5.out.keep hu⟩)
        obtain ⟨e1, e2, e3⟩ := HX5.out.cells
        go_wp2_with fail
        refine (Cut_any _ y i k _ HF5.out (HGy.out.fits (by have := HBd.out; omega)) HIk.out (by have := HGy.out.cl; have := HBd.out; omega)).mono ?_
        rintro e w6 ⟨vl6, vc6, he, ho1, ho2, hb⟩
        have he' : e = .returned (.tuple #[.agg #[.int .i64 (cutE y i k).next, vl6, vc6], .int .i64 ((y.list.length : Int) - ((cutE y i k).list.length : Nat))]) := he
        have ho1 : Own fc 4 44 w6 W5.heap.size vl6 (cutE y i k).list := ho1
        have ho2 : Own wc 2 59 w6 W5.heap.size vc6 (cutE y i k).cut := ho2
        clear he
        rw [H2.out] at he' ho1 ho2
        rw [Int.sub_self] at he'
        subst he'
        clear e1 e2 e3
        obtain ⟨al6, cl6, rfl⟩ := ho1.slice
        obtain ⟨ax6, cx6, rfl⟩ := ho2.slice
        obtain ⟨m6, hm⟩ : ∃ m, y.list.length = m := ⟨_, rfl⟩
        obtain ⟨c6, hc⟩ : ∃ m, y.cut.length = m := ⟨_, rfl⟩
        have HM6 := Lib.hid hm; have HC6 := Lib.hid hc
        rw [hm] at ho1 ⊢
        rw [hc] at ho2 ⊢
        have hn := below_new w6 (.cells #[.int .i64 y.next, .slice al6 m6 cl6, .slice ax6 c6 cx6] 25)
        have HX6 := Lib.hid (fbox_new w6 y.next (.slice al6 m6 cl6) (.slice ax6 c6 cx6))
        have HF6 := Lib.hid (show FlR (w6.alloc (.cells #[.int .i64 y.next, .slice al6 m6 cl6, .slice ax6 c6 cx6] 25)) (.agg #[.int .i64 y.next, .slice al6 m6 cl6, .slice ax6 c6 cx6]) y from ⟨_, _, rfl, (ho1.below hn).read fc_len, (ho2.below hn).read wc_len⟩)
        have hb := hb.trans (hn.mono hb.size)
        have HW6 := Lib.hid (HW5.out.trans (hb.mono HW5.out.size))
        have HV6 := Lib.hid (HR5.out.trans (hb.mono HR5.out.size))
        clear ho1 ho2 hb hn hm hc
        go_upto_region 15 with fail
        generalize w6.alloc (.cells #[.int .i64 y.next, .slice al6 m6 cl6, .slice ax6 c6 cx6] 25) = W6 at HW6 HV6 HX6 HF6 ⊢
        generalize w6.heap.size = X6 at HX6 ⊢
        obtain ⟨e1, e2, e3⟩ := (HK5.out _ HV6.out).1.cells
        obtain ⟨z1, z2, z3⟩ := HX6.out.cells
        go_wp2_with fail
        refine (same_v _ _ y y _ (HK5.out _ HV6.out).2 HF6.out).mono ?_
        rintro e w7 ⟨rfl, hb⟩
        rw [sameB_self]
        have HW7 := Lib.hid (HW6.out.trans (hb.mono HW6.out.size))
        have HV7 := Lib.hid (HV6.out.trans (hb.mono HV6.out.size))
        clear hb e1 e2 e3 z1 z2 z3
        go_upto_region 17 with fail
        obtain ⟨e1, e2, e3⟩ := (HX.out.keep HW7.out).cells
        go_wp2_with fail
        refine (Join_any _ f i k _ (HFl.out _ HW7.out) HFits.out HIk.out HG.out.nodup).mono ?_
        obtain ⟨jf, hjf⟩ : ∃ j, joinE f (i, k) = j := ⟨_, rfl⟩
        rw [hjf]
        rintro e w8 ⟨vl8, vc8, he, ho1, ho2, hb⟩
        have he' : e = .returned (.tuple #[.agg #[.int .i64 (jf).next, vl8, vc8], .bool (decide ((i, k) ∈ f.cut))]) := he
        have ho1 : Own fc 4 44 w8 w7.heap.size vl8 (jf).list := ho1
        have ho2 : Own wc 2 59 w8 w7.heap.size vc8 (jf).cut := ho2
        clear he
        subst he'
        clear hjf e1 e2 e3
        obtain ⟨al8, cl8, rfl⟩ := ho1.slice
        obtain ⟨ax8, cx8, rfl⟩ := ho2.slice
        obtain ⟨m8, hm⟩ : ∃ m, jf.list.length = m := ⟨_, rfl⟩
        obtain ⟨c8, hc⟩ : ∃ m, jf.cut.length = m := ⟨_, rfl⟩
        have HM8 := Lib.hid hm; have HC8 := Lib.hid hc
        rw [hm] at ho1 ⊢
        rw [hc] at ho2 ⊢
        have hn := below_new w8 (.cells #[.int .i64 jf.next, .slice al8 m8 cl8, .slice ax8 c8 cx8] 25)
        have HX8 := Lib.hid (fbox_new w8 jf.next (.slice al8 m8 cl8) (.slice ax8 c8 cx8))
        have HF8 := Lib.hid (show FlR (w8.alloc (.cells #[.int .i64 jf.next, .slice al8 m8 cl8, .slice ax8 c8 cx8] 25)) (.agg #[.int .i64 jf.next, .slice al8 m8 cl8, .slice ax8 c8 cx8]) jf from ⟨_, _, rfl, (ho1.below hn).read fc_len, (ho2.below hn).read wc_len⟩)
        have hb := hb.trans (hn.mono hb.size)
        have HW8 := Lib.hid (HW7.out.trans (hb.mono HW7.out.size))
        have HV8 := Lib.hid (HV7.out.trans (hb.mono HV7.out.size))
        clear ho1 ho2 hb hn hm hc
        go_upto_region 18 with fail
        generalize w8.alloc (.cells #[.int .i64 jf.next, .slice al8 m8 cl8, .slice ax8 c8 cx8] 25) = W8 at HW8 HV8 HX8 HF8 ⊢
        generalize w8.heap.size = X8 at HX8 ⊢
        by_cases hin : (i, k) ∈ f.cut
        · rw [decide_eq_true hin]
          clear hin
          go_wp2_with fail
          refine (awake_any _).mono ?_
          rintro e w99 ⟨rfl, hb⟩
          have HW99 := Lib.hid (HW8.out.trans (hb.mono HW8.out.size))
          clear hb
          go_wp2
          go_ret
          exact ⟨rfl, HB.out.trans (HW99.out.mono HB.out.size)⟩
        · rw [decide_eq_false hin]
          by_cases hik : i = k
          · have d0 : True → (i == k) = true := fun _ => by simp [hik]
            clear hik hin
            go_wp2_with fail
            refine (awake_any _).mono ?_
            rintro e w99 ⟨rfl, hb⟩
            have HW99 := Lib.hid (HW8.out.trans (hb.mono HW8.out.size))
            clear hb
            go_wp2
            go_ret
            exact ⟨rfl, HB.out.trans (HW99.out.mono HB.out.size)⟩
          · have d0 : True → (i == k) = false := fun _ => by simp [hik]
            obtain ⟨hyin, hycut⟩ := HCj.out hin hik
            have HYin := Lib.hid hyin; have HYc := Lib.hid hycut
            clear hik hin hyin hycut
            go_upto_region 20 with fail
            clear d0
            obtain ⟨e1, e2, e3⟩ := (HK5.out _ HV8.out).1.cells
            go_wp2_with fail
            refine (Join_any _ y i k _ (HK5.out _ HV8.out).2 (HGy.out.fits (by have := HBd.out; omega)) HIk.out HGy.out.nodup).mono ?_
            obtain ⟨ju, hju⟩ : ∃ j, joinE y (i, k) = j := ⟨_, rfl⟩
            rw [hju] at HYc ⊢
            rw [decide_eq_true HYin.out]
            rintro e w9 ⟨vl9, vc9, he, ho1, ho2, hb⟩
            have he' : e = .returned (.tuple #[.agg #[.int .i64 (ju).next, vl9, vc9], .bool true]) := he
            have ho1 : Own fc 4 44 w9 W8.heap.size vl9 (ju).list := ho1
            have ho2 : Own wc 2 59 w9 W8.heap.size vc9 (ju).cut := ho2
            clear he
            subst he'
            clear hju e1 e2 e3
            obtain ⟨al9, cl9, rfl⟩ := ho1.slice
            obtain ⟨ax9, cx9, rfl⟩ := ho2.slice
            obtain ⟨m9, hm⟩ : ∃ m, ju.list.length = m := ⟨_, rfl⟩
            obtain ⟨c9, hc⟩ : ∃ m, ju.cut.length = m := ⟨_, rfl⟩
            have HM9 := Lib.hid hm; have HC9 := Lib.hid hc
            rw [hm] at ho1 ⊢
            rw [hc] at ho2 ⊢
            have hn := below_new w9 (.cells #[.int .i64 ju.next, .slice al9 m9 cl9, .slice ax9 c9 cx9] 25)
            have HX9 := Lib.hid (fbox_new w9 ju.next (.slice al9 m9 cl9) (.slice ax9 c9 cx9))
            have HF9 := Lib.hid (show FlR (w9.alloc (.cells #[.int .i64 ju.next, .slice al9 m9 cl9, .slice ax9 c9 cx9] 25)) (.agg #[.int .i64 ju.next, .slice al9 m9 cl9, .slice ax9 c9 cx9]) ju from ⟨_, _, rfl, (ho1.below hn).read fc_len, (ho2.below hn).read wc_len⟩)
            have hb := hb.trans (hn.mono hb.size)
            have HW9 := Lib.hid (HW8.out.trans (hb.mono HW8.out.size))
            clear ho1 ho2 hb hn hm hc
            have hcc : f.cut.length = c9 := by rw [← HC9.out, HYc.out]
            go_upto_region 21 with fail
            generalize w9.alloc (.cells #[.int .i64 ju.next, .slice al9 m9 cl9, .slice ax9 c9 cx9] 25) = W9 at HW9 HX9 HF9 ⊢
            generalize w9.heap.size = X9 at HX9 ⊢
            obtain ⟨e1, e2, e3⟩ := (HX.out.keep HW9.out).cells
            obtain ⟨z1, z2, z3⟩ := HX9.out.cells
            rw [hcc] at e3
            clear hcc
            go_wp2_with fail
            refine (awake_any _).mono ?_
            rintro e w99 ⟨rfl, hb⟩
            have HW99 := Lib.hid (HW9.out.trans (hb.mono HW9.out.size))
            clear hb e1 e2 e3 z1 z2 z3
            go_wp2
            go_ret
            exact ⟨rfl, HB.out.trans (HW99.out.mono HB.out.size)⟩


set_option maxRecDepth 100000 in
theorem liftedApart (os : Os) (started : os.Started) (H : Type) (enc : TypeId × Value → H) (F : Stop.Interp) :
    ReturnsInHanded {} Try.checked os 6 .any ((Rows.OpenSpec.upto Rows.flightApartSpec).pre6 enc Try.prog Try.f6 Rows.flightApartUptoRow.domain false) (((Rows.OpenSpec.upto Rows.flightApartSpec).at F).post enc Try.prog Try.f6 false true false false) := by
  refine lawUpto (C := Try.checked) (s := Rows.flightApartSpec) ownKn started (by kernel_rfl) Try.func6
    (OpenSpec.witness (enc := enc) (C := Try.checked) (s := Rows.OpenSpec.upto Rows.flightApartSpec) (k := Rows.uptoSmall) rfl false ⟨#[], #[.agg #[.int .i64 0, .slice none 0 0, .slice none 0 0], .slice none 0 0, .slice none 0 0, .int .i64 0, .int .i64 0], []⟩ 8 (by kernel_rfl) (by kernel_rfl) (by kernel_rfl)
      (x := ([.agg [.lit (.int .i64 0), .nil, .nil], .nil, .nil, .lit (.int .i64 0), .lit (.int .i64 0)], [], [])) (by kernel_rfl) rfl (by kernel_rfl)) laidOut (by kernel_rfl) 4 Try.underlying4 (by kernel_rfl) rfl ?_ ?_
  · intro ds hd
    match ds, hd with
    | [_, _, _, _, _], _ => rfl
  · intro W base args ds ps hg hb
    have hA : DataW.TrodAll enc Try.prog W 0 (fun _ => true) true Try.f6.params.toList args.toList ds ps := hg.read
    have hval : ∀ (j : Nat) t v, Try.f6.params[j]? = some t → args[j]? = some v → Value.okWide Try.prog W .any base t v := hg.ok
    have hz : (DataW.weightsEach Try.prog Try.f6.params.toList ds).all (· ≤ reachBytes) = true := hg.sized
    rw [Try.params6] at hA hval hz
    obtain ⟨v0, vs0, d0, ds0, p0, q0, hargs, rfl, rfl, h0, r0⟩ := trodAll_cons hA
    obtain ⟨v1, vs1, d1, ds1, p1, q1, rfl, rfl, rfl, h1, r1⟩ := trodAll_cons r0
    obtain ⟨v2, vs2, d2, ds2, p2, q2, rfl, rfl, rfl, h2, r2⟩ := trodAll_cons r1
    obtain ⟨v3, vs3, d3, ds3, p3, q3, rfl, rfl, rfl, h3, r3⟩ := trodAll_cons r2
    obtain ⟨v4, vs4, d4, ds4, p4, q4, rfl, rfl, rfl, h4, r4⟩ := trodAll_cons r3
    obtain ⟨rfl, rfl, rfl⟩ := trodAll_nil r4
    obtain rfl : args = #[v0, v1, v2, v3, v4] := by cases args; simp_all
    obtain ⟨z3, rfl, rfl, rfl, w3⟩ := open_int Try.underlying3 (hval 3 3 v3 rfl rfl) h3
    obtain ⟨z4, rfl, rfl, rfl, w4⟩ := open_int Try.underlying3 (hval 4 3 v4 rfl rfl) h4
    obtain ⟨f, hf, -, ho1, ho2, -, -⟩ := flt_open (hval 0 25 v0 rfl rfl) h0 (weight hz (j := 0) rfl rfl)
    obtain ⟨a, ha, hoa, hba⟩ := nums_open (hval 1 37 v1 rfl rfl) h1 (weight hz (j := 1) rfl rfl)
    obtain ⟨b, hb', hob, hbb⟩ := nums_open (hval 2 37 v2 rfl rfl) h2 (weight hz (j := 2) rfl rfl)
    obtain ⟨vl, vc, hv0, -, hc⟩ := id hf
    obtain ⟨ax, cx, hvc⟩ := hc.slice
    rw [hv0, hvc] at h0
    have hbf := flt_bulk h0
    simp only [Rows.uptoBulkAll] at hb
    exact walkApart v0 v1 v2 f a b z3 z4 W hf ho1 ho2 ha hb' hoa hob (i64_of w3) (i64_of w4) (by omega)

theorem apart_holds : Rows.FlightApartUptoSaid :=
  OpenClaim.holds_of_cond 6 Try.f6 rfl rfl rfl rfl rfl rfl rfl ⟨rfl, rfl, rfl, rfl, rfl⟩ rfl rfl rfl rfl rfl (by kernel_rfl) Try.func6 (by kernel_rfl)
    (of_decide_eq_true (by kernel_rfl)) (by unfold Func.isWrapper; first | (rw [if_pos (by decide +kernel)]; kernel_rfl) | (rw [if_neg (by decide +kernel)]; exact ⟨rfl, rfl⟩))
    (fun os started H enc _ F => liftedApart os started H enc F)

#print axioms apart_holds
end Go.Proofs.Ytakgpkjkdlacaaa.flight

