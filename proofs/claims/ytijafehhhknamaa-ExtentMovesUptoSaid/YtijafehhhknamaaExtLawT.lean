/- ExtentTells: what is free, what is taken, given back or claimed is as the document says. -/
import Derived.Test.YtijafehhhknamaaRows
import Derived.Test.YtijafehhhknamaaExtAwake
import Derived.Test.YtijafehhhknamaaExtT
import Derived.Test.YtijafehhhknamaaExtW
import Derived.Test.YtijafehhhknamaaExtLift
namespace Go.Proofs.Ytijafehhhknamaa.ext
open Go.ChangeShapes Go.WideShapes Go.ChangeAt Go.RowKit Go.Sort
open Go.Proofs.Ytijafehhhknamaa.kit Go.Proofs.Ytijafehhhknamaa.own Go.Proofs.Ytijafehhhknamaa.lift
set_option linter.unusedVariables false

theorem gap_sum : ∀ (xs : List Wy) (t p : Int), Pos xs → Gap xs → (∀ x ∈ xs, p ≤ x.1 ∧ x.1 + x.2 ≤ t) → p ≤ t → sumE xs ≤ t - p
  | [], t, p, _, _, _, h => by simp only [sumE]; omega
  | x :: r, t, p, hp, hg, hb, h => by
    have hb' := hb x (List.mem_cons_self ..)
    obtain ⟨gx, gr⟩ := gap_head hg
    have ih := gap_sum r t (x.1 + x.2) (fun z hz => hp z (List.mem_cons_of_mem _ hz)) gr (fun z hz => ⟨by have := gx z hz; omega, (hb z (List.mem_cons_of_mem _ hz)).2⟩) hb'.2
    simp only [sumE]
    omega
theorem Own.room {w : World} {e B : Nat} {v : Value} {xs : List Wy} (h : Own wc 2 e w B v xs) : ∃ a c, v = .slice a xs.length c ∧ xs.length ≤ c ∧ c ≤ maxLen := by
  rcases h.2 with ⟨rfl, h0⟩ | ⟨g, cap, cur, rfl, hB, hg, hc, hm, hs, ht⟩
  · exact ⟨none, 0, by rw [h0], by omega, by unfold maxLen; omega⟩
  · exact ⟨_, _, rfl, hc, hm⟩
/-- Fit free extents. -/
structure FitF (t : Int) (xs : List Wy) : Prop where
  row : rowE t = true
  lie : ∀ x ∈ xs, lieE t x = true
  gap : Gap xs
theorem FitF.of {t : Int} {xs : List Wy} (h : fitE t xs = true) : FitF t xs := by
  obtain ⟨h1, h2, h3⟩ := (fitE_iff t xs).1 h
  exact ⟨by simp [rowE]; omega, h2, h3⟩
theorem FitF.fine {t : Int} {xs : List Wy} (h : FitF t xs) : ∀ x ∈ xs, Fine x := lie_fine h.row h.lie
theorem FitF.ok {t : Int} {xs : List Wy} (h : FitF t xs) : ∀ x ∈ xs, Wy.Ok x := lie_ok h.row h.lie
theorem FitF.len {t : Int} {xs : List Wy} (h : FitF t xs) : xs.length ≤ 65536 := row_len h.row (lie_pos h.lie) h.gap h.lie
theorem FitF.sum {t : Int} {xs : List Wy} (h : FitF t xs) : sumE xs ≤ 65536 := by
  have hr : 0 ≤ t ∧ t ≤ 65536 := by simpa [rowE] using h.row
  have := gap_sum xs t 0 (lie_pos h.lie) h.gap (fun x hx => by have := (lieE_iff t x).1 (h.lie x hx); omega) hr.1
  omega

set_option maxHeartbeats 16000000 in
set_option maxRecDepth 100000 in
theorem walkTells (t : Int) (vf : Value) (free : List Wy) (n : Int) (vl : Value) (l : List Wy) (W : World) (hf : Sl wc 2 W vf free) (hl : Sl wc 2 W vl l) (hof : ∀ x ∈ free, Wy.Ok x) (hol : ∀ x ∈ l, Wy.Ok x)
    (hn : -9223372036854775808 ≤ n ∧ n ≤ 9223372036854775807) (hll : l.length ≤ 1048576) :
    Calls Try.prog 3 #[.int .i64 t, vf, .int .i64 n, vl] W fun e w' => e = .returned (.bool true) ∧ Below W.heap.size W w' := by
  have HFr := Lib.hid hf; have HLs := Lib.hid hl; have HOf := Lib.hid hof; have HOl := Lib.hid hol; have HLl := Lib.hid hll; have HN := Lib.hid hn
  obtain ⟨af, cf, rfl⟩ := hf.slice
  obtain ⟨al, cl, rfl⟩ := hl.slice
  clear hf hl hof hol hll hn
  go_enter Try.func3, Try.ntmps3
  go_wp2_with fail
  refine (Fit_any t _ free _ HFr.out HOf.out).mono ?_
  rintro e w1 ⟨rfl, hb1⟩
  have HB1 := Lib.hid hb1
  have HF1 := Lib.hid (HFr.out.keep hb1)
  clear hb1
  go_wp2_with fail
  refine (rFit_any t _ free _ HF1.out HOf.out).mono ?_
  rintro e w2 ⟨rfl, hb2⟩
  have HB2 := Lib.hid (HB1.out.trans (hb2.mono HB1.out.size))
  clear hb2
  go_wp2_with fail
  refine (All_any t _).mono ?_
  rintro e w3 ⟨v3, rfl, ho3, hb3⟩
  have HB3 := Lib.hid (HB2.out.trans (hb3.mono HB2.out.size))
  have HS3 := Lib.hid (ho3.read wc_len)
  obtain ⟨a3, c3, rfl⟩ := ho3.slice
  clear hb3 ho3
  go_wp2_with fail
  refine (rAll_any t _).mono ?_
  rintro e w4 ⟨v4, rfl, ho4, hb4⟩
  have HB4 := Lib.hid (HB3.out.trans (hb4.mono HB3.out.size))
  have HS4 := Lib.hid ho4; have HS34 := Lib.hid (HS3.out.keep hb4)
  obtain ⟨a4, c4, rfl⟩ := ho4.slice
  clear hb4 ho4
  go_wp2_with fail
  refine (same_any _ _ _ _ _ HS34.out HS4.out).mono ?_
  rintro e w5 h5
  obtain ⟨rfl, hb5⟩ := eqS_true h5
  clear h5
  have HB5 := Lib.hid (HB4.out.trans (hb5.mono HB4.out.size))
  have HF5 := Lib.hid (HFr.out.keep HB5.out)
  clear hb5
  go_wp2_with fail
  refine (rFit_any t _ free _ HF5.out HOf.out).mono ?_
  rintro e w6 ⟨rfl, hb6⟩
  have HB6 := Lib.hid (HB5.out.trans (hb6.mono HB5.out.size))
  clear hb6
  cases hfit : fitE t free with
  | false =>
    clear hfit
    go_wp2_with fail
    refine (awake_any _).mono ?_
    rintro e w7 ⟨rfl, hb7⟩
    have HB7 := Lib.hid (HB6.out.trans (hb7.mono HB6.out.size))
    clear hb7
    go_wp2
    go_ret
    exact ⟨rfl, HB7.out⟩
  | true =>
    have HFit := Lib.hid (FitF.of hfit)
    have hrow : 0 ≤ t ∧ t ≤ 65536 := by simpa [rowE] using HFit.out.row
    clear hfit
    obtain ⟨tn, rfl⟩ : ∃ tn : Nat, t = tn := ⟨t.toNat, by omega⟩
    have HTn := Lib.hid (show tn ≤ 65536 by omega)
    clear hrow
    have HF6 := Lib.hid (HFr.out.keep HB6.out)
    have HLen := Lib.hid HFit.out.len
    go_wp2_with fail
    refine (copied_any _ free _ HF6.out (by have := HLen.out; omega)).mono ?_
    rintro e w7 ⟨v7, rfl, ho7, hb7⟩
    have HB7 := Lib.hid (HB6.out.trans (hb7.mono HB6.out.size))
    have HO7 := Lib.hid (ho7.read wc_len)
    obtain ⟨a7, c7, rfl, hc7, hm7⟩ := ho7.room
    have HC7 := Lib.hid hc7; have HM7 := Lib.hid hm7
    clear hb7 ho7 hc7 hm7
    go_wp2_with fail
    refine (Take_any a7 c7 free n _ HO7.out HC7.out HM7.out HFit.out.fine HFit.out.sum (by have := HLen.out; omega)).mono ?_
    rintro e w8 ⟨va, vb, rfl, hoa, hob, hb8⟩
    have HB8 := Lib.hid (HB7.out.trans (hb8.mono HB7.out.size))
    have HA8 := Lib.hid (hoa.read wc_len); have HBb8 := Lib.hid (hob.read wc_len)
    obtain ⟨xa, ya, rfl⟩ := hoa.slice
    obtain ⟨xb, yb, rfl⟩ := hob.slice
    have HO8 := Lib.hid (HO7.out.keep hb8)
    clear hoa hob hb8
    have HF8 := Lib.hid (HFr.out.keep HB8.out)
    go_wp2_with fail
    refine (rTake_any _ free n _ HF8.out HFit.out.fine HFit.out.gap HFit.out.sum HN.out (by have := HLen.out; omega)).mono ?_
    rintro e w9 ⟨va2, vb2, rfl, hoa2, hob2, hb9⟩
    have HB9 := Lib.hid (HB8.out.trans (hb9.mono HB8.out.size))
    have HA9 := Lib.hid (hoa2.read wc_len); have HBb9 := Lib.hid (hob2.read wc_len)
    have HA89 := Lib.hid (HA8.out.keep hb9); have HBb89 := Lib.hid (HBb8.out.keep hb9)
    have HO9 := Lib.hid (HO8.out.keep hb9)
    obtain ⟨xa2, ya2, rfl⟩ := hoa2.slice
    obtain ⟨xb2, yb2, rfl⟩ := hob2.slice
    clear hoa2 hob2 hb9
    go_wp2_with fail
    refine (same_any _ _ _ _ _ HA89.out HA9.out).mono ?_
    rintro e w10 h10
    obtain ⟨rfl, hb10⟩ := eqS_true h10
    have HB10 := Lib.hid (HB9.out.trans (hb10.mono HB9.out.size))
    have HBb10 := Lib.hid (HBb9.out.keep hb10); have HBb810 := Lib.hid (HBb89.out.keep hb10); have HO10 := Lib.hid (HO9.out.keep hb10)
    clear h10 hb10
    go_wp2_with fail
    refine (same_any _ _ _ _ _ HBb810.out HBb10.out).mono ?_
    rintro e w11 h11
    obtain ⟨rfl, hb11⟩ := eqS_true h11
    have HB11 := Lib.hid (HB10.out.trans (hb11.mono HB10.out.size))
    have HO11 := Lib.hid (HO10.out.keep hb11)
    clear h11 hb11
    have HL11 := Lib.hid (HLs.out.keep HB11.out)
    go_wp2_with fail
    refine (Give_any tn _ _ free l _ HO11.out HL11.out HFit.out.row HFit.out.lie HOl.out (by have := HLen.out; have := HLl.out; omega)).mono ?_
    rintro e w12 ⟨v12, r12, e12, rfl, ho12, hb12, hr12⟩
    have HB12 := Lib.hid (HB11.out.trans (hb12.mono HB11.out.size))
    have HS12 := Lib.hid (ho12.read wc_len); have HR12 := Lib.hid hr12
    obtain ⟨x12, y12, rfl⟩ := ho12.slice
    have HO12 := Lib.hid (HO11.out.keep hb12)
    clear ho12 hb12 hr12
    have HF12 := Lib.hid (HFr.out.keep HB12.out); have HL12 := Lib.hid (HLs.out.keep HB12.out)
    go_wp2_with fail
    refine (rGive_any tn _ _ free l _ HF12.out HL12.out HTn.out HFit.out.lie HFit.out.gap HOl.out).mono ?_
    rintro e w13 ⟨v13, r13, e13, rfl, ho13, hb13, hr13⟩
    obtain ⟨he1, he2⟩ := GiveR_unique HR12.out hr13
    subst he1 he2
    have HB13 := Lib.hid (HB12.out.trans (hb13.mono HB12.out.size))
    have HS13 := Lib.hid (ho13.read wc_len); have HS123 := Lib.hid (HS12.out.keep hb13)
    obtain ⟨x13, y13, rfl⟩ := ho13.slice
    have HO13 := Lib.hid (HO12.out.keep hb13)
    clear ho13 hb13 hr13 HR12
    go_wp2_with fail
    refine (same_any _ _ _ _ _ HS123.out HS13.out).mono ?_
    rintro e w14 h14
    obtain ⟨rfl, hb14⟩ := eqS_true h14
    have HB14 := Lib.hid (HB13.out.trans (hb14.mono HB13.out.size))
    have HO14 := Lib.hid (HO13.out.keep hb14)
    clear h14 hb14
    have HL14 := Lib.hid (HLs.out.keep HB14.out)
    go_wp2_with fail
    refine (Claim_any tn _ _ free l _ HO14.out HL14.out HFit.out.row HFit.out.lie HFit.out.gap HOl.out (by have := HLl.out; omega)).mono ?_
    rintro e w15 ⟨v15, r15, e15, rfl, ho15, hb15, hr15⟩
    have HB15 := Lib.hid (HB14.out.trans (hb15.mono HB14.out.size))
    have HS15 := Lib.hid (ho15.read wc_len); have HR15 := Lib.hid hr15
    obtain ⟨x15, y15, rfl⟩ := ho15.slice
    have HO15 := Lib.hid (HO14.out.keep hb15)
    clear ho15 hb15 hr15
    have HF15 := Lib.hid (HFr.out.keep HB15.out); have HL15 := Lib.hid (HLs.out.keep HB15.out)
    go_wp2_with fail
    refine (rClaim_any tn _ _ free l _ HF15.out HL15.out HTn.out HFit.out.lie HFit.out.gap HOl.out).mono ?_
    rintro e w16 ⟨v16, r16, e16, rfl, ho16, hb16, hr16⟩
    obtain ⟨he1, he2⟩ := ClaimR_unique HR15.out hr16
    subst he1 he2
    have HB16 := Lib.hid (HB15.out.trans (hb16.mono HB15.out.size))
    have HS16 := Lib.hid (ho16.read wc_len); have HS156 := Lib.hid (HS15.out.keep hb16)
    obtain ⟨x16, y16, rfl⟩ := ho16.slice
    have HO16 := Lib.hid (HO15.out.keep hb16)
    clear ho16 hb16 hr16 HR15
    go_wp2_with fail
    refine (same_any _ _ _ _ _ HS156.out HS16.out).mono ?_
    rintro e w17 h17
    obtain ⟨rfl, hb17⟩ := eqS_true h17
    have HB17 := Lib.hid (HB16.out.trans (hb17.mono HB16.out.size))
    have HO17 := Lib.hid (HO16.out.keep hb17)
    clear h17 hb17
    have HF17 := Lib.hid (HFr.out.keep HB17.out)
    go_wp2_with fail
    refine (same_any _ _ _ _ _ HO17.out HF17.out).mono ?_
    rintro e w18 h18
    obtain ⟨rfl, hb18⟩ := eqS_true h18
    have HB18 := Lib.hid (HB17.out.trans (hb18.mono HB17.out.size))
    clear h18 hb18
    go_wp2_with fail
    refine (awake_any _).mono ?_
    rintro e w19 ⟨rfl, hb19⟩
    have HB19 := Lib.hid (HB18.out.trans (hb19.mono HB18.out.size))
    clear hb19
    go_wp2
    go_ret
    exact ⟨rfl, HB19.out⟩

set_option maxRecDepth 100000 in
theorem liftedTells (os : Os) (started : os.Started) (H : Type) (enc : TypeId × Value → H) (F : Stop.Interp) :
    ReturnsInHanded {} Try.checked os 3 .any ((Rows.OpenSpec.upto Rows.extentTellsSpec).pre6 enc Try.prog Try.f3 Rows.extentTellsUptoRow.domain false) (((Rows.OpenSpec.upto Rows.extentTellsSpec).at F).post enc Try.prog Try.f3 false true false false) := by
  refine lawUpto (C := Try.checked) (s := Rows.extentTellsSpec) own started (by kernel_rfl) Try.func3
    (OpenSpec.witness (enc := enc) (C := Try.checked) (s := Rows.OpenSpec.upto Rows.extentTellsSpec) (k := Rows.uptoSmall) rfl false ⟨#[], #[.int .i64 0, .slice none 0 0, .int .i64 0, .slice none 0 0], []⟩ 8 (by kernel_rfl) (by kernel_rfl) (by kernel_rfl)
      (x := ([.lit (.int .i64 0), .nil, .lit (.int .i64 0), .nil], [], [])) (by kernel_rfl) rfl (by kernel_rfl)) laidOut (by kernel_rfl) 4 Try.underlying4 (by kernel_rfl) rfl ?_ ?_
  · intro ds hd
    match ds, hd with
    | [_, _, _, _], _ => rfl
  · intro W base args ds ps hg hb
    have hA : DataW.TrodAll enc Try.prog W 0 (fun _ => true) true Try.f3.params.toList args.toList ds ps := hg.read
    have hval : ∀ (j : Nat) t v, Try.f3.params[j]? = some t → args[j]? = some v → Value.okWide Try.prog W .any base t v := hg.ok
    rw [Try.params3] at hA hval
    obtain ⟨v0, vs0, d0, ds0, p0, q0, hargs, rfl, rfl, h0, r0⟩ := trodAll_cons hA
    obtain ⟨v1, vs1, d1, ds1, p1, q1, rfl, rfl, rfl, h1, r1⟩ := trodAll_cons r0
    obtain ⟨v2, vs2, d2, ds2, p2, q2, rfl, rfl, rfl, h2, r2⟩ := trodAll_cons r1
    obtain ⟨v3, vs3, d3, ds3, p3, q3, rfl, rfl, rfl, h3, r3⟩ := trodAll_cons r2
    obtain ⟨rfl, rfl, rfl⟩ := trodAll_nil r3
    obtain rfl : args = #[v0, v1, v2, v3] := by cases args; simp_all
    obtain ⟨z0, rfl, rfl, rfl, w0⟩ := open_int Try.underlying3 (hval 0 3 v0 rfl rfl) h0
    obtain ⟨z2, rfl, rfl, rfl, w2⟩ := open_int Try.underlying3 (hval 2 3 v2 rfl rfl) h2
    have hz2 : -9223372036854775808 ≤ z2 ∧ z2 ≤ 9223372036854775807 := by simpa [Lit.wf, IntKind.min, IntKind.max, IntKind.signed, IntKind.bits] using w2
    obtain ⟨fs, hs, hok, hcap, hbulk⟩ := ext_open (hval 1 22 v1 rfl rfl) h1
    obtain ⟨ls, hs3, hok3, hcap3, hbulk3⟩ := ext_open (hval 3 22 v3 rfl rfl) h3
    simp only [Rows.uptoBulkAll] at hb
    exact walkTells z0 v1 fs z2 v3 ls W hs hs3 hok hok3 hz2 (by omega)

theorem tells_holds : Rows.ExtentTellsUptoSaid :=
  OpenClaim.holds_of_cond 3 Try.f3 rfl rfl rfl rfl rfl rfl rfl ⟨rfl, rfl, rfl, rfl, rfl⟩ rfl rfl rfl rfl rfl (by kernel_rfl) Try.func3 (by kernel_rfl)
    (of_decide_eq_true (by kernel_rfl)) (by unfold Func.isWrapper; first | (rw [if_pos (by decide +kernel)]; kernel_rfl) | (rw [if_neg (by decide +kernel)]; exact ⟨rfl, rfl⟩))
    (fun os started H enc _ F => liftedTells os started H enc F)

#print axioms tells_holds
end Go.Proofs.Ytijafehhhknamaa.ext
