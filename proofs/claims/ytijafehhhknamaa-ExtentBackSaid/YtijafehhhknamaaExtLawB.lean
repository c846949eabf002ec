/- ExtentBack: what is taken and given back, or claimed and given back, is as it was, and no sector is both free and taken. -/
import Derived.Test.YtijafehhhknamaaRows
import Derived.Test.YtijafehhhknamaaExtLawT
import Derived.Test.YtijafehhhknamaaExtPack
namespace Go.Proofs.Ytijafehhhknamaa.ext
open Go.ChangeShapes Go.WideShapes Go.ChangeAt Go.RowKit
open Go.Proofs.Ytijafehhhknamaa.kit Go.Proofs.Ytijafehhhknamaa.own Go.Proofs.Ytijafehhhknamaa.lift
set_option linter.unusedVariables false

theorem take_err {n : Int} {free : List Wy} (h : (takeE n free).2.2 ≠ 0) : (takeE n free).1 = [] ∧ (takeE n free).2.1 = free := by
  unfold takeE at h ⊢
  split
  · exact ⟨rfl, rfl⟩
  · split
    · exact ⟨rfl, rfl⟩
    · split
      · exact ⟨rfl, rfl⟩
      · rename_i h1 h2 h3
        rw [if_neg h1, if_neg h2, if_neg h3] at h
        exact absurd rfl h
theorem FitF.fit {t : Int} {xs : List Wy} (h : FitF t xs) : fitE t xs = true := (fitE_iff t xs).2 ⟨by simpa [rowE] using h.row, h.lie, h.gap⟩
theorem pos0 {t : Int} {xs : List Wy} (h : ∀ x ∈ xs, lieE t x = true) : ∀ x ∈ xs, 0 ≤ x.2 := fun x hx => by have := (lieE_iff t x).1 (h x hx); omega
theorem cnt_len {t : Int} {free tk : List Wy} (hf : FitF t free) (hl : ∀ x ∈ tk, lieE t x = true) (hs : sumE tk ≤ sumE free) : tk.length ≤ 65536 := by
  have h1 := row_sum tk (fun x hx => ((lieE_iff t x).1 (hl x hx)).1)
  have h2 := hf.sum
  omega

set_option maxHeartbeats 16000000 in
set_option maxRecDepth 100000 in
theorem walkBack (t : Int) (vf : Value) (free : List Wy) (n : Int) (W : World) (hf : Sl wc 2 W vf free) (hof : ∀ x ∈ free, Wy.Ok x) (hcap : CapFit vf free.length) :
    Calls Try.prog 4 #[.int .i64 t, vf, .int .i64 n] W fun e w' => e = .returned (.bool true) ∧ Below W.heap.size W w' := by
  obtain ⟨af, cf, rfl, hcl, hcm⟩ := hcap
  have HFr := Lib.hid hf; have HOf := Lib.hid hof; have HCl := Lib.hid hcl; have HCm := Lib.hid hcm
  clear hf hof hcl hcm
  go_enter Try.func4, Try.ntmps4
  go_wp2_with fail
  refine (rFit_any t _ free _ HFr.out HOf.out).mono ?_
  rintro e w1 ⟨rfl, hb1⟩
  have HB1 := Lib.hid hb1
  clear hb1
  cases hfit : fitE t free with
  | false =>
    clear hfit
    go_wp2_with fail
    refine (awake_any _).mono ?_
    rintro e w7 ⟨rfl, hb7⟩
    have HB7 := Lib.hid (HB1.out.trans (hb7.mono HB1.out.size))
    clear hb7
    go_wp2
    go_ret
    exact ⟨rfl, HB7.out⟩
  | true =>
    have HFit := Lib.hid (FitF.of hfit)
    clear hfit
    have HLen := Lib.hid HFit.out.len
    have HF1 := Lib.hid (HFr.out.keep HB1.out)
    go_wp2_with fail
    refine (Take_any af cf free n _ HF1.out HCl.out HCm.out HFit.out.fine HFit.out.sum (by have := HLen.out; omega)).mono ?_
    rintro e w2 ⟨va, vb, rfl, hoa, hob, hb2⟩
    have HB2 := Lib.hid (HB1.out.trans (hb2.mono HB1.out.size))
    have HA2 := Lib.hid (hoa.read wc_len); have HL2 := Lib.hid (hob.read wc_len)
    obtain ⟨xa, ya, rfl⟩ := hoa.slice
    obtain ⟨xb, yb, rfl⟩ := hob.slice
    have HF2 := Lib.hid (HFr.out.keep HB2.out)
    clear hoa hob hb2
    by_cases herr : (takeE n free).2.2 = 0
    · have hok : TkOk t free n (takeE n free).1 (takeE n free).2.1 := by
        have h0 : ¬ n < 0 := fun h => by rw [takeE, if_pos h] at herr; cases herr
        have hs : ¬ sumE free < n := fun h => by rw [takeE, if_neg h0, if_pos h] at herr; cases herr
        exact (take_ok HFit.out h0 hs).2
      have HOk := Lib.hid hok
      simp only [herr]
      obtain ⟨tk, htk⟩ : ∃ tk, (takeE n free).1 = tk := ⟨_, rfl⟩
      obtain ⟨lf, hlf⟩ : ∃ lf, (takeE n free).2.1 = lf := ⟨_, rfl⟩
      rw [htk] at HOk HA2 ⊢
      rw [hlf] at HOk HL2 ⊢
      clear hok herr htk hlf
      have HSm := Lib.hid (show sumE tk ≤ 65536 ∧ sumE lf ≤ 65536 by
        have h1 := HOk.out.sum; have h2 := HOk.out.rest; have h3 := HFit.out.sum
        have h4 := sumE_nonneg tk (pos0 HOk.out.lie); have h5 := sumE_nonneg lf (pos0 HOk.out.fit.lie)
        omega)
      have HLl := Lib.hid (show tk.length ≤ 65536 ∧ lf.length ≤ 65536 from ⟨cnt_len HFit.out HOk.out.lie (by
        have h1 := HOk.out.sum; have h2 := HOk.out.rest
        have h5 := sumE_nonneg lf (pos0 HOk.out.fit.lie)
        omega), HOk.out.fit.len⟩)
      obtain ⟨la, hla⟩ : ∃ l, tk.length = l := ⟨_, rfl⟩
      obtain ⟨lb, hlb⟩ : ∃ l, lf.length = l := ⟨_, rfl⟩
      obtain ⟨lc, hlc⟩ : ∃ l, free.length = l := ⟨_, rfl⟩
      rw [hla] at HA2 ⊢
      rw [hlb] at HL2 ⊢
      rw [hlc] at HF2 HFr ⊢
      clear hla hlb hlc
      have hn0 : 0 ≤ n := by have := HOk.out.sum; have := sumE_nonneg tk (pos0 HOk.out.lie); omega
      have hsum := HOk.out.sum
      have hrest := HOk.out.rest
      have hs65 := HFit.out.sum
      go_wp2_with fail
      refine (Count_any _ tk _ HA2.out (pos0 HOk.out.lie) HSm.out.1).mono ?_
      rintro e w3 ⟨rfl, hb3⟩
      have HB3 := Lib.hid (HB2.out.trans (hb3.mono HB2.out.size))
      have HA3 := Lib.hid (HA2.out.keep hb3); have HL3 := Lib.hid (HL2.out.keep hb3); have HF3 := Lib.hid (HF2.out.keep hb3)
      clear hb3
      go_wp2_with fail
      refine (Count_any _ lf _ HL3.out (pos0 HOk.out.fit.lie) HSm.out.2).mono ?_
      rintro e w4 ⟨rfl, hb4⟩
      have HB4 := Lib.hid (HB3.out.trans (hb4.mono HB3.out.size))
      have HA4 := Lib.hid (HA3.out.keep hb4); have HL4 := Lib.hid (HL3.out.keep hb4); have HF4 := Lib.hid (HF3.out.keep hb4)
      have hwr : IntKind.i64.wrap (sumE free) = sumE free := by rw [IntKind.wrap_i64]; have := sumE_nonneg free (pos0 HFit.out.lie); omega
      clear hb4
      go_wp2_with fail
      refine (Count_any _ free _ HF4.out (pos0 HFit.out.lie) HFit.out.sum).mono ?_
      rintro e w5 ⟨rfl, hb5⟩
      have HB5 := Lib.hid (HB4.out.trans (hb5.mono HB4.out.size))
      have HA5 := Lib.hid (HA4.out.keep hb5); have HL5 := Lib.hid (HL4.out.keep hb5)
      clear hb5
      have hfl := HOk.out.fit.fit
      have HFl := Lib.hid hfl
      clear hfl
      go_wp2_with fail
      refine (Fit_any t _ lf _ HL5.out HOk.out.fit.ok).mono ?_
      rintro e w6 ⟨rfl, hb6⟩
      rw [HFl.out]
      have HB6 := Lib.hid (HB5.out.trans (hb6.mono HB5.out.size))
      have HA6 := Lib.hid (HA5.out.keep hb6); have HL6 := Lib.hid (HL5.out.keep hb6)
      clear hb6
      go_wp2_with fail
      refine (Give_any t _ _ lf tk _ HL6.out HA6.out HFit.out.row HOk.out.fit.lie (lie_ok HFit.out.row HOk.out.lie) (by have := HLl.out; omega)).mono ?_
      rintro e w7 ⟨v7, r7, e7, rfl, ho7, hb7, hr7⟩
      obtain ⟨rfl, rfl⟩ := give_back HFit.out HOk.out hr7
      have HB7 := Lib.hid (HB6.out.trans (hb7.mono HB6.out.size))
      have HS7 := Lib.hid (ho7.read wc_len)
      obtain ⟨x7, y7, rfl⟩ := ho7.slice
      have HA7 := Lib.hid (HA6.out.keep hb7); have HL7 := Lib.hid (HL6.out.keep hb7)
      have HF7 := Lib.hid (HFr.out.keep HB7.out)
      clear ho7 hb7 hr7 hwr hrest hsum hs65
      go_wp2_with fail
      refine (same_any _ _ _ _ _ HS7.out HF7.out).mono ?_
      rintro e w8 h8
      obtain ⟨rfl, hb8⟩ := eqS_true h8
      have HB8 := Lib.hid (HB7.out.trans (hb8.mono HB7.out.size))
      have HA8 := Lib.hid (HA7.out.keep hb8); have HL8 := Lib.hid (HL7.out.keep hb8); have HF8 := Lib.hid (HF7.out.keep hb8)
      clear h8 hb8
      go_wp2_with fail
      refine (Claim_any t _ _ _ tk _ HF8.out HA8.out HFit.out.row HFit.out.lie HFit.out.gap (lie_ok HFit.out.row HOk.out.lie) (by have := HLl.out; omega)).mono ?_
      rintro e w9 ⟨v9, r9, e9, rfl, ho9, hb9, hr9⟩
      obtain ⟨rfl, rfl⟩ := claim_there HFit.out HOk.out hr9
      have HB9 := Lib.hid (HB8.out.trans (hb9.mono HB8.out.size))
      have HS9 := Lib.hid (ho9.read wc_len)
      obtain ⟨x9, y9, rfl⟩ := ho9.slice
      have HA9 := Lib.hid (HA8.out.keep hb9); have HL9 := Lib.hid (HL8.out.keep hb9)
      clear ho9 hb9 hr9
      go_wp2_with fail
      refine (same_any _ _ _ _ _ HS9.out HL9.out).mono ?_
      rintro e w10 h10
      obtain ⟨rfl, hb10⟩ := eqS_true h10
      have HB10 := Lib.hid (HB9.out.trans (hb10.mono HB9.out.size))
      have HA10 := Lib.hid (HA9.out.keep hb10); have HL10 := Lib.hid (HL9.out.keep hb10)
      clear h10 hb10
      go_wp2_with fail
      refine (Claim_any t _ _ _ tk _ HL10.out HA10.out HFit.out.row HOk.out.fit.lie HOk.out.fit.gap (lie_ok HFit.out.row HOk.out.lie) (by have := HLl.out; omega)).mono ?_
      rintro e w11 ⟨v11, r11, e11, rfl, ho11, hb11, hr11⟩
      have HB11 := Lib.hid (HB10.out.trans (hb11.mono HB10.out.size))
      have HGone := Lib.hid (fun h : 1 ≤ n => claim_gone HFit.out HOk.out h hr11)
      clear ho11 hb11 hr11
      have HF11 := Lib.hid (HFr.out.keep HB11.out)
      have hsl := sec_sum _ (pos0 HFit.out.lie)
      have HSl := Lib.hid hsl
      have hcase : (n = 0) ∨ (¬ n = 0 ∧ e11 = 24) := by
        by_cases h : n = 0
        · exact .inl h
        · exact .inr ⟨h, HGone.out (by omega)⟩
      clear hsl
      rcases hcase with hz | ⟨hz, he11⟩
      · have hzb : True → (n == 0) = true := fun _ => by simp [hz]
        clear hz
        go_wp2_with fail
        refine (Sectors_any _ _ _ HF11.out HFit.out.fine (by have := HSl.out; have := HFit.out.sum; omega)).mono ?_
        rintro e w12 ⟨v12, rfl, ho12, hb12⟩
        have HB12 := Lib.hid (HB11.out.trans (hb12.mono HB11.out.size))
        have HS12 := Lib.hid (ho12.read ic_len)
        obtain ⟨x12, y12, rfl⟩ := ho12.slice
        clear ho12 hb12
        go_wp2_with fail
        refine (Pack_any _ _ _ HS12.out (sec_rise _ HFit.out.gap) (fun k hk => by
          have h1 := cov_lie HFit.out.lie k ((sec_mem _ (lie_pos HFit.out.lie) k).1 hk)
          have h2 : 0 ≤ t ∧ t ≤ 65536 := by simpa [rowE] using HFit.out.row
          omega) (by have := HSl.out; have := HFit.out.sum; omega)).mono ?_
        rintro e w13 ⟨v13, rfl, ho13, hb13⟩
        rw [pack_back HFit.out] at ho13
        have HB13 := Lib.hid (HB12.out.trans (hb13.mono HB12.out.size))
        have HS13 := Lib.hid (ho13.read wc_len)
        obtain ⟨x13, y13, rfl⟩ := ho13.slice
        have HF13 := Lib.hid (HFr.out.keep HB13.out)
        clear ho13 hb13
        go_wp2_with fail
        refine (same_any _ _ _ _ _ HS13.out HF13.out).mono ?_
        rintro e w14 h14
        obtain ⟨rfl, hb14⟩ := eqS_true h14
        have HB14 := Lib.hid (HB13.out.trans (hb14.mono HB13.out.size))
        clear h14 hb14
        go_wp2_with fail
        refine (awake_any _).mono ?_
        rintro e w15 ⟨rfl, hb15⟩
        have HB15 := Lib.hid (HB14.out.trans (hb15.mono HB14.out.size))
        clear hb15
        go_wp2
        go_ret
        exact ⟨rfl, HB15.out⟩
      · have hzb : True → (n == 0) = false := fun _ => by simp [hz]
        subst he11
        clear hz
        go_wp2_with fail
        refine (Sectors_any _ _ _ HF11.out HFit.out.fine (by have := HSl.out; have := HFit.out.sum; omega)).mono ?_
        rintro e w12 ⟨v12, rfl, ho12, hb12⟩
        have HB12 := Lib.hid (HB11.out.trans (hb12.mono HB11.out.size))
        have HS12 := Lib.hid (ho12.read ic_len)
        obtain ⟨x12, y12, rfl⟩ := ho12.slice
        clear ho12 hb12
        go_wp2_with fail
        refine (Pack_any _ _ _ HS12.out (sec_rise _ HFit.out.gap) (fun k hk => by
          have h1 := cov_lie HFit.out.lie k ((sec_mem _ (lie_pos HFit.out.lie) k).1 hk)
          have h2 : 0 ≤ t ∧ t ≤ 65536 := by simpa [rowE] using HFit.out.row
          omega) (by have := HSl.out; have := HFit.out.sum; omega)).mono ?_
        rintro e w13 ⟨v13, rfl, ho13, hb13⟩
        rw [pack_back HFit.out] at ho13
        have HB13 := Lib.hid (HB12.out.trans (hb13.mono HB12.out.size))
        have HS13 := Lib.hid (ho13.read wc_len)
        obtain ⟨x13, y13, rfl⟩ := ho13.slice
        have HF13 := Lib.hid (HFr.out.keep HB13.out)
        clear ho13 hb13
        go_wp2_with fail
        refine (same_any _ _ _ _ _ HS13.out HF13.out).mono ?_
        rintro e w14 h14
        obtain ⟨rfl, hb14⟩ := eqS_true h14
        have HB14 := Lib.hid (HB13.out.trans (hb14.mono HB13.out.size))
        clear h14 hb14
        go_wp2_with fail
        refine (awake_any _).mono ?_
        rintro e w15 ⟨rfl, hb15⟩
        have HB15 := Lib.hid (HB14.out.trans (hb15.mono HB14.out.size))
        clear hb15
        go_wp2
        go_ret
        exact ⟨rfl, HB15.out⟩
    · have hE := take_err herr
      have HE1 := Lib.hid hE.1; have HE2 := Lib.hid hE.2
      rw [HE1.out] at HA2 ⊢
      rw [HE2.out] at HL2 ⊢
      obtain ⟨er, her⟩ : ∃ er, (takeE n free).2.2 = er := ⟨_, rfl⟩
      rw [her] at herr ⊢
      have hern : True → (er == 0) = false := fun _ => by simp [herr]
      simp only [List.length_nil] at HA2 ⊢
      clear hE her
      go_wp2_with fail
      refine (same_any _ _ _ _ _ HL2.out HF2.out).mono ?_
      rintro e w3 h3
      obtain ⟨rfl, hb3⟩ := eqS_true h3
      have HB3 := Lib.hid (HB2.out.trans (hb3.mono HB2.out.size))
      clear h3 hb3
      go_wp2_with fail
      refine (awake_any _).mono ?_
      rintro e w4 ⟨rfl, hb4⟩
      have HB4 := Lib.hid (HB3.out.trans (hb4.mono HB3.out.size))
      clear hb4
      go_wp2
      go_ret
      exact ⟨rfl, HB4.out⟩

set_option maxRecDepth 100000 in
theorem liftedBack (os : Os) (started : os.Started) (H : Type) (enc : TypeId × Value → H) :
    ReturnsInHanded {} Try.checked os 4 .any (Rows.extentBackSpec.pre6 enc Try.prog Try.f4 Rows.extentBackRow.domain false) (Rows.extentBackSpec.post enc Try.prog Try.f4 false true false false) := by
  refine lift.law (C := Try.checked) own started (by kernel_rfl) Try.func4
    (ChangeSpec.witness6 (enc := enc) (C := Try.checked) false ⟨#[], #[.int .i64 0, .slice none 0 0, .int .i64 0], []⟩ 8 (by kernel_rfl) (by kernel_rfl) (by kernel_rfl) (by kernel_rfl)) laidOut (by kernel_rfl) 4 Try.underlying4 (by kernel_rfl) rfl ?_ ?_
  · intro ds hd
    match ds, hd with
    | [_, _, _], _ => rfl
  · intro W base args ds ps hg
    have hA : DataW.TrodAll enc Try.prog W 0 (fun _ => true) true Try.f4.params.toList args.toList ds ps := hg.read
    have hval : ∀ (j : Nat) t v, Try.f4.params[j]? = some t → args[j]? = some v → Value.okWide Try.prog W .any base t v := hg.ok
    rw [Try.params4] at hA hval
    obtain ⟨v0, vs0, d0, ds0, p0, q0, hargs, rfl, rfl, h0, r0⟩ := trodAll_cons hA
    obtain ⟨v1, vs1, d1, ds1, p1, q1, rfl, rfl, rfl, h1, r1⟩ := trodAll_cons r0
    obtain ⟨v2, vs2, d2, ds2, p2, q2, rfl, rfl, rfl, h2, r2⟩ := trodAll_cons r1
    obtain ⟨rfl, rfl, rfl⟩ := trodAll_nil r2
    obtain rfl : args = #[v0, v1, v2] := by cases args; simp_all
    obtain ⟨z0, rfl, rfl, rfl, w0⟩ := open_int Try.underlying3 (hval 0 3 v0 rfl rfl) h0
    obtain ⟨z2, rfl, rfl, rfl, w2⟩ := open_int Try.underlying3 (hval 2 3 v2 rfl rfl) h2
    obtain ⟨fs, hs, hok, hcap, hbulk⟩ := ext_open (hval 1 22 v1 rfl rfl) h1
    exact walkBack z0 v1 fs z2 W hs hok hcap

theorem back_holds : Rows.ExtentBackSaid :=
  OpenClaim.holds_of_wide 4 Try.f4 rfl rfl rfl rfl rfl rfl rfl ⟨rfl, rfl, rfl, rfl, rfl⟩ rfl rfl rfl rfl rfl (by kernel_rfl) Try.func4 (by kernel_rfl)
    (of_decide_eq_true (by kernel_rfl)) (by unfold Func.isWrapper; first | (rw [if_pos (by decide +kernel)]; kernel_rfl) | (rw [if_neg (by decide +kernel)]; exact ⟨rfl, rfl⟩))
    (fun os started H enc _ => liftedBack os started H enc)

#print axioms back_holds
end Go.Proofs.Ytijafehhhknamaa.ext
