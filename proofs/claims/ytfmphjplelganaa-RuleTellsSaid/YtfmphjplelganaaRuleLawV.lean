/- RuleValid: the statement is proved as it is given, for every input. -/
import Derived.Test.YtfmphjplelganaaRows
import Derived.Test.YtfmphjplelganaaRuleLawS
import Derived.Test.YtfmphjplelganaaRuleValidP
namespace Go.Proofs.Ytfmphjplelganaa.crush
open Go.ChangeShapes Go.WideShapes Go.ChangeAt Go.RowKit
open Go.Proofs.Ytfmphjplelganaa.kit Go.Proofs.Ytfmphjplelganaa.own Go.Proofs.Ytfmphjplelganaa.lift
set_option linter.unusedVariables false

/-- Fewer copies are a beginning of more. -/
theorem place_prefix (t : Nat → Option Nat) (ds : List Int) (s : Int) : ∀ r, placeF t ds (s + 1) r = placeF t ds s r ∨ (((placeF t ds s r).length : Int) = s ∧ ∃ v, placeF t ds (s + 1) r = placeF t ds s r ++ [v])
  | 0 => .inl rfl
  | r + 1 => by
    have ih := place_prefix t ds s r
    rw [placeF, placeF]
    rcases ih with e | ⟨hl, v, e⟩
    · rw [e]
      generalize placeF t ds s r = a
      by_cases h1 : (a.length : Int) < s
      · rw [if_pos h1, if_pos (by omega)]
        exact .inl rfl
      · rw [if_neg h1]
        by_cases h2 : (a.length : Int) < s + 1
        · rw [if_pos h2]
          cases t r with
          | none => exact .inl rfl
          | some v =>
            show put1 ds a v = a ∨ _ ∧ ∃ v_1, put1 ds a v = a ++ [v_1]
            unfold put1
            split
            · exact .inl rfl
            · exact .inr ⟨by omega, v, rfl⟩
        · rw [if_neg h2]
          exact .inl rfl
    · rw [e]
      generalize placeF t ds s r = a at hl ⊢
      rw [if_neg (show ¬ ((((a ++ [v]).length : Nat) : Int) < s + 1) from by rw [List.length_append, List.length_singleton]; omega), if_neg (by omega)]
      exact .inr ⟨hl, v, rfl⟩
theorem place_valid (hs ws : List Int) (x : Nat) (size d : Int) : validB hs ws (ints (placeE hs ws x size d)) size d = true := by
  rw [validB_iff]
  refine ⟨by rw [ints_len]; exact (placeF_len _ _ _ 64).2, ?_, ?_⟩
  · intro z hz
    unfold ints at hz
    obtain ⟨a, ha, rfl⟩ := List.mem_map.1 hz
    have h1 := place_mem ha
    exact ⟨by simp, by simp; exact h1.1, by simpa using h1.2⟩
  · have h := placeF_dom (tryE hs ws x) (domsE d hs) size 64
    have e : domZ hs d (ints (placeE hs ws x size d)) = (placeE hs ws x size d).map fun a => (domsE d hs).getD a 0 := by
      unfold domZ ints
      rw [List.map_map]
      exact List.map_congr_left (fun a _ => by simp)
    rw [e]
    exact h
theorem own_capR {α : Type} {enc : α → List Value} {k e B : Nat} {w : World} {ax : Option Addr} {m cx : Nat} {xs : List α} (h : Own enc k e w B (.slice ax m cx) xs) : m ≤ cx ∧ cx ≤ maxLen := by
  rcases h.at with ⟨h, h2⟩ | ⟨g, cap, h, _, hat⟩
  · cases h; exact ⟨Nat.le_refl _, by unfold maxLen; omega⟩
  · cases h; exact ⟨hat.le, hat.max⟩

set_option maxHeartbeats 32000000 in
set_option maxRecDepth 100000 in
theorem walkValid (v vw : Value) (hs0 ws : List Int) (x : Nat) (size d : Int) (hx : x < 4294967296) (w : World) (h : Sl ic 1 w v hs0) (hw : Sl ic 1 w vw ws) (hc : CapOk v hs0.length) (hsz : I64 size) :
    Calls Try.prog 6 #[v, vw, .int .u32 x, .int .i64 size, .int .i64 d] w fun e w' => e = .returned (.bool true) ∧ Below w.heap.size w w' := by
  have HFw := Lib.hid (few_any v hs0 40 (by decide) w h hc)
  obtain ⟨a0, c0, rfl⟩ := h.slice
  obtain ⟨aw, cw, rfl⟩ := hw.slice
  have hlh : (hs0.take 40).length ≤ 40 := by rw [List.length_take]; omega
  obtain ⟨hs, hhs⟩ : ∃ hs, hs0.take 40 = hs := ⟨_, rfl⟩
  rw [hhs] at HFw hlh
  have HW := Lib.hid hw
  obtain ⟨s, hs9⟩ : ∃ s, min size 20 = s := ⟨_, rfl⟩
  have hs20 : s ≤ 20 := by omega
  have HS1 : Hid (I64 s) := Lib.hid (by unfold I64 at hsz ⊢; omega)
  have HS2 : Hid (I64 (s + 1)) := Lib.hid (by unfold I64 at hsz ⊢; omega)
  have HX := Lib.hid hx
  have hs63 : -9223372036854775808 ≤ s := by unfold I64 at hsz; omega
  generalize ws.length = Lw at HW ⊢
  generalize hs0.length = L0 at HFw ⊢
  clear h hw hc hx hsz hhs
  go_enter Try.func6, Try.ntmps6
  go_wp2_with fail
  refine HFw.out.mono ?_
  rintro e w1 ⟨⟨v1, rfl, hs1⟩, rfl⟩
  obtain ⟨a1, c1, rfl⟩ := hs1.slice
  have HS := Lib.hid hs1
  have HP1 := Lib.hid (fun w (h1 : Sl ic 1 w (.slice a1 hs.length c1) hs) (h2 : Sl ic 1 w (.slice aw Lw cw) ws) => Place_any _ _ hs ws x s d HX.out w h1 h2 (by omega) HS1.out)
  have HP2 := Lib.hid (fun w (h1 : Sl ic 1 w (.slice a1 hs.length c1) hs) (h2 : Sl ic 1 w (.slice aw Lw cw) ws) => Place_any _ _ hs ws x (s + 1) d HX.out w h1 h2 (by omega) HS2.out)
  have HV := Lib.hid (fun w vl (h1 : Sl ic 1 w (.slice a1 hs.length c1) hs) (h2 : Sl ic 1 w (.slice aw Lw cw) ws) (h3 : Sl ic 1 w vl (ints (placeE hs ws x s d))) => Valid_any _ _ vl hs ws (ints (placeE hs ws x s d)) s d w h1 h2 h3 (by omega) (by rw [ints_len]; have := (placeF_len (tryE hs ws x) (domsE d hs) s 64).1; show (placeF (tryE hs ws x) (domsE d hs) s 64).length ≤ 65536; omega))
  rw [place_valid] at HV
  have HMo := Lib.hid (fun w (h1 : Sl ic 1 w (.slice a1 hs.length c1) hs) (h2 : Sl ic 1 w (.slice aw Lw cw) ws) => Most_any _ _ hs ws s d w h1 h2 (by omega) HS1.out)
  have hmo : (placeE hs ws x s d).length ≤ mostE hs ws s d := placeF_most 64
  have hpl : (placeE hs ws x s d).length ≤ 64 := (placeF_len (tryE hs ws x) (domsE d hs) s 64).1
  have hpre : (placeE hs ws x (s + 1) d).length ≤ (placeE hs ws x s d).length + 1 ∧ (placeE hs ws x s d).length ≤ (placeE hs ws x (s + 1) d).length ∧ (placeE hs ws x (s + 1) d).take (placeE hs ws x s d).length = placeE hs ws x s d := by
    rcases place_prefix (tryE hs ws x) (domsE d hs) s 64 with e | ⟨-, v, e⟩
    · have e : placeE hs ws x (s + 1) d = placeE hs ws x s d := e
      rw [e]
      exact ⟨by omega, Nat.le_refl _, List.take_length⟩
    · have e : placeE hs ws x (s + 1) d = placeE hs ws x s d ++ [v] := e
      rw [e]
      refine ⟨by simp, by simp, ?_⟩
      rw [List.take_left']
      rfl
  generalize placeE hs ws x s d = pl at HP1 HV hmo hpl hpre
  generalize placeE hs ws x (s + 1) d = pm at HP2 hpre
  generalize mostE hs ws s d = mo at HMo hmo
  generalize hs.length = L at HP1 HP2 HV HMo HS ⊢
  obtain ⟨hpr1, hpr2, hpr3⟩ := hpre
  have HPre := Lib.hid hpr3
  have hmo9 : (pl.length : Int) ≤ mo := by omega
  obtain ⟨n, hn⟩ : ∃ n, pl.length = n := ⟨_, rfl⟩
  obtain ⟨n2, hn2⟩ : ∃ n, pm.length = n := ⟨_, rfl⟩
  have HN := Lib.hid hn; have HN2 := Lib.hid hn2
  rw [hn] at hpr1 hpr2 hpl hmo hmo9
  rw [hn2] at hpr1 hpr2
  clear hs1 HFw hpr3 hn hn2
  go_upto_region 3 with fail
  go_wp2_with fail
  refine (HP1.out w1 HS.out HW.out).mono ?_
  rintro e w2 ⟨v2, rfl, ho, hb⟩
  obtain ⟨a2, c2, rfl⟩ := ho.slice
  rw [ints_len, HN.out] at ho ⊢
  have HO2 := Lib.hid (ho.read ic_len); have HB2 := Lib.hid hb
  clear ho hb HP1
  go_upto_region 4 with fail
  go_wp2_with fail
  refine (HP2.out w2 (HS.out.keep HB2.out) (HW.out.keep HB2.out)).mono ?_
  rintro e w3 ⟨v3, rfl, ho, hb⟩
  obtain ⟨a3, c3, rfl⟩ := ho.slice
  rw [ints_len, HN2.out] at ho ⊢
  obtain ⟨hcp1, hcp2⟩ := own_capR ho
  have hcp3 : c3 ≤ 9223372036854775807 := by unfold maxLen at hcp2; omega
  have HO3 := Lib.hid (ho.read ic_len); have HB3 := Lib.hid (HB2.out.trans (hb.mono HB2.out.size)); have HO2b := Lib.hid (HO2.out.keep hb)
  clear ho hb HP2 HO2 HB2 hcp2
  go_upto_region 5 with fail
  have hn0 : (0 : Int) ≤ n := by omega
  have hq1 : (n : Int) ≤ n2 := by omega
  have hq2 : (n2 : Int) ≤ n + 1 := by omega
  have hq3 : (n : Int) ≤ c3 := by omega
  go_upto_region 7 with (first | (go_at_call 18; refine (HV.out w3 _ (HS.out.keep HB3.out) (HW.out.keep HB3.out) HO2b.out).mono ?_; rintro e w4 ⟨rfl, hb⟩; have HB4 := Lib.hid (HB3.out.trans (hb.mono HB3.out.size)); have HO3b := Lib.hid (HO3.out.keep hb); have HO2c := Lib.hid (HO2b.out.keep hb); clear hb) | (go_at_call 20; refine (HMo.out w4 (HS.out.keep HB4.out) (HW.out.keep HB4.out)).mono ?_; rintro e w5 ⟨rfl, hb⟩; have HB5 := Lib.hid (HB4.out.trans (hb.mono HB4.out.size)); have HO3c := Lib.hid (HO3b.out.keep hb); have HO2d := Lib.hid (HO2c.out.keep hb); clear hb))
  have HTk : Hid ((ints pm).take n = ints pl) := Lib.hid (by unfold ints; rw [← List.map_take, ← HN.out, HPre.out])
  clear hq1 hq2 hmo9
  cases a3 with
  | none =>
    obtain ⟨h1, h2, h3⟩ := HO3c.out.empty_of_nil
    subst h2 h3
    obtain rfl : n = 0 := by omega
    have HPn : Hid (Sl ic 1 w5 (.slice none 0 0) (ints pl)) := Lib.hid (by
      have : ints pl = [] := List.eq_nil_of_length_eq_zero (by rw [ints_len]; exact HN.out)
      rw [this]; exact Sl.nil _)
    clear h1
    go_wp2_with (first | (go_at_call 12; refine (lintsR_any _ _ (ints pl) _ HO2d.out HPn.out).mono ?_; rintro e w6 ⟨rfl, hb⟩; have HB6 := Lib.hid (HB5.out.trans (hb.mono HB5.out.size)); clear hb) | (go_at_call 17; refine (awake_any _).mono ?_; rintro e w7 ⟨rfl, hb⟩; have HBe := Lib.hid (HB6.out.trans (hb.mono HB6.out.size)); clear hb))
    go_ret
    exact ⟨rfl, HBe.out⟩
  | some a3 =>
    have HPn := Lib.hid (sl_takeL HO3c.out (by rw [ints_len]; exact HN2.out) n hpr2)
    rw [HTk.out] at HPn
    go_wp2_with (first | (go_at_call 12; refine (lintsR_any _ _ (ints pl) _ HO2d.out HPn.out).mono ?_; rintro e w6 ⟨rfl, hb⟩; have HB6 := Lib.hid (HB5.out.trans (hb.mono HB5.out.size)); clear hb) | (go_at_call 17; refine (awake_any _).mono ?_; rintro e w7 ⟨rfl, hb⟩; have HBe := Lib.hid (HB6.out.trans (hb.mono HB6.out.size)); clear hb))
    go_ret
    exact ⟨rfl, HBe.out⟩

--LIFT
set_option maxRecDepth 100000 in
theorem liftedValid (os : Os) (started : os.Started) (H : Type) (enc : TypeId × Value → H) :
    ReturnsInHanded {} Try.checked os 6 .any (Rows.ruleValidSpec.pre6 enc Try.prog Try.f6 Rows.ruleValidRow.domain false) (Rows.ruleValidSpec.post enc Try.prog Try.f6 false true false false) := by
  refine lift.law (C := Try.checked) own started (by kernel_rfl) Try.func6
    (ChangeSpec.witness6 (enc := enc) (C := Try.checked) false ⟨#[], #[.slice none 0 0, .slice none 0 0, .int .u32 0, .int .i64 0, .int .i64 0], []⟩ 8 (by kernel_rfl) (by kernel_rfl) (by kernel_rfl) (by kernel_rfl)) laidOut (by kernel_rfl) 4 Try.underlying4 (by kernel_rfl) rfl ?_ ?_
  · intro ds hd
    match ds, hd with
    | [_, _, _, _, _], _ => rfl
  · intro W base args ds ps hg
    have hA : DataW.TrodAll enc Try.prog W 0 (fun _ => true) true Try.f6.params.toList args.toList ds ps := hg.read
    have hval : ∀ (j : Nat) t v, Try.f6.params[j]? = some t → args[j]? = some v → Value.okWide Try.prog W .any base t v := hg.ok
    rw [Try.params6] at hA hval
    obtain ⟨v0, vs0, d0, ds0, p0, q0, hargs, rfl, rfl, h0, r0⟩ := trodAll_cons hA
    obtain ⟨v1, vs1, d1, ds1, p1, q1, rfl, rfl, rfl, h1, r1⟩ := trodAll_cons r0
    obtain ⟨v2, vs2, d2, ds2, p2, q2, rfl, rfl, rfl, h2, r2⟩ := trodAll_cons r1
    obtain ⟨v3, vs3, d3, ds3, p3, q3, rfl, rfl, rfl, h3, r3⟩ := trodAll_cons r2
    obtain ⟨v4, vs4, d4, ds4, p4, q4, rfl, rfl, rfl, h4, r4⟩ := trodAll_cons r3
    obtain ⟨rfl, rfl, rfl⟩ := trodAll_nil r4
    obtain rfl : args = #[v0, v1, v2, v3, v4] := by cases args; simp_all
    obtain ⟨fs0, hs0, hok0, hcap0⟩ := ints_open (hval 0 22 v0 rfl rfl) h0
    obtain ⟨fs1, hs1, hok1, hcap1⟩ := i64s_open (hval 1 23 v1 rfl rfl) h1
    obtain ⟨z2, rfl, rfl, rfl, w2⟩ := open_int Try.underlying24 (hval 2 24 v2 rfl rfl) h2
    have u2 := u32_pos z2 w2
    obtain ⟨n2, rfl⟩ : ∃ n : Nat, z2 = n := ⟨z2.toNat, by omega⟩
    obtain ⟨z3, rfl, rfl, rfl, w3⟩ := open_int Try.underlying3 (hval 3 3 v3 rfl rfl) h3
    obtain ⟨z4, rfl, rfl, rfl, w4⟩ := open_int Try.underlying3 (hval 4 3 v4 rfl rfl) h4
    exact walkValid v0 v1 fs0 fs1 n2 z3 z4 (by omega) W hs0 hs1 hcap0 (i64_of w3)

theorem valid_holds : Rows.RuleValidSaid :=
  OpenClaim.holds_of_wide 6 Try.f6 rfl rfl rfl rfl rfl rfl rfl ⟨rfl, rfl, rfl, rfl, rfl⟩ rfl rfl rfl rfl rfl (by kernel_rfl) Try.func6 (by kernel_rfl)
    (of_decide_eq_true (by kernel_rfl)) (by unfold Func.isWrapper; first | (rw [if_pos (by decide +kernel)]; kernel_rfl) | (rw [if_neg (by decide +kernel)]; exact ⟨rfl, rfl⟩))
    (fun os started H enc _ => liftedValid os started H enc)

#print axioms valid_holds
end Go.Proofs.Ytfmphjplelganaa.crush
