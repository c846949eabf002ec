/- RulePlaces: the statement is proved as it is given, for every input. -/
import Derived.Test.YtfmphjplelganaaRows
import Derived.Test.YtfmphjplelganaaRuleRPl
import Derived.Test.YtfmphjplelganaaRuleLawS
import Derived.Test.YtfmphjplelganaaRulePl
namespace Go.Proofs.Ytfmphjplelganaa.crush
open Go.ChangeShapes Go.WideShapes Go.ChangeAt Go.RowKit
open Go.Proofs.Ytfmphjplelganaa.kit Go.Proofs.Ytfmphjplelganaa.own Go.Proofs.Ytfmphjplelganaa.lift
set_option linter.unusedVariables false

theorem neq_itemR (p q : Int) (w : World) : (binOp .neq 31 (.agg #[.int .i64 p, .int .i64 q]) (.agg #[.int .i64 p, .int .i64 q])).run Try.prog w = .ok (.bool false) w := by
  go_simp
def ItmS (w : World) (its : List It) (e : Ending) (w' : World) : Prop := ∃ v, e = .returned v ∧ Sl wc 2 w' v its ∧ Below w.heap.size w w'
set_option maxHeartbeats 16000000 in
theorem Items_any (v vw : Value) (hs ws : List Int) (w : World) (h : Sl ic 1 w v hs) (hw : Sl ic 1 w vw ws) (hl : hs.length ≤ 65536) : Calls Try.prog 10 #[v, vw] w (ItmS w (itemsE hs ws)) := by
  have HG := Lib.hid (group_any _ _ hs ws w h hw hl)
  obtain ⟨a, c, rfl⟩ := h.slice
  obtain ⟨aw, cw, rfl⟩ := hw.slice
  generalize hs.length = L at HG ⊢
  generalize ws.length = Lw at HG ⊢
  clear h hw
  go_enter Try.func10, Try.ntmps10
  go_wp2_with fail
  refine HG.out.mono ?_
  rintro e w1 ⟨vi, vn, rfl, hall, hb⟩
  have HP := Lib.hid (hall w1 (SameFrom.refl _ _)).1
  have HB := Lib.hid hb
  clear hall hb
  go_wp2
  go_ret
  exact ⟨_, rfl, HP.out, HB.out⟩

set_option maxHeartbeats 32000000 in
set_option maxRecDepth 100000 in
theorem walkPlaces (v vw : Value) (hs0 ws : List Int) (x : Nat) (size d : Int) (hx : x < 4294967296) (w : World) (h : Sl ic 1 w v hs0) (hw : Sl ic 1 w vw ws) (hc : CapOk v hs0.length) (hsz : I64 size) :
    Calls Try.prog 3 #[v, vw, .int .u32 x, .int .i64 size, .int .i64 d] w fun e w' => e = .returned (.bool true) ∧ Below w.heap.size w w' := by
  have HFw := Lib.hid (few_any v hs0 40 (by decide) w h hc)
  obtain ⟨a0, c0, rfl⟩ := h.slice
  obtain ⟨aw, cw, rfl⟩ := hw.slice
  have hlh : (hs0.take 40).length ≤ 40 := by rw [List.length_take]; omega
  generalize hs0.take 40 = hs at HFw hlh
  have HW := Lib.hid hw; have HSz := Lib.hid hsz; have HX := Lib.hid hx
  generalize ws.length = Lw at HW ⊢
  generalize hs0.length = L0 at HFw ⊢
  obtain ⟨L, hL⟩ : ∃ L, hs.length = L := ⟨_, rfl⟩
  have HL := Lib.hid hL
  have HA := Lib.hid (show hs.length ≤ 65536 by omega)
  have HM := Lib.hid (show (hs.length : Int) ≤ 40 by omega)
  have mixed : Try.prog.follows .mixedOrders = true := by kernel_rfl
  clear h hw hc hsz hx
  go_enter Try.func3, Try.ntmps3
  go_wp2_with fail
  refine HFw.out.mono ?_
  rintro e w1 ⟨⟨v1, rfl, hs1⟩, hw1⟩
  have HO := Lib.hid (own_none (enc := ic) (k := 1) (e := 3) w1 w1.heap.size (Nat.le_refl _))
  have HB0 := Lib.hid (below_new w1 (.cells #[] 3))
  have HW1 := Lib.hid hw1
  obtain rfl : w1 = w := hw1
  obtain ⟨a1, c1, rfl⟩ := hs1.slice
  have HS := Lib.hid hs1
  have HSn := Lib.hid (hs1.keep HB0.out)
  rw [hL] at HS HSn hlh ⊢
  clear hs1 HFw HW1 hL
  go_upto_region 3 with (at_builtin; refine appSl ic_len ic_one (by decide) rfl _ _ 22 rfl w1.heap.size 3 _ (by rfl) 8 Try.underlying22 infoInt _ [] rfl HO.out _ hs rfl HSn.out (by simp only [List.length_nil]; have := HM.out; unfold maxLen; omega) (by simp only [List.length_nil]; have := HM.out; omega) HB0.out.size ?_; intro v2 w2 ho2 hk2; obtain ⟨a2, c2, rfl⟩ := ho2.slice; have HO2 := Lib.hid (show Own ic 1 3 w2 w1.heap.size (.slice a2 hs.length c2) hs from ho2); have HB2 := Lib.hid (HB0.out.trans hk2.toBelow); clear ho2 hk2)
  rw [HL.out] at HO2 ⊢
  have HO2s := Lib.hid (HO2.out.read ic_len)
  have HK := Lib.hid (fun u (hu : Below w2.heap.size w2 u) => (⟨HO2s.out.keep hu, HS.out.keep (HB2.out.trans (hu.mono HB2.out.size)), HW.out.keep (HB2.out.trans (hu.mono HB2.out.size))⟩ : Sl ic 1 u (.slice a2 L c2) hs ∧ Sl ic 1 u (.slice a1 L c1) hs ∧ Sl ic 1 u (.slice aw Lw cw) ws))
  have HI1 := Lib.hid (fun u hu => Items_any _ _ hs ws u (HK.out u hu).1 (HK.out u hu).2.2 HA.out)
  have HI2 := Lib.hid (fun u hu => rItems_any _ _ hs ws u (HK.out u hu).2.1 (HK.out u hu).2.2 HA.out)
  have HH1 := Lib.hid (fun u hu => Hosts_any _ hs u (HK.out u hu).1 HA.out)
  have HH2 := Lib.hid (fun u hu => rHosts_any _ hs u (HK.out u hu).2.1 HA.out)
  have HP1 := Lib.hid (fun u hu => Place_any _ _ hs ws x size d HX.out u (HK.out u hu).1 (HK.out u hu).2.2 HA.out HSz.out)
  have HP2 := Lib.hid (fun u hu => rPlace_any _ _ hs ws x size d HX.out u (HK.out u hu).2.1 (HK.out u hu).2.2 HA.out)
  have HK2 := Lib.hid (fun u hu => (⟨(HK.out u hu).1, (HK.out u hu).2.1⟩ : Sl ic 1 u (.slice a2 L c2) hs ∧ Sl ic 1 u (.slice a1 L c1) hs))
  generalize itemsE hs ws = its at HI1 HI2
  generalize onceL hs = ons at HH1 HH2
  generalize ints (placeE hs ws x size d) = pls at HP1 HP2
  clear HO HB0 HSn HK HO2s HO2
  go_wp2_with fail
  refine (HI1.out w2 (Below.refl _ _)).mono ?_
  rintro e w3 ⟨v3, rfl, hi3, hb⟩
  obtain ⟨a3, c3, rfl⟩ := hi3.slice
  have HB3 := Lib.hid hb
  have HI3 := Lib.hid hi3
  clear hb hi3 HI1
  go_upto_region 4 with fail
  go_wp2_with fail
  refine (HI2.out w3 HB3.out).mono ?_
  rintro e w4 ⟨v4, rfl, hi4, hb⟩
  obtain ⟨a4, c4, rfl⟩ := hi4.slice
  have HB4 := Lib.hid (HB3.out.trans (hb.mono HB3.out.size))
  have HI4 := Lib.hid (hi4.read wc_len)
  have HI3b := Lib.hid (HI3.out.keep hb)
  clear hb hi4 HI2 HI3
  obtain ⟨M, hM⟩ : ∃ M, its.length = M := ⟨_, rfl⟩
  have HMl := Lib.hid hM
  rw [hM] at HI4 HI3b ⊢
  clear hM
  go_upto_region 5 with fail
  go_wp2_with (first
    | (go_at_call 13; refine (HH1.out w4 HB4.out).mono ?_; rintro e w5 ⟨v5, rfl, ho, hb⟩; have HO5 := Lib.hid (ho.read ic_len); have HB45 := Lib.hid hb; have HB5 := Lib.hid (HB4.out.trans (hb.mono HB4.out.size)); clear ho hb)
    | (go_at_call 14; refine (HH2.out w5 HB5.out).mono ?_; rintro e w6 ⟨v6, rfl, ho, hb⟩; have HO6 := Lib.hid (ho.read ic_len); have HO56 := Lib.hid (HO5.out.keep hb); have HB6 := Lib.hid (HB5.out.trans (hb.mono HB5.out.size)); have HC6 := Lib.hid (HB45.out.trans (hb.mono HB45.out.size)); clear ho hb)
    | (go_at_call 12; refine (lintsR_any _ _ ons w6 HO56.out HO6.out).mono ?_; rintro e w7 ⟨rfl, hb⟩; have HB7 := Lib.hid (HB6.out.trans (hb.mono HB6.out.size)); have HC7 := Lib.hid (HC6.out.trans (hb.mono HC6.out.size)); clear hb))
  have HJ3 := Lib.hid (HI3b.out.keep HC7.out)
  have HJ4 := Lib.hid (HI4.out.keep HC7.out)
  clear HO5 HO6 HO56 HB45 HC6 HC7 HI3b HI4 HH1 HH2
  go_loopw [15] (fun vi wr => ∃ k : Nat, k ≤ M ∧ vi = .int .i64 k ∧ Below w7.heap.size w7 wr) (fun i _ => M - (intOf i).toNat)
  case atStart => exact ⟨0, by omega, rfl, Below.refl _ _⟩
  case round =>
    obtain ⟨k, hk, rfl, hbw⟩ := hrel
    have HBr := Lib.hid hbw
    have HB := Lib.hid (HB7.out.trans (hbw.mono HB7.out.size))
    have HJ3r := Lib.hid (HJ3.out.keep hbw)
    have HJ4r := Lib.hid (HJ4.out.keep hbw)
    clear hbw
    by_cases hlt : k < M
    · have hlt' : (k : Int) < M := by omega
      have hk0 : (0 : Int) ≤ k := by omega
      have hi : k < its.length := by rw [HMl.out]; exact hlt
      obtain ⟨_, a', cap', he, -, hcell⟩ := HJ3r.out
      obtain ⟨b, off, e', hbl, hcell⟩ := hcell (by omega)
      have h33 : a3 = some ⟨b, off, none⟩ := by cases he; exact e'
      subst h33
      obtain ⟨d1, d2⟩ := wcells_at (hcell k hi)
      clear he e' hcell hbl
      obtain ⟨_, a', cap', he, -, hcell⟩ := HJ4r.out
      obtain ⟨b2, off2, e', hbl, hcell⟩ := hcell (by omega)
      have h33 : a4 = some ⟨b2, off2, none⟩ := by cases he; exact e'
      subst h33
      obtain ⟨d3, d4⟩ := wcells_at (hcell k hi)
      clear he e' hcell hbl
      generalize its[k] = y at d1 d2 d3 d4
      obtain ⟨p, q⟩ := y
      simp only at d1 d2 d3 d4
      have hnq := fun w => neq_itemR p q w
      go_upto_region 10 with fail
      go_quiet (fail)
      have HB2' := Lib.hid (HBr.out.drewN' nq)
      clear d1 d2 d3 d4 hnq
      go_wp2
      go_roundw
      case rel => exact ⟨k + 1, by omega, by go_num, HB2'.out⟩
      case measure => simp [intOf]; omega
    · obtain rfl : k = M := by omega
      clear hlt HBr HJ3r HJ4r
      have M1 := Lib.hid trivial
      go_wp2_with (first
        | (go_at_call 15; refine (HP1.out wr HB.out).mono ?_; rintro e w8 ⟨v8, rfl, ho, hb⟩; have HO8 := Lib.hid (ho.read ic_len); have HB8 := Lib.hid (HB.out.trans (hb.mono HB.out.size)); clear ho hb)
        | (go_at_call 16; refine (HP2.out w8 HB8.out).mono ?_; rintro e w9 ⟨v9, rfl, ho, hb⟩; have HO9 := Lib.hid (ho.read ic_len); have HO89 := Lib.hid (HO8.out.keep hb); have HB9 := Lib.hid (HB8.out.trans (hb.mono HB8.out.size)); clear ho hb)
        | (go_at_call 12; clear M1; refine (lintsR_any _ _ pls w9 HO89.out HO9.out).mono ?_; rintro e w10 ⟨rfl, hb⟩; have HB10 := Lib.hid (HB9.out.trans (hb.mono HB9.out.size)); clear hb)
        | (go_at_call 12; refine (lintsR_any _ _ hs w10 (HK2.out w10 HB10.out).1 (HK2.out w10 HB10.out).2).mono ?_; rintro e w11 ⟨rfl, hb⟩; have HB11 := Lib.hid (HB10.out.trans (hb.mono HB10.out.size)); clear hb)
        | (go_at_call 17; refine (awake_any _).mono ?_; rintro e w12 ⟨rfl, hb⟩; have HB12 := Lib.hid (HB11.out.trans (hb.mono HB11.out.size)); clear hb))
      go_ret
      exact ⟨rfl, HB2.out.trans (HB12.out.mono HB2.out.size)⟩

--LIFT
set_option maxRecDepth 100000 in
theorem liftedPlaces (os : Os) (started : os.Started) (H : Type) (enc : TypeId × Value → H) :
    ReturnsInHanded {} Try.checked os 3 .any (Rows.rulePlacesSpec.pre6 enc Try.prog Try.f3 Rows.rulePlacesRow.domain false) (Rows.rulePlacesSpec.post enc Try.prog Try.f3 false true false false) := by
  refine lift.law (C := Try.checked) own started (by kernel_rfl) Try.func3
    (ChangeSpec.witness6 (enc := enc) (C := Try.checked) false ⟨#[], #[.slice none 0 0, .slice none 0 0, .int .u32 0, .int .i64 0, .int .i64 0], []⟩ 8 (by kernel_rfl) (by kernel_rfl) (by kernel_rfl) (by kernel_rfl)) laidOut (by kernel_rfl) 4 Try.underlying4 (by kernel_rfl) rfl ?_ ?_
  · intro ds hd
    match ds, hd with
    | [_, _, _, _, _], _ => rfl
  · intro W base args ds ps hg
    have hA : DataW.TrodAll enc Try.prog W 0 (fun _ => true) true Try.f3.params.toList args.toList ds ps := hg.read
    have hval : ∀ (j : Nat) t v, Try.f3.params[j]? = some t → args[j]? = some v → Value.okWide Try.prog W .any base t v := hg.ok
    rw [Try.params3] at hA hval
    obtain ⟨v0, vs0, d0, ds0, p0, q0, hargs, rfl, rfl, h0, r0⟩ := trodAll_cons hA
    obtain ⟨v1, vs1, d1, ds1, p1, q1, rfl, rfl, rfl, h1, r1⟩ := trodAll_cons r0
    obtain ⟨v2, vs2, d2, ds2, p2, q2, rfl, rfl, rfl, h2, r2⟩ := trodAll_cons r1
    obtain ⟨v3, vs3, d3, ds3, p3, q3, rfl, rfl, rfl, h3, r3⟩ := trodAll_cons r2
    obtain ⟨v4, vs4, d4, ds4, p4, q4, rfl, rfl, rfl, h4, r4⟩ := trodAll_cons r3
    obtain ⟨rfl, rfl, rfl⟩ := trodAll_nil r4
    obtain rfl : args = #[v0, v1, v2, v3, v4] := by cases args; simp_all
    obtain ⟨fs0, hs0, hok0, hcap0⟩ := ints_open (hval 0 22 v0 rfl rfl) h0
    obtain ⟨fs1, hs1, hok1, hcap1⟩ := i64s_open (hval 1 23 v1 rfl rfl) h1
    obtain ⟨z2, rfl, rfl, rfl, w2⟩ := open_int Try.underlying24 (hval 2 24 v2 rfl rfl) h2
    have u2 := u32_pos z2 w2
    obtain ⟨n2, rfl⟩ : ∃ n : Nat, z2 = n := ⟨z2.toNat, by omega⟩
    obtain ⟨z3, rfl, rfl, rfl, w3⟩ := open_int Try.underlying3 (hval 3 3 v3 rfl rfl) h3
    obtain ⟨z4, rfl, rfl, rfl, w4⟩ := open_int Try.underlying3 (hval 4 3 v4 rfl rfl) h4
    exact walkPlaces v0 v1 fs0 fs1 n2 z3 z4 (by omega) W hs0 hs1 hcap0 (i64_of w3)

theorem places_holds : Rows.RulePlacesSaid :=
  OpenClaim.holds_of_wide 3 Try.f3 rfl rfl rfl rfl rfl rfl rfl ⟨rfl, rfl, rfl, rfl, rfl⟩ rfl rfl rfl rfl rfl (by kernel_rfl) Try.func3 (by kernel_rfl)
    (of_decide_eq_true (by kernel_rfl)) (by unfold Func.isWrapper; first | (rw [if_pos (by decide +kernel)]; kernel_rfl) | (rw [if_neg (by decide +kernel)]; exact ⟨rfl, rfl⟩))
    (fun os started H enc _ => liftedPlaces os started H enc)

#print axioms places_holds
end Go.Proofs.Ytfmphjplelganaa.crush
