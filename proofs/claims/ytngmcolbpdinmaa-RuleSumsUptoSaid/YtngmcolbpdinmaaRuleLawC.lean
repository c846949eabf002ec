/- RuleCounts: the statement is proved as it is given, for every input. -/
import Derived.Test.YtngmcolbpdinmaaRows
import Derived.Test.YtngmcolbpdinmaaRuleRMoves
import Derived.Test.YtngmcolbpdinmaaRuleMoves
import Derived.Test.YtngmcolbpdinmaaRuleLift
namespace Go.Proofs.Ytngmcolbpdinmaa.crush
open Go.ChangeShapes Go.WideShapes Go.ChangeAt Go.RowKit
open Go.Proofs.Ytngmcolbpdinmaa.kit Go.Proofs.Ytngmcolbpdinmaa.own Go.Proofs.Ytngmcolbpdinmaa.lift
set_option linter.unusedVariables false

theorem i64_of' {z : Int} (h : (Lit.int .i64 z).wf = true) : I64 z := by
  unfold I64
  simpa [Lit.wf, IntKind.min, IntKind.max, IntKind.signed, IntKind.bits] using h

set_option maxHeartbeats 32000000 in
set_option maxRecDepth 100000 in
theorem walkCounts (v vw vo : Value) (hs0 ws wo : List Int) (x : Nat) (n size d : Int) (hx : x < 4294967296) (w : World) (h : Sl ic 1 w v hs0) (hw : Sl ic 1 w vw ws) (ho : Sl ic 1 w vo wo) (hc : CapOk v hs0.length) (hsz : I64 size) :
    Calls Try.prog 3 #[v, vw, vo, .int .u32 x, .int .i64 n, .int .i64 size, .int .i64 d] w fun e w' => e = .returned (.bool true) ∧ Below w.heap.size w w' := by
  have HFw := Lib.hid (few_any v hs0 6 (by decide) w h hc)
  obtain ⟨a0, c0, rfl⟩ := h.slice
  obtain ⟨aw, cw, rfl⟩ := hw.slice
  obtain ⟨ao, co, rfl⟩ := ho.slice
  have hlh : (hs0.take 6).length ≤ 65536 := by rw [List.length_take]; omega
  generalize hs0.take 6 = hs at HFw hlh
  have hsz2 : I64 (min size 4) := by unfold I64 at hsz ⊢; omega
  have HL1 := Lib.hid (fun (nn : Int) va u (h1 : Sl ic 1 u va hs) (h2 : Sl ic 1 u (.slice aw ws.length cw) ws) => Load_any va _ hs ws x nn (min size 4) d hx u h1 h2 hlh hsz2)
  have HL2 := Lib.hid (fun (nn : Int) va u (h1 : Sl ic 1 u va hs) (h2 : Sl ic 1 u (.slice aw ws.length cw) ws) => rLoad_any va _ hs ws x nn (min size 4) d hx u h1 h2 hlh)
  have HM1 := Lib.hid (fun (nn : Int) va u (h1 : Sl ic 1 u va hs) (h2 : Sl ic 1 u (.slice aw ws.length cw) ws) (h3 : Sl ic 1 u (.slice ao wo.length co) wo) => Moves_any va _ _ hs ws wo x nn (min size 4) d hx u h1 h2 h3 hlh hsz2)
  have HM2 := Lib.hid (fun (nn : Int) va u (h1 : Sl ic 1 u va hs) (h2 : Sl ic 1 u (.slice aw ws.length cw) ws) (h3 : Sl ic 1 u (.slice ao wo.length co) wo) => rMoves_any va _ _ hs ws wo x nn (min size 4) d hx u h1 h2 h3 hlh)
  have HW := Lib.hid hw; have HO := Lib.hid ho
  obtain ⟨Lw, hLw⟩ : ∃ L, ws.length = L := ⟨_, rfl⟩
  obtain ⟨Lo, hLo⟩ : ∃ L, wo.length = L := ⟨_, rfl⟩
  obtain ⟨L, hL⟩ : ∃ L, hs.length = L := ⟨_, rfl⟩
  rw [hLw] at HW HL1 HL2 HM1 HM2 ⊢
  rw [hLo] at HO HM1 HM2 ⊢
  generalize hs0.length = L0 at HFw ⊢
  have HLh := Lib.hid hL
  have hmm : min size 4 = size ∧ size < 4 ∨ min size 4 = 4 := by omega
  have mixed : Try.prog.follows .mixedOrders = true := by kernel_rfl
  clear h hw ho hc hsz hx hlh hsz2 hLw hLo hL hmm
  go_enter Try.func3, Try.ntmps3
  go_upto_region 4 with (go_at_call 5; refine HFw.out.mono ?_; rintro e w1 ⟨⟨v1, rfl, hs1⟩, hw1⟩; obtain rfl : w1 = w := hw1; obtain ⟨a1, c1, rfl⟩ := hs1.slice; have HS := Lib.hid hs1; clear hs1)
  rw [HLh.out] at HS
  try rw [HLh.out]
  obtain ⟨nn, hnn⟩ : ∃ z, min n 30 = z := ⟨_, rfl⟩
  obtain ⟨sz, hss⟩ : ∃ z, min size 4 = z := ⟨_, rfl⟩
  rw [hss] at HL1 HL2 HM1 HM2
  simp only [hnn, hss]
  clear hnn hss HFw HLh
  have HK := Lib.hid (fun u (hu : Below w1.heap.size w1 u) => (⟨HS.out.keep hu, HW.out.keep hu, HO.out.keep hu⟩ : Sl ic 1 u (.slice a1 L c1) hs ∧ Sl ic 1 u (.slice aw Lw cw) ws ∧ Sl ic 1 u (.slice ao Lo co) wo))
  have HLd1 := Lib.hid (fun u hu => HL1.out nn _ u (HK.out u hu).1 (HK.out u hu).2.1)
  have HLd2 := Lib.hid (fun u hu => HL2.out nn _ u (HK.out u hu).1 (HK.out u hu).2.1)
  have HMv1 := Lib.hid (fun u hu => HM1.out nn _ u (HK.out u hu).1 (HK.out u hu).2.1 (HK.out u hu).2.2)
  have HMv2 := Lib.hid (fun u hu => HM2.out nn _ u (HK.out u hu).1 (HK.out u hu).2.1 (HK.out u hu).2.2)
  generalize ints (loadF hs ws x sz d (askR nn)) = lo at HLd1 HLd2
  generalize movR hs ws wo x sz d (askR nn) = mo at HMv1 HMv2
  clear HL1 HL2 HM1 HM2 HK HS HW HO
  go_wp2_with (first
    | (go_at_call 7; (with_reducible refine (HLd1.out w1 (Below.refl _ _)).mono ?_); rintro e w2 ⟨v2, rfl, ho, hb⟩; obtain ⟨a2, c2, rfl⟩ := ho.slice; have HO2 := Lib.hid ho; have HB2 := Lib.hid hb; clear ho hb HLd1)
    | (go_at_call 8; (with_reducible refine (HLd2.out w2 HB2.out).mono ?_); rintro e w3 ⟨v3, rfl, ho, hb⟩; obtain ⟨a3, c3, rfl⟩ := ho.slice; have HO3 := Lib.hid ho; have HO23 := Lib.hid (HO2.out.keep hb); have HB3 := Lib.hid (HB2.out.trans (hb.mono HB2.out.size)); clear ho hb HLd2)
    | (go_at_call 6; refine (lintsR_any _ _ lo w3 HO23.out HO3.out).mono ?_; rintro e w4 ⟨rfl, hb⟩; have HB4 := Lib.hid (HB3.out.trans (hb.mono HB3.out.size)); clear hb)
    | (go_at_call 9; (with_reducible refine (HMv1.out w4 HB4.out).mono ?_); rintro e w5 ⟨rfl, hb⟩; have HB5 := Lib.hid (HB4.out.trans (hb.mono HB4.out.size)); clear hb)
    | (go_at_call 10; (with_reducible refine (HMv2.out w5 HB5.out).mono ?_); rintro e w6 ⟨rfl, hb⟩; have HB6 := Lib.hid (HB5.out.trans (hb.mono HB5.out.size)); clear hb)
    | (go_at_call 11; refine (awake_any _).mono ?_; rintro e w7 ⟨rfl, hb⟩; have HB7 := Lib.hid (HB6.out.trans (hb.mono HB6.out.size)); clear hb))
  go_ret
  exact ⟨rfl, HB7.out⟩

--LIFT
set_option maxRecDepth 100000 in
theorem liftedCounts (os : Os) (started : os.Started) (H : Type) (enc : TypeId × Value → H) :
    ReturnsInHanded {} Try.checked os 3 .any (Rows.ruleCountsSpec.pre6 enc Try.prog Try.f3 Rows.ruleCountsRow.domain false) (Rows.ruleCountsSpec.post enc Try.prog Try.f3 false true false false) := by
  refine lift.law (C := Try.checked) own started (by kernel_rfl) Try.func3
    (ChangeSpec.witness6 (enc := enc) (C := Try.checked) false ⟨#[], #[.slice none 0 0, .slice none 0 0, .slice none 0 0, .int .u32 0, .int .i64 0, .int .i64 0, .int .i64 0], []⟩ 8 (by kernel_rfl) (by kernel_rfl) (by kernel_rfl) (by kernel_rfl)) laidOut (by kernel_rfl) 4 Try.underlying4 (by kernel_rfl) rfl ?_ ?_
  · intro ds hd
    match ds, hd with
    | [_, _, _, _, _, _, _], _ => rfl
  · intro W base args ds ps hg
    have hA : DataW.TrodAll enc Try.prog W 0 (fun _ => true) true Try.f3.params.toList args.toList ds ps := hg.read
    have hval : ∀ (j : Nat) t v, Try.f3.params[j]? = some t → args[j]? = some v → Value.okWide Try.prog W .any base t v := hg.ok
    rw [Try.params3] at hA hval
    obtain ⟨v0, vs0, d0, ds0, p0, q0, hargs, rfl, rfl, h0, r0⟩ := trodAll_cons hA
    obtain ⟨v1, vs1, d1, ds1, p1, q1, rfl, rfl, rfl, h1, r1⟩ := trodAll_cons r0
    obtain ⟨v2, vs2, d2, ds2, p2, q2, rfl, rfl, rfl, h2, r2⟩ := trodAll_cons r1
    obtain ⟨v3, vs3, d3, ds3, p3, q3, rfl, rfl, rfl, h3, r3⟩ := trodAll_cons r2
    obtain ⟨v4, vs4, d4, ds4, p4, q4, rfl, rfl, rfl, h4, r4⟩ := trodAll_cons r3
    obtain ⟨v5, vs5, d5, ds5, p5, q5, rfl, rfl, rfl, h5, r5⟩ := trodAll_cons r4
    obtain ⟨v6, vs6, d6, ds6, p6, q6, rfl, rfl, rfl, h6, r6⟩ := trodAll_cons r5
    obtain ⟨rfl, rfl, rfl⟩ := trodAll_nil r6
    obtain rfl : args = #[v0, v1, v2, v3, v4, v5, v6] := by cases args; simp_all
    obtain ⟨fs0, hs0, hok0, hcap0⟩ := ints_open (hval 0 22 v0 rfl rfl) h0
    obtain ⟨fs1, hs1, hok1, hcap1⟩ := i64s_open (hval 1 23 v1 rfl rfl) h1
    obtain ⟨fs2, hs2, hok2, hcap2⟩ := i64s_open (hval 2 23 v2 rfl rfl) h2
    obtain ⟨z3, rfl, rfl, rfl, w3⟩ := open_int Try.underlying24 (hval 3 24 v3 rfl rfl) h3
    have u3 := u32_pos z3 w3
    obtain ⟨n3, rfl⟩ : ∃ n : Nat, z3 = n := ⟨z3.toNat, by omega⟩
    obtain ⟨z4, rfl, rfl, rfl, w4⟩ := open_int Try.underlying3 (hval 4 3 v4 rfl rfl) h4
    obtain ⟨z5, rfl, rfl, rfl, w5⟩ := open_int Try.underlying3 (hval 5 3 v5 rfl rfl) h5
    obtain ⟨z6, rfl, rfl, rfl, w6⟩ := open_int Try.underlying3 (hval 6 3 v6 rfl rfl) h6
    exact walkCounts v0 v1 v2 fs0 fs1 fs2 n3 z4 z5 z6 (by omega) W hs0 hs1 hs2 hcap0 (i64_of' w5)

theorem counts_holds : Rows.RuleCountsSaid :=
  OpenClaim.holds_of_wide 3 Try.f3 rfl rfl rfl rfl rfl rfl rfl ⟨rfl, rfl, rfl, rfl, rfl⟩ rfl rfl rfl rfl rfl (by kernel_rfl) Try.func3 (by kernel_rfl)
    (of_decide_eq_true (by kernel_rfl)) (by unfold Func.isWrapper; first | (rw [if_pos (by decide +kernel)]; kernel_rfl) | (rw [if_neg (by decide +kernel)]; exact ⟨rfl, rfl⟩))
    (fun os started H enc _ => liftedCounts os started H enc)

#print axioms counts_holds
end Go.Proofs.Ytngmcolbpdinmaa.crush
