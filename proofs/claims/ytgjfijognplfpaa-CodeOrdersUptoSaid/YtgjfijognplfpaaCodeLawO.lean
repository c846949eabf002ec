/- The law CodeOrders: for every two rows of bulk at most the bound it returns true and leaves its arguments as they were. -/
import Derived.Test.YtgjfijognplfpaaRows
import Derived.Test.YtgjfijognplfpaaCodeAwake
import Derived.Test.YtgjfijognplfpaaCodeOrdS
import Derived.Test.YtgjfijognplfpaaCodeOrdM
import Derived.Test.YtgjfijognplfpaaCodeKey
import Derived.Test.YtgjfijognplfpaaCodeLift
import Derived.JoinedCond
namespace Go.Proofs.Ytgjfijognplfpaa.lawsO
open Go.ChangeShapes Go.WideShapes Go.ChangeAt Go.RowKit
open Go.Proofs.Ytgjfijognplfpaa.kit Go.Proofs.Ytgjfijognplfpaa.cm Go.Proofs.Ytgjfijognplfpaa.code
open Go.WideMaps Go.WideElems
set_option linter.unusedVariables false

theorem keyq (sl : Value) (fs : List Fld) (w : World) (hs : SlF w sl fs) (hok : ∀ f ∈ fs, f.Ok) (hlen : (fs.flatMap Fld.part).length ≤ 800000000000) (htx : ∀ f ∈ fs, f.text.size ≤ 100000000000) :
    Calls Try.prog 18 #[sl] w fun e w' => e = .returned (.string (keyS fs)) ∧ Below w.heap.size w w' := key_any sl fs w hs hok hlen htx

set_option maxHeartbeats 4000000 in
set_option maxRecDepth 100000 in
theorem walkOrders (s1 s2 : Value) (fa fb : List Fld) (w : World) (hs1 : SlF w s1 fa) (hs2 : SlF w s2 fb) (o1 : ∀ f ∈ fa, f.Ok) (o2 : ∀ f ∈ fb, f.Ok)
    (hl1 : (fa.flatMap Fld.part).length ≤ 800000000000) (hl2 : (fb.flatMap Fld.part).length ≤ 800000000000) (ht1 : ∀ f ∈ fa, f.text.size ≤ 100000000000) (ht2 : ∀ f ∈ fb, f.text.size ≤ 100000000000) :
    Calls Try.prog 4 #[s1, s2] w fun e w' => e = .returned (.bool true) ∧ Below w.heap.size w w' := by
  obtain ⟨m1, a1, cap1, rfl, _⟩ := id hs1
  obtain ⟨m2, a2, cap2, rfl, _⟩ := id hs2
  have HS1 := Lib.hid hs1; have HS2 := Lib.hid hs2; have HO1 := Lib.hid o1; have HO2 := Lib.hid o2
  have HK1 := Lib.hid hl1; have HK2 := Lib.hid hl2; have HT1 := Lib.hid ht1; have HT2 := Lib.hid ht2
  obtain ⟨L1, hL1⟩ : ∃ L, fa.length = L := ⟨_, rfl⟩
  obtain ⟨L2, hL2⟩ : ∃ L, fb.length = L := ⟨_, rfl⟩
  have HL1 := Lib.hid hL1; have HL2 := Lib.hid hL2
  have hx := rowsF_three fa fb
  have hanti := rowsF_anti fa fb
  have HKO := Lib.hid (keys_order fa fb)
  obtain ⟨x, hxe⟩ : ∃ x, (if fits fa && fits fb then rowsF fa fb else 0) = x := ⟨_, rfl⟩
  have hxb : (if fits fb && fits fa then rowsF fb fa else 0) = -x := by
    rw [← hxe, hanti, Bool.and_comm]; split <;> simp
  have hx3 : x = -1 ∨ x = 0 ∨ x = 1 := by rw [← hxe]; split <;> simp_all
  rw [hL1] at m1 ⊢
  rw [hL2] at m2 ⊢
  clear hs1 hs2 hL1 hL2 o1 o2 hl1 hl2 ht1 ht2 hx hanti
  have hneg : True → IntKind.i64.wrap (-x) = -x := fun _ => by rcases hx3 with rfl | rfl | rfl <;> rfl
  have HXE := Lib.hid hxe; have HXB := Lib.hid hxb; have HX3 := Lib.hid hx3
  clear hxe hxb hx3
  go_enter Try.func4, Try.ntmps4
  go_wp2_with fail
  refine (Order_any _ _ fa fb w (by have := HS1.out; rwa [HL1.out] at this) (by have := HS2.out; rwa [HL2.out] at this)).mono ?_
  rintro e w1 ⟨rfl, hb1⟩
  rw [HXE.out]
  have HB1 := Lib.hid hb1
  clear hb1
  go_wp2_with fail
  refine (rOrder_any _ _ fa fb w1 (by have := HS1.out.below HB1.out; rwa [HL1.out] at this) (by have := HS2.out.below HB1.out; rwa [HL2.out] at this)).mono ?_
  rintro e w2 ⟨rfl, hb2⟩
  rw [HXE.out]
  have HB2 := Lib.hid (HB1.out.trans (hb2.mono HB1.out.size))
  clear hb2
  go_wp2_with fail
  refine (Order_any _ _ fb fa w2 (by have := HS2.out.below HB2.out; rwa [HL2.out] at this) (by have := HS1.out.below HB2.out; rwa [HL1.out] at this)).mono ?_
  rintro e w3 ⟨rfl, hb3⟩
  rw [HXB.out]
  have HB3 := Lib.hid (HB2.out.trans (hb3.mono HB2.out.size))
  clear hb3
  go_wp2_with fail
  refine (lfit_any _ fa w3 (by have := HS1.out.below HB3.out; rwa [HL1.out] at this)).mono ?_
  rintro e w4 ⟨rfl, hb4⟩
  have HB4 := Lib.hid (HB3.out.trans (hb4.mono HB3.out.size))
  clear hb4
  by_cases h1 : fits fa = true
  · rw [h1]
    go_wp2_with fail
    refine (lfit_any _ fb w4 (by have := HS2.out.below HB4.out; rwa [HL2.out] at this)).mono ?_
    rintro e w5 ⟨rfl, hb5⟩
    have HB5 := Lib.hid (HB4.out.trans (hb5.mono HB4.out.size))
    clear hb5
    by_cases h2 : fits fb = true
    · rw [h2]
      have hxr : rowsF fa fb = x := by have := HXE.out; rwa [h1, h2] at this
      have HXR := Lib.hid hxr
      have H1 := Lib.hid h1; have H2 := Lib.hid h2
      clear hxr h1 h2 hneg
      go_wp2
      go_loopw [6] (fun i wr => ∃ k : Nat, k ≤ L1 ∧ k ≤ L2 ∧ i = .int .i64 k ∧ (∀ j (q1 : j < fa.length) (q2 : j < fb.length), j < k → fa[j].kind = fb[j].kind) ∧ Below w.heap.size w wr) (fun i _ => L1 - (intOf i).toNat)
      case atStart => exact ⟨0, by omega, by omega, rfl, fun j _ _ h => absurd h (by omega), HB5.out⟩
      case round =>
        obtain ⟨k, hk1, hk2, rfl, hkind, hb⟩ := hrel
        have HB := Lib.hid hb; have HKD := Lib.hid hkind
        clear hb hkind
        by_cases hlt : k < L1 ∧ k < L2
        · obtain ⟨hlt, hlt2⟩ := hlt
          have hlt' : (k : Int) < L1 := by omega
          have hlt2' : (k : Int) < L2 := by omega
          have hk0 : (0 : Int) ≤ k := by omega
          have hi : k < fa.length := by rw [HL1.out]; exact hlt
          have hi2 : k < fb.length := by rw [HL2.out]; exact hlt2
          have hsa : SlF wr (.slice a1 fa.length cap1) fa := HS1.out.below HB.out
          obtain ⟨_, a', cap', he, hcell⟩ := hsa
          cases he
          obtain ⟨b, off, rfl, hbl, hcell⟩ := hcell (by omega)
          obtain ⟨c1, _⟩ := hcell k hi
          obtain ⟨f, hf⟩ : ∃ f, fa[k] = f := ⟨_, rfl⟩
          rw [hf] at c1
          have HF := Lib.hid hf
          clear hcell hf
          have hsb : SlF wr (.slice a2 fb.length cap2) fb := HS2.out.below HB.out
          obtain ⟨_, a', cap', he, hcell⟩ := hsb
          cases he
          obtain ⟨b2, off2, rfl, hbl2, hcell⟩ := hcell (by omega)
          obtain ⟨d1, _⟩ := hcell k hi2
          obtain ⟨g, hg⟩ : ∃ g, fb[k] = g := ⟨_, rfl⟩
          rw [hg] at d1
          have HG := Lib.hid hg
          clear hcell hg
          by_cases hkk : f.kind = g.kind
          · have HKK := Lib.hid hkk
            rw [← hkk] at d1
            clear hkk
            go_upto_region 9 with fail
            go_quiet (fail)
            have HBn := Lib.hid (HB.out.drewN' nq)
            clear c1 d1
            go_wp2
            go_roundw
            case rel =>
              refine ⟨k + 1, by omega, by omega, by go_num, ?_, HBn.out⟩
              intro j q1 q2 hj
              rcases Nat.lt_or_ge j k with h | h
              · exact HKD.out j q1 q2 h
              · obtain rfl : j = k := by omega
                have e1 := HF.out; have e2 := HG.out
                rw [e1, e2]; exact HKK.out
            case measure => simp [intOf]; omega
          · have hne : True → (f.kind != g.kind) = true := fun _ => by simpa using hkk
            clear hkk
            go_upto_region 9 with fail
            go_quiet (fail)
            have HBn := Lib.hid (HB.out.drewN' nq)
            clear c1 d1
            go_wp2_with (go_at_call 14; refine (awake_any _).mono ?_; rintro e w6 ⟨rfl, hb6⟩; have HB6 := Lib.hid hb6; clear hb6)
            go_ret
            exact ⟨rfl, HBn.out.trans (HB6.out.mono HBn.out.size)⟩
        · have hkd : ∀ i (h1 : i < fa.length) (h2 : i < fb.length), fa[i].kind = fb[i].kind := fun i q1 q2 => HKD.out i q1 q2 (by have := HL1.out; have := HL2.out; omega)
          obtain ⟨r1, r2⟩ := HKO.out H1.out H2.out HO1.out HO2.out hkd
          rw [HXR.out] at r1 r2
          have HQ1 := Lib.hid (keyq (.slice a1 fa.length cap1) fa wr (HS1.out.below HB.out) HO1.out HK1.out HT1.out)
          have HQ2 := Lib.hid (fun u (hu : Below wr.heap.size wr u) => keyq (.slice a2 fb.length cap2) fb u ((HS2.out.below HB.out).below hu) HO2.out HK2.out HT2.out)
          rw [HL1.out] at HQ1
          rw [HL2.out] at HQ2
          have hstop : ¬ ((k : Int) < L1 ∧ (k : Int) < L2) := by omega
          have HX := Lib.hid HX3.out
          clear hkd HKO HX3
          generalize keyS fa = KA at r1 r2 HQ1
          generalize keyS fb = KB at r1 r2 HQ2
          by_cases q1 : k < L1
          · have q1' : (k : Int) < L1 := by omega
            have q2' : ¬ (k : Int) < L2 := by omega
            clear hstop
            rcases HX.out with rfl | rfl | rfl
            all_goals
              have t1 : True → Op.bytesLess KA.toList KB.toList = _ := fun _ => r1
              have t2 : True → (KA.toList == KB.toList) = _ := fun _ => r2
              clear r1 r2
              go_wp2_with fail
              refine HQ1.out.mono ?_
              rintro e u1 ⟨rfl, hu1⟩
              have HU1 := Lib.hid hu1
              clear hu1
              go_wp2_with fail
              refine (HQ2.out u1 HU1.out).mono ?_
              rintro e u2 ⟨rfl, hu2⟩
              have HU2 := Lib.hid (HU1.out.trans (hu2.mono HU1.out.size))
              clear hu2
              go_wp2_with (go_at_call 14; refine (awake_any _).mono ?_; rintro e w6 ⟨rfl, hb6⟩; have HB6 := Lib.hid hb6; clear hb6)
              go_ret
              exact ⟨rfl, HB.out.trans ((HU2.out.trans (HB6.out.mono HU2.out.size)).mono HB.out.size)⟩
          · have q1' : ¬ (k : Int) < L1 := by omega
            clear hstop
            rcases HX.out with rfl | rfl | rfl
            all_goals
              have t1 : True → Op.bytesLess KA.toList KB.toList = _ := fun _ => r1
              have t2 : True → (KA.toList == KB.toList) = _ := fun _ => r2
              clear r1 r2
              go_wp2_with fail
              refine HQ1.out.mono ?_
              rintro e u1 ⟨rfl, hu1⟩
              have HU1 := Lib.hid hu1
              clear hu1
              go_wp2_with fail
              refine (HQ2.out u1 HU1.out).mono ?_
              rintro e u2 ⟨rfl, hu2⟩
              have HU2 := Lib.hid (HU1.out.trans (hu2.mono HU1.out.size))
              clear hu2
              go_wp2_with (go_at_call 14; refine (awake_any _).mono ?_; rintro e w6 ⟨rfl, hb6⟩; have HB6 := Lib.hid hb6; clear hb6)
              go_ret
              exact ⟨rfl, HB.out.trans ((HU2.out.trans (HB6.out.mono HU2.out.size)).mono HB.out.size)⟩
    · have h2' : fits fb = false := by simpa using h2
      rw [h2']
      obtain rfl : x = 0 := by have := HXE.out; rw [h1, h2'] at this; simpa using this.symm
      clear hneg
      go_wp2_with (go_at_call 14; refine (awake_any _).mono ?_; rintro e w6 ⟨rfl, hb6⟩; have HB6 := Lib.hid hb6; clear hb6)
      go_ret
      exact ⟨rfl, HB5.out.trans (HB6.out.mono HB5.out.size)⟩
  · have h1' : fits fa = false := by simpa using h1
    rw [h1']
    obtain rfl : x = 0 := by have := HXE.out; rw [h1'] at this; simpa using this.symm
    clear hneg
    go_wp2_with (go_at_call 14; refine (awake_any _).mono ?_; rintro e w6 ⟨rfl, hb6⟩; have HB6 := Lib.hid hb6; clear hb6)
    go_ret
    exact ⟨rfl, HB4.out.trans (HB6.out.mono HB4.out.size)⟩

theorem part_len (f : Fld) : f.part.length ≤ 2 * f.text.size + 10 := by
  unfold Fld.part
  have h1 := escN_len (txtN f.text)
  rw [txtN_len] at h1
  split
  · rw [highB_len]; omega
  split
  · rw [highB_len]; omega
  split
  · simp; omega
  · simp [flagB]
theorem bulk_part : ∀ (fs : List Fld), (fs.flatMap Fld.part).length ≤ 2 * bulkF fs
  | [] => by simp
  | f :: fs => by
    have h1 := part_len f
    have h2 := bulk_part fs
    rw [List.flatMap_cons, List.length_append, bulkF]
    omega

theorem own : ownKnob Try.prog.godebug = none := by kernel_rfl
theorem laidOut : laidOutB Try.prog = true := by kernel_rfl

set_option maxRecDepth 100000 in
theorem liftedOrders (os : Os) (started : os.Started) (H : Type) (enc : TypeId × Value → H) (F : Stop.Interp) :
    ReturnsInHanded {} Try.checked os 4 .any ((Rows.OpenSpec.upto Rows.codeOrdersSpec).pre6 enc Try.prog Try.f4 Rows.codeOrdersUptoRow.domain false) (((Rows.OpenSpec.upto Rows.codeOrdersSpec).at F).post enc Try.prog Try.f4 false true false false) := by
  refine lawUpto (C := Try.checked) (s := Rows.codeOrdersSpec) own started (by kernel_rfl) Try.func4
    (OpenSpec.witness (enc := enc) (C := Try.checked) (s := Rows.OpenSpec.upto Rows.codeOrdersSpec) (k := Rows.uptoSmall) rfl false ⟨#[], #[.slice none 0 0, .slice none 0 0], []⟩ 8 (by kernel_rfl) (by kernel_rfl) (by kernel_rfl)
      (x := ([.nil, .nil], [], [])) (by kernel_rfl) rfl (by kernel_rfl)) laidOut (by kernel_rfl) 4 Try.underlying4 (by kernel_rfl) rfl ?_ ?_
  · intro ds hd
    match ds, hd with
    | [_, _], _ => rfl
  · intro W base args ds ps hg hb
    have hA : DataW.TrodAll enc Try.prog W 0 (fun _ => true) true Try.f4.params.toList args.toList ds ps := hg.read
    have hval : ∀ (j : Nat) t v, Try.f4.params[j]? = some t → args[j]? = some v → Value.okWide Try.prog W .any base t v := hg.ok
    rw [Try.params4] at hA hval
    obtain ⟨v0, vs0, d0, ds0, p0, q0, hargs, rfl, rfl, h0, r0⟩ := trodAll_cons hA
    obtain ⟨v1, vs1, d1, ds1, p1, q1, rfl, rfl, rfl, h1, r1⟩ := trodAll_cons r0
    obtain ⟨rfl, rfl, rfl⟩ := trodAll_nil r1
    obtain rfl : args = #[v0, v1] := by cases args; simp_all
    obtain ⟨fa, hs1, ok1, bulk1⟩ := fields_open (hval 0 22 v0 rfl rfl) h0
    obtain ⟨fb, hs2, ok2, bulk2⟩ := fields_open (hval 1 22 v1 rfl rfl) h1
    simp only [Rows.uptoBulkAll] at hb
    have g1 := bulk_part fa
    have g2 := bulk_part fb
    exact walkOrders v0 v1 fa fb W hs1 hs2 ok1 ok2 (by omega) (by omega) (fun f hf => by have := bulk_mem hf; omega) (fun f hf => by have := bulk_mem hf; omega)

theorem orders_holds : Rows.CodeOrdersUptoSaid :=
  OpenClaim.holds_of_cond 4 Try.f4 rfl rfl rfl rfl rfl rfl rfl ⟨rfl, rfl, rfl, rfl, rfl⟩ rfl rfl rfl rfl rfl (by kernel_rfl) Try.func4 (by kernel_rfl)
    (of_decide_eq_true (by kernel_rfl)) (by unfold Func.isWrapper; first | (rw [if_pos (by decide +kernel)]; kernel_rfl) | (rw [if_neg (by decide +kernel)]; exact ⟨rfl, rfl⟩))
    (fun os started H enc _ F => liftedOrders os started H enc F)

#print axioms orders_holds
end Go.Proofs.Ytgjfijognplfpaa.lawsO
