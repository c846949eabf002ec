/- The law FrameTurned: for every kind, all bytes, any place and any 32 bits it returns true and leaves its arguments as they were; the two package-level tables start as the program's text lays them. Conditions: none. -/
import Derived.Test.YtkjenddmkmlbeaaDoorCards
import Derived.Test.YtkjenddmkmlbeaaDoorTie
import Derived.Test.YtkjenddmkmlbeaaDoorFrameLawS
import Derived.Test.YtkjenddmkmlbeaaDoorFrameMath2
import Derived.Laws.OwnMore
namespace Go.Proofs.YtkjenddmkmlbeaaDoor.frame
open Go.ChangeShapes Go.WideShapes Go.ChangeAt Go.RowKit
open Go.Proofs.YtkjenddmkmlbeaaDoor.kit Go.Proofs.YtkjenddmkmlbeaaDoor.own Go.Proofs.YtkjenddmkmlbeaaDoor.fm Go.Proofs.YtkjenddmkmlbeaaDoor.lift
open Go.WideMaps Go.WideElems
set_option linter.unusedVariables false
set_option linter.constructorNameAsVariable false

/-- What was turned so far, of the bits from a place on. -/
def TurnR (b ms : List Nat) (fr k W : Nat) : Prop := W < 2 ^ k ∧ ms.length = b.length ∧ (∀ x ∈ ms, x < 256) ∧ val ms = val b ^^^ 2 ^ fr * W
theorem TurnR.keep {b ms : List Nat} {fr k W : Nat} (h : TurnR b ms fr k W) : TurnR b ms fr (k + 1) W := ⟨by have := h.1; rw [Nat.pow_succ]; omega, h.2⟩
theorem TurnR.turn {b ms : List Nat} {fr k W : Nat} (h : TurnR b ms fr k W) (hp : fr + k < 8 * b.length) :
    TurnR b (ms.set ((fr + k) / 8) (ms.getD ((fr + k) / 8) 0 ^^^ 2 ^ ((fr + k) % 8))) fr (k + 1) (W ^^^ 2 ^ k) := by
  have hi : (fr + k) / 8 < ms.length := by rw [h.2.1]; omega
  have hj : (fr + k) % 8 < 8 := by omega
  have hb := byte_at ms h.2.2.1 ((fr + k) / 8)
  have hx : ms.getD ((fr + k) / 8) 0 ^^^ 2 ^ ((fr + k) % 8) < 256 := Nat.xor_lt_two_pow (n := 8) hb (Nat.pow_lt_pow_right (by decide) hj)
  refine ⟨Nat.xor_lt_two_pow (by have := h.1; rw [Nat.pow_succ]; omega) (Nat.pow_lt_pow_right (by decide) (by omega)), by rw [List.length_set]; exact h.2.1, ?_, ?_⟩
  · intro x hx'
    rcases List.mem_or_eq_of_mem_set hx' with h1 | h1
    · exact h.2.2.1 x h1
    · rw [h1]; exact hx
  · rw [val_set ms _ _ hi h.2.2.1 _ hj rfl, h.2.2.2, Nat.xor_assoc, mul_xor]
    congr 2
    rw [← Nat.pow_add, show 8 * ((fr + k) / 8) + (fr + k) % 8 = fr + k from by omega]

/-- A byte of a slice of the call's own, written. -/
theorem OwnI.put {w : World} {B g cap e : Nat} {ns : List Nat} (h : OwnI w B e .u8 (.slice (some ⟨g, 0, none⟩) ns.length cap) ns) (i x : Nat) (hi : i < ns.length) :
    OwnI (w.setCell ⟨g, i, none⟩ (.int .u8 (x : Int))) B e .u8 (.slice (some ⟨g, 0, none⟩) ns.length cap) (ns.set i x) ∧ w.grownBy (w.setCell ⟨g, i, none⟩ (.int .u8 (x : Int))) (some g) := by
  obtain ⟨h1, h2⟩ := World.ownsRow.stored h i (.int .u8 (x : Int))
  refine ⟨?_, h2⟩
  unfold OwnI
  rw [List.map_set, List.length_set]
  exact h1

theorem OwnI.free {w : World} {B g n cap e : Nat} {ns : List Nat} (h : OwnI w B e .u8 (.slice (some ⟨g, 0, none⟩) n cap) ns) (i : Nat) : w.frozen? ⟨g, i, none⟩ = false := by
  rcases h.2 with ⟨h', _⟩ | ⟨g', cap', cur, h', hb, hg, _⟩
  · simp at h'
  · simp only [Value.slice.injEq, Option.some.injEq, Addr.mk.injEq, and_true] at h'
    obtain ⟨rfl, _⟩ := h'
    simp [World.frozen?, hg]

theorem from_eq (z : Int) (L : Nat) (hL : L ≤ 1048575) : ∃ p : Nat, p < 8 * (L + 8) ∧ wrap64 (8 + wrap64 ((IntKind.u64.wrap z).tmod (8 * ((L : Int) + 9 - 1)))) = ((8 + p : Nat) : Int) := by
  have h0 : 0 ≤ IntKind.u64.wrap z := by rw [IntKind.wrap_u64]; omega
  rw [Int.tmod_eq_emod_of_nonneg h0]
  generalize IntKind.u64.wrap z = u at h0
  have hM : (8 * ((L : Int) + 9 - 1)) = ((8 * (L + 8) : Nat) : Int) := by omega
  rw [hM]
  have h1 := Int.emod_nonneg u (show ((8 * (L + 8) : Nat) : Int) ≠ 0 by omega)
  have h2 := Int.emod_lt_of_pos u (show (0 : Int) < ((8 * (L + 8) : Nat) : Int) by omega)
  generalize u % ((8 * (L + 8) : Nat) : Int) = q at h1 h2
  obtain ⟨p, rfl⟩ := Int.eq_ofNat_of_zero_le h1
  refine ⟨p, by omega, ?_⟩
  unfold wrap64
  omega

set_option maxHeartbeats 8000000 in
set_option maxRecDepth 100000 in
theorem walkTurned (w : World) (kind : Nat) (hk : kind < 256) (v : Value) (ns : List Nat) (hv : Bts w v ns) (hlen : ns.length ≤ 140737488351232) (z : Int) (x : Nat) (hx : x < 4294967296) (hn : Nib w) (hb : Bru w) :
    Calls Tryd.prog 6 #[.int .u8 kind, v, .int .i64 z, .int .u32 x] w fun e w' => e = .returned (.bool true) ∧ Below w.heap.size w w' := by
  have HV := Lib.hid hv; have HN := Lib.hid hn; have HBr := Lib.hid hb; have HK := Lib.hid hk; have HLen := Lib.hid hlen; have HX := Lib.hid hx
  clear hv hn hb hk hlen hx
  go_enter Tryd.func6, Tryd.ntmps6
  by_cases hlong : 1048575 < ns.length
  · go_wp2_with fail
    refine (Seal_long kind v ns w HV.out.1 hlong).mono ?_
    rintro e w1 ⟨rfl, rfl⟩
    go_wp2_with fail
    refine (awake_any w HN.out HBr.out).mono ?_
    rintro e w1 ⟨rfl, hb1⟩
    have HB1 := Lib.hid hb1
    clear hb1
    go_wp2
    go_ret
    exact ⟨rfl, HB1.out⟩
  · go_wp2_with fail
    refine (Seal_ok kind HK.out v ns w HV.out HN.out (by omega)).mono ?_
    rintro e w1 ⟨⟨v1, rfl, ho1⟩, hb1⟩
    obtain ⟨g1, cap1, rfl, hB1, hc1, hm1⟩ := own_at ho1 (by rw [sealed_len]; omega)
    rw [sealed_len] at hc1 ho1 ⊢
    have HO1 := Lib.hid ho1
    have HB1 := Lib.hid hb1
    have HS1 := Lib.hid (bts_own ho1 (sealed_lt kind ns HK.out HV.out.2.1))
    obtain ⟨L, hL⟩ : ∃ L, ns.length = L := ⟨_, rfl⟩
    have HL := Lib.hid hL
    rw [hL] at HS1 hc1 hlong ⊢
    clear hb1 ho1 hB1 hL
    have HB2 := Lib.hid ((Below.refl w1.heap.size w1).alloc (Nat.le_refl _) (.cells #[] 5))
    go_wp2_with (at_builtin; refine appS rfl (.tmp 27) (.tmp 28) 22 rfl w1.heap.size 5 .u8 1 Tryd.underlying22 infoByte _ [] rfl (own_empty w1 _ _) _ (sealed kind ns) rfl (HS1.out.1.keep HB2.out) (fun n c e => by cases e) ?_ ?_ HB2.out.size ?_)
    case refine_1 => have := HL.out; simp [maxLen, sealed_len]; omega
    case refine_2 => have := HL.out; simp [sealed_len]; omega
    case refine_3 =>
      intro v3 w3 ho3 hk3
      replace ho3 : OwnI w3 w1.heap.size 5 .u8 v3 (sealed kind ns) := ho3
      have HB3 := Lib.hid (show Below w1.heap.size w1 w3 from HB2.out.trans hk3.toBelow)
      obtain ⟨g3, cap3, rfl, hB3, hc3, hm3⟩ := own_at ho3 (by rw [sealed_len]; omega)
      rw [sealed_len, HL.out] at hc3 ⊢
      have HO3 := Lib.hid ho3
      clear ho3 hk3 HB2
      go_upto_region 6 with fail
      obtain ⟨p, hp, hfr⟩ := from_eq z L (by omega)
      rw [hfr]
      clear hfr
      have hp8 : 8 ≤ 8 + p := by omega
      have HP := Lib.hid (show ∃ q, 8 + p = 8 + q from ⟨p, rfl⟩)
      have hfl : 8 + p < 8 * (L + 9) := by omega
      generalize 8 + p = fr at hp8 HP hfl ⊢
      clear hp
      have HSl := Lib.hid (sealed_len kind ns)
      have HO3' : Hid (OwnI w3 w1.heap.size 5 .u8 (.slice (some ⟨g3, 0, none⟩) (L + 9) cap3) (sealed kind ns)) := by
        have h := HO3.out
        rw [HSl.out, HL.out] at h
        exact h
      have HS8 := Lib.hid (sealed_lt kind ns HK.out HV.out.2.1)
      have HSlL : Hid ((sealed kind ns).length = L + 9) := by unfold Hid; rw [HSl.out, HL.out]
      clear HO3 HSl
      generalize hS : sealed kind ns = S at HS1 HO3' HS8 HSlL
      have HSe := Lib.hid hS
      clear hS
      have hc3' : L + 9 ≤ cap3 := hc3
      unfold maxLen at hm3
      go_wp2_with fail
      go_loopw [40] (fun vi wr => ∃ (k : Nat) (ms : List Nat) (W : Nat), k ≤ 32 ∧ vi = .int .i64 k ∧ TurnR S ms fr k W ∧ OwnI wr w1.heap.size 5 .u8 (.slice (some ⟨g3, 0, none⟩) (L + 9) cap3) ms ∧ Below w1.heap.size w1 wr) (fun i _ => 32 - (intOf i).toNat)
      case atStart => exact ⟨0, S, 0, by omega, rfl, ⟨by omega, rfl, HS8.out, by simp⟩, HO3'.out, HB3.out⟩
      case round =>
        obtain ⟨k, ms, W, hk, rfl, ht, ho, hb⟩ := hrel
        have HT := Lib.hid ht; have HO := Lib.hid ho; have HB := Lib.hid hb
        clear ht ho hb HO3' HB3
        by_cases hlt : k < 32
        · have hltI : (k : Int) < 32 := by omega
          have hk0 : (0 : Int) ≤ k := by omega
          have e1 : True → bits BinOp.and IntKind.u32 ((x : Int) / 2 ^ k) 1 = ((x / 2 ^ k % 2 : Nat) : Int) := fun _ => by
            have := and1 (x / 2 ^ k) (Nat.lt_of_le_of_lt (Nat.div_le_self _ _) HX.out)
            simpa using this
          by_cases hbit : x / 2 ^ k % 2 = 1
          · have hq : True → (((x / 2 ^ k % 2 : Nat) : Int) == 1) = true := fun _ => by rw [hbit]; rfl
            generalize x / 2 ^ k % 2 = q at e1 hq
            clear hbit
            by_cases hin : fr + k < 8 * (L + 9)
            · have hml := HT.out.2.1
              have hi : (fr + k) / 8 < L + 9 := by omega
              have hc1 := SlI.cells HO.out.read ((fr + k) / 8) hi
              rw [Nat.zero_add] at hc1
              have f1 := OwnI.free HO.out ((fr + k) / 8)
              have hy := byte_at ms HT.out.2.2.1 ((fr + k) / 8)
              have HN2 := Lib.hid (HT.out.turn (by rw [HSlL.out]; exact hin))
              have HPut : Hid (OwnI (wr.setCell ⟨g3, (fr + k) / 8, none⟩ (.int .u8 ((ms.getD ((fr + k) / 8) 0 ^^^ 2 ^ ((fr + k) % 8) : Nat) : Int))) w1.heap.size 5 .u8 (.slice (some ⟨g3, 0, none⟩) (L + 9) cap3) (ms.set ((fr + k) / 8) (ms.getD ((fr + k) / 8) 0 ^^^ 2 ^ ((fr + k) % 8)))) := by
                have hlen : ms.length = L + 9 := by rw [hml, HSlL.out]
                have h := HO.out
                rw [← hlen] at h ⊢
                exact (OwnI.put h _ _ (by omega)).1
              have HBel := Lib.hid (HB.out.setCell (p := ⟨g3, (fr + k) / 8, none⟩) hB3 (.int .u8 ((ms.getD ((fr + k) / 8) 0 ^^^ 2 ^ ((fr + k) % 8) : Nat) : Int)))
              clear hml
              generalize ms.getD ((fr + k) / 8) 0 = y at hc1 hy HN2 HPut HBel
              have hj : 2 ^ ((fr + k) % 8) < 256 := by
                have : 2 ^ ((fr + k) % 8) < 2 ^ 8 := Nat.pow_lt_pow_right (by decide) (by omega)
                exact this
              have e5 : bits BinOp.xor IntKind.u8 (y : Int) ((2 : Int) ^ ((fr + k) % 8) % 256) = ((y ^^^ 2 ^ ((fr + k) % 8) : Nat) : Int) := by
                have e6 : (2 : Int) ^ ((fr + k) % 8) % 256 = ((2 ^ ((fr + k) % 8) : Nat) : Int) := by
                  have : (2 : Int) ^ ((fr + k) % 8) = ((2 ^ ((fr + k) % 8) : Nat) : Int) := by simp
                  rw [this]
                  generalize 2 ^ ((fr + k) % 8) = P at hj
                  omega
                rw [e6]
                exact u8_xor_nat y _ hy hj
              have E5 := Lib.hid e5
              clear e5 hj hy
              go_wp2
              go_roundw
              case rel =>
                rw [E5.out]
                exact ⟨k + 1, _, _, by omega, by go_num, HN2.out, HPut.out, HBel.out⟩
              case measure => simp [intOf]; omega
            · have hinI : ¬ (fr : Int) + k < 8 * ((L : Int) + 9) := by omega
              go_wp2
              go_roundw
              case rel => exact ⟨k + 1, ms, W, by omega, by go_num, HT.out.keep, HO.out, HB.out⟩
              case measure => simp [intOf]; omega
          · have hq : True → (((x / 2 ^ k % 2 : Nat) : Int) == 1) = false := fun _ => by
              rw [show x / 2 ^ k % 2 = 0 by omega]; rfl
            generalize x / 2 ^ k % 2 = q at e1 hq
            clear hbit
            go_wp2
            go_roundw
            case rel => exact ⟨k + 1, ms, W, by omega, by go_num, HT.out.keep, HO.out, HB.out⟩
            case measure => simp [intOf]; omega
        · obtain rfl : k = 32 := by omega
          have hml : ms.length = L + 9 := by rw [HT.out.2.1, HSlL.out]
          have hm : Bts wr (.slice (some ⟨g3, 0, none⟩) (L + 9) cap3) ms := bts_own HO.out HT.out.2.2.1
          have HBw := Lib.hid (HB1.out.trans (HB.out.mono HB1.out.size))
          have HM := Lib.hid hm; have HMl := Lib.hid hml
          have HTu : Hid (strN ms ≠ strN S → ¬ ((openE ms).2.2.2 = 0 ∧ (openE ms).2.2.1 = L + 9)) := by
            intro hne ⟨he, hN⟩
            apply hne
            unfold openE at he hN
            cases ho : openP ms with
            | error er =>
              rw [ho] at he
              exact absurd he (open_err_ne ho)
            | ok t =>
              obtain ⟨kd, bd, N⟩ := t
              rw [ho] at hN
              obtain ⟨qq, hq⟩ := HP.out
              have h4 := HT.out.2.2.2
              rw [hq, ← HSe.out] at h4
              have hN' : N = ns.length + 9 := by rw [HL.out]; exact hN
              rw [hN'] at ho
              have := turned kind ns ms HK.out HV.out.2.1 HT.out.2.2.1 (by rw [HL.out]; exact hml) qq W HT.out.1 h4 kd bd ho
              rw [this, HSe.out]
          clear hm hml
          go_wp2_with fail
          refine (Open_q _ ms wr HM.out (HN.out.keep HBw.out) (by have := HMl.out; omega)).mono ?_
          rintro e w5 ⟨⟨v5, rfl, h5⟩, hb5⟩
          have HB5 := Lib.hid (HBw.out.trans (hb5.mono HBw.out.size))
          have hcm := convN (HM.out.keep hb5)
          have hcs := convN (HS1.out.keep ((show Below w1.heap.size w1 w5 from HB.out.trans (hb5.mono HB.out.size))))
          have HA := Lib.hid (awake_any w5 (HN.out.keep HB5.out) (HBr.out.keep HB5.out))
          clear hb5 h5
          generalize (openE ms).1 = k0
          generalize (openE ms).2.2.1 = n0 at HTu
          generalize (openE ms).2.2.2 = er at HTu
          generalize strN ms = s1 at hcm HTu
          generalize strN S = s2 at hcs HTu
          by_cases hs : s1 = s2
          · subst hs
            go_wp2_with fail
            refine HA.out.mono ?_
            rintro e w6 ⟨rfl, hb6⟩
            have HB6 := Lib.hid (HB5.out.trans (hb6.mono HB5.out.size))
            clear hb6 hcm hcs
            go_wp2
            go_ret
            exact ⟨rfl, HB6.out⟩
          · by_cases he : er = 0
            · have hn : ¬ n0 = L + 9 := fun h => HTu.out hs ⟨he, h⟩
              have hnI : ((n0 : Int) != (L : Int) + 9) = true := by rw [bne_iff_ne]; omega
              subst he
              clear hs hn
              go_wp2_with fail
              all_goals
                refine HA.out.mono ?_
                rintro e w6 ⟨rfl, hb6⟩
                have HB6 := Lib.hid (HB5.out.trans (hb6.mono HB5.out.size))
                clear hb6 hcm hcs
                go_wp2
                go_ret
                exact ⟨rfl, HB6.out⟩
            · have heI : ((er : Int) != 0) = true := by rw [bne_iff_ne]; exact he
              clear hs he
              go_wp2_with fail
              all_goals
                refine HA.out.mono ?_
                rintro e w6 ⟨rfl, hb6⟩
                have HB6 := Lib.hid (HB5.out.trans (hb6.mono HB5.out.size))
                clear hb6 hcm hcs
                go_wp2
                go_ret
                exact ⟨rfl, HB6.out⟩

theorem readsTurned (os : Os) {H : Type} (enc : TypeId × Value → H) : ∃ places, DataW.whole enc Tryd.prog ((laidWorld os).forCall (fun _ _ => 0) ⟨#[], #[.int .u8 0, .slice none 0 0, .int .i64 0, .int .u32 0], []⟩).memory Tryd.f6.params.toList Rows.frameTurnedSpec.vars false (#[.int .u8 0, .slice none 0 0, .int .i64 0, .int .u32 0] : Array Value).toList 8 = some ([.lit (.int .u8 0), .nil, .lit (.int .i64 0), .lit (.int .u32 0)], [], places) :=
  ⟨[], by kernel_rfl⟩

set_option maxRecDepth 100000 in
theorem liftedTurned (os : Os) (started : os.Started) (H : Type) (enc : TypeId × Value → H) (F : Stop.Interp) :
    ReturnsInHanded {} Tryd.checked os 6 .any ((OpenSpec.ofChange Rows.frameTurnedSpec).preRow enc Tryd.prog Tryd.f6 Rows.frameTurnedRow.domain false Rows.frameTurnedRow.laid) (((OpenSpec.ofChange Rows.frameTurnedSpec).at F).post enc Tryd.prog Tryd.f6 false true false false) := by
  obtain ⟨places, hx⟩ := readsTurned os enc
  refine returnsInHanded_of_row (C := Tryd.checked) (s := OpenSpec.ofChange Rows.frameTurnedSpec) own started (by kernel_rfl) Tryd.func6
    (witness_row_at (enc := enc) (C := Tryd.checked) false (laidWorld os) #[.int .u8 0, .slice none 0 0, .int .i64 0, .int .u32 0] rfl (by kernel_rfl) (by kernel_rfl) (by kernel_rfl)
      (OpenSpec.preRow_of_cond 8 hx (by kernel_rfl) (fun k hk => by cases hk) (by kernel_rfl) (laid_met os _))) ?_
  intro W base args ds gs before hval hW0 _ hcond hz hL _ _
  have hW : DataW.Whole enc Tryd.prog Tryd.f6.params.toList Rows.frameTurnedSpec.vars false W args.toList ds gs before := hW0
  refine closes (s := Rows.frameTurnedSpec) laidOut (by kernel_rfl) 4 Tryd.underlying4 (by kernel_rfl) rfl (fun ds hd => ?_) hW ?_
  · match ds, hd with
    | [_, _, _, _], _ => rfl
  · obtain ⟨p, q, hA0, hV, hbefore, hfz, hnd⟩ := hW
    obtain ⟨rfl, rfl⟩ := trodVars_none hV
    have hA : DataW.TrodAll enc Tryd.prog W 0 (fun _ => true) true Tryd.f6.params.toList args.toList ds p := hA0
    have hval' : ∀ (j : Nat) t v, Tryd.f6.params[j]? = some t → args[j]? = some v → Value.okWide Tryd.prog W .any base t v := hval
    have hz' : (DataW.weightsEach Tryd.prog Tryd.f6.params.toList ds).all (· ≤ reachBytes) = true := by
      have h : (DataW.weightsEach Tryd.prog (Tryd.f6.params.toList ++ []) (ds ++ [])).all (· ≤ reachBytes) = true := hz
      rw [List.append_nil, List.append_nil] at h
      exact h
    rw [Tryd.params6] at hA hval' hz'
    obtain ⟨v0, vs0, d0, ds0, p0, q0, hargs, rfl, rfl, h0, r0⟩ := trodAll_cons hA
    obtain ⟨v1, vs1, d1, ds1, p1, q1, rfl, rfl, rfl, h1, r1⟩ := trodAll_cons r0
    obtain ⟨v2, vs2, d2, ds2, p2, q2, rfl, rfl, rfl, h2, r2⟩ := trodAll_cons r1
    obtain ⟨v3, vs3, d3, ds3, p3, q3, rfl, rfl, rfl, h3, r3⟩ := trodAll_cons r2
    obtain ⟨rfl, rfl, rfl⟩ := trodAll_nil r3
    obtain rfl : args = #[v0, v1, v2, v3] := by cases args; simp_all
    obtain ⟨a0, rfl, rfl, rfl, w0⟩ := open_int Tryd.underlying5 (hval' 0 5 v0 rfl rfl) h0
    have hk0 := u8_pos a0 w0
    obtain ⟨x0, rfl⟩ := Int.eq_ofNat_of_zero_le hk0.1
    obtain ⟨ns1, hv1, hlen1, hbk1⟩ := bytes_open (hval' 1 22 v1 rfl rfl) h1 (weight hz' (j := 1) rfl rfl)
    obtain ⟨a2, rfl, rfl, rfl, w2⟩ := open_int Tryd.underlying3 (hval' 2 3 v2 rfl rfl) h2
    obtain ⟨a3, rfl, rfl, rfl, w3⟩ := open_int Tryd.underlying28 (hval' 3 28 v3 rfl rfl) h3
    have hk3 := u32_pos a3 w3
    obtain ⟨x3, rfl⟩ := Int.eq_ofNat_of_zero_le hk3.1
    exact walkTurned W x0 (by omega) v1 ns1 hv1 hlen1 a2 x3 (by omega) (nib_of hL) (bru_of hL)

theorem saidTurned : Rows.FrameTurnedSaid :=
  OpenClaim.holds_of_cond 6 Tryd.f6 rfl rfl rfl rfl rfl rfl rfl ⟨rfl, rfl, rfl, rfl, rfl⟩ rfl rfl rfl rfl rfl (by kernel_rfl) Tryd.func6 (by kernel_rfl)
    (of_decide_eq_true (by kernel_rfl)) (by unfold Func.isWrapper; first | (rw [if_pos (by decide +kernel)]; kernel_rfl) | (rw [if_neg (by decide +kernel)]; exact ⟨rfl, rfl⟩))
    (fun os started H enc _ F => by rw [OpenClaim.pre_eq_preRow]; exact liftedTurned os started H enc F)

theorem plainTurned (f : FuncId) (fn : Func) (hf : Tryd.pinned.checked.prog.funcNamed "reef/reeflaw03.FrameTurned" = some f) (hfn : Tryd.pinned.checked.prog.funcs[f]? = some fn) :
    false = Tryd.pinned.checked.prog.looks [] ∧ ∀ (j : Nat) t, fn.params[j]? = some t → Tryd.pinned.checked.prog.wantsStandIn t = false := by
  obtain rfl : f = 6 := Option.some.inj ((show Tryd.prog.funcNamed "reef/reeflaw03.FrameTurned" = some 6 by kernel_rfl).symm.trans hf) |>.symm
  obtain rfl : fn = Tryd.f6 := (Option.some.inj (Tryd.func6.symm.trans hfn)).symm
  refine ⟨by kernel_rfl, fun j t ht => ?_⟩
  rw [Tryd.params6] at ht
  have hm : t ∈ [5, 22, 3, 28] := by simpa using Array.mem_of_getElem? ht
  have hall : ([5, 22, 3, 28].all fun u => !Tryd.prog.wantsStandIn u) = true := by kernel_rfl
  exact (show Tryd.prog.wantsStandIn t = false by simpa using List.all_eq_true.1 hall t hm)

theorem cardTurned : Rows.FrameTurnedCardSaid :=
  Claim7.holds_tied_plain_at .later [] _ _ _ _ saidTurned (fun _ h => by cases h) (by kernel_rfl) (fun _ h => by cases h) frameTurned_row_tie rfl ⟨rfl, rfl⟩ (by kernel_rfl) rfl plainTurned (by kernel_rfl)

#print axioms cardTurned
end Go.Proofs.YtkjenddmkmlbeaaDoor.frame
