/- The domain of each node; how many copies there may be. -/
import Derived.Test.YtngmcolbpdinmaaRows
import Derived.Test.YtngmcolbpdinmaaRuleOnce
import Derived.Test.YtngmcolbpdinmaaRuleLow
import Derived.Test.YtngmcolbpdinmaaRuleApp
namespace Go.Proofs.Ytngmcolbpdinmaa.crush
open Go.RowKit
open Go.Proofs.Ytngmcolbpdinmaa.kit Go.Proofs.Ytngmcolbpdinmaa.own
set_option linter.unusedVariables false

set_option maxHeartbeats 4000000 in
set_option maxRecDepth 100000 in
theorem cloneI_any (v : Value) (xs : List Int) (w : World) (h : Sl ic 1 w v xs) (hl : xs.length * 8 ≤ 140737488355328) :
    Calls Try.prog 31 #[v] w (NumI w xs) := by
  obtain ⟨a, c, rfl⟩ := h.slice
  cases a with
  | none =>
    obtain ⟨rfl, -, rfl⟩ := h.empty_of_nil
    have HR := Lib.hid (show NumI w [] (.returned (.slice none 0 0)) w from ⟨_, rfl, Own.nil _ _ _, Below.refl _ _⟩)
    clear h
    rw [List.length_nil]
    have hnil := fun w => Lib.run_eql_slice_nil (P := Try.prog) w 22 3 none 0 0 0 0 Try.underlying22
    go_enter Try.func31, Try.ntmps31
    go_wp2
    go_ret
    exact HR.out
  | some a =>
    have hb : Below w.heap.size w (w.alloc (.cells #[] 3)) := (Below.refl _ _).alloc (Nat.le_refl _) _
    have HS := Lib.hid (h.keep hb); have HB := Lib.hid hb; have HL := Lib.hid hl
    have HO := Lib.hid (own_none (enc := ic) (k := 1) (e := 3) w w.heap.size (Nat.le_refl _))
    clear h hb hl
    obtain ⟨L, hL⟩ : ∃ L, xs.length = L := ⟨_, rfl⟩
    have HLe := Lib.hid hL
    rw [hL] at HS ⊢
    clear hL
    have hnil := fun w => Lib.run_eql_slice_nil (P := Try.prog) w 22 3 (some a) L c 0 0 Try.underlying22
    go_enter Try.func31, Try.ntmps31
    go_wp2_with (at_builtin; refine appSl ic_len ic_one (by decide) rfl _ _ 22 rfl w.heap.size 3 _ (by rfl) 8 Try.underlying22 infoInt _ [] rfl HO.out _ xs rfl HS.out (by have := HL.out; unfold maxLen; simp; omega) (by have := HL.out; simpa using this) (by simp) ?_; intro v2 w2 ho2 hk2; obtain ⟨x2, y2, rfl⟩ := ho2.slice; have HO2 := Lib.hid ho2; have HK := Lib.hid hk2; clear ho2 hk2)
    go_ret
    exact ⟨_, rfl, by simpa using HO2.out, HB.out.trans HK.out.toBelow⟩

theorem range_take (n i : Nat) (hi : i < n) (hs : List Int) (h : hs.length = n) : ((List.range i).map fun k : Nat => (k : Int)) ++ hs.drop i = ((List.range i).map fun k : Nat => (k : Int)) ++ [hs[i]] ++ hs.drop (i + 1) := by
  rw [List.append_assoc]
  congr 1
  exact List.drop_eq_getElem_cons (by omega)
def domK (hs : List Int) (i : Nat) : List Int := ((List.range i).map fun k : Nat => (k : Int)) ++ hs.drop i
theorem domK_len (hs : List Int) (i : Nat) (hi : i ≤ hs.length) : (domK hs i).length = hs.length := by unfold domK; simp; omega
theorem domK_set (hs : List Int) (i : Nat) (hi : i < hs.length) : (domK hs i).set i (i : Int) = domK hs (i + 1) := by
  unfold domK
  rw [List.set_append_right _ _ (by simp), List.length_map, List.length_range, Nat.sub_self, List.drop_eq_getElem_cons hi, List.set_cons_zero, List.range_succ, List.map_append, List.append_assoc]
  rfl
theorem domK_zero (hs : List Int) : domK hs 0 = hs := by simp [domK]
theorem domK_all (hs : List Int) {d : Int} (hd : d ≠ 2) : domK hs hs.length = domsE d hs := by unfold domK domsE; rw [if_neg hd]; simp

set_option maxHeartbeats 8000000 in
set_option maxRecDepth 100000 in
theorem domains_any (v : Value) (hs : List Int) (d : Int) (w : World) (h : Sl ic 1 w v hs) (hl : hs.length ≤ 65536) : Calls Try.prog 22 #[v, .int .i64 d] w (NumI w (domsE d hs)) := by
  obtain ⟨a, c, rfl⟩ := h.slice
  have HC := Lib.hid (cloneI_any _ hs w h (by omega))
  have HLn := Lib.hid hl
  obtain ⟨L, hL⟩ : ∃ L, hs.length = L := ⟨_, rfl⟩
  have HL := Lib.hid hL
  rw [hL] at hl HC ⊢
  clear h hL
  by_cases hd : d = 2
  · subst hd
    have e : domsE 2 hs = hs := by unfold domsE; rw [if_pos rfl]
    go_enter Try.func22, Try.ntmps22
    go_wp2_with fail
    refine HC.out.mono ?_
    rintro en w2 ⟨v2, rfl, ho, hb⟩
    obtain ⟨a2, c2, rfl⟩ := ho.slice
    have HO := Lib.hid ho; have HB := Lib.hid hb
    clear ho hb
    go_wp2
    go_ret
    rw [e]
    exact ⟨_, rfl, HO.out, HB.out⟩
  · have HE := Lib.hid (domK_all hs hd)
    have hd2 : ¬ d = 2 := hd
    go_enter Try.func22, Try.ntmps22
    go_wp2_with fail
    refine HC.out.mono ?_
    rintro en w2 ⟨v2, rfl, ho, hb⟩
    rcases ho.at with ⟨rfl, h0⟩ | ⟨g, cap, rfl, hB, hat⟩
    · have HB := Lib.hid hb
      have h1 : hs.length = 0 := by rw [h0]; rfl
      have HR : Hid (domsE d hs = []) := Lib.hid (List.eq_nil_of_length_eq_zero (by rw [domsE_len, h1]))
      clear ho hb HC HE HLn
      go_wp2
      go_loopw [13] (fun vi wr => vi = .int .i64 0 ∧ wr = w2) (fun i _ => 0)
      case atStart => exact ⟨rfl, rfl⟩
      case round =>
        obtain ⟨rfl, rfl⟩ := hrel
        go_wp2
        go_ret
        rw [HR.out]
        exact ⟨_, rfl, Own.nil _ _ _, HB.out⟩
    · have HB := Lib.hid hb; have HG := Lib.hid hB
      have HAt := Lib.hid hat
      rw [HL.out]
      clear ho hb hB hat HC
      go_wp2
      go_loopw [13] (fun vi wr => ∃ i : Nat, i ≤ L ∧ vi = .int .i64 i ∧ OwnAt ic 1 3 wr g cap (domK hs i) ∧ Below w.heap.size w wr) (fun i _ => L - (intOf i).toNat)
      case atStart => exact ⟨0, by omega, rfl, by rw [domK_zero]; exact HAt.out, HB.out⟩
      case round =>
        obtain ⟨i, hi, rfl, hat, hb⟩ := hrel
        by_cases hlt : i < L
        · have hlt' : (i : Int) < L := by omega
          have hi0 : (0 : Int) ≤ i := by omega
          have hil : i < (domK hs i).length := by rw [domK_len _ _ (by rw [HL.out]; omega), HL.out]; exact hlt
          have hth := (hat.thaw1 i)
          have k0 := icells_at hat i hil
          generalize (domK hs i)[i] = z0 at k0
          have hat2 := hat.set1 i hil (i : Int)
          rw [domK_set hs i (by rw [HL.out]; exact hlt)] at hat2
          have HAt2 := Lib.hid hat2
          have HB2 := Lib.hid (hb.setCell (p := ⟨g, i, none⟩) HG.out (.int .i64 i))
          clear hat hb hat2 hil
          go_wp2
          clear k0 hth
          go_roundw
          case rel => exact ⟨i + 1, by omega, by go_num, HAt2.out, HB2.out⟩
          case measure => simp [intOf]; omega
        · obtain rfl : i = L := by omega
          have HAt2 := Lib.hid hat; have HB2 := Lib.hid hb
          clear hat hb
          go_wp2
          go_ret
          have h9 := HAt2.out.own ic_len HG.out
          have e9 : domK hs i = domsE d hs := by rw [← HE.out, HL.out]
          rw [e9, domsE_len, HL.out] at h9
          exact ⟨_, rfl, h9, HB2.out⟩

set_option maxHeartbeats 16000000 in
set_option maxRecDepth 100000 in
theorem Most_any (v vw : Value) (hs ws : List Int) (size d : Int) (w : World) (h : Sl ic 1 w v hs) (hw : Sl ic 1 w vw ws) (hl : hs.length ≤ 65536) (hsz : I64 size) : Calls Try.prog 19 #[v, vw, .int .i64 size, .int .i64 d] w fun e w' => e = .returned (.int .i64 (mostE hs ws size d)) ∧ Below w.heap.size w w' := by
  obtain ⟨a, c, rfl⟩ := h.slice
  obtain ⟨aw, cw, rfl⟩ := hw.slice
  have HD := Lib.hid (domains_any _ hs d w h hl)
  have HW := Lib.hid hw; have HLn := Lib.hid hl
  obtain ⟨L, hL⟩ : ∃ L, hs.length = L := ⟨_, rfl⟩
  have HL := Lib.hid hL
  rw [hL] at hl HD ⊢
  have hw1 := hw.1
  generalize ws.length = Lw at HW hw1 ⊢
  clear h hw hL
  obtain ⟨hz1, hz2⟩ := hsz
  have HSz := Lib.hid (And.intro hz1 hz2)
  clear hz1 hz2
  go_enter Try.func19, Try.ntmps19
  go_wp2_with fail
  refine HD.out.mono ?_
  rintro en w2 ⟨v2, rfl, ho, hb⟩
  obtain ⟨a2, c2, rfl⟩ := ho.slice
  have hdl : (domsE d hs).length = L := by rw [domsE_len]; exact HL.out
  rw [hdl] at ho ⊢
  have HO := Lib.hid (ho.read ic_len); have HB := Lib.hid hb; have HDl := Lib.hid hdl
  have HW2 := Lib.hid (HW.out.keep hb)
  clear ho hb HD HW hdl
  go_wp2
  go_loopw [9, 16] (fun v9 vi wr => ∃ (i : Nat), i ≤ L ∧ vi = .int .i64 i ∧ Own ic 1 3 wr w2.heap.size v9 (withD hs ws d i) ∧ Below w2.heap.size w2 wr) (fun _ i _ => L - (intOf i).toNat)
  case atStart => exact ⟨0, by omega, rfl, Own.nil _ _ _, Below.refl _ _⟩
  case round =>
    obtain ⟨i, hi, rfl, ho9, hb⟩ := hrel
    obtain ⟨a9, c9, rfl⟩ := ho9.slice
    have hwl := withD_len hs ws d i
    have HO9 := Lib.hid ho9; have HBr := Lib.hid hb; have HWl := Lib.hid hwl
    by_cases hlt : i < L
    · have hlt' : (i : Int) < L := by omega
      have hi0 : (0 : Int) ≤ i := by omega
      have hil : i < (domsE d hs).length := by rw [HDl.out]; exact hlt
      obtain ⟨b2, off, c2', he, hbl, hcell⟩ := int_at (HO.out.keep hb) hil
      obtain ⟨rfl, rfl⟩ : a2 = some ⟨b2, off, none⟩ ∧ c2 = c2' := by cases he; exact ⟨rfl, rfl⟩
      have k0 := hcell i hil
      have hg : (domsE d hs).getD i 0 = (domsE d hs)[i] := by rw [List.getD_eq_getElem?_getD, List.getElem?_eq_getElem hil]; rfl
      have HWt := Lib.hid (nweight_any _ ws i (by omega) wr (HW2.out.keep hb))
      have HSt : Hid (withD hs ws d (i + 1) = if 0 < wtAt ws i then withD hs ws d i ++ [(domsE d hs)[i]] else withD hs ws d i) := Lib.hid (by rw [withD, hg])
      have hlw : (HW2.out.slice).choose = (HW2.out.slice).choose := rfl
      generalize (domsE d hs)[i] = z at k0 HSt
      generalize wtAt ws i = wt at HWt HSt
      have HNew : Hid (Sl ic 1 (wr.alloc (.cells #[.int .i64 z] 3)) (.slice (some ⟨wr.heap.size, 0, none⟩) 1 1) [z]) := Lib.hid (sl_new ic_len wr z _ _ rfl)
      have hba := below_new wr (.cells #[.int .i64 z] 3)
      have HOa := Lib.hid (ho9.below hba)
      have HBa := Lib.hid (hb.trans (hba.mono hb.size))
      clear ho9 hb hcell he hbl hg hwl hil hlw hba
      by_cases hp : 0 < wt
      · rw [if_pos hp] at HSt
        go_upto_region 5 with fail
        go_wp2_with (first | (go_at_call 28; refine HWt.out.mono ?_; rintro e w5 ⟨rfl, rfl⟩) | (at_builtin; refine app1Q ic_len ic_one (by decide) rfl _ _ 22 rfl w2.heap.size 3 _ (by rfl) 8 Try.underlying22 infoInt _ (withD hs ws d i) rfl HOa.out _ z rfl HNew.out (by have := HWl.out; unfold maxLen; omega) (by have := HWl.out; omega) (by have := HBa.out.size; omega) ?_; intro v9 w9 ho9 hk9 _ _; obtain ⟨x9, y9, rfl⟩ := ho9.slice; rw [← HSt.out] at ho9 ⊢; have HO10 := Lib.hid ho9; have HB10 := Lib.hid (HBa.out.trans (hk9.toBelow.mono (Nat.le_refl _))); clear ho9 hk9))
        clear k0
        go_roundw
        case rel => exact ⟨i + 1, by omega, by go_num, HO10.out, HB10.out⟩
        case measure => simp [intOf]; omega
      · rw [if_neg hp] at HSt
        go_upto_region 5 with fail
        go_wp2_with (go_at_call 28; refine HWt.out.mono ?_; rintro e w5 ⟨rfl, rfl⟩)
        clear k0
        go_roundw
        case rel => exact ⟨i + 1, by omega, by go_num, by rw [HSt.out]; exact HO9.out, HBr.out⟩
        case measure => simp [intOf]; omega
    · obtain rfl : i = L := by omega
      have HUn := Lib.hid (unlike_any _ (withD hs ws d i) wr (ho9.read ic_len) (by omega))
      have hol := onceL_len (withD hs ws d i)
      have hms : mostE hs ws size d = min size.toNat (onceL (withD hs ws d i)).length := by unfold mostE; rw [HL.out]
      have HMs := Lib.hid hms
      clear ho9 hb hms
      generalize withD hs ws d i = wl at HUn hol HMs hwl HWl HO9 ⊢
      go_wp2_with fail
      refine HUn.out.mono ?_
      rintro en w5 ⟨v5, rfl, ho5, hb5⟩
      obtain ⟨a5, c5, rfl⟩ := ho5.slice
      have HB5 := Lib.hid (HB.out.trans ((HBr.out.trans (hb5.mono HBr.out.size)).mono HB.out.size))
      clear ho5 hb5
      generalize (onceL wl).length = m at hol HMs ⊢
      go_wp2
      go_ret
      refine ⟨?_, HB5.out⟩
      have := HSz.out
      rw [HMs.out]
      exact congrArg (fun z : Int => Ending.returned (.int .i64 z)) (by omega)
end Go.Proofs.Ytngmcolbpdinmaa.crush
