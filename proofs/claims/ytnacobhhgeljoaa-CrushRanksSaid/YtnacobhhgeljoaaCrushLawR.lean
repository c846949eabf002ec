/- CrushRanks: the statement is proved as it is given, for every input. -/
import Derived.Test.YtnacobhhgeljoaaRows
import Derived.Test.YtnacobhhgeljoaaCrushRank
import Derived.Test.YtnacobhhgeljoaaCrushLawM
namespace Go.Proofs.Ytnacobhhgeljoaa.crush
open Go.ChangeShapes Go.WideShapes Go.ChangeAt Go.RowKit
open Go.Proofs.Ytnacobhhgeljoaa.kit Go.Proofs.Ytnacobhhgeljoaa.own Go.Proofs.Ytnacobhhgeljoaa.lift
set_option linter.unusedVariables false

/-- How many of the first n may be chosen. -/
def cntW (xs : List It) : Nat → Nat
  | 0 => 0
  | n + 1 => cntW xs n + if 1 ≤ (xs.getD n (0, 0)).2 then 1 else 0
theorem cntW_le (xs : List It) : ∀ n, cntW xs n ≤ n
  | 0 => Nat.le_refl _
  | n + 1 => by
    have := cntW_le xs n
    simp only [cntW]
    split <;> omega
/-- The numbers below n whose item may be chosen. -/
theorem ranked_len (x : Nat) (r : Int) (xs : List It) (ps : List Nat) (h : Ranked (keys x r xs) ps) : ps.length = cntW xs xs.length := by
  have key : ∀ n, n ≤ xs.length → ((List.range n).filter (fun i => decide (0 < wO (keys x r xs) i))).length = cntW xs n := by
    intro n
    induction n with
    | zero => intro _; rfl
    | succ n ih =>
      intro hn
      rw [List.range_succ, List.filter_append, List.length_append, ih (by omega)]
      have e : xs.getD n (0, 0) = xs[n] := by simp [List.getD, show n < xs.length by omega]
      have hk := (keys_at x r xs n (by omega)).2
      simp only [cntW, e]
      by_cases h1 : 1 ≤ xs[n].2
      · have h2 : 0 < wtN xs[n].2 := (wtN_pos _).2 h1
        rw [if_pos h1]
        simp [hk, h2]
      · have h2 : ¬ 0 < wtN xs[n].2 := fun h => h1 ((wtN_pos _).1 h)
        rw [if_neg h1]
        simp [hk, h2]
  have hnd : ps.Nodup := by
    refine h.1.imp ?_
    rintro a b ⟨h1, h2⟩ rfl
    have := h2 (Nat.le_refl _)
    omega
  have hp : ps.Perm ((List.range xs.length).filter (fun i => decide (0 < wO (keys x r xs) i))) := by
    refine (List.perm_ext_iff_of_nodup hnd (List.Pairwise.filter _ List.nodup_range)).2 (fun i => ?_)
    rw [h.2 i, keys_len]
    simp
  rw [hp.length_eq, key _ (Nat.le_refl _)]

set_option maxHeartbeats 32000000 in
set_option maxRecDepth 100000 in
theorem walkRanks (v : Value) (xs : List It) (x : Nat) (r : Int) (hx : x < 4294967296) (w : World) (h : Sl wc 2 w v xs) :
    Calls Try.prog 6 #[v, .int .u32 x, .int .i64 r] w fun e w' => e = .returned (.bool true) ∧ Below w.heap.size w w' := by
  obtain ⟨a, c, rfl⟩ := h.slice
  have HS := Lib.hid h
  obtain ⟨L, hL⟩ : ∃ L, xs.length = L := ⟨_, rfl⟩
  have HL := Lib.hid hL
  rw [hL] at HS ⊢
  have HXl := Lib.hid hx
  clear h hL hx
  by_cases h40 : L ≤ 40
  · have hf : True → decide ((L : Int) ≤ 40) = true := fun _ => by rw [decide_eq_true_iff]; omega
    have HO := Lib.hid (own_none (enc := wc) (k := 2) (e := 33) w w.heap.size (Nat.le_refl _))
    have HB0 := Lib.hid (below_new w (.cells #[] 33))
    have hHL : xs.length = L := HL.out
    have HSn := Lib.hid (HS.out.keep HB0.out)
    go_enter Try.func6, Try.ntmps6
    go_upto_region 4 with (first | (go_at_call 8; refine (few_any _ _ _ _).mono ?_; rintro e w1 ⟨rfl, rfl⟩) | (at_builtin; refine appSl wc_len wc_one (by decide) rfl _ _ 22 rfl w.heap.size 33 _ (by rfl) 16 Try.underlying22 infoItm _ [] rfl HO.out _ xs rfl HSn.out (by simp only [List.length_nil, hHL]; unfold maxLen; omega) (by simp only [List.length_nil, hHL]; omega) (by simp) ?_; intro v2 w2 ho2 hk2; rw [List.nil_append] at ho2; have HO2 := Lib.hid ho2; have HB2 := Lib.hid (HB0.out.trans hk2.toBelow); obtain ⟨a2, c2, rfl⟩ := ho2.slice; clear ho2 hk2))
    rw [hHL] at HO2
    clear HO HSn HB0
    go_wp2_with fail
    refine (Rank_any (.slice a L c) xs x r HXl.out (by rw [hHL]; omega) _ (HS.out.keep HB2.out)).mono ?_
    rintro e w3 ⟨v3, ps, rfl, hrk, hpl, hps, hb⟩
    have HRk := Lib.hid hrk
    have HO3 := Lib.hid (HO2.out.below hb)
    have HB3 := Lib.hid (HB2.out.trans (hb.mono HB2.out.size))
    have HP3 := Lib.hid (hps.mono HB2.out.size)
    have hcnt := ranked_len x r xs ps hrk
    obtain ⟨a3, c3, rfl⟩ := hps.slice
    rw [ints_len] at HP3 ⊢
    clear hb hrk hps HO2 HB2
    obtain ⟨M, hM⟩ : ∃ M, ps.length = M := ⟨_, rfl⟩
    have HM := Lib.hid hM
    rw [hM] at HP3 hpl hcnt ⊢
    rw [hHL] at hpl hcnt
    have HCn := Lib.hid hcnt
    clear hM hcnt hf
    go_wp2
    go_loopw [31, 9] (fun vi vn wr => ∃ k : Nat, k ≤ L ∧ vi = .int .i64 k ∧ vn = .int .i64 (cntW xs k : Nat) ∧ Below w3.heap.size w3 wr) (fun i _ _ => L - (intOf i).toNat)
    case atStart => exact ⟨0, by omega, rfl, rfl, Below.refl _ _⟩
    case round =>
      obtain ⟨k, hk, rfl, rfl, hbw⟩ := hrel
      have HB := Lib.hid hbw
      clear hbw
      by_cases hlt : k < L
      · have hlt' : (k : Int) < L := by omega
        have hi : k < xs.length := by rw [hHL]; exact hlt
        have hS3 := HS.out.keep (HB3.out.trans (HB.out.mono HB3.out.size))
        obtain ⟨_, a', cap', he, -, hcell⟩ := hS3
        have he' : a = a' ∧ c = cap' := by cases he; exact ⟨rfl, rfl⟩
        obtain ⟨rfl, rfl⟩ := he'
        clear he
        obtain ⟨b, off, rfl, hbl, hcell⟩ := hcell (by omega)
        obtain ⟨d1, d2⟩ := wcells_at (hcell k hi)
        have hsuc : cntW xs (k + 1) = cntW xs k + if 1 ≤ xs[k].2 then 1 else 0 := by simp only [cntW]; simp [List.getD, hi]
        have hle := cntW_le xs k
        obtain ⟨⟨p, q⟩, hy⟩ : ∃ y, xs[k] = y := ⟨_, rfl⟩
        rw [hy] at d1 d2 hsuc
        simp only at d1 d2 hsuc
        have hb1 := below_new wr (ibox (p, q))
        have hX := alloc_at wr (ibox (p, q))
        have HB1 := Lib.hid (HB.out.trans (hb1.mono HB.out.size))
        simp only [ibox] at hX HB1
        obtain ⟨e1, e2⟩ := ibox_at (x := (p, q)) hX
        simp only at e1 e2
        obtain ⟨m, hm⟩ : ∃ m, cntW xs k = m := ⟨_, rfl⟩
        rw [hm] at hle hsuc ⊢
        have HSuc := Lib.hid hsuc
        clear hb1 hX hy hcell hbl hsuc hm
        by_cases hq : 1 ≤ q
        · have HV : Hid (cntW xs (k + 1) = m + 1) := Lib.hid (by have h := HSuc.out; rw [if_pos hq] at h; exact h)
          go_wp2
          go_roundw
          case rel => exact ⟨k + 1, by omega, by go_num, by rw [HV.out]; first | rfl | go_num, HB1.out⟩
          case measure => simp [intOf]; omega
        · have HV : Hid (cntW xs (k + 1) = m) := Lib.hid (by have h := HSuc.out; rw [if_neg hq] at h; exact h)
          go_wp2
          go_roundw
          case rel => exact ⟨k + 1, by omega, by go_num, by rw [HV.out], HB1.out⟩
          case measure => simp [intOf]; omega
      · obtain rfl : k = L := by omega
        rw [← HCn.out]
        have HB4 := Lib.hid (HB3.out.trans (HB.out.mono HB3.out.size))
        have HO4 := Lib.hid (HO3.out.below HB.out)
        have HP4 := Lib.hid (HP3.out.below HB.out)
        clear HO3 HP3 HB3 HB hlt
        go_wp2
        go_loopw [47] (fun vi wr => ∃ (j : Nat) (ls : List It), j ≤ M ∧ vi = .int .i64 j ∧ ls.length = k ∧ Ranked (keys x r ls) (ps.drop j) ∧ Own wc 2 33 wr w.heap.size (.slice a2 k c2) ls ∧ Own ic 1 3 wr w.heap.size (.slice a3 M c3) (ints ps) ∧ Below w.heap.size w wr) (fun i _ => M - (intOf i).toNat)
        case atStart => exact ⟨0, xs, by omega, rfl, hHL, HRk.out, HO4.out, HP4.out, HB4.out⟩
        case round =>
          obtain ⟨j, ls, hj, rfl, hll, hrk, hown, hps, hbw⟩ := hrel
          have HB := Lib.hid hbw
          have HO := Lib.hid hown
          have HPs := Lib.hid hps
          have HCh := Lib.hid (fun W h => Choose_any (.slice a2 k c2) ls x r HXl.out (by rw [hll]; omega) W h)
          unfold chosen at HCh
          cases hd : ps.drop j with
          | nil =>
            have hjM : ¬ j < M := fun h => by have h1 := congrArg List.length hd; rw [List.length_drop, HM.out] at h1; simp at h1; omega
            obtain rfl : j = M := by omega
            rw [hd] at hrk
            rw [hrk.nil] at HCh
            simp only [Option.getD_none, Option.isSome_none] at HCh
            have HSl := Lib.hid (hown.read wc_len)
            clear hown hps hbw hrk hd
            go_wp2_with (first | (go_at_call 10; refine (HCh.out _ HSl.out).mono ?_; rintro e w5 ⟨rfl, hb⟩; have HB5 := Lib.hid (HB.out.trans (hb.mono HB.out.size)); clear hb) | (go_at_call 9; refine (awake_any _).mono ?_; rintro e w6 ⟨rfl, hb⟩; have HB6 := Lib.hid (HB5.out.trans (hb.mono HB5.out.size)); clear hb))
            go_ret
            exact ⟨rfl, HB6.out⟩
          | cons p rest =>
            have hjM : j < M := by
              rcases Nat.lt_or_ge j M with h | h
              · exact h
              · rw [List.drop_of_length_le (by rw [HM.out]; exact h)] at hd; cases hd
            have hjI : (j : Int) < M := by omega
            have hj1 : j < ps.length := by rw [HM.out]; exact hjM
            rw [hd] at hrk
            obtain ⟨hpL, hpick, hnext⟩ := hrk.cons
            rw [keys_len] at hpL
            rw [hpick] at HCh
            simp only [Option.getD_some, Option.isSome_some] at HCh
            have hpk : ps[j] = p ∧ ps.drop (j + 1) = rest := by
              rw [List.drop_eq_getElem_cons hj1] at hd
              cases hd
              exact ⟨rfl, rfl⟩
            obtain ⟨⟨yi, yw⟩, hy⟩ : ∃ y, ls[p] = y := ⟨_, rfl⟩
            rcases Own.at hown with ⟨-, h9⟩ | ⟨g, cap, hgs, hg, hat⟩
            · rw [h9] at hpL; simp at hpL
            have hqe : a2 = some ⟨g, 0, none⟩ ∧ c2 = cap := by rw [hll] at hgs; cases hgs; exact ⟨rfl, rfl⟩
            obtain ⟨rfl, rfl⟩ := hqe
            have HNx : Hid (Ranked (keys x r (ls.set p (yi, 0))) (ps.drop (j + 1))) := Lib.hid (by
              rw [keys_set x r ls p hpL yi yw 0 hy, hpk.2]
              have e0 : wtN 0 = 0 := by decide
              rw [e0]
              exact hnext)
            have HLs : Hid ((ls.set p (yi, 0)).length = k) := Lib.hid (by rw [List.length_set]; exact hll)
            have HSet : Hid (∀ W, OwnAt wc 2 33 W g c2 ls → OwnAt wc 2 33 (W.setCell ⟨g, p * 2 + 1, none⟩ (.int .i64 0)) g c2 (ls.set p (yi, 0)) ∧ W.cell? ⟨g, p * 2 + 1, none⟩ = some (.int .i64 yw) ∧ W.frozen? ⟨g, p * 2 + 1, none⟩ = false) := Lib.hid (fun W h => by
              refine ⟨h.setWt p hpL yi yw 0 hy, ?_, ?_⟩
              · have h1 := h.row wc_len p hpL
                rw [hy] at h1
                exact h1 1 _ rfl
              · obtain ⟨cur, c1, -⟩ := h.ex
                simp [World.frozen?, c1])
            have HNb : Hid (∀ W v os, OwnAt wc 2 33 W g c2 ls → Own ic 1 3 W w.heap.size v os → v.ownBlock ≠ some g) := Lib.hid (fun W v os h1 h2 e => by
              rcases h2.2 with ⟨rfl, _⟩ | ⟨g', cap', cur, rfl, _, hg', _⟩
              · cases e
              · have eg : g' = g := by simpa [Value.ownBlock] using e
                subst eg
                obtain ⟨cur2, c1, -⟩ := h1.ex
                rw [c1] at hg'
                cases hg')
            have HAt := Lib.hid hat
            have HSl := Lib.hid ((hat.own (B := 0) wc_len (Nat.zero_le _)).read wc_len)
            rw [hll] at HSl
            have HG := Lib.hid hg
            have hpI : (p : Int) < k := by omega
            have hpI0 : (0 : Int) ≤ p := by omega
            obtain ⟨_, a7, c7, he, -, hcell⟩ := hps.read ic_len
            obtain ⟨b3, o3, e', hbl3, hcell⟩ := hcell (by rw [ints_len]; omega)
            have h33 : a3 = some ⟨b3, o3, none⟩ := by cases he; exact e'
            subst h33
            have d3 := icell_at (hcell j (by rw [ints_len]; exact hj1))
            rw [Nat.mul_one, show (ints ps)[j]'(by rw [ints_len]; exact hj1) = (p : Int) by rw [← hpk.1]; simp [ints]] at d3
            clear he e' hcell hbl3 hown hps hbw hrk hd hpick hnext hpk hy hgs hat hg HO
            go_wp2_with (go_at_call 10; refine (HCh.out _ HSl.out).mono ?_; rintro e w5 ⟨rfl, hb⟩; have hA5 := HAt.out.block (hb.block _ HAt.out.lt); have hP5 := HPs.out.below hb; obtain ⟨q1, q2, q3⟩ := HSet.out _ hA5; have HA6 := Lib.hid q1; have HP6 := Lib.hid (Own.setOther hP5 (HNb.out _ _ _ hA5 hP5) (p * 2 + 1) (.int .i64 0)); have HB6 := Lib.hid ((HB.out.trans (hb.mono HB.out.size)).setCell (p := ⟨g, p * 2 + 1, none⟩) HG.out (.int .i64 0)); clear hb hA5 hP5 q1 d3)
            go_roundw
            case rel => exact ⟨j + 1, ls.set p (yi, 0), by omega, by go_num, HLs.out, HNx.out, by have h := HA6.out.own (B := w.heap.size) wc_len HG.out; rw [HLs.out] at h; exact h, HP6.out, HB6.out⟩
            case measure => simp [intOf]; omega
  · have hf : True → decide ((L : Int) ≤ 40) = false := fun _ => by rw [decide_eq_false_iff_not]; omega
    go_enter Try.func6, Try.ntmps6
    go_wp2_with (first | (go_at_call 9; refine (awake_any _).mono ?_; rintro e w1 ⟨rfl, hb⟩; have HB := Lib.hid hb; clear hb) | (go_at_call 8; refine (few_any _ _ _ _).mono ?_; rintro e w1 ⟨rfl, rfl⟩))
    go_ret
    exact ⟨rfl, HB.out⟩

--LIFT
set_option maxRecDepth 100000 in
theorem liftedRanks (os : Os) (started : os.Started) (H : Type) (enc : TypeId × Value → H) :
    ReturnsInHanded {} Try.checked os 6 .any (Rows.crushRanksSpec.pre6 enc Try.prog Try.f6 Rows.crushRanksRow.domain false) (Rows.crushRanksSpec.post enc Try.prog Try.f6 false true false false) := by
  refine lift.law (C := Try.checked) own started (by kernel_rfl) Try.func6
    (ChangeSpec.witness6 (enc := enc) (C := Try.checked) false ⟨#[], #[.slice none 0 0, .int .u32 0, .int .i64 0], []⟩ 8 (by kernel_rfl) (by kernel_rfl) (by kernel_rfl) (by kernel_rfl)) laidOut (by kernel_rfl) 4 Try.underlying4 (by kernel_rfl) rfl ?_ ?_
  · intro ds hd
    match ds, hd with
    | [_, _, _], _ => rfl
  · intro W base args ds ps hg
    have hA : DataW.TrodAll enc Try.prog W 0 (fun _ => true) true Try.f6.params.toList args.toList ds ps := hg.read
    have hval : ∀ (j : Nat) t v, Try.f6.params[j]? = some t → args[j]? = some v → Value.okWide Try.prog W .any base t v := hg.ok
    rw [Try.params6] at hA hval
    obtain ⟨v0, vs0, d0, ds0, p0, q0, hargs, rfl, rfl, h0, r0⟩ := trodAll_cons hA
    obtain ⟨v1, vs1, d1, ds1, p1, q1, rfl, rfl, rfl, h1, r1⟩ := trodAll_cons r0
    obtain ⟨v2, vs2, d2, ds2, p2, q2, rfl, rfl, rfl, h2, r2⟩ := trodAll_cons r1
    obtain ⟨rfl, rfl, rfl⟩ := trodAll_nil r2
    obtain rfl : args = #[v0, v1, v2] := by cases args; simp_all
    obtain ⟨fs0, hs0, hok0, hcap0, hbulk0⟩ := itm_open (hval 0 22 v0 rfl rfl) h0
    obtain ⟨z1, rfl, rfl, rfl, w1⟩ := open_int Try.underlying23 (hval 1 23 v1 rfl rfl) h1
    have u1 := u32_pos z1 w1
    obtain ⟨n1, rfl⟩ : ∃ n : Nat, z1 = n := ⟨z1.toNat, by omega⟩
    obtain ⟨z2, rfl, rfl, rfl, w2⟩ := open_int Try.underlying3 (hval 2 3 v2 rfl rfl) h2
    exact walkRanks v0 fs0 n1 z2 (by omega) W hs0

theorem ranks_holds : Rows.CrushRanksSaid :=
  OpenClaim.holds_of_wide 6 Try.f6 rfl rfl rfl rfl rfl rfl rfl ⟨rfl, rfl, rfl, rfl, rfl⟩ rfl rfl rfl rfl rfl (by kernel_rfl) Try.func6 (by kernel_rfl)
    (of_decide_eq_true (by kernel_rfl)) (by unfold Func.isWrapper; first | (rw [if_pos (by decide +kernel)]; kernel_rfl) | (rw [if_neg (by decide +kernel)]; exact ⟨rfl, rfl⟩))
    (fun os started H enc _ => liftedRanks os started H enc)

#print axioms ranks_holds
end Go.Proofs.Ytnacobhhgeljoaa.crush
