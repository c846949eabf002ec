/- The law JournalAgain: behind a row of losses and openings the records are those that were told, and of the ones under way some, in their order. Conditions: none. -/
import Derived.Test.YtgdfdljgbogbnaaDoorCards
import Derived.Test.YtgdfdljgbogbnaaDoorTie
import Derived.Test.YtgdfdljgbogbnaaDoorJournalLift
import Derived.Test.YtgdfdljgbogbnaaDoorJournalAwake
import Derived.Test.YtgdfdljgbogbnaaDoorJournalPower
import Derived.Test.YtgdfdljgbogbnaaDoorSectorLift
import Derived.SliceStrings
import Derived.StillTailTactics
namespace Go.Proofs.YtgdfdljgbogbnaaDoor.journal
open Go.ChangeShapes Go.WideShapes Go.ChangeAt Go.RowKit
open Go.Proofs.YtgdfdljgbogbnaaDoor.kit Go.Proofs.YtgdfdljgbogbnaaDoor.own Go.Proofs.YtgdfdljgbogbnaaDoor.fm Go.Proofs.YtgdfdljgbogbnaaDoor.lift Go.Proofs.YtgdfdljgbogbnaaDoor.jm
open Go.WideMaps Go.WideElems
open Go.Proofs.YtgdfdljgbogbnaaDoor.frame (Nib)
open Go.Proofs.YtgdfdljgbogbnaaDoor.sector (strN DevAt Dev fresh Fresh New_ok)
set_option linter.unusedVariables false
set_option linter.constructorNameAsVariable false

theorem mod_conv (z : Int) (q : Nat) (hq : 0 < q) (hq2 : q ≤ 1000) : ∃ n : Nat, n < q ∧ (IntKind.u64.wrap z).tmod q = (n : Int) := by
  have h0 : 0 ≤ IntKind.u64.wrap z := by rw [IntKind.wrap_u64]; omega
  rw [Int.tmod_eq_emod_of_nonneg h0]
  generalize IntKind.u64.wrap z = y at h0
  have h1 := Int.emod_nonneg y (show (q : Int) ≠ 0 by omega)
  have h2 := Int.emod_lt_of_pos y (show (0 : Int) < q by omega)
  exact ⟨(y % q).toNat, by omega, by omega⟩

/-- Whole numbers that came in. -/
def SlZ (w : World) (k : IntKind) (v : Value) (zs : List Int) : Prop := zs.length ≤ maxLen ∧ ∃ a cap, v = .slice a zs.length cap ∧ (0 < zs.length → ∃ b off, a = some ⟨b, off, none⟩ ∧ b < w.heap.size ∧ ∀ j, j < zs.length → w.cell? ⟨b, off + j, none⟩ = some (.int k (zs.getD j 0)))
theorem SlZ.keep {w w' : World} {k : IntKind} {v : Value} {zs : List Int} (h : SlZ w k v zs) (hb : Below w.heap.size w w') : SlZ w' k v zs := by
  obtain ⟨hl, a, cap, rfl, hc⟩ := h
  refine ⟨hl, a, cap, rfl, fun h0 => ?_⟩
  obtain ⟨b, off, rfl, hlt, hcell⟩ := hc h0
  exact ⟨b, off, rfl, Nat.lt_of_lt_of_le hlt hb.size, fun j hj => (hb.cell (p := ⟨b, off + j, none⟩) hlt).trans (hcell j hj)⟩
theorem SlZ.at_ {w : World} {k : IntKind} {v : Value} {zs : List Int} (h : SlZ w k v zs) (j : Nat) (hj : j < zs.length) : ∃ b off cap, v = .slice (some ⟨b, off, none⟩) zs.length cap ∧ ∀ W', Below w.heap.size w W' → W'.cell? ⟨b, off + j, none⟩ = some (.int k (zs.getD j 0)) := by
  obtain ⟨hl, a, cap, rfl, hc⟩ := h
  obtain ⟨b, off, rfl, hlt, hcell⟩ := hc (by omega)
  exact ⟨b, off, cap, rfl, fun W' hb => (hb.cell (p := ⟨b, off + j, none⟩) hlt).trans (hcell j hj)⟩
theorem drewBel (w : World) : Below w.heap.size w w.drew := ⟨rfl, rfl, rfl, Nat.le_refl _, fun _ _ => rfl⟩
theorem own_empty_t (w : World) (B : Nat) (hB : B ≤ w.heap.size) : OwnT (w.alloc (.cells #[] 9)) B (.slice (some ⟨w.heap.size, 0, none⟩) 0 0) [] :=
  ⟨by simp, .inr ⟨w.heap.size, 0, #[], rfl, hB, alloc_at w _, by simp, by simp [maxLen], by simp, by simp⟩⟩
theorem OwnT.split {w : World} {B : Nat} {v : Value} {ss : List ByteArray} (h : OwnT w B v ss) : (v = .slice none 0 0 ∧ ss = []) ∨ ∃ g cap, v = .slice (some ⟨g, 0, none⟩) ss.length cap ∧ g < w.heap.size ∧ ∀ j (hj : j < ss.length), w.cell? ⟨g, 0 + j, none⟩ = some (.string ss[j]) := by
  have h' := h
  unfold OwnT World.ownsRow at h
  rcases h.2 with ⟨h1, h2⟩ | ⟨g, cap, cur, h1, _⟩
  · exact .inl ⟨h1, List.length_eq_zero_iff.1 (by omega)⟩
  · obtain ⟨cur2, hc⟩ := sector.own_type h' (g := g) (by rw [h1]; rfl)
    refine .inr ⟨g, cap, h1, (Array.getElem?_eq_some_iff.1 hc).1, fun j hj => ?_⟩
    have := World.ownsRow.cells h' (g := g) (by rw [h1]; rfl) j (.string ss[j]) (by rw [List.getElem?_map, List.getElem?_eq_getElem hj]; rfl)
    have e : ((⟨g, 0, none⟩ : Addr).add j) = ⟨g, j, none⟩ := by
      by_cases h0 : j = 0
      · subst h0; rfl
      · simp [Addr.add, h0]
    rw [e] at this
    rw [Nat.zero_add]
    exact this

set_option maxHeartbeats 16000000 in
set_option maxRecDepth 100000 in
theorem walkAgain (c : Int) (va vc vp : Value) (xs : List ByteArray) (zs ps : List Int) (w : World) (hx : SlT w va xs) (hz : SlZ w .i64 vc zs) (hp : SlZ w .u64 vp ps) (hxs : ∀ s ∈ xs, s.size ≤ 9223372036854775807) (hps : ∀ p ∈ ps, 0 ≤ p ∧ p < 18446744073709551616) (hmany : xs.length ≤ 8796093022208) (hN : Nib w) :
    Calls Tryd.prog 5 #[.int .i64 c, va, vc, vp] w fun e w' => e = .returned (.bool true) ∧ Below w.heap.size w w' := by
  have HNb := Lib.hid hN; have HX := Lib.hid hx; have HZ := Lib.hid hz; have HP := Lib.hid hp; have HXs := Lib.hid hxs; have HPs := Lib.hid hps; have HMany := Lib.hid hmany
  clear hN hx hz hp hxs hps hmany
  go_enter Tryd.func5, Tryd.ntmps5
  go_upto_region 2 with fail
  obtain ⟨n0, hn1, hn2⟩ := mod_conv c 30 (by omega) (by omega)
  obtain ⟨n, hn⟩ : ∃ n, n0 + 2 = n := ⟨_, rfl⟩
  have hn3 : wrap64 (2 + wrap64 ((IntKind.u64.wrap c).tmod 30)) = (n : Int) := by
    rw [show ((30 : Int)) = ((30 : Nat) : Int) from rfl, hn2]
    unfold wrap64
    omega
  rw [hn3]
  have hn1 : 1 ≤ n ∧ n ≤ 64 := by omega
  have HN1 := Lib.hid hn1
  clear hn2 hn3 hn
  have HFr : Hid (∀ w1 d, DevAt w1 (Fresh w w1) d (fresh n) → Below w.heap.size w w1 → Held w.heap.size w d n 1 [] (some true) w1) := Lib.hid fun w1 d hd hb => by
    obtain ⟨k, hs⟩ : ∃ k, Stands 0 (pcsOf (fresh n) 0 n) [] k := by
      have := stands_of 1 (pcsOf (fresh n) 0 n) (pcsOf_ok (sector.fresh_ok (by omega)) 0 n (by show 0 + n ≤ n; omega))
      rw [(fresh_stand (N := n) (from_ := 0) (n := n) (first := 1) (by omega) (by omega)).1] at this
      exact ⟨_, this⟩
    refine ⟨_, _, ⟨hb, hd, ?_, fun q hq => (by cases hq), HNb.out.keep hb, cell_lt (HNb.out 0 (by omega)), Nat.le_refl _, rfl, ⟨k, hs⟩, fun q hq => ?_, rfl, by show 0 ≤ _; omega, by show 0 ≤ _; omega, by omega, by omega⟩, fun b hb => by cases hb; rfl⟩
    · rintro k (hz | hz)
      · exact hz.elim
      · omega
    · rw [pcs_fresh (N := n) (from_ := 0) (n := n) (by omega) q hq]
      show 0 < 1
      omega
  clear hn1
  go_wp2_with fail
  refine (New_ok w n HN1.out.1 (by have := HN1.out.2; omega)).mono ?_
  rintro e w1 ⟨d, rfl, hd1, hb1⟩
  have HO1 := Lib.hid ((HFr.out w1 d hd1 hb1).open (Nat.le_refl _))
  have HBw1 := Lib.hid hb1.size
  clear hd1 hb1 HFr
  go_wp2_with fail
  refine HO1.out.mono ?_
  rintro e w2 ⟨J, v, rfl, ho, hb2, hr⟩
  obtain ⟨a2, c2, rfl⟩ := ho.form
  have HR := Lib.hid hr
  have HD0 := Lib.hid (ho.base HBw1.out)
  clear ho hb2 hr HO1
  simp only [List.map_nil, List.length_nil] at HD0 ⊢
  go_upto_region 6 with fail
  obtain ⟨hl1, a1, cap1, rfl, _⟩ := id HX.out
  obtain ⟨hl2, a3, cap3, rfl, _⟩ := id HZ.out
  obtain ⟨hl3, a4, cap4, rfl, _⟩ := id HP.out
  obtain ⟨L, hL⟩ : ∃ L, xs.length = L := ⟨_, rfl⟩
  obtain ⟨NZ, hNZ⟩ : ∃ N, zs.length = N := ⟨_, rfl⟩
  obtain ⟨NP, hNP⟩ : ∃ N, ps.length = N := ⟨_, rfl⟩
  have HL := Lib.hid hL; have HNZ := Lib.hid hNZ; have HNP := Lib.hid hNP
  have HLm := Lib.hid (show L ≤ 8796093022208 by have := HMany.out; omega)
  have HZm := Lib.hid (show NZ ≤ maxLen by omega)
  have HPm := Lib.hid (show NP ≤ maxLen by omega)
  rw [hL, hNZ, hNP]
  clear hL hNZ hNP hl1 hl2 hl3
  go_wp2_with fail
  go_loopw [10, 11, 40] (fun jv v i wr => ∃ k : Nat, k ≤ L ∧ i = .int .i64 k ∧ ∃ J recs, jv = .pointer (some ⟨J, 0, none⟩) ∧ Runs w.heap.size w J d n (1 + 64 * k) recs wr ∧ OwnT wr w.heap.size v (recs.map strN)) (fun _ _ i _ => L - (intOf i).toNat)
  case atStart => exact ⟨0, by omega, rfl, J, [], rfl, HR.out, HD0.out⟩
  case round =>
    obtain ⟨k, hk, rfl, J, recs, rfl, hg, ho⟩ := hrel
    have HGo := Lib.hid hg; have HOw := Lib.hid ho
    have HFw := Lib.hid hg.few
    have HBt := Lib.hid hg.bel
    clear hg ho HR HD0
    by_cases hlt : k < L
    · have hlt' : (k : Int) < L := by omega
      have hk0 : (0 : Int) ≤ k := by omega
      have hkm : (k : Int) < 9223372036854775807 := by have := HLm.out; omega
      have hi1 : k < xs.length := by rw [HL.out]; exact hlt
      obtain ⟨_, a', cap', he, hcell⟩ := HX.out.keep HGo.out.bel
      rw [HL.out] at he
      cases he
      obtain ⟨b, off, rfl, hbl, hcell⟩ := hcell (by omega)
      have c1 := hcell k hi1
      obtain ⟨x, hx⟩ : ∃ x, xs[k] = x := ⟨_, rfl⟩
      have HXz := Lib.hid (show x.size ≤ 9223372036854775807 by rw [← hx]; exact HXs.out _ (List.getElem_mem hi1))
      rw [hx] at c1
      clear hcell hbl hx hi1
      by_cases hkz : k < NZ
      · have hkz' : (k : Int) < NZ := by omega
        by_cases hkp : k < NP
        · have hkp' : (k : Int) < NP := by omega
          obtain ⟨bz, oz, cap', he, hcz⟩ := HZ.out.at_ k (by rw [HNZ.out]; exact hkz)
          rw [HNZ.out] at he
          cases he
          obtain ⟨bp, op, cap', he, hcp⟩ := HP.out.at_ k (by rw [HNP.out]; exact hkp)
          rw [HNP.out] at he
          cases he
          obtain ⟨z, hz⟩ : ∃ z, zs.getD k 0 = z := ⟨_, rfl⟩
          obtain ⟨p, hp, hp64⟩ : ∃ p : Nat, ps.getD k 0 = (p : Int) ∧ p < 18446744073709551616 := by
            have hin : k < ps.length := by rw [HNP.out]; exact hkp
            have := HPs.out (ps.getD k 0) (by simp [List.getD, hin])
            obtain ⟨p, hp⟩ := Int.eq_ofNat_of_zero_le this.1
            exact ⟨p, hp, by omega⟩
          rw [hz] at hcz
          rw [hp] at hcp
          have HBz := Lib.hid hcz; have HBp := Lib.hid hcp
          have cz := hcz wr HBt.out
          have cp := hcp wr HBt.out
          clear hcz hcp
          obtain ⟨q, hq1, hq2⟩ := mod_conv z 6 (by omega) (by omega)
          have e40 : True → (IntKind.u64.wrap z).tmod 6 = (q : Int) := fun _ => hq2
          have e41 : wrap64 (q : Int) = (q : Int) := by unfold wrap64; omega
          have HE41 := Lib.hid e41
          clear e41
          have HCu := Lib.hid ((HGo.out.keep (drewBel wr)).cut q p (by omega) hp64)
          have hkzm : (k : Int) < 9223372036854775807 := hkm
          clear hq1 hq2 hz hp hp64
          go_upto_region 10 with fail
          go_still_tail 12, (by kernel_rfl)
          change wpList _ _ _ _ _ wr.drew
          clear e40 cz cp hkzm
          go_wp2_with fail
          rw [HE41.out]
          with_reducible refine HCu.out.mono ?_
          rintro e w3 ⟨rfl, hr3, ho3⟩
          have HGn := Lib.hid hr3; have HOn := Lib.hid (ho3 _ _ _ (HOw.out.below (drewBel wr)))
          clear hr3 ho3 HCu HBz HBp
          have HSt := Lib.hid (HGn.out.step x HXz.out (by have := HLm.out; omega))
          have HFn := Lib.hid HGn.out.few
          clear hcell
          go_wp2_with fail
          have HW1 := Lib.hid (show wrap64 ((k : Int) + 1) = (k : Int) + 1 by unfold wrap64; omega)
          clear hkm hk0 hlt'
          refine HSt.out.mono ?_
          rintro e w4 ⟨h4 | h4 | h4, hown⟩
          · have HG4 := Lib.hid h4; have HO4 := Lib.hid (hown _ _ _ HOn.out)
            have hp63 : (recs.map strN).length + 1 ≤ maxLen := by have := HFn.out; rw [List.length_map]; unfold maxLen; omega
            have hp47 : ((recs.map strN).length + 1) * 16 ≤ 140737488355328 := by have := HFn.out; rw [List.length_map]; omega
            have HP63 := Lib.hid hp63; have HP47 := Lib.hid hp47
            have HB4 := Lib.hid HG4.out.bel.size
            clear h4 hown hp63 hp47
            go_wp2_with (at_builtin; refine app1T rfl (.tmp 73) (.tmp 75) 30 rfl w.heap.size Tryd.underlying30 infoStr _ (recs.map strN) rfl HO4.out x _ rfl rfl HP63.out HP47.out HB4.out ?_; intro v9 w9 ho9 hk9 hg9)
            have HG9 := Lib.hid (HG4.out.kept hk9)
            have HO9 := Lib.hid (show OwnT w9 w.heap.size v9 ((recs ++ [byN x]).map strN) by rw [List.map_append, List.map_singleton, strN_byN]; exact ho9)
            clear hk9 ho9 hg9
            go_wp2_with fail
            rw [HW1.out]
            go_roundw
            case rel => exact ⟨k + 1, by omega, by go_num, _, _, rfl, by have := HG9.out; rw [Nat.mul_add, ← Nat.add_assoc]; exact this, HO9.out⟩
            case measure => simp [intOf]; omega
          · have HG4 := Lib.hid (h4.up (show 1 + 64 * k ≤ 1 + 64 * (k + 1) by omega)); have HO4 := Lib.hid (hown _ _ _ HOn.out)
            clear h4 hown
            go_wp2_with fail
            rw [HW1.out]
            go_roundw
            case rel => exact ⟨k + 1, by omega, by go_num, _, _, rfl, HG4.out, HO4.out⟩
            case measure => simp [intOf]; omega
          · have HO4 := Lib.hid (hown _ _ _ HOn.out)
            have h5 : ∃ told, (told = recs ∨ told = recs ++ [byN x]) ∧ Held w.heap.size w d n (1 + 64 * (k + 1)) told none w4 := by
              rw [Nat.mul_add, ← Nat.add_assoc]
              rcases h4 with h4 | h4
              · exact ⟨_, .inl rfl, h4⟩
              · exact ⟨_, .inr rfl, h4⟩
            obtain ⟨told, htold, h5⟩ := h5
            have HTo := Lib.hid htold
            have HOn2 := Lib.hid h5.on
            clear h4 h5 hown htold
            go_wp2_with fail
            refine HOn2.out.mono ?_
            rintro e w5 ⟨rfl, hh5, hown⟩
            have HO5 := Lib.hid (hown _ _ _ HO4.out)
            have HB5 := Lib.hid hh5.bel.size
            have HOp := Lib.hid (hh5.open (by omega))
            clear hh5 hown HOn2
            go_wp2_with fail
            refine HOp.out.mono ?_
            rintro e w6 ⟨J6, v6, rfl, ho6, hb6, hr6⟩
            have HR6 := Lib.hid hr6
            have HO6 := Lib.hid (HO5.out.below hb6)
            have HS6 := Lib.hid ho6
            have HNew := Lib.hid (HO5.out.newer ho6)
            have hfw := HFn.out
            have hfw2 := hr6.few
            have HT := Lib.hid (texts_any v6 _ _ _ w6 (ho6.sl (by rw [List.length_map]; unfold maxLen; omega)) (HO6.out.sl (by rw [List.length_map]; unfold maxLen; omega)))
            clear ho6 hb6 hr6 hfw2 hfw
            rcases HTo.out with rfl | rfl
            · go_wp2_with fail
              refine HT.out.mono ?_
              rintro e w7 ⟨rfl, hb7⟩
              have HG7 := Lib.hid (HR6.out.keep hb7)
              have HO7 := Lib.hid ((HS6.out.below hb7).base HB5.out)
              simp only [decide_true]
              clear hb7
              go_wp2_with fail
              rw [HW1.out]
              go_roundw
              case rel => exact ⟨k + 1, by omega, by go_num, _, _, rfl, HG7.out, HO7.out⟩
              case measure => simp [intOf]; omega
            · have hne : decide ((recs ++ [byN x]).map strN = recs.map strN) = false := by
                rw [decide_eq_false_iff_not]
                intro h
                have := congrArg List.length h
                simp at this
              rw [hne] at HT
              clear hne
              go_wp2_with fail
              refine HT.out.mono ?_
              rintro e w7 ⟨rfl, hb7⟩
              have HR7 := Lib.hid (HR6.out.keep hb7)
              have HO7 := Lib.hid (HO6.out.below hb7)
              have HS7 := Lib.hid (HS6.out.below hb7)
              have HB7 := Lib.hid HR7.out.bel.size
              clear hb7 HT HR6 HO6 HS6 HO5 HOp HSt HTo
              have hfw := HFn.out
              have hl9 : ((recs ++ [byN x]).map strN).length ≤ maxLen := by rw [List.length_map, List.length_append, List.length_singleton]; unfold maxLen; omega
              have hl8 : recs.length + 1 ≤ maxLen ∧ (recs.length + 1) * 16 ≤ 140737488355328 := by unfold maxLen; omega
              have HL9 := Lib.hid hl9; have HL8 := Lib.hid hl8
              clear hfw hl9 hl8
              rcases HO7.out.split with ⟨hv, hr⟩ | ⟨g, cap', hv, hgl, hgc⟩
              · have hr0 : recs = [] := by simpa using hr
                subst hv hr0
                have hoE := own_empty_t w7 w7.heap.size (Nat.le_refl _)
                have HOE := Lib.hid hoE
                have hbE := (Below.refl w7.heap.size w7).alloc (Nat.le_refl _) (.cells #[] 9)
                have HBE := Lib.hid hbE
                clear hoE hr hbE
                go_wp2_with (at_builtin; refine wpList_free rfl ?_; refine app1T rfl (.tmp 99) (.tmp 101) 30 rfl w7.heap.size Tryd.underlying30 infoStr (.slice (some ⟨w7.heap.size, 0, none⟩) 0 0) [] rfl HOE.out x _ (by simp) rfl (by simp [maxLen]) (by simp) HBE.out.size ?_; intro v9 w9 ho9 hk9 hg9)
                have hb9 : Below w7.heap.size w7 w9 := HBE.out.trans hk9.toBelow
                have HG9 := Lib.hid (HR7.out.keep hb9)
                have hs9 : OwnT w9 w5.heap.size v6 (([] ++ [byN x]).map strN) := HS7.out.below hb9
                have ho9' : OwnT w9 w7.heap.size v9 (([] ++ [byN x]).map strN) := by rw [List.map_append, List.map_singleton, strN_byN]; exact ho9
                have HT9 := Lib.hid (texts_any v6 _ _ _ w9 (hs9.sl HL9.out) (ho9'.sl HL9.out))
                have HS9 := Lib.hid (hs9.base HB5.out)
                clear hk9 hg9 ho9 ho9' hs9 HL9 HL8 hb9
                go_wp2_with fail
                refine HT9.out.mono ?_
                rintro e w10 ⟨rfl, hb10⟩
                have HG10 := Lib.hid (HG9.out.keep hb10)
                have HO10 := Lib.hid (HS9.out.below hb10)
                simp only [decide_true]
                clear hb10
                go_wp2_with fail
                rw [HW1.out]
                go_roundw
                case rel => exact ⟨k + 1, by omega, by go_num, _, _, rfl, HG10.out, HO10.out⟩
                case measure => simp [intOf]; omega
              · subst hv
                have hoE := own_empty_t w7 w7.heap.size (Nat.le_refl _)
                have HOE := Lib.hid hoE
                have hbE := (Below.refl w7.heap.size w7).alloc (Nat.le_refl _) (.cells #[] 9)
                have HBE := Lib.hid hbE
                have hgc2 : ∀ j (hj : j < (recs.map strN).length), (w7.alloc (.cells #[] 9)).cell? ⟨g, 0 + j, none⟩ = some (.string (recs.map strN)[j]) := fun j hj => (hbE.cell (p := ⟨g, 0 + j, none⟩) hgl).trans (hgc j hj)
                have HGc := Lib.hid hgc2
                clear hoE hgc hgc2 hgl hbE
                go_wp2_with (first | (at_builtin; refine wpList_free rfl ?_; refine appT rfl (.tmp 97) (.tmp 98) 30 rfl w7.heap.size Tryd.underlying30 infoStr (.slice (some ⟨w7.heap.size, 0, none⟩) 0 0) [] rfl HOE.out g 0 recs.length cap' (recs.map strN) (by simp) rfl HGc.out (by have := HL8.out.1; simp; omega) (by have := HL8.out.2; simp; omega) HBE.out.size ?_; intro v8 w8 ho8 hk8; have HO8 := Lib.hid ho8; have HK8 := Lib.hid (HBE.out.trans hk8.toBelow); clear ho8 hk8) | (at_builtin; refine wpList_free rfl ?_; refine app1T rfl (.tmp 99) (.tmp 101) 30 rfl w7.heap.size Tryd.underlying30 infoStr _ (recs.map strN) rfl HO8.out x _ rfl rfl (by have := HL8.out.1; simp; omega) (by have := HL8.out.2; simp; omega) HK8.out.size ?_; intro v9 w9 ho9 hk9 hg9))
                have hb9 : Below w7.heap.size w7 w9 := HK8.out.trans hk9.toBelow
                have HG9 := Lib.hid (HR7.out.keep hb9)
                have hs9 : OwnT w9 w5.heap.size v6 ((recs ++ [byN x]).map strN) := HS7.out.below hb9
                have ho9' : OwnT w9 w7.heap.size v9 ((recs ++ [byN x]).map strN) := by rw [List.map_append, List.map_singleton, strN_byN]; exact ho9
                have HT9 := Lib.hid (texts_any v6 _ _ _ w9 (hs9.sl HL9.out) (ho9'.sl HL9.out))
                have HS9 := Lib.hid (hs9.base HB5.out)
                clear hk9 hg9 ho9 ho9' hs9 HL9 HL8 hb9
                go_wp2_with fail
                refine HT9.out.mono ?_
                rintro e w10 ⟨rfl, hb10⟩
                have HG10 := Lib.hid (HG9.out.keep hb10)
                have HO10 := Lib.hid (HS9.out.below hb10)
                simp only [decide_true]
                clear hb10
                go_wp2_with fail
                rw [HW1.out]
                go_roundw
                case rel => exact ⟨k + 1, by omega, by go_num, _, _, rfl, HG10.out, HO10.out⟩
                case measure => simp [intOf]; omega
        · have hkp' : ¬ (k : Int) < NP := by omega
          have HGn := HGo; have HOn := HOw
          have HSt := Lib.hid (HGn.out.step x HXz.out (by have := HLm.out; omega))
          have HFn := Lib.hid HGn.out.few
          clear hcell
          go_wp2_with fail
          have HW1 := Lib.hid (show wrap64 ((k : Int) + 1) = (k : Int) + 1 by unfold wrap64; omega)
          clear hkm hk0 hlt'
          refine HSt.out.mono ?_
          rintro e w4 ⟨h4 | h4 | h4, hown⟩
          · have HG4 := Lib.hid h4; have HO4 := Lib.hid (hown _ _ _ HOn.out)
            have hp63 : (recs.map strN).length + 1 ≤ maxLen := by have := HFn.out; rw [List.length_map]; unfold maxLen; omega
            have hp47 : ((recs.map strN).length + 1) * 16 ≤ 140737488355328 := by have := HFn.out; rw [List.length_map]; omega
            have HP63 := Lib.hid hp63; have HP47 := Lib.hid hp47
            have HB4 := Lib.hid HG4.out.bel.size
            clear h4 hown hp63 hp47
            go_wp2_with (at_builtin; refine app1T rfl (.tmp 73) (.tmp 75) 30 rfl w.heap.size Tryd.underlying30 infoStr _ (recs.map strN) rfl HO4.out x _ rfl rfl HP63.out HP47.out HB4.out ?_; intro v9 w9 ho9 hk9 hg9)
            have HG9 := Lib.hid (HG4.out.kept hk9)
            have HO9 := Lib.hid (show OwnT w9 w.heap.size v9 ((recs ++ [byN x]).map strN) by rw [List.map_append, List.map_singleton, strN_byN]; exact ho9)
            clear hk9 ho9 hg9
            go_wp2_with fail
            rw [HW1.out]
            go_roundw
            case rel => exact ⟨k + 1, by omega, by go_num, _, _, rfl, by have := HG9.out; rw [Nat.mul_add, ← Nat.add_assoc]; exact this, HO9.out⟩
            case measure => simp [intOf]; omega
          · have HG4 := Lib.hid (h4.up (show 1 + 64 * k ≤ 1 + 64 * (k + 1) by omega)); have HO4 := Lib.hid (hown _ _ _ HOn.out)
            clear h4 hown
            go_wp2_with fail
            rw [HW1.out]
            go_roundw
            case rel => exact ⟨k + 1, by omega, by go_num, _, _, rfl, HG4.out, HO4.out⟩
            case measure => simp [intOf]; omega
          · have HO4 := Lib.hid (hown _ _ _ HOn.out)
            have h5 : ∃ told, (told = recs ∨ told = recs ++ [byN x]) ∧ Held w.heap.size w d n (1 + 64 * (k + 1)) told none w4 := by
              rw [Nat.mul_add, ← Nat.add_assoc]
              rcases h4 with h4 | h4
              · exact ⟨_, .inl rfl, h4⟩
              · exact ⟨_, .inr rfl, h4⟩
            obtain ⟨told, htold, h5⟩ := h5
            have HTo := Lib.hid htold
            have HOn2 := Lib.hid h5.on
            clear h4 h5 hown htold
            go_wp2_with fail
            refine HOn2.out.mono ?_
            rintro e w5 ⟨rfl, hh5, hown⟩
            have HO5 := Lib.hid (hown _ _ _ HO4.out)
            have HB5 := Lib.hid hh5.bel.size
            have HOp := Lib.hid (hh5.open (by omega))
            clear hh5 hown HOn2
            go_wp2_with fail
            refine HOp.out.mono ?_
            rintro e w6 ⟨J6, v6, rfl, ho6, hb6, hr6⟩
            have HR6 := Lib.hid hr6
            have HO6 := Lib.hid (HO5.out.below hb6)
            have HS6 := Lib.hid ho6
            have HNew := Lib.hid (HO5.out.newer ho6)
            have hfw := HFn.out
            have hfw2 := hr6.few
            have HT := Lib.hid (texts_any v6 _ _ _ w6 (ho6.sl (by rw [List.length_map]; unfold maxLen; omega)) (HO6.out.sl (by rw [List.length_map]; unfold maxLen; omega)))
            clear ho6 hb6 hr6 hfw2 hfw
            rcases HTo.out with rfl | rfl
            · go_wp2_with fail
              refine HT.out.mono ?_
              rintro e w7 ⟨rfl, hb7⟩
              have HG7 := Lib.hid (HR6.out.keep hb7)
              have HO7 := Lib.hid ((HS6.out.below hb7).base HB5.out)
              simp only [decide_true]
              clear hb7
              go_wp2_with fail
              rw [HW1.out]
              go_roundw
              case rel => exact ⟨k + 1, by omega, by go_num, _, _, rfl, HG7.out, HO7.out⟩
              case measure => simp [intOf]; omega
            · have hne : decide ((recs ++ [byN x]).map strN = recs.map strN) = false := by
                rw [decide_eq_false_iff_not]
                intro h
                have := congrArg List.length h
                simp at this
              rw [hne] at HT
              clear hne
              go_wp2_with fail
              refine HT.out.mono ?_
              rintro e w7 ⟨rfl, hb7⟩
              have HR7 := Lib.hid (HR6.out.keep hb7)
              have HO7 := Lib.hid (HO6.out.below hb7)
              have HS7 := Lib.hid (HS6.out.below hb7)
              have HB7 := Lib.hid HR7.out.bel.size
              clear hb7 HT HR6 HO6 HS6 HO5 HOp HSt HTo
              have hfw := HFn.out
              have hl9 : ((recs ++ [byN x]).map strN).length ≤ maxLen := by rw [List.length_map, List.length_append, List.length_singleton]; unfold maxLen; omega
              have hl8 : recs.length + 1 ≤ maxLen ∧ (recs.length + 1) * 16 ≤ 140737488355328 := by unfold maxLen; omega
              have HL9 := Lib.hid hl9; have HL8 := Lib.hid hl8
              clear hfw hl9 hl8
              rcases HO7.out.split with ⟨hv, hr⟩ | ⟨g, cap', hv, hgl, hgc⟩
              · have hr0 : recs = [] := by simpa using hr
                subst hv hr0
                have hoE := own_empty_t w7 w7.heap.size (Nat.le_refl _)
                have HOE := Lib.hid hoE
                have hbE := (Below.refl w7.heap.size w7).alloc (Nat.le_refl _) (.cells #[] 9)
                have HBE := Lib.hid hbE
                clear hoE hr hbE
                go_wp2_with (at_builtin; refine wpList_free rfl ?_; refine app1T rfl (.tmp 99) (.tmp 101) 30 rfl w7.heap.size Tryd.underlying30 infoStr (.slice (some ⟨w7.heap.size, 0, none⟩) 0 0) [] rfl HOE.out x _ (by simp) rfl (by simp [maxLen]) (by simp) HBE.out.size ?_; intro v9 w9 ho9 hk9 hg9)
                have hb9 : Below w7.heap.size w7 w9 := HBE.out.trans hk9.toBelow
                have HG9 := Lib.hid (HR7.out.keep hb9)
                have hs9 : OwnT w9 w5.heap.size v6 (([] ++ [byN x]).map strN) := HS7.out.below hb9
                have ho9' : OwnT w9 w7.heap.size v9 (([] ++ [byN x]).map strN) := by rw [List.map_append, List.map_singleton, strN_byN]; exact ho9
                have HT9 := Lib.hid (texts_any v6 _ _ _ w9 (hs9.sl HL9.out) (ho9'.sl HL9.out))
                have HS9 := Lib.hid (hs9.base HB5.out)
                clear hk9 hg9 ho9 ho9' hs9 HL9 HL8 hb9
                go_wp2_with fail
                refine HT9.out.mono ?_
                rintro e w10 ⟨rfl, hb10⟩
                have HG10 := Lib.hid (HG9.out.keep hb10)
                have HO10 := Lib.hid (HS9.out.below hb10)
                simp only [decide_true]
                clear hb10
                go_wp2_with fail
                rw [HW1.out]
                go_roundw
                case rel => exact ⟨k + 1, by omega, by go_num, _, _, rfl, HG10.out, HO10.out⟩
                case measure => simp [intOf]; omega
              · subst hv
                have hoE := own_empty_t w7 w7.heap.size (Nat.le_refl _)
                have HOE := Lib.hid hoE
                have hbE := (Below.refl w7.heap.size w7).alloc (Nat.le_refl _) (.cells #[] 9)
                have HBE := Lib.hid hbE
                have hgc2 : ∀ j (hj : j < (recs.map strN).length), (w7.alloc (.cells #[] 9)).cell? ⟨g, 0 + j, none⟩ = some (.string (recs.map strN)[j]) := fun j hj => (hbE.cell (p := ⟨g, 0 + j, none⟩) hgl).trans (hgc j hj)
                have HGc := Lib.hid hgc2
                clear hoE hgc hgc2 hgl hbE
                go_wp2_with (first | (at_builtin; refine wpList_free rfl ?_; refine appT rfl (.tmp 97) (.tmp 98) 30 rfl w7.heap.size Tryd.underlying30 infoStr (.slice (some ⟨w7.heap.size, 0, none⟩) 0 0) [] rfl HOE.out g 0 recs.length cap' (recs.map strN) (by simp) rfl HGc.out (by have := HL8.out.1; simp; omega) (by have := HL8.out.2; simp; omega) HBE.out.size ?_; intro v8 w8 ho8 hk8; have HO8 := Lib.hid ho8; have HK8 := Lib.hid (HBE.out.trans hk8.toBelow); clear ho8 hk8) | (at_builtin; refine wpList_free rfl ?_; refine app1T rfl (.tmp 99) (.tmp 101) 30 rfl w7.heap.size Tryd.underlying30 infoStr _ (recs.map strN) rfl HO8.out x _ rfl rfl (by have := HL8.out.1; simp; omega) (by have := HL8.out.2; simp; omega) HK8.out.size ?_; intro v9 w9 ho9 hk9 hg9))
                have hb9 : Below w7.heap.size w7 w9 := HK8.out.trans hk9.toBelow
                have HG9 := Lib.hid (HR7.out.keep hb9)
                have hs9 : OwnT w9 w5.heap.size v6 ((recs ++ [byN x]).map strN) := HS7.out.below hb9
                have ho9' : OwnT w9 w7.heap.size v9 ((recs ++ [byN x]).map strN) := by rw [List.map_append, List.map_singleton, strN_byN]; exact ho9
                have HT9 := Lib.hid (texts_any v6 _ _ _ w9 (hs9.sl HL9.out) (ho9'.sl HL9.out))
                have HS9 := Lib.hid (hs9.base HB5.out)
                clear hk9 hg9 ho9 ho9' hs9 HL9 HL8 hb9
                go_wp2_with fail
                refine HT9.out.mono ?_
                rintro e w10 ⟨rfl, hb10⟩
                have HG10 := Lib.hid (HG9.out.keep hb10)
                have HO10 := Lib.hid (HS9.out.below hb10)
                simp only [decide_true]
                clear hb10
                go_wp2_with fail
                rw [HW1.out]
                go_roundw
                case rel => exact ⟨k + 1, by omega, by go_num, _, _, rfl, HG10.out, HO10.out⟩
                case measure => simp [intOf]; omega
      · have hkz' : ¬ (k : Int) < NZ := by omega
        have HGn := HGo; have HOn := HOw
        have HSt := Lib.hid (HGn.out.step x HXz.out (by have := HLm.out; omega))
        have HFn := Lib.hid HGn.out.few
        clear hcell
        go_wp2_with fail
        have HW1 := Lib.hid (show wrap64 ((k : Int) + 1) = (k : Int) + 1 by unfold wrap64; omega)
        clear hkm hk0 hlt'
        refine HSt.out.mono ?_
        rintro e w4 ⟨h4 | h4 | h4, hown⟩
        · have HG4 := Lib.hid h4; have HO4 := Lib.hid (hown _ _ _ HOn.out)
          have hp63 : (recs.map strN).length + 1 ≤ maxLen := by have := HFn.out; rw [List.length_map]; unfold maxLen; omega
          have hp47 : ((recs.map strN).length + 1) * 16 ≤ 140737488355328 := by have := HFn.out; rw [List.length_map]; omega
          have HP63 := Lib.hid hp63; have HP47 := Lib.hid hp47
          have HB4 := Lib.hid HG4.out.bel.size
          clear h4 hown hp63 hp47
          go_wp2_with (at_builtin; refine app1T rfl (.tmp 73) (.tmp 75) 30 rfl w.heap.size Tryd.underlying30 infoStr _ (recs.map strN) rfl HO4.out x _ rfl rfl HP63.out HP47.out HB4.out ?_; intro v9 w9 ho9 hk9 hg9)
          have HG9 := Lib.hid (HG4.out.kept hk9)
          have HO9 := Lib.hid (show OwnT w9 w.heap.size v9 ((recs ++ [byN x]).map strN) by rw [List.map_append, List.map_singleton, strN_byN]; exact ho9)
          clear hk9 ho9 hg9
          go_wp2_with fail
          rw [HW1.out]
          go_roundw
          case rel => exact ⟨k + 1, by omega, by go_num, _, _, rfl, by have := HG9.out; rw [Nat.mul_add, ← Nat.add_assoc]; exact this, HO9.out⟩
          case measure => simp [intOf]; omega
        · have HG4 := Lib.hid (h4.up (show 1 + 64 * k ≤ 1 + 64 * (k + 1) by omega)); have HO4 := Lib.hid (hown _ _ _ HOn.out)
          clear h4 hown
          go_wp2_with fail
          rw [HW1.out]
          go_roundw
          case rel => exact ⟨k + 1, by omega, by go_num, _, _, rfl, HG4.out, HO4.out⟩
          case measure => simp [intOf]; omega
        · have HO4 := Lib.hid (hown _ _ _ HOn.out)
          have h5 : ∃ told, (told = recs ∨ told = recs ++ [byN x]) ∧ Held w.heap.size w d n (1 + 64 * (k + 1)) told none w4 := by
            rw [Nat.mul_add, ← Nat.add_assoc]
            rcases h4 with h4 | h4
            · exact ⟨_, .inl rfl, h4⟩
            · exact ⟨_, .inr rfl, h4⟩
          obtain ⟨told, htold, h5⟩ := h5
          have HTo := Lib.hid htold
          have HOn2 := Lib.hid h5.on
          clear h4 h5 hown htold
          go_wp2_with fail
          refine HOn2.out.mono ?_
          rintro e w5 ⟨rfl, hh5, hown⟩
          have HO5 := Lib.hid (hown _ _ _ HO4.out)
          have HB5 := Lib.hid hh5.bel.size
          have HOp := Lib.hid (hh5.open (by omega))
          clear hh5 hown HOn2
          go_wp2_with fail
          refine HOp.out.mono ?_
          rintro e w6 ⟨J6, v6, rfl, ho6, hb6, hr6⟩
          have HR6 := Lib.hid hr6
          have HO6 := Lib.hid (HO5.out.below hb6)
          have HS6 := Lib.hid ho6
          have HNew := Lib.hid (HO5.out.newer ho6)
          have hfw := HFn.out
          have hfw2 := hr6.few
          have HT := Lib.hid (texts_any v6 _ _ _ w6 (ho6.sl (by rw [List.length_map]; unfold maxLen; omega)) (HO6.out.sl (by rw [List.length_map]; unfold maxLen; omega)))
          clear ho6 hb6 hr6 hfw2 hfw
          rcases HTo.out with rfl | rfl
          · go_wp2_with fail
            refine HT.out.mono ?_
            rintro e w7 ⟨rfl, hb7⟩
            have HG7 := Lib.hid (HR6.out.keep hb7)
            have HO7 := Lib.hid ((HS6.out.below hb7).base HB5.out)
            simp only [decide_true]
            clear hb7
            go_wp2_with fail
            rw [HW1.out]
            go_roundw
            case rel => exact ⟨k + 1, by omega, by go_num, _, _, rfl, HG7.out, HO7.out⟩
            case measure => simp [intOf]; omega
          · have hne : decide ((recs ++ [byN x]).map strN = recs.map strN) = false := by
              rw [decide_eq_false_iff_not]
              intro h
              have := congrArg List.length h
              simp at this
            rw [hne] at HT
            clear hne
            go_wp2_with fail
            refine HT.out.mono ?_
            rintro e w7 ⟨rfl, hb7⟩
            have HR7 := Lib.hid (HR6.out.keep hb7)
            have HO7 := Lib.hid (HO6.out.below hb7)
            have HS7 := Lib.hid (HS6.out.below hb7)
            have HB7 := Lib.hid HR7.out.bel.size
            clear hb7 HT HR6 HO6 HS6 HO5 HOp HSt HTo
            have hfw := HFn.out
            have hl9 : ((recs ++ [byN x]).map strN).length ≤ maxLen := by rw [List.length_map, List.length_append, List.length_singleton]; unfold maxLen; omega
            have hl8 : recs.length + 1 ≤ maxLen ∧ (recs.length + 1) * 16 ≤ 140737488355328 := by unfold maxLen; omega
            have HL9 := Lib.hid hl9; have HL8 := Lib.hid hl8
            clear hfw hl9 hl8
            rcases HO7.out.split with ⟨hv, hr⟩ | ⟨g, cap', hv, hgl, hgc⟩
            · have hr0 : recs = [] := by simpa using hr
              subst hv hr0
              have hoE := own_empty_t w7 w7.heap.size (Nat.le_refl _)
              have HOE := Lib.hid hoE
              have hbE := (Below.refl w7.heap.size w7).alloc (Nat.le_refl _) (.cells #[] 9)
              have HBE := Lib.hid hbE
              clear hoE hr hbE
              go_wp2_with (at_builtin; refine wpList_free rfl ?_; refine app1T rfl (.tmp 99) (.tmp 101) 30 rfl w7.heap.size Tryd.underlying30 infoStr (.slice (some ⟨w7.heap.size, 0, none⟩) 0 0) [] rfl HOE.out x _ (by simp) rfl (by simp [maxLen]) (by simp) HBE.out.size ?_; intro v9 w9 ho9 hk9 hg9)
              have hb9 : Below w7.heap.size w7 w9 := HBE.out.trans hk9.toBelow
              have HG9 := Lib.hid (HR7.out.keep hb9)
              have hs9 : OwnT w9 w5.heap.size v6 (([] ++ [byN x]).map strN) := HS7.out.below hb9
              have ho9' : OwnT w9 w7.heap.size v9 (([] ++ [byN x]).map strN) := by rw [List.map_append, List.map_singleton, strN_byN]; exact ho9
              have HT9 := Lib.hid (texts_any v6 _ _ _ w9 (hs9.sl HL9.out) (ho9'.sl HL9.out))
              have HS9 := Lib.hid (hs9.base HB5.out)
              clear hk9 hg9 ho9 ho9' hs9 HL9 HL8 hb9
              go_wp2_with fail
              refine HT9.out.mono ?_
              rintro e w10 ⟨rfl, hb10⟩
              have HG10 := Lib.hid (HG9.out.keep hb10)
              have HO10 := Lib.hid (HS9.out.below hb10)
              simp only [decide_true]
              clear hb10
              go_wp2_with fail
              rw [HW1.out]
              go_roundw
              case rel => exact ⟨k + 1, by omega, by go_num, _, _, rfl, HG10.out, HO10.out⟩
              case measure => simp [intOf]; omega
            · subst hv
              have hoE := own_empty_t w7 w7.heap.size (Nat.le_refl _)
              have HOE := Lib.hid hoE
              have hbE := (Below.refl w7.heap.size w7).alloc (Nat.le_refl _) (.cells #[] 9)
              have HBE := Lib.hid hbE
              have hgc2 : ∀ j (hj : j < (recs.map strN).length), (w7.alloc (.cells #[] 9)).cell? ⟨g, 0 + j, none⟩ = some (.string (recs.map strN)[j]) := fun j hj => (hbE.cell (p := ⟨g, 0 + j, none⟩) hgl).trans (hgc j hj)
              have HGc := Lib.hid hgc2
              clear hoE hgc hgc2 hgl hbE
              go_wp2_with (first | (at_builtin; refine wpList_free rfl ?_; refine appT rfl (.tmp 97) (.tmp 98) 30 rfl w7.heap.size Tryd.underlying30 infoStr (.slice (some ⟨w7.heap.size, 0, none⟩) 0 0) [] rfl HOE.out g 0 recs.length cap' (recs.map strN) (by simp) rfl HGc.out (by have := HL8.out.1; simp; omega) (by have := HL8.out.2; simp; omega) HBE.out.size ?_; intro v8 w8 ho8 hk8; have HO8 := Lib.hid ho8; have HK8 := Lib.hid (HBE.out.trans hk8.toBelow); clear ho8 hk8) | (at_builtin; refine wpList_free rfl ?_; refine app1T rfl (.tmp 99) (.tmp 101) 30 rfl w7.heap.size Tryd.underlying30 infoStr _ (recs.map strN) rfl HO8.out x _ rfl rfl (by have := HL8.out.1; simp; omega) (by have := HL8.out.2; simp; omega) HK8.out.size ?_; intro v9 w9 ho9 hk9 hg9))
              have hb9 : Below w7.heap.size w7 w9 := HK8.out.trans hk9.toBelow
              have HG9 := Lib.hid (HR7.out.keep hb9)
              have hs9 : OwnT w9 w5.heap.size v6 ((recs ++ [byN x]).map strN) := HS7.out.below hb9
              have ho9' : OwnT w9 w7.heap.size v9 ((recs ++ [byN x]).map strN) := by rw [List.map_append, List.map_singleton, strN_byN]; exact ho9
              have HT9 := Lib.hid (texts_any v6 _ _ _ w9 (hs9.sl HL9.out) (ho9'.sl HL9.out))
              have HS9 := Lib.hid (hs9.base HB5.out)
              clear hk9 hg9 ho9 ho9' hs9 HL9 HL8 hb9
              go_wp2_with fail
              refine HT9.out.mono ?_
              rintro e w10 ⟨rfl, hb10⟩
              have HG10 := Lib.hid (HG9.out.keep hb10)
              have HO10 := Lib.hid (HS9.out.below hb10)
              simp only [decide_true]
              clear hb10
              go_wp2_with fail
              rw [HW1.out]
              go_roundw
              case rel => exact ⟨k + 1, by omega, by go_num, _, _, rfl, HG10.out, HO10.out⟩
              case measure => simp [intOf]; omega
    · obtain rfl : k = L := by omega
      go_wp2_with fail
      refine (jawake_any wr (HNb.out.keep HBt.out)).mono ?_
      rintro e w7 ⟨rfl, hb7⟩
      have HB7 := Lib.hid (HBt.out.trans (hb7.mono HBt.out.size))
      clear hb7
      go_wp2
      go_ret
      exact ⟨rfl, HB7.out⟩

theorem bStr : Tryd.prog.bytesOf 9 = 16 := by kernel_rfl
theorem cStr : Tryd.prog.cellsOf 9 = 1 := by kernel_rfl
set_option maxRecDepth 100000 in
/-- Rows of texts that came in. -/
theorem texts_open {H : Type} {enc : TypeId × Value → H} {W : World} {r : Reach} {base : Nat} {v : Value} {d : DataW H} {p : List MemPlace}
    (hwt : ∀ n ∈ d.weights Tryd.prog 30, n ≤ reachBytes) (hval : Value.okWide Tryd.prog W r base 30 v) (h : DataW.Trod enc Tryd.prog W 0 (fun _ => true) true 30 v d p) :
    ∃ ss : List ByteArray, SlT W v ss ∧ (∀ s ∈ ss, s.size ≤ 9223372036854775807) ∧ ss.length ≤ 8796093022208 := by
  obtain ⟨a0, len, cap, rfl⟩ := okWide_slice Tryd.underlying30 hval
  obtain ⟨fuel, hf⟩ := h
  rcases open_strings Tryd.underlying30 Tryd.underlying9 cStr hf with ⟨hcs, hx⟩ | ⟨a, len', cap', ss, hcs, _, hl, hm, hzl, hx, hcell, hsz⟩
  · simp [Value.cells] at hcs
    obtain ⟨rfl, rfl, rfl⟩ := hcs
    exact ⟨[], SlT.nil W 0, by simp, by simp⟩
  · simp [Value.cells] at hcs
    obtain ⟨rfl, rfl, rfl⟩ := hcs
    simp only [if_true] at hzl
    have hlen : (ss.take len).length = len := by rw [List.length_take]; omega
    refine ⟨ss.take len, ⟨by omega, some a, cap, by rw [hlen], fun h0 => ?_⟩, fun s hs => by have := hsz s (List.mem_of_mem_take hs); unfold maxLen at this; exact this, ?wt⟩
    case wt =>
      simp only [Prod.mk.injEq] at hx
      obtain ⟨rfl, rfl⟩ := hx
      have h1 := hwt (((strs (H := H) (ss.take len)).length + (strs (H := H) (ss.drop len)).length) * Tryd.prog.bytesOf 9) (by simp [DataW.weights, Tryd.underlying30])
      rw [bStr] at h1
      have h2 : (strs (H := H) (ss.take len)).length = len := by simp [strs]; omega
      rw [h2] at h1
      unfold reachBytes at h1
      omega
    rw [hlen] at h0
    obtain ⟨b, off, spot⟩ := a
    obtain rfl : spot = none := by simpa [Addr.add] using World.cell?_spot (hcell 0 (by omega))
    refine ⟨b, off, rfl, ?_, fun j hj => ?_⟩
    · have := cell?_lt (hcell 0 (by omega))
      simpa [Addr.add] using this
    · have hj2 : j < ss.length := by rw [hlen] at hj; omega
      rw [← add_plain', hcell j hj2, List.getElem_take]
      simp [List.getD, hj2]

theorem cInt : Tryd.prog.cellsOf 3 = 1 := by kernel_rfl
theorem cU64 : Tryd.prog.cellsOf 38 = 1 := by kernel_rfl
set_option maxRecDepth 100000 in
/-- Rows of whole numbers that came in. -/
theorem zs_open {H : Type} {enc : TypeId × Value → H} {W : World} {r : Reach} {base : Nat} {t e : TypeId} {k : IntKind} {v : Value} {d : DataW H} {p : List MemPlace}
    (ht : Tryd.prog.underlying t = some (.slice e)) (he : Tryd.prog.underlying e = some (.int k)) (hc : Tryd.prog.cellsOf e = 1)
    (hval : Value.okWide Tryd.prog W r base t v) (h : DataW.Trod enc Tryd.prog W 0 (fun _ => true) true t v d p) :
    ∃ zs : List Int, SlZ W k v zs ∧ ∀ n ∈ zs, (Lit.int k n).wf = true := by
  obtain ⟨a0, len, cap, rfl⟩ := okWide_slice ht hval
  obtain ⟨fuel, hf⟩ := h
  rcases open_ints ht he hc hf with ⟨hcs, hx⟩ | ⟨a, len', cap', zs, hcs, _, hl, hm, hzl, hx, hcell, hwz⟩
  · simp [Value.cells] at hcs
    obtain ⟨rfl, rfl, rfl⟩ := hcs
    exact ⟨[], ⟨by simp, none, 0, rfl, fun h => by simp at h⟩, by simp⟩
  · simp [Value.cells] at hcs
    obtain ⟨rfl, rfl, rfl⟩ := hcs
    simp only [if_true] at hzl
    have hlen : (zs.take len).length = len := by rw [List.length_take]; omega
    refine ⟨zs.take len, ⟨by omega, some a, cap, by rw [hlen], fun h0 => ?_⟩, fun n hn => hwz n (List.mem_of_mem_take hn)⟩
    rw [hlen] at h0
    obtain ⟨b, off, spot⟩ := a
    obtain rfl : spot = none := by simpa [Addr.add] using World.cell?_spot (hcell 0 (by omega))
    refine ⟨b, off, rfl, ?_, fun j hj => ?_⟩
    · have := cell?_lt (hcell 0 (by omega))
      simpa [Addr.add] using this
    · have hj2 : j < len := by rw [hlen] at hj; exact hj
      rw [← add_plain', hcell j (by omega)]
      simp [List.getD, hj2]

theorem readsAgain (os : Os) {H : Type} (enc : TypeId × Value → H) : ∃ places, DataW.whole enc Tryd.prog ((laidWorld os).forCall (fun _ _ => 0) ⟨#[], #[.int .i64 0, .slice none 0 0, .slice none 0 0, .slice none 0 0], []⟩).memory Tryd.f5.params.toList Rows.journalAgainSpec.vars false #[Value.int .i64 0, .slice none 0 0, .slice none 0 0, .slice none 0 0].toList 8 = some ([.lit (.int .i64 0), .nil, .nil, .nil], [], places) :=
  ⟨[], by kernel_rfl⟩

set_option maxRecDepth 100000 in
theorem liftedAgain (os : Os) (started : os.Started) (H : Type) (enc : TypeId × Value → H) (F : Stop.Interp) :
    ReturnsInHanded {} Tryd.checked os 5 .any ((OpenSpec.ofChange Rows.journalAgainSpec).preRow enc Tryd.prog Tryd.f5 Rows.journalAgainRow.domain false Rows.journalAgainRow.laid) (((OpenSpec.ofChange Rows.journalAgainSpec).at F).post enc Tryd.prog Tryd.f5 false true false false) := by
  obtain ⟨places, hx⟩ := readsAgain os enc
  refine returnsInHanded_of_row (C := Tryd.checked) (s := OpenSpec.ofChange Rows.journalAgainSpec) own started (by kernel_rfl) Tryd.func5
    (witness_row_at (enc := enc) (C := Tryd.checked) false (laidWorld os) #[.int .i64 0, .slice none 0 0, .slice none 0 0, .slice none 0 0] rfl (by kernel_rfl) (by kernel_rfl) (by kernel_rfl)
      (OpenSpec.preRow_of_cond 8 hx (by kernel_rfl) (fun k hk => by cases hk) (by kernel_rfl) (laid_met os _))) ?_
  intro W base args ds gs before hval hW0 _ _ hz hL _ _
  have hW : DataW.Whole enc Tryd.prog Tryd.f5.params.toList Rows.journalAgainSpec.vars false W args.toList ds gs before := hW0
  refine closes (s := Rows.journalAgainSpec) laidOut (by kernel_rfl) 4 Tryd.underlying4 (by kernel_rfl) rfl (fun ds hd => ?_) hW ?_
  · match ds, hd with
    | [_, _, _, _], _ => rfl
  · obtain ⟨p, q, hA0, hV, hbefore, hfz, hnd⟩ := hW
    obtain ⟨rfl, rfl⟩ := trodVars_none hV
    have hA : DataW.TrodAll enc Tryd.prog W 0 (fun _ => true) true Tryd.f5.params.toList args.toList ds p := hA0
    have hval' : ∀ (j : Nat) t v, Tryd.f5.params[j]? = some t → args[j]? = some v → Value.okWide Tryd.prog W .any base t v := hval
    rw [Tryd.params5] at hA hval'
    obtain ⟨v0, vs0, d0, ds0, p0, q0, hargs, rfl, rfl, h0, r0⟩ := trodAll_cons hA
    obtain ⟨v1, vs1, d1, ds1, p1, q1, rfl, rfl, rfl, h1, r1⟩ := trodAll_cons r0
    obtain ⟨v2, vs2, d2, ds2, p2, q2, rfl, rfl, rfl, h2, r2⟩ := trodAll_cons r1
    obtain ⟨v3, vs3, d3, ds3, p3, q3, rfl, rfl, rfl, h3, r3⟩ := trodAll_cons r2
    obtain ⟨rfl, rfl, rfl⟩ := trodAll_nil r3
    obtain rfl : args = #[v0, v1, v2, v3] := by cases args; simp_all
    obtain ⟨a0, rfl, rfl, rfl, w0⟩ := open_int Tryd.underlying3 (hval' 0 3 v0 rfl rfl) h0
    obtain ⟨xs, hx, hxs, hmany⟩ := texts_open (weight hz (j := 1) rfl rfl) (hval' 1 30 v1 rfl rfl) h1
    obtain ⟨zs, hzz, _⟩ := zs_open Tryd.underlying51 Tryd.underlying3 cInt (hval' 2 51 v2 rfl rfl) h2
    obtain ⟨ps, hpp, hpw⟩ := zs_open Tryd.underlying52 Tryd.underlying38 cU64 (hval' 3 52 v3 rfl rfl) h3
    exact walkAgain a0 v1 v2 v3 xs zs ps W hx hzz hpp hxs (fun p hp => u64_pos p (hpw p hp)) hmany (nib_of hL)

theorem saidAgain : Rows.JournalAgainSaid :=
  OpenClaim.holds_of_cond 5 Tryd.f5 rfl rfl rfl rfl rfl rfl rfl ⟨rfl, rfl, rfl, rfl, rfl⟩ rfl rfl rfl rfl rfl (by kernel_rfl) Tryd.func5 (by kernel_rfl)
    (of_decide_eq_true (by kernel_rfl)) (by unfold Func.isWrapper; first | (rw [if_pos (by decide +kernel)]; kernel_rfl) | (rw [if_neg (by decide +kernel)]; exact ⟨rfl, rfl⟩))
    (fun os started H enc _ F => by rw [OpenClaim.pre_eq_preRow]; exact liftedAgain os started H enc F)

theorem plainAgain (f : FuncId) (fn : Func) (hf : Tryd.pinned.checked.prog.funcNamed "reef/reeflaw07.JournalAgain" = some f) (hfn : Tryd.pinned.checked.prog.funcs[f]? = some fn) :
    false = Tryd.pinned.checked.prog.looks [] ∧ ∀ (j : Nat) t, fn.params[j]? = some t → Tryd.pinned.checked.prog.wantsStandIn t = false := by
  obtain rfl : f = 5 := Option.some.inj ((show Tryd.prog.funcNamed "reef/reeflaw07.JournalAgain" = some 5 by kernel_rfl).symm.trans hf) |>.symm
  obtain rfl : fn = Tryd.f5 := (Option.some.inj (Tryd.func5.symm.trans hfn)).symm
  refine ⟨by kernel_rfl, fun j t ht => ?_⟩
  rw [Tryd.params5] at ht
  have hm : t ∈ [3, 30, 51, 52] := by simpa using Array.mem_of_getElem? ht
  have hall : ([3, 30, 51, 52].all fun u => !Tryd.prog.wantsStandIn u) = true := by kernel_rfl
  exact (show Tryd.prog.wantsStandIn t = false by simpa using List.all_eq_true.1 hall t hm)

theorem again_card : Rows.JournalAgainCardSaid :=
  Claim7.holds_tied_plain_at .later [] _ _ _ _ saidAgain (fun _ h => by cases h) (by kernel_rfl) (fun _ h => by cases h) journalAgain_row_tie rfl ⟨rfl, rfl⟩ (by kernel_rfl) rfl plainAgain (by kernel_rfl)

#print axioms again_card
end Go.Proofs.YtgdfdljgbogbnaaDoor.journal
