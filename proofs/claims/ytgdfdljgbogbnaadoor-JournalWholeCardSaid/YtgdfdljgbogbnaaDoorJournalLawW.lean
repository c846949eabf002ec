/- The law JournalWhole: whatever write the power goes at, what was appended is there, and behind it the one record more, or not. Conditions: none. -/
import Derived.Test.YtgdfdljgbogbnaaDoorCards
import Derived.Test.YtgdfdljgbogbnaaDoorTie
import Derived.Test.YtgdfdljgbogbnaaDoorJournalLift
import Derived.Test.YtgdfdljgbogbnaaDoorJournalAwake
import Derived.Test.YtgdfdljgbogbnaaDoorJournalPower
import Derived.Test.YtgdfdljgbogbnaaDoorSectorLift
import Derived.SliceStrings
namespace Go.Proofs.YtgdfdljgbogbnaaDoor.journal
open Go.ChangeShapes Go.WideShapes Go.ChangeAt Go.RowKit
open Go.Proofs.YtgdfdljgbogbnaaDoor.kit Go.Proofs.YtgdfdljgbogbnaaDoor.own Go.Proofs.YtgdfdljgbogbnaaDoor.fm Go.Proofs.YtgdfdljgbogbnaaDoor.lift Go.Proofs.YtgdfdljgbogbnaaDoor.jm
open Go.WideMaps Go.WideElems
open Go.Proofs.YtgdfdljgbogbnaaDoor.frame (Nib)
open Go.Proofs.YtgdfdljgbogbnaaDoor.sector (strN DevAt Dev fresh Fresh New_ok)
set_option linter.unusedVariables false
set_option linter.constructorNameAsVariable false

theorem mod_conv (z : Int) (q : Nat) (hq : 0 < q) (hq2 : q ≤ 1000) : ∃ n : Nat, n < q ∧ (IntKind.u64.wrap z).tmod q = (n : Int) := by
  have h0 : 0 ≤ IntKind.u64.wrap z := by rw [IntKind.wrap_u64]; omega
  rw [Int.tmod_eq_emod_of_nonneg h0]
  generalize IntKind.u64.wrap z = y at h0
  have h1 := Int.emod_nonneg y (show (q : Int) ≠ 0 by omega)
  have h2 := Int.emod_lt_of_pos y (show (0 : Int) < q by omega)
  exact ⟨(y % q).toNat, by omega, by omega⟩

set_option maxHeartbeats 8000000 in
set_option maxRecDepth 100000 in
theorem walkWhole (c : Int) (va : Value) (xs : List ByteArray) (z : Int) (p : Nat) (w : World) (hx : SlT w va xs) (hxs : ∀ s ∈ xs, s.size ≤ 9223372036854775807) (hp : p < 18446744073709551616) (hN : Nib w) :
    Calls Tryd.prog 4 #[.int .i64 c, va, .int .i64 z, .int .u64 p] w fun e w' => e = .returned (.bool true) ∧ Below w.heap.size w w' := by
  have HNb := Lib.hid hN; have HX := Lib.hid hx; have HXs := Lib.hid hxs; have HPk := Lib.hid hp
  clear hN hx hxs hp
  go_enter Tryd.func4, Tryd.ntmps4
  go_upto_region 2 with fail
  obtain ⟨n0, hn1, hn2⟩ := mod_conv c 24 (by omega) (by omega)
  obtain ⟨n, hn⟩ : ∃ n, n0 + 1 = n := ⟨_, rfl⟩
  have hn3 : wrap64 (1 + wrap64 ((IntKind.u64.wrap c).tmod 24)) = (n : Int) := by
    rw [show ((24 : Int)) = ((24 : Nat) : Int) from rfl, hn2]
    unfold wrap64
    omega
  rw [hn3]
  have hn1 : 1 ≤ n ∧ n ≤ 24 := by omega
  have HN1 := Lib.hid hn1
  have HFr : Hid (∀ w1 d, DevAt w1 (Fresh w w1) d (fresh n) → Below w.heap.size w w1 → Held w.heap.size w d n 1 [] (some true) w1) := Lib.hid fun w1 d hd hb => by
    obtain ⟨k, hs⟩ : ∃ k, Stands 0 (pcsOf (fresh n) 0 n) [] k := by
      have := stands_of 1 (pcsOf (fresh n) 0 n) (pcsOf_ok (sector.fresh_ok (by omega)) 0 n (by show 0 + n ≤ n; omega))
      rw [(fresh_stand (N := n) (from_ := 0) (n := n) (first := 1) (by omega) (by omega)).1] at this
      exact ⟨_, this⟩
    refine ⟨_, _, ⟨hb, hd, ?_, fun q hq => (by cases hq), HNb.out.keep hb, cell_lt (HNb.out 0 (by omega)), Nat.le_refl _, rfl, ⟨k, hs⟩, fun q hq => ?_, rfl, by show 0 ≤ _; omega, by show 0 ≤ _; omega, by omega, by omega⟩, fun b hb => by cases hb; rfl⟩
    · rintro k (hz | hz)
      · exact hz.elim
      · omega
    · rw [pcs_fresh (N := n) (from_ := 0) (n := n) (by omega) q hq]
      show 0 < 1
      omega
  clear hn1 hn2 hn3 hn
  go_wp2_with fail
  refine (New_ok w n HN1.out.1 (by have := HN1.out.2; omega)).mono ?_
  rintro e w1 ⟨d, rfl, hd1, hb1⟩
  have HO1 := Lib.hid ((HFr.out w1 d hd1 hb1).open (Nat.le_refl _))
  clear hd1 hb1 HFr
  go_wp2_with fail
  refine HO1.out.mono ?_
  rintro e w2 ⟨J, v, rfl, ho, hb2, hr⟩
  obtain ⟨a2, c2, rfl⟩ := ho.form
  have HR := Lib.hid hr
  clear ho hb2 hr HO1
  simp only [List.map_nil, List.length_nil]
  obtain ⟨q, hq1, hq2⟩ := mod_conv z 40 (by omega) (by omega)
  have e40 : True → (IntKind.u64.wrap z).tmod 40 = (q : Int) := fun _ => hq2
  have e41 : True → wrap64 (q : Int) = (q : Int) := fun _ => by unfold wrap64; omega
  have HCu := Lib.hid (HR.out.cut q p (by omega) HPk.out)
  clear hq1 hq2
  go_wp2_with fail
  clear e40 e41
  refine HCu.out.mono ?_
  rintro e w3 ⟨rfl, hr3, -⟩
  have HR3 := Lib.hid hr3
  clear hr3 HCu HR
  have HD0 := Lib.hid (OwnT.nil w3 w.heap.size)
  obtain ⟨hl1, a1, cap1, rfl, _⟩ := id HX.out
  obtain ⟨L, hL⟩ : ∃ L, xs.length = L := ⟨_, rfl⟩
  have HL := Lib.hid hL
  have HLm := Lib.hid (show L ≤ maxLen by omega)
  rw [hL]
  clear hL hl1
  go_wp2_with fail
  go_loopw [13, 14, 15, 49] (fun v u b i wr => u = .string ⟨#[]⟩ ∧ b = .bool false ∧ ∃ k : Nat, k ≤ L ∧ i = .int .i64 k ∧ ∃ recs, Runs w.heap.size w J d n (1 + 64 * recs.length) recs wr ∧ OwnT wr w.heap.size v (recs.map strN)) (fun _ _ _ i _ => L - (intOf i).toNat)
  case atStart => exact ⟨rfl, rfl, 0, by omega, rfl, [], HR3.out, HD0.out⟩
  case round =>
    obtain ⟨rfl, rfl, k, hk, rfl, recs, hg, ho⟩ := hrel
    have HGo := Lib.hid hg; have HOw := Lib.hid ho
    clear hg ho HR3 HD0
    have HFw := Lib.hid HGo.out.few
    by_cases hlt : k < L
    · have hlt' : (k : Int) < L := by omega
      have hk0 : (0 : Int) ≤ k := by omega
      have hkm : (k : Int) < 9223372036854775807 := by have := HLm.out; unfold maxLen at this; omega
      have hi1 : k < xs.length := by rw [HL.out]; exact hlt
      obtain ⟨_, a', cap', he, hcell⟩ := HX.out.keep HGo.out.bel
      rw [HL.out] at he
      cases he
      obtain ⟨b, off, rfl, hbl, hcell⟩ := hcell (by omega)
      have c1 := hcell k hi1
      have HSt := Lib.hid (HGo.out.step xs[k] (HXs.out _ (List.getElem_mem hi1)) (by have := HFw.out; omega))
      obtain ⟨x, hx⟩ : ∃ x, xs[k] = x := ⟨_, rfl⟩
      rw [hx] at c1 HSt
      clear hcell hbl hx hi1
      go_wp2_with fail
      refine HSt.out.mono ?_
      rintro e w4 ⟨h4 | h4 | h4, hown⟩
      · have HG4 := Lib.hid h4; have HO4 := Lib.hid (hown _ _ _ HOw.out)
        clear h4 hown c1
        have HB4 := Lib.hid HG4.out.bel.size
        go_upto_region 15 with fail
        refine (wpIn_wide (n := 0)).1 ?_
        gi_wp2_with (gi_at_builtin; refine app1T_in rfl (.tmp 58) (.tmp 60) 30 rfl w.heap.size Tryd.underlying30 infoStr _ (recs.map strN) rfl HO4.out x _ rfl rfl (by have := HFw.out; rw [List.length_map]; unfold maxLen; omega) (by have := HFw.out; rw [List.length_map]; omega) HB4.out ?_; intro v9 w9 ho9 hk9)
        have HG9 := Lib.hid (HG4.out.kept hk9)
        have HO9 := Lib.hid (show OwnT w9 w.heap.size v9 ((recs ++ [byN x]).map strN) by rw [List.map_append, List.map_singleton, strN_byN]; exact ho9)
        clear hk9 ho9
        go_wp2_with fail
        go_roundw
        case rel => exact ⟨rfl, rfl, k + 1, by omega, by go_num, _, by have := HG9.out; rw [List.length_append, List.length_singleton, Nat.mul_add, ← Nat.add_assoc]; exact this, HO9.out⟩
        case measure => simp [intOf]; omega
      · have HG4 := Lib.hid h4; have HO4 := Lib.hid (hown _ _ _ HOw.out)
        clear h4 hown c1
        go_wp2_with fail
        go_roundw
        case rel => exact ⟨rfl, rfl, k + 1, by omega, by go_num, _, HG4.out, HO4.out⟩
        case measure => simp [intOf]; omega
      · have HO4 := Lib.hid (hown _ _ _ HOw.out)
        have h5 : ∃ told, (told = recs ∨ told = recs ++ [byN x]) ∧ Held w.heap.size w d n (1 + 64 * recs.length + 64) told none w4 := by
          rcases h4 with h4 | h4
          · exact ⟨_, .inl rfl, h4⟩
          · exact ⟨_, .inr rfl, h4⟩
        obtain ⟨told, htold, h5⟩ := h5
        have HTo := Lib.hid htold; have HH4 := Lib.hid h5
        clear h4 h5 hown c1 htold
        have HOn := Lib.hid HH4.out.on
        go_wp2_with fail
        refine HOn.out.mono ?_
        rintro e w5 ⟨rfl, hh5, hown⟩
        have HO5 := Lib.hid (hown _ _ _ HO4.out)
        have HOp := Lib.hid (hh5.open (by omega))
        clear hh5 hown HOn HH4 HO4
        go_wp2_with fail
        refine HOp.out.mono ?_
        rintro e w6 ⟨J6, v6, rfl, ho6, hb6, hr6⟩
        have HR6 := Lib.hid hr6
        have HO6 := Lib.hid (HO5.out.below hb6)
        have hfw := HFw.out
        have hfw2 := hr6.few
        have hS6 : SlT w6 v6 (told.map strN) := ho6.sl (by rw [List.length_map]; unfold maxLen; omega)
        have HS6 := Lib.hid ho6
        have HNew := Lib.hid (HO5.out.newer ho6)
        have HT := Lib.hid (texts_any v6 _ _ _ w6 hS6 (HO6.out.sl (by rw [List.length_map]; unfold maxLen; omega)))
        clear ho6 hb6 hr6 hfw2 hS6
        rcases HTo.out with rfl | rfl
        · clear hfw
          go_wp2_with fail
          refine HT.out.mono ?_
          rintro e w7 ⟨rfl, hb7⟩
          have HB7 := Lib.hid (HR6.out.bel.trans (hb7.mono HR6.out.bel.size))
          simp only [decide_true]
          clear hb7
          go_wp2_with fail
          refine (jawake_any w7 (HNb.out.keep HB7.out)).mono ?_
          rintro e w8 ⟨rfl, hb8⟩
          have HB8 := Lib.hid (HB7.out.trans (hb8.mono HB7.out.size))
          clear hb8
          go_wp2
          go_ret
          exact ⟨rfl, HB8.out⟩
        · have hne : decide ((recs ++ [byN x]).map strN = recs.map strN) = false := by
            rw [decide_eq_false_iff_not]
            intro h
            have := congrArg List.length h
            simp at this
          rw [hne] at HT
          clear hne hfw
          go_upto_region 23 with fail
          clear hcell HTo HOp HSt HOw HGo HXs HX HL HLm HPk HN1 hkm hlt' hk0
          go_wp2_with fail
          refine HT.out.mono ?_
          rintro e w7 ⟨rfl, hb7⟩
          have HR7 := Lib.hid (HR6.out.keep hb7)
          have HO7 := Lib.hid (HO6.out.below hb7)
          have HS7 := Lib.hid (HS6.out.below hb7)
          have HB7 := Lib.hid HR7.out.bel.size
          have hp63 : (recs.map strN).length + 1 ≤ maxLen := by have := HFw.out; rw [List.length_map]; unfold maxLen; omega
          have hp47 : ((recs.map strN).length + 1) * 16 ≤ 140737488355328 := by have := HFw.out; rw [List.length_map]; omega
          have HP63 := Lib.hid hp63; have HP47 := Lib.hid hp47
          clear hb7 HT HR6 HO6 HS6 HO5 hp63 hp47
          go_wp2_with (at_builtin; refine wpList_free rfl ?_; refine app1T rfl (.tmp 84) (.tmp 86) 30 rfl w.heap.size Tryd.underlying30 infoStr _ (recs.map strN) rfl HO7.out x _ rfl rfl HP63.out HP47.out HB7.out ?_; intro v9 w9 ho9 hk9 hg9)
          have HG9 := Lib.hid (HR7.out.kept hk9)
          have hs9 : OwnT w9 w5.heap.size v6 ((recs ++ [byN x]).map strN) := HS7.out.stays fun g hg => by
            obtain ⟨cur, hc⟩ := sector.own_type HS7.out hg
            exact hg9 g (Array.getElem?_eq_some_iff.1 hc).1 (HNew.out g hg)
          have ho9' : OwnT w9 w.heap.size v9 ((recs ++ [byN x]).map strN) := by rw [List.map_append, List.map_singleton, strN_byN]; exact ho9
          have hl9 : ((recs ++ [byN x]).map strN).length ≤ maxLen := by rw [List.length_map, List.length_append, ← List.length_map (f := strN)]; exact HP63.out
          have HT9 := Lib.hid (texts_any v6 _ _ _ w9 (hs9.sl hl9) (ho9'.sl hl9))
          clear hk9 hg9 ho9 ho9' hs9 hl9 HP63 HP47
          go_wp2_with fail
          refine HT9.out.mono ?_
          rintro e w10 ⟨rfl, hb10⟩
          have HB10 := Lib.hid (HG9.out.bel.trans (hb10.mono HG9.out.bel.size))
          simp only [decide_true]
          clear hb10
          go_wp2_with fail
          refine (jawake_any w10 (HNb.out.keep HB10.out)).mono ?_
          rintro e w11 ⟨rfl, hb11⟩
          have HB11 := Lib.hid (HB10.out.trans (hb11.mono HB10.out.size))
          clear hb11
          go_wp2
          go_ret
          exact ⟨rfl, HB11.out⟩
    · obtain rfl : k = L := by omega
      have HOn := Lib.hid HGo.out.held.on
      go_wp2_with fail
      refine HOn.out.mono ?_
      rintro e w4 ⟨rfl, hh4, hown⟩
      have HO4 := Lib.hid (hown _ _ _ HOw.out)
      have HOp := Lib.hid (hh4.open (by omega))
      clear hh4 hown HOn
      go_wp2_with fail
      refine HOp.out.mono ?_
      rintro e w5 ⟨J5, v5, rfl, ho5, hb5, hr5⟩
      have HR5 := Lib.hid hr5
      have hfw := HFw.out
      have HT := Lib.hid (texts_any v5 _ _ _ w5 (ho5.sl (by rw [List.length_map]; unfold maxLen; omega)) ((HO4.out.below hb5).sl (by rw [List.length_map]; unfold maxLen; omega)))
      clear ho5 hb5 hr5 hfw
      go_wp2_with fail
      refine HT.out.mono ?_
      rintro e w6 ⟨rfl, hb6⟩
      have HB6 := Lib.hid (HR5.out.bel.trans (hb6.mono HR5.out.bel.size))
      simp only [decide_true]
      clear hb6
      go_wp2_with fail
      refine (jawake_any w6 (HNb.out.keep HB6.out)).mono ?_
      rintro e w7 ⟨rfl, hb7⟩
      have HB7 := Lib.hid (HB6.out.trans (hb7.mono HB6.out.size))
      clear hb7
      go_wp2
      go_ret
      exact ⟨rfl, HB7.out⟩

theorem cStr : Tryd.prog.cellsOf 9 = 1 := by kernel_rfl
set_option maxRecDepth 100000 in
/-- Rows of texts that came in. -/
theorem texts_open {H : Type} {enc : TypeId × Value → H} {W : World} {r : Reach} {base : Nat} {v : Value} {d : DataW H} {p : List MemPlace}
    (hval : Value.okWide Tryd.prog W r base 30 v) (h : DataW.Trod enc Tryd.prog W 0 (fun _ => true) true 30 v d p) :
    ∃ ss : List ByteArray, SlT W v ss ∧ ∀ s ∈ ss, s.size ≤ 9223372036854775807 := by
  obtain ⟨a0, len, cap, rfl⟩ := okWide_slice Tryd.underlying30 hval
  obtain ⟨fuel, hf⟩ := h
  rcases open_strings Tryd.underlying30 Tryd.underlying9 cStr hf with ⟨hcs, hx⟩ | ⟨a, len', cap', ss, hcs, _, hl, hm, hzl, hx, hcell, hsz⟩
  · simp [Value.cells] at hcs
    obtain ⟨rfl, rfl, rfl⟩ := hcs
    exact ⟨[], SlT.nil W 0, by simp⟩
  · simp [Value.cells] at hcs
    obtain ⟨rfl, rfl, rfl⟩ := hcs
    simp only [if_true] at hzl
    have hlen : (ss.take len).length = len := by rw [List.length_take]; omega
    refine ⟨ss.take len, ⟨by omega, some a, cap, by rw [hlen], fun h0 => ?_⟩, fun s hs => by have := hsz s (List.mem_of_mem_take hs); unfold maxLen at this; exact this⟩
    rw [hlen] at h0
    obtain ⟨b, off, spot⟩ := a
    obtain rfl : spot = none := by simpa [Addr.add] using World.cell?_spot (hcell 0 (by omega))
    refine ⟨b, off, rfl, ?_, fun j hj => ?_⟩
    · have := cell?_lt (hcell 0 (by omega))
      simpa [Addr.add] using this
    · have hj2 : j < ss.length := by rw [hlen] at hj; omega
      rw [← add_plain', hcell j hj2, List.getElem_take]
      simp [List.getD, hj2]

theorem readsWhole (os : Os) {H : Type} (enc : TypeId × Value → H) : ∃ places, DataW.whole enc Tryd.prog ((laidWorld os).forCall (fun _ _ => 0) ⟨#[], #[.int .i64 0, .slice none 0 0, .int .i64 0, .int .u64 0], []⟩).memory Tryd.f4.params.toList Rows.journalWholeSpec.vars false #[Value.int .i64 0, .slice none 0 0, .int .i64 0, .int .u64 0].toList 8 = some ([.lit (.int .i64 0), .nil, .lit (.int .i64 0), .lit (.int .u64 0)], [], places) :=
  ⟨[], by kernel_rfl⟩

set_option maxRecDepth 100000 in
theorem liftedWhole (os : Os) (started : os.Started) (H : Type) (enc : TypeId × Value → H) (F : Stop.Interp) :
    ReturnsInHanded {} Tryd.checked os 4 .any ((OpenSpec.ofChange Rows.journalWholeSpec).preRow enc Tryd.prog Tryd.f4 Rows.journalWholeRow.domain false Rows.journalWholeRow.laid) (((OpenSpec.ofChange Rows.journalWholeSpec).at F).post enc Tryd.prog Tryd.f4 false true false false) := by
  obtain ⟨places, hx⟩ := readsWhole os enc
  refine returnsInHanded_of_row (C := Tryd.checked) (s := OpenSpec.ofChange Rows.journalWholeSpec) own started (by kernel_rfl) Tryd.func4
    (witness_row_at (enc := enc) (C := Tryd.checked) false (laidWorld os) #[.int .i64 0, .slice none 0 0, .int .i64 0, .int .u64 0] rfl (by kernel_rfl) (by kernel_rfl) (by kernel_rfl)
      (OpenSpec.preRow_of_cond 8 hx (by kernel_rfl) (fun k hk => by cases hk) (by kernel_rfl) (laid_met os _))) ?_
  intro W base args ds gs before hval hW0 _ _ hz hL _ _
  have hW : DataW.Whole enc Tryd.prog Tryd.f4.params.toList Rows.journalWholeSpec.vars false W args.toList ds gs before := hW0
  refine closes (s := Rows.journalWholeSpec) laidOut (by kernel_rfl) 4 Tryd.underlying4 (by kernel_rfl) rfl (fun ds hd => ?_) hW ?_
  · match ds, hd with
    | [_, _, _, _], _ => rfl
  · obtain ⟨p, q, hA0, hV, hbefore, hfz, hnd⟩ := hW
    obtain ⟨rfl, rfl⟩ := trodVars_none hV
    have hA : DataW.TrodAll enc Tryd.prog W 0 (fun _ => true) true Tryd.f4.params.toList args.toList ds p := hA0
    have hval' : ∀ (j : Nat) t v, Tryd.f4.params[j]? = some t → args[j]? = some v → Value.okWide Tryd.prog W .any base t v := hval
    rw [Tryd.params4] at hA hval'
    obtain ⟨v0, vs0, d0, ds0, p0, q0, hargs, rfl, rfl, h0, r0⟩ := trodAll_cons hA
    obtain ⟨v1, vs1, d1, ds1, p1, q1, rfl, rfl, rfl, h1, r1⟩ := trodAll_cons r0
    obtain ⟨v2, vs2, d2, ds2, p2, q2, rfl, rfl, rfl, h2, r2⟩ := trodAll_cons r1
    obtain ⟨v3, vs3, d3, ds3, p3, q3, rfl, rfl, rfl, h3, r3⟩ := trodAll_cons r2
    obtain ⟨rfl, rfl, rfl⟩ := trodAll_nil r3
    obtain rfl : args = #[v0, v1, v2, v3] := by cases args; simp_all
    obtain ⟨a0, rfl, rfl, rfl, w0⟩ := open_int Tryd.underlying3 (hval' 0 3 v0 rfl rfl) h0
    obtain ⟨xs, hx, hxs⟩ := texts_open (hval' 1 30 v1 rfl rfl) h1
    obtain ⟨a2, rfl, rfl, rfl, w2⟩ := open_int Tryd.underlying3 (hval' 2 3 v2 rfl rfl) h2
    obtain ⟨a3, rfl, rfl, rfl, w3⟩ := open_int Tryd.underlying38 (hval' 3 38 v3 rfl rfl) h3
    have hk := u64_pos a3 w3
    obtain ⟨pk, rfl⟩ := Int.eq_ofNat_of_zero_le hk.1
    exact walkWhole a0 v1 xs a2 pk W hx hxs (by omega) (nib_of hL)

theorem saidWhole : Rows.JournalWholeSaid :=
  OpenClaim.holds_of_cond 4 Tryd.f4 rfl rfl rfl rfl rfl rfl rfl ⟨rfl, rfl, rfl, rfl, rfl⟩ rfl rfl rfl rfl rfl (by kernel_rfl) Tryd.func4 (by kernel_rfl)
    (of_decide_eq_true (by kernel_rfl)) (by unfold Func.isWrapper; first | (rw [if_pos (by decide +kernel)]; kernel_rfl) | (rw [if_neg (by decide +kernel)]; exact ⟨rfl, rfl⟩))
    (fun os started H enc _ F => by rw [OpenClaim.pre_eq_preRow]; exact liftedWhole os started H enc F)

theorem plainWhole (f : FuncId) (fn : Func) (hf : Tryd.pinned.checked.prog.funcNamed "reef/reeflaw07.JournalWhole" = some f) (hfn : Tryd.pinned.checked.prog.funcs[f]? = some fn) :
    false = Tryd.pinned.checked.prog.looks [] ∧ ∀ (j : Nat) t, fn.params[j]? = some t → Tryd.pinned.checked.prog.wantsStandIn t = false := by
  obtain rfl : f = 4 := Option.some.inj ((show Tryd.prog.funcNamed "reef/reeflaw07.JournalWhole" = some 4 by kernel_rfl).symm.trans hf) |>.symm
  obtain rfl : fn = Tryd.f4 := (Option.some.inj (Tryd.func4.symm.trans hfn)).symm
  refine ⟨by kernel_rfl, fun j t ht => ?_⟩
  rw [Tryd.params4] at ht
  have hm : t ∈ [3, 30, 3, 38] := by simpa using Array.mem_of_getElem? ht
  have hall : ([3, 30, 3, 38].all fun u => !Tryd.prog.wantsStandIn u) = true := by kernel_rfl
  exact (show Tryd.prog.wantsStandIn t = false by simpa using List.all_eq_true.1 hall t hm)

theorem whole_card : Rows.JournalWholeCardSaid :=
  Claim7.holds_tied_plain_at .later [] _ _ _ _ saidWhole (fun _ h => by cases h) (by kernel_rfl) (fun _ h => by cases h) journalWhole_row_tie rfl ⟨rfl, rfl⟩ (by kernel_rfl) rfl plainWhole (by kernel_rfl)

#print axioms whole_card
end Go.Proofs.YtgdfdljgbogbnaaDoor.journal
