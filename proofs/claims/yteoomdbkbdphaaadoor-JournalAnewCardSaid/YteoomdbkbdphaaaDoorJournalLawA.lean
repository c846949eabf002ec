/- The law JournalAnew: behind a new beginning, opened with its number, just what was appended then is told. Conditions: none. -/
import Derived.Test.YteoomdbkbdphaaaDoorCards
import Derived.Test.YteoomdbkbdphaaaDoorTie
import Derived.Test.YteoomdbkbdphaaaDoorJournalLift
import Derived.Test.YteoomdbkbdphaaaDoorJournalAwake
import Derived.Test.YteoomdbkbdphaaaDoorJournalGoing
import Derived.SliceStrings
namespace Go.Proofs.YteoomdbkbdphaaaDoor.journal
open Go.ChangeShapes Go.WideShapes Go.ChangeAt Go.RowKit
open Go.Proofs.YteoomdbkbdphaaaDoor.kit Go.Proofs.YteoomdbkbdphaaaDoor.own Go.Proofs.YteoomdbkbdphaaaDoor.fm Go.Proofs.YteoomdbkbdphaaaDoor.lift Go.Proofs.YteoomdbkbdphaaaDoor.jm
open Go.WideMaps Go.WideElems
open Go.Proofs.YteoomdbkbdphaaaDoor.frame (Nib)
open Go.Proofs.YteoomdbkbdphaaaDoor.sector (strN DevAt Dev fresh Fresh New_ok)
set_option linter.unusedVariables false
set_option linter.constructorNameAsVariable false

theorem count_conv (z : Int) : ∃ n : Nat, 1 ≤ n ∧ n ≤ 24 ∧ wrap64 (1 + wrap64 ((IntKind.u64.wrap z).tmod 24)) = (n : Int) := by
  have h0 : 0 ≤ IntKind.u64.wrap z := by rw [IntKind.wrap_u64]; omega
  rw [Int.tmod_eq_emod_of_nonneg h0]
  generalize IntKind.u64.wrap z = y at h0
  refine ⟨1 + (y % 24).toNat, by omega, by omega, ?_⟩
  unfold wrap64
  omega

theorem Stands.few {last : Nat} {ps : List Pc} {l : List (List Nat)} {k : Nat} (h : Stands last ps l k) : l.length ≤ k := by
  induction h with
  | stop _ => exact Nat.le_refl _
  | @more last ps l k h0 _ ih => have := need_pos (cnt ps); simp only [List.length_cons]; omega
theorem Goes.few {B : Nat} {w0 W : World} {J d first n c : Nat} {recs : List (List Nat)} (h : Goes B w0 J d first n c recs W) : recs.length ≤ 64 := by
  obtain ⟨Z, j, m, h⟩ := h
  obtain ⟨k, _, hs⟩ := h.stood.at_
  have h1 := Stands.few hs
  have h2 := hs.len
  rw [pcsOf_len] at h2
  have := h.n64
  omega

set_option maxHeartbeats 8000000 in
set_option maxRecDepth 100000 in
theorem walkAnew (c : Int) (va vb : Value) (xs ys : List ByteArray) (w : World) (hx : SlT w va xs) (hy : SlT w vb ys) (hxs : ∀ s ∈ xs, s.size ≤ 9223372036854775807) (hys : ∀ s ∈ ys, s.size ≤ 9223372036854775807) (hN : Nib w) :
    Calls Tryd.prog 6 #[.int .i64 c, va, vb] w fun e w' => e = .returned (.bool true) ∧ Below w.heap.size w w' := by
  have HNb := Lib.hid hN; have HX := Lib.hid hx; have HY := Lib.hid hy; have HXs := Lib.hid hxs; have HYs := Lib.hid hys
  clear hN hx hy hxs hys
  go_enter Tryd.func6, Tryd.ntmps6
  go_upto_region 2 with fail
  obtain ⟨n, hn1, hn2, hn3⟩ := count_conv c
  rw [hn3]
  have HN1 := Lib.hid hn1; have HN2 := Lib.hid hn2
  have hop := fun (w1 : World) (d : Nat) (hd1 : DevAt w1 (Fresh w w1) d (fresh n)) (hb1 : Below w.heap.size w w1) => Open_ok w1 _ d (fresh n) 0 n 1 hd1 (by show 0 + n ≤ n; omega) hn1 ⟨by omega, by unfold maxNum; omega⟩ rfl (HNb.out.keep hb1)
  obtain ⟨f1, f2⟩ := fresh_stand (N := n) (from_ := 0) (n := n) (first := 1) (by omega) (by omega)
  rw [f1, f2] at hop
  have hsd := stood_open (m := fresh n) (fresh_rests (by omega)) 0 1 0 n (by show 0 + n ≤ n; omega) (by omega)
  rw [f1, f2] at hsd
  have HOp := Lib.hid hop; have HSd := Lib.hid hsd
  clear hop hsd f1 f2 hn1 hn2 hn3
  go_wp2_with fail
  refine (New_ok w n HN1.out (by have := HN2.out; omega)).mono ?_
  rintro e w1 ⟨d, rfl, hd1, hb1⟩
  have HO1 := Lib.hid (HOp.out w1 d hd1 hb1)
  have HD1 := Lib.hid hd1; have HB1 := Lib.hid hb1
  clear hd1 hb1
  go_wp2_with fail
  refine HO1.out.mono ?_
  rintro e w2 ⟨J, v, rfl, hj, hJ, ho, hb2⟩
  have hp := play_new rfl HB1.out HD1.out hb2 hJ hj HNb.out
  have hgo : Goes w.heap.size w J d 1 n 1 [] w2 := ⟨_, _, _, hp, ?std, rfl, rfl, rfl, by simp, by show 0 ≤ _; omega, by show 0 ≤ _; omega, by omega, by have := HN2.out; omega⟩
  case std =>
    have h := HSd.out
    exact ⟨h.rest, h.fits, rfl, rfl, rfl, h.at_, h.first1, h.next, h.new⟩
  have HG := Lib.hid hgo
  clear hgo hp hj hJ ho hb2 HO1 HOp HSd
  obtain ⟨hl1, a1, cap1, rfl, _⟩ := id HX.out
  obtain ⟨hl2, a2, cap2, rfl, _⟩ := id HY.out
  obtain ⟨L, hL⟩ : ∃ L, xs.length = L := ⟨_, rfl⟩
  obtain ⟨M, hM⟩ : ∃ M, ys.length = M := ⟨_, rfl⟩
  have HL := Lib.hid hL; have HM := Lib.hid hM
  have HLm := Lib.hid (show L ≤ maxLen by omega); have HMm := Lib.hid (show M ≤ maxLen by omega)
  rw [hL, hM]
  clear hL hM hl1 hl2
  go_wp2_with fail
  go_loopw [37] (fun i wr => ∃ k : Nat, k ≤ L ∧ i = .int .i64 k ∧ ∃ recs, Goes w.heap.size w J d 1 n 1 recs wr) (fun i _ => L - (intOf i).toNat)
  case atStart => exact ⟨0, by omega, rfl, _, HG.out⟩
  case round =>
    obtain ⟨k, hk, rfl, recs, hg⟩ := hrel
    have HGo := Lib.hid hg
    clear hg
    by_cases hlt : k < L
    · have hlt' : (k : Int) < L := by omega
      have hk0 : (0 : Int) ≤ k := by omega
      have hkm : (k : Int) < 9223372036854775807 := by have := HLm.out; unfold maxLen at this; omega
      have hi1 : k < xs.length := by rw [HL.out]; exact hlt
      obtain ⟨_, a', cap', he, hcell⟩ := HX.out.keep HGo.out.bel
      rw [HL.out] at he
      cases he
      obtain ⟨b, off, rfl, hbl, hcell⟩ := hcell (by omega)
      have c1 := hcell k hi1
      have HSt := Lib.hid (HGo.out.step xs[k] (HXs.out _ (List.getElem_mem hi1)))
      obtain ⟨x, hx⟩ : ∃ x, xs[k] = x := ⟨_, rfl⟩
      rw [hx] at c1 HSt
      clear hcell hbl hx hi1
      go_wp2_with fail
      refine HSt.out.mono ?_
      rintro e w' h'
      have h2 : (∃ r : Int, e = .returned (.int .i64 r)) ∧ ∃ recs, Goes w.heap.size w J d 1 n 1 recs w' := by
        rcases h' with ⟨rfl, h'⟩ | ⟨rfl, h'⟩
        · exact ⟨⟨_, rfl⟩, _, h'⟩
        · exact ⟨⟨_, rfl⟩, _, h'⟩
      obtain ⟨⟨r, rfl⟩, recs2, hg2⟩ := h2
      have HG2 := Lib.hid hg2
      clear h' hg2 c1
      go_wp2_with fail
      go_roundw
      case rel => exact ⟨k + 1, by omega, by go_num, _, HG2.out⟩
      case measure => simp [intOf]; omega
    · obtain rfl : k = L := by omega
      have HRs := Lib.hid (HGo.out.restart (by omega))
      go_wp2_with fail
      refine HRs.out.mono ?_
      rintro e w3 ⟨rfl, nx, hx1, hx2, hg3, hnext⟩
      have HG3 := Lib.hid hg3; have HNx := Lib.hid hnext; have HX1 := Lib.hid hx1; have HX2 := Lib.hid hx2
      clear hg3 hnext hx1 hx2 HGo HRs
      go_wp2_with fail
      refine HNx.out.mono ?_
      rintro e w' ⟨rfl, rfl⟩
      have HD0 := Lib.hid (OwnT.nil w3 w.heap.size)
      go_wp2_with fail
      go_loopw [14, 51] (fun v i wr => ∃ k : Nat, k ≤ M ∧ i = .int .i64 k ∧ ∃ recs, Goes w.heap.size w J d nx n 65 recs wr ∧ OwnT wr w.heap.size v (recs.map strN) ∧ recs.length ≤ k) (fun _ i _ => M - (intOf i).toNat)
      case atStart => exact ⟨0, by omega, rfl, [], HG3.out, HD0.out, Nat.le_refl _⟩
      case round =>
        obtain ⟨k, hk, rfl, recs, hg, ho, hrl⟩ := hrel
        have HGo := Lib.hid hg; have HOw := Lib.hid ho; have HRl := Lib.hid hrl
        clear hg ho hrl
        by_cases hlt : k < M
        · have hlt' : (k : Int) < M := by omega
          have hk0 : (0 : Int) ≤ k := by omega
          have hkm : (k : Int) < 9223372036854775807 := by have := HMm.out; unfold maxLen at this; omega
          have hi1 : k < ys.length := by rw [HM.out]; exact hlt
          obtain ⟨_, a', cap', he, hcell⟩ := HY.out.keep HGo.out.bel
          rw [HM.out] at he
          cases he
          obtain ⟨b, off, rfl, hbl, hcell⟩ := hcell (by omega)
          have c1 := hcell k hi1
          have HSt := Lib.hid (HGo.out.step2 ys[k] (HYs.out _ (List.getElem_mem hi1)))
          obtain ⟨x, hx⟩ : ∃ x, ys[k] = x := ⟨_, rfl⟩
          rw [hx] at c1 HSt
          clear hcell hbl hx hi1
          go_wp2_with fail
          refine HSt.out.mono ?_
          rintro e w4 ⟨h4 | h4, hown⟩
          · obtain ⟨rfl, hg4⟩ := h4
            have HG4 := Lib.hid hg4; have HO4 := Lib.hid (hown _ _ _ HOw.out)
            clear hg4 hown c1
            have HFw := Lib.hid HGo.out.few
            have HB4 := Lib.hid HG4.out.bel.size
            go_upto_region 18 with fail
            refine (wpIn_wide (n := 0)).1 ?_
            gi_wp2_with (gi_at_builtin; refine app1T_in rfl (.tmp 59) (.tmp 61) 30 rfl w.heap.size Tryd.underlying30 infoStr _ (recs.map strN) rfl HO4.out x _ rfl rfl (by have := HFw.out; rw [List.length_map]; unfold maxLen; omega) (by have := HFw.out; rw [List.length_map]; omega) HB4.out ?_; intro v9 w9 ho9 hk9)
            have HG9 := Lib.hid (HG4.out.kept hk9)
            have HO9 := Lib.hid (show OwnT w9 w.heap.size v9 ((recs ++ [byN x]).map strN) by rw [List.map_append, List.map_singleton, strN_byN]; exact ho9)
            clear hk9 ho9
            go_wp2_with fail
            go_roundw
            case rel => exact ⟨k + 1, by omega, by go_num, _, HG9.out, HO9.out, by have := HRl.out; rw [List.length_append, List.length_singleton]; omega⟩
            case measure => simp [intOf]; omega
          · obtain ⟨rfl, hg4⟩ := h4
            have HG4 := Lib.hid hg4; have HO4 := Lib.hid (hown _ _ _ HOw.out)
            clear hg4 hown c1
            go_wp2_with fail
            go_roundw
            case rel => exact ⟨k + 1, by omega, by go_num, _, HG4.out, HO4.out, by have := HRl.out; omega⟩
            case measure => simp [intOf]; omega
        · obtain rfl : k = M := by omega
          have HOn := Lib.hid (HGo.out.open (by unfold maxNum; have := HX2.out; omega) HN1.out)
          go_wp2_with fail
          refine HOn.out.mono ?_
          rintro e w5 ⟨J5, v5, rfl, ho5, hb5⟩
          have HG5 := Lib.hid (HGo.out.keep hb5)
          have hlr := HRl.out
          have hkm := HMm.out
          have HT := Lib.hid (texts_any v5 _ _ _ w5 (ho5.sl (by rw [List.length_map]; omega)) ((HOw.out.below hb5).sl (by rw [List.length_map]; omega)))
          clear ho5 hb5 hlr hkm
          go_wp2_with fail
          refine HT.out.mono ?_
          rintro e w6 ⟨rfl, hb6⟩
          have HB6 := Lib.hid (HG5.out.bel.trans (hb6.mono HG5.out.bel.size))
          simp only [decide_true]
          clear hb6
          go_wp2_with fail
          refine (jawake_any w6 (HNb.out.keep HB6.out)).mono ?_
          rintro e w7 ⟨rfl, hb7⟩
          have HB7 := Lib.hid (HB6.out.trans (hb7.mono HB6.out.size))
          clear hb7
          go_wp2
          go_ret
          exact ⟨rfl, HB7.out⟩

theorem cStr : Tryd.prog.cellsOf 9 = 1 := by kernel_rfl
set_option maxRecDepth 100000 in
/-- Rows of texts that came in. -/
theorem texts_open {H : Type} {enc : TypeId × Value → H} {W : World} {r : Reach} {base : Nat} {v : Value} {d : DataW H} {p : List MemPlace}
    (hval : Value.okWide Tryd.prog W r base 30 v) (h : DataW.Trod enc Tryd.prog W 0 (fun _ => true) true 30 v d p) :
    ∃ ss : List ByteArray, SlT W v ss ∧ ∀ s ∈ ss, s.size ≤ 9223372036854775807 := by
  obtain ⟨a0, len, cap, rfl⟩ := okWide_slice Tryd.underlying30 hval
  obtain ⟨fuel, hf⟩ := h
  rcases open_strings Tryd.underlying30 Tryd.underlying9 cStr hf with ⟨hcs, hx⟩ | ⟨a, len', cap', ss, hcs, _, hl, hm, hzl, hx, hcell, hsz⟩
  · simp [Value.cells] at hcs
    obtain ⟨rfl, rfl, rfl⟩ := hcs
    exact ⟨[], SlT.nil W 0, by simp⟩
  · simp [Value.cells] at hcs
    obtain ⟨rfl, rfl, rfl⟩ := hcs
    simp only [if_true] at hzl
    have hlen : (ss.take len).length = len := by rw [List.length_take]; omega
    refine ⟨ss.take len, ⟨by omega, some a, cap, by rw [hlen], fun h0 => ?_⟩, fun s hs => by have := hsz s (List.mem_of_mem_take hs); unfold maxLen at this; exact this⟩
    rw [hlen] at h0
    obtain ⟨b, off, spot⟩ := a
    obtain rfl : spot = none := by simpa [Addr.add] using World.cell?_spot (hcell 0 (by omega))
    refine ⟨b, off, rfl, ?_, fun j hj => ?_⟩
    · have := cell?_lt (hcell 0 (by omega))
      simpa [Addr.add] using this
    · have hj2 : j < ss.length := by rw [hlen] at hj; omega
      rw [← add_plain', hcell j hj2, List.getElem_take]
      simp [List.getD, hj2]

theorem readsAnew (os : Os) {H : Type} (enc : TypeId × Value → H) : ∃ places, DataW.whole enc Tryd.prog ((laidWorld os).forCall (fun _ _ => 0) ⟨#[], #[.int .i64 0, .slice none 0 0, .slice none 0 0], []⟩).memory Tryd.f6.params.toList Rows.journalAnewSpec.vars false #[Value.int .i64 0, .slice none 0 0, .slice none 0 0].toList 8 = some ([.lit (.int .i64 0), .nil, .nil], [], places) :=
  ⟨[], by kernel_rfl⟩

set_option maxRecDepth 100000 in
theorem liftedAnew (os : Os) (started : os.Started) (H : Type) (enc : TypeId × Value → H) (F : Stop.Interp) :
    ReturnsInHanded {} Tryd.checked os 6 .any ((OpenSpec.ofChange Rows.journalAnewSpec).preRow enc Tryd.prog Tryd.f6 Rows.journalAnewRow.domain false Rows.journalAnewRow.laid) (((OpenSpec.ofChange Rows.journalAnewSpec).at F).post enc Tryd.prog Tryd.f6 false true false false) := by
  obtain ⟨places, hx⟩ := readsAnew os enc
  refine returnsInHanded_of_row (C := Tryd.checked) (s := OpenSpec.ofChange Rows.journalAnewSpec) own started (by kernel_rfl) Tryd.func6
    (witness_row_at (enc := enc) (C := Tryd.checked) false (laidWorld os) #[.int .i64 0, .slice none 0 0, .slice none 0 0] rfl (by kernel_rfl) (by kernel_rfl) (by kernel_rfl)
      (OpenSpec.preRow_of_cond 8 hx (by kernel_rfl) (fun k hk => by cases hk) (by kernel_rfl) (laid_met os _))) ?_
  intro W base args ds gs before hval hW0 _ _ hz hL _ _
  have hW : DataW.Whole enc Tryd.prog Tryd.f6.params.toList Rows.journalAnewSpec.vars false W args.toList ds gs before := hW0
  refine closes (s := Rows.journalAnewSpec) laidOut (by kernel_rfl) 4 Tryd.underlying4 (by kernel_rfl) rfl (fun ds hd => ?_) hW ?_
  · match ds, hd with
    | [_, _, _], _ => rfl
  · obtain ⟨p, q, hA0, hV, hbefore, hfz, hnd⟩ := hW
    obtain ⟨rfl, rfl⟩ := trodVars_none hV
    have hA : DataW.TrodAll enc Tryd.prog W 0 (fun _ => true) true Tryd.f6.params.toList args.toList ds p := hA0
    have hval' : ∀ (j : Nat) t v, Tryd.f6.params[j]? = some t → args[j]? = some v → Value.okWide Tryd.prog W .any base t v := hval
    rw [Tryd.params6] at hA hval'
    obtain ⟨v0, vs0, d0, ds0, p0, q0, hargs, rfl, rfl, h0, r0⟩ := trodAll_cons hA
    obtain ⟨v1, vs1, d1, ds1, p1, q1, rfl, rfl, rfl, h1, r1⟩ := trodAll_cons r0
    obtain ⟨v2, vs2, d2, ds2, p2, q2, rfl, rfl, rfl, h2, r2⟩ := trodAll_cons r1
    obtain ⟨rfl, rfl, rfl⟩ := trodAll_nil r2
    obtain rfl : args = #[v0, v1, v2] := by cases args; simp_all
    obtain ⟨a0, rfl, rfl, rfl, w0⟩ := open_int Tryd.underlying3 (hval' 0 3 v0 rfl rfl) h0
    obtain ⟨xs, hx, hxs⟩ := texts_open (hval' 1 30 v1 rfl rfl) h1
    obtain ⟨ys, hy, hys⟩ := texts_open (hval' 2 30 v2 rfl rfl) h2
    exact walkAnew a0 v1 v2 xs ys W hx hy hxs hys (nib_of hL)

theorem saidAnew : Rows.JournalAnewSaid :=
  OpenClaim.holds_of_cond 6 Tryd.f6 rfl rfl rfl rfl rfl rfl rfl ⟨rfl, rfl, rfl, rfl, rfl⟩ rfl rfl rfl rfl rfl (by kernel_rfl) Tryd.func6 (by kernel_rfl)
    (of_decide_eq_true (by kernel_rfl)) (by unfold Func.isWrapper; first | (rw [if_pos (by decide +kernel)]; kernel_rfl) | (rw [if_neg (by decide +kernel)]; exact ⟨rfl, rfl⟩))
    (fun os started H enc _ F => by rw [OpenClaim.pre_eq_preRow]; exact liftedAnew os started H enc F)

theorem plainAnew (f : FuncId) (fn : Func) (hf : Tryd.pinned.checked.prog.funcNamed "reef/reeflaw07.JournalAnew" = some f) (hfn : Tryd.pinned.checked.prog.funcs[f]? = some fn) :
    false = Tryd.pinned.checked.prog.looks [] ∧ ∀ (j : Nat) t, fn.params[j]? = some t → Tryd.pinned.checked.prog.wantsStandIn t = false := by
  obtain rfl : f = 6 := Option.some.inj ((show Tryd.prog.funcNamed "reef/reeflaw07.JournalAnew" = some 6 by kernel_rfl).symm.trans hf) |>.symm
  obtain rfl : fn = Tryd.f6 := (Option.some.inj (Tryd.func6.symm.trans hfn)).symm
  refine ⟨by kernel_rfl, fun j t ht => ?_⟩
  rw [Tryd.params6] at ht
  have hm : t ∈ [3, 30, 30] := by simpa using Array.mem_of_getElem? ht
  have hall : ([3, 30, 30].all fun u => !Tryd.prog.wantsStandIn u) = true := by kernel_rfl
  exact (show Tryd.prog.wantsStandIn t = false by simpa using List.all_eq_true.1 hall t hm)

theorem anew_card : Rows.JournalAnewCardSaid :=
  Claim7.holds_tied_plain_at .later [] _ _ _ _ saidAnew (fun _ h => by cases h) (by kernel_rfl) (fun _ h => by cases h) journalAnew_row_tie rfl ⟨rfl, rfl⟩ (by kernel_rfl) rfl plainAnew (by kernel_rfl)

#print axioms anew_card
end Go.Proofs.YteoomdbkbdphaaaDoor.journal
