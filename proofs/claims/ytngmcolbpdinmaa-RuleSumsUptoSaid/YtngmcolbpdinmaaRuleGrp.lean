/- The program's group. -/
import Derived.Test.YtngmcolbpdinmaaRows
import Derived.Test.YtngmcolbpdinmaaRuleGroup
import Derived.Test.YtngmcolbpdinmaaRuleRHosts
namespace Go.Proofs.Ytngmcolbpdinmaa.crush
open Go.RowKit
open Go.Proofs.Ytngmcolbpdinmaa.kit Go.Proofs.Ytngmcolbpdinmaa.own
set_option linter.unusedVariables false

/-- The hosts and their nodes, as they are read. -/
def PlanRd (w : World) (vi vn : Value) (its : List It) (nds : List (List It)) : Prop :=
  Sl wc 2 w vi its ∧ ∃ svs : List SV, Sl vc 1 w vn svs ∧ svs.length = nds.length ∧ ∀ i (h : i < svs.length) (h' : i < nds.length), Sl wc 2 w svs[i].v nds[i]
theorem PlanRd.keep {w w' : World} {vi vn : Value} {its : List It} {nds : List (List It)} (h : PlanRd w vi vn its nds) (hb : Below w.heap.size w w') : PlanRd w' vi vn its nds := by
  obtain ⟨h1, svs, h2, h3, h4⟩ := h
  exact ⟨h1.keep hb, svs, h2.keep hb, h3, fun i a b => (h4 i a b).keep hb⟩
/-- What lies from block B on is the same. -/
def SameFrom (B : Nat) (W W' : World) : Prop := W.heap.size ≤ W'.heap.size ∧ ∀ b, B ≤ b → b < W.heap.size → W'.heap[b]? = W.heap[b]?
theorem SameFrom.refl (B : Nat) (W : World) : SameFrom B W W := ⟨Nat.le_refl _, fun _ _ _ => rfl⟩
theorem SameFrom.below {B : Nat} {W W1 W2 : World} (h : SameFrom B W W1) (hb : Below W1.heap.size W1 W2) : SameFrom B W W2 := ⟨Nat.le_trans h.1 hb.size, fun b h1 h2 => (hb.block b (Nat.lt_of_lt_of_le h2 h.1)).trans (h.2 b h1 h2)⟩
theorem SameFrom.set {B : Nat} {W W1 : World} (h : SameFrom B W W1) {N : Nat} (hN : N < B) (o : Nat) (u : Value) : SameFrom B W (W1.setCell ⟨N, o, none⟩ u) := by
  have h1 : (W1.setCell ⟨N, o, none⟩ u).heap.size = W1.heap.size := size_setCells N [u] o W1
  refine ⟨by rw [h1]; exact h.1, fun b h2 h3 => ?_⟩
  have hne : b ≠ N := by omega
  exact (heap_setCell_other W1 ⟨N, o, none⟩ b u hne).trans (h.2 b h2 h3)
theorem Own.same {α : Type} {enc : α → List Value} {k e B B' : Nat} {W W' : World} {v : Value} {xs : List α} (h : Own enc k e W B v xs) (hs : SameFrom B' W W') (hB : B' ≤ B) : Own enc k e W' B v xs := by
  obtain ⟨h1, h2⟩ := id h
  refine ⟨h1, ?_⟩
  rcases h2 with ⟨rfl, h0⟩ | ⟨g, cap, cur, rfl, hb, hg, hr⟩
  · exact .inl ⟨rfl, h0⟩
  · exact .inr ⟨g, cap, cur, rfl, hb, (hs.2 g (by omega) (Array.getElem?_eq_some_iff.1 hg).1).trans hg, hr⟩
def GroupS (w : World) (hs ws : List Int) (e : Ending) (w' : World) : Prop := ∃ vi vn, e = .returned (.tuple #[vi, vn]) ∧ (∀ W', SameFrom w.heap.size w' W' → PlanRd W' vi vn (itemsE hs ws) (nodesE hs ws)) ∧ Below w.heap.size w w'

/-- The state ahead of the loops. -/
structure GSt (w2 W : World) (hs ws ids : List Int) (m gi gn : Nat) : Prop where
  it : OwnAt wc 2 58 W gi m (idK ids 0)
  rw : RowsAt W W.heap.size gn m (List.replicate m (none, 0, 0)) (ndK hs ws ids 0)
  bel : Below w2.heap.size w2 W
  ne : gi ≠ gn
  gi1 : w2.heap.size ≤ gi
  gi2 : gi < W.heap.size
  gn1 : w2.heap.size ≤ gn
  gn2 : gn < W.heap.size
theorem group_start1 (hs ws ids : List Int) {w2 wa wb : World} {m : Nat} (hm : ids.length = m) (h : OwnAt wc 2 58 wa w2.drew.heap.size m (List.replicate m (0, 0)) ∧ Below w2.drew.heap.size w2.drew wa ∧ OwnAt vc 1 33 wb wa.heap.size m (List.replicate m (none, 0, 0)) ∧ Below wa.heap.size wa wb) : GSt w2 wb hs ws ids m w2.heap.size wa.heap.size := by
  obtain ⟨h1, h2, h3, h4⟩ := h
  have hd : Below w2.heap.size w2 w2.drew := below_drew (Below.refl _ _)
  have l1 := h1.lt
  have l3 := h3.lt
  have hz : w2.drew.heap.size = w2.heap.size := rfl
  have s2 := h2.size
  have s4 := h4.size
  refine ⟨?_, ?_, (hd.trans (h2.mono hd.size)).trans (h4.mono (by omega)), by omega, Nat.le_refl _, by omega, by omega, l3⟩
  · rw [idK_zero, hm]; exact h1.block (h4.block _ l1)
  · rw [ndK_zero, hm]; exact RowsAt.new h3
theorem group_start2 (hs ws ids : List Int) {w2 wa wb : World} {m : Nat} (hm : ids.length = m) (h : OwnAt vc 1 33 wa w2.drew.heap.size m (List.replicate m (none, 0, 0)) ∧ Below w2.drew.heap.size w2.drew wa ∧ OwnAt wc 2 58 wb wa.heap.size m (List.replicate m (0, 0)) ∧ Below wa.heap.size wa wb) : GSt w2 wb hs ws ids m wa.heap.size w2.heap.size := by
  obtain ⟨h1, h2, h3, h4⟩ := h
  have hd : Below w2.heap.size w2 w2.drew := below_drew (Below.refl _ _)
  have l1 := h1.lt
  have l3 := h3.lt
  have hz : w2.drew.heap.size = w2.heap.size := rfl
  have s2 := h2.size
  have s4 := h4.size
  refine ⟨?_, ?_, (hd.trans (h2.mono hd.size)).trans (h4.mono (by omega)), by omega, by omega, l3, Nat.le_refl _, by omega⟩
  · rw [idK_zero, hm]; exact h3
  · rw [ndK_zero, hm]; exact RowsAt.new (h1.block (h4.block _ l1))
theorem nodes_len (hs ws : List Int) (h : Int) (n L : Nat) (hn : n ≤ L) : (nodesOf hs ws h n).length ≤ L := Nat.le_trans (nodesOf_len hs ws h n) hn
theorem sv_of {W : World} {B : Nat} {x : SV} {ys : List It} (h : Own wc 2 58 W B x.v ys) : x.v = .slice x.1 ys.length x.2.2 := by
  obtain ⟨a, c, e⟩ := h.slice
  obtain ⟨x1, x2, x3⟩ := x
  simp only [SV.v] at e ⊢
  cases e
  rfl

set_option maxHeartbeats 16000000 in
set_option maxRecDepth 100000 in
theorem group_any (v vw : Value) (hs ws : List Int) (w : World) (h : Sl ic 1 w v hs) (hw : Sl ic 1 w vw ws) (hl : hs.length ≤ 65536) : Calls Try.prog 21 #[v, vw] w (GroupS w hs ws) := by
  obtain ⟨a, c, rfl⟩ := h.slice
  obtain ⟨aw, cw, rfl⟩ := hw.slice
  have HUn := Lib.hid (unlike_any _ hs w h (by omega))
  have HH := Lib.hid h; have HW := Lib.hid hw; have HLn := Lib.hid hl
  have HMem : Hid (∀ k (hk : k < hs.length), hs[k] ∈ onceL hs) := Lib.hid (fun k hk => (onceL_mem hs _).2 (List.getElem_mem hk))
  have HLt := Lib.hid (onceL_lt hs)
  have hol := onceL_len hs
  have HIe : Hid (itemsE hs ws = itK hs ws (onceL hs) hs.length) := Lib.hid rfl
  have HNe : Hid (nodesE hs ws = ndK hs ws (onceL hs) hs.length) := Lib.hid rfl
  have mixed : Try.prog.follows .mixedOrders = true := by kernel_rfl
  obtain ⟨L, hL⟩ : ∃ L, hs.length = L := ⟨_, rfl⟩
  have HL := Lib.hid hL
  rw [hL] at HH HUn hl hol HIe HNe ⊢
  generalize ws.length = Lw at HW ⊢
  generalize hids : onceL hs = ids at HUn HMem HLt hol HIe HNe
  clear h hw hL hids
  go_enter Try.func21, Try.ntmps21
  go_wp2_with fail
  refine HUn.out.mono ?_
  rintro en w2 ⟨v2, rfl, ho, hb⟩
  obtain ⟨a2, c2, rfl⟩ := ho.slice
  obtain ⟨m, hm⟩ : ∃ m, ids.length = m := ⟨_, rfl⟩
  have HM := Lib.hid hm
  rw [hm] at ho hol ⊢
  have hm9 : m ≤ 65536 := by omega
  obtain ⟨wa, ha1, ha2, ha3⟩ := made_items w2.drew m hm9
  obtain ⟨wb, hb1, hb2, hb3⟩ := made_rows wa m hm9
  obtain ⟨wc', hc1, hc2, hc3⟩ := made_rows w2.drew m hm9
  obtain ⟨wd, hd1, hd2, hd3⟩ := made_items wc' m hm9
  have HO := Lib.hid ho; have HB := Lib.hid hb
  have HA := Lib.hid (And.intro ha2 (And.intro ha3 (And.intro hb2 hb3)))
  have HD := Lib.hid (And.intro hc2 (And.intro hc3 (And.intro hd2 hd3)))
  clear ho hb hm ha2 ha3 hb2 hb3 hc2 hc3 hd2 hd3
  go_wp2_with fail
  go_region
  all_goals
    first
      | (have HS0 := Lib.hid (group_start1 hs ws ids HM.out HA.out); obtain ⟨gi, hgi⟩ : ∃ g, w2.heap.size = g := ⟨_, rfl⟩; obtain ⟨gn, hgn⟩ : ∃ g, wa.heap.size = g := ⟨_, rfl⟩; have HS := Lib.hid (show GSt w2 wb hs ws ids m gi gn from hgi ▸ hgn ▸ HS0.out); rw [hgi, hgn]; clear HS0 HA HD hgi hgn ha1 hb1 hc1 hd1; generalize wb = W at HS ⊢)
      | (have HS0 := Lib.hid (group_start2 hs ws ids HM.out HD.out); obtain ⟨gn, hgi⟩ : ∃ g, w2.heap.size = g := ⟨_, rfl⟩; obtain ⟨gi, hgn⟩ : ∃ g, wc'.heap.size = g := ⟨_, rfl⟩; have HS := Lib.hid (show GSt w2 wd hs ws ids m gi gn from hgi ▸ hgn ▸ HS0.out); rw [hgi, hgn]; clear HS0 HA HD hgi hgn ha1 hb1 hc1 hd1; generalize wd = W at HS ⊢)
    have HIds := Lib.hid (HO.out.read ic_len)
    obtain ⟨B, hB⟩ : ∃ B, W.heap.size = B := ⟨_, rfl⟩
    have HBn := Lib.hid (show gi ≠ gn ∧ gi < B ∧ gn < B ∧ w2.heap.size ≤ gi ∧ w2.heap.size ≤ gn ∧ w2.heap.size ≤ B from ⟨HS.out.ne, hB ▸ HS.out.gi2, hB ▸ HS.out.gn2, HS.out.gi1, HS.out.gn1, hB ▸ HS.out.bel.size⟩)
    have HRw0 := Lib.hid (show RowsAt W B gn m _ _ from hB ▸ HS.out.rw)
    have hm0 : m ≤ 9223372036854775807 := by omega
    go_upto_region 3 with fail
    go_wp2
    go_loopw [26] (fun vi wr => ∃ k : Nat, k ≤ m ∧ vi = .int .i64 k ∧ OwnAt wc 2 58 wr gi m (idK ids k) ∧ RowsAt wr B gn m (List.replicate m (none, 0, 0)) (ndK hs ws ids 0) ∧ Below w2.heap.size w2 wr ∧ wr.heap.size = B) (fun i _ => m - (intOf i).toNat)
    case atStart => exact ⟨0, by omega, rfl, HS.out.it, HRw0.out, HS.out.bel, hB⟩
    case round =>
      obtain ⟨k, hk, rfl, hit, hrw, hbe, hsz⟩ := hrel
      clear HS HRw0
      by_cases hlt : k < m
      · have hlt' : (k : Int) < m := by omega
        have hk0 : (0 : Int) ≤ k := by omega
        have hki : k < ids.length := by rw [HM.out]; exact hlt
        obtain ⟨b2, off, c2', he, hbl, hcell⟩ := int_at' (HIds.out.keep hbe) HM.out hlt
        obtain ⟨rfl, rfl⟩ : a2 = some ⟨b2, off, none⟩ ∧ c2 = c2' := by cases he; exact ⟨rfl, rfl⟩
        have d1 := hcell k hki
        have hkl : k < (idK ids k).length := by rw [idK_len _ _ (by omega)]; exact hki
        have hat := idK_at ids k hki
        have q1 := hit.cellAt wc_len k hkl 0 (.int .i64 0) (by rw [hat]; rfl)
        have q0 := hit.thaw1 (k * 2)
        rw [Nat.add_zero] at q1
        have hst := hit.setField wc_len k hkl 0 (by decide) (.int .i64 ids[k]) (ids[k], 0) (by rw [hat]; rfl)
        rw [idK_step ids k hki, Nat.add_zero] at hst
        have HSt := Lib.hid hst
        have HRw := Lib.hid (hrw.setOther HBn.out.1 HBn.out.2.1 (k * 2) (.int .i64 ids[k]))
        have HBe := Lib.hid (hbe.setCell (p := ⟨gi, k * 2, none⟩) HBn.out.2.2.2.1 (.int .i64 ids[k]))
        have HSz := Lib.hid (show (wr.setCell ⟨gi, k * 2, none⟩ (.int .i64 ids[k])).heap.size = B from by rw [← hsz]; exact size_setCells gi [_] (k * 2) wr)
        generalize ids[k] = z at d1 HSt HRw HBe HSz
        clear hit hrw hbe hsz hst hat hkl hcell he hbl hki
        go_wp2
        clear d1 q1 q0
        go_roundw
        case rel => exact ⟨k + 1, by omega, by go_num, HSt.out, HRw.out, HBe.out, HSz.out⟩
        case measure => simp [intOf]; omega
      · obtain rfl : k = m := by omega
        have HIt := Lib.hid hit; have HRw := Lib.hid hrw; have HBe := Lib.hid hbe
        have HSz := Lib.hid hsz
        clear hit hrw hbe hsz
        go_wp2
        go_loopw [39] (fun vi wr => ∃ (n : Nat) (svs : List SV), n ≤ L ∧ vi = .int .i64 n ∧ OwnAt wc 2 58 wr gi k (itK hs ws ids n) ∧ RowsAt wr B gn k svs (ndK hs ws ids n) ∧ Below w2.heap.size w2 wr ∧ B ≤ wr.heap.size) (fun i _ => L - (intOf i).toNat)
        case atStart => exact ⟨0, _, by omega, rfl, by rw [← idK_all, HM.out]; exact HIt.out, HRw.out, HBe.out, by rw [HSz.out]; exact Nat.le_refl _⟩
        case round =>
          obtain ⟨n, svs, hn, rfl, hit, hrw, hbe, hsz⟩ := hrel
          clear HIt HRw HBe HSz
          by_cases hlt : n < L
          · have hlt' : (n : Int) < L := by omega
            have hn0 : (0 : Int) ≤ n := by omega
            have hnl : n < hs.length := by rw [HL.out]; exact hlt
            have hbw := HB.out.trans (hbe.mono HB.out.size)
            obtain ⟨b3, off3, c3', he, hbl, hcell⟩ := int_at' (HH.out.keep hbw) HL.out hlt
            obtain ⟨rfl, rfl⟩ : a = some ⟨b3, off3, none⟩ ∧ c = c3' := by cases he; exact ⟨rfl, rfl⟩
            have d1 := hcell n hnl
            obtain ⟨p, hp, hpz⟩ := List.getElem_of_mem (HMem.out n hnl)
            have hgd : hs.getD n 0 = hs[n] := by rw [List.getD_eq_getElem?_getD, List.getElem?_eq_getElem hnl]; rfl
            have HI1 := Lib.hid (itK_step hs ws ids n p hp HLt.out (by rw [hgd]; exact hpz))
            have HN1 := Lib.hid (ndK_step hs ws ids n p hp HLt.out (by rw [hgd]; exact hpz))
            have HBin := Lib.hid (bin_any (.slice a2 k c2) ids p hp HLt.out (by rw [HM.out]; omega) wr (HIds.out.keep hbe))
            have HWt := Lib.hid (nweight_any _ ws n (by omega) wr (HW.out.keep hbw))
            have hpk : p < k := by rw [← HM.out]; exact hp
            have hpk' : (p : Int) < k := by omega
            have hp0 : (0 : Int) ≤ p := by omega
            have hil : p < (itK hs ws ids n).length := by simp [itK]; exact hp
            have hnl2 : p < (ndK hs ws ids n).length := by simp [ndK]; exact hp
            have hsl : p < svs.length := by rw [← hrw.len]; exact hnl2
            have hie : (itK hs ws ids n)[p] = (ids[p], hostW hs ws ids[p] n) := by simp [itK]
            have hne : (ndK hs ws ids n)[p] = nodesOf hs ws ids[p] n := by simp [ndK]
            have q1 := hit.cellAt wc_len p hil 1 (.int .i64 (hostW hs ws ids[p] n)) (by rw [hie]; rfl)
            have q0 := hit.thaw1 (p * 2 + 1)
            have hst := hit.setField wc_len p hil 1 (by decide) (.int .i64 (min (hostW hs ws ids[p] n + wtAt ws n) 1048576)) (ids[p], min (hostW hs ws ids[p] n + wtAt ws n) 1048576) (by rw [hie]; rfl)
            rw [HI1.out] at hst
            have hown := hrw.each p hnl2 hsl
            rw [hne] at hown
            have hrc := hrw.row.cellAt vc_len p hsl 0 svs[p].v rfl
            have hrt := hrw.row.thaw1 p
            rw [Nat.mul_one, Nat.add_zero] at hrc
            have hge : svs[p].v = .slice svs[p].1 (nodesOf hs ws ids[p] n).length svs[p].2.2 := sv_of hown
            have HGr := Lib.hid (fun (W1 W2 : World) (h1 : RowsAt W1 B gn k svs (ndK hs ws ids n)) (x : SV) (ys : List It) (ho : Own wc 2 58 W2 B x.v ys) hg hw => h1.grow HBn.out.2.2.1 p hsl x ys ho hg hw)
            have HLen := Lib.hid (nodes_len hs ws ids[p] n L (by omega))
            have hr1 := hostW_range hs ws ids[p] n
            have hr2 := wtAt_range ws n
            have HOn := Lib.hid hown
            have HIt := Lib.hid hst
            have HRw := Lib.hid hrw
            rw [hpz] at HBin hge HOn HN1 HLen hr1 q1 HIt
            generalize hgw : min (hostW hs ws hs[n] n + wtAt ws n) 1048576 = nw at HIt
            generalize hostW hs ws hs[n] n = hw0 at q1 hr1 hgw
            generalize nodesOf hs ws hs[n] n = nd at hge HOn HN1 HLen
            generalize wtAt ws n = wt at HWt hr2 hgw HN1
            generalize hs[n] = z at d1 HBin
            generalize svs[p] = sv at hrc hge HGr HOn
            obtain ⟨s1, s2, s3⟩ := sv
            simp only [SV.v] at hge hrc HOn
            obtain rfl : s2 = nd.length := by cases hge; rfl
            have HSv := Lib.hid hrc
            have HBs := Lib.hid (And.intro hbe hsz)
            have hs0 := size_setCells gi [.int .i64 nw] (p * 2 + 1) wr
            clear hit hrw hst hown hcell he hbl hnl hbw hgd hil hnl2 hsl hie hne hpz hge hbe hsz hp HI1
            go_upto_region 12 with (go_at_call 30; refine HBin.out.mono ?_; rintro e w' ⟨rfl, rfl⟩)
            go_upto_region 14 with (go_at_call 28; refine HWt.out.mono ?_; rintro e w' ⟨rfl, rfl⟩)
            have HRw1 := Lib.hid (HRw.out.setOther HBn.out.1 HBn.out.2.1 (p * 2 + 1) (.int .i64 nw))
            have HOn1 := Lib.hid (HOn.out.setOther (N := gi) (fun e => by have := (HOn.out.blk gi e).1; have := HBn.out.2.1; omega) (p * 2 + 1) (.int .i64 nw))
            have HBe := Lib.hid (HBs.out.1.setCell (p := ⟨gi, p * 2 + 1, none⟩) HBn.out.2.2.2.1 (.int .i64 nw))
            have c3 := (World.cell?_of_block (a := ⟨gn, p, none⟩) (heap_setCell_other w' ⟨gi, p * 2 + 1, none⟩ gn (.int .i64 nw) (fun e => HBn.out.1 e.symm))).trans HSv.out
            have HSz := Lib.hid (show B ≤ (w'.setCell ⟨gi, p * 2 + 1, none⟩ (.int .i64 nw)).heap.size from by have : (w'.setCell ⟨gi, p * 2 + 1, none⟩ (.int .i64 nw)).heap.size = w'.heap.size := hs0; rw [this]; exact HBs.out.2)
            clear hs0 d1 q1 q0 hrc hrt HSv HRw HOn HBs
            generalize w'.setCell ⟨gi, p * 2 + 1, none⟩ (.int .i64 nw) = W1 at HIt HRw1 HOn1 HBe HSz c3 ⊢
            have HRt := Lib.hid HRw1.out.row
            have hba := below_new W1 (.cells #[.int .i64 n, .int .i64 wt] 58)
            have HOa := Lib.hid (HOn1.out.below hba)
            have HRa := Lib.hid (HRw1.out.below hba)
            have HBa := Lib.hid (HBe.out.trans (hba.mono HBe.out.size))
            have HIa := Lib.hid (HIt.out.block (hba.block _ HIt.out.lt))
            have HSa := Lib.hid (Nat.le_trans HSz.out hba.size)
            have HNw : Hid (Sl wc 2 (W1.alloc (.cells #[.int .i64 n, .int .i64 wt] 58)) (.slice (some ⟨W1.heap.size, 0, none⟩) 1 1) [((n : Int), wt)]) := Lib.hid (sl_new wc_len W1 ((n : Int), wt) _ _ rfl)
            clear hba
            go_upto_region 15 with (at_builtin; go_loud (refine app1Q wc_len wc_one (by decide) rfl _ _ 33 rfl B 58 _ (by rfl) 16 Try.underlying33 infoItm _ nd rfl HOa.out _ ((n : Int), wt) rfl HNw.out (by have := HLen.out; unfold maxLen; omega) (by have := HLen.out; omega) HSa.out ?_); intro v9 w9 ho9 hk9 hg9 hw9; obtain ⟨x9, y9, rfl⟩ := ho9.slice; have HO9 := Lib.hid ho9; have HK9 := Lib.hid hk9; have HG9 := Lib.hid hg9; have HW9 := Lib.hid hw9; have q9 : w9.frozen? ⟨gn, p, none⟩ = false := ((HRa.out.row.block (HG9.out.block gn HRa.out.row.lt (fun e => by have := (HOa.out.blk gn e.symm).1; have := HBn.out.2.2.1; omega))).thaw1 p); have q8 : ∃ u, w9.cell? ⟨gn, p, none⟩ = some u := ⟨_, (World.cell?_of_block (a := ⟨gn, p, none⟩) (HG9.out.block gn HRa.out.row.lt (fun e => by have := (HOa.out.blk gn e.symm).1; have := HBn.out.2.2.1; omega))).trans ((World.cell?_of_block (a := ⟨gn, p, none⟩) (((below_new W1 _).block gn HRt.out.lt))).trans c3)⟩; obtain ⟨u8, q8⟩ := q8; clear ho9 hk9 hg9 hw9)
            have HRf := Lib.hid (HGr.out _ w9 HRa.out (x9, (nd ++ [((n : Int), wt)]).length, y9) _ HO9.out HG9.out HW9.out)
            have HIf := Lib.hid ((HIa.out.block (HG9.out.block gi HIa.out.lt (fun e => by have := (HOa.out.blk gi e.symm).1; have := HBn.out.2.1; omega))).block (heap_setCell_other w9 ⟨gn, p, none⟩ gi (.slice x9 (nd ++ [((n : Int), wt)]).length y9) HBn.out.1))
            have HBf := Lib.hid ((HBa.out.trans (HK9.out.toBelow.mono HBn.out.2.2.2.2.2)).setCell (p := ⟨gn, p, none⟩) HBn.out.2.2.2.2.1 (.slice x9 (nd ++ [((n : Int), wt)]).length y9))
            rw [HN1.out] at HRf
            have hl9 : (nd ++ [((n : Int), wt)]).length = nd.length + 1 := by simp
            have HSf := Lib.hid (show B ≤ (w9.setCell ⟨gn, p, none⟩ (.slice x9 (nd ++ [((n : Int), wt)]).length y9)).heap.size from by have h1 := size_setCells gn [.slice x9 (nd ++ [((n : Int), wt)]).length y9] p w9; have h2 : (w9.setCell ⟨gn, p, none⟩ (.slice x9 (nd ++ [((n : Int), wt)]).length y9)).heap.size = w9.heap.size := h1; rw [h2]; exact Nat.le_trans HSa.out HG9.out.size)
            have HRf := Lib.hid (show RowsAt (w9.setCell ⟨gn, p, none⟩ (.slice x9 (nd ++ [((n : Int), wt)]).length y9)) B gn k _ _ from HRf.out)
            rw [hl9] at HRf HIf HBf HSf
            generalize w9.setCell ⟨gn, p, none⟩ (.slice x9 (nd.length + 1) y9) = W9 at HRf HIf HBf HSf ⊢
            clear hl9
            clear c3 q9 q8
            go_wp2
            go_roundw
            case rel => exact ⟨n + 1, _, by omega, by go_num, HIf.out, HRf.out, HBf.out, HSf.out⟩
            case measure => simp [intOf]; omega
          · obtain rfl : n = L := by omega
            have HPl := Lib.hid (show ∀ W', SameFrom w.heap.size wr W' → PlanRd W' (.slice (some ⟨gi, 0, none⟩) k k) (.slice (some ⟨gn, 0, none⟩) k k) (itemsE hs ws) (nodesE hs ws) from by
              intro W' hW'
              rw [HIe.out, HNe.out]
              have e1 : (itK hs ws ids n).length = k := by simp [itK]; exact HM.out
              have e2 : svs.length = k := by rw [← hrw.len]; simp [ndK]; exact HM.out
              have hbs := HB.out.size
              have hbn := HBn.out
              have r1 := ((hit.block (hW'.2 gi (by omega) hit.lt)).own (B := 0) wc_len (Nat.zero_le _)).read wc_len
              have r2 := ((hrw.row.block (hW'.2 gn (by omega) hrw.row.lt)).own (B := 0) vc_len (Nat.zero_le _)).read vc_len
              rw [e1] at r1
              rw [e2] at r2
              exact ⟨r1, svs, r2, hrw.len.symm, fun i a b => ((hrw.each i b a).same hW' (by omega)).read wc_len⟩)
            have HBf := Lib.hid (HB.out.trans (hbe.mono HB.out.size))
            clear hit hrw hbe hsz
            go_wp2
            go_ret2
            exact ⟨_, _, rfl, HPl.out, HBf.out⟩
end Go.Proofs.Ytngmcolbpdinmaa.crush
