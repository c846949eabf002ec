/- The document's lose: frames to a node, from one, or from any. -/
import Derived.Test.YtalnmbfmfeaohaaGreatRows
import Derived.Test.YtalnmbfmfeaohaaGreatFlightRPut
import Derived.Deep.RegionLaw
import Derived.Maps.AppendAt
namespace Go.Proofs.YtalnmbfmfeaohaaGreat.flight
open Go.RowKit
open Go.Proofs.YtalnmbfmfeaohaaGreat.kit Go.Proofs.YtalnmbfmfeaohaaGreat.own
set_option linter.unusedVariables false

/-- 'append' of rows that are read, as a step of a drawn region. -/
theorem step_appSl {α : Type} {enc : α → List Value} {k : Nat} (hk : ∀ x, (enc x).length = k) (h1 : ∀ x, ∀ v ∈ enc x, v.oneCell' = true) (hk0 : 0 < k) {P : Program} {ops : Array Oper} {o : Oper} {a : Act} {w : World} {K : Act → World → Prop} {Q : Exit → Act → World → Prop} {E : Prop} (hgd : o.guard = none) (s x : Operand) (t : TypeId)
    (ho : o.op = .call { callee := .builtin .append, args := #[s, x], argTypes := #[t, t] })
    (B e : Nat) (z : Value) (hz : z.cells.size = k) (bytes : Nat) (ht : P.underlying t = some (.slice e)) (hi : (P.info? e).map (fun i => (i.zero, i.size, i.bytes)) = some (some z, k, bytes))
    (v : Value) (xs : List α) (hs : a.eval s = v) (hown : Own enc k e w B v xs) (ax : Addr) (m cx : Nat) (ys : List α) (hx : a.eval x = .slice (some ax) m cx) (hr : Sl enc k w (.slice (some ax) m cx) ys)
    (h63 : xs.length + ys.length ≤ maxLen) (hb : (xs.length + ys.length) * bytes ≤ 140737488355328) (hB : B ≤ w.heap.size)
    (h : ∀ v' w', Own enc k e w' B v' (xs ++ ys) → Kept B e w w' → K (a.put o.dst v') w') :
    if Region.wanted o (yielded ops a.tmps) = true then Oper.wp P o a w K Q else E := by
  obtain ⟨hl, ax', cx', he, hnil, hc⟩ := hr
  obtain ⟨rfl, rfl, rfl⟩ : ax' = some ax ∧ m = ys.length ∧ cx' = cx := by cases he; exact ⟨rfl, rfl, rfl⟩
  clear he
  obtain ⟨i0, hi, hz0, hz1, hz2⟩ := info_parts hi
  obtain ⟨b, off, spot⟩ := ax
  have news : ∀ (j : Nat) u, (ys.flatMap enc)[j]? = some u → w.cell? ((⟨b, off, spot⟩ : Addr).add j) = some u := by
    intro j u hu
    have hj : j < ys.length * k := by have := (List.getElem?_eq_some_iff.1 hu).1; rwa [flat_len hk] at this
    have hq : j / k < ys.length := (Nat.div_lt_iff_lt_mul hk0).2 hj
    obtain ⟨b', off', e', hlt, hcell⟩ := hc (Nat.lt_of_le_of_lt (Nat.zero_le _) hq)
    cases e'
    have hd : j = (j / k) * k + j % k := (Nat.div_add_mod' j k).symm
    rw [hd, flat_at hk ys (j / k) (j % k) hq (Nat.mod_lt _ hk0)] at hu
    rw [add_plain', hd, ← Nat.add_assoc]
    exact hcell (j / k) hq (j % k) u hu
  have hone : ∀ u ∈ ys.flatMap enc, u.oneCell' = true := by
    intro u hu
    obtain ⟨y, _, hy⟩ := List.mem_flatMap.1 hu
    exact h1 y u hy
  rw [if_pos (by simp [Region.wanted, hgd])]
  obtain ⟨v', w', hr, h2, h3, h4, h5⟩ := run_append_own_at (P := P) w B t o.type e i0 z k bytes ht hi hz0 hz1 hz2 hz hk0 v xs.length (xs.flatMap enc) hown ⟨b, off, spot⟩ ys.length cx' (ys.flatMap enc) (flat_len hk ys) news hone h63 hb hB
  unfold Oper.wp execOp
  simp only [ho, resolve, invoke, builtin, Sem.run_bind, Sem.run_pure, Result.andThen_ok, List.map_toArray, List.map_cons, List.map_nil, hs, hx, hr]
  refine h v' w' ?_ (Kept.grown hB hown h3)
  unfold Own
  rw [List.length_append, List.flatMap_append]
  exact h2
/-- Which frames are lost. -/
def loseP (fr to : Int) (any : Bool) (x : Frm) : Bool := x.dst == to && (any || x.src == fr)
theorem keep_yes (p : Frm → Bool) (l : List Frm) (k : Nat) (hk : k < l.length) (h : p l[k] = true) : (l.take (k + 1)).filter (fun x => !p x) = (l.take k).filter (fun x => !p x) := by
  rw [filter_snoc _ _ _ hk]; simp [h]
theorem keep_no (p : Frm → Bool) (l : List Frm) (k : Nat) (hk : k < l.length) (h : p l[k] = false) : (l.take (k + 1)).filter (fun x => !p x) = (l.take k).filter (fun x => !p x) ++ [l[k]] := by
  rw [filter_snoc _ _ _ hk]; simp [h]

set_option maxHeartbeats 16000000 in
set_option maxRecDepth 100000 in
theorem rlose_any (v : Value) (f : Flt) (fr to : Int) (any : Bool) (w : World) (h : FlR w v f) (hl1 : f.list.length * 40 ≤ 140737488355328) (hl2 : f.cut.length * 16 ≤ 140737488355328) :
    Calls Tryz.prog 43 #[v, .int .i64 fr, .int .i64 to, .bool any] w (TwoS w ⟨f.next, f.list.filter (fun x => !loseP fr to any x), f.cut⟩ ((f.list.length : Int) - (f.list.filter (fun x => !loseP fr to any x)).length)) := by
  obtain ⟨vl, vc, rfl, hl, hc⟩ := h
  have hb1 := below_new w (.cells #[.int .i64 f.next, vl, vc] 25)
  have hb2 := below_new (w.alloc (.cells #[.int .i64 f.next, vl, vc] 25)) (.cells #[.int .i64 0, .slice none 0 0, .slice none 0 0] 25)
  have hx1 := (fbox_new w f.next vl vc).keep hb2
  have hx2 := fbox_new (w.alloc (.cells #[.int .i64 f.next, vl, vc] 25)) 0 (.slice none 0 0) (.slice none 0 0)
  rw [World.size_alloc] at hx2
  have hb := hb1.trans (hb2.mono (by simp))
  have HS0 := Lib.hid hl; have HS2 := Lib.hid (hc.keep hb)
  have HX1 := Lib.hid hx1; have HX2 := Lib.hid hx2; have HB := Lib.hid hb
  have HL1 := Lib.hid hl1; have HL2 := Lib.hid hl2
  obtain ⟨al, cl, hvl⟩ := hl.slice
  subst hvl
  obtain ⟨n, l, c⟩ := f
  simp only at HS0 HS2 HX1 HX2 HB HL1 HL2 ⊢
  obtain ⟨L, hL⟩ : ∃ L, l.length = L := ⟨_, rfl⟩
  have HL := Lib.hid hL
  simp only [hL] at HS0 HS2 HX1 HX2 HB HL1 ⊢
  have hL63 : L ≤ 4000000000000 := by have := HL1.out; omega
  clear hl hc hb1 hb2 hx1 hx2 hb hl1 hl2 hL
  go_enter Tryz.func43, Tryz.ntmps43
  go_upto_region 1 with fail
  generalize (w.alloc (.cells #[.int .i64 n, .slice al L cl, vc] 25)).alloc (.cells #[.int .i64 0, .slice none 0 0, .slice none 0 0] 25) = W at HS2 HX1 HX2 HB ⊢
  generalize hN2 : w.heap.size + 1 = N2 at HX2 ⊢
  obtain ⟨N, hN⟩ : ∃ N, w.heap.size = N := ⟨_, rfl⟩
  rw [hN] at HX1 ⊢
  have HN := Lib.hid (And.intro hN hN2)
  clear hN hN2
  obtain ⟨e1, e2, e3⟩ := HX1.out.cells
  go_upto_region 2 with fail
  have hb3 := below_new W (.cells #[.int .i64 n, .slice none 0 0, .slice none 0 0] 25)
  have HX3 := Lib.hid (fbox_new W n (.slice none 0 0) (.slice none 0 0))
  have HB3 := Lib.hid hb3
  have HZ3 : Hid (W.heap.size < (W.alloc (.cells #[.int .i64 n, .slice none 0 0, .slice none 0 0] 25)).heap.size) := Lib.hid (by simp)
  clear hb3 e1 e2 e3
  generalize (W.alloc (.cells #[.int .i64 n, .slice none 0 0, .slice none 0 0] 25)) = W3 at HX3 HB3 HZ3 ⊢
  obtain ⟨N3, hN3⟩ : ∃ N, W.heap.size = N := ⟨_, rfl⟩
  have HN3 := Lib.hid hN3
  rw [hN3] at HX3 HZ3 ⊢
  clear hN3
  obtain ⟨k1, k2, k3⟩ := HX3.out.cells
  obtain ⟨e1, e2, e3⟩ := (HX1.out.keep HB3.out).cells
  have HO := Lib.hid (Own.nil (enc := wc) (k := 2) W3 40 W3.heap.size)
  go_upto_region 3 with (at_builtin; refine appSl wc_len wc_one (by decide) rfl _ _ 23 rfl W3.heap.size 40 _ (by rfl) 16 Tryz.underlying23 infoWay _ [] rfl HO.out _ c rfl (HS2.out.keep HB3.out) (by have := HL2.out; unfold maxLen; simp; omega) (by have := HL2.out; simpa using this) (Nat.le_refl _) ?_; intro v4 w4 ho hk; rw [List.nil_append] at ho; obtain ⟨x4, y4, rfl⟩ := ho.slice; have HO4 := Lib.hid ho; have HK := Lib.hid hk.toBelow; clear ho hk k1 k2 k3 e1 e2 e3; have HX34 := Lib.hid (HX3.out.keep HK.out); obtain ⟨k1, k2, k3⟩ := HX34.out.cells; obtain ⟨f1, f2, f3⟩ := HX34.out.thaw)
  have HX35 := Lib.hid (HX34.out.set2 (.slice x4 c.length y4))
  have HB5 := Lib.hid (HB.out.trans (((HB3.out.trans (HK.out.mono HB3.out.size)).setCell (p := ⟨N3, 2, none⟩) (Nat.le_of_eq HN3.out) (.slice x4 c.length y4)).mono HB.out.size))
  have HBW := Lib.hid ((HB3.out.trans (HK.out.mono HB3.out.size)).setCell (p := ⟨N3, 2, none⟩) (Nat.le_of_eq HN3.out) (.slice x4 c.length y4))
  have HO5 := Lib.hid ((HO4.out.setOther (N := N3) (fun e => by have := (HO4.out.blk N3 e).1; have := HZ3.out; omega) 2 (.slice x4 c.length y4)).mono (show N3 + 1 ≤ W3.heap.size from HZ3.out))
  clear k1 k2 k3 f1 f2 f3
  generalize (w4.setCell ⟨N3, 2, none⟩ (.slice x4 c.length y4)) = W5 at HX35 HB5 HBW HO5 ⊢
  have HX15 := Lib.hid (HX1.out.keep HBW.out); have HX25 := Lib.hid (HX2.out.keep HBW.out)
  clear HX34 HO4 HO HB3 HX3 HZ3 HK
  go_wp2
  go_loopw [11, 12] (fun v11 v12 wr => ∃ (k : Nat) (vl' : Value), k ≤ L ∧ v12 = .int .i64 k ∧ v11 = .int .i64 ((k : Int) - ((l.take k).filter (fun x => !loseP fr to any x)).length) ∧ FBox wr N n (.slice al L cl) vc ∧ FBox wr N2 0 (.slice none 0 0) (.slice none 0 0) ∧ FBox wr N3 n vl' (.slice x4 c.length y4) ∧ Own fc 4 38 wr (N3 + 1) vl' ((l.take k).filter (fun x => !loseP fr to any x)) ∧ Own wc 2 40 wr (N3 + 1) (.slice x4 c.length y4) c ∧ Below w.heap.size w wr) (fun _ v12 _ => L - (intOf v12).toNat)
  case atStart => exact ⟨0, _, Nat.zero_le _, rfl, rfl, HX15.out, HX25.out, HX35.out, Own.nil _ _ _, HO5.out, HB5.out⟩
  case round =>
    obtain ⟨k, vl', hk, rfl, rfl, hx1, hx2, hx3, ho1, ho2, hb⟩ := hrel
    obtain ⟨al', cl', rfl⟩ := ho1.slice
    have HY1 := Lib.hid hx1; have HY2 := Lib.hid hx2; have HY3 := Lib.hid hx3; have HP1 := Lib.hid ho1; have HP2 := Lib.hid ho2; have HBr := Lib.hid hb
    have hle : ((l.take k).filter (fun x => !loseP fr to any x)).length ≤ k := Nat.le_trans (List.length_filter_le ..) (List.length_take_le ..)
    obtain ⟨M, hM⟩ : ∃ M, ((l.take k).filter (fun x => !loseP fr to any x)).length = M := ⟨_, rfl⟩
    have HM := Lib.hid hM
    rw [hM] at HP1 HY3 hle ⊢
    clear hx1 hx2 hx3 ho1 ho2 hb hM HX15 HX25 HX35 HO5 HB5 HBW
    by_cases hlt : k < L
    · have hlt' : (k : Int) < L := by omega
      have hk0 : (0 : Int) ≤ k := by omega
      have hi : k < l.length := by rw [HL.out]; exact hlt
      obtain ⟨_, a', cap', he, -, hcell⟩ := HS0.out.keep HBr.out
      obtain ⟨bk, off, hak, hbl, hcell⟩ := hcell (by omega)
      have hax : al = some ⟨bk, off, none⟩ := by injection he with h1 h2 h3; rw [h1, hak]
      obtain ⟨c1, c2, c3, c4⟩ := fcells_at (hcell k hi)
      have HYes := Lib.hid (keep_yes (loseP fr to any) l k hi); have HNo := Lib.hid (keep_no (loseP fr to any) l k hi)
      obtain ⟨x, hx⟩ : ∃ x, l[k] = x := ⟨_, rfl⟩
      rw [hx] at c1 c2 c3 c4 HYes HNo
      obtain ⟨xn, xs, xd, xb⟩ := x
      simp only at c1 c2 c3 c4
      subst hax
      clear he hak hbl hcell hx
      obtain ⟨e1, e2, e3⟩ := HY1.out.cells
      obtain ⟨r, hr⟩ : ∃ r, loseP fr to any ⟨xn, xs, xd, xb⟩ = r := ⟨_, rfl⟩
      have HR := Lib.hid hr
      unfold loseP at hr
      simp only at hr
      cases r with
      | true =>
        simp only [Bool.and_eq_true, Bool.or_eq_true, beq_iff_eq] at hr
        obtain ⟨hd, hany⟩ := hr
        subst hd
        have hwq : True → wrap64 ((k : Int) - M + 1) = ((k + 1 : Nat) : Int) - M := fun _ => by
          rw [IntWalk.wrap64_in _ ⟨by omega, by omega⟩]; push_cast; omega
        cases any with
        | true =>
          clear hany
          go_wp2
          go_roundw
          case rel => exact ⟨k + 1, _, by omega, by go_num, by rw [HYes.out HR.out, HM.out]; go_num, HY1.out, HY2.out, HY3.out, by rw [HYes.out HR.out]; exact HP1.out, HP2.out, HBr.out⟩
          case measure => simp [intOf]; omega
        | false =>
          have hs : xs = fr := by simpa using hany
          subst hs
          clear hany
          go_wp2
          go_roundw
          case rel => exact ⟨k + 1, _, by omega, by go_num, by rw [HYes.out HR.out, HM.out]; go_num, HY1.out, HY2.out, HY3.out, by rw [HYes.out HR.out]; exact HP1.out, HP2.out, HBr.out⟩
          case measure => simp [intOf]; omega
      | false =>
        have hN23 : N2 < N3 ∧ N < N3 := ⟨by have := HX2.out.lt; have := HN3.out; omega, by have := HX1.out.lt; have := HN3.out; omega⟩
        have hne2 : ¬ N2 = N3 := by omega
        have hne1 : ¬ N = N3 := by omega
        have hwq : True → wrap64 ((k : Int) + 1) = ((k + 1 : Nat) : Int) := fun _ => by
          rw [IntWalk.wrap64_in _ ⟨by omega, by omega⟩]; push_cast; omega
        have hbn : Below wr.heap.size wr (wr.drew.alloc (.cells (fc ⟨xn, xs, xd, xb⟩).toArray 38)) := (below_drew (Below.refl _ _)).trans (below_new wr.drew _)
        have HSn := Lib.hid (sl_new fc_len wr.drew ⟨xn, xs, xd, xb⟩ 38 _ rfl)
        have HOa := Lib.hid (HP1.out.below hbn); have HOb := Lib.hid (HP2.out.below hbn)
        have HX3a := Lib.hid (HY3.out.keep hbn); have HX2a := Lib.hid (HY2.out.keep hbn); have HX1a := Lib.hid (HY1.out.keep hbn)
        have HBn := Lib.hid (HBr.out.trans (hbn.mono HBr.out.size))
        have HM1 : Hid (M + 1 ≤ L) := Lib.hid (by omega)
        have HN23 := Lib.hid hN23
        have HSn2 : Hid (N3 + 1 ≤ (wr.drew.alloc (.cells (fc ⟨xn, xs, xd, xb⟩).toArray 38)).heap.size) := Lib.hid (HX3a.out.lt)
        have HTy := Lib.hid (show (40 : Nat) ≠ 38 ∧ (38 : Nat) ≠ 25 by decide)
        obtain ⟨k1, k2, k3⟩ := HY3.out.cells
        obtain ⟨t1, t2, t3⟩ := HY3.out.thaw
        have k4 : (wr.alloc (.cells #[.int .i64 xn, .int .i64 xs, .int .i64 xd, .string xb] 38)).cell? ⟨N3, 1, none⟩ = some (.slice al' M cl') := (HY3.out.keep (below_new wr (.cells #[.int .i64 xn, .int .i64 xs, .int .i64 xd, .string xb] 38))).cells.2.1
        clear hbn hN23
        by_cases hd : xd = to
        · subst hd
          cases any with
          | true => simp at hr
          | false =>
            have hs : ¬ xs = fr := by simpa using hr
            clear hr
            go_upto_region 9 with fail
            go_region_law (refine step_appSl fc_len fc_one (by decide) rfl _ _ 22 rfl (N3 + 1) 38 _ (by rfl) 40 Tryz.underlying22 infoFrm _ _ (by simp [Act.eval]) HOa.out ⟨wr.drew.heap.size, 0, none⟩ 1 1 [⟨xn, xs, xd, xb⟩] (by simp [Act.eval]) HSn.out (by have := HL1.out; have := HM1.out; rw [HM.out]; unfold maxLen; simp; omega) (by have := HL1.out; have := HM1.out; rw [HM.out]; simp; omega) HSn2.out ?_; intro v7 w7 ho7 hk7; obtain ⟨x7, y7, hv7⟩ := ho7.slice; rw [List.length_append, List.length_cons, List.length_nil, Nat.zero_add, HM.out] at hv7; subst hv7; have HX37 := Lib.hid (show FBox w7 N3 n (.slice al' M cl') (.slice x4 c.length y4) from (hk7.below N3 (Nat.lt_succ_self _)).trans HX3a.out); have HX27 := Lib.hid (show FBox w7 N2 0 (.slice none 0 0) (.slice none 0 0) from (hk7.below N2 (Nat.lt_succ_of_lt HN23.out.1)).trans HX2a.out); have HX17 := Lib.hid ((hk7.below N (Nat.lt_succ_of_lt HN23.out.2)).trans HX1a.out); have HBk7 := Lib.hid (show (Value.slice x7 (M + 1) y7).ownBlock ≠ some N3 from fun e => by have := (ho7.blk N3 e).1; omega); have HO17 := Lib.hid ho7; have HO27 := Lib.hid (HOb.out.keptOther hk7 HTy.out.1); have HB7 := Lib.hid (HBn.out.trans (hk7.toBelow.mono (show w.heap.size ≤ N3 + 1 by have := HN.out; have := HN23.out; omega))); clear ho7 hk7 k1 k2 k3 k4 t1 t2 t3; obtain ⟨k1, k2, k3⟩ := HX37.out.cells; obtain ⟨t1, t2, t3⟩ := HX37.out.thaw)
            all_goals
              have HX38 := Lib.hid (HX37.out.set1 (.slice x7 (M + 1) y7))
              have HX28 := Lib.hid (show FBox (w7.setCell ⟨N3, 1, none⟩ (.slice x7 (M + 1) y7)) N2 0 (.slice none 0 0) (.slice none 0 0) from (heap_setCell_other _ _ _ _ hne2).trans HX27.out)
              have HX18 := Lib.hid (show FBox (w7.setCell ⟨N3, 1, none⟩ (.slice x7 (M + 1) y7)) N n (.slice (some ⟨bk, off, none⟩) L cl) vc from (heap_setCell_other _ _ _ _ hne1).trans HX17.out)
              have HO18 := Lib.hid (HO17.out.setOther HBk7.out 1 (.slice x7 (M + 1) y7)); have HO28 := Lib.hid (HO27.out.setOther (N := N3) (fun e => by have := (HO27.out.blk N3 e).1; omega) 1 (.slice x7 (M + 1) y7))
              have HB8 := Lib.hid (HB7.out.setCell (p := ⟨N3, 1, none⟩) (show w.heap.size ≤ N3 by have := HN.out; have := HN23.out; omega) (.slice x7 (M + 1) y7))
              clear k1 k2 k3 t1 t2 t3
              generalize (w7.setCell ⟨N3, 1, none⟩ (.slice x7 (M + 1) y7)) = W8 at HX38 HX28 HX18 HO18 HO28 HB8 ⊢
              go_wp2
              go_roundw
              case rel => exact ⟨k + 1, _, by omega, by go_num, by rw [HNo.out HR.out, List.length_append, HM.out]; go_num, HX18.out, HX28.out, HX38.out, by rw [HNo.out HR.out]; exact HO18.out, HO28.out, HB8.out⟩
              case measure => simp [intOf]; omega
        · clear hr
          go_upto_region 9 with fail
          go_region_law (refine step_appSl fc_len fc_one (by decide) rfl _ _ 22 rfl (N3 + 1) 38 _ (by rfl) 40 Tryz.underlying22 infoFrm _ _ (by simp [Act.eval]) HOa.out ⟨wr.drew.heap.size, 0, none⟩ 1 1 [⟨xn, xs, xd, xb⟩] (by simp [Act.eval]) HSn.out (by have := HL1.out; have := HM1.out; rw [HM.out]; unfold maxLen; simp; omega) (by have := HL1.out; have := HM1.out; rw [HM.out]; simp; omega) HSn2.out ?_; intro v7 w7 ho7 hk7; obtain ⟨x7, y7, hv7⟩ := ho7.slice; rw [List.length_append, List.length_cons, List.length_nil, Nat.zero_add, HM.out] at hv7; subst hv7; have HX37 := Lib.hid (show FBox w7 N3 n (.slice al' M cl') (.slice x4 c.length y4) from (hk7.below N3 (Nat.lt_succ_self _)).trans HX3a.out); have HX27 := Lib.hid (show FBox w7 N2 0 (.slice none 0 0) (.slice none 0 0) from (hk7.below N2 (Nat.lt_succ_of_lt HN23.out.1)).trans HX2a.out); have HX17 := Lib.hid ((hk7.below N (Nat.lt_succ_of_lt HN23.out.2)).trans HX1a.out); have HBk7 := Lib.hid (show (Value.slice x7 (M + 1) y7).ownBlock ≠ some N3 from fun e => by have := (ho7.blk N3 e).1; omega); have HO17 := Lib.hid ho7; have HO27 := Lib.hid (HOb.out.keptOther hk7 HTy.out.1); have HB7 := Lib.hid (HBn.out.trans (hk7.toBelow.mono (show w.heap.size ≤ N3 + 1 by have := HN.out; have := HN23.out; omega))); clear ho7 hk7 k1 k2 k3 k4 t1 t2 t3; obtain ⟨k1, k2, k3⟩ := HX37.out.cells; obtain ⟨t1, t2, t3⟩ := HX37.out.thaw)
          all_goals
            have HX38 := Lib.hid (HX37.out.set1 (.slice x7 (M + 1) y7))
            have HX28 := Lib.hid (show FBox (w7.setCell ⟨N3, 1, none⟩ (.slice x7 (M + 1) y7)) N2 0 (.slice none 0 0) (.slice none 0 0) from (heap_setCell_other _ _ _ _ hne2).trans HX27.out)
            have HX18 := Lib.hid (show FBox (w7.setCell ⟨N3, 1, none⟩ (.slice x7 (M + 1) y7)) N n (.slice (some ⟨bk, off, none⟩) L cl) vc from (heap_setCell_other _ _ _ _ hne1).trans HX17.out)
            have HO18 := Lib.hid (HO17.out.setOther HBk7.out 1 (.slice x7 (M + 1) y7)); have HO28 := Lib.hid (HO27.out.setOther (N := N3) (fun e => by have := (HO27.out.blk N3 e).1; omega) 1 (.slice x7 (M + 1) y7))
            have HB8 := Lib.hid (HB7.out.setCell (p := ⟨N3, 1, none⟩) (show w.heap.size ≤ N3 by have := HN.out; have := HN23.out; omega) (.slice x7 (M + 1) y7))
            clear k1 k2 k3 t1 t2 t3
            generalize (w7.setCell ⟨N3, 1, none⟩ (.slice x7 (M + 1) y7)) = W8 at HX38 HX28 HX18 HO18 HO28 HB8 ⊢
            go_wp2
            go_roundw
            case rel => exact ⟨k + 1, _, by omega, by go_num, by rw [HNo.out HR.out, List.length_append, HM.out]; go_num, HX18.out, HX28.out, HX38.out, by rw [HNo.out HR.out]; exact HO18.out, HO28.out, HB8.out⟩
            case measure => simp [intOf]; omega
    · obtain rfl : k = L := by omega
      have htk : l.take k = l := List.take_of_length_le (by rw [HL.out]; exact Nat.le_refl _)
      rw [htk] at HP1 HM
      have hN23 : N2 < N3 := by have := HX2.out.lt; have := HN3.out; omega
      have HF := Lib.hid (HY2.out.set n (.slice al' M cl') (.slice x4 c.length y4))
      have hwz : w.heap.size ≤ N3 + 1 := by have := HN.out; omega
      have HOf := Lib.hid ((HP1.out.set3 (N := N2) (by omega) (.int .i64 n) (.slice al' M cl') (.slice x4 c.length y4)).mono hwz)
      have HPf := Lib.hid ((HP2.out.set3 (N := N2) (by omega) (.int .i64 n) (.slice al' M cl') (.slice x4 c.length y4)).mono hwz)
      have HBf := Lib.hid (below_set3 HBr.out (show w.heap.size ≤ N2 by have := HN.out; omega) (.int .i64 n) (.slice al' M cl') (.slice x4 c.length y4))
      obtain ⟨e1, e2, e3⟩ := HY1.out.cells
      obtain ⟨k1, k2, k3⟩ := HY3.out.cells
      obtain ⟨g1, g2, g3⟩ := HY2.out.cells
      obtain ⟨f1, f2, f3⟩ := HY2.out.thaw
      clear hN23 hwz htk
      go_wp2
      refine bodyPost_ret (retF2 rfl rfl HF.out) rfl ?_
      rw [HM.out]
      exact ⟨_, _, rfl, HOf.out, HPf.out, HBf.out⟩

end Go.Proofs.YtalnmbfmfeaohaaGreat.flight
