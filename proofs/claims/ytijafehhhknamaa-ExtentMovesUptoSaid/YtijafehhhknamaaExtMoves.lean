/- The law ExtentMoves: any row of takings and givings keeps each sector in one place: for every number of sectors and all numbers the law returns true and leaves its arguments as they were. Conditions: what comes in is of the bulk that the second form bounds. -/
import Derived.Test.YtijafehhhknamaaRows
import Derived.Test.YtijafehhhknamaaExtCount
import Derived.Deep.RegionLaw
import Derived.Maps.AppendAt
namespace Go.Proofs.Ytijafehhhknamaa.ext
open Go.ChangeShapes Go.WideShapes Go.ChangeAt Go.RowKit
open Go.Proofs.Ytijafehhhknamaa.kit Go.Proofs.Ytijafehhhknamaa.own Go.Proofs.Ytijafehhhknamaa.lift
set_option linter.unusedVariables false

/-- 'append' of rows that are read, as a step of a drawn region. -/
theorem step_appSl {α : Type} {enc : α → List Value} {k : Nat} (hk : ∀ x, (enc x).length = k) (h1 : ∀ x, ∀ v ∈ enc x, v.oneCell' = true) (hk0 : 0 < k) {P : Program} {ops : Array Oper} {o : Oper} {a : Act} {w : World} {K : Act → World → Prop} {Q : Exit → Act → World → Prop} {E : Prop} (hgd : o.guard = none) (s x : Operand) (t : TypeId)
    (ho : o.op = .call { callee := .builtin .append, args := #[s, x], argTypes := #[t, t] })
    (B e : Nat) (z : Value) (hz : z.cells.size = k) (bytes : Nat) (ht : P.underlying t = some (.slice e)) (hi : (P.info? e).map (fun i => (i.zero, i.size, i.bytes)) = some (some z, k, bytes))
    (v : Value) (xs : List α) (hs : a.eval s = v) (hown : Own enc k e w B v xs) (ax : Addr) (m cx : Nat) (ys : List α) (hx : a.eval x = .slice (some ax) m cx) (hr : Sl enc k w (.slice (some ax) m cx) ys)
    (h63 : xs.length + ys.length ≤ maxLen) (hb : (xs.length + ys.length) * bytes ≤ 140737488355328) (hB : B ≤ w.heap.size)
    (h : ∀ v' w', Own enc k e w' B v' (xs ++ ys) → Kept B e w w' → K (a.put o.dst v') w') :
    if Region.wanted o (yielded ops a.tmps) = true then Oper.wp P o a w K Q else E := by
  obtain ⟨hl, ax', cx', he, hnil, hc⟩ := hr
  obtain ⟨rfl, rfl, rfl⟩ : ax' = some ax ∧ m = ys.length ∧ cx' = cx := by cases he; exact ⟨rfl, rfl, rfl⟩
  clear he
  obtain ⟨i0, hi, hz0, hz1, hz2⟩ := info_parts hi
  obtain ⟨b, off, spot⟩ := ax
  have news : ∀ (j : Nat) u, (ys.flatMap enc)[j]? = some u → w.cell? ((⟨b, off, spot⟩ : Addr).add j) = some u := by
    intro j u hu
    have hj : j < ys.length * k := by have := (List.getElem?_eq_some_iff.1 hu).1; rwa [flat_len hk] at this
    have hq : j / k < ys.length := (Nat.div_lt_iff_lt_mul hk0).2 hj
    obtain ⟨b', off', e', hlt, hcell⟩ := hc (Nat.lt_of_le_of_lt (Nat.zero_le _) hq)
    cases e'
    have hd : j = (j / k) * k + j % k := (Nat.div_add_mod' j k).symm
    rw [hd, flat_at hk ys (j / k) (j % k) hq (Nat.mod_lt _ hk0)] at hu
    rw [add_plain', hd, ← Nat.add_assoc]
    exact hcell (j / k) hq (j % k) u hu
  have hone : ∀ u ∈ ys.flatMap enc, u.oneCell' = true := by
    intro u hu
    obtain ⟨y, _, hy⟩ := List.mem_flatMap.1 hu
    exact h1 y u hy
  rw [if_pos (by simp [Region.wanted, hgd])]
  obtain ⟨v', w', hr, h2, h3, h4, h5⟩ := run_append_own_at (P := P) w B t o.type e i0 z k bytes ht hi hz0 hz1 hz2 hz hk0 v xs.length (xs.flatMap enc) hown ⟨b, off, spot⟩ ys.length cx' (ys.flatMap enc) (flat_len hk ys) news hone h63 hb hB
  unfold Oper.wp execOp
  simp only [ho, resolve, invoke, builtin, Sem.run_bind, Sem.run_pure, Result.andThen_ok, List.map_toArray, List.map_cons, List.map_nil, hs, hx, hr]
  refine h v' w' ?_ (Kept.grown hB hown h3)
  unfold Own
  rw [List.length_append, List.flatMap_append]
  exact h2
theorem take_err {n : Int} {free : List Wy} (h : (takeE n free).2.2 ≠ 0) : (takeE n free).1 = [] ∧ (takeE n free).2.1 = free := by
  unfold takeE at h ⊢
  split
  · exact ⟨rfl, rfl⟩
  · split
    · exact ⟨rfl, rfl⟩
    · split
      · exact ⟨rfl, rfl⟩
      · rename_i h1 h2 h3
        rw [if_neg h1, if_neg h2, if_neg h3] at h
        exact absurd rfl h
theorem pos0 {t : Int} {xs : List Wy} (h : ∀ x ∈ xs, lieE t x = true) : ∀ x ∈ xs, 0 ≤ x.2 := fun x hx => by have := (lieE_iff t x).1 (h x hx); omega
theorem cnt_len {t : Int} {free tk : List Wy} (hf : FitF t free) (hl : ∀ x ∈ tk, lieE t x = true) (hs : sumE tk ≤ sumE free) : tk.length ≤ 65536 := by
  have h1 := row_sum tk (fun x hx => ((lieE_iff t x).1 (hl x hx)).1)
  have h2 := hf.sum
  omega
theorem HeldAt.mono {W : World} {B B' : Nat} {v : Value} {svs : List SV} {hs : List (List Wy)} (h : HeldAt W B v svs hs) (hB : B' ≤ B) : HeldAt W B' v svs hs := ⟨h.row.mono hB, h.len, h.each⟩
/-- One sector more is seen. -/
theorem seen_step {W : World} {g tn k : Nat} {free : List Wy} {hs : List (List Wy)} (hp : Placed tn free hs) (hat : OwnAt ic 1 3 W g tn (seenF tn ((allS free hs).take k))) (hk : k < (allS free hs).length) :
    ∃ z : Nat, (allS free hs)[k] = (z : Int) ∧ z < tn ∧ W.cell? ⟨g, z, none⟩ = some (.int .i64 0) ∧ W.frozen? ⟨g, z, none⟩ = false ∧ OwnAt ic 1 3 (W.setCell ⟨g, z, none⟩ (.int .i64 1)) g tn (seenF tn ((allS free hs).take (k + 1))) := by
  obtain ⟨z, h1, h2, ⟨h3, h4⟩, h5⟩ := seen_fresh hp k hk
  have c := icells_at hat z h3
  rw [h4] at c
  have s := hat.set1 z h3 1
  rw [h5] at s
  exact ⟨z, h1, h2, c, hat.thaw z, s⟩
/-- How many sectors are told ahead of what is held there. -/
def headS (free : List Wy) (hs : List (List Wy)) (q : Nat) : Nat := (secE free).length + ((hs.take q).flatMap secE).length
theorem headS_zero (free : List Wy) (hs : List (List Wy)) : headS free hs 0 = (secE free).length := by simp [headS]
theorem headS_succ (free : List Wy) (hs : List (List Wy)) (q : Nat) (hq : q < hs.length) : headS free hs (q + 1) = headS free hs q + (secE hs[q]).length := by
  unfold headS
  rw [List.take_succ_eq_append_getElem hq, List.flatMap_append, List.length_append]
  simp
  omega
theorem headS_all (free : List Wy) (hs : List (List Wy)) : headS free hs hs.length = (allS free hs).length := by
  unfold headS allS
  rw [List.take_length, List.length_append]
theorem allS_free (free : List Wy) (hs : List (List Wy)) (k : Nat) (hk : k < (secE free).length) : ∃ h : k < (allS free hs).length, (allS free hs)[k] = (secE free)[k] := by
  have h : k < (allS free hs).length := by unfold allS; rw [List.length_append]; omega
  refine ⟨h, ?_⟩
  simp only [allS]
  rw [List.getElem_append_left hk]
theorem allS_held (free : List Wy) (hs : List (List Wy)) (q k : Nat) (hq : q < hs.length) (hk : k < (secE hs[q]).length) : ∃ h : headS free hs q + k < (allS free hs).length, (allS free hs)[headS free hs q + k] = (secE hs[q])[k] := by
  have e : allS free hs = (secE free ++ (hs.take q).flatMap secE) ++ (secE hs[q] ++ (hs.drop (q + 1)).flatMap secE) := by
    have h1 : hs = hs.take q ++ (hs[q] :: hs.drop (q + 1)) := by rw [← List.drop_eq_getElem_cons hq, List.take_append_drop]
    have h2 : hs.flatMap secE = (hs.take q).flatMap secE ++ (secE hs[q] ++ (hs.drop (q + 1)).flatMap secE) := by
      conv => lhs; rw [h1]
      rw [List.flatMap_append, List.flatMap_cons]
    unfold allS
    rw [h2, List.append_assoc]
  have hl : (secE free ++ (hs.take q).flatMap secE).length = headS free hs q := by rw [List.length_append]; rfl
  have h : headS free hs q + k < (allS free hs).length := by rw [e, List.length_append, hl, List.length_append]; omega
  refine ⟨h, ?_⟩
  have h3 : headS free hs q + k < ((secE free ++ (hs.take q).flatMap secE) ++ (secE hs[q] ++ (hs.drop (q + 1)).flatMap secE)).length := by rw [← e]; exact h
  have h4 : (allS free hs)[headS free hs q + k] = ((secE free ++ (hs.take q).flatMap secE) ++ (secE hs[q] ++ (hs.drop (q + 1)).flatMap secE))[headS free hs q + k]'h3 := by
    congr 1
  rw [h4, List.getElem_append_right (by rw [hl]; omega)]
  rw [List.getElem_append_left (by rw [hl]; omega)]
  congr 1
  rw [hl]; omega
theorem fitF_fit {t : Int} {xs : List Wy} (h : FitF t xs) : fitE t xs = true := (fitE_iff t xs).2 ⟨by simpa [rowE] using h.row, h.lie, h.gap⟩
theorem vcell_at {w : World} {b o : Nat} {x : SV} (h : w.rangeAt b o (vc x)) : w.cell? ⟨b, o, none⟩ = some (.slice x.1 x.2.1 x.2.2) := h 0 _ rfl
/-- One of what is held, as it lies. -/
theorem HeldAt.cell {W : World} {B : Nat} {a : Option Addr} {L cap : Nat} {svs : List SV} {hs : List (List Wy)} (h : HeldAt W B (.slice a L cap) svs hs) (i : Nat) (hi : i < svs.length) : ∃ g, a = some ⟨g, 0, none⟩ ∧ W.cell? ⟨g, i, none⟩ = some (.slice svs[i].1 svs[i].2.1 svs[i].2.2) := by
  rcases h.row.at with ⟨_, h0⟩ | ⟨g, c, e, hB, hat⟩
  · rw [h0] at hi; simp at hi
  · cases e
    have := vcell_at (hat.row vc_len i hi)
    rw [Nat.mul_one] at this
    exact ⟨g, rfl, this⟩

set_option maxHeartbeats 16000000 in
set_option maxRecDepth 100000 in
theorem walkMoves (t : Int) (vl : Value) (ns : List Int) (W : World) (hl : Sl ic 1 W vl ns) (hn : ∀ x ∈ ns, -9223372036854775808 ≤ x ∧ x ≤ 9223372036854775807) (hll : ns.length ≤ 1048576) :
    Calls Try.prog 5 #[.int .i64 t, vl] W fun e w' => e = .returned (.bool true) ∧ Below W.heap.size W w' := by
  have HLs := Lib.hid hl; have HN := Lib.hid hn; have HLl := Lib.hid hll
  obtain ⟨al, cl, rfl⟩ := hl.slice
  clear hl hn hll
  go_enter Try.func5, Try.ntmps5
  go_upto_region 2 with fail
  obtain ⟨tn, h1, h2, h3⟩ : ∃ tn : Nat, 1 ≤ tn ∧ tn ≤ 200 ∧ wrap64 (1 + wrap64 ((IntKind.u64.wrap t).tmod 200)) = (tn : Int) := by
    have h0 : 0 ≤ IntKind.u64.wrap t := by rw [IntKind.wrap_u64]; omega
    rw [Int.tmod_eq_emod_of_nonneg h0]
    generalize IntKind.u64.wrap t = y at h0
    refine ⟨1 + (y % 200).toNat, by omega, by omega, ?_⟩
    unfold wrap64
    omega
  rw [h3]
  have HT1 := Lib.hid h1; have HT2 := Lib.hid h2
  have HRow := Lib.hid (show rowE (tn : Int) = true by simp [rowE]; omega)
  have HPl := Lib.hid (placed_all (t := (tn : Int)) (by omega) (by omega))
  clear h1 h2 h3
  obtain ⟨L, hL⟩ : ∃ L, ns.length = L := ⟨_, rfl⟩
  have HL := Lib.hid hL
  have HLm := Lib.hid HLs.out.1
  have hLm : L ≤ 1048576 := by have := HLl.out; omega
  have HLs1 := Lib.hid hLm
  rw [hL] at HLs HLm ⊢
  clear hL
  go_wp2_with fail
  refine (All_any (tn : Int) _).mono ?_
  rintro e w1 ⟨v1, rfl, ho1, hb1⟩
  have HB1 := Lib.hid hb1; have HO1 := Lib.hid (ho1.mono (Nat.zero_le _))
  clear ho1 hb1
  go_wp2_with fail
  go_loopw [5, 6, 33] (fun vf vh vi wr => ∃ (i : Nat) (free : List Wy) (svs : List SV) (hs : List (List Wy)), i ≤ L ∧ vi = .int .i64 i ∧ OwE wr vf free ∧ HeldAt wr W.heap.size vh svs hs ∧ Placed tn free hs ∧ hs.length ≤ i ∧ (∀ h ∈ hs, h.length ≤ 65536 ∧ (secE h).length ≤ 65536) ∧ Below W.heap.size W wr) (fun _ _ vi _ => L - (intOf vi).toNat)
  case atStart => exact ⟨0, _, [], [], by omega, rfl, HO1.out, HeldAt.nil _ _, HPl.out, Nat.le_refl _, fun h hh => (by cases hh), HB1.out⟩
  case round =>
    obtain ⟨i, free, svs, hs, hi, rfl, ho, hh, hp, hlh, hll, hb⟩ := hrel
    have HLL := Lib.hid hll
    clear hll
    have HO := Lib.hid ho; have HH := Lib.hid hh; have HP := Lib.hid hp; have HLh := Lib.hid hlh; have HB := Lib.hid hb
    obtain ⟨fa, fc, rfl, hfc, hfm⟩ := ho.room
    have HFc := Lib.hid hfc; have HFm := Lib.hid hfm
    obtain ⟨ha, hc, rfl⟩ := hh.row.slice
    clear ho hh hp hlh hb hfc hfm
    by_cases hlt : i < L
    · have hltI : (i : Int) < L := by omega
      have hi0 : (0 : Int) ≤ i := by omega
      have hin : i < ns.length := by rw [HL.out]; exact hlt
      have hs2 : Sl ic 1 wr (.slice al L cl) ns := HLs.out.keep HB.out
      obtain ⟨_, a', cap', he, -, hcell⟩ := hs2
      have he' : al = a' ∧ cl = cap' := by cases he; exact ⟨rfl, rfl⟩
      obtain ⟨rfl, rfl⟩ := he'
      clear he
      obtain ⟨b, off, rfl, hbl, hcell⟩ := hcell (by omega)
      have c1 := icell_at (hcell i hin)
      rw [Nat.mul_one] at c1
      have hnb := HN.out _ (List.getElem_mem hin)
      obtain ⟨x, hx⟩ : ∃ x, ns[i] = x := ⟨_, rfl⟩
      rw [hx] at c1 hnb
      clear hcell hx hin hbl
      obtain ⟨lf, hlf⟩ : ∃ l, free.length = l := ⟨_, rfl⟩
      obtain ⟨lh, hlh⟩ : ∃ l, svs.length = l := ⟨_, rfl⟩
      have HLf := Lib.hid hlf; have HLs2 := Lib.hid hlh
      rw [hlf] at HFc
      rw [hlf, hlh]
      clear hlf hlh
      by_cases hx0 : 0 ≤ x
      · have HFit := Lib.hid HP.out.fit
        have HRd := Lib.hid (HO.out.read wc_len)
        have HTk := Lib.hid (Take_any fa fc free (x % 40) wr HRd.out (by rw [HLf.out]; exact HFc.out) HFm.out HFit.out.fine HFit.out.sum (by have := HFit.out.len; omega))
        rw [HLf.out] at HTk
        have hm : x.tmod 40 = x % 40 := Int.tmod_eq_emod_of_nonneg hx0
        go_upto_region 8 with fail
        clear c1
        go_wp2_with fail
        refine HTk.out.mono ?_
        rintro e w2 ⟨va, vb, rfl, hoa, hob, hb2⟩
        have HB2 := Lib.hid (HB.out.trans (hb2.mono HB.out.size))
        have HOa := Lib.hid (hoa.mono (Nat.zero_le _)); have HOb := Lib.hid (hob.mono (Nat.zero_le _))
        have HH2 := Lib.hid (HH.out.below hb2); have HO2 := Lib.hid (HO.out.below hb2)
        obtain ⟨xa, ya, rfl⟩ := hoa.slice
        obtain ⟨xb, yb, rfl⟩ := hob.slice
        clear hoa hob hb2 hm HTk
        by_cases herr : (takeE (x % 40) free).2.2 = 0
        · have hok : TkOk tn free (x % 40) (takeE (x % 40) free).1 (takeE (x % 40) free).2.1 := by
            have h0 : ¬ x % 40 < 0 := by omega
            have hs : ¬ sumE free < x % 40 := fun h => by rw [takeE, if_neg h0, if_pos h] at herr; cases herr
            exact (take_ok HFit.out h0 hs).2
          have HP2 := Lib.hid (HP.out.take hok)
          have HLL4 : Hid (∀ h ∈ hs ++ [(takeE (x % 40) free).1], h.length ≤ 65536 ∧ (secE h).length ≤ 65536) := Lib.hid (fun h hh => by
            rcases List.mem_append.1 hh with hh | hh
            · exact HLL.out h hh
            · rw [List.mem_singleton.1 hh]
              have h1 := hok.rest
              have h2 := sumE_nonneg _ (pos0 hok.fit.lie)
              have h3 := hok.sum
              have h4 := sec_sum _ (pos0 hok.lie)
              have h5 := HFit.out.sum
              exact ⟨cnt_len HFit.out hok.lie (by omega), by omega⟩)
          simp only [herr]
          obtain ⟨tk, htk⟩ : ∃ tk, (takeE (x % 40) free).1 = tk := ⟨_, rfl⟩
          obtain ⟨lfr, hlf⟩ : ∃ lfr, (takeE (x % 40) free).2.1 = lfr := ⟨_, rfl⟩
          rw [htk, hlf] at HP2
          rw [htk] at HLL4
          rw [htk] at HOa ⊢
          rw [hlf] at HOb ⊢
          clear hok herr htk hlf
          have HFl := Lib.hid (fitF_fit HP2.out.fit)
          obtain ⟨la, hla⟩ : ∃ l, tk.length = l := ⟨_, rfl⟩
          obtain ⟨lb, hlb⟩ : ∃ l, lfr.length = l := ⟨_, rfl⟩
          rw [hla] at HOa ⊢
          rw [hlb] at HOb ⊢
          clear hla hlb
          have HSn := Lib.hid (fun W => sl_new vc_len W ((xa, la, ya) : SV) 22 _ rfl)
          have HHl := Lib.hid (show svs.length ≤ 9223372036854775807 from by have h := HH2.out.row.len; unfold maxLen at h; omega)
          have HBn := Lib.hid (below_new w2 (.cells #[.slice xa la ya] 22))
          have HRw := Lib.hid (HH2.out.row.below HBn.out)
          have HB3 := Lib.hid (HB2.out.trans (HBn.out.mono HB2.out.size))
          rw [HLs2.out] at HRw
          have HLi := Lib.hid (show (svs.length + 1) * 24 ≤ 140737488355328 ∧ svs.length + 1 ≤ maxLen from by have h1 := HH2.out.len; have h2 := HLh.out; have h3 := HLl.out; have h4 := HL.out; unfold maxLen; omega)
          go_wp2_with (at_builtin; refine appSl vc_len vc_one (by decide) rfl (.tmp 50) (.tmp 52) 44 rfl W.heap.size 22 (.slice none 0 0) (by rfl) 24 Try.underlying44 infoSl _ svs rfl HRw.out _ [((xa, la, ya) : SV)] rfl (HSn.out _) HLi.out.2 HLi.out.1 HB3.out.size ?_; intro v4 w4 ho4 hk4)
          have HK4 := Lib.hid ((Kept.of_below HB2.out.size HBn.out).trans hk4)
          have HH4 := Lib.hid (HH2.out.add (sv := (xa, la, ya)) (xs := tk) HK4.out HOa.out ho4)
          have HO4 := Lib.hid (Own.typed HOb.out HK4.out (by decide))
          have HB4 := Lib.hid (HB2.out.trans HK4.out.toBelow)
          have HLh4 := Lib.hid (show (hs ++ [tk]).length ≤ i + 1 by have := HLh.out; rw [List.length_append, List.length_singleton]; omega)
          have HFt := Lib.hid (Fit_any (tn : Int) _ lfr w4 (HO4.out.read wc_len) HP2.out.fit.ok)
          rw [HFl.out] at HFt
          clear ho4 hk4
          refine HFt.out.mono ?_
          rintro e w5 ⟨rfl, hb5⟩
          have HO5 := Lib.hid (HO4.out.below hb5); have HH5 := Lib.hid (HH4.out.below hb5); have HB5 := Lib.hid (HB4.out.trans (hb5.mono HB4.out.size))
          clear hb5
          go_wp2_with fail
          go_roundw
          case rel => exact ⟨i + 1, _, _, _, by omega, by go_num, HO5.out, HH5.out, HP2.out, HLh4.out, HLL4.out, HB5.out⟩
          case measure => simp [intOf]; omega
        · have hE := take_err herr
          obtain ⟨er, her⟩ : ∃ er, (takeE (x % 40) free).2.2 = er := ⟨_, rfl⟩
          rw [her] at herr ⊢
          have hern : True → (er == 0) = false := fun _ => by simp [herr]
          have HLL4 := HLL
          have HFl := Lib.hid (fitF_fit HP.out.fit)
          have HLh4 := Lib.hid (show hs.length ≤ i + 1 by have := HLh.out; omega)
          have HFt := Lib.hid (Fit_any (tn : Int) _ free w2 (HO2.out.read wc_len) HP.out.fit.ok)
          rw [HFl.out, HLf.out] at HFt
          rw [HLf.out] at HO2
          obtain ⟨l1, hl1⟩ : ∃ l, (takeE (x % 40) free).1.length = l := ⟨_, rfl⟩
          obtain ⟨l2, hl2⟩ : ∃ l, (takeE (x % 40) free).2.1.length = l := ⟨_, rfl⟩
          rw [hl1, hl2]
          clear her herr hE hl1 hl2
          go_wp2_with fail
          refine HFt.out.mono ?_
          rintro e w5 ⟨rfl, hb5⟩
          have HO5 := Lib.hid (HO2.out.below hb5); have HH5 := Lib.hid (HH2.out.below hb5); have HB5 := Lib.hid (HB2.out.trans (hb5.mono HB2.out.size))
          clear hb5
          go_wp2_with fail
          go_roundw
          case rel => exact ⟨i + 1, _, _, _, by omega, by go_num, HO5.out, by rw [HLs2.out] at HH5; exact HH5.out, HP.out, HLh4.out, HLL4.out, HB5.out⟩
          case measure => simp [intOf]; omega
      · by_cases hh0 : 0 < lh
        · have hh0I : (0 : Int) < lh := by omega
          have hls : lh ≤ 1048576 := by have h1 := HH.out.len; have h2 := HLh.out; have h3 := HLs2.out; omega
          have hwl : IntKind.u64.wrap (lh : Int) = (lh : Int) := by rw [IntKind.wrap_u64]; omega
          have hlne : ¬ lh = 0 := by omega
          obtain ⟨k, hk, hke⟩ : ∃ k : Nat, k < lh ∧ wrap64 ((IntKind.u64.wrap x).tmod (lh : Int)) = (k : Int) := by
            have h0 : 0 ≤ IntKind.u64.wrap x := by rw [IntKind.wrap_u64]; omega
            rw [Int.tmod_eq_emod_of_nonneg h0]
            generalize IntKind.u64.wrap x = y at h0
            have h1 := Int.emod_nonneg y (show (lh : Int) ≠ 0 by omega)
            have h2 := Int.emod_lt_of_pos y hh0I
            refine ⟨(y % (lh : Int)).toNat, by omega, ?_⟩
            rw [Int.toNat_of_nonneg h1]
            unfold wrap64
            omega
          have hkI : (k : Int) < lh := by omega
          have hk0 : (0 : Int) ≤ k := by omega
          go_upto_region 14 with fail
          rw [hke]
          clear c1 hwl hke
          have hks : k < svs.length := by rw [HLs2.out]; exact hk
          have hkh : k < hs.length := by rw [HH.out.len]; exact hks
          have HHc := Lib.hid HH.out
          rw [← HLs2.out] at hk
          obtain ⟨g, rfl, c2⟩ := HHc.out.cell k hks
          have HEa := Lib.hid (HH.out.each k hkh hks)
          have HFit := Lib.hid HP.out.fit
          have HLi := Lib.hid (HP.out.lie _ (List.getElem_mem hkh))
          have HKl := Lib.hid (HLL.out _ (List.getElem_mem hkh)).1
          have hgv := fun r c h => HP.out.give hkh (r := r) (c := c) h
          have HGv := Lib.hid hgv
          obtain ⟨⟨s1, s2, s3⟩, hsv⟩ : ∃ s, svs[k] = s := ⟨_, rfl⟩
          obtain ⟨bk, hbk⟩ : ∃ s, hs[k] = s := ⟨_, rfl⟩
          rw [hsv] at c2 HEa
          rw [hbk] at HEa HGv HLi HKl
          simp only at c2 HEa
          have HGi := Lib.hid (Give_any (tn : Int) _ _ free bk wr (HO.out.read wc_len) (HEa.out.read wc_len) HRow.out HFit.out.lie (lie_ok HRow.out HLi.out) (by have := HFit.out.len; have := HKl.out; omega))
          have HKs := Lib.hid hks; have HKh := Lib.hid hkh
          rw [HLf.out] at HGi
          clear hgv hsv hbk hks hkh
          go_wp2_with fail
          refine HGi.out.mono ?_
          rintro e w3 ⟨v3, r3, e3, rfl, ho3, hb3, hr3⟩
          obtain ⟨rfl, hp3⟩ := HGv.out _ _ hr3
          have HP3 := Lib.hid hp3
          have HO3 := Lib.hid (ho3.mono (Nat.zero_le _))
          have HB3 := Lib.hid (HB.out.trans (hb3.mono HB.out.size))
          have HH3 := Lib.hid (HHc.out.below hb3)
          have c3 := (hb3.cell (p := ⟨g, k, none⟩) (cell_lt c2)).trans c2
          obtain ⟨x3, y3, rfl⟩ := ho3.slice
          clear ho3 hb3 hr3 hp3 c2 HGi HGv
          have hkk : lh = svs.length := HLs2.out.symm
          obtain ⟨hhc, hhm⟩ : svs.length ≤ hc ∧ hc ≤ maxLen := by
            rcases HH3.out.row.at with ⟨h, _⟩ | ⟨g', c', e, _, hat⟩
            · cases h
            · cases e; exact ⟨hat.le, hat.max⟩
          rw [hkk]
          rw [hkk] at hkI
          have hkc : (k : Int) ≤ hc := by omega
          have hkn : k ≤ hc := by omega
          have hkS : (k : Int) ≤ svs.length := by omega
          have hk1 : (k : Int) + 1 ≤ svs.length := by omega
          have hkw : wrap64 ((k : Int) + 1) = (k : Int) + 1 := by unfold wrap64; omega
          have HLi := Lib.hid (show (([] : List SV).length + (svs.take k).length) * 24 ≤ 140737488355328 ∧ ([] : List SV).length + (svs.take k).length ≤ maxLen ∧ ((svs.take k).length + (svs.drop (k + 1)).length) * 24 ≤ 140737488355328 ∧ (svs.take k).length + (svs.drop (k + 1)).length ≤ maxLen by
            have h1 : (svs.take k).length = k := by rw [List.length_take]; omega
            have h2 : (svs.drop (k + 1)).length = svs.length - (k + 1) := List.length_drop
            rw [h1, h2, List.length_nil]
            unfold maxLen
            omega)
          go_upto_region 18 with fail
          have hkl : k ≤ svs.length := by omega
          have hkl1 : k + 1 ≤ svs.length := by omega
          obtain ⟨k1, hk1e⟩ : ∃ k1, k + 1 = k1 := ⟨_, rfl⟩
          have HK1 := Lib.hid hk1e
          have hwi : IntKind.i64.wrap ((k : Int) + 1) = (k1 : Int) := by rw [IntKind.wrap_i64]; omega
          obtain ⟨AA, hAA, hif⟩ : ∃ A : Addr, (k1 < svs.length → A = ⟨g, 0 + k1 * 1, none⟩) ∧ (if hc = k1 then some (⟨g, 0, none⟩ : Addr) else some ⟨g, k1, none⟩) = some A := by
            by_cases h : hc = k1
            · exact ⟨⟨g, 0, none⟩, fun h2 => by omega, by rw [if_pos h]⟩
            · exact ⟨⟨g, k1, none⟩, fun h2 => by simp, by rw [if_neg h]⟩
          rw [hk1e] at hkl1
          have hk1S : (k1 : Int) ≤ svs.length := by omega
          have hk10 : (0 : Int) ≤ k1 := by omega
          rw [hk1e] at HLi
          clear hk1 hkw hk1e
          --R18
          refine wp_region_any (by kernel_rfl) ?_
          change wpAny _ _ _ _ _ _ _ (World.drew _)
          have HDd := Lib.hid (below_drew (Below.refl w3.heap.size w3))
          have HHd := Lib.hid (HH3.out.below HDd.out)
          have HOd := Lib.hid (HO3.out.below HDd.out)
          have HBd := Lib.hid (HB3.out.trans (HDd.out.mono HB3.out.size))
          generalize w3.drew = wd at HHd HOd HBd ⊢
          clear HDd c3 HH3 HO3 HB3
          have HBn := Lib.hid (below_new wd (.cells #[] 22))
          have HN0 := Lib.hid (own_none (enc := vc) (k := 1) (e := 22) wd wd.heap.size (Nat.le_refl _))
          have HTk := Lib.hid ((sl_take (HHd.out.row.read vc_len) rfl hkl).keep HBn.out)
          have HDr := Lib.hid (fun w5 (hb : Below wd.heap.size wd w5) => sl_drop ((HHd.out.row.read vc_len).keep hb) rfl hkl1 AA hAA)
          refine wpAny_take (i := 1) (oi := { dst := some 78, op := Op.move (Operand.tmp 6), type := 44, pos := "law.go:118", after := #[], guard := none }) (v := ?_) rfl (by kernel_rfl) (by kernel_rfl) (by kernel_rfl) (fun _ _ _ h => h) (Or.inl ⟨by rfl, ?_⟩) ?_
          rotate_left 1
          · intro W
            go_simp
            try with_reducible rfl
          try simp only [Act.put, List.setIfInBounds_toArray, List.set_cons_zero, List.set_cons_succ]
          refine wpAny_take (i := 2) (oi := { dst := some 79, op := Op.move (Operand.tmp 12), type := 3, pos := "law.go:118", after := #[], guard := none }) (v := ?_) rfl (by kernel_rfl) (by kernel_rfl) (by kernel_rfl) (fun _ _ _ h => h) (Or.inl ⟨by rfl, ?_⟩) ?_
          rotate_left 1
          · intro W
            go_simp
            try with_reducible rfl
          try simp only [Act.put, List.setIfInBounds_toArray, List.set_cons_zero, List.set_cons_succ]
          refine wpAny_take (i := 3) (oi := { dst := some 80, op := Op.slice 44 (Operand.tmp 78) none (some (Operand.tmp 79)) none, type := 44, pos := "law.go:118", after := #[{ on := 1, ground := Ground.data }, { on := 2, ground := Ground.data }], guard := none }) (v := ?_) rfl (by kernel_rfl) (by kernel_rfl) (by kernel_rfl) (fun _ _ _ h => h) (Or.inl ⟨by rfl, ?_⟩) ?_
          rotate_left 1
          · intro W
            go_simp
            try with_reducible rfl
          try simp only [Act.put, List.setIfInBounds_toArray, List.set_cons_zero, List.set_cons_succ]
          refine wpAny_take (i := 5) (oi := { dst := some 82, op := Op.move (Operand.tmp 6), type := 44, pos := "law.go:118", after := #[], guard := none }) (v := ?_) rfl (by kernel_rfl) (by kernel_rfl) (by kernel_rfl) (fun _ _ _ h => h) (Or.inl ⟨by rfl, ?_⟩) ?_
          rotate_left 1
          · intro W
            go_simp
            try with_reducible rfl
          try simp only [Act.put, List.setIfInBounds_toArray, List.set_cons_zero, List.set_cons_succ]
          refine wpAny_take (i := 6) (oi := { dst := some 83, op := Op.move (Operand.tmp 12), type := 3, pos := "law.go:118", after := #[], guard := none }) (v := ?_) rfl (by kernel_rfl) (by kernel_rfl) (by kernel_rfl) (fun _ _ _ h => h) (Or.inl ⟨by rfl, ?_⟩) ?_
          rotate_left 1
          · intro W
            go_simp
            try with_reducible rfl
          try simp only [Act.put, List.setIfInBounds_toArray, List.set_cons_zero, List.set_cons_succ]
          refine wpAny_take (i := 7) (oi := { dst := some 84, op := Op.binOp BinOp.add 3 (Operand.tmp 83) (Operand.const (Value.int IntKind.i64 1)) 3, type := 3, pos := "law.go:118", after := #[{ on := 6, ground := Ground.data }], guard := none }) (v := ?_) rfl (by kernel_rfl) (by kernel_rfl) (by kernel_rfl) (fun _ _ _ h => h) (Or.inl ⟨by rfl, ?_⟩) ?_
          rotate_left 1
          · intro W
            go_simp
            try with_reducible rfl
          try simp only [Act.put, List.setIfInBounds_toArray, List.set_cons_zero, List.set_cons_succ]
          refine wpAny_take (i := 8) (oi := { dst := some 85, op := Op.slice 44 (Operand.tmp 82) (some (Operand.tmp 84)) none none, type := 44, pos := "law.go:118", after := #[{ on := 5, ground := Ground.data }, { on := 7, ground := Ground.data }], guard := none }) (v := ?_) rfl (by kernel_rfl) (by kernel_rfl) (by kernel_rfl) (fun _ _ _ h => h) (Or.inl ⟨by rfl, ?_⟩) ?_
          rotate_left 1
          · intro W
            go_simp
            try with_reducible rfl
          try simp only [Act.put, List.setIfInBounds_toArray, List.set_cons_zero, List.set_cons_succ]
          refine wpAny_ready (rs := [0]) (by kernel_rfl) (by simp) ?_
          refine AllReady.cons (o := { dst := some 77, op := Op.buildSlice 44 0 #[], type := 44, pos := "law.go:118", after := #[], guard := none }) rfl (fun K hK => ?_) ?_
          · go_simp
            refine hK _ _ ?_
            try clear hK K
            try simp only [Act.put, List.setIfInBounds_toArray, List.set_cons_zero, List.set_cons_succ]
            refine wpAny_ready (rs := [4]) (by kernel_rfl) (by simp) ?_
            refine AllReady.cons (o := { dst := some 81, op := Op.call { callee := Callee.builtin Builtin.append, args := #[Operand.tmp 77, Operand.tmp 80], argTypes := #[44, 44] }, type := 44, pos := "law.go:118", after := #[{ on := 0, ground := Ground.data }, { on := 3, ground := Ground.data }], guard := none }) rfl (fun K hK => ?_) ?_
            · refine step_appSl vc_len vc_one (by decide) rfl (.tmp 77) (.tmp 80) 44 rfl wd.heap.size 22 (.slice none 0 0) (by rfl) 24 Try.underlying44 infoSl _ [] rfl HN0.out _ _ _ (svs.take k) rfl HTk.out HLi.out.2.1 HLi.out.1 HBn.out.size ?_
              intro v5 w5 ho5 hk5
              have HK5 := Lib.hid ((Kept.of_below (Nat.le_refl _) HBn.out).trans hk5)
              have HDr5 := Lib.hid (HDr.out w5 HK5.out.toBelow)
              have HO5 := Lib.hid ho5
              clear ho5 hk5
              refine hK _ _ ?_
              try clear hK K
              try simp only [Act.put, List.setIfInBounds_toArray, List.set_cons_zero, List.set_cons_succ]
              refine wpAny_ready (rs := [9]) (by kernel_rfl) (by simp) ?_
              refine AllReady.cons (o := { dst := some 86, op := Op.call { callee := Callee.builtin Builtin.append, args := #[Operand.tmp 81, Operand.tmp 85], argTypes := #[44, 44] }, type := 44, pos := "law.go:118", after := #[{ on := 4, ground := Ground.data }, { on := 8, ground := Ground.data }, { on := 4, ground := Ground.chain }], guard := none }) rfl (fun K hK => ?_) ?_
              · refine step_appSl vc_len vc_one (by decide) rfl (.tmp 81) (.tmp 85) 44 rfl wd.heap.size 22 (.slice none 0 0) (by rfl) 24 Try.underlying44 infoSl _ ([] ++ svs.take k) rfl HO5.out _ _ _ (svs.drop k1) rfl HDr5.out HLi.out.2.2.2 HLi.out.2.2.1 HK5.out.size ?_
                intro v6 w6 ho6 hk6
                have HK6 := Lib.hid (HK5.out.trans hk6)
                have HO6 := Lib.hid ho6
                clear ho6 hk6
                refine hK _ _ ?_
                try clear hK K
                try simp only [Act.put, List.setIfInBounds_toArray, List.set_cons_zero, List.set_cons_succ]
                refine wpAny_ready (rs := [10]) (by kernel_rfl) (by simp) ?_
                refine AllReady.cons (o := { dst := some 6, op := Op.assign (Operand.tmp 86), type := 44, pos := "law.go:118", after := #[{ on := 9, ground := Ground.data }, { on := 9, ground := Ground.chain }, { on := 0, ground := Ground.phase }, { on := 1, ground := Ground.phase }, { on := 2, ground := Ground.phase }, { on := 3, ground := Ground.phase }, { on := 4, ground := Ground.phase }, { on := 5, ground := Ground.phase }, { on := 6, ground := Ground.phase }, { on := 7, ground := Ground.phase }, { on := 8, ground := Ground.phase }, { on := 9, ground := Ground.phase }], guard := none }) rfl (fun K hK => ?_) ?_
                · go_simp
                  refine hK _ _ ?_
                  try clear hK K
                  try simp only [Act.put, List.setIfInBounds_toArray, List.set_cons_zero, List.set_cons_succ]
                  refine wpAny_done (by kernel_rfl) ?_ _
                  have HH6 := Lib.hid ((HHd.out.out HK6.out k (by have h := HO6.out; rw [List.nil_append, ← HK1.out] at h; exact h)).mono HBd.out.size)
                  have HF6 := Lib.hid (show OwE w6 (.slice x3 r3.length y3) r3 from Own.typed HOd.out HK6.out (by decide))
                  have HB6 := Lib.hid (HBd.out.trans (HK6.out.toBelow.mono HBd.out.size))
                  have HFl := Lib.hid (fitF_fit HP3.out.fit)
                  have HLh4 := Lib.hid (show (hs.take k ++ hs.drop (k + 1)).length ≤ i + 1 by have := HLh.out; rw [List.length_append, List.length_take, List.length_drop]; omega)
                  have HLL4 : Hid (∀ h ∈ hs.take k ++ hs.drop (k + 1), h.length ≤ 65536 ∧ (secE h).length ≤ 65536) := Lib.hid (fun h hh => by
                    rcases List.mem_append.1 hh with hh | hh
                    · exact HLL.out h (List.mem_of_mem_take hh)
                    · exact HLL.out h (List.mem_of_mem_drop hh))
                  have HFt := Lib.hid (Fit_any (tn : Int) _ r3 w6 (HF6.out.read wc_len) HP3.out.fit.ok)
                  rw [HFl.out] at HFt
                  obtain ⟨a6, l6, c6, rfl⟩ : ∃ a l c, v6 = .slice a l c := by obtain ⟨a, c, h⟩ := HH6.out.row.slice; exact ⟨_, _, _, h⟩
                  obtain ⟨l3, hl3⟩ : ∃ l, r3.length = l := ⟨_, rfl⟩
                  rw [hl3] at HF6 HFt ⊢
                  clear hl3 hwi hif hAA hkl hkl1 hk1S hk10 hhc hhm hkc hkn hkS
                  go_wp2_with fail
                  refine HFt.out.mono ?_
                  rintro e w7 ⟨rfl, hb7⟩
                  have HO7 := Lib.hid (HF6.out.below hb7); have HH7 := Lib.hid (HH6.out.below hb7); have HB7 := Lib.hid (HB6.out.trans (hb7.mono HB6.out.size))
                  clear hb7
                  go_wp2_with fail
                  go_roundw
                  case rel => exact ⟨i + 1, _, _, _, by omega, by go_num, HO7.out, HH7.out, HP3.out, HLh4.out, HLL4.out, HB7.out⟩
                  case measure => simp [intOf]; omega
                exact AllReady.nil
              exact AllReady.nil
            exact AllReady.nil
          exact AllReady.nil
          --R18E
        · have hh0I : ¬ (0 : Int) < lh := by omega
          have HLL4 := HLL
          have HFl := Lib.hid (fitF_fit HP.out.fit)
          have HLh4 := Lib.hid (show hs.length ≤ i + 1 by have := HLh.out; omega)
          have HFt := Lib.hid (Fit_any (tn : Int) _ free wr (HO.out.read wc_len) HP.out.fit.ok)
          rw [HFl.out, HLf.out] at HFt
          rw [HLf.out] at HO
          go_wp2_with fail
          refine HFt.out.mono ?_
          rintro e w5 ⟨rfl, hb5⟩
          have HO5 := Lib.hid (HO.out.below hb5); have HH5 := Lib.hid (HH.out.below hb5); have HB5 := Lib.hid (HB.out.trans (hb5.mono HB.out.size))
          clear hb5
          go_wp2_with fail
          go_roundw
          case rel => exact ⟨i + 1, _, _, _, by omega, by go_num, HO5.out, by rw [HLs2.out] at HH5; exact HH5.out, HP.out, HLh4.out, HLL4.out, HB5.out⟩
          case measure => simp [intOf]; omega
    · obtain rfl : i = L := by omega
      obtain ⟨wA, rfl⟩ : ∃ X, X = wr := ⟨_, rfl⟩
      obtain ⟨w2, hmk, hat, hb2⟩ := made_ints wA tn (by have := HT2.out; omega)
      obtain ⟨g, hg⟩ : ∃ g, wA.heap.size = g := ⟨_, rfl⟩
      have HG := Lib.hid hg
      have hgl := hat.lt
      rw [hg] at hmk hat hgl
      have HAt := Lib.hid (show OwnAt ic 1 3 w2 g tn (seenF tn ((allS free hs).take 0)) by rw [List.take_zero, seenF_nil]; exact hat)
      have HB2 := Lib.hid hb2; have HGl := Lib.hid hgl
      have HF2 := Lib.hid (HO.out.below hb2); have HH2 := Lib.hid (HH.out.below hb2)
      have htn0 : (0 : Int) ≤ tn := by omega
      have HFit := Lib.hid HP.out.fit
      have HSl : Hid (((secE free).length : Int) ≤ 65536) := Lib.hid (by rw [sec_sum _ (pos0 HFit.out.lie)]; exact HFit.out.sum)
      clear hat hb2 hgl hg hlt
      go_upto_region 23 with fail
      clear hmk htn0
      go_wp2_with fail
      refine (Sectors_any _ free w2 (HF2.out.read wc_len) HFit.out.fine (by have := HSl.out; omega)).mono ?_
      rintro e w3 ⟨v3, rfl, ho3, hb3⟩
      have HS3 := Lib.hid (show Own ic 1 3 w3 (g + 1) v3 (secE free) from ho3.mono (by have := HGl.out; omega))
      have HA3 := Lib.hid (HAt.out.block (hb3.block g HGl.out))
      have HB3 := Lib.hid (show Below wA.heap.size wA w3 from HB2.out.trans (hb3.mono HB2.out.size))
      obtain ⟨M, hM⟩ : ∃ M, (secE free).length = M := ⟨_, rfl⟩
      have HM := Lib.hid hM
      obtain ⟨x3, y3, rfl⟩ := ho3.slice
      rw [hM] at HS3 ⊢
      have hMm : M ≤ 65536 := by have := HSl.out; rw [hM] at this; omega
      clear ho3 hb3 hM
      go_wp2_with fail
      go_loopw [97] (fun vi wq => ∃ k : Nat, k ≤ M ∧ vi = .int .i64 k ∧ OwnAt ic 1 3 wq g tn (seenF tn ((allS free hs).take k)) ∧ Own ic 1 3 wq (g + 1) (.slice x3 M y3) (secE free) ∧ Below wA.heap.size wA wq) (fun vi _ => M - (intOf vi).toNat)
      case atStart => exact ⟨0, by omega, rfl, HA3.out, HS3.out, HB3.out⟩
      case round =>
        obtain ⟨wB, rfl⟩ : ∃ X, X = wr := ⟨_, rfl⟩
        obtain ⟨k, hk, rfl, ha, hs4, hb4⟩ := hrel
        have HA4 := Lib.hid ha; have HS4 := Lib.hid hs4; have HB4 := Lib.hid hb4
        by_cases hkM : k < M
        · have hkMI : (k : Int) < M := by omega
          have hk0 : (0 : Int) ≤ k := by omega
          have hkf : k < (secE free).length := by rw [HM.out]; exact hkM
          obtain ⟨hka, hke⟩ := allS_free free hs k hkf
          obtain ⟨z, hz, hzn, d1, d2, hat⟩ := seen_step HP.out ha hka
          rw [hke] at hz
          have hzI : (z : Int) < tn := by omega
          have hz0 : (0 : Int) ≤ z := by omega
          rcases hs4.at with ⟨_, h0⟩ | ⟨h, c, e, hB, hat4⟩
          · rw [h0] at hkf; simp at hkf
          obtain ⟨rfl, rfl⟩ : x3 = some ⟨h, 0, none⟩ ∧ y3 = c := by rw [HM.out] at e; cases e; exact ⟨rfl, rfl⟩
          have c1 := icells_at hat4 k hkf
          rw [hz] at c1
          have HA5 := Lib.hid hat
          have HS5 := Lib.hid (Own.setOther hs4 (N := g) (fun e => Nat.ne_of_gt hB (show h = g by simpa [Value.ownBlock] using e)) z (.int .i64 1))
          have HB5 := Lib.hid (hb4.setCell (p := ⟨g, z, none⟩) (Nat.le_of_eq HG.out) (.int .i64 1))
          clear ha hs4 hb4 hka hke hz hat e hB hat4 hkf
          go_wp2_with fail
          go_roundw
          case rel => exact ⟨k + 1, by omega, by go_num, HA5.out, HS5.out, HB5.out⟩
          case measure => simp [intOf]; omega
        · obtain rfl : k = M := by omega
          have HH4 := Lib.hid (HH.out.below HB4.out)
          have HA4' := Lib.hid (show OwnAt ic 1 3 wB g tn (seenF tn ((allS free hs).take (headS free hs 0))) by rw [headS_zero, HM.out]; exact HA4.out)
          obtain ⟨lh, hlh⟩ : ∃ l, svs.length = l := ⟨_, rfl⟩
          have HLs2 := Lib.hid hlh
          have hls : lh ≤ 1048576 := by have h1 := HH.out.len; have h2 := HLh.out; have h3 := HLs1.out; omega
          rw [hlh]
          clear ha hs4 hb4 hlh hkM
          go_wp2_with fail
          go_loopw [110] (fun vi wq => ∃ q : Nat, q ≤ lh ∧ vi = .int .i64 q ∧ OwnAt ic 1 3 wq g tn (seenF tn ((allS free hs).take (headS free hs q))) ∧ Below wA.heap.size wA wq) (fun vi _ => lh - (intOf vi).toNat)
          case atStart => exact ⟨0, by omega, rfl, HA4'.out, HB4.out⟩
          case round =>
            obtain ⟨wC, rfl⟩ : ∃ X, X = wr := ⟨_, rfl⟩
            obtain ⟨q, hq, rfl, ha, hb4⟩ := hrel
            have HA6 := Lib.hid ha; have HB6 := Lib.hid hb4
            clear ha
            by_cases hqh : q < lh
            · have hqI : (q : Int) < lh := by omega
              have hq0 : (0 : Int) ≤ q := by omega
              have hqs : q < svs.length := by rw [HLs2.out]; exact hqh
              have hqh2 : q < hs.length := by rw [HH.out.len]; exact hqs
              have HH6 := Lib.hid (HH.out.below hb4)
              obtain ⟨gh, rfl, c2⟩ := HH6.out.cell q hqs
              have HEa := Lib.hid (HH6.out.each q hqh2 hqs)
              have HLi := Lib.hid (HP.out.lie _ (List.getElem_mem hqh2))
              have HKl := Lib.hid (HLL.out _ (List.getElem_mem hqh2)).2
              have hAt : ∀ bk, bk = hs[q] → ∀ k (hk : k < (secE bk).length), ∃ h : headS free hs q + k < (allS free hs).length, (allS free hs)[headS free hs q + k] = (secE bk)[k] := fun bk e => by subst e; exact fun k hk => allS_held free hs q k hqh2 hk
              have HSu := Lib.hid (headS_succ free hs q hqh2)
              obtain ⟨⟨s1, s2, s3⟩, hsv⟩ : ∃ s, svs[q] = s := ⟨_, rfl⟩
              obtain ⟨bk, hbk⟩ : ∃ s, hs[q] = s := ⟨_, rfl⟩
              rw [hsv] at c2 HEa
              have HAt := Lib.hid (hAt bk hbk.symm)
              rw [hbk] at HEa HLi HKl HSu
              simp only at c2 HEa
              have HSe := Lib.hid (Sectors_any _ bk wC (HEa.out.read wc_len) (lie_fine HRow.out HLi.out) (by have := HKl.out; omega))
              have HGw := Lib.hid HA6.out.lt
              clear hAt hsv hbk hqs hqh2 hb4
              go_wp2_with fail
              refine HSe.out.mono ?_
              rintro e w7 ⟨v7, rfl, ho7, hb7⟩
              have HS7 := Lib.hid (show Own ic 1 3 w7 (g + 1) v7 (secE bk) from ho7.mono HGw.out)
              have HA7 := Lib.hid (HA6.out.block (hb7.block g HGw.out))
              have HB7 := Lib.hid (HB6.out.trans (hb7.mono HB6.out.size))
              obtain ⟨N, hN⟩ : ∃ N, (secE bk).length = N := ⟨_, rfl⟩
              have HN7 := Lib.hid hN
              obtain ⟨x7, y7, rfl⟩ := ho7.slice
              have hNm : N ≤ 65536 := by rw [← hN]; exact HKl.out
              rw [hN] at HS7 ⊢
              rw [hN] at HSu
              clear ho7 hb7 hN c2
              go_wp2_with fail
              go_loopw [117] (fun vi wp => ∃ k : Nat, k ≤ N ∧ vi = .int .i64 k ∧ OwnAt ic 1 3 wp g tn (seenF tn ((allS free hs).take (headS free hs q + k))) ∧ Own ic 1 3 wp (g + 1) (.slice x7 N y7) (secE bk) ∧ Below wA.heap.size wA wp) (fun vi _ => N - (intOf vi).toNat)
              case atStart => exact ⟨0, by omega, rfl, HA7.out, HS7.out, HB7.out⟩
              case round =>
                obtain ⟨k, hk, rfl, ha, hs4, hb4⟩ := hrel
                have HA4 := Lib.hid ha; have HS4 := Lib.hid hs4; have HB4 := Lib.hid hb4
                by_cases hkM : k < N
                · have hkMI : (k : Int) < N := by omega
                  have hk0 : (0 : Int) ≤ k := by omega
                  have hkf : k < (secE bk).length := by rw [HN7.out]; exact hkM
                  obtain ⟨hka, hke⟩ := HAt.out k hkf
                  obtain ⟨z, hz, hzn, d1, d2, hat⟩ := seen_step HP.out ha hka
                  rw [hke] at hz
                  have hzI : (z : Int) < tn := by omega
                  have hz0 : (0 : Int) ≤ z := by omega
                  rcases hs4.at with ⟨_, h0⟩ | ⟨h, c, e, hB, hat4⟩
                  · rw [h0] at hkf; simp at hkf
                  obtain ⟨rfl, rfl⟩ : x7 = some ⟨h, 0, none⟩ ∧ y7 = c := by rw [HN7.out] at e; cases e; exact ⟨rfl, rfl⟩
                  have c1 := icells_at hat4 k hkf
                  rw [hz] at c1
                  have HA5 := Lib.hid hat
                  have HS5 := Lib.hid (Own.setOther hs4 (N := g) (fun e => Nat.ne_of_gt hB (show h = g by simpa [Value.ownBlock] using e)) z (.int .i64 1))
                  have HB5 := Lib.hid (hb4.setCell (p := ⟨g, z, none⟩) (Nat.le_of_eq HG.out) (.int .i64 1))
                  clear ha hs4 hb4 hka hke hz hat e hB hat4 hkf
                  go_wp2_with fail
                  go_roundw
                  case rel => exact ⟨k + 1, by omega, by go_num, HA5.out, HS5.out, HB5.out⟩
                  case measure => simp [intOf]; omega
                · obtain rfl : k = N := by omega
                  have HA8 := Lib.hid (show OwnAt ic 1 3 wr g tn (seenF tn ((allS free hs).take (headS free hs (q + 1)))) by rw [HSu.out]; exact ha)
                  clear ha hs4 hb4
                  go_wp2_with fail
                  go_roundw
                  case rel => exact ⟨q + 1, by omega, by go_num, HA8.out, HB4.out⟩
                  case measure => simp [intOf]; omega
            · obtain rfl : q = lh := by omega
              have HA8 := Lib.hid (show OwnAt ic 1 3 wC g tn (List.replicate tn 1) by
                have h := HA6.out
                rw [← HLs2.out, ← HH.out.len, headS_all, List.take_length, seenF_full HP.out] at h
                exact h)
              have HT2' := HT2.out
              clear hb4
              go_wp2_with fail
              go_loopw [131] (fun vi wp => ∃ k : Nat, k ≤ tn ∧ vi = .int .i64 k ∧ wp = wC) (fun vi _ => tn - (intOf vi).toNat)
              case atStart => exact ⟨0, by omega, rfl, rfl⟩
              case round =>
                obtain ⟨k, hk, rfl, rfl⟩ := hrel
                by_cases hkM : k < tn
                · have hkMI : (k : Int) < tn := by omega
                  have hk0 : (0 : Int) ≤ k := by omega
                  have hkr : k < (List.replicate tn (1 : Int)).length := by rw [List.length_replicate]; exact hkM
                  have c1 := icells_at HA8.out k hkr
                  rw [List.getElem_replicate] at c1
                  clear hkr
                  go_wp2_with fail
                  go_roundw
                  case rel => exact ⟨k + 1, by omega, by go_num, trivial⟩
                  case measure => simp [intOf]; omega
                · obtain rfl : k = tn := by omega
                  go_wp2_with fail
                  refine (awake_any _).mono ?_
                  rintro e w9 ⟨rfl, hb9⟩
                  have HB9 := Lib.hid (HB.out.trans ((HB6.out.trans (hb9.mono HB6.out.size)).mono HB.out.size))
                  clear hb9
                  go_wp2
                  go_ret
                  exact ⟨rfl, HB9.out⟩

set_option maxRecDepth 100000 in
theorem num_open {H : Type} {enc : TypeId × Value → H} {W : World} {r : Reach} {base : Nat} {v : Value} {d : DataW H} {p : List MemPlace}
    (hval : Value.okWide Try.prog W r base 40 v) (h : DataW.Trod enc Try.prog W 0 (fun _ => true) true 40 v d p) :
    ∃ ns : List Int, Sl ic 1 W v ns ∧ (∀ x ∈ ns, -9223372036854775808 ≤ x ∧ x ≤ 9223372036854775807) ∧ ns.length + 1 ≤ Rows.uptoBulk d := by
  obtain ⟨a0, len, cap, rfl⟩ := okWide_slice Try.underlying40 hval
  obtain ⟨fuel, hf⟩ := h
  rcases open_ints Try.underlying40 Try.underlying3 extCells.2 hf with ⟨hcs, hx⟩ | ⟨a, len', cap', zs, hcs, _, hl, hm, hzl, hx, hcell, hwz⟩
  · simp [Value.cells] at hcs
    obtain ⟨rfl, rfl, rfl⟩ := hcs
    obtain ⟨rfl, rfl⟩ := Prod.mk.inj hx
    exact ⟨[], Sl.nil _, by simp, by simp [Rows.uptoBulk]⟩
  · simp [Value.cells] at hcs
    obtain ⟨rfl, rfl, rfl⟩ := hcs
    simp only [if_true] at hzl
    simp only [Prod.mk.injEq] at hx
    obtain ⟨rfl, rfl⟩ := hx
    have hlen : (zs.take len).length = len := by rw [List.length_take]; omega
    refine ⟨zs.take len, ⟨by rw [hlen]; unfold maxLen at hm; omega, some a, cap, by rw [hlen], (fun h => by cases h), fun hp => ?_⟩, ?_, ?_⟩
    · rw [hlen] at hp
      obtain ⟨b, off, spot⟩ := a
      have c0 := hcell 0 (by omega)
      obtain rfl : spot = none := by simpa [Addr.add] using World.cell?_spot c0
      refine ⟨b, off, rfl, ?_, ?_⟩
      · have := cell?_lt c0
        simpa [Addr.add] using this
      · intro j hj i u hu
        rw [hlen] at hj
        match i, hu with
        | 0, hu =>
          simp [ic] at hu
          subst hu
          have c := hcell j (by omega)
          rw [add_plain'] at c
          rw [Nat.mul_one, Nat.add_zero, c]
          simp [List.getD, show j < zs.length by omega]
        | i + 1, hu => simp [ic] at hu
    · intro x hx
      have := hwz x (List.mem_of_mem_take hx)
      simpa [Lit.wf, IntKind.min, IntKind.max, IntKind.signed, IntKind.bits] using this
    · simp only [Rows.uptoBulk]
      have key : ∀ l : List Int, Rows.uptoBulkAll (lits (H := H) .i64 l) = l.length := by
        intro l
        induction l with
        | nil => rfl
        | cons x l ih => 
          have e : lits (H := H) .i64 (x :: l) = .lit (.int .i64 x) :: lits .i64 l := rfl
          rw [e, Rows.uptoBulkAll, ih, List.length_cons]
          simp [Rows.uptoBulk]
          omega
      rw [key, hlen]
      omega

set_option maxRecDepth 100000 in
theorem liftedMoves (os : Os) (started : os.Started) (H : Type) (enc : TypeId × Value → H) (F : Stop.Interp) :
    ReturnsInHanded {} Try.checked os 5 .any ((Rows.OpenSpec.upto Rows.extentMovesSpec).pre6 enc Try.prog Try.f5 Rows.extentMovesUptoRow.domain false) (((Rows.OpenSpec.upto Rows.extentMovesSpec).at F).post enc Try.prog Try.f5 false true false false) := by
  refine lawUpto (C := Try.checked) (s := Rows.extentMovesSpec) own started (by kernel_rfl) Try.func5
    (OpenSpec.witness (enc := enc) (C := Try.checked) (s := Rows.OpenSpec.upto Rows.extentMovesSpec) (k := Rows.uptoSmall) rfl false ⟨#[], #[.int .i64 0, .slice none 0 0], []⟩ 8 (by kernel_rfl) (by kernel_rfl) (by kernel_rfl)
      (x := ([.lit (.int .i64 0), .nil], [], [])) (by kernel_rfl) rfl (by kernel_rfl)) laidOut (by kernel_rfl) 4 Try.underlying4 (by kernel_rfl) rfl ?_ ?_
  · intro ds hd
    match ds, hd with
    | [_, _], _ => rfl
  · intro W base args ds ps hg hb
    have hA : DataW.TrodAll enc Try.prog W 0 (fun _ => true) true Try.f5.params.toList args.toList ds ps := hg.read
    have hval : ∀ (j : Nat) t v, Try.f5.params[j]? = some t → args[j]? = some v → Value.okWide Try.prog W .any base t v := hg.ok
    rw [Try.params5] at hA hval
    obtain ⟨v0, vs0, d0, ds0, p0, q0, hargs, rfl, rfl, h0, r0⟩ := trodAll_cons hA
    obtain ⟨v1, vs1, d1, ds1, p1, q1, rfl, rfl, rfl, h1, r1⟩ := trodAll_cons r0
    obtain ⟨rfl, rfl, rfl⟩ := trodAll_nil r1
    obtain rfl : args = #[v0, v1] := by cases args; simp_all
    obtain ⟨z0, rfl, rfl, rfl, w0⟩ := open_int Try.underlying3 (hval 0 3 v0 rfl rfl) h0
    obtain ⟨ns, hs, hok, hbulk⟩ := num_open (hval 1 40 v1 rfl rfl) h1
    simp only [Rows.uptoBulkAll] at hb
    exact walkMoves z0 v1 ns W hs hok (by omega)

theorem moves_holds : Rows.ExtentMovesUptoSaid :=
  OpenClaim.holds_of_cond 5 Try.f5 rfl rfl rfl rfl rfl rfl rfl ⟨rfl, rfl, rfl, rfl, rfl⟩ rfl rfl rfl rfl rfl (by kernel_rfl) Try.func5 (by kernel_rfl)
    (of_decide_eq_true (by kernel_rfl)) (by unfold Func.isWrapper; first | (rw [if_pos (by decide +kernel)]; kernel_rfl) | (rw [if_neg (by decide +kernel)]; exact ⟨rfl, rfl⟩))
    (fun os started H enc _ F => liftedMoves os started H enc F)

#print axioms moves_holds
end Go.Proofs.Ytijafehhhknamaa.ext
