/- The document's Rank. -/
import Derived.Test.YtnacobhhgeljoaaRows
import Derived.Test.YtnacobhhgeljoaaCrushRank
import Derived.Test.YtnacobhhgeljoaaCrushRef
import Derived.Test.YtnacobhhgeljoaaCrushLawM
import Derived.Lib.SlBuf
import Derived.Laws.IdiomCopy
namespace Go.Proofs.Ytnacobhhgeljoaa.crush
open Go.RowKit
open Go.Proofs.Ytnacobhhgeljoaa.kit Go.Proofs.Ytnacobhhgeljoaa.own
set_option linter.unusedVariables false

theorem run_copy_k {P : Program} (w : World) (dT sT ty elem : TypeId) (g n dCap : Nat) (a : Addr) (sCap k : Nat) (cs : List Value)
    (hu : P.underlying dT = some (.slice elem)) (hs : (P.info? elem).map (·.size) = some k) (hn : cs.length = n * k)
    (hsrc : ∀ j v, cs[j]? = some v → w.cell? (a.add j) = some v) (hc : ∀ j, j < cs.length → (w.cell? ⟨g, j, none⟩).isSome = true) (hf : ∀ j, j < cs.length → w.frozen? ⟨g, j, none⟩ = false) (h1 : ∀ v ∈ cs, v.oneCell' = true) :
    (Builtin.copy_ #[dT, sT] ty #[.slice (some ⟨g, 0, none⟩) n dCap, .slice (some a) n sCap]).run P w = .ok (goInt n) (w.setCells g 0 cs) := by
  have hl := run_loadCells_list (P := P) w a cs hsrc
  have hst := run_storeCells_cells (P := P) g 0 cs 0 w (by simpa using hc) (by simpa using hf) h1
  cases hq : P.info? elem with
  | none => simp [hq] at hs
  | some i =>
    have hi : i.size = k := by simpa [hq] using hs
    simp [Builtin.copy_, run_underlying hu, Builtin.lenOf, Builtin.firstCells, sizeOf, typeInfo, hq, hi, ← hn, hl, hst]
theorem run_copy_zero {P : Program} (w : World) (dT sT ty elem : TypeId) (d a : Option Addr) (dCap sCap k : Nat) (hu : P.underlying dT = some (.slice elem)) (hs : (P.info? elem).map (·.size) = some k) :
    (Builtin.copy_ #[dT, sT] ty #[.slice d 0 dCap, .slice a 0 sCap]).run P w = .ok (goInt 0) w := by
  cases hq : P.info? elem with
  | none => simp [hq] at hs
  | some i =>
    have hl : ∀ (x : Addr), (loadCells x 0).run P w = .ok #[] w := fun x => by simpa using run_loadCells_list (P := P) w x [] (by simp)
    cases d <;> cases a <;> simp [Builtin.copy_, run_underlying hu, Builtin.lenOf, Builtin.firstCells, sizeOf, typeInfo, hq, storeCells, hl]

theorem made_items (w : World) (n : Nat) (hn : n ≤ 65536) : ∃ w1, (Instr.makeSlice 22 (.int .i64 (n : Nat)) (.int .i64 (n : Nat))).run Try.prog w = .ok (.slice (some ⟨w.heap.size, 0, none⟩) n n) w1 ∧
    (∃ cur, w1.heap[w.heap.size]? = some (.cells cur 33 (0, 0)) ∧ cur.size = n * 2) ∧ Below w.heap.size w w1 := by
  obtain ⟨i0, hi, hz0, hz1, hz2⟩ := info_parts infoItm
  obtain ⟨w1, h1, h2, h3⟩ := run_makeSlice_full (P := Try.prog) w w.heap.size 22 33 i0 _ 2 Try.underlying22 hi hz0 hz1 .i64 .i64 n (by omega) (by rw [hz2]; omega) (by unfold maxLen; omega) (Nat.le_refl _)
  refine ⟨w1, h1, ?_, ⟨h3.os, h3.tape, h3.output, h3.size, fun k hk => h3.block k hk (by simp)⟩⟩
  rcases h2.2 with ⟨e, _⟩ | ⟨g, cap, cur, e, hB, hg, hc, hm, hs, ht⟩
  · cases e
  · cases e
    exact ⟨cur, hg, hs⟩

/-- A row that is written over whole. -/
theorem own_over {w : World} {g n : Nat} {cur : Array Value} {xs : List It} (hg : w.heap[g]? = some (.cells cur 33 (0, 0))) (hs : cur.size = n * 2) (hl : xs.length = n) (hm : n ≤ maxLen) : OwnAt wc 2 33 (w.setCells g 0 (xs.flatMap wc)) g n xs := by
  refine ⟨⟨_, heap_setCells g 33 (xs.flatMap wc) 0 w cur hg, by simpa [setL_len] using hs, ?_⟩, by omega, hm⟩
  have hfl : (xs.flatMap wc).length = n * 2 := by rw [flat_len wc_len, hl]
  apply List.ext_getElem?
  intro t
  rw [List.getElem?_take, setL_at _ _ _ _ (by rw [hfl]; simp [hs]), hfl, hl]
  by_cases ht : t < n * 2
  · rw [if_pos ht, if_pos ⟨by omega, by omega⟩, Nat.sub_zero]
  · rw [if_neg ht, List.getElem?_eq_none (by rw [hfl]; omega)]

set_option maxHeartbeats 16000000 in
set_option maxRecDepth 100000 in
theorem rRank_any (v : Value) (xs : List It) (x : Nat) (r : Int) (ps : List Nat) (hR : Ranked (keys x r xs) ps) (hpl : ps.length ≤ xs.length) (hx : x < 4294967296) (hlx : xs.length ≤ 65536) (w : World) (h : Sl wc 2 w v xs) :
    Calls Try.prog 16 #[v, .int .u32 x, .int .i64 r] w (NumO w (ints ps)) := by
  obtain ⟨a, c, rfl⟩ := h.slice
  obtain ⟨L, hL⟩ : ∃ L, xs.length = L := ⟨_, rfl⟩
  have HL := Lib.hid hL
  rw [hL] at h hlx hpl ⊢
  obtain ⟨w1, hm1, ⟨cur, hm2, hm2'⟩, hm3⟩ := made_items w L hlx
  have hs1 := h.keep hm3
  obtain ⟨w2, hc2, hat, hb2⟩ : ∃ w2, (∀ ty, (Builtin.copy_ #[22, 22] ty #[.slice (some ⟨w.heap.size, 0, none⟩) L L, .slice a L c]).run Try.prog w1 = .ok (.int .i64 (L : Int)) w2) ∧ OwnAt wc 2 33 w2 w.heap.size L xs ∧ Below w.heap.size w w2 := by
    rcases Nat.eq_zero_or_pos L with h0 | h0
    · subst h0
      refine ⟨w1, fun ty => run_copy_zero w1 _ _ ty 33 _ _ _ _ 2 Try.underlying22 sizeItm, ?_, hm3⟩
      obtain rfl : xs = [] := List.eq_nil_of_length_eq_zero hL
      exact ⟨⟨cur, hm2, hm2', by simp⟩, by simp, by simp [maxLen]⟩
    · obtain ⟨_, a', c', he, -, hc⟩ := hs1
      obtain ⟨b, off, e', hbl, hc⟩ := hc (by omega)
      have ha : a = some ⟨b, off, none⟩ := by cases he; exact e'
      subst ha
      refine ⟨w1.setCells w.heap.size 0 (xs.flatMap wc), fun ty => run_copy_k w1 _ _ ty 33 w.heap.size L L ⟨b, off, none⟩ c 2 (xs.flatMap wc) Try.underlying22 sizeItm (by rw [flat_len wc_len, hL]) ?_ ?_ ?_ ?_, own_over hm2 hm2' hL (by unfold maxLen; omega), Below.setCells hm3 (Nat.le_refl _) _ _⟩
      · intro j u hu
        have hj : j < xs.length * 2 := by have := (List.getElem?_eq_some_iff.1 hu).1; rwa [flat_len wc_len] at this
        have hq : j / 2 < xs.length := by omega
        have hd : j = j / 2 * 2 + j % 2 := by omega
        rw [hd, flat_at wc_len xs (j / 2) (j % 2) hq (Nat.mod_lt _ (by decide))] at hu
        rw [add_plain', hd, ← Nat.add_assoc]
        exact hc (j / 2) hq (j % 2) u hu
      · intro j hj
        rw [flat_len wc_len] at hj
        have : j < cur.size := by omega
        simp [World.cell?, hm2, this]
      · intro j hj
        simp [World.frozen?, hm2]
      · intro u hu
        obtain ⟨y, _, hy⟩ := List.mem_flatMap.1 hu
        exact wc_one y u hy
  have HAt := Lib.hid hat; have HB2 := Lib.hid hb2; have HR := Lib.hid hR; have HXl := Lib.hid hx
  have HLx := Lib.hid hlx; have HPl := Lib.hid hpl
  clear h hs1 hat hb2 hm2 hm2' hm3 hL hR hx hlx hpl
  go_enter Try.func16, Try.ntmps16
  go_wp2_with (at_builtin; refine Lib.wpList_copy_run _ rfl _ _ 22 22 rfl _ _ rfl rfl (hc2 _) ?_)
  clear hc2 hm1
  go_loopw [7] (fun vp wr => ∃ (k : Nat) (ls : List It), k ≤ ps.length ∧ ls.length = L ∧ Ranked (keys x r ls) (ps.drop k) ∧ Own ic 1 3 wr w.heap.size vp (ints (ps.take k)) ∧ OwnAt wc 2 33 wr w.heap.size L ls ∧ Below w.heap.size w wr) (fun vp _ => ps.length - lenOfV vp)
  case atStart => exact ⟨0, xs, by omega, HL.out, HR.out, Own.nil _ _ _, HAt.out, HB2.out⟩
  case round =>
    obtain ⟨k, ls, hk, hll, hrk, hown, hat, hbw⟩ := hrel
    have HB := Lib.hid hbw; have HA := Lib.hid hat
    have hsl : Sl wc 2 wr (.slice (some ⟨w.heap.size, 0, none⟩) L L) ls := by
      have h1 := (hat.own (B := 0) wc_len (Nat.zero_le _)).read wc_len
      rw [hll] at h1
      exact h1
    have HCh := Lib.hid (rChoose_any (.slice (some ⟨w.heap.size, 0, none⟩) L L) ls x r HXl.out (by rw [hll]; have := HLx.out; omega) wr hsl)
    unfold chosen at HCh
    have hlen : (ints (ps.take k)).length = k := by rw [ints_len, List.length_take]; omega
    obtain ⟨ax, cx, rfl⟩ := hown.slice
    rw [hlen] at hown ⊢
    have HO := Lib.hid hown
    clear hsl hown hat hbw
    cases hd : ps.drop k with
    | nil =>
      rw [hd] at hrk
      rw [hrk.nil] at HCh
      simp only [Option.getD_none, Option.isSome_none] at HCh
      have hpk : ps.take k = ps := by
        have h1 := List.take_append_drop k ps
        rw [hd, List.append_nil] at h1
        exact h1
      have HO2 : Hid (Own ic 1 3 wr w.heap.size (.slice ax k cx) (ints ps)) := by rw [hpk] at HO; exact HO
      clear hrk hd hpk HO hlen
      go_wp2_with (go_at_call 11; refine HCh.out.mono ?_; rintro e w5 ⟨rfl, hb⟩; have HO5 := Lib.hid ((HO2.out.below hb).read ic_len); have HB5 := Lib.hid (HB.out.trans (hb.mono HB.out.size)); clear hb)
      go_ret
      exact ⟨_, rfl, HO5.out, HB5.out⟩
    | cons p rest =>
      rw [hd] at hrk
      obtain ⟨hpL, hpick, hnext⟩ := hrk.cons
      rw [keys_len, hll] at hpL
      rw [hpick] at HCh
      simp only [Option.getD_some, Option.isSome_some] at HCh
      have hpl2 : p < ls.length := by rw [hll]; exact hpL
      obtain ⟨⟨yi, yw⟩, hy⟩ : ∃ y, ls[p] = y := ⟨_, rfl⟩
      have hk1 : k < ps.length := by
        rcases Nat.lt_or_ge k ps.length with h | h
        · exact h
        · rw [List.drop_of_length_le h] at hd; cases hd
      have hpk : ps[k] = p ∧ ps.drop (k + 1) = rest := by
        rw [List.drop_eq_getElem_cons hk1] at hd
        cases hd
        exact ⟨rfl, rfl⟩
      have HTk : Hid (ints (ps.take (k + 1)) = ints (ps.take k) ++ [(p : Int)]) := Lib.hid (by rw [List.take_succ_eq_append_getElem hk1, hpk.1]; unfold ints; rw [List.map_append]; rfl)
      have HNx : Hid (Ranked (keys x r (ls.set p (yi, 0))) (ps.drop (k + 1))) := Lib.hid (by
        rw [keys_set x r ls p hpl2 yi yw 0 hy, hpk.2]
        have e0 : wtN 0 = 0 := by decide
        rw [e0]
        exact hnext)
      have HLs : Hid ((ls.set p (yi, 0)).length = L) := Lib.hid (by rw [List.length_set]; exact hll)
      have HSet : Hid (∀ W, OwnAt wc 2 33 W w.heap.size L ls → OwnAt wc 2 33 (W.setCell ⟨w.heap.size, p * 2 + 1, none⟩ (.int .i64 0)) w.heap.size L (ls.set p (yi, 0)) ∧ W.cell? ⟨w.heap.size, p * 2 + 1, none⟩ = some (.int .i64 yw) ∧ W.frozen? ⟨w.heap.size, p * 2 + 1, none⟩ = false) := Lib.hid (fun W h => by
        refine ⟨h.setWt p hpl2 yi yw 0 hy, ?_, ?_⟩
        · have h1 := h.row wc_len p hpl2
          rw [hy] at h1
          exact h1 1 _ rfl
        · obtain ⟨cur, c1, -⟩ := h.ex
          simp [World.frozen?, c1])
      have HNb : Hid (∀ W v os, OwnAt wc 2 33 W w.heap.size L ls → Own ic 1 3 W w.heap.size v os → v.ownBlock ≠ some w.heap.size) := Lib.hid (fun W v os h1 h2 e => by
        rcases h2.2 with ⟨rfl, _⟩ | ⟨g, cap, cur, rfl, _, hg, _⟩
        · cases e
        · have eg : g = w.heap.size := by simpa [Value.ownBlock] using e
          subst eg
          obtain ⟨cur2, c1, -⟩ := h1.ex
          rw [c1] at hg
          cases hg)
      generalize ints (ps.take k) = out at HO hlen HTk
      have hpI : (p : Int) < L := by omega
      have hpI0 : (0 : Int) ≤ p := by omega
      have hkb : k ≤ 65536 := by have := HPl.out; have := HLx.out; omega
      have HLen := Lib.hid hlen
      have HK1 := Lib.hid hk1
      clear hrk hd hpick hnext hy hpk hpl2 hlen hpL
      go_upto_region 7 with (go_at_call 11; refine HCh.out.mono ?_; rintro e w5 ⟨rfl, hb⟩; have HO5 := Lib.hid (HO.out.below hb); have HA5 := Lib.hid (HA.out.block (hb.block _ HA.out.lt)); have HB5 := Lib.hid (HB.out.trans (hb.mono HB.out.size)); clear hb)
      have hnew := below_new w5 (.cells #[.int .i64 (p : Int)] 3)
      have HSn : Hid (Sl ic 1 (w5.alloc (.cells #[.int .i64 (p : Int)] 3)) (.slice (some ⟨w5.heap.size, 0, none⟩) 1 1) [(p : Int)]) := Lib.hid (sl_new ic_len w5 (p : Int) 3 _ rfl)
      have HO6 := Lib.hid (HO5.out.below hnew)
      have HA6 := Lib.hid (HA5.out.block (hnew.block _ HA5.out.lt))
      have HB6 := Lib.hid (HB5.out.trans (hnew.mono HB5.out.size))
      clear hnew HO5 HA5 HB5 HO HA
      go_wp2_with (at_builtin; refine appSl ic_len ic_one (by decide) rfl _ _ 30 rfl w.heap.size 3 _ (by rfl) 8 Try.underlying30 infoInt _ out rfl HO6.out _ [(p : Int)] rfl HSn.out (by rw [HLen.out]; unfold maxLen; simp; omega) (by rw [HLen.out]; simp; omega) HB6.out.size ?_; intro v9 w9 ho9 hk9; have HA9 := Lib.hid (HA6.out.kept hk9 (by decide)); obtain ⟨q1, q2, q3⟩ := HSet.out _ HA9.out; have HO9 := Lib.hid (Own.setOther ho9 (HNb.out _ _ _ HA9.out ho9) (p * 2 + 1) (.int .i64 0)); have HA10 := Lib.hid q1; have HB10 := Lib.hid ((HB6.out.trans hk9.toBelow).setCell (p := ⟨w.heap.size, p * 2 + 1, none⟩) (Nat.le_refl _) (.int .i64 0)); have HLv : Hid (lenOfV v9 = k + 1) := Lib.hid (by obtain ⟨ax, cx, e⟩ := ho9.slice; rw [e]; show (out ++ [(p : Int)]).length = _; rw [List.length_append, HLen.out]; rfl); clear ho9 hk9 q1)
      go_roundw
      case rel => exact ⟨k + 1, ls.set p (yi, 0), HK1.out, HLs.out, HNx.out, by rw [HTk.out]; exact HO9.out, HA10.out, HB10.out⟩
      case measure => rw [HLv.out]; show _ < ps.length - k; have := HK1.out; omega
end Go.Proofs.Ytnacobhhgeljoaa.crush
