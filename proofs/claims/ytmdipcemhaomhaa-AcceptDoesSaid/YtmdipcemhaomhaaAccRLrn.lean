/- The document's Learn. -/
import Derived.Test.YtmdipcemhaomhaaRows
import Derived.Test.YtmdipcemhaomhaaAccRPrep
import Derived.Test.YtmdipcemhaomhaaAccLrn
import Derived.Test.YtmdipcemhaomhaaRuleApp
namespace Go.Proofs.Ytmdipcemhaomhaa.crush
open Go.RowKit
open Go.Proofs.Ytmdipcemhaomhaa.kit Go.Proofs.Ytmdipcemhaomhaa.own
set_option linter.unusedVariables false
set_option linter.unusedSimpArgs false

/-- The boxes of the document's Learn: the argument, the result, the copy. -/
structure RLx (w : World) (N M : Nat) (a : AccV) (s : Value) (out : List ByteArray) (vo : Value) (W : World) : Prop where
  hN : N = w.heap.size
  bel : Below w.heap.size w W
  one : ABox W N a.pr a.pm a.has a.ar a.am a.val s
  two : ABox W (N + 1) 0 0 false 0 0 { data := #[] } (.slice none 0 0)
  cp : ABox W M a.pr a.pm a.has a.ar a.am a.val vo
  own : Own tx 1 9 W (N + 1 + 1) vo out
  hM : N + 1 < M
section
variable {w : World} {N M : Nat} {a : AccV} {s : Value} {out : List ByteArray} {vo : Value} {W W' : World}
theorem RLx.keep (h : RLx w N M a s out vo W) (hb : Below W.heap.size W W') : RLx w N M a s out vo W' := ⟨h.hN, h.bel.trans (hb.mono h.bel.size), h.one.keep hb, h.two.keep hb, h.cp.keep hb, h.own.below hb, h.hM⟩
theorem own_not {W : World} {B : Nat} {v : Value} {xs : List ByteArray} (h : Own tx 1 9 W B v xs) {M : Nat} {pr pm : Int} {has : Bool} {ar am : Int} {val : ByteArray} {s : Value} (hM : ABox W M pr pm has ar am val s) : ∀ g, v.ownBlock = some g → g ≠ M := fun g hg e => by
  rcases h.at with ⟨rfl, -⟩ | ⟨g2, cap, rfl, -, hat⟩
  · cases hg
  · cases hg
    obtain ⟨cur, h4, -⟩ := hat.ex
    unfold ABox at hM
    rw [← e, h4] at hM
    cases hM
/-- Behind an append (with the boxes as they were) and the store of the new slice. -/
theorem RLx.grow (h : RLx w N M a s out vo W) {w9 : World} {v9 : Value} {out' : List ByteArray} (ho : Own tx 1 9 w9 (N + 1 + 1) v9 out') (hk : Kept (N + 1 + 1) 9 W w9) : RLx w N M a s out' v9 (w9.setCell ⟨M, 6, none⟩ v9) := by
  have hc : ABox w9 M a.pr a.pm a.has a.ar a.am a.val vo := hk.box (by decide) h.cp
  have h1 := h.hN; have h2 := h.hM
  have oth : ∀ k, k ≠ M → (w9.setCell ⟨M, 6, none⟩ v9).heap[k]? = w9.heap[k]? := fun k hk => heap_setCell_other _ _ _ _ hk
  exact ⟨h.hN, (h.bel.trans (hk.toBelow.mono (by omega))).setCell (p := ⟨M, 6, none⟩) (by show w.heap.size ≤ M; omega) _, ((oth _ (by omega)).trans (hk.below _ (by omega))).trans h.one, ((oth _ (by omega)).trans (hk.below _ (by omega))).trans h.two, hc.row v9, ho.setOther (fun e => own_not ho hc M e rfl) 6 v9, h.hM⟩
end

/-- .. at the end: the result's box and the copy's. -/
structure RLy (w : World) (N M : Nat) (b : AccV) (out : List ByteArray) (vo : Value) (W : World) : Prop where
  hN : N = w.heap.size
  bel : Below w.heap.size w W
  two : ABox W (N + 1) 0 0 false 0 0 { data := #[] } (.slice none 0 0)
  cp : ABox W M b.pr b.pm b.has b.ar b.am b.val vo
  own : Own tx 1 9 W (N + 1 + 1) vo out
  hM : N + 1 < M
theorem RLy.turn {w : World} {N M : Nat} {b : AccV} {out : List ByteArray} {vo : Value} {W : World} (h : RLy w N M b out vo W) (o : Nat) (vs : List Value) {b' : AccV} (hA : ABox (W.setCells M o vs) M b'.pr b'.pm b'.has b'.ar b'.am b'.val vo) : RLy w N M b' out vo (W.setCells M o vs) := by
  have h1 := h.hN; have h2 := h.hM
  exact ⟨h.hN, Below.setCells h.bel (by omega) o vs, (heap_setCells_other M vs o W _ (by omega)).trans h.two, hA, far_block (own_not h.own h.cp) vs o h.own, h.hM⟩

set_option maxHeartbeats 16000000 in
set_option maxRecDepth 100000 in
theorem rLearn_any (v : Value) (a : AccV) (f : Int) (vl : Value) (l : List ByteArray) (w : World) (h : AccR w v a) (hl : a.com.length * 16 ≤ 140737488355328) (hfi : I64 f) (hs : Sl tx 1 w vl l) :
    Calls Try.prog 16 #[v, .int .i64 f, vl] w (LrnS w a f l) := by
  have HCo := Lib.hid (fun u (hu : Below w.heap.size w u) => rCopy_any v a u (h.keep hu) hl)
  have HFv := Lib.hid (fun s u => rValue_any s u)
  have HSl := Lib.hid (fun u (hu : Below w.heap.size w u) => hs.keep hu)
  have HLm := Lib.hid hl
  have hll := hs.1
  obtain ⟨xl, cl, rfl⟩ := hs.slice
  obtain ⟨s, rfl, hsl⟩ := h
  obtain ⟨x, y, rfl⟩ := hsl.slice
  have HX := Lib.hid (two_new w a.pr a.pm a.has a.ar a.am a.val (.slice x a.com.length y))
  unfold AccS at HCo
  obtain ⟨L, hL⟩ : ∃ L, a.com.length = L := ⟨_, rfl⟩
  have HLn := Lib.hid hL
  have hIf2 : -9223372036854775808 ≤ f ∧ f ≤ 9223372036854775807 := hfi
  have hkw : f < 0 ∨ (L : Int) < f ∨ IntKind.i64.wrap ((L : Int) - f) = (L : Int) - f := by
    rw [IntKind.wrap_i64]; omega
  have hbr : (f < 0 ∨ (L : Int) < f) → learnL a f l = [] := fun hb => by unfold learnL; rw [hL, if_pos hb]
  have HPo : Hid ((f < 0 ∨ (L : Int) < f) → ∀ s w', Own tx 1 9 w' w.heap.size s a.com → Below w.heap.size w w' → LrnS w a f l (.returned (.tuple #[a.agg s, .int .i64 0])) w') := Lib.hid (fun hbad s w' ho hb => by
    have hnil := hbr hbad
    have e : learnE a f l = a := by unfold learnE; rw [if_pos hnil]
    exact ⟨s, by rw [e, hnil]; rfl, by rw [e]; exact ho, hb⟩)
  obtain ⟨T, hT⟩ : ∃ T, taken (fromL l ((L : Int) - f)) (4096 - L) = T := ⟨_, rfl⟩
  have hlr : ¬ (f < 0 ∨ (L : Int) < f) → learnL a f l = T := fun hbad => by unfold learnL; rw [hL, if_neg hbad, hT]
  have HP0 : Hid (¬ (f < 0 ∨ (L : Int) < f) → T = [] → ∀ s w', Own tx 1 9 w' w.heap.size s a.com → Below w.heap.size w w' → LrnS w a f l (.returned (.tuple #[a.agg s, .int .i64 0])) w') := Lib.hid (fun hbad h0 s w' ho hb => by
    have e : learnE a f l = a := by unfold learnE; rw [hlr hbad, if_pos h0]
    exact ⟨s, by rw [e, hlr hbad, h0]; rfl, by rw [e]; exact ho, hb⟩)
  have HP1 : Hid (¬ (f < 0 ∨ (L : Int) < f) → T ≠ [] → ∀ s w', Own tx 1 9 w' w.heap.size s (a.com ++ T) → Below w.heap.size w w' → LrnS w a f l (.returned (.tuple #[.agg #[.int .i64 a.pr, .int .i64 a.pm, .bool false, .int .i64 0, .int .i64 0, .string { data := #[] }, s], .int .i64 (T.length : Int)])) w') := Lib.hid (fun hbad h0 s w' ho hb => by
    have e : learnE a f l = { a with has := false, ar := 0, am := 0, val := .empty, com := a.com ++ T } := by unfold learnE; rw [hlr hbad, if_neg h0]
    exact ⟨s, by rw [e, hlr hbad]; rfl, by rw [e]; exact ho, hb⟩)
  have HT : Hid (taken (fromL l ((L : Int) - f)) (4096 - L) = T) := Lib.hid hT
  unfold AccV.agg at HCo HPo HP0 ⊢
  rw [hL] at HX HCo ⊢
  clear hsl hs hl hfi hL hbr hlr hT hIf2
  obtain ⟨pr, pm, has, ar, am, val, com⟩ := a
  simp only at HX HCo HPo HP0 HP1 HLn HLm ⊢
  generalize LrnS w _ f l = Post at HPo HP0 HP1 ⊢
  obtain ⟨LL, hLL⟩ : ∃ LL, l.length = LL := ⟨_, rfl⟩
  have HLL := Lib.hid hLL
  rw [hLL] at HSl hll ⊢
  have HLLm := Lib.hid hll
  have mixed : Try.prog.follows .mixedOrders = true := by kernel_rfl
  clear hLL hll
  go_enter Try.func16, Try.ntmps16
  go_upto_region 1 with fail
  generalize ((w.alloc (.cells #[.int .i64 pr, .int .i64 pm, .bool has, .int .i64 ar, .int .i64 am, .string val, .slice x L y] 26)).alloc (.cells #[.int .i64 0, .int .i64 0, .bool false, .int .i64 0, .int .i64 0, .string { data := #[] }, .slice none 0 0] 26)) = W at HX ⊢
  obtain ⟨c0, c1, c2, c3, c4, c5, c6⟩ := HX.out.one.cells
  go_upto_region 2 with (go_at_call 9; refine (HCo.out _ HX.out.bel).mono ?_; rintro e w5 ⟨v5, rfl, ho, hb⟩; obtain ⟨x5, y5, rfl⟩ := ho.slice; rw [HLn.out] at ho ⊢; have HX5 := Lib.hid (HX.out.keep hb); have HO5 := Lib.hid (ho.mono (show w.heap.size + 1 + 1 ≤ _ from HX.out.two.lt)); clear ho hb c0 c1 c2 c3 c4 c5 c6)
  have hb6 := below_new w5 (.cells #[.int .i64 pr, .int .i64 pm, .bool has, .int .i64 ar, .int .i64 am, .string val, .slice x5 L y5] 26)
  have HR : Hid (RLx w w.heap.size w5.heap.size ⟨pr, pm, has, ar, am, val, com⟩ (.slice x L y) com (.slice x5 L y5) (w5.alloc (.cells #[.int .i64 pr, .int .i64 pm, .bool has, .int .i64 ar, .int .i64 am, .string val, .slice x5 L y5] 26))) := Lib.hid ⟨rfl, HX5.out.bel.trans (hb6.mono HX5.out.bel.size), HX5.out.one.keep hb6, HX5.out.two.keep hb6, abox_new w5 _ _ _ _ _ _ _, HO5.out.below hb6, HX5.out.two.lt⟩
  clear hb6
  generalize w5.alloc _ = W6 at HR ⊢
  generalize w5.heap.size = M at HR ⊢
  have a6 := HR.out.one.cells.2.2.2.2.2.2
  by_cases hbad : f < 0 ∨ (L : Int) < f
  · have HPb := Lib.hid (HPo.out hbad)
    obtain ⟨c0, c1, c2, c3, c4, c5, c6⟩ := HR.out.cp.cells
    simp only at c0 c1 c2 c3 c4 c5 c6
    clear hkw
    by_cases h1 : f < 0
    · clear hbad
      go_wp2_with (refine wpList_store_mid rfl 26 _ _ rfl (w.heap.size + 1) 0 #[.int .i64 pr, .int .i64 pm, .bool has, .int .i64 ar, .int .i64 am, .string val, .slice x5 L y5] rfl rfl HR.out.two.there sizeAcc (acc_one _ _ _ _ _ _ _ _ _) ?_)
      refine bodyPost_ret (ret_cell_tmp rfl rfl (HR.out.two.put pr pm has ar am val (.slice x5 L y5)).range Try.underlying26 rfl sizeAcc) rfl ?_
      exact HPb.out _ _ ((Own.farC (N := w.heap.size + 1) (by omega) _ _ HR.out.own).mono (by omega)) (Below.setCells HR.out.bel (b := w.heap.size + 1) (by omega) 0 _)
    · have h2 : f > (L : Int) := by omega
      clear hbad
      go_wp2_with (refine wpList_store_mid rfl 26 _ _ rfl (w.heap.size + 1) 0 #[.int .i64 pr, .int .i64 pm, .bool has, .int .i64 ar, .int .i64 am, .string val, .slice x5 L y5] rfl rfl HR.out.two.there sizeAcc (acc_one _ _ _ _ _ _ _ _ _) ?_)
      refine bodyPost_ret (ret_cell_tmp rfl rfl (HR.out.two.put pr pm has ar am val (.slice x5 L y5)).range Try.underlying26 rfl sizeAcc) rfl ?_
      exact HPb.out _ _ ((Own.farC (N := w.heap.size + 1) (by omega) _ _ HR.out.own).mono (by omega)) (Below.setCells HR.out.bel (b := w.heap.size + 1) (by omega) 0 _)
  · have hw1 : IntKind.i64.wrap ((L : Int) - f) = (L : Int) - f := by
      rcases hkw with h1 | h1 | h1
      · omega
      · omega
      · exact h1
    have H0 := Lib.hid (HP0.out hbad)
    have H1 := Lib.hid (HP1.out hbad)
    obtain ⟨d, hd⟩ : ∃ d : Nat, (L : Int) - f = d := ⟨((L : Int) - f).toNat, by omega⟩
    have hkw1 : True → IntKind.i64.wrap ((L : Int) - f) = (d : Int) := fun _ => hw1.trans hd
    rw [hd, fromL_some] at HT
    have hf1 : ¬ f < 0 := by omega
    have hf2 : ¬ (L : Int) < f := by omega
    have HDl : Hid ((l.drop d).length = LL - d) := Lib.hid (by rw [List.length_drop, HLL.out])
    obtain ⟨n, hn⟩ : ∃ n, 4096 - L = n := ⟨_, rfl⟩
    have HNn := Lib.hid hn
    rw [hn] at HT
    have HA0 : Hid (RLx w w.heap.size M ⟨pr, pm, has, ar, am, val, com⟩ (.slice x L y) (com ++ (l.drop d).take 0) (.slice x5 L y5) W6) := Lib.hid (by rw [List.take_zero, List.append_nil]; exact HR.out)
    clear hkw hw1 hd hbad HPo HP0 HP1 hn HR
    go_wp2
    clear hkw1 hf1 hf2 a6
    go_loopw [10, 11] (fun vn vi wr => ∃ (k : Nat) (vo : Value), k ≤ LL - d ∧ vn = .int .i64 k ∧ vi = .int .i64 ((d : Int) + k) ∧ Hid (RLx w w.heap.size M ⟨pr, pm, has, ar, am, val, com⟩ (.slice x L y) (com ++ (l.drop d).take k) vo wr) ∧ Hid (Far1 (l.drop d) n k)) (fun _ vi _ => LL - (intOf vi).toNat)
    case atStart => exact ⟨0, _, by omega, rfl, by simp, HA0, Lib.hid (far1_zero _ _)⟩
    case round =>
      obtain ⟨k, vo, hk, rfl, rfl, HA, HFa⟩ := hrel
      by_cases hlt : (d : Int) + k < LL
      · have hk2 : k < (l.drop d).length := by rw [HDl.out]; omega
        have hi : d + k < l.length := by rw [HLL.out]; omega
        obtain ⟨_, a', cap', he, -, hcell⟩ := HSl.out wr HA.out.bel
        rw [HLL.out] at he
        cases he
        obtain ⟨b, off, rfl, hbl, hcell⟩ := hcell (by omega)
        have d1 := tcell_at (hcell (d + k) hi)
        rw [Nat.mul_one] at d1
        have hx2 : (l.drop d)[k] = l[d + k] := by simp
        have htk : (l.drop d).take (k + 1) = (l.drop d).take k ++ [(l.drop d)[k]] := List.take_succ_eq_append_getElem hk2
        obtain ⟨z, hz⟩ : ∃ z, l[d + k] = z := ⟨_, rfl⟩
        rw [hz] at d1 hx2
        rw [hx2] at htk
        have HTk := Lib.hid htk
        obtain ⟨q, hq⟩ : ∃ q, okTxt z = q := ⟨_, rfl⟩
        have HFz := Lib.hid (fun u => HFv.out z u)
        rw [hq] at HFz
        have HStop : Hid (q = false ∨ n ≤ k → T = (l.drop d).take k) := Lib.hid (fun h => by rw [← HT.out, far1_stop HFa.out hk2 (by rw [hx2, hq]; exact h)])
        have HGo : Hid (q = true → k < n → Far1 (l.drop d) n (k + 1)) := Lib.hid (fun h1 h2 => far1_step HFa.out hk2 (by rw [hx2, hq]; exact h1) h2)
        have hP : (com ++ (l.drop d).take k).length = L + k := by rw [List.length_append, List.length_take, HLn.out]; omega
        have hTl : ((l.drop d).take k).length = k := by rw [List.length_take]; omega
        obtain ⟨ax, cx, rfl⟩ := HA.out.own.slice
        have HPl := Lib.hid hP; have HTl := Lib.hid hTl
        rw [hP] at HA
        obtain ⟨P, hPp⟩ : ∃ P, L + k = P := ⟨_, rfl⟩
        have HPp := Lib.hid hPp
        rw [hPp] at HA HPl
        have a6 := HA.out.cp.cells.2.2.2.2.2.2
        have hdk : True → ((d : Int) + k).toNat = d + k := fun _ => by omega
        have hdk0 : 0 ≤ (d : Int) + k := by omega
        have HDt : Hid (∀ u, Below w.heap.size w u → u.cell? ⟨b, off + (d + k), none⟩ = some (.string z)) := Lib.hid (fun u hu => by
          obtain ⟨_, a2, cap2, he2, -, hcell2⟩ := HSl.out u hu
          rw [HLL.out] at he2
          cases he2
          obtain ⟨b2, off2, he3, hbl2, hcell2⟩ := hcell2 (by omega)
          cases he3
          have d2 := tcell_at (hcell2 (d + k) hi)
          rw [Nat.mul_one, hz] at d2
          exact d2)
        clear hcell hbl hx2 hz htk hi hk2 hq hP hTl hPp
        cases q with
        | false =>
          have HSt2 := Lib.hid (HStop.out (.inl rfl))
          go_upto_region 12 with (go_at_call 44; refine (HFz.out _).mono ?_; rintro e V ⟨rfl, hb⟩; have HA := Lib.hid (HA.out.keep hb); clear hb a6 d1)
          by_cases hk00 : k = 0
          · obtain ⟨c0, c1, c2, c3, c4, c5, c6⟩ := HA.out.cp.cells
            simp only at c0 c1 c2 c3 c4 c5 c6
            subst hk00
            go_wp2_with (refine wpList_store_mid rfl 26 _ _ rfl (w.heap.size + 1) 0 #[.int .i64 pr, .int .i64 pm, .bool has, .int .i64 ar, .int .i64 am, .string val, .slice ax P cx] rfl rfl HA.out.two.there sizeAcc (acc_one _ _ _ _ _ _ _ _ _) ?_)
            refine bodyPost_ret (ret_cell_tmp rfl rfl (HA.out.two.put pr pm has ar am val (.slice ax P cx)).range Try.underlying26 rfl sizeAcc) rfl ?_
            refine H0.out (by rw [HSt2.out]; rfl) _ _ ?_ (Below.setCells HA.out.bel (b := w.heap.size + 1) (by omega) 0 _)
            have ho := HA.out.own
            rw [List.take_zero, List.append_nil] at ho
            exact (Own.farC (N := w.heap.size + 1) (by omega) _ 0 ho).mono (by omega)
          · have HY : Hid (RLy w w.heap.size M ⟨pr, pm, has, ar, am, val, com⟩ (com ++ (l.drop d).take k) (.slice ax P cx) _) := Lib.hid ⟨HA.out.hN, HA.out.bel, HA.out.two, HA.out.cp, HA.out.own, HA.out.hM⟩
            have hkp : 0 < k := by omega
            have hkp2 : (0 : Int) < (k : Int) := by omega
            have c2 := HY.out.cp.cells.2.2.1
            have f2 := HY.out.cp.thaw 2
            simp only at c2
            go_upto_region 14 with fail
            have HY1 : Hid (RLy w w.heap.size M ⟨pr, pm, false, ar, am, val, com⟩ (com ++ (l.drop d).take k) (.slice ax P cx) (World.setCell _ ⟨M, 2, none⟩ (.bool false))) := Lib.hid (HY.out.turn 2 [.bool false] (b' := ⟨pr, pm, false, ar, am, val, com⟩) (heap_setCells M 26 [.bool false] 2 _ _ HY.out.cp))
            clear c2 f2
            generalize World.setCell _ ⟨M, 2, none⟩ (.bool false) = W1 at HY1 ⊢
            go_upto_region 15 with (refine wpList_store_mid rfl 23 _ _ rfl M 3 #[.int .i64 0, .int .i64 0] rfl rfl (there_at HY1.out.cp.there 3 2 (by omega)) sizeBal (bal_one _ _) ?_)
            have HY2 : Hid (RLy w w.heap.size M ⟨pr, pm, false, 0, 0, val, com⟩ (com ++ (l.drop d).take k) (.slice ax P cx) (W1.setCells M 3 [.int .i64 0, .int .i64 0])) := Lib.hid (HY1.out.turn 3 [.int .i64 0, .int .i64 0] (b' := ⟨pr, pm, false, 0, 0, val, com⟩) (heap_setCells M 26 [.int .i64 0, .int .i64 0] 3 _ _ HY1.out.cp))
            generalize W1.setCells M 3 _ = W2 at HY2 ⊢
            have c5 := HY2.out.cp.cells.2.2.2.2.2.1
            have f5 := HY2.out.cp.thaw 5
            simp only at c5
            go_upto_region 16 with fail
            have HY3 : Hid (RLy w w.heap.size M ⟨pr, pm, false, 0, 0, { data := #[] }, com⟩ (com ++ (l.drop d).take k) (.slice ax P cx) (W2.setCell ⟨M, 5, none⟩ (.string { data := #[] }))) := Lib.hid (HY2.out.turn 5 [.string { data := #[] }] (b' := ⟨pr, pm, false, 0, 0, { data := #[] }, com⟩) (heap_setCells M 26 [.string { data := #[] }] 5 _ _ HY2.out.cp))
            clear c5 f5
            generalize W2.setCell ⟨M, 5, none⟩ (.string { data := #[] }) = W3 at HY3 ⊢
            obtain ⟨c0, c1, c2, c3, c4, c5, c6⟩ := HY3.out.cp.cells
            simp only at c0 c1 c2 c3 c4 c5 c6
            go_wp2_with (refine wpList_store_mid rfl 26 _ _ rfl (w.heap.size + 1) 0 #[.int .i64 pr, .int .i64 pm, .bool false, .int .i64 0, .int .i64 0, .string { data := #[] }, .slice ax P cx] rfl rfl HY3.out.two.there sizeAcc (acc_one _ _ _ _ _ _ _ _ _) ?_)
            refine bodyPost_ret (ret_cell_tmp rfl rfl (HY3.out.two.put pr pm false 0 0 { data := #[] } (.slice ax P cx)).range Try.underlying26 rfl sizeAcc) rfl ?_
            have hk9 : T.length = k := by rw [HSt2.out]; exact HTl.out
            have h9 := H1.out (fun h => by rw [h] at hk9; simp at hk9; omega) (.slice ax P cx) _ ((Own.farC (N := w.heap.size + 1) (B := w.heap.size + 1 + 1) (by omega) [.int .i64 pr, .int .i64 pm, .bool false, .int .i64 0, .int .i64 0, .string { data := #[] }, .slice ax P cx] 0 (by have ho := HY3.out.own; rw [← HSt2.out] at ho; exact ho)).mono (by omega)) (Below.setCells HY3.out.bel (b := w.heap.size + 1) (by omega) 0 _)
            rw [hk9] at h9
            exact h9
        | true =>
          by_cases hfull : 4096 ≤ (P : Int)
          · have HSt2 := Lib.hid (HStop.out (.inr (by have h1 := HPp.out; have h2 := HNn.out; omega)))
            go_upto_region 12 with (go_at_call 44; refine (HFz.out _).mono ?_; rintro e V ⟨rfl, hb⟩; have HA := Lib.hid (HA.out.keep hb); clear hb a6 d1; have a6 := HA.out.cp.cells.2.2.2.2.2.2)
            clear a6
            by_cases hk00 : k = 0
            · obtain ⟨c0, c1, c2, c3, c4, c5, c6⟩ := HA.out.cp.cells
              simp only at c0 c1 c2 c3 c4 c5 c6
              subst hk00
              go_wp2_with (refine wpList_store_mid rfl 26 _ _ rfl (w.heap.size + 1) 0 #[.int .i64 pr, .int .i64 pm, .bool has, .int .i64 ar, .int .i64 am, .string val, .slice ax P cx] rfl rfl HA.out.two.there sizeAcc (acc_one _ _ _ _ _ _ _ _ _) ?_)
              refine bodyPost_ret (ret_cell_tmp rfl rfl (HA.out.two.put pr pm has ar am val (.slice ax P cx)).range Try.underlying26 rfl sizeAcc) rfl ?_
              refine H0.out (by rw [HSt2.out]; rfl) _ _ ?_ (Below.setCells HA.out.bel (b := w.heap.size + 1) (by omega) 0 _)
              have ho := HA.out.own
              rw [List.take_zero, List.append_nil] at ho
              exact (Own.farC (N := w.heap.size + 1) (by omega) _ 0 ho).mono (by omega)
            · have HY : Hid (RLy w w.heap.size M ⟨pr, pm, has, ar, am, val, com⟩ (com ++ (l.drop d).take k) (.slice ax P cx) _) := Lib.hid ⟨HA.out.hN, HA.out.bel, HA.out.two, HA.out.cp, HA.out.own, HA.out.hM⟩
              have hkp : 0 < k := by omega
              have hkp2 : (0 : Int) < (k : Int) := by omega
              have c2 := HY.out.cp.cells.2.2.1
              have f2 := HY.out.cp.thaw 2
              simp only at c2
              go_upto_region 14 with fail
              have HY1 : Hid (RLy w w.heap.size M ⟨pr, pm, false, ar, am, val, com⟩ (com ++ (l.drop d).take k) (.slice ax P cx) (World.setCell _ ⟨M, 2, none⟩ (.bool false))) := Lib.hid (HY.out.turn 2 [.bool false] (b' := ⟨pr, pm, false, ar, am, val, com⟩) (heap_setCells M 26 [.bool false] 2 _ _ HY.out.cp))
              clear c2 f2
              generalize World.setCell _ ⟨M, 2, none⟩ (.bool false) = W1 at HY1 ⊢
              go_upto_region 15 with (refine wpList_store_mid rfl 23 _ _ rfl M 3 #[.int .i64 0, .int .i64 0] rfl rfl (there_at HY1.out.cp.there 3 2 (by omega)) sizeBal (bal_one _ _) ?_)
              have HY2 : Hid (RLy w w.heap.size M ⟨pr, pm, false, 0, 0, val, com⟩ (com ++ (l.drop d).take k) (.slice ax P cx) (W1.setCells M 3 [.int .i64 0, .int .i64 0])) := Lib.hid (HY1.out.turn 3 [.int .i64 0, .int .i64 0] (b' := ⟨pr, pm, false, 0, 0, val, com⟩) (heap_setCells M 26 [.int .i64 0, .int .i64 0] 3 _ _ HY1.out.cp))
              generalize W1.setCells M 3 _ = W2 at HY2 ⊢
              have c5 := HY2.out.cp.cells.2.2.2.2.2.1
              have f5 := HY2.out.cp.thaw 5
              simp only at c5
              go_upto_region 16 with fail
              have HY3 : Hid (RLy w w.heap.size M ⟨pr, pm, false, 0, 0, { data := #[] }, com⟩ (com ++ (l.drop d).take k) (.slice ax P cx) (W2.setCell ⟨M, 5, none⟩ (.string { data := #[] }))) := Lib.hid (HY2.out.turn 5 [.string { data := #[] }] (b' := ⟨pr, pm, false, 0, 0, { data := #[] }, com⟩) (heap_setCells M 26 [.string { data := #[] }] 5 _ _ HY2.out.cp))
              clear c5 f5
              generalize W2.setCell ⟨M, 5, none⟩ (.string { data := #[] }) = W3 at HY3 ⊢
              obtain ⟨c0, c1, c2, c3, c4, c5, c6⟩ := HY3.out.cp.cells
              simp only at c0 c1 c2 c3 c4 c5 c6
              go_wp2_with (refine wpList_store_mid rfl 26 _ _ rfl (w.heap.size + 1) 0 #[.int .i64 pr, .int .i64 pm, .bool false, .int .i64 0, .int .i64 0, .string { data := #[] }, .slice ax P cx] rfl rfl HY3.out.two.there sizeAcc (acc_one _ _ _ _ _ _ _ _ _) ?_)
              refine bodyPost_ret (ret_cell_tmp rfl rfl (HY3.out.two.put pr pm false 0 0 { data := #[] } (.slice ax P cx)).range Try.underlying26 rfl sizeAcc) rfl ?_
              have hk9 : T.length = k := by rw [HSt2.out]; exact HTl.out
              have h9 := H1.out (fun h => by rw [h] at hk9; simp at hk9; omega) (.slice ax P cx) _ ((Own.farC (N := w.heap.size + 1) (B := w.heap.size + 1 + 1) (by omega) [.int .i64 pr, .int .i64 pm, .bool false, .int .i64 0, .int .i64 0, .string { data := #[] }, .slice ax P cx] 0 (by have ho := HY3.out.own; rw [← HSt2.out] at ho; exact ho)).mono (by omega)) (Below.setCells HY3.out.bel (b := w.heap.size + 1) (by omega) 0 _)
              rw [hk9] at h9
              exact h9
          · go_upto_region 10 with (go_at_call 44; refine (HFz.out _).mono ?_; rintro e V ⟨rfl, hb⟩; have HB9 := Lib.hid hb; have HA := Lib.hid (HA.out.keep hb); clear hb a6 d1; have a6 := HA.out.cp.cells.2.2.2.2.2.2)
            have HA := Lib.hid (HA.out.keep (below_drew (Below.refl _ _)))
            --R10
            have HFull : Hid (P < 4096) := Lib.hid (by omega)
            have HFn := Lib.hid (HGo.out (by first | rfl | trivial) (by have h1 := HPp.out; have h2 := HNn.out; omega))
            have HE9 : Hid (((com ++ (l.drop d).take k) ++ [z]).length = P + 1) := Lib.hid (by rw [List.length_append, HPl.out]; rfl)
            refine wp_region_held_drew (S := fun u => u.cell? ⟨b, off + (d + k), none⟩ = some (.string z)) (by kernel_rfl) (HDt.out _ HA.out.bel) (fun hHeld => ?_)
            generalize World.drew _ = W at *
            refine wpAnyH_take (i := 0) (oi := { dst := some 46, op := Op.fieldAddr 26 (Operand.tmp 8) 4, type := 0, pos := "ref.go:116", after := #[], guard := none }) (v := ?_) rfl (by kernel_rfl) (by kernel_rfl) (by kernel_rfl) (fun _ _ _ h => h) (Or.inl ⟨by rfl, ?_⟩) hHeld ?_
            rotate_left 1
            · intro W hSw
              (try dsimp only at hSw)
              go_simp
              try with_reducible rfl
            try simp only [Act.put, List.setIfInBounds_toArray, List.set_cons_zero, List.set_cons_succ]
            refine wpAnyH_take (i := 2) (oi := { dst := some 48, op := Op.move (Operand.tmp 2), type := 24, pos := "ref.go:116", after := #[], guard := none }) (v := ?_) rfl (by kernel_rfl) (by kernel_rfl) (by kernel_rfl) (fun _ _ _ h => h) (Or.inl ⟨by rfl, ?_⟩) hHeld ?_
            rotate_left 1
            · intro W hSw
              (try dsimp only at hSw)
              go_simp
              try with_reducible rfl
            try simp only [Act.put, List.setIfInBounds_toArray, List.set_cons_zero, List.set_cons_succ]
            refine wpAnyH_take (i := 3) (oi := { dst := some 49, op := Op.move (Operand.tmp 11), type := 2, pos := "ref.go:116", after := #[], guard := none }) (v := ?_) rfl (by kernel_rfl) (by kernel_rfl) (by kernel_rfl) (fun _ _ _ h => h) (Or.inl ⟨by rfl, ?_⟩) hHeld ?_
            rotate_left 1
            · intro W hSw
              (try dsimp only at hSw)
              go_simp
              try with_reducible rfl
            try simp only [Act.put, List.setIfInBounds_toArray, List.set_cons_zero, List.set_cons_succ]
            refine wpAnyH_take (i := 4) (oi := { dst := some 50, op := Op.indexAddr 24 (Operand.tmp 48) (Operand.tmp 49), type := 0, pos := "ref.go:116", after := #[{ on := 2, ground := Ground.data }, { on := 3, ground := Ground.data }], guard := none }) (v := ?_) rfl (by kernel_rfl) (by kernel_rfl) (by kernel_rfl) (fun _ _ _ h => h) (Or.inl ⟨by rfl, ?_⟩) hHeld ?_
            rotate_left 1
            · intro W hSw
              (try dsimp only at hSw)
              go_simp
              try with_reducible rfl
            try simp only [Act.put, List.setIfInBounds_toArray, List.set_cons_zero, List.set_cons_succ]
            refine wpAnyH_take (i := 5) (oi := { dst := some 51, op := Op.load 9 (Operand.tmp 50), type := 9, pos := "ref.go:116", after := #[{ on := 4, ground := Ground.data }], guard := none }) (v := ?_) rfl (by kernel_rfl) (by kernel_rfl) (by kernel_rfl) (fun _ _ _ h => h) (Or.inl ⟨by rfl, ?_⟩) hHeld ?_
            rotate_left 1
            · intro W hSw
              (try dsimp only at hSw)
              go_simp
              try with_reducible rfl
            try simp only [Act.put, List.setIfInBounds_toArray, List.set_cons_zero, List.set_cons_succ]
            refine wpAnyH_ready (rs := [1, 6]) (by kernel_rfl) (by simp) ?_
            refine AllReadyH.cons (o := { dst := some 47, op := Op.load 24 (Operand.tmp 46), type := 24, pos := "ref.go:116", after := #[{ on := 0, ground := Ground.data }], guard := none }) rfl (fun K7 hK7 => ?_) ?_
            · have a6 := HA.out.cp.cells.2.2.2.2.2.2
              go_simp
              clear a6
              refine hK7.out _ _ (HDt.out _ HA.out.bel) (fun hHeld => ?_)
              clear hK7 K7
              try simp only [Act.put, List.setIfInBounds_toArray, List.set_cons_zero, List.set_cons_succ]
              refine wpAnyH_ready (rs := [6]) (by kernel_rfl) (by simp) ?_
              refine AllReadyH.cons (o := { dst := some 52, op := Op.buildSlice 24 1 #[(0, Operand.tmp 51)], type := 24, pos := "ref.go:116", after := #[{ on := 5, ground := Ground.data }], guard := none }) rfl (fun K7 hK7 => ?_) ?_
              · go_simp
                have HS1 := Lib.hid (sl_new tx_len W z 9 _ rfl)
                have HA := Lib.hid (HA.out.keep (below_new W (.cells #[.string z] 9)))
                change Hid (Sl tx 1 (W.alloc (.cells #[.string z] 9)) _ _) at HS1
                generalize W.alloc (.cells #[.string z] 9) = W at HA HS1 ⊢
                skip
                refine hK7.out _ _ (HDt.out _ HA.out.bel) (fun hHeld => ?_)
                clear hK7 K7
                try simp only [Act.put, List.setIfInBounds_toArray, List.set_cons_zero, List.set_cons_succ]
                refine wpAnyH_ready (rs := [7]) (by kernel_rfl) (by simp) ?_
                refine AllReadyH.cons (o := { dst := some 53, op := Op.call { callee := Callee.builtin Builtin.append, args := #[Operand.tmp 47, Operand.tmp 52], argTypes := #[24, 24] }, type := 24, pos := "ref.go:116", after := #[{ on := 1, ground := Ground.data }, { on := 6, ground := Ground.data }], guard := none }) rfl (fun K7 hK7 => ?_) ?_
                · refine step_app1 tx_len tx_one (by decide) _ _ 24 rfl (w.heap.size + 1 + 1) 9 _ (by rfl) 16 Try.underlying24 infoTxt _ (com ++ (l.drop d).take k) rfl HA.out.own _ z rfl HS1.out (by have h1 := HPl.out; have h2 := HFull.out; unfold maxLen; omega) (by have h1 := HPl.out; have h2 := HFull.out; omega) (by have := HA.out.two.lt; omega) ?_
                  intro v9 w9 ho9 hk9 _ _
                  obtain ⟨x9, y9, hv9⟩ := ho9.slice
                  rw [HE9.out] at hv9
                  subst hv9
                  have HO9 := Lib.hid ho9; have HK9 := Lib.hid hk9
                  have HB9' : Hid (Below w.heap.size w w9) := Lib.hid (HA.out.bel.trans (hk9.toBelow.mono (by omega)))
                  have hc9 : ABox w9 M pr pm has ar am val (.slice ax P cx) := hk9.box (by decide) HA.out.cp
                  have e6 := hc9.cells.2.2.2.2.2.2
                  have f6 := hc9.thaw 6
                  clear ho9 hk9 hc9
                  try dsimp only
                  refine hK7.out _ _ (HDt.out _ HB9'.out) (fun hHeld => ?_)
                  clear hK7 K7
                  try simp only [Act.put, List.setIfInBounds_toArray, List.set_cons_zero, List.set_cons_succ]
                  refine wpAnyH_take (i := 8) (oi := { dst := some 54, op := Op.fieldAddr 26 (Operand.tmp 8) 4, type := 0, pos := "ref.go:116", after := #[{ on := 0, ground := Ground.phase }, { on := 1, ground := Ground.phase }, { on := 2, ground := Ground.phase }, { on := 3, ground := Ground.phase }, { on := 4, ground := Ground.phase }, { on := 5, ground := Ground.phase }, { on := 6, ground := Ground.phase }, { on := 7, ground := Ground.phase }], guard := none }) (v := ?_) rfl (by kernel_rfl) (by kernel_rfl) (by kernel_rfl) (fun _ _ _ h => h) (Or.inl ⟨by rfl, ?_⟩) hHeld ?_
                  rotate_left 1
                  · intro W hSw
                    (try dsimp only at hSw)
                    go_simp
                    try with_reducible rfl
                  try simp only [Act.put, List.setIfInBounds_toArray, List.set_cons_zero, List.set_cons_succ]
                  refine wpAnyH_ready (rs := [9]) (by kernel_rfl) (by simp) ?_
                  refine AllReadyH.cons (o := { dst := none, op := Op.store 24 (Operand.tmp 54) (Operand.tmp 53), type := 0, pos := "ref.go:116", after := #[{ on := 8, ground := Ground.data }, { on := 7, ground := Ground.data }, { on := 7, ground := Ground.chain }, { on := 0, ground := Ground.phase }, { on := 1, ground := Ground.phase }, { on := 2, ground := Ground.phase }, { on := 3, ground := Ground.phase }, { on := 4, ground := Ground.phase }, { on := 5, ground := Ground.phase }, { on := 6, ground := Ground.phase }, { on := 7, ground := Ground.phase }], guard := none }) rfl (fun K7 hK7 => ?_) ?_
                  · go_simp
                    have HA := Lib.hid (HA.out.grow HO9.out HK9.out)
                    clear e6 f6
                    generalize w9.setCell ⟨M, 6, none⟩ _ = W at HA ⊢
                    refine hK7.out _ _ (HDt.out _ HA.out.bel) (fun hHeld => ?_)
                    clear hK7 K7
                    try simp only [Act.put, List.setIfInBounds_toArray, List.set_cons_zero, List.set_cons_succ]
                    refine wpAnyH_done (by kernel_rfl) ?_ _
                    clear hHeld
                    have HAn : Hid (RLx w w.heap.size M ⟨pr, pm, has, ar, am, val, com⟩ (.slice x L y) (com ++ (l.drop d).take (k + 1)) (.slice x9 (P + 1) y9) W) := Lib.hid (by rw [HTk.out, ← List.append_assoc]; exact HA.out)
                    go_wp2
                    go_roundw
                    case rel =>
                      have h8 : RowKit.wrap64 ((d : Int) + k + 1) = (d : Int) + k + 1 := IntWalk.wrap64_in _ (by have h9 := HLLm.out; omega)
                      have h7 : RowKit.wrap64 ((k : Int) + 1) = (k : Int) + 1 := IntWalk.wrap64_in _ (by have h9 := HLLm.out; omega)
                      refine ⟨k + 1, _, by omega, by rw [h7]; congr 1, ?_, HAn, HFn⟩
                      rw [h8]
                      congr 1
                    case measure =>
                      have h8 : RowKit.wrap64 ((d : Int) + k + 1) = (d : Int) + k + 1 := IntWalk.wrap64_in _ (by have h9 := HLLm.out; omega)
                      rw [h8]
                      simp only [intOf]
                      omega
                  exact AllReadyH.nil
                exact AllReadyH.nil
              exact AllReadyH.nil
            refine AllReadyH.cons (o := { dst := some 52, op := Op.buildSlice 24 1 #[(0, Operand.tmp 51)], type := 24, pos := "ref.go:116", after := #[{ on := 5, ground := Ground.data }], guard := none }) rfl (fun K7 hK7 => ?_) ?_
            · go_simp
              have HS1 := Lib.hid (sl_new tx_len W z 9 _ rfl)
              have HA := Lib.hid (HA.out.keep (below_new W (.cells #[.string z] 9)))
              change Hid (Sl tx 1 (W.alloc (.cells #[.string z] 9)) _ _) at HS1
              generalize W.alloc (.cells #[.string z] 9) = W at HA HS1 ⊢
              skip
              refine hK7.out _ _ (HDt.out _ HA.out.bel) (fun hHeld => ?_)
              clear hK7 K7
              try simp only [Act.put, List.setIfInBounds_toArray, List.set_cons_zero, List.set_cons_succ]
              refine wpAnyH_ready (rs := [1]) (by kernel_rfl) (by simp) ?_
              refine AllReadyH.cons (o := { dst := some 47, op := Op.load 24 (Operand.tmp 46), type := 24, pos := "ref.go:116", after := #[{ on := 0, ground := Ground.data }], guard := none }) rfl (fun K7 hK7 => ?_) ?_
              · have a6 := HA.out.cp.cells.2.2.2.2.2.2
                go_simp
                clear a6
                refine hK7.out _ _ (HDt.out _ HA.out.bel) (fun hHeld => ?_)
                clear hK7 K7
                try simp only [Act.put, List.setIfInBounds_toArray, List.set_cons_zero, List.set_cons_succ]
                refine wpAnyH_ready (rs := [7]) (by kernel_rfl) (by simp) ?_
                refine AllReadyH.cons (o := { dst := some 53, op := Op.call { callee := Callee.builtin Builtin.append, args := #[Operand.tmp 47, Operand.tmp 52], argTypes := #[24, 24] }, type := 24, pos := "ref.go:116", after := #[{ on := 1, ground := Ground.data }, { on := 6, ground := Ground.data }], guard := none }) rfl (fun K7 hK7 => ?_) ?_
                · refine step_app1 tx_len tx_one (by decide) _ _ 24 rfl (w.heap.size + 1 + 1) 9 _ (by rfl) 16 Try.underlying24 infoTxt _ (com ++ (l.drop d).take k) rfl HA.out.own _ z rfl HS1.out (by have h1 := HPl.out; have h2 := HFull.out; unfold maxLen; omega) (by have h1 := HPl.out; have h2 := HFull.out; omega) (by have := HA.out.two.lt; omega) ?_
                  intro v9 w9 ho9 hk9 _ _
                  obtain ⟨x9, y9, hv9⟩ := ho9.slice
                  rw [HE9.out] at hv9
                  subst hv9
                  have HO9 := Lib.hid ho9; have HK9 := Lib.hid hk9
                  have HB9' : Hid (Below w.heap.size w w9) := Lib.hid (HA.out.bel.trans (hk9.toBelow.mono (by omega)))
                  have hc9 : ABox w9 M pr pm has ar am val (.slice ax P cx) := hk9.box (by decide) HA.out.cp
                  have e6 := hc9.cells.2.2.2.2.2.2
                  have f6 := hc9.thaw 6
                  clear ho9 hk9 hc9
                  try dsimp only
                  refine hK7.out _ _ (HDt.out _ HB9'.out) (fun hHeld => ?_)
                  clear hK7 K7
                  try simp only [Act.put, List.setIfInBounds_toArray, List.set_cons_zero, List.set_cons_succ]
                  refine wpAnyH_take (i := 8) (oi := { dst := some 54, op := Op.fieldAddr 26 (Operand.tmp 8) 4, type := 0, pos := "ref.go:116", after := #[{ on := 0, ground := Ground.phase }, { on := 1, ground := Ground.phase }, { on := 2, ground := Ground.phase }, { on := 3, ground := Ground.phase }, { on := 4, ground := Ground.phase }, { on := 5, ground := Ground.phase }, { on := 6, ground := Ground.phase }, { on := 7, ground := Ground.phase }], guard := none }) (v := ?_) rfl (by kernel_rfl) (by kernel_rfl) (by kernel_rfl) (fun _ _ _ h => h) (Or.inl ⟨by rfl, ?_⟩) hHeld ?_
                  rotate_left 1
                  · intro W hSw
                    (try dsimp only at hSw)
                    go_simp
                    try with_reducible rfl
                  try simp only [Act.put, List.setIfInBounds_toArray, List.set_cons_zero, List.set_cons_succ]
                  refine wpAnyH_ready (rs := [9]) (by kernel_rfl) (by simp) ?_
                  refine AllReadyH.cons (o := { dst := none, op := Op.store 24 (Operand.tmp 54) (Operand.tmp 53), type := 0, pos := "ref.go:116", after := #[{ on := 8, ground := Ground.data }, { on := 7, ground := Ground.data }, { on := 7, ground := Ground.chain }, { on := 0, ground := Ground.phase }, { on := 1, ground := Ground.phase }, { on := 2, ground := Ground.phase }, { on := 3, ground := Ground.phase }, { on := 4, ground := Ground.phase }, { on := 5, ground := Ground.phase }, { on := 6, ground := Ground.phase }, { on := 7, ground := Ground.phase }], guard := none }) rfl (fun K7 hK7 => ?_) ?_
                  · go_simp
                    have HA := Lib.hid (HA.out.grow HO9.out HK9.out)
                    clear e6 f6
                    generalize w9.setCell ⟨M, 6, none⟩ _ = W at HA ⊢
                    refine hK7.out _ _ (HDt.out _ HA.out.bel) (fun hHeld => ?_)
                    clear hK7 K7
                    try simp only [Act.put, List.setIfInBounds_toArray, List.set_cons_zero, List.set_cons_succ]
                    refine wpAnyH_done (by kernel_rfl) ?_ _
                    clear hHeld
                    have HAn : Hid (RLx w w.heap.size M ⟨pr, pm, has, ar, am, val, com⟩ (.slice x L y) (com ++ (l.drop d).take (k + 1)) (.slice x9 (P + 1) y9) W) := Lib.hid (by rw [HTk.out, ← List.append_assoc]; exact HA.out)
                    go_wp2
                    go_roundw
                    case rel =>
                      have h8 : RowKit.wrap64 ((d : Int) + k + 1) = (d : Int) + k + 1 := IntWalk.wrap64_in _ (by have h9 := HLLm.out; omega)
                      have h7 : RowKit.wrap64 ((k : Int) + 1) = (k : Int) + 1 := IntWalk.wrap64_in _ (by have h9 := HLLm.out; omega)
                      refine ⟨k + 1, _, by omega, by rw [h7]; congr 1, ?_, HAn, HFn⟩
                      rw [h8]
                      congr 1
                    case measure =>
                      have h8 : RowKit.wrap64 ((d : Int) + k + 1) = (d : Int) + k + 1 := IntWalk.wrap64_in _ (by have h9 := HLLm.out; omega)
                      rw [h8]
                      simp only [intOf]
                      omega
                  exact AllReadyH.nil
                exact AllReadyH.nil
              exact AllReadyH.nil
            exact AllReadyH.nil
            --R10E
      · have hke : k = (l.drop d).length ∨ LL < d := by rw [HDl.out]; omega
        have HSt2 : Hid (T = (l.drop d).take k) := Lib.hid (by
          rw [← HT.out]
          have hk2 : (l.drop d).length = k := by rw [HDl.out]; omega
          have h9 := HFa.out
          rw [← hk2] at h9 ⊢
          rw [far1_end h9, List.take_length])
        have hP : (com ++ (l.drop d).take k).length = L + k := by rw [List.length_append, List.length_take, HLn.out, HDl.out]; omega
        have HTl : Hid (((l.drop d).take k).length = k) := Lib.hid (by rw [List.length_take, HDl.out]; omega)
        obtain ⟨ax, cx, rfl⟩ := HA.out.own.slice
        rw [hP] at HA
        obtain ⟨P, hPp⟩ : ∃ P, L + k = P := ⟨_, rfl⟩
        rw [hPp] at HA
        clear hke hP hPp
        go_upto_region 12 with fail
        by_cases hk00 : k = 0
        · obtain ⟨c0, c1, c2, c3, c4, c5, c6⟩ := HA.out.cp.cells
          simp only at c0 c1 c2 c3 c4 c5 c6
          subst hk00
          go_wp2_with (refine wpList_store_mid rfl 26 _ _ rfl (w.heap.size + 1) 0 #[.int .i64 pr, .int .i64 pm, .bool has, .int .i64 ar, .int .i64 am, .string val, .slice ax P cx] rfl rfl HA.out.two.there sizeAcc (acc_one _ _ _ _ _ _ _ _ _) ?_)
          refine bodyPost_ret (ret_cell_tmp rfl rfl (HA.out.two.put pr pm has ar am val (.slice ax P cx)).range Try.underlying26 rfl sizeAcc) rfl ?_
          refine H0.out (by rw [HSt2.out]; rfl) _ _ ?_ (Below.setCells HA.out.bel (b := w.heap.size + 1) (by omega) 0 _)
          have ho := HA.out.own
          rw [List.take_zero, List.append_nil] at ho
          exact (Own.farC (N := w.heap.size + 1) (by omega) _ 0 ho).mono (by omega)
        · have HY : Hid (RLy w w.heap.size M ⟨pr, pm, has, ar, am, val, com⟩ (com ++ (l.drop d).take k) (.slice ax P cx) _) := Lib.hid ⟨HA.out.hN, HA.out.bel, HA.out.two, HA.out.cp, HA.out.own, HA.out.hM⟩
          have hkp : 0 < k := by omega
          have hkp2 : (0 : Int) < (k : Int) := by omega
          have c2 := HY.out.cp.cells.2.2.1
          have f2 := HY.out.cp.thaw 2
          simp only at c2
          go_upto_region 14 with fail
          have HY1 : Hid (RLy w w.heap.size M ⟨pr, pm, false, ar, am, val, com⟩ (com ++ (l.drop d).take k) (.slice ax P cx) (World.setCell _ ⟨M, 2, none⟩ (.bool false))) := Lib.hid (HY.out.turn 2 [.bool false] (b' := ⟨pr, pm, false, ar, am, val, com⟩) (heap_setCells M 26 [.bool false] 2 _ _ HY.out.cp))
          clear c2 f2
          generalize World.setCell _ ⟨M, 2, none⟩ (.bool false) = W1 at HY1 ⊢
          go_upto_region 15 with (refine wpList_store_mid rfl 23 _ _ rfl M 3 #[.int .i64 0, .int .i64 0] rfl rfl (there_at HY1.out.cp.there 3 2 (by omega)) sizeBal (bal_one _ _) ?_)
          have HY2 : Hid (RLy w w.heap.size M ⟨pr, pm, false, 0, 0, val, com⟩ (com ++ (l.drop d).take k) (.slice ax P cx) (W1.setCells M 3 [.int .i64 0, .int .i64 0])) := Lib.hid (HY1.out.turn 3 [.int .i64 0, .int .i64 0] (b' := ⟨pr, pm, false, 0, 0, val, com⟩) (heap_setCells M 26 [.int .i64 0, .int .i64 0] 3 _ _ HY1.out.cp))
          generalize W1.setCells M 3 _ = W2 at HY2 ⊢
          have c5 := HY2.out.cp.cells.2.2.2.2.2.1
          have f5 := HY2.out.cp.thaw 5
          simp only at c5
          go_upto_region 16 with fail
          have HY3 : Hid (RLy w w.heap.size M ⟨pr, pm, false, 0, 0, { data := #[] }, com⟩ (com ++ (l.drop d).take k) (.slice ax P cx) (W2.setCell ⟨M, 5, none⟩ (.string { data := #[] }))) := Lib.hid (HY2.out.turn 5 [.string { data := #[] }] (b' := ⟨pr, pm, false, 0, 0, { data := #[] }, com⟩) (heap_setCells M 26 [.string { data := #[] }] 5 _ _ HY2.out.cp))
          clear c5 f5
          generalize W2.setCell ⟨M, 5, none⟩ (.string { data := #[] }) = W3 at HY3 ⊢
          obtain ⟨c0, c1, c2, c3, c4, c5, c6⟩ := HY3.out.cp.cells
          simp only at c0 c1 c2 c3 c4 c5 c6
          go_wp2_with (refine wpList_store_mid rfl 26 _ _ rfl (w.heap.size + 1) 0 #[.int .i64 pr, .int .i64 pm, .bool false, .int .i64 0, .int .i64 0, .string { data := #[] }, .slice ax P cx] rfl rfl HY3.out.two.there sizeAcc (acc_one _ _ _ _ _ _ _ _ _) ?_)
          refine bodyPost_ret (ret_cell_tmp rfl rfl (HY3.out.two.put pr pm false 0 0 { data := #[] } (.slice ax P cx)).range Try.underlying26 rfl sizeAcc) rfl ?_
          have hk9 : T.length = k := by rw [HSt2.out]; exact HTl.out
          have h9 := H1.out (fun h => by rw [h] at hk9; simp at hk9; omega) (.slice ax P cx) _ ((Own.farC (N := w.heap.size + 1) (B := w.heap.size + 1 + 1) (by omega) [.int .i64 pr, .int .i64 pm, .bool false, .int .i64 0, .int .i64 0, .string { data := #[] }, .slice ax P cx] 0 (by have ho := HY3.out.own; rw [← HSt2.out] at ho; exact ho)).mono (by omega)) (Below.setCells HY3.out.bel (b := w.heap.size + 1) (by omega) 0 _)
          rw [hk9] at h9
          exact h9
end Go.Proofs.Ytmdipcemhaomhaa.crush
