/- Learn. -/
import Derived.Test.YtmdipcemhaomhaaRows
import Derived.Test.YtmdipcemhaomhaaAccLrnM
import Derived.RangeFuncRecord
import Derived.Stop.RegionWithIn
import Derived.RegionIn
import Derived.Sort.CutIn
import Derived.Shelf.RegionOpen
namespace Go.Proofs.Ytmdipcemhaomhaa.crush
open Go.RowKit
open Go.Proofs.Ytmdipcemhaomhaa.kit Go.Proofs.Ytmdipcemhaomhaa.own Go.Proofs.Ytmdipcemhaomhaa.iter
set_option linter.unusedVariables false
set_option linter.unusedSimpArgs false
attribute [local go_sem] Oper.semAt_some

def LrnRet (N : Nat) (w7 : World) (Post : Ending → World → Prop) (pr pm : Int) (has : Bool) (ar am : Int) (val : ByteArray) (s : Value) : Prop := Post (.returned (.tuple #[.agg #[.int .i64 pr, .int .i64 pm, .bool has, .int .i64 ar, .int .i64 am, .string val, s], .int .i64 0])) (w7.setCells (N + 1) 0 [.int .i64 pr, .int .i64 pm, .bool has, .int .i64 ar, .int .i64 am, .string val, s])
set_option maxHeartbeats 16000000 in
set_option maxRecDepth 100000 in
theorem Learn_any (v : Value) (a : AccV) (f : Int) (vl : Value) (l : List ByteArray) (w : World) (h : AccR w v a) (hl : a.com.length * 16 ≤ 140737488355328) (hfi : I64 f) (hs : Sl tx 1 w vl l) (hcp : ∃ x c, vl = .slice x l.length c ∧ l.length ≤ c) :
    Calls Try.prog 15 #[v, .int .i64 f, vl] w (LrnS w a f l) := by
  have HCo := Lib.hid (fun u (hu : Below w.heap.size w u) => copied_any v a u (h.keep hu) hl)
  have HFv := Lib.hid (fun s u => fitValue_any s u)
  have HCn := Lib.hid (fun v2 b u (hu : AccR u v2 b) => count_any v2 b u hu)
  have HSl := Lib.hid hs; have HCp := Lib.hid hcp; have HLm := Lib.hid hl
  obtain ⟨xl, cl, rfl, -⟩ := hcp
  obtain ⟨s, rfl, hsl⟩ := h
  obtain ⟨x, y, rfl⟩ := hsl.slice
  have HX := Lib.hid (two_new w a.pr a.pm a.has a.ar a.am a.val (.slice x a.com.length y))
  unfold AccS at HCo
  obtain ⟨L, hL⟩ : ∃ L, a.com.length = L := ⟨_, rfl⟩
  have HLn := Lib.hid hL
  have hIf := hfi
  have hIf2 : -9223372036854775808 ≤ f ∧ f ≤ 9223372036854775807 := hfi
  have hkw : f < 0 ∨ (L : Int) < f ∨ IntKind.i64.wrap ((L : Int) - f) = (L : Int) - f := by
    rw [IntKind.wrap_i64]; omega
  by_cases hbad : f < 0 ∨ (L : Int) < f
  · have hnil : learnL a f l = [] := by unfold learnL; rw [hL, if_pos hbad]
    have HPo : Hid (∀ s w', Own tx 1 9 w' w.heap.size s a.com → Below w.heap.size w w' → LrnS w a f l (.returned (.tuple #[a.agg s, .int .i64 0])) w') := Lib.hid (fun s w' ho hb => by
      have e : learnE a f l = a := by unfold learnE; rw [if_pos hnil]
      exact ⟨s, by rw [e, hnil]; rfl, by rw [e]; exact ho, hb⟩)
    unfold AccV.agg at HCo HPo ⊢
    rw [hL] at HX HCo ⊢
    clear hsl hs hl hfi hL hnil hIf hIf2 hkw
    obtain ⟨pr, pm, has, ar, am, val, com⟩ := a
    simp only at HX HCo HPo HLn ⊢
    generalize LrnS w _ f l = Post at HPo ⊢
    obtain ⟨LL, hLL⟩ : ∃ LL, l.length = LL := ⟨_, rfl⟩
    rw [hLL] at ⊢
    have HRd : Hid (∀ u B sl, Own tx 1 9 u B sl com → AccR u (.agg #[.int .i64 pr, .int .i64 pm, .bool has, .int .i64 ar, .int .i64 am, .string val, sl]) ⟨pr, pm, has, ar, am, val, com⟩) := Lib.hid (fun u B sl ho => ⟨sl, rfl, ho.read tx_len⟩)
    clear hLL HSl HCp
    refine (callsIn_wide (n := 0)).1 ?_
    refine callsIn_of_wp_marks Try.func15 rfl trivial ?_ rfl
    simp only [Try.ntmps15, List.size_toArray, List.length_cons, List.length_nil, Nat.reduceAdd, Nat.reduceSub, Array.replicate_succ, Array.replicate_zero, List.push_toArray, List.append_toArray, List.nil_append, List.cons_append]
    refine wpIn_wide.2 ?_
    go_upto_region 1 with fail
    generalize ((w.alloc (.cells #[.int .i64 pr, .int .i64 pm, .bool has, .int .i64 ar, .int .i64 am, .string val, .slice x L y] 26)).alloc (.cells #[.int .i64 0, .int .i64 0, .bool false, .int .i64 0, .int .i64 0, .string { data := #[] }, .slice none 0 0] 26)) = W at HX ⊢
    obtain ⟨c0, c1, c2, c3, c4, c5, c6⟩ := HX.out.one.cells
    go_upto_region 2 with (first
      | (go_at_call 45; refine (HCo.out _ HX.out.bel).mono ?_; rintro e w5 ⟨v5, rfl, ho, hb⟩; obtain ⟨x5, y5, rfl⟩ := ho.slice; rw [HLn.out] at ho ⊢; have HX5 := Lib.hid (HX.out.keep hb); have HO5 := Lib.hid (ho.mono (show w.heap.size + 1 + 1 ≤ _ from HX.out.two.lt)); clear ho hb c0 c1 c2 c3 c4 c5 c6)
      | (refine wpList_store_mid rfl 26 _ _ rfl w.heap.size 0 #[.int .i64 pr, .int .i64 pm, .bool has, .int .i64 ar, .int .i64 am, .string val, .slice x5 L y5] rfl rfl HX5.out.one.there sizeAcc (acc_one _ _ _ _ _ _ _ _ _) ?_))
    have HX6 := Lib.hid (HX5.out.put pr pm has ar am val (.slice x5 L y5))
    have HO6 := Lib.hid (Own.farC (N := w.heap.size) (by omega) [.int .i64 pr, .int .i64 pm, .bool has, .int .i64 ar, .int .i64 am, .string val, .slice x5 L y5] 0 HO5.out)
    generalize w5.setCells w.heap.size 0 _ = W6 at HX6 HO6 ⊢
    obtain ⟨c0, c1, c2, c3, c4, c5, c6⟩ := HX6.out.one.cells
    go_upto_region 3 with (go_at_call 49; refine (HCn.out _ _ _ (HRd.out _ _ _ HO6.out)).mono ?_; rintro e w7 ⟨rfl, hb⟩; simp only [HLn.out]; have HX7 := Lib.hid (HX6.out.keep hb); have HO7 := Lib.hid (HO6.out.below hb); clear hb c0 c1 c2 c3 c4 c5 c6; obtain ⟨c0, c1, c2, c3, c4, c5, c6⟩ := HX7.out.one.cells)
    have HFin : Hid (LrnRet w.heap.size w7 Post pr pm has ar am val (.slice x5 L y5)) := Lib.hid (by
      exact HPo.out _ _ ((Own.farC (N := w.heap.size + 1) (by omega) _ _ HO7.out).mono (by omega)) (Below.setCells HX7.out.bel (b := w.heap.size + 1) (by omega) 0 _))
    by_cases h1 : f < 0
    · clear hbad
      go_wp2_with (refine wpList_store_mid rfl 26 _ _ rfl (w.heap.size + 1) 0 #[.int .i64 pr, .int .i64 pm, .bool has, .int .i64 ar, .int .i64 am, .string val, .slice x5 L y5] rfl rfl HX7.out.two.there sizeAcc (acc_one _ _ _ _ _ _ _ _ _) ?_)
      show LeavesInM _ _ _ _ _ _ _ _ _
      refine ⟨_, ret_cell_tmp rfl rfl (HX7.out.two.put pr pm has ar am val (.slice x5 L y5)).range Try.underlying26 rfl sizeAcc, ?_⟩
      exact HFin.out
    · have h2 : f > (L : Int) := by omega
      clear hbad
      go_wp2_with (refine wpList_store_mid rfl 26 _ _ rfl (w.heap.size + 1) 0 #[.int .i64 pr, .int .i64 pm, .bool has, .int .i64 ar, .int .i64 am, .string val, .slice x5 L y5] rfl rfl HX7.out.two.there sizeAcc (acc_one _ _ _ _ _ _ _ _ _) ?_)
      show LeavesInM _ _ _ _ _ _ _ _ _
      refine ⟨_, ret_cell_tmp rfl rfl (HX7.out.two.put pr pm has ar am val (.slice x5 L y5)).range Try.underlying26 rfl sizeAcc, ?_⟩
      exact HFin.out
  · have hf0 : 0 ≤ f := by omega
    have hfL : f ≤ (L : Int) := by omega
    have hw1 : IntKind.i64.wrap ((L : Int) - f) = (L : Int) - f := by
      rcases hkw with h1 | h1 | h1
      · omega
      · omega
      · exact h1
    obtain ⟨T, hT⟩ : ∃ T, taken (fromL l ((L : Int) - f)) (4096 - L) = T := ⟨_, rfl⟩
    have hlr : learnL a f l = T := by unfold learnL; rw [hL, if_neg hbad, hT]
    have HP0 : Hid (T = [] → ∀ s w', Own tx 1 9 w' w.heap.size s a.com → Below w.heap.size w w' → LrnS w a f l (.returned (.tuple #[a.agg s, .int .i64 0])) w') := Lib.hid (fun h0 s w' ho hb => by
      have e : learnE a f l = a := by unfold learnE; rw [hlr, if_pos h0]
      exact ⟨s, by rw [e, hlr, h0]; rfl, by rw [e]; exact ho, hb⟩)
    have HP1 : Hid (T ≠ [] → ∀ s w', Own tx 1 9 w' w.heap.size s (a.com ++ T) → Below w.heap.size w w' → LrnS w a f l (.returned (.tuple #[.agg #[.int .i64 a.pr, .int .i64 a.pm, .bool false, .int .i64 0, .int .i64 0, .string { data := #[] }, s], .int .i64 (T.length : Int)])) w') := Lib.hid (fun h0 s w' ho hb => by
      have e : learnE a f l = { a with has := false, ar := 0, am := 0, val := .empty, com := a.com ++ T } := by unfold learnE; rw [hlr, if_neg h0]
      exact ⟨s, by rw [e, hlr]; rfl, by rw [e]; exact ho, hb⟩)
    have HT : Hid (taken (fromL l ((L : Int) - f)) (4096 - L) = T) := Lib.hid hT
    obtain ⟨n, hn⟩ : ∃ n, 4096 - L = n := ⟨_, rfl⟩
    have HNn := Lib.hid hn
    rw [hn] at HT
    obtain ⟨g, hg⟩ : ∃ g, (L : Int) - f = g := ⟨_, rfl⟩
    rw [hg] at HT
    have hkw1 : True → IntKind.i64.wrap ((L : Int) - f) = g := fun _ => hw1.trans hg
    unfold AccV.agg at HCo HP0 ⊢
    rw [hL] at HX HCo ⊢
    clear hsl hs hl hfi hL hlr hIf hIf2 hkw hT hn hg hw1
    obtain ⟨pr, pm, has, ar, am, val, com⟩ := a
    simp only at HX HCo HP0 HP1 HLn HLm ⊢
    generalize LrnS w _ f l = Post at HP0 HP1 ⊢
    have HRd : Hid (∀ u B sl p q b r m c d, Own tx 1 9 u B sl d → AccR u (.agg #[.int .i64 p, .int .i64 q, .bool b, .int .i64 r, .int .i64 m, .string c, sl]) ⟨p, q, b, r, m, c, d⟩) := Lib.hid (fun u B sl p q b r m c d ho => ⟨sl, rfl, ho.read tx_len⟩)
    obtain ⟨LL, hLL⟩ : ∃ LL, l.length = LL := ⟨_, rfl⟩
    have HLL := Lib.hid hLL
    rw [hLL] at HSl HCp ⊢
    clear hLL
    refine (callsIn_wide (n := 0)).1 ?_
    refine callsIn_of_wp_marks Try.func15 rfl trivial ?_ rfl
    simp only [Try.ntmps15, List.size_toArray, List.length_cons, List.length_nil, Nat.reduceAdd, Nat.reduceSub, Array.replicate_succ, Array.replicate_zero, List.push_toArray, List.append_toArray, List.nil_append, List.cons_append]
    refine wpIn_wide.2 ?_
    go_upto_region 1 with fail
    generalize ((w.alloc (.cells #[.int .i64 pr, .int .i64 pm, .bool has, .int .i64 ar, .int .i64 am, .string val, .slice x L y] 26)).alloc (.cells #[.int .i64 0, .int .i64 0, .bool false, .int .i64 0, .int .i64 0, .string { data := #[] }, .slice none 0 0] 26)) = W at HX ⊢
    obtain ⟨c0, c1, c2, c3, c4, c5, c6⟩ := HX.out.one.cells
    go_upto_region 2 with (first
      | (go_at_call 45; refine (HCo.out _ HX.out.bel).mono ?_; rintro e w5 ⟨v5, rfl, ho, hb⟩; obtain ⟨x5, y5, rfl⟩ := ho.slice; rw [HLn.out] at ho ⊢; have HX5 := Lib.hid (HX.out.keep hb); have HO5 := Lib.hid (ho.mono (show w.heap.size + 1 + 1 ≤ _ from HX.out.two.lt)); clear ho hb c0 c1 c2 c3 c4 c5 c6)
      | (refine wpList_store_mid rfl 26 _ _ rfl w.heap.size 0 #[.int .i64 pr, .int .i64 pm, .bool has, .int .i64 ar, .int .i64 am, .string val, .slice x5 L y5] rfl rfl HX5.out.one.there sizeAcc (acc_one _ _ _ _ _ _ _ _ _) ?_))
    have HX6 := Lib.hid (HX5.out.put pr pm has ar am val (.slice x5 L y5))
    have HO6 := Lib.hid (Own.farC (N := w.heap.size) (by omega) [.int .i64 pr, .int .i64 pm, .bool has, .int .i64 ar, .int .i64 am, .string val, .slice x5 L y5] 0 HO5.out)
    generalize w5.setCells w.heap.size 0 _ = W6 at HX6 HO6 ⊢
    obtain ⟨c0, c1, c2, c3, c4, c5, c6⟩ := HX6.out.one.cells
    go_upto_region 3 with (go_at_call 49; refine (HCn.out _ _ _ (HRd.out _ _ _ _ _ _ _ _ _ _ HO6.out)).mono ?_; rintro e w7 ⟨rfl, hb⟩; simp only [HLn.out]; have HX7 := Lib.hid (HX6.out.keep hb); have HO7 := Lib.hid (HO6.out.below hb); clear hb c0 c1 c2 c3 c4 c5 c6)
    have hf1 : ¬ f < 0 := by omega
    have hf2 : ¬ (L : Int) < f := by omega
    clear hbad hf0 hfL
    go_wp2_with (go_at_call 50; refine (from_any _ _ _ _ _).mono ?_; rintro e w8 ⟨bl, bf, rfl, hbf, hbl, hlf, hll, hb⟩; have HX8 := Lib.hid (HX7.out.keep hb); have HO8 := Lib.hid (HO7.out.below hb); have HBf := Lib.hid hbf; have HBl := Lib.hid hbl; have HLf := Lib.hid (Nat.lt_of_lt_of_le HX7.out.two.lt hlf); have HLl := Lib.hid (Nat.lt_of_lt_of_le HX7.out.two.lt hll); clear hb hbf hbl hlf hll)
    obtain ⟨D, hD⟩ : ∃ D, w8.heap.size = D := ⟨_, rfl⟩
    have HSt : Hid (∀ lp W, Below w8.heap.size w8 W → W.heap[D]? = some (.deferred (some [])) → W.heap[D + 1]? = some lp → LBx w w.heap.size pr pm has ar am val (.slice xl LL cl) g bl bf D com lp (.slice x5 L y5) W) := Lib.hid (fun lp W hb hd hl => ⟨rfl, HX8.out.bel.trans (hb.mono HX8.out.bel.size), HX8.out.one.keep hb, HX8.out.two.keep hb, HO8.out.below hb, (hb.block _ (box_lt HBl.out)).trans HBl.out, (hb.block _ (box_lt HBf.out)).trans HBf.out, hd, hl, HLl.out, HLf.out, by rw [← hD]; exact HX8.out.two.lt⟩)
    have HSrc : Hid (∀ W, Below w.heap.size w W → Sl tx 1 W (.slice xl LL cl) l) := Lib.hid (fun W hW => HSl.out.keep hW)
    clear hf1 hf2 hkw1
    obtain ⟨P, hP⟩ : ∃ P, (com ++ T).length = P := ⟨_, rfl⟩
    have HPl := Lib.hid hP
    have HKw : Hid (IntKind.i64.wrap ((P : Int) - (L : Int)) = (T.length : Int)) := Lib.hid (by
      have h1 := hP
      rw [List.length_append, HLn.out] at h1
      have h2 := HLm.out
      rw [HLn.out] at h2
      have h3 : T.length ≤ 4096 := by rw [← HT.out]; exact Nat.le_trans (taken_len _ _) (by have := HNn.out; omega)
      rw [IntKind.wrap_i64]; omega)
    clear hP
    refine (wpIn_wide (n := 0)).1 ?_
    refine range_stmtX (n := 0) (gf := 60) (lb := #[.pointer (some ⟨bf, 0, none⟩), .pointer (some ⟨bl, 0, none⟩)])
      (I := fun W => ∃ vo lr, LBx w w.heap.size pr pm has ar am val (.slice xl LL cl) g bl bf D (com ++ T) (.loop lr) vo W) (X := fun c W => c = .exit 0 ∧ ∃ vo lr, LBx w w.heap.size pr pm has ar am val (.slice xl LL cl) g bl bf D (com ++ T) (.loop lr) vo W)
      rfl (enters_of Try.func60 (by kernel_rfl) rfl) ?hit ?hdone ?hstop
    case hit =>
      intro fn rec hrec
      simp only [hD] at hrec ⊢
      refine (from1_any (D + 1) bf bl l (.slice xl LL cl) g (I := fun k W => (∃ vo, LBx w w.heap.size pr pm has ar am val (.slice xl LL cl) g bl bf D (com ++ (fromL l g).take k) (.loop (rec .ready none)) vo W) ∧ Far1 (fromL l g) n k) (X := fun k W => ∃ vo, LBx w w.heap.size pr pm has ar am val (.slice xl LL cl) g bl bf D (com ++ T) (.loop (rec .done (some (.exit 0)))) vo W) ?cells ?yield (by rw [HLL.out]; exact HCp.out) _ ?start).mono ?post
      case cells => exact fun i W ⟨⟨vo, h⟩, _⟩ => ⟨box_cell h.hf, box_cell h.hl, HSrc.out W h.bel⟩
      case start =>
        have b1 : Below w8.heap.size w8 ((w8.alloc (.deferred (some []))).alloc (.loop (rec .ready none))) := ((Below.refl _ w8).alloc (Nat.le_refl _) _).alloc (by simp) _
        have h2 := two_at w8 (.deferred (some [])) (.loop (rec .ready none))
        rw [hD] at h2
        exact ⟨⟨_, by rw [List.take_zero, List.append_nil]; exact HSt.out _ _ b1 h2.1 h2.2⟩, far1_zero _ _⟩
      case post =>
        rintro e W ⟨hv, (⟨⟨vo, h1⟩, h2⟩ | ⟨k, hk, vo, h1⟩)⟩
        · rw [List.take_length, ← far1_end h2, HT.out] at h1
          exact ⟨hv, .inl ⟨⟨vo, _, h1⟩, h1.lp, h1.df⟩⟩
        · exact ⟨hv, .inr ⟨.exit 0, ⟨rfl, vo, _, h1⟩, h1.lp, h1.df⟩⟩
      case yield =>
        rintro k W hk ⟨⟨vo, hsb⟩, hfar⟩
        refine yield_roundX hrec (Rt := fun W' => (∃ vo, LBx w w.heap.size pr pm has ar am val (.slice xl LL cl) g bl bf D (com ++ (fromL l g).take (k + 1)) (.loop (rec .ready none)) vo W') ∧ Far1 (fromL l g) n (k + 1)) (Rx := fun c W' => c = .exit 0 ∧ ∃ vo, LBx w w.heap.size pr pm has ar am val (.slice xl LL cl) g bl bf D (com ++ T) (.loop (rec .done (some c))) vo W') ⟨hsb.lp, hsb.df⟩ rfl ?_ |>.mono ?_
        · obtain ⟨z, hz⟩ : ∃ z, (fromL l g)[k] = z := ⟨_, rfl⟩
          obtain ⟨q, hq⟩ : ∃ q, okTxt z = q := ⟨_, rfl⟩
          have HFz := Lib.hid (fun u => HFv.out z u)
          rw [hq] at HFz
          rw [hz]
          have htk : (fromL l g).take (k + 1) = (fromL l g).take k ++ [z] := by rw [← hz]; exact List.take_succ_eq_append_getElem hk
          have HStop : Hid (q = false ∨ n ≤ k → com ++ T = com ++ (fromL l g).take k) := Lib.hid (fun h => by rw [← HT.out, far1_stop hfar hk (by rw [hz, hq]; exact h)])
          have HGo : Hid (q = true → k < n → com ++ (fromL l g).take (k + 1) = (com ++ (fromL l g).take k) ++ [z] ∧ Far1 (fromL l g) n (k + 1)) := Lib.hid (fun h1 h2 => ⟨by rw [htk, List.append_assoc], far1_step hfar hk (by rw [hz, hq]; exact h1) h2⟩)
          have hP : (com ++ (fromL l g).take k).length = L + k := by rw [List.length_append, List.length_take, HLn.out]; omega
          generalize com ++ (fromL l g).take (k + 1) = O2 at HGo ⊢
          generalize com ++ (fromL l g).take k = O at HStop HGo hP hsb
          obtain ⟨ax, cx, rfl⟩ := hsb.own.slice
          have HOl := Lib.hid hP
          rw [hP] at hsb
          have HSb := Lib.hid hsb
          have hLk : (L : Int) + k = ((L + k : Nat) : Int) := by omega
          obtain ⟨P, hPp⟩ : ∃ P, L + k = P := ⟨_, rfl⟩
          have HPp := Lib.hid hPp
          rw [hPp] at HSb HOl
          clear hrec hsb hfar hk hz hq htk hP hPp hLk HFv
          gi_wp2
          refine ⟨HSb.out.lp, ?_⟩
          have hg5 := HSb.out.putLp (.loop (rec .busy none))
          generalize W.putObj (D + 1) (.loop (rec .busy none)) = W5 at hg5 ⊢
          obtain ⟨c0, c1, c2, c3, c4, c5, c6⟩ := hg5.one.cells
          have HG5 := Lib.hid hg5
          clear hg5
          cases q with
          | false =>
            have HSt2 := Lib.hid (HStop.out (.inl rfl))
            gi_wp2_with (refine ⟨trivial, rfl, ?_⟩; gi_at_call 48; refine (callsIn_wide.2 (HFz.out _)).mono ?_; rintro e w6 ⟨rfl, hb⟩; have HG6 := Lib.hid (HG5.out.keep hb); clear hb c0 c1 c2 c3 c4 c5 c6)
            exact ⟨HG6.out.lp, rfl, _, by rw [HSt2.out]; exact HG6.out.putLp _⟩
          | true =>
            by_cases hfull : 4096 ≤ (P : Int)
            · have HSt2 := Lib.hid (HStop.out (.inr (by have h1 := HPp.out; have h2 := HNn.out; omega)))
              gi_wp2_with (refine ⟨trivial, rfl, ?_⟩; gi_at_call 48; refine (callsIn_wide.2 (HFz.out _)).mono ?_; rintro e w6 ⟨rfl, hb⟩; have HG6 := Lib.hid (HG5.out.keep hb); clear hb c0 c1 c2 c3 c4 c5 c6; have c6 := HG6.out.one.cells.2.2.2.2.2.2)
              exact ⟨HG6.out.lp, rfl, _, by rw [HSt2.out]; exact HG6.out.putLp _⟩
            · have HGo2 := Lib.hid (HGo.out rfl (by have h1 := HPp.out; have h2 := HNn.out; omega))
              have HPl : Hid (P < 4096) := Lib.hid (by omega)
              gi_wp2_with (first
                | (refine ⟨trivial, rfl, ?_⟩; gi_at_call 48; refine (callsIn_wide.2 (HFz.out _)).mono ?_; rintro e w6 ⟨rfl, hb⟩; have HG6 := Lib.hid (HG5.out.keep hb); clear hb c0 c1 c2 c3 c4 c5 c6; have c6 := HG6.out.one.cells.2.2.2.2.2.2)
                | (gi_at_builtin; refine app1G_in tx_len tx_one (by decide) rfl (.tmp 39) (.tmp 41) 24 rfl (w.heap.size + 1 + 1) 9 _ (by rfl) 16 Try.underlying24 infoTxt _ O rfl (by rw [← HOl.out] at *; exact HG6.out.own) z _ rfl _ rfl rfl (by have h1 := HPl.out; have h2 := HOl.out; unfold maxLen; omega) (by have h1 := HPl.out; have h2 := HOl.out; omega) (by have := HG6.out.lt; have := HG6.out.hD; omega) ?_; intro v9 w9 ho9 hk9; have hgr := HG6.out.grow ho9 hk9; have hb9 : ABox w9 w.heap.size pr pm has ar am val (.slice ax P cx) := ((hk9.below w.heap.size (by omega)).trans HG6.out.one); obtain ⟨x9, y9, hv9⟩ := ho9.slice; subst hv9; have cN := hb9.cells.2.2.2.2.2.2; have fN := hb9.thaw 6; have HGr := Lib.hid hgr; clear hgr hb9 ho9 hk9 c6))
              have e9 : (O ++ [z]).length = O.length + 1 := by simp
              rw [e9] at HGr
              exact ⟨HGr.out.lp, ⟨_, by rw [HGo2.out.1]; exact HGr.out.putLp _⟩, HGo2.out.2⟩
        · rintro e W' (⟨he, h⟩ | ⟨he, c, rfl, h⟩)
          · exact .inl ⟨he, h⟩
          · exact .inr ⟨he, h⟩
    case hdone =>
      rintro W r r' ⟨vo, lr, hgb⟩ hb
      simp only [hD]
      have hg2 := hgb.putLp (.loop r')
      obtain ⟨ax, cx, rfl⟩ := hgb.own.slice
      clear hgb hb
      generalize W.putObj (D + 1) (.loop r') = W3 at hg2 ⊢
      rw [HPl.out] at hg2
      have HG3 := Lib.hid hg2
      obtain ⟨c0, c1, c2, c3, c4, c5, c6⟩ := hg2.one.cells
      clear hg2 hD
      by_cases hT0 : T = []
      · have hm0 : T.length = 0 := by rw [hT0]; rfl
        have hw2 := HKw.out
        rw [hm0] at hw2
        have hkw2 : True → IntKind.i64.wrap ((P : Int) - (L : Int)) = 0 := fun _ => hw2
        clear hw2 hm0
        go_wp2_with (first
          | (go_at_call 49; refine (HCn.out _ _ _ (HRd.out _ _ _ _ _ _ _ _ _ _ HG3.out.own)).mono ?_; rintro e w6 ⟨rfl, hb⟩; simp only [HPl.out]; have HG6 := Lib.hid (HG3.out.keep hb); clear hb c0 c1 c2 c3 c4 c5 c6; obtain ⟨c0, c1, c2, c3, c4, c5, c6⟩ := HG6.out.one.cells)
          | (refine wpList_store_mid rfl 26 _ _ rfl (w.heap.size + 1) 0 #[.int .i64 pr, .int .i64 pm, .bool has, .int .i64 ar, .int .i64 am, .string val, .slice ax P cx] rfl rfl HG6.out.two.there sizeAcc (acc_one _ _ _ _ _ _ _ _ _) ?_; have HFin := Lib.hid (HG6.out.fin pr pm has ar am val (.slice ax P cx)); generalize (w6.setCells (w.heap.size + 1) 0 (#[.int .i64 pr, .int .i64 pm, .bool has, .int .i64 ar, .int .i64 am, .string val, .slice ax P cx] : Array Value).toList) = W7 at HFin ⊢; clear c0 c1 c2 c3 c4 c5 c6))
        refine ⟨by simp, .inl ⟨_, _, rfl, run_takeDeferred HFin.out.1, ?_⟩⟩
        refine ⟨_, ret_cell_tmp rfl rfl HFin.out.2.1.range Try.underlying26 rfl sizeAcc, ?_⟩
        refine HP0.out hT0 _ _ ?_ HFin.out.2.2.2
        have := HFin.out.2.2.1
        rw [hT0, List.append_nil] at this
        exact this
      · have hm1 : (0 : Int) < (T.length : Int) := by
          have : T.length ≠ 0 := fun h => hT0 (List.eq_nil_of_length_eq_zero h)
          omega
        have hw2 := HKw.out
        have HT1 := Lib.hid (HP1.out hT0)
        obtain ⟨m, hm⟩ : ∃ m, T.length = m := ⟨_, rfl⟩
        rw [hm] at hw2 hm1 HT1
        have hkw2 : True → IntKind.i64.wrap ((P : Int) - (L : Int)) = (m : Int) := fun _ => hw2
        have hm2 : 0 < m := by omega
        clear hw2 hm
        go_upto_region 12 with (first
          | (go_at_call 49; refine (HCn.out _ _ _ (HRd.out _ _ _ _ _ _ _ _ _ _ HG3.out.own)).mono ?_; rintro e w6 ⟨rfl, hb⟩; simp only [HPl.out]; have HG6 := Lib.hid (HG3.out.keep hb); clear hb c0 c1 c2 c3 c4 c5 c6; have c2 := HG6.out.one.cells.2.2.1; have f2 := HG6.out.one.thaw 2)
          | (refine wpList_store_mid rfl 23 _ _ rfl w.heap.size 3 #[.int .i64 0, .int .i64 0] rfl rfl (there_at (HG6.out.setHas false).one.there 3 2 (by omega)) sizeBal (bal_one _ _) ?_; have HGb := Lib.hid ((HG6.out.setHas false).setAt 0 0); generalize ((w6.setCell ⟨w.heap.size, 2, none⟩ (.bool false)).setCells w.heap.size 3 (#[.int .i64 0, .int .i64 0] : Array Value).toList) = Wb at HGb ⊢; clear c2 f2; have c5 := HGb.out.one.cells.2.2.2.2.2.1; have f5 := HGb.out.one.thaw 5))
        have HGc := Lib.hid (HGb.out.setVal { data := #[] })
        clear c5 f5
        generalize Wb.setCell ⟨w.heap.size, 5, none⟩ (.string { data := #[] }) = Wc at HGc ⊢
        obtain ⟨c0, c1, c2, c3, c4, c5, c6⟩ := HGc.out.one.cells
        go_wp2_with (refine wpList_store_mid rfl 26 _ _ rfl (w.heap.size + 1) 0 #[.int .i64 pr, .int .i64 pm, .bool false, .int .i64 0, .int .i64 0, .string { data := #[] }, .slice ax P cx] rfl rfl HGc.out.two.there sizeAcc (acc_one _ _ _ _ _ _ _ _ _) ?_; have HFin := Lib.hid (HGc.out.fin pr pm false 0 0 { data := #[] } (.slice ax P cx)); generalize (Wc.setCells (w.heap.size + 1) 0 (#[.int .i64 pr, .int .i64 pm, .bool false, .int .i64 0, .int .i64 0, .string { data := #[] }, .slice ax P cx] : Array Value).toList) = W7 at HFin ⊢; clear c0 c1 c2 c3 c4 c5 c6)
        refine ⟨by simp, .inl ⟨_, _, rfl, run_takeDeferred HFin.out.1, ?_⟩⟩
        refine ⟨_, ret_cell_tmp rfl rfl HFin.out.2.1.range Try.underlying26 rfl sizeAcc, ?_⟩
        exact HT1.out _ _ HFin.out.2.2.1 HFin.out.2.2.2
    case hstop =>
      rintro W c r r' ⟨rfl, vo, lr, hgb⟩ hb
      simp only [hD]
      have hg2 := hgb.putLp (.loop r')
      obtain ⟨ax, cx, rfl⟩ := hgb.own.slice
      clear hgb hb
      generalize W.putObj (D + 1) (.loop r') = W3 at hg2 ⊢
      refine wpIn_wide.2 ?_
      rw [HPl.out] at hg2
      have HG3 := Lib.hid hg2
      obtain ⟨c0, c1, c2, c3, c4, c5, c6⟩ := hg2.one.cells
      clear hg2 hD
      by_cases hT0 : T = []
      · have hm0 : T.length = 0 := by rw [hT0]; rfl
        have hw2 := HKw.out
        rw [hm0] at hw2
        have hkw2 : True → IntKind.i64.wrap ((P : Int) - (L : Int)) = 0 := fun _ => hw2
        clear hw2 hm0
        go_wp2_with (first
          | (go_at_call 49; refine (HCn.out _ _ _ (HRd.out _ _ _ _ _ _ _ _ _ _ HG3.out.own)).mono ?_; rintro e w6 ⟨rfl, hb⟩; simp only [HPl.out]; have HG6 := Lib.hid (HG3.out.keep hb); clear hb c0 c1 c2 c3 c4 c5 c6; obtain ⟨c0, c1, c2, c3, c4, c5, c6⟩ := HG6.out.one.cells)
          | (refine wpList_store_mid rfl 26 _ _ rfl (w.heap.size + 1) 0 #[.int .i64 pr, .int .i64 pm, .bool has, .int .i64 ar, .int .i64 am, .string val, .slice ax P cx] rfl rfl HG6.out.two.there sizeAcc (acc_one _ _ _ _ _ _ _ _ _) ?_; have HFin := Lib.hid (HG6.out.fin pr pm has ar am val (.slice ax P cx)); generalize (w6.setCells (w.heap.size + 1) 0 (#[.int .i64 pr, .int .i64 pm, .bool has, .int .i64 ar, .int .i64 am, .string val, .slice ax P cx] : Array Value).toList) = W7 at HFin ⊢; clear c0 c1 c2 c3 c4 c5 c6))
        refine ⟨by simp, .inl ⟨_, _, rfl, run_takeDeferred HFin.out.1, ?_⟩⟩
        refine ⟨_, ret_cell_tmp rfl rfl HFin.out.2.1.range Try.underlying26 rfl sizeAcc, ?_⟩
        refine HP0.out hT0 _ _ ?_ HFin.out.2.2.2
        have := HFin.out.2.2.1
        rw [hT0, List.append_nil] at this
        exact this
      · have hm1 : (0 : Int) < (T.length : Int) := by
          have : T.length ≠ 0 := fun h => hT0 (List.eq_nil_of_length_eq_zero h)
          omega
        have hw2 := HKw.out
        have HT1 := Lib.hid (HP1.out hT0)
        obtain ⟨m, hm⟩ : ∃ m, T.length = m := ⟨_, rfl⟩
        rw [hm] at hw2 hm1 HT1
        have hkw2 : True → IntKind.i64.wrap ((P : Int) - (L : Int)) = (m : Int) := fun _ => hw2
        have hm2 : 0 < m := by omega
        clear hw2 hm
        go_upto_region 12 with (first
          | (go_at_call 49; refine (HCn.out _ _ _ (HRd.out _ _ _ _ _ _ _ _ _ _ HG3.out.own)).mono ?_; rintro e w6 ⟨rfl, hb⟩; simp only [HPl.out]; have HG6 := Lib.hid (HG3.out.keep hb); clear hb c0 c1 c2 c3 c4 c5 c6; have c2 := HG6.out.one.cells.2.2.1; have f2 := HG6.out.one.thaw 2)
          | (refine wpList_store_mid rfl 23 _ _ rfl w.heap.size 3 #[.int .i64 0, .int .i64 0] rfl rfl (there_at (HG6.out.setHas false).one.there 3 2 (by omega)) sizeBal (bal_one _ _) ?_; have HGb := Lib.hid ((HG6.out.setHas false).setAt 0 0); generalize ((w6.setCell ⟨w.heap.size, 2, none⟩ (.bool false)).setCells w.heap.size 3 (#[.int .i64 0, .int .i64 0] : Array Value).toList) = Wb at HGb ⊢; clear c2 f2; have c5 := HGb.out.one.cells.2.2.2.2.2.1; have f5 := HGb.out.one.thaw 5))
        have HGc := Lib.hid (HGb.out.setVal { data := #[] })
        clear c5 f5
        generalize Wb.setCell ⟨w.heap.size, 5, none⟩ (.string { data := #[] }) = Wc at HGc ⊢
        obtain ⟨c0, c1, c2, c3, c4, c5, c6⟩ := HGc.out.one.cells
        go_wp2_with (refine wpList_store_mid rfl 26 _ _ rfl (w.heap.size + 1) 0 #[.int .i64 pr, .int .i64 pm, .bool false, .int .i64 0, .int .i64 0, .string { data := #[] }, .slice ax P cx] rfl rfl HGc.out.two.there sizeAcc (acc_one _ _ _ _ _ _ _ _ _) ?_; have HFin := Lib.hid (HGc.out.fin pr pm false 0 0 { data := #[] } (.slice ax P cx)); generalize (Wc.setCells (w.heap.size + 1) 0 (#[.int .i64 pr, .int .i64 pm, .bool false, .int .i64 0, .int .i64 0, .string { data := #[] }, .slice ax P cx] : Array Value).toList) = W7 at HFin ⊢; clear c0 c1 c2 c3 c4 c5 c6)
        refine ⟨by simp, .inl ⟨_, _, rfl, run_takeDeferred HFin.out.1, ?_⟩⟩
        refine ⟨_, ret_cell_tmp rfl rfl HFin.out.2.1.range Try.underlying26 rfl sizeAcc, ?_⟩
        exact HT1.out _ _ HFin.out.2.2.1 HFin.out.2.2.2
end Go.Proofs.Ytmdipcemhaomhaa.crush
