/- Values, by the program. -/
import Derived.Test.YtmdipcemhaomhaaRows
import Derived.Test.YtmdipcemhaomhaaAccRVal
namespace Go.Proofs.Ytmdipcemhaomhaa.crush
open Go.RowKit
open Go.Proofs.Ytmdipcemhaomhaa.kit Go.Proofs.Ytmdipcemhaomhaa.own Go.Proofs.Ytmdipcemhaomhaa.iter
set_option linter.unusedVariables false
set_option linter.unusedSimpArgs false
attribute [local go_sem] Oper.semAt_some

/-- The boxes of Values' loop. -/
structure VBx (w : World) (N : Nat) (a : AccV) (src : Value) (most f : Int) (bl bf D : Nat) (out : List ByteArray) (lp : Obj) (vo : Value) (W : World) : Prop where
  hN : N = w.heap.size
  bel : Below w.heap.size w W
  one : ABox W N a.pr a.pm a.has a.ar a.am a.val src
  mb : Box W (N + 1) 3 (.int .i64 most)
  lb : Box W (N + 1 + 1) 24 vo
  own : Own tx 1 9 W (N + 1 + 1 + 1) vo out
  hl : Box W bl 24 src
  hf : Box W bf 2 (.int .i64 f)
  df : W.heap[D]? = some (.deferred (some []))
  lp : W.heap[D + 1]? = some lp
  hbl : N + 1 + 1 < bl
  hbf : N + 1 + 1 < bf
  hD : N + 1 + 1 < D
section
variable {w : World} {N : Nat} {a : AccV} {src : Value} {most f : Int} {bl bf D : Nat} {out : List ByteArray} {lp : Obj} {lr : Loop} {vo : Value} {W W' : World}
theorem VBx.lt (h : VBx w N a src most f bl bf D out lp vo W) : D + 1 < W.heap.size := (Array.getElem?_eq_some_iff.1 h.lp).1
theorem VBx.keep (h : VBx w N a src most f bl bf D out lp vo W) (hb : Below W.heap.size W W') : VBx w N a src most f bl bf D out lp vo W' := by
  have hl := h.lt
  exact ⟨h.hN, h.bel.trans (hb.mono h.bel.size), h.one.keep hb, (hb.block _ (box_lt h.mb)).trans h.mb, (hb.block _ (box_lt h.lb)).trans h.lb, h.own.below hb, (hb.block _ (box_lt h.hl)).trans h.hl, (hb.block _ (box_lt h.hf)).trans h.hf, (hb.block _ (by omega)).trans h.df, (hb.block _ (by omega)).trans h.lp, h.hbl, h.hbf, h.hD⟩
theorem VBx.putLp (h : VBx w N a src most f bl bf D out (.loop lr) vo W) (o : Obj) : VBx w N a src most f bl bf D out o vo (W.putObj (D + 1) o) := by
  have hne : ∀ k c t fz, W.heap[k]? = some (Obj.cells c t fz) → k ≠ D + 1 := fun k c t fz e hk => by rw [hk, h.lp] at e; cases e
  exact ⟨h.hN, below_putObj h.bel _ _ (by have h1 := h.hD; have h2 := h.hN; omega), (World.putObj_heap_other (hne _ _ _ _ h.one)).trans h.one, (World.putObj_heap_other (hne _ _ _ _ h.mb)).trans h.mb, (World.putObj_heap_other (hne _ _ _ _ h.lb)).trans h.lb, h.own.putObj _ _ (fun c t f e => by rw [h.lp] at e; cases e), (World.putObj_heap_other (hne _ _ _ _ h.hl)).trans h.hl, (World.putObj_heap_other (hne _ _ _ _ h.hf)).trans h.hf, (World.putObj_heap_other (by omega)).trans h.df, World.putObj_heap_same h.lt, h.hbl, h.hbf, h.hD⟩
theorem VBx.grow (h : VBx w N a src most f bl bf D out (.loop lr) vo W) {w9 : World} {v9 : Value} {y : ByteArray} (ho : Own tx 1 9 w9 (N + 1 + 1 + 1) v9 (out ++ [y])) (hk : Kept (N + 1 + 1 + 1) 9 W w9) : VBx w N a src most f bl bf D (out ++ [y]) (.loop lr) v9 (w9.setCell ⟨N + 1 + 1, 0, none⟩ v9) := by
  have hb9 : Box w9 (N + 1 + 1) 24 vo := (hk.below _ (by omega)).trans h.lb
  have oth : ∀ k, k ≠ N + 1 + 1 → (w9.setCell ⟨N + 1 + 1, 0, none⟩ v9).heap[k]? = w9.heap[k]? := fun k hk => heap_setCell_other _ _ _ _ hk
  have hNw := h.hN; have hbl := h.hbl; have hbf := h.hbf; have hD := h.hD
  refine ⟨h.hN, (h.bel.trans (hk.toBelow.mono (by omega))).setCell (p := ⟨N + 1 + 1, 0, none⟩) (by show w.heap.size ≤ N + 1 + 1; omega) _, ((oth _ (by omega)).trans (hk.below _ (by omega))).trans h.one, ((oth _ (by omega)).trans (hk.below _ (by omega))).trans h.mb, box_set hb9 v9, ho.far6 (by omega) 0 v9, ((oth _ (by omega)).trans (hk.box (by decide) h.hl)), ((oth _ (by omega)).trans (hk.box (by decide) h.hf)), ?_, ?_, h.hbl, h.hbf, h.hD⟩
  · exact (oth _ (by omega)).trans ((hk.other _ (Array.getElem?_eq_some_iff.1 h.df).1 (fun c f e => by rw [h.df] at e; cases e)).trans h.df)
  · exact (oth _ (by omega)).trans ((hk.other _ h.lt (fun c f e => by rw [h.lp] at e; cases e)).trans h.lp)
end

set_option maxHeartbeats 16000000 in
set_option maxRecDepth 100000 in
theorem Values_any (v : Value) (a : AccV) (g most : Int) (w : World) (h : AccR w v a) (hr : Roomy v a) (hl : a.com.length * 16 ≤ 140737488355328) : Calls Try.prog 20 #[v, .int .i64 g, .int .i64 most] w (RowS tx 1 9 w (valL a.com g most)) := by
  obtain ⟨x, y, rfl, hxy⟩ := hr
  obtain ⟨s, he, hs⟩ := h
  obtain rfl : s = .slice x a.com.length y := by unfold AccV.agg at he; simp at he; exact he.symm
  have HSl := Lib.hid (fun u (hu : Below w.heap.size w u) => hs.keep hu)
  have HCp : Hid (∃ p c, Value.slice x a.com.length y = .slice p a.com.length c ∧ a.com.length ≤ c) := Lib.hid ⟨_, _, rfl, hxy⟩
  obtain ⟨T, hT⟩ : ∃ T, valL a.com g most = T := ⟨_, rfl⟩
  have HT : Hid ((fromL a.com g).take most.toNat = T) := Lib.hid hT
  rw [hT]
  have HLn : Hid ((fromL a.com g).length * 16 ≤ 140737488355328) := Lib.hid (by
    have : (fromL a.com g).length ≤ a.com.length := by unfold fromL; split <;> simp
    omega)
  have h3 := three_at w (.cells #[.int .i64 a.pr, .int .i64 a.pm, .bool a.has, .int .i64 a.ar, .int .i64 a.am, .string a.val, .slice x a.com.length y] 26) (.cells #[.int .i64 most] 3) (.cells #[.slice none 0 0] 24)
  unfold AccV.agg
  have hB : Below w.heap.size w (((w.alloc (.cells #[.int .i64 a.pr, .int .i64 a.pm, .bool a.has, .int .i64 a.ar, .int .i64 a.am, .string a.val, .slice x a.com.length y] 26)).alloc (.cells #[.int .i64 most] 3)).alloc (.cells #[.slice none 0 0] 24)) := ((below_new w _).alloc (by simp) _).alloc (by simp; omega) _
  obtain ⟨L, hL⟩ : ∃ L, a.com.length = L := ⟨_, rfl⟩
  have HLe := Lib.hid hL
  rw [hL] at HSl h3 hB ⊢
  clear he hs hl hxy hT hL
  refine (callsIn_wide (n := 0)).1 ?_
  refine callsIn_of_wp_marks Try.func20 rfl trivial ?_ rfl
  simp only [Try.ntmps20, List.size_toArray, List.length_cons, List.length_nil, Nat.reduceAdd, Nat.reduceSub, Array.replicate_succ, Array.replicate_zero, List.push_toArray, List.append_toArray, List.nil_append, List.cons_append]
  refine wpIn_wide.2 ?_
  have H3 := Lib.hid h3; have HB := Lib.hid hB
  clear h3 hB
  go_upto_region 2 with fail
  generalize (((w.alloc _).alloc _).alloc _) = W at H3 HB ⊢
  have c6 : W.cell? ⟨w.heap.size, 6, none⟩ = some (.slice x L y) := by simp [World.cell?, H3.out.1]
  have HSz : Hid (w.heap.size + 1 + 1 < W.heap.size) := Lib.hid (Array.getElem?_eq_some_iff.1 H3.out.2.2).1
  go_wp2_with (go_at_call 50; refine (from_any _ _ _ _ _).mono ?_; rintro e w8 ⟨bl, bf, rfl, hbf, hbl, hlf, hll, hb⟩; have HX8 := Lib.hid hb; have HBf := Lib.hid hbf; have HBl := Lib.hid hbl; have HLf := Lib.hid (Nat.lt_of_lt_of_le HSz.out hlf); have HLl := Lib.hid (Nat.lt_of_lt_of_le HSz.out hll); clear hb hbf hbl hlf hll)
  obtain ⟨D, hD⟩ : ∃ D, w8.heap.size = D := ⟨_, rfl⟩
  have HSt : Hid (∀ lp W', Below w8.heap.size w8 W' → W'.heap[D]? = some (.deferred (some [])) → W'.heap[D + 1]? = some lp → VBx w w.heap.size a (.slice x L y) most g bl bf D [] lp (.slice none 0 0) W') := Lib.hid (fun lp W' hb hd hl => by
    have hb2 : Below W.heap.size W W' := HX8.out.trans (hb.mono HX8.out.size)
    have hlt := HSz.out
    refine ⟨rfl, HB.out.trans (hb2.mono HB.out.size), (hb2.block _ (by omega)).trans H3.out.1, (hb2.block _ (by omega)).trans H3.out.2.1, (hb2.block _ hlt).trans H3.out.2.2, Own.nil _ _ _, (hb.block _ (box_lt HBl.out)).trans HBl.out, (hb.block _ (box_lt HBf.out)).trans HBf.out, hd, hl, HLl.out, HLf.out, ?_⟩
    have := HX8.out.size
    omega)
  clear c6
  refine (wpIn_wide (n := 0)).1 ?_
  refine range_stmtX (n := 0) (gf := 60) (lb := #[.pointer (some ⟨bf, 0, none⟩), .pointer (some ⟨bl, 0, none⟩)])
    (I := fun W => ∃ vo lr, VBx w w.heap.size a (.slice x L y) most g bl bf D T (.loop lr) vo W) (X := fun c W => c = .exit 0 ∧ ∃ vo lr, VBx w w.heap.size a (.slice x L y) most g bl bf D T (.loop lr) vo W)
    rfl (enters_of Try.func60 (by kernel_rfl) rfl) ?hit ?hdone ?hstop
  case hit =>
    intro fn rec hrec
    simp only [hD] at hrec ⊢
    refine (from1_any (D + 1) bf bl a.com (.slice x L y) g (I := fun k W => (∃ vo, VBx w w.heap.size a (.slice x L y) most g bl bf D ((fromL a.com g).take k) (.loop (rec .ready none)) vo W) ∧ (k = 0 ∨ (k : Int) ≤ most)) (X := fun k W => ∃ vo, VBx w w.heap.size a (.slice x L y) most g bl bf D T (.loop (rec .done (some (.exit 0)))) vo W) ?cells ?yield (by rw [← HLe.out]; exact HCp.out) _ ?start).mono ?post
    case cells => exact fun i W ⟨⟨vo, h⟩, _⟩ => ⟨box_cell h.hf, box_cell h.hl, HSl.out W h.bel⟩
    case start =>
      have b1 : Below w8.heap.size w8 ((w8.alloc (.deferred (some []))).alloc (.loop (rec .ready none))) := ((Below.refl _ w8).alloc (Nat.le_refl _) _).alloc (by simp) _
      have h2 := two_at w8 (.deferred (some [])) (.loop (rec .ready none))
      rw [hD] at h2
      exact ⟨⟨_, by rw [List.take_zero]; exact HSt.out _ _ b1 h2.1 h2.2⟩, .inl rfl⟩
    case post =>
      rintro e W ⟨hv, (⟨⟨vo, h1⟩, h2⟩ | ⟨k, hk, vo, h1⟩)⟩
      · have e2 : (fromL a.com g).take (fromL a.com g).length = T := by
          rw [← HT.out]
          rcases h2 with h2 | h2
          · rw [List.eq_nil_of_length_eq_zero h2]; simp
          · rw [List.take_length, List.take_of_length_le (by omega)]
        rw [e2] at h1
        exact ⟨hv, .inl ⟨⟨vo, _, h1⟩, h1.lp, h1.df⟩⟩
      · exact ⟨hv, .inr ⟨.exit 0, ⟨rfl, vo, _, h1⟩, h1.lp, h1.df⟩⟩
    case yield =>
      rintro k W hk ⟨⟨vo, hsb⟩, hfar⟩
      refine yield_roundX hrec (Rt := fun W' => (∃ vo, VBx w w.heap.size a (.slice x L y) most g bl bf D ((fromL a.com g).take (k + 1)) (.loop (rec .ready none)) vo W') ∧ (k + 1 = 0 ∨ ((k + 1 : Nat) : Int) ≤ most)) (Rx := fun c W' => c = .exit 0 ∧ ∃ vo, VBx w w.heap.size a (.slice x L y) most g bl bf D T (.loop (rec .done (some c))) vo W') ⟨hsb.lp, hsb.df⟩ rfl ?_ |>.mono ?_
      · obtain ⟨z, hz⟩ : ∃ z, (fromL a.com g)[k] = z := ⟨_, rfl⟩
        rw [hz]
        have htk : (fromL a.com g).take (k + 1) = (fromL a.com g).take k ++ [z] := by rw [← hz]; exact List.take_succ_eq_append_getElem hk
        have HStop : Hid (most ≤ (k : Int) → T = (fromL a.com g).take k) := Lib.hid (fun h => by
          rw [← HT.out]
          have : most.toNat = k := by omega
          rw [this])
        have hP : ((fromL a.com g).take k).length = k := by rw [List.length_take]; omega
        have hkl : (k + 1) * 16 ≤ 140737488355328 := by have := HLn.out; omega
        rw [htk]
        generalize (fromL a.com g).take k = O at HStop hP hsb ⊢
        obtain ⟨ax, cx, rfl⟩ := hsb.own.slice
        have HOl := Lib.hid hP
        have HKl := Lib.hid hkl
        rw [hP] at hsb
        have HSb := Lib.hid hsb
        clear hrec hsb hfar hk hz htk hP hkl
        gi_wp2
        refine ⟨HSb.out.lp, ?_⟩
        have hg5 := HSb.out.putLp (.loop (rec .busy none))
        generalize W.putObj (D + 1) (.loop (rec .busy none)) = W5 at hg5 ⊢
        have k5 := box_cell hg5.mb
        have k7 := box_cell hg5.lb
        have HG5 := Lib.hid hg5
        clear hg5
        by_cases hfull : most ≤ (k : Int)
        · have HSt2 := Lib.hid (HStop.out hfull)
          gi_wp2
          exact ⟨HG5.out.lp, rfl, _, by rw [HSt2.out]; exact HG5.out.putLp _⟩
        · gi_wp2_with (gi_at_builtin; refine app1G_in tx_len tx_one (by decide) rfl (.tmp 18) (.tmp 20) 24 rfl (w.heap.size + 1 + 1 + 1) 9 _ (by rfl) 16 Try.underlying24 infoTxt _ O rfl HG5.out.own z _ rfl _ rfl rfl (by have h1 := HKl.out; have h2 := HOl.out; unfold maxLen; omega) (by have h1 := HKl.out; have h2 := HOl.out; omega) (by have := HG5.out.lt; have := HG5.out.hD; omega) ?_; intro v9 w9 ho9 hk9; have hgr := HG5.out.grow ho9 hk9; have hb9 : Box w9 (w.heap.size + 1 + 1) 24 (.slice ax k cx) := ((hk9.below (w.heap.size + 1 + 1) (by omega)).trans HG5.out.lb); obtain ⟨x9, y9, hv9⟩ := ho9.slice; subst hv9; have cN := box_cell hb9; have fN := box_frozen hb9; have HGr := Lib.hid hgr; clear hgr hb9 ho9 hk9 k5 k7)
          have e9 : (O ++ [z]).length = O.length + 1 := by simp
          rw [e9] at HGr
          exact ⟨HGr.out.lp, ⟨_, HGr.out.putLp _⟩, by omega⟩
      · rintro e W' (⟨he, h⟩ | ⟨he, c, rfl, h⟩)
        · exact .inl ⟨he, h⟩
        · exact .inr ⟨he, h⟩
  case hdone =>
    rintro W r r' ⟨vo, lr, hgb⟩ hb
    simp only [hD]
    have hg2 := hgb.putLp (.loop r')
    obtain ⟨ax, cx, rfl⟩ := hgb.own.slice
    clear hgb hb
    generalize W.putObj (D + 1) (.loop r') = W3 at hg2 ⊢
    have k7 := box_cell hg2.lb
    have HG3 := Lib.hid hg2
    clear hg2
    go_wp2
    refine ⟨by simp, .inl ⟨_, _, rfl, run_takeDeferred HG3.out.df, ?_⟩⟩
    refine ⟨_, results_tmp rfl _ _, _, rfl, (HG3.out.own.putObj D (.deferred none) (fun c t f e => by rw [HG3.out.df] at e; cases e)).mono (by omega), below_putObj HG3.out.bel D (.deferred none) (by have := HG3.out.hD; omega)⟩
  case hstop =>
    rintro W c r r' ⟨rfl, vo, lr, hgb⟩ hb
    simp only [hD]
    have hg2 := hgb.putLp (.loop r')
    obtain ⟨ax, cx, rfl⟩ := hgb.own.slice
    clear hgb hb
    generalize W.putObj (D + 1) (.loop r') = W3 at hg2 ⊢
    refine wpIn_wide.2 ?_
    have k7 := box_cell hg2.lb
    have HG3 := Lib.hid hg2
    clear hg2
    go_wp2
    refine ⟨by simp, .inl ⟨_, _, rfl, run_takeDeferred HG3.out.df, ?_⟩⟩
    refine ⟨_, results_tmp rfl _ _, _, rfl, (HG3.out.own.putObj D (.deferred none) (fun c t f e => by rw [HG3.out.df] at e; cases e)).mono (by omega), below_putObj HG3.out.bel D (.deferred none) (by have := HG3.out.hD; omega)⟩
end Go.Proofs.Ytmdipcemhaomhaa.crush
