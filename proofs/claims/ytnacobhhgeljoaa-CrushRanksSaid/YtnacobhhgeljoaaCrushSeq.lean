/- slices.AppendSeq, Collect of straws: the straws of a list as a row of the call's own. -/
import Derived.Test.YtnacobhhgeljoaaRows
import Derived.Test.YtnacobhhgeljoaaCrushChoose
namespace Go.Proofs.Ytnacobhhgeljoaa.crush
open Go.RowKit
open Go.Proofs.Ytnacobhhgeljoaa.kit Go.Proofs.Ytnacobhhgeljoaa.own Go.Proofs.Ytnacobhhgeljoaa.iter Go.Proofs.Ytnacobhhgeljoaa.heldin
set_option linter.unusedVariables false
attribute [local go_sem] Oper.semAt_some

/-- The straws of the first n items. -/
def strP (x : Nat) (r : Int) (xs : List It) : Nat → List Str
  | 0 => []
  | n + 1 => if wtN (xs.getD n (0, 0)).2 = 0 then strP x r xs n else strP x r xs n ++ [strA x r n (xs.getD n (0, 0))]
theorem strP_len (x : Nat) (r : Int) (xs : List It) : ∀ n, (strP x r xs n).length ≤ n
  | 0 => Nat.le_refl _
  | n + 1 => by
    have := strP_len x r xs n
    simp only [strP]
    split
    · omega
    · rw [List.length_append]; simp; omega

/-- 'l = append(l, y)' of one row, in the fence. -/
theorem app1G_in {α : Type} {enc : α → List Value} {k : Nat} (hk : ∀ x, (enc x).length = k) (h1 : ∀ x, ∀ v ∈ enc x, v.oneCell' = true) (hk0 : 0 < k) {F : Fence} {n : Nat} {P : Program} {wr : World} {ops : Array Oper} {rest : List Oper} {o : Oper} {a : Act} {Q : Exit → Act → World → Prop} (hgd : o.guard = none) (s x : Operand) (t : TypeId)
    (ho : o.op = .call { callee := .builtin .append, args := #[s, x], argTypes := #[t, t] })
    (B e : Nat) (z : Value) (hz : z.cells.size = k) (bytes : Nat) (ht : P.underlying t = some (.slice e)) (hi : (P.info? e).map (fun i => (i.zero, i.size, i.bytes)) = some (some z, k, bytes))
    (v : Value) (xs : List α) (hs : a.eval s = v) (hown : Own enc k e wr B v xs) (y : α) (cs : Array Value) (hcs : cs = (enc y).toArray) (kk : Nat) (hn : kk = wr.heap.size) (hx : a.eval x = .slice (some ⟨kk, 0, none⟩) 1 1)
    (h63 : xs.length + 1 ≤ maxLen) (hb : (xs.length + 1) * bytes ≤ 140737488355328) (hB : B ≤ wr.heap.size)
    (h : ∀ v' w', Own enc k e w' B v' (xs ++ [y]) → Kept B e wr w' → wpListIn F n P ops Q rest (a.put o.dst v') w') : wpListIn F n P ops Q (o :: rest) a (wr.alloc (.cells cs e)) := by
  subst hn hcs
  obtain ⟨i0, hi, hz0, hz1, hz2⟩ := info_parts hi
  have hown2 : Own enc k e (wr.alloc (.cells (enc y).toArray e)) B v xs := hown.below ((Below.refl _ _).alloc (Nat.le_refl _) _)
  refine wpListIn_append_own _ hgd s x t ho B e i0 z k bytes ht hi hz0 hz1 hz2 hz hk0 v xs.length (xs.flatMap enc) hs hown2 ⟨wr.heap.size, 0, none⟩ 1 1 (enc y) hx (by rw [hk, Nat.one_mul]) ?_ (h1 y) h63 hb (by simp; omega) ?_
  · intro j u hj
    rw [add_plain', World.cell?_alloc_at _ _ _ _ rfl, Nat.zero_add]
    simpa using hj
  · intro v' w' hown' hg _
    refine h v' w' ?_ ((Kept.of_below hB ((Below.refl _ _).alloc (Nat.le_refl _) _)).trans (Kept.grown (by simp; omega) hown2 hg))
    unfold Own
    rw [List.length_append, List.flatMap_append]
    simpa using hown'

/-- The boxes of 'AppendSeq'. -/
structure VBx (N : Nat) (w : World) (vo : Value) (out : List Str) (lp : Obj) (W : World) : Prop where
  bel : Below N w W
  box : W.heap[N]? = some (Obj.cells #[vo] 52 (0, 0))
  own : Own sc 4 42 W (N + 1) vo out
  df : W.heap[N + 1]? = some (.deferred (some []))
  lp : W.heap[N + 1 + 1]? = some lp
section
variable {N : Nat} {w : World} {vo : Value} {out : List Str} {lp : Obj} {lr : Loop} {W W' : World}
theorem VBx.lt (h : VBx N w vo out lp W) : N + 1 + 1 < W.heap.size := (Array.getElem?_eq_some_iff.1 h.lp).1
theorem VBx.keep (h : VBx N w vo out lp W) (hb : Below W.heap.size W W') : VBx N w vo out lp W' := by
  have hl := h.lt
  exact ⟨h.bel.trans (hb.mono (by omega)), (hb.block _ (by omega)).trans h.box, h.own.below hb, (hb.block _ (by omega)).trans h.df, (hb.block _ (by omega)).trans h.lp⟩
theorem VBx.putLp (h : VBx N w vo out (.loop lr) W) (o : Obj) : VBx N w vo out o (W.putObj (N + 1 + 1) o) :=
  ⟨below_putObj' h.bel _ _ (by omega), (World.putObj_heap_other (by omega)).trans h.box, h.own.putObj _ _ (fun c t f e => by rw [h.lp] at e; cases e), (World.putObj_heap_other (by omega)).trans h.df, World.putObj_heap_same h.lt⟩
/-- Behind an append and the store of the new slice. -/
theorem VBx.grow (h : VBx N w vo out (.loop lr) W) {w9 : World} {v9 : Value} {y : Str} (ho : Own sc 4 42 w9 (N + 1) v9 (out ++ [y])) (hk : Kept (N + 1) 42 W w9) : VBx N w v9 (out ++ [y]) (.loop lr) (w9.setCell ⟨N, 0, none⟩ v9) := by
  have hb9 : w9.heap[N]? = some (Obj.cells #[vo] 52 (0, 0)) := (hk.below N (by omega)).trans h.box
  refine ⟨(h.bel.trans (hk.toBelow.mono (by omega))).setCell (p := ⟨N, 0, none⟩) (Nat.le_refl _) _, by simpa using heap_setCell_same w9 N 0 _ _ v9 hb9, Own.setOther ho (fun e => by have := (ho.blk N e).1; omega) 0 v9, ?_, ?_⟩
  · exact (heap_setCell_other _ _ _ _ (by show N + 1 ≠ N; omega)).trans ((hk.other _ (Array.getElem?_eq_some_iff.1 h.df).1 (fun c f e => by rw [h.df] at e; cases e)).trans h.df)
  · exact (heap_setCell_other _ _ _ _ (by show N + 1 + 1 ≠ N; omega)).trans ((hk.other _ h.lt (fun c f e => by rw [h.lp] at e; cases e)).trans h.lp)
end
/-- A row of straws is handed back. -/
def StrO (w : World) (out : List Str) (e : Ending) (w' : World) : Prop := ∃ v, e = .returned v ∧ Own sc 4 42 w' w.heap.size v out ∧ Below w.heap.size w w'

set_option maxHeartbeats 8000000 in
set_option maxRecDepth 100000 in
theorem appendSeq_any (b0 b1 b2 : Nat) (x : Nat) (hx : x < 4294967296) (r : Int) (xs : List It) (v : Value) (hlx : xs.length ≤ 1000000000) (w : World) (h0 : w.cell? ⟨b0, 0, none⟩ = some v) (h1 : w.cell? ⟨b1, 0, none⟩ = some (.int .u32 x)) (h2 : w.cell? ⟨b2, 0, none⟩ = some (.int .i64 r)) (hs : Sl wc 2 w v xs) :
    Calls Try.prog 46 #[.slice none 0 0, .func (.func 30) #[] #[.pointer (some ⟨b0, 0, none⟩), .pointer (some ⟨b1, 0, none⟩), .pointer (some ⟨b2, 0, none⟩)]] w (StrO w (strP x r xs xs.length)) := by
  have HLn := Lib.hid hlx; have HXl := Lib.hid hx
  have HC : Hid (∀ W, Below w.heap.size w W → W.cell? ⟨b0, 0, none⟩ = some v ∧ W.cell? ⟨b1, 0, none⟩ = some (.int .u32 x) ∧ W.cell? ⟨b2, 0, none⟩ = some (.int .i64 r) ∧ Sl wc 2 W v xs) := Lib.hid (fun W hW => ⟨(hW.cell (p := ⟨b0, 0, none⟩) (cell_lt h0)).trans h0, (hW.cell (p := ⟨b1, 0, none⟩) (cell_lt h1)).trans h1, (hW.cell (p := ⟨b2, 0, none⟩) (cell_lt h2)).trans h2, hs.keep hW⟩)
  clear hs h0 h1 h2 hlx hx
  refine (callsIn_wide (n := 0)).1 ?_
  refine callsIn_of_wp_marks Try.func46 rfl trivial ?_ rfl
  simp only [Try.ntmps46, List.size_toArray, List.length_cons, List.length_nil, Nat.reduceAdd, Nat.reduceSub, Array.replicate_succ, Array.replicate_zero, List.push_toArray, List.append_toArray, List.nil_append, List.cons_append]
  gi_wp2
  obtain ⟨W0, hW0⟩ : ∃ W0, w.alloc (.cells #[.slice none 0 0] 52) = W0 := ⟨_, rfl⟩
  have hs0 : W0.heap.size = w.heap.size + 1 := by rw [← hW0]; simp
  have hst : ∀ lp W, Below W0.heap.size W0 W → W.heap[w.heap.size + 1]? = some (.deferred (some [])) → W.heap[w.heap.size + 1 + 1]? = some lp → VBx w.heap.size w (.slice none 0 0) [] lp W := by
    intro lp W hb hd hl
    have hbw : Below w.heap.size w W0 := by rw [← hW0]; exact below_new w _
    have hbx : W0.heap[w.heap.size]? = some (Obj.cells #[.slice none 0 0] 52 (0, 0)) := by rw [← hW0]; exact alloc_at w _
    exact ⟨hbw.trans (hb.mono (by omega)), (hb.block _ (by omega)).trans hbx, Own.nil _ _ _, hd, hl⟩
  rw [hW0]
  have HSt := Lib.hid hst
  obtain ⟨N, hN⟩ : ∃ N, w.heap.size = N := ⟨_, rfl⟩
  have HN := Lib.hid hN
  rw [hN] at HSt hs0 HC ⊢
  clear hst hN hW0
  refine range_stmt (n := 0) (gf := 30) (lb := #[.pointer (some ⟨b0, 0, none⟩), .pointer (some ⟨b1, 0, none⟩), .pointer (some ⟨b2, 0, none⟩)])
    (I := fun W => ∃ vo lr, VBx N w vo (strP x r xs xs.length) (.loop lr) W) (X := fun _ => False)
    rfl (enters_of Try.func30 (by kernel_rfl) rfl) ?hit ?hdone ?hstop
  case hit =>
    intro fn rec hrec
    simp only [hs0] at hrec ⊢
    refine (straws1_any (N + 1 + 1) b0 b1 b2 x HXl.out r xs v (I := fun k W => ∃ vo, VBx N w vo (strP x r xs k) (.loop (rec .ready none)) W) HLn.out ?cells ?below ?skip ?yield _ ?start).mono ?post
    case cells => exact fun i W ⟨vo, h⟩ => HC.out W h.bel
    case below => exact fun i W W' ⟨vo, h⟩ hb => ⟨vo, h.keep hb⟩
    case skip =>
      rintro i W hi hz ⟨vo, h⟩
      refine ⟨vo, ?_⟩
      have e : strP x r xs (i + 1) = strP x r xs i := by simp only [strP]; rw [if_pos]; simpa [List.getD, hi] using hz
      rw [e]
      exact h
    case start =>
      have b1 : Below W0.heap.size W0 ((W0.alloc (.deferred (some []))).alloc (.loop (rec .ready none))) := ((Below.refl _ W0).alloc (Nat.le_refl _) _).alloc (by simp) _
      refine ⟨_, HSt.out _ _ b1 ?_ ?_⟩
      · simp only [alloc_heap, Array.getElem?_push, Array.size_push, hs0]; simp
      · have := World.alloc_heap_new (W0.alloc (.deferred (some []))) (.loop (rec .ready none))
        rw [World.size_alloc, hs0] at this
        exact this
    case post =>
      rintro e W ⟨hv, vo, h1⟩
      exact ⟨hv, .inl ⟨⟨vo, _, h1⟩, h1.lp, h1.df⟩⟩
    case yield =>
      rintro i W hi hpos ⟨vo, hsb⟩
      refine yield_round hrec (Rt := fun W' => (∃ vo, VBx N w vo (strP x r xs (i + 1)) (.loop (rec .ready none)) W') ∧ KeepI W W') (Rf := fun _ => False) ⟨hsb.lp, hsb.df⟩ rfl ?_ |>.mono ?_
      · have hsuc : strP x r xs (i + 1) = strP x r xs i ++ [strA x r i xs[i]] := by
          simp only [strP]
          rw [if_neg] <;> simp [List.getD, hi]
          omega
        have hlen := strP_len x r xs i
        have hil : i ≤ 1000000000 := by have := HLn.out; omega
        rw [hsuc]
        generalize strA x r i xs[i] = s
        generalize strP x r xs i = out at hsb hlen ⊢
        obtain ⟨ax, cx, rfl⟩ := hsb.own.slice
        have hb4 := below_new W (sbox s)
        have hx4 := alloc_at W (sbox s)
        have hg4 := hsb.keep hb4
        have hke : KeepI W (W.alloc (sbox s)) := fun b cs hb => (hb4.block _ (Array.getElem?_eq_some_iff.1 hb).1).trans hb
        have hM := hsb.lt
        clear hrec hsb hs0 hb4 hsuc hi hpos HSt
        obtain ⟨i1, w1, p1, c1⟩ := s
        simp only [sc, sbox] at hx4 hg4 hke ⊢
        gi_upto_region 3 with fail
        refine ⟨hg4.lp, ?_⟩
        have hg5 := hg4.putLp (.loop (rec .busy none))
        have hx5 : ((W.alloc (.cells #[.int .i64 i1, .int .i64 (w1 : Int), .int .i64 (p1 : Int), .int .i64 (c1 : Int)] 42)).putObj (N + 1 + 1) (.loop (rec .busy none))).heap[W.heap.size]? = some (sbox ⟨i1, w1, p1, c1⟩) := (World.putObj_heap_other (by omega)).trans hx4
        have hke5 : KeepI W ((W.alloc (.cells #[.int .i64 i1, .int .i64 (w1 : Int), .int .i64 (p1 : Int), .int .i64 (c1 : Int)] 42)).putObj (N + 1 + 1) (.loop (rec .busy none))) := fun b cs hc => by
          have h1 := hke b cs hc
          refine (World.putObj_heap_other ?_).trans h1
          rintro rfl
          rw [hg4.lp] at h1
          cases h1
        clear hx4 hg4 hke hM
        generalize (W.alloc (.cells #[.int .i64 i1, .int .i64 (w1 : Int), .int .i64 (p1 : Int), .int .i64 (c1 : Int)] 42)).putObj (N + 1 + 1) (.loop (rec .busy none)) = W5 at hx5 hg5 hke5 ⊢
        generalize W.heap.size = M at hx5 ⊢
        obtain ⟨m0, m1, m2, m3⟩ := sbox_at hx5
        simp only at m1 m2 m3
        have k0 := box_cell hg5.box
        have HG5 := Lib.hid hg5; have HKe := Lib.hid hke5
        have HLe := Lib.hid (Nat.le_trans hlen hil)
        clear hg5 hke5 hx5 hlen hil
        refine wpIn_mono (Q := fun e _ W' => e = .normal ∧ Hid (∃ vo, VBx N w vo (out ++ [⟨i1, w1, p1, c1⟩]) (.loop (rec .busy none)) W') ∧ Hid (KeepI W W')) ?_ ?_
        · have HIl : Hid ((out.length + 1) * 32 ≤ 140737488355328) := Lib.hid (by have := HLe.out; omega)
          have HLt := Lib.hid HG5.out.lt
          obtain ⟨L, hL⟩ : ∃ L, out.length = L := ⟨_, rfl⟩
          have HLL := Lib.hid hL
          have HO5 := Lib.hid HG5.out.own
          rw [hL] at k0 HO5
          clear hL
          gi_wp2_with (gi_at_builtin; refine app1G_in sc_len sc_one (by decide) rfl (.tmp 8) (.tmp 10) 52 rfl (N + 1) 42 _ (by rfl) 32 Try.underlying52 infoStr _ out rfl HO5.out ⟨i1, w1, p1, c1⟩ _ rfl _ rfl rfl (by have := HIl.out; unfold maxLen; omega) HIl.out (by have := HLt.out; omega) ?_; intro v9 w9 ho9 hk9; have hgr := HG5.out.grow ho9 hk9; have hbx9 := (hk9.below N (by omega)).trans HG5.out.box; have hke9 : KeepI W w9 := (fun b cs hc => hk9.box (by decide) (HKe.out b cs hc)); obtain ⟨x9, y9, hv9⟩ := ho9.slice; subst hv9; have cN := box_cell hbx9; have fN := box_frozen hbx9; have HGr := Lib.hid hgr; have HK9 := Lib.hid hke9; have HBx9 := Lib.hid hbx9; clear hgr hke9 hbx9 ho9 hk9 k0)
          have e9 : (out ++ [(⟨i1, w1, p1, c1⟩ : Str)]).length = out.length + 1 := by simp
          rw [e9] at HGr
          refine ⟨Lib.hid ⟨_, HGr.out⟩, Lib.hid (fun b cs hc => ?_)⟩
          have h1 := HK9.out b cs hc
          refine (heap_setCell_other _ _ _ _ ?_).trans h1
          rintro rfl
          rw [HBx9.out] at h1
          cases h1
        · rintro e a8 W8 ⟨rfl, HZ2, HK8⟩
          obtain ⟨vo8, h8⟩ := HZ2.out
          refine ⟨h8.lp, ⟨vo8, h8.putLp _⟩, fun b cs hc => ?_⟩
          have h1 := HK8.out b cs hc
          refine (World.putObj_heap_other ?_).trans h1
          rintro rfl
          rw [h8.lp] at h1
          cases h1
      · rintro e W' (⟨he, h⟩ | ⟨_, h⟩)
        · exact ⟨he, h.1, h.2⟩
        · exact h.elim
  case hdone =>
    rintro W r2 r' ⟨vo, lr, hgb⟩ hb
    simp only [hs0]
    have hg2 := hgb.putLp (.loop r')
    obtain ⟨ax, cx, rfl⟩ := hgb.own.slice
    clear hgb hb
    generalize W.putObj (N + 1 + 1) (.loop r') = W3 at hg2 ⊢
    have k0 := box_cell hg2.box
    have HG3 := Lib.hid hg2
    clear hg2
    gi_wp2
    have hg5 := HG3.out
    refine ⟨by simp, .inl ⟨_, _, rfl, run_takeDeferred hg5.df, ?_⟩⟩
    have ho := hg5.own.putObj (N + 1) (.deferred none) (fun c t f e => by rw [hg5.df] at e; cases e)
    refine ⟨_, results_tmp rfl _ _, _, rfl, ho.mono (by rw [HN.out]; omega), by rw [HN.out]; exact below_putObj' hg5.bel (N + 1) (.deferred none) (by omega)⟩
  case hstop => exact fun _ _ _ h => h.elim

set_option maxHeartbeats 4000000 in
set_option maxRecDepth 100000 in
theorem collect_any (b0 b1 b2 : Nat) (x : Nat) (hx : x < 4294967296) (r : Int) (xs : List It) (v : Value) (hlx : xs.length ≤ 1000000000) (w : World) (h0 : w.cell? ⟨b0, 0, none⟩ = some v) (h1 : w.cell? ⟨b1, 0, none⟩ = some (.int .u32 x)) (h2 : w.cell? ⟨b2, 0, none⟩ = some (.int .i64 r)) (hs : Sl wc 2 w v xs) :
    Calls Try.prog 39 #[.func (.func 30) #[] #[.pointer (some ⟨b0, 0, none⟩), .pointer (some ⟨b1, 0, none⟩), .pointer (some ⟨b2, 0, none⟩)]] w (StrO w (strP x r xs xs.length)) := by
  have HA := Lib.hid (appendSeq_any b0 b1 b2 x hx r xs v hlx w h0 h1 h2 hs)
  clear h0 h1 h2 hs hx hlx
  go_enter Try.func39, Try.ntmps39
  go_wp2_with fail
  refine HA.out.mono ?_
  rintro e w' ⟨v', rfl, ho, hb⟩
  obtain ⟨a9, c9, rfl⟩ := ho.slice
  have HO := Lib.hid ho; have HB := Lib.hid hb
  clear ho hb HA
  go_wp2
  go_ret
  exact ⟨_, rfl, HO.out, HB.out⟩

end Go.Proofs.Ytnacobhhgeljoaa.crush
