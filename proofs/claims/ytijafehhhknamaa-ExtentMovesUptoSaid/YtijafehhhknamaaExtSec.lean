/- The sectors of extents, as a row of numbers. -/
import Derived.Test.YtijafehhhknamaaRows
import Derived.Test.YtijafehhhknamaaExtIter
import Derived.Laws.AppendOwn
namespace Go.Proofs.Ytijafehhhknamaa.ext
open Go.RowKit
open Go.Proofs.Ytijafehhhknamaa.kit Go.Proofs.Ytijafehhhknamaa.own Go.Proofs.Ytijafehhhknamaa.iter
set_option linter.unusedVariables false
set_option linter.unusedSimpArgs false
attribute [local go_sem] Oper.semAt_some

/-- 'l = append(l, n)' of one number, in the fence. -/
theorem app1I_in {F : Fence} {n : Nat} {P : Program} {wr : World} {ops : Array Oper} {rest : List Oper} {o : Oper} {a : Act} {Q : Exit → Act → World → Prop} (hgd : o.guard = none) (s x : Operand) (t : TypeId)
    (ho : o.op = .call { callee := .builtin .append, args := #[s, x], argTypes := #[t, t] })
    (B : Nat) (ht : P.underlying t = some (.slice 3)) (hi : (P.info? 3).map (fun i => (i.zero, i.size, i.bytes)) = some (some (.int .i64 0), 1, 8))
    (v : Value) (ns : List Int) (hs : a.eval s = v) (hown : Own ic 1 3 wr B v ns) (z : Int) (k : Nat) (hn : k = wr.heap.size) (hx : a.eval x = .slice (some ⟨k, 0, none⟩) 1 1)
    (h63 : ns.length + 1 ≤ maxLen) (hb : (ns.length + 1) * 8 ≤ 140737488355328) (hB : B ≤ wr.heap.size)
    (h : ∀ v' w', Own ic 1 3 w' B v' (ns ++ [z]) → Kept B 3 wr w' → wpListIn F n P ops Q rest (a.put o.dst v') w') : wpListIn F n P ops Q (o :: rest) a (wr.alloc (.cells #[.int .i64 z] 3)) := by
  subst hn
  obtain ⟨i0, hi, hz0, hz1, hz2⟩ := info_parts hi
  have hown2 : Own ic 1 3 (wr.alloc (.cells #[.int .i64 z] 3)) B v ns := hown.below ((Below.refl _ _).alloc (Nat.le_refl _) _)
  refine wpListIn_append_own _ hgd s x t ho B 3 i0 (.int .i64 0) 1 8 ht hi hz0 hz1 hz2 rfl (by decide) v ns.length (ns.flatMap ic) hs hown2 ⟨wr.heap.size, 0, none⟩ 1 1 [.int .i64 z] hx rfl ?_ ?_ h63 hb (by simp; omega) ?_
  · intro j u hj
    match j, hj with
    | 0, hj => simp at hj; subst hj; rw [add_plain', World.cell?_alloc_at _ _ _ _ rfl]; rfl
  · intro u hu; simp at hu; subst hu; rfl
  · intro v' w' hown' hg _
    refine h v' w' ?_ ((Kept.of_below hB ((Below.refl _ _).alloc (Nat.le_refl _) _)).trans (Kept.grown (by simp; omega) hown2 hg))
    unfold Own
    rw [List.length_append, List.flatMap_append]
    exact hown'
theorem below_putObj {B : Nat} {w W : World} (h : Below B w W) (l : Nat) (o : Obj) (hl : B ≤ l) : Below B w (W.putObj l o) :=
  ⟨h.os, h.tape, h.output, by rw [World.putObj_size]; exact h.size, fun j hj => (World.putObj_heap_other (by omega)).trans (h.block j hj)⟩
theorem results_tmp {P : Program} {fn : Func} {t : Tmp} (h : fn.results = #[.tmp t]) (tmps : Array Value) (w : World) : (results fn tmps).run P w = .ok (tmps.getD t undef) w := by
  simp [results, h]
theorem Own.setOther {α : Type} {enc : α → List Value} {k e B : Nat} {W : World} {v : Value} {xs : List α} (h : Own enc k e W B v xs) {N : Nat} (hN : v.ownBlock ≠ some N) (o : Nat) (u : Value) : Own enc k e (W.setCell ⟨N, o, none⟩ u) B v xs := by
  obtain ⟨h1, h2⟩ := id h
  refine ⟨h1, ?_⟩
  rcases h2 with ⟨rfl, h0⟩ | ⟨g, cap, cur, rfl, hB, hg, hr⟩
  · exact .inl ⟨rfl, h0⟩
  · have hne : g ≠ N := fun e => hN (by rw [e]; rfl)
    exact .inr ⟨g, cap, cur, rfl, hB, (heap_setCell_other _ _ _ _ hne).trans hg, hr⟩
/-- The boxes of 'Sectors'. -/
structure SBx (N : Nat) (w : World) (vl vo : Value) (out : List Int) (W : World) : Prop where
  bel : Below N w W
  box : W.heap[N]? = some (Obj.cells #[vo] 40 (0, 0))
  own : Own ic 1 3 W (N + 2) vo out
  lst : W.heap[N + 1]? = some (Obj.cells #[vl] 22 (0, 0))
theorem SBx.lt {N : Nat} {w : World} {vl vo : Value} {out : List Int} {W : World} (h : SBx N w vl vo out W) : N + 1 < W.heap.size := (Array.getElem?_eq_some_iff.1 h.lst).1
theorem SBx.keep {N : Nat} {w : World} {vl vo : Value} {out : List Int} {W W' : World} (h : SBx N w vl vo out W) (hb : Below W.heap.size W W') : SBx N w vl vo out W' := by
  have hl := h.lt
  exact ⟨h.bel.trans (hb.mono (by omega)), (hb.block _ (by omega)).trans h.box, h.own.below hb, (hb.block _ (by omega)).trans h.lst⟩
theorem Own.putObj {α : Type} {enc : α → List Value} {k e B : Nat} {W : World} {v : Value} {xs : List α} (h : Own enc k e W B v xs) (l : Nat) (o : Obj) (hnc : ∀ c t f, W.heap[l]? ≠ some (Obj.cells c t f)) : Own enc k e (W.putObj l o) B v xs := by
  obtain ⟨h1, h2⟩ := id h
  refine ⟨h1, ?_⟩
  rcases h2 with ⟨rfl, h0⟩ | ⟨g, cap, cur, rfl, hB, hg, hr⟩
  · exact .inl ⟨rfl, h0⟩
  · have hne : g ≠ l := by rintro rfl; exact hnc _ _ _ hg
    exact .inr ⟨g, cap, cur, rfl, hB, (World.putObj_heap_other hne).trans hg, hr⟩
theorem SBx.putObj {N : Nat} {w : World} {vl vo : Value} {out : List Int} {W : World} (h : SBx N w vl vo out W) (l : Nat) (o : Obj) (hl : N + 2 ≤ l) (hnc : ∀ c t f, W.heap[l]? ≠ some (Obj.cells c t f)) : SBx N w vl vo out (W.putObj l o) :=
  ⟨below_putObj h.bel l o (by omega), (World.putObj_heap_other (by omega)).trans h.box, h.own.putObj l o hnc, (World.putObj_heap_other (by omega)).trans h.lst⟩
/-- A row of numbers is handed back. -/
def NumS (w : World) (ns : List Int) (e : Ending) (w' : World) : Prop := ∃ v, e = .returned v ∧ Own ic 1 3 w' w.heap.size v ns ∧ Below w.heap.size w w'

set_option maxHeartbeats 4000000 in
theorem sectors_any (v : Value) (a : Option Addr) (n c : Nat) (hv : v = .slice a n c) (w : World) : Calls Try.prog 40 #[v] w fun e w' =>
    e = .returned (.func (.func 48) #[] #[.pointer (some ⟨w.heap.size, 0, none⟩)]) ∧ w' = w.alloc (.cells #[v] 22) := by
  subst hv
  have hmf : ∀ (fn : Fn) (first cap : Array Value) (w : World), (Instr.makeFunc fn first cap).run Try.prog w = .ok (.func fn first cap) w := fun _ _ _ _ => rfl
  go_enter Try.func40, Try.ntmps40
  go_wp2
  go_ret
  exact ⟨rfl, rfl⟩

set_option maxHeartbeats 8000000 in
set_option maxRecDepth 100000 in
theorem Sectors_any (v : Value) (xs : List Wy) (w : World) (h : Sl wc 2 w v xs) (hf : ∀ x ∈ xs, Fine x) (hlen : (secE xs).length ≤ 1000000000) : Calls Try.prog 21 #[v] w (NumS w (secE xs)) := by
  obtain ⟨hl, a, cap, rfl, -, -⟩ := id h
  have HS := Lib.hid h; have HFn := Lib.hid hf; have HLn := Lib.hid hlen
  clear h hf hlen hl
  refine (callsIn_wide (n := 0)).1 ?_
  refine callsIn_of_wp_marks Try.func21 rfl trivial ?_ rfl
  simp only [Try.ntmps21, List.size_toArray, List.length_cons, List.length_nil, Nat.reduceAdd, Nat.reduceSub, Array.replicate_succ, Array.replicate_zero, List.push_toArray, List.append_toArray, List.nil_append, List.cons_append]
  gi_wp2_with (refine ⟨trivial, rfl, ?_⟩; gi_at_call 40; refine (callsIn_wide.2 (sectors_any _ a xs.length cap rfl _)).mono ?_; rintro e w' ⟨rfl, rfl⟩)
  have hs0 : ((w.alloc (.cells #[.slice none 0 0] 40)).alloc (.cells #[.slice a xs.length cap] 22)).heap.size = w.heap.size + 2 := by simp
  have hb1 := below_new w (.cells #[.slice none 0 0] 40)
  have hb2 := below_new (w.alloc (.cells #[.slice none 0 0] 40)) (.cells #[.slice a xs.length cap] 22)
  have hg0 : SBx w.heap.size w (.slice a xs.length cap) (.slice none 0 0) [] ((w.alloc (.cells #[.slice none 0 0] 40)).alloc (.cells #[.slice a xs.length cap] 22)) := by
    refine ⟨hb1.trans (hb2.mono (by simp)), ?_, Own.nil _ _ _, ?_⟩
    · exact (hb2.block _ (by simp)).trans (alloc_at w _)
    · have := alloc_at (w.alloc (.cells #[.slice none 0 0] 40)) (.cells #[.slice a xs.length cap] 22)
      rw [World.size_alloc] at this
      exact this
  generalize (w.alloc (.cells #[.slice none 0 0] 40)).alloc (.cells #[.slice a xs.length cap] 22) = W0 at hs0 hg0 ⊢
  obtain ⟨N, hN⟩ : ∃ N, w.heap.size = N := ⟨_, rfl⟩
  have HN := Lib.hid hN
  rw [hN] at hs0 hg0 ⊢
  clear hb1 hb2
  refine range_stmt (n := 0) (gf := 48) (lb := #[.pointer (some ⟨N + 1, 0, none⟩)])
    (I := fun W => ∃ vo, SBx N w (.slice a xs.length cap) vo (secE xs) W) (X := fun _ => False)
    rfl (enters_of Try.func48 (by kernel_rfl) rfl) ?hit ?hdone ?hstop
  case hit =>
    intro fn rec hrec
    simp only [hs0] at hrec ⊢
    refine (sectors1_any (N + 2 + 1) (N + 1) xs (.slice a xs.length cap) (I := fun k W => ∃ vo, SBx N w (.slice a xs.length cap) vo ((secE xs).take k) W ∧ Book W (N + 2) (rec .ready none)) HFn.out ?cells ?below ?yield _ ?start).mono ?post
    case cells => exact fun i W ⟨vo, h, _⟩ => ⟨box_cell h.lst, HS.out.keep (by rw [HN.out]; exact h.bel)⟩
    case below => 
      rintro i W W' ⟨vo, h1, ⟨h2, h3⟩⟩ hb
      exact ⟨vo, h1.keep hb, (hb.block _ (Array.getElem?_eq_some_iff.1 h2).1).trans h2, (hb.block _ (Array.getElem?_eq_some_iff.1 h3).1).trans h3⟩
    case start =>
      have b1 : Below W0.heap.size W0 ((W0.alloc (.deferred (some []))).alloc (.loop (rec .ready none))) := ((Below.refl _ W0).alloc (Nat.le_refl _) _).alloc (by simp) _
      refine ⟨_, hg0.keep b1, ?_, ?_⟩
      · have := World.alloc_heap_new (W0.alloc (.deferred (some []))) (.loop (rec .ready none))
        rw [World.size_alloc, hs0] at this
        exact this
      · simp only [alloc_heap, Array.getElem?_push, Array.size_push, hs0]; simp
    case post =>
      rintro e W ⟨hv, vo, h1, h2⟩
      rw [List.take_length] at h1
      exact ⟨hv, .inl ⟨⟨vo, h1⟩, h2⟩⟩
    case yield =>
      rintro i W hi ⟨vo, hsb, hbk⟩
      refine yield_round hrec (Rt := fun W' => (∃ vo, SBx N w (.slice a xs.length cap) vo ((secE xs).take (i + 1)) W' ∧ Book W' (N + 2) (rec .ready none)) ∧ KeepE W W') (Rf := fun _ => False) hbk rfl ?_ |>.mono ?_
      · have HG := Lib.hid hsb; have HB := Lib.hid hbk
        have htk : (secE xs).take (i + 1) = (secE xs).take i ++ [(secE xs)[i]] := List.take_succ_eq_append_getElem hi
        obtain ⟨z, hz⟩ : ∃ z, (secE xs)[i] = z := ⟨_, rfl⟩
        rw [hz] at htk ⊢
        have HTk := Lib.hid htk
        have HIl : Hid (((secE xs).take i).length ≤ 1000000000) := Lib.hid (by rw [List.length_take]; have := HLn.out; omega)
        obtain ⟨ax, cx, rfl⟩ := hsb.own.slice
        obtain ⟨m, hm⟩ : ∃ m, ((secE xs).take i).length = m := ⟨_, rfl⟩
        have HM := Lib.hid hm
        rw [hm] at HG
        clear hrec hsb hbk hs0 hg0 htk hz hm
        gi_wp2
        refine ⟨HB.out.1, ?_⟩
        have hnc : ∀ c t f, W.heap[N + 2 + 1]? ≠ some (Obj.cells c t f) := fun c t f e => by rw [HB.out.1] at e; cases e
        have hl6 := (Array.getElem?_eq_some_iff.1 HB.out.1).1
        have hg3 := HG.out.putObj (N + 2 + 1) (.loop (rec .busy none)) (by omega) hnc
        have hl3 := World.putObj_heap_same (o := .loop (rec .busy none)) hl6
        have hd3 : (W.putObj (N + 2 + 1) (.loop (rec .busy none))).heap[N + 2]? = some (.deferred (some [])) := (World.putObj_heap_other (by omega)).trans HB.out.2
        have hke3 : KeepE W (W.putObj (N + 2 + 1) (.loop (rec .busy none))) := fun b cs hb => (World.putObj_heap_other (fun e => hnc _ _ _ (by rw [← e]; exact hb))).trans hb
        generalize W.putObj (N + 2 + 1) (.loop (rec .busy none)) = W3 at hg3 hl3 hd3 hke3 ⊢
        have k0 := box_cell hg3.box
        have HG3 := Lib.hid hg3; have HL3 := Lib.hid hl3; have HD3 := Lib.hid hd3; have HKe := Lib.hid hke3
        clear hnc hl6 hg3 hl3 hd3 hke3 HG
        have HO3 := Lib.hid HG3.out.own
        have HE9 : Hid (((secE xs).take i ++ [z]).length = m + 1) := Lib.hid (by rw [List.length_append, HM.out]; rfl)
        have HLt := Lib.hid HG3.out.lt
        gi_wp2_with (gi_at_builtin; refine app1I_in rfl (.tmp 8) (.tmp 10) 40 rfl (N + 2) Try.underlying40 infoInt _ ((secE xs).take i) rfl HO3.out z _ rfl rfl (by have := HIl.out; unfold maxLen; omega) (by have := HIl.out; omega) (by have := HLt.out; omega) ?_; intro v9 w9 ho9 hk9; obtain ⟨x9, y9, hv9⟩ := ho9.slice; rw [HE9.out] at hv9; subst hv9; have cN : w9.cell? ⟨N, 0, none⟩ = some (.slice ax m cx) := (by simp [World.cell?, hk9.below N (by omega), HG3.out.box]); have fN : w9.frozen? ⟨N, 0, none⟩ = false := (by simp [World.frozen?, hk9.below N (by omega), HG3.out.box]); have HO9 := Lib.hid ho9; have HK9 := Lib.hid hk9; clear ho9 hk9 k0)
        have hblk : ∀ g, (Value.slice x9 (m + 1) y9).ownBlock = some g → N + 2 ≤ g := fun g hg => (HO9.out.blk g hg).1
        have HO5 := Lib.hid (Own.setOther HO9.out (N := N) (fun e => by have := hblk N e; omega) 0 (.slice x9 (m + 1) y9))
        have hb9 : w9.heap[N]? = some (Obj.cells #[.slice ax m cx] 40 (0, 0)) := (HK9.out.below N (by omega)).trans HG3.out.box
        have hl9 : w9.heap[N + 1]? = some (Obj.cells #[.slice a xs.length cap] 22 (0, 0)) := (HK9.out.below (N + 1) (by omega)).trans HG3.out.lst
        have hr9 : w9.heap[N + 2 + 1]? = some (.loop (rec .busy none)) := (HK9.out.other (N + 2 + 1) (Array.getElem?_eq_some_iff.1 HL3.out).1 (fun c f e => by rw [HL3.out] at e; cases e)).trans HL3.out
        have hd9 : w9.heap[N + 2]? = some (.deferred (some [])) := (HK9.out.other (N + 2) (Array.getElem?_eq_some_iff.1 HD3.out).1 (fun c f e => by rw [HD3.out] at e; cases e)).trans HD3.out
        have hke9 : KeepE W w9 := fun b cs hb => HK9.out.box (by decide) (HKe.out b cs hb)
        have hg5 : SBx N w (.slice a xs.length cap) (.slice x9 (m + 1) y9) ((secE xs).take (i + 1)) (w9.setCell ⟨N, 0, none⟩ (.slice x9 (m + 1) y9)) := by
          refine ⟨?_, by simpa using heap_setCell_same w9 N 0 _ _ (.slice x9 (m + 1) y9) hb9, by rw [HTk.out]; exact HO5.out, (heap_setCell_other w9 ⟨N, 0, none⟩ (N + 1) _ (by show N + 1 ≠ N; omega)).trans hl9⟩
          have hbk : Below N w w9 := HG3.out.bel.trans (HK9.out.toBelow.mono (by omega))
          exact hbk.setCell (p := ⟨N, 0, none⟩) (Nat.le_refl _) _
        have hl4 := (heap_setCell_other w9 ⟨N, 0, none⟩ (N + 2 + 1) (.slice x9 (m + 1) y9) (by show N + 2 + 1 ≠ N; omega)).trans hr9
        have hd4 := (heap_setCell_other w9 ⟨N, 0, none⟩ (N + 2) (.slice x9 (m + 1) y9) (by show N + 2 ≠ N; omega)).trans hd9
        have hke5 : KeepE W ((w9.setCell ⟨N, 0, none⟩ (.slice x9 (m + 1) y9)).putObj (N + 2 + 1) (.loop (rec .ready none))) := fun b cs hb => by
          have h9 := hke9 b cs hb
          have n1 : b ≠ N := by rintro rfl; rw [hb9] at h9; cases h9
          have n2 : b ≠ N + 2 + 1 := by rintro rfl; rw [hr9] at h9; cases h9
          exact (World.putObj_heap_other n2).trans ((heap_setCell_other w9 ⟨N, 0, none⟩ b _ n1).trans h9)
        have hnc5 : ∀ c t f, (w9.setCell ⟨N, 0, none⟩ (.slice x9 (m + 1) y9)).heap[N + 2 + 1]? ≠ some (Obj.cells c t f) := fun c t f e => by rw [hl4] at e; cases e
        exact ⟨hl4, ⟨_, hg5.putObj (N + 2 + 1) _ (by omega) hnc5, World.putObj_heap_same (Array.getElem?_eq_some_iff.1 hl4).1, (World.putObj_heap_other (by omega)).trans hd4⟩, hke5⟩
      · rintro e W' (⟨he, h⟩ | ⟨_, h⟩)
        · exact ⟨he, h.1, h.2⟩
        · exact h.elim
  case hdone =>
    rintro W r r' ⟨vo, hgb⟩ hb
    simp only [hs0]
    have hbl := hb.1
    have hbd := hb.2
    simp only [hs0] at hbl hbd
    have hnc : ∀ c t f, W.heap[N + 2 + 1]? ≠ some (Obj.cells c t f) := fun c t f e => by rw [hbl] at e; cases e
    have hk : (W.putObj (N + 2 + 1) (.loop r')).heap[N + 2]? = some (.deferred (some [])) := (World.putObj_heap_other (by omega)).trans hbd
    have hg2 := hgb.putObj (N + 2 + 1) (.loop r') (by omega) hnc
    clear hgb hb hg0 hbl hbd hnc
    generalize W.putObj (N + 2 + 1) (.loop r') = W3 at hk hg2 ⊢
    obtain ⟨ax, cx, rfl⟩ := hg2.own.slice
    have k0 := box_cell hg2.box
    have HG3 := Lib.hid hg2; have HD3 := Lib.hid hk
    clear hg2 hk
    gi_wp2
    have hg5 := HG3.out.putObj (N + 2) (.deferred none) (by omega) (fun c t f e => by rw [HD3.out] at e; cases e)
    refine ⟨by simp, .inl ⟨_, _, rfl, run_takeDeferred HD3.out, ?_⟩⟩
    refine ⟨_, results_tmp rfl _ _, _, rfl, hg5.own.mono (by rw [HN.out]; omega), by rw [HN.out]; exact hg5.bel⟩
  case hstop => exact fun W r r' h _ => h.elim

end Go.Proofs.Ytijafehhhknamaa.ext
