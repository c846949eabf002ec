/- The program's place. -/
import Derived.Test.YtngmcolbpdinmaaRows
import Derived.Test.YtngmcolbpdinmaaRuleTry
import Derived.Test.YtngmcolbpdinmaaRuleMath2
import Derived.Scope
import Derived.Test.YtngmcolbpdinmaaHeldRound
namespace Go.Proofs.Ytngmcolbpdinmaa.crush
open Go.RowKit
open Go.Proofs.Ytngmcolbpdinmaa.kit Go.Proofs.Ytngmcolbpdinmaa.own Go.Proofs.Ytngmcolbpdinmaa.iter Go.Proofs.Ytngmcolbpdinmaa.heldin
set_option linter.unusedVariables false
attribute [local go_sem] Oper.semAt_some

/-- The boxes of 'place'. -/
structure TB (N : Nat) (w : World) (vi vn vd : Value) (m : Nat) (x : Nat) (ds : List Int) (vo : Value) (l : List Nat) (W : World) : Prop where
  bel : Below N w W
  pl : PBox W N vi vn vd m
  fb : W.heap[N + 1]? = some (Obj.cells #[vo] 22 (0, 0))
  own : Own ic 1 3 W (N + 5) vo (ints l)
  mt : ∃ arr : Array Value, W.heap[N + 2]? = some (Obj.cells arr 49 (0, 0)) ∧ arr.size = 64 ∧ ∀ j (h : j < l.length), arr[j]? = some (.int .i64 (ds.getD l[j] 0))
  p2 : PBox W (N + 3) vi vn vd m
  xb : W.heap[N + 4]? = some (Obj.cells #[.int .u32 x] 24 (0, 0))
theorem TB.lt {N : Nat} {w : World} {vi vn vd : Value} {m x : Nat} {ds : List Int} {vo : Value} {l : List Nat} {W : World} (h : TB N w vi vn vd m x ds vo l W) : N + 4 < W.heap.size := (Array.getElem?_eq_some_iff.1 h.xb).1
theorem TB.keep {N : Nat} {w : World} {vi vn vd : Value} {m x : Nat} {ds : List Int} {vo : Value} {l : List Nat} {W W' : World} (h : TB N w vi vn vd m x ds vo l W) (hb : Below W.heap.size W W') : TB N w vi vn vd m x ds vo l W' := by
  have hl := h.lt
  obtain ⟨arr, h1, h2, h3⟩ := h.mt
  exact ⟨h.bel.trans (hb.mono (by omega)), h.pl.keep hb, (hb.block _ (by omega)).trans h.fb, h.own.below hb, ⟨arr, (hb.block _ (by omega)).trans h1, h2, h3⟩, h.p2.keep hb, (hb.block _ (by omega)).trans h.xb⟩
theorem TB.putObj {N : Nat} {w : World} {vi vn vd : Value} {m x : Nat} {ds : List Int} {vo : Value} {l : List Nat} {W : World} (h : TB N w vi vn vd m x ds vo l W) (q : Nat) (o : Obj) (hq : N + 5 ≤ q) (hnc : ∀ c t f, W.heap[q]? ≠ some (Obj.cells c t f)) : TB N w vi vn vd m x ds vo l (W.putObj q o) := by
  obtain ⟨arr, h1, h2, h3⟩ := h.mt
  exact ⟨below_putObj h.bel q o (by omega), (World.putObj_heap_other (by omega)).trans h.pl, (World.putObj_heap_other (by omega)).trans h.fb, h.own.putObj q o hnc, ⟨arr, (World.putObj_heap_other (by omega)).trans h1, h2, h3⟩, (World.putObj_heap_other (by omega)).trans h.p2, (World.putObj_heap_other (by omega)).trans h.xb⟩
/-- What has been met. -/
theorem TB.met {N : Nat} {w : World} {vi vn vd : Value} {m x : Nat} {ds : List Int} {vo : Value} {l : List Nat} {W : World} (h : TB N w vi vn vd m x ds vo l W) (j : Nat) (hj : j < l.length) : W.cell? ⟨N + 2, j, none⟩ = some (.int .i64 (ds.getD l[j] 0)) := by
  obtain ⟨arr, h1, h2, h3⟩ := h.mt
  simp only [World.cell?, h1]
  exact h3 j hj
/-- One more domain is written down. -/
theorem TB.note {N : Nat} {w : World} {vi vn vd : Value} {m x : Nat} {ds : List Int} {vo : Value} {l : List Nat} {W : World} (h : TB N w vi vn vd m x ds vo l W) (hl : l.length < 64) (z : Int) :
    TB N w vi vn vd m x ds vo l (W.setCell ⟨N + 2, l.length, none⟩ (.int .i64 z)) ∧ W.cell? ⟨N + 2, l.length, none⟩ ≠ none ∧ W.frozen? ⟨N + 2, l.length, none⟩ = false ∧ (W.setCell ⟨N + 2, l.length, none⟩ (.int .i64 z)).cell? ⟨N + 2, l.length, none⟩ = some (.int .i64 z) := by
  obtain ⟨arr, h1, h2, h3⟩ := h.mt
  have h4 := heap_setCell_same W (N + 2) l.length _ _ (.int .i64 z) h1
  have hl2 : l.length < arr.size := by omega
  refine ⟨⟨h.bel.setCell (p := ⟨N + 2, l.length, none⟩) (by show N ≤ N + 2; omega) _, (heap_setCell_other _ _ _ _ (by show N ≠ N + 2; omega)).trans h.pl, (heap_setCell_other _ _ _ _ (by show N + 1 ≠ N + 2; omega)).trans h.fb, h.own.setOther (fun e => by have := (h.own.blk _ e).1; omega) _ _, ⟨_, h4, by simpa using h2, fun j hj => ?_⟩, (heap_setCell_other _ _ _ _ (by show N + 3 ≠ N + 2; omega)).trans h.p2, (heap_setCell_other _ _ _ _ (by show N + 4 ≠ N + 2; omega)).trans h.xb⟩, ?_, ?_, ?_⟩
  · rw [Array.getElem?_setIfInBounds_ne (by omega)]
    exact h3 j hj
  · simp [World.cell?, h1, hl2]
  · simp [World.frozen?, h1]
  · simp only [World.cell?, h4]
    simp [hl2]
/-- .. and the node is found. -/
theorem TB.grow {N : Nat} {w : World} {vi vn vd : Value} {m x : Nat} {ds : List Int} {vo : Value} {l : List Nat} {W w9 : World} (h : TB N w vi vn vd m x ds vo l W) {v : Nat} (hl : l.length < 64) (hz : W.cell? ⟨N + 2, l.length, none⟩ = some (.int .i64 (ds.getD v 0))) {v9 : Value} (ho : Own ic 1 3 w9 (N + 5) v9 (ints (l ++ [v]))) (hk : Kept (N + 5) 3 W w9) : TB N w vi vn vd m x ds v9 (l ++ [v]) (w9.setCell ⟨N + 1, 0, none⟩ v9) := by
  have hlt := h.lt
  have hb := hk.toBelow
  obtain ⟨arr, h1, h2, h3⟩ := h.mt
  have g (q : Nat) (hq : q < N + 5) : w9.heap[q]? = W.heap[q]? := hk.below q hq
  refine ⟨(h.bel.trans (hb.mono (by omega))).setCell (p := ⟨N + 1, 0, none⟩) (by show N ≤ N + 1; omega) _, (heap_setCell_other _ _ _ _ (by show N ≠ N + 1; omega)).trans ((g N (by omega)).trans h.pl), ?_, ho.setOther (fun e => by have := (ho.blk _ e).1; omega) _ _, ⟨arr, (heap_setCell_other _ _ _ _ (by show N + 2 ≠ N + 1; omega)).trans ((g _ (by omega)).trans h1), h2, fun j hj => ?_⟩, (heap_setCell_other _ _ _ _ (by show N + 3 ≠ N + 1; omega)).trans ((g _ (by omega)).trans h.p2), (heap_setCell_other _ _ _ _ (by show N + 4 ≠ N + 1; omega)).trans ((g _ (by omega)).trans h.xb)⟩
  · have := heap_setCell_same w9 (N + 1) 0 _ _ v9 ((g _ (by omega)).trans h.fb)
    simpa using this
  · rcases Nat.lt_or_ge j l.length with h4 | h4
    · rw [List.getElem_append_left h4]
      exact h3 j h4
    · rw [List.length_append, List.length_singleton] at hj
      obtain rfl : j = l.length := by omega
      rw [List.getElem_append_right (Nat.le_refl _)]
      simp only [Nat.sub_self, List.getElem_singleton]
      simp only [World.cell?, h1] at hz
      exact hz
--PLACE
theorem calm_in (Q : Exit → Act → World → Prop) : ¬ LetsOut (Calm Q) := fun ⟨_, _, h⟩ => h
theorem elemSizeI : ∀ w, (sizeOf 3).run Try.prog w = .ok 1 w := fun w => by
  have h : (Try.prog.info? 3).map (·.size) = some 1 := by kernel_rfl
  cases hq : Try.prog.info? 3 with
  | none => simp [hq] at h
  | some i => simp [sizeOf, typeInfo, hq] at h ⊢; exact h
theorem slice64 (n M : Nat) (hM : M ≤ 64) (w : World) : (Instr.sliceAt 49 (.pointer (some ⟨n, 0, none⟩)) none (some (.int .i64 (M : Int))) none).run Try.prog w = .ok (.slice (some ⟨n, 0, none⟩) M 64) w := by
  have hl : Try.prog.arrayLen 49 = 64 := by kernel_rfl
  have he : Try.prog.elem 49 = 3 := by kernel_rfl
  rw [run_sliceAt_array_h w 49 ⟨n, 0, none⟩ (by kernel_rfl) .i64 (M : Int) (by omega) (by rw [hl]; omega), he, elemSizeI, hl]
  simp [slicedAt, Addr.add, Result.andThen]
theorem tb_start {arr : Array Value} (ha : arr.size = 64) (w : World) (vi vn vd : Value) (m x : Nat) (ds : List Int) :
    TB w.heap.size w vi vn vd m x ds (.slice none 0 0) [] (((((w.alloc (.cells #[vi, vn, vd, .int .i64 m] 36)).alloc (.cells #[.slice none 0 0] 22)).alloc (.cells arr 49)).alloc (.cells #[vi, vn, vd, .int .i64 m] 36)).alloc (.cells #[.int .u32 x] 24)) ∧
    (((((w.alloc (.cells #[vi, vn, vd, .int .i64 m] 36)).alloc (.cells #[.slice none 0 0] 22)).alloc (.cells arr 49)).alloc (.cells #[vi, vn, vd, .int .i64 m] 36)).alloc (.cells #[.int .u32 x] 24)).heap.size = w.heap.size + 5 := by
  refine ⟨⟨((((below_new w _).alloc (by simp) _).alloc (by simp; omega) _).alloc (by simp; omega) _).alloc (by simp; omega) _, ?_, ?_, Own.nil _ _ _, ⟨arr, ?_, ha, fun j h => by simp at h⟩, ?_, ?_⟩, by simp⟩
  all_goals
    (try unfold PBox)
    simp only [alloc_heap, Array.getElem?_push, Array.size_push]
    first | (simp; done) | (simp; omega) | (rw [if_neg (by omega)]; simp; done) | (rw [if_neg (by omega), if_neg (by omega)]; simp; done) | (rw [if_neg (by omega), if_neg (by omega), if_neg (by omega)]; simp; done) | (rw [if_neg (by omega), if_neg (by omega), if_neg (by omega), if_neg (by omega)]; simp; done)
set_option maxHeartbeats 32000000 in
set_option maxRecDepth 100000 in
theorem place_any (v : Value) (its : List It) (nds : List (List It)) (ds : List Int) (m x : Nat) (hx : x < 4294967296) (w : World) (h : PlanR w v its nds ds m) (hl1 : its.length ≤ 65536) (hl2 : nds.length = its.length) (hl3 : ∀ i (h : i < nds.length), nds[i].length ≤ 65536) (hpos : ∀ i (h : i < nds.length), ∀ y ∈ nds[i], 0 ≤ y.1)
    (hds : ∀ r v, tryP its nds x (r : Nat) = some v → v < ds.length) (hdl : ds.length ≤ 65536) (hm : m ≤ 65536) :
    Calls Try.prog 15 #[v, .int .u32 x] w (NumI w (ints (placeF (fun r => tryP its nds x (r : Nat)) ds m 64))) := by
  obtain ⟨vi, vn, vd, rfl, hpl, hd⟩ := h
  obtain ⟨⟨ai, ci, rfl⟩, svs0, hn, -, -⟩ := And.intro hpl.1.slice hpl.2
  obtain ⟨an, cn, rfl⟩ := hn.slice
  obtain ⟨ad, cd, rfl⟩ := hd.slice
  obtain ⟨F, hF⟩ : ∃ F : Nat → List Nat, (fun r => placeF (fun r => tryP its nds x (r : Nat)) ds m r) = F := ⟨_, rfl⟩
  have hF0 : F 0 = [] := by rw [← hF]; rfl
  have HFs : Hid (∀ r, F (r + 1) = if ((F r).length : Int) < (m : Nat) then putO ds (F r) (tryP its nds x (r : Nat)) else F r) := Lib.hid (fun r => by rw [← hF]; rfl)
  have HFl : Hid (∀ r, (F r).length ≤ r) := Lib.hid (fun r => by rw [← hF]; exact (placeF_len _ _ _ r).1)
  have HFe : Hid (∀ r, r ≤ 64 → (((m : Nat) : Int) ≤ ((F r).length : Int)) ∨ (∀ k : Nat, r ≤ k → tryP its nds x (k : Nat) = none) → F 64 = F r) := Lib.hid (fun r hr h => by rw [← hF]; exact placeF_end _ _ _ r hr (by rw [← hF] at h; exact h))
  have HFz : Hid (m = 0 → F 64 = []) := Lib.hid (fun h0 => by
    have := (placeF_len (fun r => tryP its nds x (r : Nat)) ds (m : Nat) 64).2
    rw [← hF]
    show placeF (fun r => tryP its nds x (r : Nat)) ds ((m : Nat) : Int) 64 = []
    exact List.eq_nil_of_length_eq_zero (by omega))
  have hF64 : placeF (fun r => tryP its nds x (r : Nat)) ds m 64 = F 64 := by rw [← hF]
  rw [hF64]
  have HX := Lib.hid hx; have HL1 := Lib.hid hl1; have HL2 := Lib.hid hl2; have HL3 := Lib.hid hl3; have HPo := Lib.hid hpos; have HDs := Lib.hid hds; have HDl := Lib.hid hdl; have HM := Lib.hid hm
  have HPl := Lib.hid hpl; have HD := Lib.hid hd; have HF0 := Lib.hid hF0
  obtain ⟨nl, hnl⟩ : ∃ n, svs0.length = n := ⟨_, rfl⟩
  obtain ⟨dl, hdl0⟩ : ∃ n, ds.length = n := ⟨_, rfl⟩
  have HDe := Lib.hid hdl0
  rw [hnl] at HPl ⊢
  rw [hdl0] at HD hdl HDl HDs ⊢
  clear hpl hn hd hF0 hF64 hx hl1 hl2 hl3 hpos hds hnl hF hdl0
  refine (callsIn_wide (n := 0)).1 ?_
  refine callsIn_of_wp_marks Try.func15 rfl trivial ?_ rfl
  simp only [Try.ntmps15, List.size_toArray, List.length_cons, List.length_nil, Nat.reduceAdd, Nat.reduceSub, Array.replicate_succ, Array.replicate_zero, List.push_toArray, List.append_toArray, List.nil_append, List.cons_append]
  obtain ⟨e1, e2, e3, e4⟩ := (pbox_new w (.slice ai its.length ci) (.slice an nl cn) (.slice ad dl cd) m).cells
  by_cases hm0 : m = 0
  · have hb0 := below_new w (.cells #[.slice ai its.length ci, .slice an nl cn, .slice ad dl cd, .int .i64 m] 36)
    have HB0 := Lib.hid hb0
    have HZ := Lib.hid (HFz.out hm0)
    subst hm0
    clear hb0
    gi_wp2
    refine wpIn_wide.2 (wp_scope_straight ((wpIn_wide (n := 0)).1 ?_))
    gi_wp2
    show LeavesInM _ _ _ _ _ _ _ _ _
    refine ⟨_, results_tmp rfl _ _, ?_⟩
    rw [HZ.out]
    exact ⟨_, rfl, Own.nil _ _ _, HB0.out⟩
  · have hm1 : ¬ (m : Int) = 0 := by omega
    gi_wp2
    refine wpIn_wide.2 (wp_scope_straight ((wpIn_wide (n := 0)).1 ?_))
    gi_wp2
    refine wpIn_wide.2 (wp_label ?_)
    gi_wp2_with (refine ⟨trivial, rfl, ?_⟩; gi_at_call 24; refine (callsIn_wide.2 (tries_any _ _ _ _ _ _)).mono ?_; rintro e w' ⟨rfl, rfl⟩)
    obtain ⟨hg0, hs0⟩ := tb_start (arr := #[.int .i64 0, .int .i64 0, .int .i64 0, .int .i64 0, .int .i64 0, .int .i64 0, .int .i64 0, .int .i64 0, .int .i64 0, .int .i64 0, .int .i64 0, .int .i64 0, .int .i64 0, .int .i64 0, .int .i64 0, .int .i64 0, .int .i64 0, .int .i64 0, .int .i64 0, .int .i64 0, .int .i64 0, .int .i64 0, .int .i64 0, .int .i64 0, .int .i64 0, .int .i64 0, .int .i64 0, .int .i64 0, .int .i64 0, .int .i64 0, .int .i64 0, .int .i64 0, .int .i64 0, .int .i64 0, .int .i64 0, .int .i64 0, .int .i64 0, .int .i64 0, .int .i64 0, .int .i64 0, .int .i64 0, .int .i64 0, .int .i64 0, .int .i64 0, .int .i64 0, .int .i64 0, .int .i64 0, .int .i64 0, .int .i64 0, .int .i64 0, .int .i64 0, .int .i64 0, .int .i64 0, .int .i64 0, .int .i64 0, .int .i64 0, .int .i64 0, .int .i64 0, .int .i64 0, .int .i64 0, .int .i64 0, .int .i64 0, .int .i64 0, .int .i64 0]) rfl w (.slice ai its.length ci) (.slice an nl cn) (.slice ad dl cd) m x ds
    generalize ((((w.alloc (.cells #[.slice ai its.length ci, .slice an nl cn, .slice ad dl cd, .int .i64 m] 36)).alloc (.cells #[.slice none 0 0] 22)).alloc (.cells #[.int .i64 0, .int .i64 0, .int .i64 0, .int .i64 0, .int .i64 0, .int .i64 0, .int .i64 0, .int .i64 0, .int .i64 0, .int .i64 0, .int .i64 0, .int .i64 0, .int .i64 0, .int .i64 0, .int .i64 0, .int .i64 0, .int .i64 0, .int .i64 0, .int .i64 0, .int .i64 0, .int .i64 0, .int .i64 0, .int .i64 0, .int .i64 0, .int .i64 0, .int .i64 0, .int .i64 0, .int .i64 0, .int .i64 0, .int .i64 0, .int .i64 0, .int .i64 0, .int .i64 0, .int .i64 0, .int .i64 0, .int .i64 0, .int .i64 0, .int .i64 0, .int .i64 0, .int .i64 0, .int .i64 0, .int .i64 0, .int .i64 0, .int .i64 0, .int .i64 0, .int .i64 0, .int .i64 0, .int .i64 0, .int .i64 0, .int .i64 0, .int .i64 0, .int .i64 0, .int .i64 0, .int .i64 0, .int .i64 0, .int .i64 0, .int .i64 0, .int .i64 0, .int .i64 0, .int .i64 0, .int .i64 0, .int .i64 0, .int .i64 0, .int .i64 0] 49)).alloc (.cells #[.slice ai its.length ci, .slice an nl cn, .slice ad dl cd, .int .i64 m] 36)).alloc (.cells #[.int .u32 x] 24) = W0 at hg0 hs0 ⊢
    clear e1 e2 e3 e4
    obtain ⟨N, hN⟩ : ∃ N, w.heap.size = N := ⟨_, rfl⟩
    have HN := Lib.hid hN
    rw [hN] at hg0 hs0 ⊢
    simp only [Nat.add_assoc, Nat.reduceAdd]
    have HPk : Hid (∀ W, Below N w W → PlanRd W (.slice ai its.length ci) (.slice an nl cn) its nds ∧ Sl ic 1 W (.slice ad dl cd) ds) := Lib.hid (fun W hW => by rw [← hN] at hW; exact ⟨HPl.out.keep hW, HD.out.keep hW⟩)
    clear hN
    refine range_stmtX (n := 0) (gf := 32) (lb := #[.pointer (some ⟨N + 3, 0, none⟩), .pointer (some ⟨N + 4, 0, none⟩)])
      (I := fun W => ∃ vo, TB N w (.slice ai its.length ci) (.slice an nl cn) (.slice ad dl cd) m x ds vo (F 64) W) (X := fun c W => c = .exit 0 ∧ ∃ vo, TB N w (.slice ai its.length ci) (.slice an nl cn) (.slice ad dl cd) m x ds vo (F 64) W)
      rfl (enters_of Try.func32 (by kernel_rfl) rfl) ?hit ?hdone ?hstop
    case hit =>
      intro fn rec hrec
      simp only [hs0] at hrec ⊢
      refine (tries1_any (N + 5 + 1) (N + 3) (N + 4) x HX.out (.slice ai its.length ci) (.slice an nl cn) (.slice ad dl cd) its nds m
        (I := fun r W => (∃ vo, TB N w (.slice ai its.length ci) (.slice an nl cn) (.slice ad dl cd) m x ds vo (F r) W) ∧ (F r).length < m ∧ Book W (N + 5) (rec .ready none)) (X := fun W => (∃ vo, TB N w (.slice ai its.length ci) (.slice an nl cn) (.slice ad dl cd) m x ds vo (F 64) W) ∧ Book W (N + 5) (rec .done (some (.exit 0)))) HL1.out HL2.out HL3.out HPo.out ?cells ?below ?skip ?yield _ ?start).mono ?post
      case cells =>
        rintro r W ⟨⟨vo, h⟩, _, _⟩
        exact ⟨h.p2, box_cell h.xb, (HPk.out W h.bel).1⟩
      case below =>
        rintro r W W' ⟨⟨vo, h⟩, h2, h3, h4⟩ hb
        exact ⟨⟨vo, h.keep hb⟩, h2, (hb.block _ (Array.getElem?_eq_some_iff.1 h3).1).trans h3, (hb.block _ (Array.getElem?_eq_some_iff.1 h4).1).trans h4⟩
      case skip =>
        rintro r W hr hi ht ⟨h1, h2, h3⟩
        have e : F (r + 1) = F r := by rw [HFs.out r, ht]; split <;> rfl
        rw [e]
        exact ⟨h1, h2, h3⟩
      case start =>
        have b1 : Below W0.heap.size W0 ((W0.alloc (.deferred (some []))).alloc (.loop (rec .ready none))) := ((Below.refl _ W0).alloc (Nat.le_refl _) _).alloc (by simp) _
        refine ⟨⟨_, by rw [HF0.out]; exact hg0.keep b1⟩, by rw [HF0.out]; simp; omega, ?_, ?_⟩
        · have := World.alloc_heap_new (W0.alloc (.deferred (some []))) (.loop (rec .ready none))
          rw [World.size_alloc, hs0] at this
          exact this
        · simp only [alloc_heap, Array.getElem?_push, Array.size_push, hs0]; simp
      case post =>
        rintro e W ⟨hv, (⟨h1, h2, h3⟩ | ⟨r, hr, hp, h1, h2, h3⟩ | h)⟩
        · exact ⟨hv, .inl ⟨h1, h3⟩⟩
        · refine ⟨hv, .inl ⟨?_, h3⟩⟩
          rw [HFe.out r hr (.inr (fun k _ => by unfold tryP; rw [tryP_none (x' := x) (r' := (k : Int)) hp]))]
          exact h1
        · exact ⟨hv, .inr ⟨.exit 0, ⟨rfl, h.1⟩, h.2⟩⟩
      case yield =>
        rintro r W v hr ht ⟨⟨vo, hsb⟩, hlen, hbk⟩
        have HF1 : Hid (F (r + 1) = put1 ds (F r) v) := Lib.hid (by rw [HFs.out r, if_pos (by omega), ht]; rfl)
        have HFm := Lib.hid (HFe.out (r + 1) (by omega))
        have HFr := Lib.hid (HFl.out r)
        have HVd := Lib.hid (HDs.out r v ht)
        refine yield_roundX hrec (Rt := fun W' => (∃ vo, TB N w (.slice ai its.length ci) (.slice an nl cn) (.slice ad dl cd) m x ds vo (F (r + 1)) W') ∧ (F (r + 1)).length < m ∧ Book W' (N + 5) (rec .ready none)) (Rx := fun c W' => c = .exit 0 ∧ (∃ vo, TB N w (.slice ai its.length ci) (.slice an nl cn) (.slice ad dl cd) m x ds vo (F 64) W') ∧ Book W' (N + 5) (rec .done (some c))) hbk rfl ?_ |>.mono ?_
        · generalize F (r + 1) = f1 at HF1 HFm ⊢
          generalize F r = l at HF1 HFr hsb hlen
          have HG := Lib.hid hsb; have HB := Lib.hid hbk
          have hno := hsb.own.slice
          rw [ints_len] at hno
          obtain ⟨ax, cx, rfl⟩ := hno
          obtain ⟨n, hn⟩ : ∃ n, l.length = n := ⟨_, rfl⟩
          have HLn := Lib.hid hn
          rw [hn] at HG HFr hlen
          have HLm := Lib.hid hlen
          clear hrec hsb hbk hs0 hg0 hn ht
          gi_wp2
          refine ⟨HB.out.1, ?_⟩
          have hnc : ∀ c t f, W.heap[N + 5 + 1]? ≠ some (Obj.cells c t f) := fun c t f e => by rw [HB.out.1] at e; cases e
          have hl6 := (Array.getElem?_eq_some_iff.1 HB.out.1).1
          have hg3 := HG.out.putObj (N + 5 + 1) (.loop (rec .busy none)) (by omega) hnc
          have hl3 := World.putObj_heap_same (o := .loop (rec .busy none)) hl6
          have hd3 : (W.putObj (N + 5 + 1) (.loop (rec .busy none))).heap[N + 5]? = some (.deferred (some [])) := (World.putObj_heap_other (by omega)).trans HB.out.2
          generalize W.putObj (N + 5 + 1) (.loop (rec .busy none)) = W3 at hg3 hl3 hd3 ⊢
          have k0 := box_cell hg3.fb
          have HG3 := Lib.hid hg3; have HL3' := Lib.hid hl3; have HD3 := Lib.hid hd3
          obtain ⟨bd, od, cd', hde, hbd, hdc⟩ := int_at' (HPk.out W3 hg3.bel).2 HDe.out HVd.out
          obtain ⟨rfl, rfl⟩ : ad = some ⟨bd, od, none⟩ ∧ cd = cd' := by cases hde; exact ⟨rfl, rfl⟩
          have dv := hdc v (by rw [HDe.out]; exact HVd.out)
          have hgd : ds.getD v 0 = ds[v]'(by rw [HDe.out]; exact HVd.out) := by rw [List.getD_eq_getElem?_getD, List.getElem?_eq_getElem (by rw [HDe.out]; exact HVd.out)]; rfl
          rw [← hgd] at dv
          obtain ⟨-, -, e3, -⟩ := hg3.pl.cells
          have hn64 : n ≤ 64 := by have := HFr.out; omega
          have hvd : (v : Int) < dl := by have := HVd.out; omega
          have hv0 : (0 : Int) ≤ v := by omega
          clear hnc hl6 hg3 hl3 hd3 HG hde hbd hdc hgd
          have hsl := fun w => slice64 (N + 2) n hn64 w
          have HDone : Hid (hasD ds l v = true → ∃ vo, TB N w (.slice ai its.length ci) (.slice an nl cn) (.slice (some ⟨bd, od, none⟩) dl cd) m x ds vo f1 (W3.putObj (N + 5 + 1) (.loop (rec .ready none)))) := Lib.hid (fun h => by
            rw [HF1.out]
            unfold put1
            rw [if_pos h]
            refine ⟨_, (TB.putObj (by exact HG3.out) (N + 5 + 1) _ (by omega) (fun c t f e => by rw [HL3'.out] at e; cases e))⟩)
          have HDl1 : Hid (hasD ds l v = true → f1.length < m) := Lib.hid (fun h => by rw [HF1.out]; unfold put1; rw [if_pos h, HLn.out]; exact HLm.out)
          have HBk : Hid (Book (W3.putObj (N + 5 + 1) (.loop (rec .ready none))) (N + 5) (rec .ready none)) := Lib.hid ⟨World.putObj_heap_same (Array.getElem?_eq_some_iff.1 HL3'.out).1, (World.putObj_heap_other (by omega)).trans HD3.out⟩
          gi_wp2
          clear k0
          obtain ⟨z, hz⟩ : ∃ z, ds.getD v 0 = z := ⟨_, rfl⟩
          have HZ := Lib.hid hz
          rw [hz] at dv
          have HDv := Lib.hid dv; have HE3 := Lib.hid e3
          clear hz hsl dv e3
          gi_loopw [21] (fun v21 wr => ∃ j : Nat, j ≤ n ∧ v21 = .int .i64 j ∧ wr = W3 ∧ ∀ i (h : i < l.length), i < j → ds.getD l[i] 0 ≠ ds.getD v 0) (fun v _ => n - (intOf v).toNat)
          case atStart => exact ⟨0, by omega, rfl, rfl, fun i h h2 => by omega⟩
          case round =>
            obtain ⟨j, hj, rfl, rfl, hall⟩ := hrel
            have HAl := Lib.hid hall
            clear hall
            have dv := HDv.out
            have e3 := HE3.out
            by_cases hjn : j < n
            · have hjn' : (j : Int) < n := by omega
              have hj0 : (0 : Int) ≤ j := by omega
              have hjl : j < l.length := by rw [HLn.out]; exact hjn
              have cj := HG3.out.met j hjl
              obtain ⟨y, hy⟩ : ∃ y, ds.getD l[j] 0 = y := ⟨_, rfl⟩
              have HY := Lib.hid (show ∃ h : j < l.length, ds.getD l[j] 0 = y from ⟨hjl, hy⟩)
              rw [hy] at cj
              clear hy hjl
              by_cases hyz : y = z
              · have hh : hasD ds l v = true := by
                  obtain ⟨h1, h2⟩ := HY.out
                  rw [hasD_iff]
                  exact ⟨j, h1, by rw [h2, HZ.out]; exact hyz⟩
                have heq : True → (y == z) = true := fun _ => by rw [hyz]; simp
                have HH := Lib.hid hh
                clear hh hyz
                gi_wp2
                trace_state
                exact ⟨HL3'.out, HDone.out HH.out, HDl1.out HH.out, HBk.out⟩
              · have heq : True → (y == z) = false := fun _ => by simp [hyz]
                have HN2 : Hid (∀ i (h : i < l.length), i < j + 1 → ds.getD l[i] 0 ≠ ds.getD v 0) := Lib.hid (fun i h h2 => by
                  rcases Nat.lt_or_ge i j with h3 | h3
                  · exact HAl.out i h h3
                  · obtain rfl : i = j := by omega
                    obtain ⟨h4, h5⟩ := HY.out
                    rw [h5, HZ.out]; exact hyz)
                clear hyz
                gi_wp2
                clear heq cj dv e3
                go_roundw
                case rel => exact ⟨j + 1, by omega, by go_num, trivial, HN2.out⟩
                case measure => simp [intOf]; omega
            · obtain rfl : j = n := by omega
              have HNo : Hid (hasD ds l v = false) := Lib.hid (by
                cases h : hasD ds l v with
                | false => rfl
                | true =>
                  obtain ⟨i, h1, h2⟩ := (hasD_iff _ _ _).1 h
                  exact absurd h2 (HAl.out i h1 (by rw [← HLn.out]; exact h1)))
              obtain ⟨TBp, hTBp⟩ : ∃ TBp : World → Prop, (fun u => TB N w (.slice ai its.length ci) (.slice an nl cn) (.slice (some ⟨bd, od, none⟩) dl cd) m x ds (.slice ax j cx) l u) = TBp := ⟨_, rfl⟩
              have HTp := Lib.hid hTBp
              have HSof : Hid (∀ u, TB N w (.slice ai its.length ci) (.slice an nl cn) (.slice (some ⟨bd, od, none⟩) dl cd) m x ds (.slice ax j cx) l u → u.cell? ⟨N + 1, 0, none⟩ = some (.slice ax j cx) ∧ u.cell? ⟨N, 2, none⟩ = some (.slice (some ⟨bd, od, none⟩) dl cd) ∧ u.cell? ⟨bd, od + v, none⟩ = some (.int .i64 z)) := Lib.hid (fun u h => by
                refine ⟨box_cell h.fb, h.pl.cells.2.2.1, ?_⟩
                obtain ⟨b9, o9, c9, he9, -, hc9⟩ := int_at' (HPk.out u h.bel).2 HDe.out HVd.out
                obtain ⟨rfl, rfl⟩ : bd = b9 ∧ od = o9 := by cases he9; exact ⟨rfl, rfl⟩
                have h9 := hc9 v (by rw [HDe.out]; exact HVd.out)
                rw [h9, ← HZ.out, List.getD_eq_getElem?_getD, List.getElem?_eq_getElem (by rw [HDe.out]; exact HVd.out)]
                rfl)
              clear hTBp dv e3
              gi_upto_region 12 with fail
              have HGd := Lib.hid (TB.keep (by exact HG3.out) (below_drew (Below.refl wr.heap.size wr)))
              obtain ⟨hg4, hn4, hf4, hc4⟩ := TB.note (by exact HGd.out) (by rw [HLn.out]; have := HFr.out; omega) z
              rw [HLn.out] at hg4 hn4 hf4 hc4
              obtain ⟨u4, hu4⟩ := Option.ne_none_iff_exists'.1 hn4
              have HG4 := Lib.hid hg4
              have HC4 := Lib.hid hc4
              have HL4 : Hid ((wr.drew.setCell ⟨N + 2, j, none⟩ (.int .i64 z)).heap[N + 5 + 1]? = some (.loop (rec .busy none))) := Lib.hid ((heap_setCell_other _ _ _ _ (by show N + 5 + 1 ≠ N + 2; omega)).trans HL3'.out)
              have HD4 : Hid ((wr.drew.setCell ⟨N + 2, j, none⟩ (.int .i64 z)).heap[N + 5]? = some (.deferred (some []))) := Lib.hid ((heap_setCell_other _ _ _ _ (by show N + 5 ≠ N + 2; omega)).trans HD3.out)
              have HG4d := Lib.hid (TB.keep (by exact hg4) (below_drew (Below.refl _ (wr.drew.setCell ⟨N + 2, j, none⟩ (.int .i64 z)))))
              have hj64 : (j : Int) < 64 := by have := HFr.out; omega
              have hj0 : (0 : Int) ≤ j := by omega
              clear hg4 hn4 hc4
              --R12
              refine wpIn_calm ?_
              refine wpIn_region_held (S := fun u => u.cell? ⟨N + 1, 0, none⟩ = some (.slice ax j cx) ∧ u.cell? ⟨N, 2, none⟩ = some (.slice (some ⟨bd, od, none⟩) dl cd) ∧ u.cell? ⟨bd, od + v, none⟩ = some (.int .i64 z)) (by kernel_rfl) (by kernel_rfl) (calm_in _) (HSof.out _ HGd.out) (fun hHeld => ?_)
              refine wpAnyH_take (i := 0) (oi := { dst := some 33, op := Op.load 22 (Operand.tmp 5), type := 22, pos := "plan.go:98", after := #[], guard := none }) (v := ?_) rfl (by kernel_rfl) (by kernel_rfl) (by kernel_rfl) (fun _ _ _ h => h) (Or.inl ⟨by rfl, ?_⟩) hHeld ?_
              rotate_left 1
              · intro W hSw
                (try dsimp only at hSw)
                go_simp
                try with_reducible rfl
              try simp only [Act.put, List.setIfInBounds_toArray, List.set_cons_zero, List.set_cons_succ]
              refine wpAnyH_take (i := 1) (oi := { dst := some 34, op := Op.call { callee := Callee.builtin Builtin.len, args := #[Operand.tmp 33], argTypes := #[22] }, type := 3, pos := "plan.go:98", after := #[{ on := 0, ground := Ground.data }], guard := none }) (v := ?_) rfl (by kernel_rfl) (by kernel_rfl) (by kernel_rfl) (fun _ _ _ h => h) (Or.inl ⟨by rfl, ?_⟩) hHeld ?_
              rotate_left 1
              · intro W hSw
                (try dsimp only at hSw)
                go_simp
                try with_reducible rfl
              try simp only [Act.put, List.setIfInBounds_toArray, List.set_cons_zero, List.set_cons_succ]
              refine wpAnyH_take (i := 2) (oi := { dst := some 35, op := Op.fieldAddr 36 (Operand.tmp 2) 2, type := 0, pos := "plan.go:98", after := #[], guard := none }) (v := ?_) rfl (by kernel_rfl) (by kernel_rfl) (by kernel_rfl) (fun _ _ _ h => h) (Or.inl ⟨by rfl, ?_⟩) hHeld ?_
              rotate_left 1
              · intro W hSw
                (try dsimp only at hSw)
                go_simp
                try with_reducible rfl
              try simp only [Act.put, List.setIfInBounds_toArray, List.set_cons_zero, List.set_cons_succ]
              refine wpAnyH_take (i := 3) (oi := { dst := some 36, op := Op.load 22 (Operand.tmp 35), type := 22, pos := "plan.go:98", after := #[{ on := 2, ground := Ground.data }], guard := none }) (v := ?_) rfl (by kernel_rfl) (by kernel_rfl) (by kernel_rfl) (fun _ _ _ h => h) (Or.inl ⟨by rfl, ?_⟩) hHeld ?_
              rotate_left 1
              · intro W hSw
                (try dsimp only at hSw)
                go_simp
                try with_reducible rfl
              try simp only [Act.put, List.setIfInBounds_toArray, List.set_cons_zero, List.set_cons_succ]
              refine wpAnyH_take (i := 4) (oi := { dst := some 37, op := Op.move (Operand.tmp 7), type := 3, pos := "plan.go:98", after := #[], guard := none }) (v := ?_) rfl (by kernel_rfl) (by kernel_rfl) (by kernel_rfl) (fun _ _ _ h => h) (Or.inl ⟨by rfl, ?_⟩) hHeld ?_
              rotate_left 1
              · intro W hSw
                (try dsimp only at hSw)
                go_simp
                try with_reducible rfl
              try simp only [Act.put, List.setIfInBounds_toArray, List.set_cons_zero, List.set_cons_succ]
              refine wpAnyH_take (i := 5) (oi := { dst := some 38, op := Op.indexAddr 22 (Operand.tmp 36) (Operand.tmp 37), type := 0, pos := "plan.go:98", after := #[{ on := 3, ground := Ground.data }, { on := 4, ground := Ground.data }], guard := none }) (v := ?_) rfl (by kernel_rfl) (by kernel_rfl) (by kernel_rfl) (fun _ _ _ h => h) (Or.inl ⟨by rfl, ?_⟩) hHeld ?_
              rotate_left 1
              · intro W hSw
                (try dsimp only at hSw)
                go_simp
                try with_reducible rfl
              try simp only [Act.put, List.setIfInBounds_toArray, List.set_cons_zero, List.set_cons_succ]
              refine wpAnyH_take (i := 6) (oi := { dst := some 39, op := Op.load 3 (Operand.tmp 38), type := 3, pos := "plan.go:98", after := #[{ on := 5, ground := Ground.data }], guard := none }) (v := ?_) rfl (by kernel_rfl) (by kernel_rfl) (by kernel_rfl) (fun _ _ _ h => h) (Or.inl ⟨by rfl, ?_⟩) hHeld ?_
              rotate_left 1
              · intro W hSw
                (try dsimp only at hSw)
                go_simp
                try with_reducible rfl
              try simp only [Act.put, List.setIfInBounds_toArray, List.set_cons_zero, List.set_cons_succ]
              refine wpAnyH_take (i := 7) (oi := { dst := some 40, op := Op.indexAddr 49 (Operand.tmp 6) (Operand.tmp 34), type := 0, pos := "plan.go:98", after := #[{ on := 1, ground := Ground.data }, { on := 0, ground := Ground.phase }, { on := 1, ground := Ground.phase }, { on := 2, ground := Ground.phase }, { on := 3, ground := Ground.phase }, { on := 4, ground := Ground.phase }, { on := 5, ground := Ground.phase }, { on := 6, ground := Ground.phase }], guard := none }) (v := ?_) rfl (by kernel_rfl) (by kernel_rfl) (by kernel_rfl) (fun _ _ _ h => h) (Or.inl ⟨by rfl, ?_⟩) hHeld ?_
              rotate_left 1
              · intro W hSw
                (try dsimp only at hSw)
                go_simp
                try with_reducible rfl
              try simp only [Act.put, List.setIfInBounds_toArray, List.set_cons_zero, List.set_cons_succ]
              refine wpAnyH_ready (rs := [8]) (by kernel_rfl) (by simp) ?_
              refine AllReadyH.cons (o := { dst := none, op := Op.store 3 (Operand.tmp 40) (Operand.tmp 39), type := 0, pos := "plan.go:98", after := #[{ on := 7, ground := Ground.data }, { on := 6, ground := Ground.data }, { on := 0, ground := Ground.phase }, { on := 1, ground := Ground.phase }, { on := 2, ground := Ground.phase }, { on := 3, ground := Ground.phase }, { on := 4, ground := Ground.phase }, { on := 5, ground := Ground.phase }, { on := 6, ground := Ground.phase }], guard := none }) rfl (fun K7 hK7 => ?_) ?_
              · go_simp
                refine hK7.out _ _ (by first | exact HSof.out _ HG4.out | exact HSof.out _ HG4d.out) (fun hHeld => ?_)
                clear hK7 K7
                try simp only [Act.put, List.setIfInBounds_toArray, List.set_cons_zero, List.set_cons_succ]
                refine wpAnyH_done (by kernel_rfl) ?_ _
                refine calm_normal ?_
                clear hHeld hu4 hf4 HG4d
                have hsw : wr.drew.setCell ⟨N + 2, j, none⟩ (.int .i64 z) = (wr.setCell ⟨N + 2, j, none⟩ (.int .i64 z)).drew := rfl
                rw [hsw] at HG4 HC4 HL4 HD4
                clear hsw
                generalize (wr.setCell ⟨N + 2, j, none⟩ (.int .i64 z)).drew = W4 at HG4 HC4 HL4 HD4 ⊢
                have k0 := box_cell HG4.out.fb
                have HO4 := Lib.hid HG4.out.own
                have HE9 : Hid ((ints l ++ [(v : Int)]).length = j + 1) := Lib.hid (by rw [List.length_append, ints_len, HLn.out]; rfl)
                have HLt := Lib.hid HG4.out.lt
                have HI9 : Hid (ints (l ++ [v]) = ints l ++ [(v : Int)]) := Lib.hid (by simp [ints])
                gi_upto_region 14 with (gi_at_builtin; refine app1I_in rfl (.tmp 41) (.tmp 43) 22 rfl (N + 5) Try.underlying22 infoInt _ (ints l) rfl HO4.out (v : Int) _ rfl rfl (by rw [ints_len, HLn.out]; unfold maxLen; omega) (by rw [ints_len, HLn.out]; omega) (by have := HLt.out; omega) ?_; intro v9 w9 ho9 hk9; obtain ⟨x9, y9, hv9⟩ := ho9.slice; rw [HE9.out] at hv9; subst hv9; have cN : w9.cell? ⟨N + 1, 0, none⟩ = some (.slice ax j cx) := (by simp [World.cell?, hk9.below (N + 1) (by omega), HG4.out.fb]); have fN : w9.frozen? ⟨N + 1, 0, none⟩ = false := (by simp [World.frozen?, hk9.below (N + 1) (by omega), HG4.out.fb]); have HO9 := Lib.hid ho9; have HK9 := Lib.hid hk9; clear ho9 hk9 k0)
                have HG5 := Lib.hid (TB.grow (by exact HG4.out) (v := v) (by rw [HLn.out]; have := HFr.out; omega) (by rw [HLn.out, HZ.out]; exact HC4.out) (v9 := .slice x9 (j + 1) y9) (by rw [HI9.out]; exact HO9.out) HK9.out)
                have HL5 : Hid ((w9.setCell ⟨N + 1, 0, none⟩ (.slice x9 (j + 1) y9)).heap[N + 5 + 1]? = some (.loop (rec .busy none))) := Lib.hid ((heap_setCell_other _ _ _ _ (by show N + 5 + 1 ≠ N + 1; omega)).trans ((HK9.out.other (N + 5 + 1) (Array.getElem?_eq_some_iff.1 HL4.out).1 (fun c f e => by rw [HL4.out] at e; cases e)).trans HL4.out))
                have HD5 : Hid ((w9.setCell ⟨N + 1, 0, none⟩ (.slice x9 (j + 1) y9)).heap[N + 5]? = some (.deferred (some []))) := Lib.hid ((heap_setCell_other _ _ _ _ (by show N + 5 ≠ N + 1; omega)).trans ((HK9.out.other (N + 5) (Array.getElem?_eq_some_iff.1 HD4.out).1 (fun c f e => by rw [HD4.out] at e; cases e)).trans HD4.out))
                clear cN fN HG4 HC4 HL4 HD4 HO4 HO9 HK9 HGd
                generalize w9.setCell ⟨N + 1, 0, none⟩ (.slice x9 (j + 1) y9) = W5 at HG5 HL5 HD5 ⊢
                have k5 := box_cell HG5.out.fb
                obtain ⟨-, -, -, m5⟩ := HG5.out.pl.cells
                have HF9 : Hid (f1 = l ++ [v]) := Lib.hid (by rw [HF1.out]; unfold put1; rw [HNo.out]; rfl)
                have HFn : Hid (f1.length = j + 1) := Lib.hid (by rw [HF9.out, List.length_append, HLn.out]; rfl)
                have HGf : Hid (∀ o : Obj, ∃ vo, TB N w (.slice ai its.length ci) (.slice an nl cn) (.slice (some ⟨bd, od, none⟩) dl cd) m x ds vo f1 (W5.putObj (N + 5 + 1) o)) := Lib.hid (fun o => by rw [HF9.out]; exact ⟨_, TB.putObj (by exact HG5.out) (N + 5 + 1) o (by omega) (fun c t f e => by rw [HL5.out] at e; cases e)⟩)
                have HBf : Hid (∀ lp : Loop, Book (W5.putObj (N + 5 + 1) (.loop lp)) (N + 5) lp) := Lib.hid (fun lp => ⟨World.putObj_heap_same (Array.getElem?_eq_some_iff.1 HL5.out).1, (World.putObj_heap_other (by omega)).trans HD5.out⟩)
                by_cases hjm : j + 1 = m
                · have hjm' : ((j : Int) + 1) = m := by omega
                  have HFx := Lib.hid (HFm.out (.inl (by rw [HFn.out]; omega)))
                  gi_wp2
                  exact ⟨HL5.out, rfl, by rw [HFx.out]; exact HGf.out _, HBf.out _⟩
                · have hjm' : ¬ ((j : Int) + 1) = m := by omega
                  have HFx : Hid (f1.length < m) := Lib.hid (by rw [HFn.out]; have := HLm.out; omega)
                  gi_wp2
                  exact ⟨HL5.out, HGf.out _, HFx.out, HBf.out _⟩
              exact AllReadyH.nil
        · rintro e W' (⟨he, h⟩ | ⟨he, c, rfl, h1, h2⟩)
          · exact .inl ⟨he, h⟩
          · exact .inr ⟨he, h1, h2⟩
    case hdone =>
      rintro W r r' ⟨vo, hgb⟩ hb
      simp only [hs0]
      have hbl := hb.1
      have hbd := hb.2
      simp only [hs0] at hbl hbd
      have hnc : ∀ c t f, W.heap[N + 5 + 1]? ≠ some (Obj.cells c t f) := fun c t f e => by rw [hbl] at e; cases e
      have hk : (W.putObj (N + 5 + 1) (.loop r')).heap[N + 5]? = some (.deferred (some [])) := (World.putObj_heap_other (by omega)).trans hbd
      have hg2 := hgb.putObj (N + 5 + 1) (.loop r') (by omega) hnc
      clear hgb hb hg0 hbl hbd hnc
      generalize W.putObj (N + 5 + 1) (.loop r') = W3 at hk hg2 ⊢
      obtain ⟨ax, cx, rfl⟩ := hg2.own.slice
      have k0 := box_cell hg2.fb
      have HG3 := Lib.hid hg2; have HD3 := Lib.hid hk
      clear hg2 hk
      gi_wp2
      have hg5 := HG3.out.putObj (N + 5) (.deferred none) (by omega) (fun c t f e => by rw [HD3.out] at e; cases e)
      refine ⟨by simp, .inl ⟨_, _, rfl, run_takeDeferred HD3.out, ?_⟩⟩
      refine ⟨_, results_tmp rfl _ _, _, rfl, hg5.own.mono (by rw [HN.out]; omega), by rw [HN.out]; exact hg5.bel⟩
    case hstop =>
      rintro W c r r' ⟨rfl, vo, hgb⟩ hb
      simp only [hs0]
      have hbl := hb.1
      have hbd := hb.2
      simp only [hs0] at hbl hbd
      have hnc : ∀ c t f, W.heap[N + 5 + 1]? ≠ some (Obj.cells c t f) := fun c t f e => by rw [hbl] at e; cases e
      have hk : (W.putObj (N + 5 + 1) (.loop r')).heap[N + 5]? = some (.deferred (some [])) := (World.putObj_heap_other (by omega)).trans hbd
      have hg2 := hgb.putObj (N + 5 + 1) (.loop r') (by omega) hnc
      clear hgb hb hg0 hbl hbd hnc
      generalize W.putObj (N + 5 + 1) (.loop r') = W3 at hk hg2 ⊢
      obtain ⟨ax, cx, rfl⟩ := hg2.own.slice
      have k0 := box_cell hg2.fb
      have HG3 := Lib.hid hg2; have HD3 := Lib.hid hk
      clear hg2 hk
      gi_wp2
      have hg5 := HG3.out.putObj (N + 5) (.deferred none) (by omega) (fun c t f e => by rw [HD3.out] at e; cases e)
      refine ⟨by simp, .inl ⟨_, _, rfl, run_takeDeferred HD3.out, ?_⟩⟩
      refine ⟨_, results_tmp rfl _ _, _, rfl, hg5.own.mono (by rw [HN.out]; omega), by rw [HN.out]; exact hg5.bel⟩
end Go.Proofs.Ytngmcolbpdinmaa.crush
