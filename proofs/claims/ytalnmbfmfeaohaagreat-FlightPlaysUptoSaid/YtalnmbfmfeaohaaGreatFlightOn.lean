/- On: the numbers of the frames on a way, a range over a function with an append in it. -/
import Derived.Test.YtalnmbfmfeaohaaGreatRows
import Derived.Test.YtalnmbfmfeaohaaGreatFlightFirst
import Derived.Test.YtalnmbfmfeaohaaGreatFlightROn
import Derived.Test.YtalnmbfmfeaohaaGreatFlightCalm
import Derived.Shelf.RegionOpen
import Derived.Laws.AppendOwn
namespace Go.Proofs.YtalnmbfmfeaohaaGreat.flight
open Go.RowKit
open Go.Proofs.YtalnmbfmfeaohaaGreat.kit Go.Proofs.YtalnmbfmfeaohaaGreat.own Go.Proofs.YtalnmbfmfeaohaaGreat.iter
set_option linter.unusedVariables false
attribute [local go_sem] Oper.semAt_some

/-- 'l = append(l, n)' of one number, in the fence. -/
theorem app1N_in {F : Fence} {n : Nat} {P : Program} {wr : World} {ops : Array Oper} {rest : List Oper} {o : Oper} {a : Act} {Q : Exit → Act → World → Prop} (hgd : o.guard = none) (s x : Operand) (t : TypeId)
    (ho : o.op = .call { callee := .builtin .append, args := #[s, x], argTypes := #[t, t] })
    (B : Nat) (ht : P.underlying t = some (.slice 2)) (hi : (P.info? 2).map (fun i => (i.zero, i.size, i.bytes)) = some (some (.int .i64 0), 1, 8))
    (v : Value) (ns : List Int) (hs : a.eval s = v) (hown : Own ic 1 2 wr B v ns) (z : Int) (k : Nat) (hn : k = wr.heap.size) (hx : a.eval x = .slice (some ⟨k, 0, none⟩) 1 1)
    (h63 : ns.length + 1 ≤ maxLen) (hb : (ns.length + 1) * 8 ≤ 140737488355328) (hB : B ≤ wr.heap.size)
    (h : ∀ v' w', Own ic 1 2 w' B v' (ns ++ [z]) → Kept B 2 wr w' → wpListIn F n P ops Q rest (a.put o.dst v') w') : wpListIn F n P ops Q (o :: rest) a (wr.alloc (.cells #[.int .i64 z] 2)) := by
  subst hn
  obtain ⟨i0, hi, hz0, hz1, hz2⟩ := info_parts hi
  have hown2 : Own ic 1 2 (wr.alloc (.cells #[.int .i64 z] 2)) B v ns := hown.below ((Below.refl _ _).alloc (Nat.le_refl _) _)
  refine wpListIn_append_own _ hgd s x t ho B 2 i0 (.int .i64 0) 1 8 ht hi hz0 hz1 hz2 rfl (by decide) v ns.length (ns.flatMap ic) hs hown2 ⟨wr.heap.size, 0, none⟩ 1 1 [.int .i64 z] hx rfl ?_ ?_ h63 hb (by simp; omega) ?_
  · intro j u hj
    match j, hj with
    | 0, hj => simp at hj; subst hj; rw [add_plain', World.cell?_alloc_at _ _ _ _ rfl]; rfl
  · intro u hu; simp at hu; subst hu; rfl
  · intro v' w' hown' hg _
    refine h v' w' ?_ ((Kept.of_below hB ((Below.refl _ _).alloc (Nat.le_refl _) _)).trans (Kept.grown (by simp; omega) hown2 hg))
    unfold Own
    rw [List.length_append, List.flatMap_append]
    exact hown'
theorem below_putObj {B : Nat} {w W : World} (h : Below B w W) (l : Nat) (o : Obj) (hl : B ≤ l) : Below B w (W.putObj l o) :=
  ⟨h.os, h.tape, h.output, by rw [World.putObj_size]; exact h.size, fun j hj => (World.putObj_heap_other (by omega)).trans (h.block j hj)⟩
theorem results_tmp {P : Program} {fn : Func} {t : Tmp} (h : fn.results = #[.tmp t]) (tmps : Array Value) (w : World) : (results fn tmps).run P w = .ok (tmps.getD t undef) w := by
  simp [results, h]
theorem Own.setOther {α : Type} {enc : α → List Value} {k e B : Nat} {W : World} {v : Value} {xs : List α} (h : Own enc k e W B v xs) {N : Nat} (hN : v.ownBlock ≠ some N) (o : Nat) (u : Value) : Own enc k e (W.setCell ⟨N, o, none⟩ u) B v xs := by
  obtain ⟨h1, h2⟩ := id h
  refine ⟨h1, ?_⟩
  rcases h2 with ⟨rfl, h0⟩ | ⟨g, cap, cur, rfl, hB, hg, hr⟩
  · exact .inl ⟨rfl, h0⟩
  · have hne : g ≠ N := fun e => hN (by rw [e]; rfl)
    exact .inr ⟨g, cap, cur, rfl, hB, (heap_setCell_other _ _ _ _ hne).trans hg, hr⟩
theorem Own.putObj {α : Type} {enc : α → List Value} {k e B : Nat} {W : World} {v : Value} {xs : List α} (h : Own enc k e W B v xs) (l : Nat) (o : Obj) (hnc : ∀ c t f, W.heap[l]? ≠ some (Obj.cells c t f)) : Own enc k e (W.putObj l o) B v xs := by
  obtain ⟨h1, h2⟩ := id h
  refine ⟨h1, ?_⟩
  rcases h2 with ⟨rfl, h0⟩ | ⟨g, cap, cur, rfl, hB, hg, hr⟩
  · exact .inl ⟨rfl, h0⟩
  · have hne : g ≠ l := by rintro rfl; exact hnc _ _ _ hg
    exact .inr ⟨g, cap, cur, rfl, hB, (World.putObj_heap_other hne).trans hg, hr⟩
/-- The boxes of 'On': its own row's (N + 1), the closure's way (N + 2), the iterator's two (N + 3, N + 4); the row lies from N + 5 on. -/
structure OB (N : Nat) (w : World) (p q : Int) (vl fv vo : Value) (out : List Int) (W : World) : Prop where
  bel : Below N w W
  box : W.heap[N + 1]? = some (Obj.cells #[vo] 46 (0, 0))
  h2 : W.heap[N + 2]? = some (Obj.cells #[.int .i64 p, .int .i64 q] 40 (0, 0))
  h3 : W.heap[N + 3]? = some (Obj.cells #[vl] 22 (0, 0))
  h4 : W.heap[N + 4]? = some (Obj.cells #[fv] 71 (0, 0))
  own : Own ic 1 2 W (N + 5) vo out
theorem OB.lt {N : Nat} {w : World} {p q : Int} {vl fv vo : Value} {out : List Int} {W : World} (h : OB N w p q vl fv vo out W) : N + 4 < W.heap.size := (Array.getElem?_eq_some_iff.1 h.h4).1
theorem OB.keep {N : Nat} {w : World} {p q : Int} {vl fv vo : Value} {out : List Int} {W W' : World} (h : OB N w p q vl fv vo out W) (hb : Below W.heap.size W W') : OB N w p q vl fv vo out W' := by
  have hl := h.lt
  exact ⟨h.bel.trans (hb.mono (by omega)), (hb.block _ (by omega)).trans h.box, (hb.block _ (by omega)).trans h.h2, (hb.block _ (by omega)).trans h.h3, (hb.block _ (by omega)).trans h.h4, h.own.below hb⟩
theorem OB.putObj {N : Nat} {w : World} {p q : Int} {vl fv vo : Value} {out : List Int} {W : World} (h : OB N w p q vl fv vo out W) (l : Nat) (o : Obj) (hl : N + 5 ≤ l) (hnc : ∀ c t f, W.heap[l]? ≠ some (Obj.cells c t f)) : OB N w p q vl fv vo out (W.putObj l o) :=
  ⟨below_putObj h.bel l o (by omega), (World.putObj_heap_other (by omega)).trans h.box, (World.putObj_heap_other (by omega)).trans h.h2, (World.putObj_heap_other (by omega)).trans h.h3, (World.putObj_heap_other (by omega)).trans h.h4, h.own.putObj l o hnc⟩
set_option maxHeartbeats 4000000 in
set_option maxRecDepth 100000 in
theorem along_box (p q : Int) (w : World) : Calls Tryz.prog 37 #[.agg #[.int .i64 p, .int .i64 q]] w fun e w' =>
    e = .returned (.func (.func 55) #[] #[.pointer (some ⟨w.heap.size, 0, none⟩)]) ∧ w' = w.alloc (.cells #[.int .i64 p, .int .i64 q] 40) := by
  have hmf : ∀ (fn : Fn) (first cap : Array Value) (w : World), (Instr.makeFunc fn first cap).run Tryz.prog w = .ok (.func fn first cap) w := fun _ _ _ _ => rfl
  go_enter Tryz.func37, Tryz.ntmps37
  go_wp2
  go_ret
  exact ⟨rfl, rfl⟩
theorem onE_take_yes (y : Wy) (l : List Frm) (i : Nat) (hi : i < l.length) (h : onWay y l[i] = true) : onE y (l.take (i + 1)) = onE y (l.take i) ++ [l[i].num] := by
  rw [List.take_succ_eq_append_getElem hi]
  unfold onE
  rw [List.filter_append, List.map_append]
  simp [h]
theorem onE_take_no (y : Wy) (l : List Frm) (i : Nat) (hi : i < l.length) (h : onWay y l[i] = false) : onE y (l.take (i + 1)) = onE y (l.take i) := by
  rw [List.take_succ_eq_append_getElem hi]
  unfold onE
  rw [List.filter_append, List.map_append]
  simp [h]

set_option maxHeartbeats 8000000 in
set_option maxRecDepth 100000 in
theorem On_any (v : Value) (f : Flt) (a b : Int) (w : World) (h : FlR w v f) (hok : ∀ x ∈ f.list, Frm.Ok x) (hl1 : f.list.length * 40 ≤ 140737488355328) :
    Calls Tryz.prog 13 #[v, .int .i64 a, .int .i64 b] w (NumS w (onE (a, b) f.list)) := by
  obtain ⟨vl, vc, rfl, hl, hc⟩ := h
  have hb := below_new w (.cells #[.int .i64 f.next, vl, vc] 25)
  have HX := Lib.hid (fbox_new w f.next vl vc); have HB := Lib.hid hb; have HOk := Lib.hid hok; have HS0 := Lib.hid hl
  obtain ⟨al, cl, rfl⟩ := hl.slice
  obtain ⟨n, l, c⟩ := f
  simp only at HS0 HX HB HOk hl1 ⊢
  obtain ⟨L, hL⟩ : ∃ L, l.length = L := ⟨_, rfl⟩
  have HL := Lib.hid hL
  simp only [hL] at HS0 HX HB hl1 ⊢
  have HLn := Lib.hid hl1
  clear hl hc hb hL hl1 hok
  refine (callsIn_wide (n := 0)).1 ?_
  refine callsIn_of_wp_marks Tryz.func13 rfl trivial ?_ rfl
  simp only [Tryz.ntmps13, List.size_toArray, List.length_cons, List.length_nil, Nat.reduceAdd, Nat.reduceSub, Array.replicate_succ, Array.replicate_zero, List.push_toArray, List.append_toArray, List.nil_append, List.cons_append]
  gi_upto_region 2 with fail
  have hb1 := below_new (w.alloc (.cells #[.int .i64 n, .slice al L cl, vc] 25)) (.cells #[.slice none 0 0] 46)
  have HXa := Lib.hid (HX.out.keep hb1)
  have HBa := Lib.hid (HB.out.trans (hb1.mono HB.out.size))
  have HQ := Lib.hid (alloc_at (w.alloc (.cells #[.int .i64 n, .slice al L cl, vc] 25)) (.cells #[.slice none 0 0] 46))
  have HZ : Hid (((w.alloc (.cells #[.int .i64 n, .slice al L cl, vc] 25)).alloc (.cells #[.slice none 0 0] 46)).heap.size = w.heap.size + 2) := Lib.hid (by simp)
  clear hb1
  simp only [World.size_alloc] at HQ
  generalize (w.alloc (.cells #[.int .i64 n, .slice al L cl, vc] 25)).alloc (.cells #[.slice none 0 0] 46) = W at HXa HBa HQ HZ ⊢
  obtain ⟨N, hN⟩ : ∃ N, w.heap.size = N := ⟨_, rfl⟩
  have HN := Lib.hid hN
  rw [hN] at HXa HQ HZ HBa ⊢
  clear HX HB hN
  obtain ⟨e1, e2, e3⟩ := HXa.out.cells
  clear e1 e3
  have HF : Hid (∀ u, Below W.heap.size W u → u.cell? ⟨N, 1, none⟩ = some (.slice al L cl)) := Lib.hid (fun u hu => (HXa.out.keep hu).cells.2.1)
  have HD : Hid (Below W.heap.size W W.drew) := Lib.hid ⟨rfl, rfl, rfl, Nat.le_refl _, fun _ _ => rfl⟩
  have HE : Hid (Below W.heap.size W (W.drew.alloc (.cells #[.int .i64 a, .int .i64 b] 40))) := Lib.hid (HD.out.alloc (Nat.le_refl _) _)
  have e2' := HF.out _ HD.out
  have mixed : Tryz.prog.follows .mixedOrders = true := by kernel_rfl
  refine wpIn_calm ?_
  gi_region_with_o (first
    | ((try refine ⟨trivial, rfl, ?_⟩); gi_at_call 37; refine (callsIn_wide.2 (along_box a b _)).mono ?_; rintro e w3 ⟨rfl, hw3⟩; have e4 := HF.out w3 (by rw [hw3]; exact HE.out); have HW3 := Lib.hid hw3; clear hw3)
    | ((try refine ⟨trivial, rfl, ?_⟩); gi_at_call 36; refine (callsIn_wide.2 (those_any _ _ _ _ _ _)).mono ?_; rintro e w' ⟨rfl, rfl⟩))
  all_goals
    simp only [Calm]
    have hwn : W.heap.size = N + 2 := HZ.out
    have hsz : w3.heap.size = N + 3 := by rw [HW3.out, World.size_alloc]; show W.heap.size + 1 = N + 3; omega
    have hr2 : w3.heap[N + 2]? = some (Obj.cells #[.int .i64 a, .int .i64 b] 40 (0, 0)) := by
      rw [HW3.out, ← hwn]; exact alloc_at W.drew _
    have hb3 : Below W.heap.size W w3 := by rw [HW3.out]; exact HE.out
    have hr1 : w3.heap[N + 1]? = some (.cells #[.slice none 0 0] 46 (0, 0)) := (hb3.block (N + 1) (by omega)).trans HQ.out
    simp only [hwn, hsz]
    have hx := below_new w3 (.cells #[(.slice al L cl)] 22)
    have hy := below_new (w3.alloc (.cells #[(.slice al L cl)] 22)) (.cells #[(.func (.func 55) #[] #[.pointer (some ⟨N + 2, 0, none⟩)])] 71)
    have hs0 : ((w3.alloc (.cells #[(.slice al L cl)] 22)).alloc (.cells #[(.func (.func 55) #[] #[.pointer (some ⟨N + 2, 0, none⟩)])] 71)).heap.size = N + 5 := by simp [hsz]
    have hg0 : OB N w a b (.slice al L cl) (.func (.func 55) #[] #[.pointer (some ⟨N + 2, 0, none⟩)]) (.slice none 0 0) [] ((w3.alloc (.cells #[(.slice al L cl)] 22)).alloc (.cells #[(.func (.func 55) #[] #[.pointer (some ⟨N + 2, 0, none⟩)])] 71)) := by
      refine ⟨?_, ?_, ?_, ?_, ?_, Own.nil _ _ _⟩
      · exact HBa.out.trans ((hb3.trans ((hx.trans (hy.mono (by simp))).mono (by omega))).mono (by omega))
      · exact (hy.block _ (by rw [World.size_alloc]; omega)).trans ((hx.block _ (by omega)).trans hr1)
      · exact (hy.block _ (by rw [World.size_alloc]; omega)).trans ((hx.block _ (by omega)).trans hr2)
      · have h := alloc_at w3 (.cells #[(.slice al L cl)] 22)
        rw [hsz] at h
        exact (hy.block _ (by rw [World.size_alloc]; omega)).trans h
      · have h := alloc_at (w3.alloc (.cells #[(.slice al L cl)] 22)) (.cells #[(.func (.func 55) #[] #[.pointer (some ⟨N + 2, 0, none⟩)])] 71)
        rw [World.size_alloc, hsz] at h
        exact h
    clear e2 e2' e4 HW3 hwn hsz hr2 hb3 hr1 hx hy HE HF HD HXa HQ HZ HBa
    generalize (w3.alloc (.cells #[(.slice al L cl)] 22)).alloc (.cells #[(.func (.func 55) #[] #[.pointer (some ⟨N + 2, 0, none⟩)])] 71) = W0 at hs0 hg0 ⊢
    have HS0' : Hid (∀ W', Below N w W' → Sl fc 4 W' (.slice al L cl) l) := Lib.hid (fun W' hW => HS0.out.keep (by rw [HN.out]; exact hW))
    gi_wp2
    refine range_stmt (n := 0) (gf := 54) (lb := #[.pointer (some ⟨N + 3, 0, none⟩), .pointer (some ⟨N + 4, 0, none⟩)])
      (I := fun W => ∃ vo, OB N w a b (.slice al L cl) (.func (.func 55) #[] #[.pointer (some ⟨N + 2, 0, none⟩)]) vo (onE (a, b) l) W) (X := fun _ => False)
      rfl (enters_of Tryz.func54 (by kernel_rfl) rfl) ?hit ?hdone ?hstop
    case hit =>
      intro fn rec hrec
      simp only [hs0] at hrec ⊢
      refine (those1_any (N + 5 + 1) (N + 3) (N + 4) l (.slice al L cl) 55 #[.pointer (some ⟨N + 2, 0, none⟩)] (onWay (a, b))
        (I := fun k W => ∃ vo, OB N w a b (.slice al L cl) (.func (.func 55) #[] #[.pointer (some ⟨N + 2, 0, none⟩)]) vo (onE (a, b) (l.take k)) W ∧ Book W (N + 5) (rec .ready none)) (X := fun _ _ => False)
        HOk.out ?cells ?below (enters_of Tryz.func55 (by kernel_rfl) rfl) ?meant ?skip ?yield _ ?start).mono ?post
      case cells => exact fun i W ⟨vo, h, _⟩ => ⟨box_cell h.h3, box_cell h.h4, HS0'.out W h.bel⟩
      case below =>
        rintro i W W' ⟨vo, h1, ⟨h2, h3⟩⟩ hb
        exact ⟨vo, h1.keep hb, (hb.block _ (Array.getElem?_eq_some_iff.1 h2).1).trans h2, (hb.block _ (Array.getElem?_eq_some_iff.1 h3).1).trans h3⟩
      case meant =>
        rintro i W ⟨vo, h1, _⟩ x hx
        exact along1_any (N + 2) (a, b) x W (wcells_at (x := (a, b)) (range_of_cells h1.h2))
      case skip =>
        rintro i W hi ⟨vo, h1, h2⟩ hp
        exact ⟨vo, by rw [onE_take_no _ _ _ hi hp]; exact h1, h2⟩
      case start =>
        have b1 : Below W0.heap.size W0 ((W0.alloc (.deferred (some []))).alloc (.loop (rec .ready none))) := ((Below.refl _ W0).alloc (Nat.le_refl _) _).alloc (by simp) _
        refine ⟨_, hg0.keep b1, ?_, ?_⟩
        · have := World.alloc_heap_new (W0.alloc (.deferred (some []))) (.loop (rec .ready none))
          rw [World.size_alloc, hs0] at this
          exact this
        · simp only [alloc_heap, Array.getElem?_push, Array.size_push, hs0]; simp
      case post =>
        rintro e W ⟨hv, (⟨vo, h1, h2⟩ | ⟨i, hi, h⟩)⟩
        · rw [List.take_length] at h1
          exact ⟨hv, .inl ⟨⟨vo, h1⟩, h2⟩⟩
        · exact h.elim
      case yield =>
        rintro i W hi ⟨vo, hob, hbk⟩ hp
        have hon := onE_take_yes (a, b) l i hi hp
        have hle := onE_len (a, b) (l.take i)
        rw [List.length_take] at hle
        obtain ⟨x, hx⟩ : ∃ x, l[i] = x := ⟨_, rfl⟩
        rw [hx] at hon ⊢
        obtain ⟨ax, cx, rfl⟩ := hob.own.slice
        obtain ⟨m, hm⟩ : ∃ m, (onE (a, b) (l.take i)).length = m := ⟨_, rfl⟩
        rw [hm] at hob hle
        have HOn := Lib.hid hon; have HM := Lib.hid hm
        have HMi : Hid (m * 40 ≤ 140737488355328) := Lib.hid (by have h1 := HLn.out; have h2 := HL.out; omega)
        refine yield_round hrec (Rt := fun W' => ∃ vo, OB N w a b (.slice al L cl) (.func (.func 55) #[] #[.pointer (some ⟨N + 2, 0, none⟩)]) vo (onE (a, b) (l.take (i + 1))) W' ∧ Book W' (N + 5) (rec .ready none)) (Rf := fun _ => False) hbk rfl ?_ |>.mono ?_
        · have HG := Lib.hid hob; have HB := Lib.hid hbk
          clear hrec hob hbk hs0 hg0 hon hx hm hle hp
          obtain ⟨n1, s1, d1, bo⟩ := x
          unfold fval
          simp only at HOn ⊢
          gi_wp2
          have b2 := below_new W (.cells #[.int .i64 n1, .int .i64 s1, .int .i64 d1, .string bo] 38)
          have hk1 := (b2.block _ (Array.getElem?_eq_some_iff.1 HB.out.1).1).trans HB.out.1
          have hk2 := (b2.block _ (Array.getElem?_eq_some_iff.1 HB.out.2).1).trans HB.out.2
          refine ⟨hk1, ?_⟩
          have hnc : ∀ c t f, (W.alloc (.cells #[.int .i64 n1, .int .i64 s1, .int .i64 d1, .string bo] 38)).heap[N + 5 + 1]? ≠ some (Obj.cells c t f) := fun c t f e => by rw [hk1] at e; cases e
          have hlW := (Array.getElem?_eq_some_iff.1 HB.out.1).1
          have hg3 := (HG.out.keep b2).putObj (N + 5 + 1) (.loop (rec .busy none)) (by omega) hnc
          have hl3 := World.putObj_heap_same (o := .loop (rec .busy none)) (Array.getElem?_eq_some_iff.1 hk1).1
          have hd3 : ((W.alloc (.cells #[.int .i64 n1, .int .i64 s1, .int .i64 d1, .string bo] 38)).putObj (N + 5 + 1) (.loop (rec .busy none))).heap[N + 5]? = some (.deferred (some [])) := (World.putObj_heap_other (by omega)).trans hk2
          have hR : ((W.alloc (.cells #[.int .i64 n1, .int .i64 s1, .int .i64 d1, .string bo] 38)).putObj (N + 5 + 1) (.loop (rec .busy none))).heap[W.heap.size]? = some (.cells #[.int .i64 n1, .int .i64 s1, .int .i64 d1, .string bo] 38 (0, 0)) :=
            (World.putObj_heap_other (by omega)).trans (alloc_at _ _)
          generalize (W.alloc (.cells #[.int .i64 n1, .int .i64 s1, .int .i64 d1, .string bo] 38)).putObj (N + 5 + 1) (.loop (rec .busy none)) = W3 at hg3 hl3 hd3 hR ⊢
          generalize W.heap.size = R at hR ⊢
          have k0 := box_cell hg3.box
          obtain ⟨r0, -, -, -⟩ := fcells_at (x := ⟨n1, s1, d1, bo⟩) (range_of_cells hR)
          simp only at r0
          have HG3 := Lib.hid hg3; have HL3 := Lib.hid hl3; have HD3 := Lib.hid hd3
          have HO3 := Lib.hid hg3.own; have HLt := Lib.hid hg3.lt
          have HE9 : Hid ((onE (a, b) (l.take i) ++ [n1]).length = m + 1) := Lib.hid (by rw [List.length_append, HM.out]; rfl)
          clear b2 hk1 hk2 hnc hlW hg3 hl3 hd3 hR HG HB
          gi_wp2_with (gi_at_builtin; refine app1N_in rfl (.tmp 19) (.tmp 22) 46 rfl (N + 5) Tryz.underlying46 infoI64 _ (onE (a, b) (l.take i)) rfl HO3.out n1 _ rfl rfl (by have := HMi.out; have := HM.out; unfold maxLen; omega) (by have := HMi.out; have := HM.out; omega) (by have := HLt.out; omega) ?_; intro v9 w9 ho9 hk9; obtain ⟨x9, y9, hv9⟩ := ho9.slice; rw [HE9.out] at hv9; subst hv9; have cN : w9.cell? ⟨N + 1, 0, none⟩ = some (.slice ax m cx) := (by simp [World.cell?, hk9.below (N + 1) (by omega), HG3.out.box]); have fN : w9.frozen? ⟨N + 1, 0, none⟩ = false := (by simp [World.frozen?, hk9.below (N + 1) (by omega), HG3.out.box]); have HO9 := Lib.hid ho9; have HK9 := Lib.hid hk9; clear ho9 hk9 k0)
          have hblk : ∀ g, (Value.slice x9 (m + 1) y9).ownBlock = some g → N + 5 ≤ g := fun g hg => (World.ownsRow.lt HO9.out g hg).1
          have HO5 := Lib.hid (Own.setOther HO9.out (N := N + 1) (fun e => by have := hblk (N + 1) e; omega) 0 (.slice x9 (m + 1) y9))
          have hb9 : w9.heap[N + 1]? = some (Obj.cells #[.slice ax m cx] 46 (0, 0)) := (HK9.out.below (N + 1) (by omega)).trans HG3.out.box
          have hr9 : w9.heap[N + 5 + 1]? = some (.loop (rec .busy none)) := (HK9.out.other (N + 5 + 1) (Array.getElem?_eq_some_iff.1 HL3.out).1 (fun c f e => by rw [HL3.out] at e; cases e)).trans HL3.out
          have hd9 : w9.heap[N + 5]? = some (.deferred (some [])) := (HK9.out.other (N + 5) (Array.getElem?_eq_some_iff.1 HD3.out).1 (fun c f e => by rw [HD3.out] at e; cases e)).trans HD3.out
          have ho : ∀ k, k ≠ N + 1 → k < N + 5 → (w9.setCell ⟨N + 1, 0, none⟩ (.slice x9 (m + 1) y9)).heap[k]? = W3.heap[k]? := fun k hk hl => (heap_setCell_other w9 ⟨N + 1, 0, none⟩ k _ hk).trans (HK9.out.below k hl)
          have hg5 : OB N w a b (.slice al L cl) (.func (.func 55) #[] #[.pointer (some ⟨N + 2, 0, none⟩)]) (.slice x9 (m + 1) y9) (onE (a, b) (l.take (i + 1))) (w9.setCell ⟨N + 1, 0, none⟩ (.slice x9 (m + 1) y9)) := by
            refine ⟨?_, by simpa using heap_setCell_same w9 (N + 1) 0 _ _ (.slice x9 (m + 1) y9) hb9, (ho _ (by omega) (by omega)).trans HG3.out.h2, (ho _ (by omega) (by omega)).trans HG3.out.h3, (ho _ (by omega) (by omega)).trans HG3.out.h4, by rw [HOn.out]; exact HO5.out⟩
            have hbk : Below N w w9 := HG3.out.bel.trans (HK9.out.toBelow.mono (by omega))
            exact hbk.setCell (p := ⟨N + 1, 0, none⟩) (by simp) _
          have hl4 := (heap_setCell_other w9 ⟨N + 1, 0, none⟩ (N + 5 + 1) (.slice x9 (m + 1) y9) (by show N + 5 + 1 ≠ N + 1; omega)).trans hr9
          have hd4 := (heap_setCell_other w9 ⟨N + 1, 0, none⟩ (N + 5) (.slice x9 (m + 1) y9) (by show N + 5 ≠ N + 1; omega)).trans hd9
          have hnc5 : ∀ c t f, (w9.setCell ⟨N + 1, 0, none⟩ (.slice x9 (m + 1) y9)).heap[N + 5 + 1]? ≠ some (Obj.cells c t f) := fun c t f e => by rw [hl4] at e; cases e
          exact ⟨hl4, ⟨_, hg5.putObj (N + 5 + 1) _ (by omega) hnc5, World.putObj_heap_same (Array.getElem?_eq_some_iff.1 hl4).1, (World.putObj_heap_other (by omega)).trans hd4⟩⟩
        · rintro e W' (⟨he, h⟩ | ⟨_, h⟩)
          · exact .inl ⟨he, h⟩
          · exact h.elim
    case hdone =>
      rintro W r r' ⟨vo, hgb⟩ hb
      simp only [hs0]
      have hbl := hb.1
      have hbd := hb.2
      simp only [hs0] at hbl hbd
      have hnc : ∀ c t f, W.heap[N + 5 + 1]? ≠ some (Obj.cells c t f) := fun c t f e => by rw [hbl] at e; cases e
      have hk : (W.putObj (N + 5 + 1) (.loop r')).heap[N + 5]? = some (.deferred (some [])) := (World.putObj_heap_other (by omega)).trans hbd
      have hg2 := hgb.putObj (N + 5 + 1) (.loop r') (by omega) hnc
      clear hgb hb hg0 hbl hbd hnc hs0
      generalize W.putObj (N + 5 + 1) (.loop r') = W3 at hk hg2 ⊢
      obtain ⟨ax, cx, rfl⟩ := hg2.own.slice
      have k0 := box_cell hg2.box
      have HG3 := Lib.hid hg2; have HD3 := Lib.hid hk
      clear hg2 hk
      gi_wp2
      have hg5 := HG3.out.putObj (N + 5) (.deferred none) (by omega) (fun c t f e => by rw [HD3.out] at e; cases e)
      refine ⟨by simp, .inl ⟨_, _, rfl, run_takeDeferred HD3.out, ?_⟩⟩
      refine ⟨_, results_tmp rfl _ _, _, rfl, hg5.own.mono (by rw [HN.out]; omega), by rw [HN.out]; exact hg5.bel⟩
    case hstop => exact fun W r r' h _ => h.elim

end Go.Proofs.YtalnmbfmfeaohaaGreat.flight
