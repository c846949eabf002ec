/- The program's Choose. -/
import Derived.Test.YtngmcolbpdinmaaRows
import Derived.Test.YtngmcolbpdinmaaCrushIter
import Derived.Test.YtngmcolbpdinmaaCrushOrd
namespace Go.Proofs.Ytngmcolbpdinmaa.crush
open Go.RowKit
open Go.Proofs.Ytngmcolbpdinmaa.kit Go.Proofs.Ytngmcolbpdinmaa.own Go.Proofs.Ytngmcolbpdinmaa.iter Go.Proofs.Ytngmcolbpdinmaa.heldin
set_option linter.unusedVariables false
attribute [local go_sem] Oper.semAt_some

set_option maxHeartbeats 4000000 in
theorem straws_any (a : Option Addr) (n c : Nat) (x : Nat) (r : Int) (w : World) : Calls Try.prog 42 #[.slice a n c, .int .u32 x, .int .i64 r] w fun e w' =>
    e = .returned (.func (.func 51) #[] #[.pointer (some ⟨w.heap.size, 0, none⟩), .pointer (some ⟨w.heap.size + 1, 0, none⟩), .pointer (some ⟨w.heap.size + 1 + 1, 0, none⟩)]) ∧
      w' = ((w.alloc (.cells #[.slice a n c] 33)).alloc (.cells #[.int .u32 x] 24)).alloc (.cells #[.int .i64 r] 3) := by
  have hmf : ∀ (fn : Fn) (first cap : Array Value) (w : World), (Instr.makeFunc fn first cap).run Try.prog w = .ok (.func fn first cap) w := fun _ _ _ _ => rfl
  go_enter Try.func42, Try.ntmps42
  go_wp2
  go_ret
  exact ⟨rfl, rfl⟩

/-- The straw that is ahead, of the first k items. -/
def bestS (x : Nat) (r : Int) (xs : List It) (k : Nat) : Str := match best (keys x r xs) k with
  | none => ⟨0, 0, 0, 0⟩
  | some b => strA x r b (xs.getD b (0, 0))
theorem strA_low (x : Nat) (r : Int) (b : Nat) (y : It) (hb : b ≤ 1000000000) : (strA x r b y).Low := ⟨costN_le _ _ _, wtN_le _, hb⟩
theorem keys_at (x : Nat) (r : Int) (xs : List It) (b : Nat) (h : b < xs.length) : cO (keys x r xs) b = costN x xs[b].1 r ∧ wO (keys x r xs) b = wtN xs[b].2 := by
  unfold cO wO keys
  simp [List.getD, h, keyOf]
theorem best_lt (ks : List Ky) (n b : Nat) (h : best ks n = some b) : b < n := ((best_spec ks n).1 b h).1
theorem bestS_low (x : Nat) (r : Int) (xs : List It) (k : Nat) (hk : k ≤ 1000000000) : (bestS x r xs k).Low := by
  unfold bestS
  cases h : best (keys x r xs) k with
  | none => exact ⟨by simp, by simp, by simp⟩
  | some b => exact strA_low _ _ _ _ (by have := best_lt _ _ _ h; omega)
theorem best_skip (x : Nat) (r : Int) (xs : List It) (k : Nat) (hk : k < xs.length) (h0 : wtN xs[k].2 = 0) : best (keys x r xs) (k + 1) = best (keys x r xs) k := by
  simp only [best, (keys_at x r xs k hk).2, h0, if_true]
/-- The next straw is laid against the best one so far. -/
def ahead (x : Nat) (r : Int) (xs : List It) (k : Nat) (y : It) : Bool := (best (keys x r xs) k).isNone || decide (ordS (strA x r k y) (bestS x r xs k) < 0)
theorem ahead_first (x : Nat) (r : Int) (xs : List It) (k : Nat) (y : It) (h : (best (keys x r xs) k).isSome = false) : ahead x r xs k y = true := by
  unfold ahead
  cases hb : best (keys x r xs) k with
  | none => rfl
  | some b => rw [hb] at h; cases h
theorem ahead_then (x : Nat) (r : Int) (xs : List It) (k : Nat) (y : It) (h : (best (keys x r xs) k).isSome = true) : decide (ordS (strA x r k y) (bestS x r xs k) < 0) = ahead x r xs k y := by
  unfold ahead
  cases hb : best (keys x r xs) k with
  | none => rw [hb] at h; cases h
  | some b => simp
theorem best_yes (x : Nat) (r : Int) (xs : List It) (k : Nat) (hk : k < xs.length) (h0 : 0 < wtN xs[k].2) (ha : ahead x r xs k xs[k] = true) : best (keys x r xs) (k + 1) = some k := by
  have hz : wO (keys x r xs) k ≠ 0 := by rw [(keys_at x r xs k hk).2]; omega
  simp only [best, hz, if_false]
  cases hb : best (keys x r xs) k with
  | none => rfl
  | some b =>
    have hbk := best_lt _ _ _ hb
    simp only
    rw [if_pos]
    rw [← ahead_then x r xs k _ (by rw [hb]; rfl), ordS_lt (by unfold bestS; rw [hb]; exact hbk)] at ha
    unfold bestS at ha
    rw [hb] at ha
    have h1 := keys_at x r xs k hk
    have h2 := keys_at x r xs b (by omega)
    have e : xs.getD b (0, 0) = xs[b]'(by omega) := by simp [List.getD, show b < xs.length by omega]
    rw [h1.1, h1.2, h2.1, h2.2]
    have q := of_decide_eq_true ha
    simp only [strA, e] at q
    exact q
theorem best_no (x : Nat) (r : Int) (xs : List It) (k : Nat) (hk : k < xs.length) (h0 : 0 < wtN xs[k].2) (ha : ahead x r xs k xs[k] = false) : best (keys x r xs) (k + 1) = best (keys x r xs) k := by
  have hz : wO (keys x r xs) k ≠ 0 := by rw [(keys_at x r xs k hk).2]; omega
  simp only [best, hz, if_false]
  cases hb : best (keys x r xs) k with
  | none => unfold ahead at ha; rw [hb] at ha; cases ha
  | some b =>
    have hbk := best_lt _ _ _ hb
    simp only
    rw [if_neg]
    rw [← ahead_then x r xs k _ (by rw [hb]; rfl), ordS_lt (by unfold bestS; rw [hb]; exact hbk)] at ha
    unfold bestS at ha
    rw [hb] at ha
    have h1 := keys_at x r xs k hk
    have h2 := keys_at x r xs b (by omega)
    have e : xs.getD b (0, 0) = xs[b]'(by omega) := by simp [List.getD, show b < xs.length by omega]
    rw [h1.1, h1.2, h2.1, h2.2]
    have q := of_decide_eq_false ha
    simp only [strA, e] at q
    exact q

/-- The boxes of 'Choose' behind k items. -/
structure CBx (N : Nat) (w : World) (v : Value) (x : Nat) (r : Int) (s : Str) (is : Bool) (W : World) : Prop where
  bel : Below N w W
  best : W.heap[N]? = some (sbox s)
  is : W.heap[N + 1]? = some (Obj.cells #[.bool is] 4 (0, 0))
  lst : W.heap[N + 2]? = some (Obj.cells #[v] 33 (0, 0))
  xs : W.heap[N + 3]? = some (Obj.cells #[.int .u32 x] 24 (0, 0))
  rs : W.heap[N + 4]? = some (Obj.cells #[.int .i64 r] 3 (0, 0))
theorem CBx.lt {N : Nat} {w : World} {v : Value} {x : Nat} {r : Int} {s : Str} {is : Bool} {W : World} (h : CBx N w v x r s is W) : N + 4 < W.heap.size := (Array.getElem?_eq_some_iff.1 h.rs).1
theorem CBx.keep {N : Nat} {w : World} {v : Value} {x : Nat} {r : Int} {s : Str} {is : Bool} {W W' : World} (h : CBx N w v x r s is W) (hb : Below W.heap.size W W') : CBx N w v x r s is W' := by
  have hl := h.lt
  exact ⟨h.bel.trans (hb.mono (by omega)), (hb.block _ (by omega)).trans h.best, (hb.block _ (by omega)).trans h.is, (hb.block _ (by omega)).trans h.lst, (hb.block _ (by omega)).trans h.xs, (hb.block _ (by omega)).trans h.rs⟩
theorem below_putObj' {B : Nat} {w W : World} (h : Below B w W) (l : Nat) (o : Obj) (hl : B ≤ l) : Below B w (W.putObj l o) :=
  ⟨h.os, h.tape, h.output, by rw [World.putObj_size]; exact h.size, fun j hj => (World.putObj_heap_other (by omega)).trans (h.block j hj)⟩
theorem CBx.putObj {N : Nat} {w : World} {v : Value} {x : Nat} {r : Int} {s : Str} {is : Bool} {W : World} (h : CBx N w v x r s is W) (l : Nat) (o : Obj) (hl : N + 5 ≤ l) : CBx N w v x r s is (W.putObj l o) :=
  ⟨below_putObj' h.bel l o (by omega), (World.putObj_heap_other (by omega)).trans h.best, (World.putObj_heap_other (by omega)).trans h.is, (World.putObj_heap_other (by omega)).trans h.lst, (World.putObj_heap_other (by omega)).trans h.xs, (World.putObj_heap_other (by omega)).trans h.rs⟩

/-- A straw is laid into the first box, a Bool into the second. -/
def setS (W : World) (N : Nat) (s : Str) (is : Bool) : World := ((((W.setCell ⟨N, 0, none⟩ (.int .i64 s.id)).setCell ⟨N, 1, none⟩ (.int .i64 (s.wt : Int))).setCell ⟨N, 2, none⟩ (.int .i64 (s.place : Int))).setCell ⟨N, 3, none⟩ (.int .i64 (s.cost : Int))).setCell ⟨N + 1, 0, none⟩ (.bool is)
theorem setS_other {W : World} {N : Nat} {s : Str} {is : Bool} {k : Nat} (h1 : k ≠ N) (h2 : k ≠ N + 1) : (setS W N s is).heap[k]? = W.heap[k]? := by
  unfold setS
  rw [heap_setCell_other _ _ _ _ h2, heap_setCell_other _ _ _ _ h1, heap_setCell_other _ _ _ _ h1, heap_setCell_other _ _ _ _ h1, heap_setCell_other _ _ _ _ h1]
theorem setS_best {W : World} {N : Nat} {s s0 : Str} {is : Bool} (h : W.heap[N]? = some (sbox s0)) : (setS W N s is).heap[N]? = some (sbox s) := by
  unfold setS
  rw [heap_setCell_other _ _ _ _ (by show N ≠ N + 1; omega)]
  have e1 := heap_setCell_same W N 0 _ _ (.int .i64 s.id) h
  have e2 := heap_setCell_same _ N 1 _ _ (.int .i64 (s.wt : Int)) e1
  have e3 := heap_setCell_same _ N 2 _ _ (.int .i64 (s.place : Int)) e2
  have e4 := heap_setCell_same _ N 3 _ _ (.int .i64 (s.cost : Int)) e3
  rw [e4]
  rfl
theorem setS_is {W : World} {N : Nat} {s : Str} {is is0 : Bool} (h : W.heap[N + 1]? = some (Obj.cells #[.bool is0] 4 (0, 0))) : (setS W N s is).heap[N + 1]? = some (Obj.cells #[.bool is] 4 (0, 0)) := by
  unfold setS
  have e0 := h
  have n1 : N + 1 ≠ N := by omega
  have e1 : ((((W.setCell ⟨N, 0, none⟩ (.int .i64 s.id)).setCell ⟨N, 1, none⟩ (.int .i64 (s.wt : Int))).setCell ⟨N, 2, none⟩ (.int .i64 (s.place : Int))).setCell ⟨N, 3, none⟩ (.int .i64 (s.cost : Int))).heap[N + 1]? = some (Obj.cells #[.bool is0] 4 (0, 0)) := by
    rw [heap_setCell_other _ _ _ _ n1, heap_setCell_other _ _ _ _ n1, heap_setCell_other _ _ _ _ n1, heap_setCell_other _ _ _ _ n1]; exact h
  have e2 := heap_setCell_same _ (N + 1) 0 _ _ (.bool is) e1
  simpa using e2
theorem setS_below {B : Nat} {w W : World} {N : Nat} {s : Str} {is : Bool} (h : Below B w W) (hB : B ≤ N) : Below B w (setS W N s is) := by
  unfold setS
  exact ((((h.setCell (p := ⟨N, 0, none⟩) hB _).setCell (p := ⟨N, 1, none⟩) hB _).setCell (p := ⟨N, 2, none⟩) hB _).setCell (p := ⟨N, 3, none⟩) hB _).setCell (p := ⟨N + 1, 0, none⟩) (by show B ≤ N + 1; omega) _
theorem CBx.setS {N : Nat} {w : World} {v : Value} {x : Nat} {r : Int} {s0 : Str} {is0 : Bool} {W : World} (h : CBx N w v x r s0 is0 W) (s : Str) (is : Bool) : CBx N w v x r s is (setS W N s is) :=
  ⟨setS_below h.bel (Nat.le_refl _), setS_best h.best, setS_is h.is, (setS_other (by omega) (by omega)).trans h.lst, (setS_other (by omega) (by omega)).trans h.xs, (setS_other (by omega) (by omega)).trans h.rs⟩
/-- The loop's state ahead of a round's body. -/
structure Busy (N : Nat) (w : World) (v : Value) (x : Nat) (r : Int) (M : Nat) (s s0 : Str) (is0 : Bool) (lb : Obj) (W W5 : World) : Prop where
  box : CBx N w v x r s0 is0 W5
  lp : W5.heap[N + 5 + 1]? = some lb
  df : W5.heap[N + 5]? = some (.deferred (some []))
  new : W5.heap[M]? = some (sbox s)
  ke : KeepI W W5
theorem Busy.keep {N : Nat} {w : World} {v : Value} {x : Nat} {r : Int} {M : Nat} {s s0 : Str} {is0 : Bool} {lb : Obj} {W W5 W6 : World} (h : Busy N w v x r M s s0 is0 lb W W5) (hb : Below W5.heap.size W5 W6) : Busy N w v x r M s s0 is0 lb W W6 :=
  ⟨h.box.keep hb, (hb.block _ (Array.getElem?_eq_some_iff.1 h.lp).1).trans h.lp, (hb.block _ (Array.getElem?_eq_some_iff.1 h.df).1).trans h.df, (hb.block _ (Array.getElem?_eq_some_iff.1 h.new).1).trans h.new, fun b cs hc => (hb.block _ (Array.getElem?_eq_some_iff.1 (h.ke b cs hc)).1).trans (h.ke b cs hc)⟩
/-- Behind the body: nothing was chosen anew. -/
theorem Busy.stay {N : Nat} {w : World} {v : Value} {x : Nat} {r : Int} {M : Nat} {s s0 : Str} {is0 : Bool} {l1 l2 : Loop} {W W5 : World} (h : Busy N w v x r M s s0 is0 (.loop l1) W W5) :
    CBx N w v x r s0 is0 (W5.putObj (N + 5 + 1) (.loop l2)) ∧ Book (W5.putObj (N + 5 + 1) (.loop l2)) (N + 5) l2 ∧ KeepI W (W5.putObj (N + 5 + 1) (.loop l2)) := by
  refine ⟨h.box.putObj _ _ (by omega), ⟨World.putObj_heap_same (Array.getElem?_eq_some_iff.1 h.lp).1, (World.putObj_heap_other (by omega)).trans h.df⟩, fun b cs hc => ?_⟩
  have h1 := h.ke b cs hc
  refine (World.putObj_heap_other ?_).trans h1
  rintro rfl
  rw [h.lp] at h1
  cases h1
/-- .. the new one was chosen. -/
theorem Busy.set {N : Nat} {w : World} {v : Value} {x : Nat} {r : Int} {M : Nat} {s s0 : Str} {is0 : Bool} {l1 : Loop} {W W5 : World} (h : Busy N w v x r M s s0 is0 (.loop l1) W W5) : Busy N w v x r N s s true (.loop l1) W (_root_.Go.Proofs.Ytngmcolbpdinmaa.crush.setS W5 N s true) := by
  refine ⟨h.box.setS s true, (setS_other (by omega) (by omega)).trans h.lp, (setS_other (by omega) (by omega)).trans h.df, setS_best h.box.best, fun b cs hc => ?_⟩
  have h1 := h.ke b cs hc
  refine (setS_other ?_ ?_).trans h1
  · rintro rfl
    rw [h.box.best] at h1
    cases h1
  · rintro rfl
    rw [h.box.is] at h1
    cases h1

theorem results_two {P : Program} {fn : Func} {t u : Tmp} (h : fn.results = #[.tmp t, .tmp u]) (tmps : Array Value) (w : World) : (results fn tmps).run P w = .ok (.tuple #[tmps.getD t undef, tmps.getD u undef]) w := by
  simp [results, h]

/-- What Choose answers. -/
def chosen (ks : List Ky) : Value := .tuple #[.int .i64 (((pick ks).getD 0 : Nat) : Int), .bool (pick ks).isSome]

set_option maxHeartbeats 8000000 in
set_option maxRecDepth 100000 in
theorem Choose_any (v : Value) (xs : List It) (x : Nat) (r : Int) (hx : x < 4294967296) (hlx : xs.length ≤ 1000000000) (w : World) (h : Sl wc 2 w v xs) :
    Calls Try.prog 33 #[v, .int .u32 x, .int .i64 r] w fun e w' => e = .returned (chosen (keys x r xs)) ∧ Below w.heap.size w w' := by
  obtain ⟨hl, a, cap, rfl, -, -⟩ := id h
  have HS := Lib.hid h; have HXl := Lib.hid hx; have HLn := Lib.hid hlx
  clear h hx hl hlx
  refine (callsIn_wide (n := 0)).1 ?_
  refine callsIn_of_wp_marks Try.func33 rfl trivial ?_ rfl
  simp only [Try.ntmps33, List.size_toArray, List.length_cons, List.length_nil, Nat.reduceAdd, Nat.reduceSub, Array.replicate_succ, Array.replicate_zero, List.push_toArray, List.append_toArray, List.nil_append, List.cons_append]
  gi_wp2_with (refine ⟨trivial, rfl, ?_⟩; gi_at_call 42; refine (callsIn_wide.2 (straws_any a xs.length cap x r _)).mono ?_; rintro e w' ⟨rfl, rfl⟩)
  have hs0 : (((((w.alloc (.cells #[.int .i64 0, .int .i64 0, .int .i64 0, .int .i64 0] 69)).alloc (.cells #[.bool false] 4)).alloc (.cells #[.slice a xs.length cap] 33)).alloc (.cells #[.int .u32 x] 24)).alloc (.cells #[.int .i64 r] 3)).heap.size = w.heap.size + 5 := by simp
  have hg0 : CBx w.heap.size w (.slice a xs.length cap) x r (bestS x r xs 0) false (((((w.alloc (.cells #[.int .i64 0, .int .i64 0, .int .i64 0, .int .i64 0] 69)).alloc (.cells #[.bool false] 4)).alloc (.cells #[.slice a xs.length cap] 33)).alloc (.cells #[.int .u32 x] 24)).alloc (.cells #[.int .i64 r] 3)) := by
    refine ⟨((((Below.refl _ _).alloc (Nat.le_refl _) _).alloc (by simp) _).alloc (by simp; omega) _).alloc (by simp; omega) _ |>.alloc (by simp; omega) _, ?_, ?_, ?_, ?_, ?_⟩
    · simp only [alloc_heap, Array.getElem?_push, Array.size_push]
      rw [if_neg (by omega), if_neg (by omega), if_neg (by omega), if_neg (by omega)]
      simp [sbox, bestS, best]
    all_goals
      simp only [alloc_heap, Array.getElem?_push, Array.size_push]
      simp
  generalize ((((w.alloc (.cells #[.int .i64 0, .int .i64 0, .int .i64 0, .int .i64 0] 69)).alloc (.cells #[.bool false] 4)).alloc (.cells #[.slice a xs.length cap] 33)).alloc (.cells #[.int .u32 x] 24)).alloc (.cells #[.int .i64 r] 3) = W0 at hs0 hg0 ⊢
  obtain ⟨N, hN⟩ : ∃ N, w.heap.size = N := ⟨_, rfl⟩
  have HN := Lib.hid hN
  rw [hN] at hs0 hg0 ⊢
  simp only [Nat.add_assoc, Nat.reduceAdd]
  clear hN
  obtain ⟨ks, hks⟩ : ∃ ks, keys x r xs = ks := ⟨_, rfl⟩
  have HKs := Lib.hid hks
  clear hks
  refine range_stmt (n := 0) (gf := 51) (lb := #[.pointer (some ⟨N + 2, 0, none⟩), .pointer (some ⟨N + 3, 0, none⟩), .pointer (some ⟨N + 4, 0, none⟩)])
    (I := fun W => CBx N w (.slice a xs.length cap) x r (bestS x r xs xs.length) (best (keys x r xs) xs.length).isSome W) (X := fun _ => False)
    rfl (enters_of Try.func51 (by kernel_rfl) rfl) ?hit ?hdone ?hstop
  case hit =>
    intro fn rec hrec
    simp only [hs0] at hrec ⊢
    refine (straws1_any (N + 5 + 1) (N + 2) (N + 3) (N + 4) x HXl.out r xs (.slice a xs.length cap) (I := fun k W => CBx N w (.slice a xs.length cap) x r (bestS x r xs k) (best (keys x r xs) k).isSome W ∧ Book W (N + 5) (rec .ready none)) HLn.out ?cells ?below ?skip ?yield _ ?start).mono ?post
    case cells => exact fun i W ⟨h, _⟩ => ⟨box_cell h.lst, box_cell h.xs, box_cell h.rs, HS.out.keep (by rw [HN.out]; exact h.bel)⟩
    case below =>
      rintro i W W' ⟨h1, ⟨h2, h3⟩⟩ hb
      exact ⟨h1.keep hb, (hb.block _ (Array.getElem?_eq_some_iff.1 h2).1).trans h2, (hb.block _ (Array.getElem?_eq_some_iff.1 h3).1).trans h3⟩
    case skip =>
      rintro i W hi h0 ⟨h1, h2⟩
      have e1 := best_skip x r xs i hi h0
      have e2 : bestS x r xs (i + 1) = bestS x r xs i := by unfold bestS; rw [e1]
      rw [e1, e2]
      exact ⟨h1, h2⟩
    case start =>
      have b1 : Below W0.heap.size W0 ((W0.alloc (.deferred (some []))).alloc (.loop (rec .ready none))) := ((Below.refl _ W0).alloc (Nat.le_refl _) _).alloc (by simp) _
      refine ⟨hg0.keep b1, ?_, ?_⟩
      · have := World.alloc_heap_new (W0.alloc (.deferred (some []))) (.loop (rec .ready none))
        rw [World.size_alloc, hs0] at this
        exact this
      · simp only [alloc_heap, Array.getElem?_push, Array.size_push, hs0]; simp
    case post =>
      rintro e W ⟨hv, h1, h2⟩
      exact ⟨hv, .inl ⟨h1, h2⟩⟩
    case yield =>
      rintro i W hi hpos ⟨hsb, hbk⟩
      refine yield_round hrec (Rt := fun W' => (CBx N w (.slice a xs.length cap) x r (bestS x r xs (i + 1)) (best (keys x r xs) (i + 1)).isSome W' ∧ Book W' (N + 5) (rec .ready none)) ∧ KeepI W W') (Rf := fun _ => False) hbk rfl ?_ |>.mono ?_
      · have HG := Lib.hid hsb; have HB := Lib.hid hbk
        have HLw := Lib.hid (strA_low x r i xs[i] (by have := HLn.out; omega))
        have HL0 := Lib.hid (bestS_low x r xs i (by have := HLn.out; omega))
        have HYes : Hid (ahead x r xs i xs[i] = true → bestS x r xs (i + 1) = strA x r i xs[i] ∧ (best (keys x r xs) (i + 1)).isSome = true) := Lib.hid (fun ha => by
          have e1 := best_yes x r xs i hi hpos ha
          unfold bestS
          rw [e1]
          exact ⟨by simp [List.getD, hi], rfl⟩)
        have HNo : Hid (ahead x r xs i xs[i] = false → bestS x r xs (i + 1) = bestS x r xs i ∧ (best (keys x r xs) (i + 1)).isSome = (best (keys x r xs) i).isSome) := Lib.hid (fun ha => by
          have e1 := best_no x r xs i hi hpos ha
          unfold bestS
          rw [e1]
          exact ⟨rfl, rfl⟩)
        have HA1 := Lib.hid (ahead_first x r xs i xs[i])
        have HA2 := Lib.hid (ahead_then x r xs i xs[i])
        generalize ahead x r xs i xs[i] = ah at HYes HNo HA1 HA2
        generalize strA x r i xs[i] = s at HLw HYes HA2 ⊢
        generalize bestS x r xs (i + 1) = s1 at HYes HNo ⊢
        generalize (best (keys x r xs) (i + 1)).isSome = is1 at HYes HNo ⊢
        generalize bestS x r xs i = s0 at HG HL0 HNo HA2
        generalize (best (keys x r xs) i).isSome = is0 at HG HNo HA1 HA2
        have hb4 := below_new W (sbox s)
        have hx4 := alloc_at W (sbox s)
        have hg4 := HG.out.keep hb4
        have hk4 : Book (W.alloc (sbox s)) (N + 5) (rec .ready none) := ⟨(hb4.block _ (Array.getElem?_eq_some_iff.1 HB.out.1).1).trans HB.out.1, (hb4.block _ (Array.getElem?_eq_some_iff.1 HB.out.2).1).trans HB.out.2⟩
        have hke : KeepI W (W.alloc (sbox s)) := fun b cs hb => (hb4.block _ (Array.getElem?_eq_some_iff.1 hb).1).trans hb
        have hM : N + 5 + 1 < W.heap.size := (Array.getElem?_eq_some_iff.1 HB.out.1).1
        have HCm := Lib.hid (@compare_any s s0 HLw.out HL0.out)
        clear hrec hsb hbk hs0 hg0 hb4 HG HB HKs hi hpos HLw HL0
        obtain ⟨i1, w1, p1, c1⟩ := s
        obtain ⟨i0, w0, p0, c0⟩ := s0
        simp only [sc, sbox] at hx4 hg4 hk4 hke HCm ⊢
        gi_upto_region 5 with fail
        refine ⟨hk4.1, ?_⟩
        have hl4 := (Array.getElem?_eq_some_iff.1 hk4.1).1
        have hbz : Busy N w (.slice a xs.length cap) x r W.heap.size ⟨i1, w1, p1, c1⟩ ⟨i0, w0, p0, c0⟩ is0 (.loop (rec .busy none)) W ((W.alloc (.cells #[.int .i64 i1, .int .i64 (w1 : Int), .int .i64 (p1 : Int), .int .i64 (c1 : Int)] 69)).putObj (N + 5 + 1) (.loop (rec .busy none))) := by
          refine ⟨hg4.putObj _ _ (by omega), World.putObj_heap_same hl4, (World.putObj_heap_other (by omega)).trans hk4.2, (World.putObj_heap_other (by omega)).trans hx4, fun b cs hc => ?_⟩
          have h1 := hke b cs hc
          refine (World.putObj_heap_other ?_).trans h1
          rintro rfl
          rw [hk4.1] at h1
          cases h1
        clear hx4 hg4 hk4 hke hl4
        generalize (W.alloc (.cells #[.int .i64 i1, .int .i64 (w1 : Int), .int .i64 (p1 : Int), .int .i64 (c1 : Int)] 69)).putObj (N + 5 + 1) (.loop (rec .busy none)) = W5 at hbz ⊢
        obtain ⟨M, hM2⟩ : ∃ M, W.heap.size = M := ⟨_, rfl⟩
        rw [hM2] at hbz ⊢
        clear hM hM2
        have HZ := Lib.hid hbz
        clear hbz
        cases is0 with
        | false =>
          obtain ⟨rfl, rfl⟩ := HYes.out (HA1.out rfl)
          obtain ⟨m0, m1, m2, m3⟩ := sbox_at HZ.out.new
          obtain ⟨t0, t1, t2, t3⟩ := sbox_thaw HZ.out.box.best
          obtain ⟨q0, q1, q2, q3⟩ := sbox_at HZ.out.box.best
          have b9 := box_cell HZ.out.box.is
          have t9 := box_frozen HZ.out.box.is
          have hst := Lib.hid HZ.out.set
          simp only [setS] at hst
          simp only at m1 m2 m3 q1 q2 q3
          gi_wp2
          refine ⟨trivial, ?_⟩
          clear HS HXl HLn HN HYes HNo HA1 HA2 HCm
          gi_upto_region 6 with fail
          refine wpIn_mono (Q := fun e a W' => e = .normal ∧ W' = (((((W5.setCell ⟨N, 0, none⟩ (.int .i64 i1)).setCell ⟨N, 1, none⟩ (.int .i64 (w1 : Int))).setCell ⟨N, 2, none⟩ (.int .i64 (p1 : Int))).setCell ⟨N, 3, none⟩ (.int .i64 (c1 : Int))).setCell ⟨N + 1, 0, none⟩ (.bool true))) ?_ ?_
          · clear hst HZ
            gi_wp2
          · rintro e a8 W8 ⟨rfl, rfl⟩
            exact ⟨hst.out.lp, ⟨hst.out.stay.1, hst.out.stay.2.1⟩, hst.out.stay.2.2⟩
        | true =>
          have ho : True → decide (ordS ⟨i1, w1, p1, c1⟩ ⟨i0, w0, p0, c0⟩ < 0) = ah := fun _ => HA2.out rfl
          clear HA1 HA2
          cases ah with
          | false =>
            obtain ⟨rfl, rfl⟩ := HNo.out rfl
            obtain ⟨m0, m1, m2, m3⟩ := sbox_at HZ.out.new
            obtain ⟨q0, q1, q2, q3⟩ := sbox_at HZ.out.box.best
            have b9 := box_cell HZ.out.box.is
            simp only at m1 m2 m3 q1 q2 q3
            clear HS HXl HLn HN HYes HNo
            refine wpIn_mono (Q := fun e _ W' => e = .normal ∧ Hid (Busy N w (.slice a xs.length cap) x r M ⟨i1, w1, p1, c1⟩ ⟨i0, w0, p0, c0⟩ true (.loop (rec .busy none)) W W')) ?_ ?_
            · gi_wp2_with (refine ⟨trivial, rfl, ?_⟩; gi_at_call 43; refine (callsIn_wide.2 (HCm.out _)).mono ?_; rintro e w' ⟨rfl, hgr⟩; have HZ2 := Lib.hid (HZ.out.keep (grow_below hgr)); clear hgr m0 m1 m2 m3 q0 q1 q2 q3 b9)
            · rintro e a8 W8 ⟨rfl, HZ2⟩
              exact ⟨HZ2.out.lp, ⟨HZ2.out.stay.1, HZ2.out.stay.2.1⟩, HZ2.out.stay.2.2⟩
          | true =>
            obtain ⟨rfl, rfl⟩ := HYes.out rfl
            obtain ⟨m0, m1, m2, m3⟩ := sbox_at HZ.out.new
            obtain ⟨q0, q1, q2, q3⟩ := sbox_at HZ.out.box.best
            have b9 := box_cell HZ.out.box.is
            simp only at m1 m2 m3 q1 q2 q3
            clear HS HXl HLn HN HYes HNo
            refine wpIn_mono (Q := fun e _ W' => e = .normal ∧ Hid (Busy N w (.slice a xs.length cap) x r N ⟨i1, w1, p1, c1⟩ ⟨i1, w1, p1, c1⟩ true (.loop (rec .busy none)) W W')) ?_ ?_
            · gi_wp2_with (refine ⟨trivial, rfl, ?_⟩; gi_at_call 43; refine (callsIn_wide.2 (HCm.out _)).mono ?_; rintro e w' ⟨rfl, hgr⟩; have HZ2 := Lib.hid (HZ.out.keep (grow_below hgr)); clear hgr m0 m1 m2 m3 q0 q1 q2 q3 b9; obtain ⟨m0, m1, m2, m3⟩ := sbox_at HZ2.out.new; obtain ⟨t0, t1, t2, t3⟩ := sbox_thaw HZ2.out.box.best; obtain ⟨q0, q1, q2, q3⟩ := sbox_at HZ2.out.box.best; have b9 := box_cell HZ2.out.box.is; have t9 := box_frozen HZ2.out.box.is; have hst := Lib.hid HZ2.out.set; simp only [setS] at hst; simp only at m1 m2 m3 q1 q2 q3)
            · rintro e a8 W8 ⟨rfl, HZ2⟩
              exact ⟨HZ2.out.lp, ⟨HZ2.out.stay.1, HZ2.out.stay.2.1⟩, HZ2.out.stay.2.2⟩
      · rintro e W' (⟨he, h⟩ | ⟨_, h⟩)
        · exact ⟨he, h.1, h.2⟩
        · exact h.elim
  case hdone =>
    rintro W r2 r' hgb hb
    simp only [hs0]
    have hbl := hb.1
    have hbd := hb.2
    simp only [hs0] at hbl hbd
    have hk : (W.putObj (N + 5 + 1) (.loop r')).heap[N + 5]? = some (.deferred (some [])) := (World.putObj_heap_other (by omega)).trans hbd
    have hg2 := hgb.putObj (N + 5 + 1) (.loop r') (by omega)
    have HP : Hid (pick (keys x r xs) = best (keys x r xs) xs.length) := Lib.hid (by unfold pick; rw [keys_len])
    have HBs : Hid (((bestS x r xs xs.length).place : Int) = (((best (keys x r xs) xs.length).getD 0 : Nat) : Int)) := Lib.hid (by
      unfold bestS
      cases best (keys x r xs) xs.length with
      | none => rfl
      | some b => rfl)
    clear hgb hb hg0 hbl hbd HKs
    generalize W.putObj (N + 5 + 1) (.loop r') = W3 at hk hg2 ⊢
    generalize bestS x r xs xs.length = s at hg2 HBs
    obtain ⟨si, sw, sp, sc⟩ := s
    have b9 := box_cell hg2.is
    obtain ⟨m0, m1, m2, m3⟩ := sbox_at hg2.best
    simp only at m1 m2 m3 HBs
    have HG3 := Lib.hid hg2; have HD3 := Lib.hid hk
    clear hg2 hk
    have mixed : Try.prog.follows .mixedOrders = true := by kernel_rfl
    gi_wp2
    refine wpIn_calm ?_
    gi_region
    all_goals refine calm_normal ?_
    all_goals gi_wp2
    have hd4 : W3.drew.heap[N + 5]? = some (.deferred (some [])) := HD3.out
    have hg5 := (HG3.out.keep (below_drew (Below.refl _ W3))).putObj (N + 5) (.deferred none) (by omega)
    refine ⟨by simp, .inl ⟨_, _, rfl, run_takeDeferred hd4, ?_⟩⟩
    refine ⟨_, results_two rfl _ _, ?_, by rw [HN.out]; exact hg5.bel⟩
    unfold chosen
    rw [HP.out, ← HBs.out]
    rfl
  case hstop => exact fun _ _ _ h => h.elim
end Go.Proofs.Ytngmcolbpdinmaa.crush
