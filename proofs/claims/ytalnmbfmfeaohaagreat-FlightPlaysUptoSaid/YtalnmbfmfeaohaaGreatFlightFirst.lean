/- The first frame that is meant. -/
import Derived.Test.YtalnmbfmfeaohaaGreatRows
import Derived.Test.YtalnmbfmfeaohaaGreatFlightThose
import Derived.RangeFuncRecord
import Derived.Stop.RegionWithIn
import Derived.RegionIn
import Derived.Sort.CutIn
import Derived.BigRegionIn
namespace Go.Proofs.YtalnmbfmfeaohaaGreat.flight
open Go.RowKit
open Go.Proofs.YtalnmbfmfeaohaaGreat.kit Go.Proofs.YtalnmbfmfeaohaaGreat.own Go.Proofs.YtalnmbfmfeaohaaGreat.iter
set_option linter.unusedVariables false
attribute [local go_sem] Oper.semAt_some

set_option maxHeartbeats 4000000 in
set_option maxRecDepth 100000 in
theorem those_any (a : Option Addr) (n c : Nat) (g : Nat) (lb : Array Value) (w : World) : Calls Tryz.prog 36 #[.slice a n c, .func (.func g) #[] lb] w fun e w' =>
    e = .returned (.func (.func 54) #[] #[.pointer (some ⟨w.heap.size, 0, none⟩), .pointer (some ⟨w.heap.size + 1, 0, none⟩)]) ∧ w' = (w.alloc (.cells #[.slice a n c] 22)).alloc (.cells #[.func (.func g) #[] lb] 71) := by
  have hmf : ∀ (fn : Fn) (first cap : Array Value) (w : World), (Instr.makeFunc fn first cap).run Tryz.prog w = .ok (.func fn first cap) w := fun _ _ _ _ => rfl
  go_enter Tryz.func36, Tryz.ntmps36
  go_wp2
  go_ret
  exact ⟨rfl, rfl⟩

def zeroFr : Frm := ⟨0, 0, 0, { data := #[] }⟩
/-- The boxes of 'first'. -/
structure FB (N : Nat) (w : World) (i : Int) (x : Frm) (b : Bool) (v fv : Value) (W : World) : Prop where
  bel : Below N w W
  h0 : W.heap[N]? = some (.cells #[.int .i64 i] 3 (0, 0))
  h1 : W.heap[N + 1]? = some (.cells #[.int .i64 x.num, .int .i64 x.src, .int .i64 x.dst, .string x.body] 38 (0, 0))
  h2 : W.heap[N + 2]? = some (.cells #[.bool b] 4 (0, 0))
  h3 : W.heap[N + 3]? = some (.cells #[v] 22 (0, 0))
  h4 : W.heap[N + 4]? = some (.cells #[fv] 71 (0, 0))
theorem FB.lt {N : Nat} {w : World} {i : Int} {x : Frm} {b : Bool} {v fv : Value} {W : World} (h : FB N w i x b v fv W) : N + 4 < W.heap.size := (Array.getElem?_eq_some_iff.1 h.h4).1
theorem FB.keep {N : Nat} {w : World} {i : Int} {x : Frm} {b : Bool} {v fv : Value} {W W' : World} (h : FB N w i x b v fv W) (hb : Below W.heap.size W W') : FB N w i x b v fv W' := by
  have hl := h.lt
  exact ⟨h.bel.trans (hb.mono (by omega)), (hb.block _ (by omega)).trans h.h0, (hb.block _ (by omega)).trans h.h1, (hb.block _ (by omega)).trans h.h2, (hb.block _ (by omega)).trans h.h3, (hb.block _ (by omega)).trans h.h4⟩
theorem FB.putObj {N : Nat} {w : World} {i : Int} {x : Frm} {b : Bool} {v fv : Value} {W : World} (h : FB N w i x b v fv W) (l : Nat) (o : Obj) (hl : N + 5 ≤ l) : FB N w i x b v fv (W.putObj l o) := by
  have k : ∀ j, j < N + 5 → (W.putObj l o).heap[j]? = W.heap[j]? := fun j hj => World.putObj_heap_other (by omega)
  exact ⟨⟨h.bel.os, h.bel.tape, h.bel.output, by rw [World.putObj_size]; exact h.bel.size, fun j hj => (k j (by omega)).trans (h.bel.block j hj)⟩, (k _ (by omega)).trans h.h0, (k _ (by omega)).trans h.h1, (k _ (by omega)).trans h.h2, (k _ (by omega)).trans h.h3, (k _ (by omega)).trans h.h4⟩

/-- What 'first' lays into its results. -/
def laidF (W : World) (N : Nat) (i : Int) (n s d : Int) (bo : ByteArray) (b : Bool) : World := (((((W.setCell ⟨N, 0, none⟩ (.int .i64 i)).setCell ⟨N + 1, 0, none⟩ (.int .i64 n)).setCell ⟨N + 1, 1, none⟩ (.int .i64 s)).setCell ⟨N + 1, 2, none⟩ (.int .i64 d)).setCell ⟨N + 1, 3, none⟩ (.string bo)).setCell ⟨N + 2, 0, none⟩ (.bool b)
theorem laidF_other (W : World) (N : Nat) (i : Int) (n s d : Int) (bo : ByteArray) (b : Bool) (k : Nat) (hk : k < N ∨ N + 3 ≤ k) : (laidF W N i n s d bo b).heap[k]? = W.heap[k]? := by
  unfold laidF
  rw [heap_setCell_other _ _ _ _ (by show k ≠ N + 2; omega), heap_setCell_other _ _ _ _ (by show k ≠ N + 1; omega), heap_setCell_other _ _ _ _ (by show k ≠ N + 1; omega), heap_setCell_other _ _ _ _ (by show k ≠ N + 1; omega), heap_setCell_other _ _ _ _ (by show k ≠ N + 1; omega), heap_setCell_other _ _ _ _ (by show k ≠ N; omega)]
theorem FB.laid {N : Nat} {w : World} {i0 : Int} {x : Frm} {b0 : Bool} {v fv : Value} {W : World} (h : FB N w i0 x b0 v fv W) (i : Int) (n s d : Int) (bo : ByteArray) (b : Bool) : FB N w i ⟨n, s, d, bo⟩ b v fv (laidF W N i n s d bo b) := by
  refine ⟨?_, ?_, ?_, ?_, (laidF_other W N i n s d bo b _ (by omega)).trans h.h3, (laidF_other W N i n s d bo b _ (by omega)).trans h.h4⟩
  · unfold laidF
    exact (((((h.bel.setCell (p := ⟨N, 0, none⟩) (Nat.le_refl _) _).setCell (p := ⟨N + 1, 0, none⟩) (by simp) _).setCell (p := ⟨N + 1, 1, none⟩) (by simp) _).setCell (p := ⟨N + 1, 2, none⟩) (by simp) _).setCell (p := ⟨N + 1, 3, none⟩) (by simp) _).setCell (p := ⟨N + 2, 0, none⟩) (by simp) _
  · unfold laidF
    rw [heap_setCell_other _ _ _ _ (by show N ≠ N + 2; omega), heap_setCell_other _ _ _ _ (by show N ≠ N + 1; omega), heap_setCell_other _ _ _ _ (by show N ≠ N + 1; omega), heap_setCell_other _ _ _ _ (by show N ≠ N + 1; omega), heap_setCell_other _ _ _ _ (by show N ≠ N + 1; omega)]
    exact heap_setCell_same W N 0 _ _ _ h.h0
  · unfold laidF
    rw [heap_setCell_other _ _ _ _ (by show N + 1 ≠ N + 2; omega)]
    have h1 := (heap_setCell_other W ⟨N, 0, none⟩ (N + 1) (.int .i64 i) (by show N + 1 ≠ N; omega)).trans h.h1
    exact heap_setCell_same _ _ 3 _ _ _ (heap_setCell_same _ _ 2 _ _ _ (heap_setCell_same _ _ 1 _ _ _ (heap_setCell_same _ _ 0 _ _ _ h1)))
  · unfold laidF
    have h2 : (((((W.setCell ⟨N, 0, none⟩ (.int .i64 i)).setCell ⟨N + 1, 0, none⟩ (.int .i64 n)).setCell ⟨N + 1, 1, none⟩ (.int .i64 s)).setCell ⟨N + 1, 2, none⟩ (.int .i64 d)).setCell ⟨N + 1, 3, none⟩ (.string bo)).heap[N + 2]? = some (.cells #[.bool b0] 4 (0, 0)) := by
      rw [heap_setCell_other _ _ _ _ (by show N + 2 ≠ N + 1; omega), heap_setCell_other _ _ _ _ (by show N + 2 ≠ N + 1; omega), heap_setCell_other _ _ _ _ (by show N + 2 ≠ N + 1; omega), heap_setCell_other _ _ _ _ (by show N + 2 ≠ N + 1; omega), heap_setCell_other _ _ _ _ (by show N + 2 ≠ N; omega)]
      exact h.h2
    exact heap_setCell_same _ _ 0 _ _ _ h2
/-- The cells of the three results, and that they may be written. -/
theorem FB.cells {N : Nat} {w : World} {i : Int} {x : Frm} {b : Bool} {v fv : Value} {W : World} (h : FB N w i x b v fv W) :
    (W.cell? ⟨N, 0, none⟩ = some (.int .i64 i) ∧ W.cell? ⟨N + 1, 0, none⟩ = some (.int .i64 x.num) ∧ W.cell? ⟨N + 1, 1, none⟩ = some (.int .i64 x.src) ∧ W.cell? ⟨N + 1, 2, none⟩ = some (.int .i64 x.dst) ∧ W.cell? ⟨N + 1, 3, none⟩ = some (.string x.body) ∧ W.cell? ⟨N + 2, 0, none⟩ = some (.bool b)) ∧
    (W.frozen? ⟨N, 0, none⟩ = false ∧ W.frozen? ⟨N + 1, 0, none⟩ = false ∧ W.frozen? ⟨N + 1, 1, none⟩ = false ∧ W.frozen? ⟨N + 1, 2, none⟩ = false ∧ W.frozen? ⟨N + 1, 3, none⟩ = false ∧ W.frozen? ⟨N + 2, 0, none⟩ = false) := by
  have h0 := h.h0; have h1 := h.h1; have h2 := h.h2
  refine ⟨⟨?_, ?_, ?_, ?_, ?_, ?_⟩, ⟨?_, ?_, ?_, ?_, ?_, ?_⟩⟩ <;> simp [World.cell?, World.frozen?, h0, h1, h2]

theorem five_alloc (w : World) (o0 o1 o2 o3 o4 : Obj) :
    (((((w.alloc o0).alloc o1).alloc o2).alloc o3).alloc o4).heap.size = w.heap.size + 5 ∧
    (((((w.alloc o0).alloc o1).alloc o2).alloc o3).alloc o4).heap[w.heap.size]? = some o0 ∧
    (((((w.alloc o0).alloc o1).alloc o2).alloc o3).alloc o4).heap[w.heap.size + 1]? = some o1 ∧
    (((((w.alloc o0).alloc o1).alloc o2).alloc o3).alloc o4).heap[w.heap.size + 2]? = some o2 ∧
    (((((w.alloc o0).alloc o1).alloc o2).alloc o3).alloc o4).heap[w.heap.size + 3]? = some o3 ∧
    (((((w.alloc o0).alloc o1).alloc o2).alloc o3).alloc o4).heap[w.heap.size + 4]? = some o4 ∧
    Below w.heap.size w (((((w.alloc o0).alloc o1).alloc o2).alloc o3).alloc o4) := by
  refine ⟨by simp, ?_, ?_, ?_, ?_, ?_, ?_⟩
  · simp only [alloc_heap, Array.getElem?_push, Array.size_push]; simp; repeat rw [if_neg (by omega)]
  · simp only [alloc_heap, Array.getElem?_push, Array.size_push]; simp
  · simp only [alloc_heap, Array.getElem?_push, Array.size_push]; simp
  · simp only [alloc_heap, Array.getElem?_push, Array.size_push]; simp
  · simp only [alloc_heap, Array.getElem?_push, Array.size_push]; simp
  · exact (((((Below.refl _ w).alloc (Nat.le_refl _) _).alloc (by simp) _).alloc (by simp; omega) _).alloc (by simp; omega) _).alloc (by simp; omega) _

theorem load_int {w : World} {b : Nat} {v : Value} (hc : w.cell? ⟨b, 0, none⟩ = some v) : (loadVar 3 ⟨b, 0, none⟩).run Tryz.prog w = .ok v w := by
  have ha : (isAgg 3).run Tryz.prog w = .ok false w := by
    unfold isAgg
    rw [Sem.run_bind, run_underlying Tryz.underlying3 w]
    simp
  simp [loadVar, Sem.run_bind, ha, hc]
theorem load_bool {w : World} {b : Nat} {v : Value} (hc : w.cell? ⟨b, 0, none⟩ = some v) : (loadVar 4 ⟨b, 0, none⟩).run Tryz.prog w = .ok v w := by
  have ha : (isAgg 4).run Tryz.prog w = .ok false w := by
    unfold isAgg
    rw [Sem.run_bind, run_underlying Tryz.underlying4 w]
    simp
  simp [loadVar, Sem.run_bind, ha, hc]
theorem ret3 {N : Nat} {w : World} {i : Int} {x : Frm} {b : Bool} {v fv : Value} {W : World} (h : FB N w i x b v fv W) {tmps : Array Value} (h4 : tmps.getD 4 undef = .pointer (some ⟨N, 0, none⟩)) (h5 : tmps.getD 5 undef = .pointer (some ⟨N + 1, 0, none⟩)) (h6 : tmps.getD 6 undef = .pointer (some ⟨N + 2, 0, none⟩)) :
    (results Tryz.f34 tmps).run Tryz.prog W = .ok (.tuple #[.int .i64 i, fval x, .bool b]) W := by
  have h4' : tmps[4]?.getD undef = .pointer (some ⟨N, 0, none⟩) := by simpa using h4
  have h5' : tmps[5]?.getD undef = .pointer (some ⟨N + 1, 0, none⟩) := by simpa using h5
  have h6' : tmps[6]?.getD undef = .pointer (some ⟨N + 2, 0, none⟩) := by simpa using h6
  have l1 := load_int (box_cell h.h0)
  have l2 := run_loadVar_mid (P := Tryz.prog) W (N + 1) 0 38 [.int .i64 x.num, .int .i64 x.src, .int .i64 x.dst, .string x.body] _ (range_of_cells h.h1) Tryz.underlying38 rfl sizeFrm
  have l3 := load_bool (box_cell h.h2)
  skip
  simp [results, h4', h5', h6', asAddr, l1, l2, l3, fval]

/-- What 'first' tells. -/
def FirstS (w : World) (p : Frm → Bool) (xs : List Frm) (e : Ending) (w' : World) : Prop := Below w.heap.size w w' ∧
  (((∀ x ∈ xs, p x = false) ∧ e = .returned (.tuple #[.int .i64 0, fval zeroFr, .bool false])) ∨
    ∃ (i : Nat) (h : i < xs.length), p xs[i] = true ∧ (∀ j (hj : j < i), p (xs[j]'(by omega)) = false) ∧ e = .returned (.tuple #[.int .i64 i, fval xs[i], .bool true]))

set_option maxHeartbeats 8000000 in
set_option maxRecDepth 100000 in
theorem first_any (v fv : Value) (xs : List Frm) (p : Frm → Bool) (w : World) (hs : Sl fc 4 w v xs) (hok : ∀ x ∈ xs, Frm.Ok x) (hm : Meant w fv p) : Calls Tryz.prog 34 #[v, fv] w (FirstS w p xs) := by
  obtain ⟨hl, a, cap, rfl, -, -⟩ := id hs
  obtain ⟨g, lb, rfl, hen, hcall⟩ := hm
  have HS := Lib.hid hs; have HOK := Lib.hid hok; have HCall := Lib.hid hcall; have HEn := Lib.hid hen; have HLn := Lib.hid hl
  clear hs hok hcall hen hl
  refine (callsIn_wide (n := 0)).1 ?_
  refine callsIn_of_wp_marks Tryz.func34 rfl trivial ?_ rfl
  simp only [Tryz.ntmps34, List.size_toArray, List.length_cons, List.length_nil, Nat.reduceAdd, Nat.reduceSub, Array.replicate_succ, Array.replicate_zero, List.push_toArray, List.append_toArray, List.nil_append, List.cons_append]
  gi_wp2_with (refine ⟨trivial, rfl, ?_⟩; gi_at_call 36; refine (callsIn_wide.2 (those_any a xs.length cap g lb _)).mono ?_; rintro e w' ⟨rfl, rfl⟩)
  obtain ⟨s0, s1, s2, s3, s4, s5, s6⟩ := five_alloc w (.cells #[.int .i64 0] 3) (.cells #[.int .i64 0, .int .i64 0, .int .i64 0, .string { data := #[] }] 38) (.cells #[.bool false] 4) (.cells #[.slice a xs.length cap] 22) (.cells #[.func (.func g) #[] lb] 71)
  generalize hW5 : (((((w.alloc (.cells #[.int .i64 0] 3)).alloc (.cells #[.int .i64 0, .int .i64 0, .int .i64 0, .string { data := #[] }] 38)).alloc (.cells #[.bool false] 4)).alloc (.cells #[.slice a xs.length cap] 22)).alloc (.cells #[.func (.func g) #[] lb] 71)) = W5 at s0 s1 s2 s3 s4 s5 s6 ⊢
  clear hW5
  obtain ⟨N, hNs⟩ : ∃ N, w.heap.size = N := ⟨_, rfl⟩
  simp only [hNs, Nat.add_assoc, Nat.reduceAdd] at s0 s1 s2 s3 s4 s5 s6 ⊢
  have HN := Lib.hid hNs
  clear hNs
  have hmeant : ∀ W, Below N w W → ∀ x : Frm, x.Ok → Calls Tryz.prog g (#[fval x] ++ lb) W fun e W' => e = .returned (.bool (p x)) ∧ Below W.heap.size W W' := fun W hW x hx => HCall.out W (by rw [HN.out]; exact hW) x hx
  have hsl : ∀ W, Below N w W → Sl fc 4 W (.slice a xs.length cap) xs := fun W hW => HS.out.keep (by rw [HN.out]; exact hW)
  refine range_stmt (n := 0) (gf := 54) (lb := #[.pointer (some ⟨N + 3, 0, none⟩), .pointer (some ⟨N + 4, 0, none⟩)])
    (I := fun W => FB N w 0 zeroFr false (.slice a xs.length cap) (.func (.func g) #[] lb) W ∧ ∀ x ∈ xs, p x = false)
    (X := fun W => ∃ (i : Nat) (h : i < xs.length), FB N w i xs[i] true (.slice a xs.length cap) (.func (.func g) #[] lb) W ∧ p xs[i] = true ∧ ∀ j (hj : j < i), p (xs[j]'(by omega)) = false)
    rfl (enters_of Tryz.func54 (by kernel_rfl) rfl) ?hit ?hdone ?hstop
  case hit =>
    intro fn rec hrec
    simp only [s0] at hrec ⊢
    refine (those1_any (N + 5 + 1) (N + 3) (N + 4) xs (.slice a xs.length cap) g lb p
      (I := fun k W => FB N w 0 zeroFr false (.slice a xs.length cap) (.func (.func g) #[] lb) W ∧ Book W (N + 5) (rec .ready none) ∧ ∀ j (hj : j < xs.length), j < k → p xs[j] = false)
      (X := fun i W => ∃ (h : i < xs.length), FB N w i xs[i] true (.slice a xs.length cap) (.func (.func g) #[] lb) W ∧ Book W (N + 5) (rec .done (some .ret)) ∧ p xs[i] = true ∧ ∀ j (hj : j < i), p (xs[j]'(by omega)) = false)
      HOK.out ?cells ?below HEn.out ?meant ?skip ?yield _ ?start).mono ?post
    case cells => exact fun i W h => ⟨box_cell h.1.h3, box_cell h.1.h4, hsl W h.1.bel⟩
    case below => 
      rintro i W W' ⟨h1, ⟨h2, h3⟩, h4⟩ hb
      exact ⟨h1.keep hb, ⟨(hb.block _ (Array.getElem?_eq_some_iff.1 h2).1).trans h2, (hb.block _ (Array.getElem?_eq_some_iff.1 h3).1).trans h3⟩, h4⟩
    case meant => exact fun i W h x hx => hmeant W h.1.bel x hx
    case skip =>
      rintro i W h ⟨h1, h2, h3⟩ hp
      refine ⟨h1, h2, fun j hj hji => ?_⟩
      rcases Nat.lt_or_ge j i with h4 | h4
      · exact h3 j hj h4
      · obtain rfl : j = i := by omega
        exact hp
    case start =>
      have b1 : Below W5.heap.size W5 ((W5.alloc (.deferred (some []))).alloc (.loop (rec .ready none))) := ((Below.refl _ W5).alloc (Nat.le_refl _) _).alloc (by simp) _
      refine ⟨FB.keep ⟨s6, s1, s2, s3, s4, s5⟩ b1, ⟨?_, ?_⟩, fun j _ hj => by omega⟩
      · have := World.alloc_heap_new (W5.alloc (.deferred (some []))) (.loop (rec .ready none))
        rw [World.size_alloc, s0] at this
        exact this
      · simp only [alloc_heap, Array.getElem?_push, Array.size_push, s0]; simp
    case post =>
      rintro e W ⟨hv, (⟨h1, h2, h3⟩ | ⟨i, hi, h, h1, h2, h3⟩)⟩
      · refine ⟨hv, .inl ⟨⟨h1, fun x hx => ?_⟩, h2⟩⟩
        obtain ⟨j, hj, rfl⟩ := List.getElem_of_mem hx
        exact h3 j hj hj
      · exact ⟨hv, .inr ⟨⟨i, hi, h1, h3⟩, h2⟩⟩
    case yield =>
      rintro i W hi ⟨hfb, hbk, hno⟩ hp
      obtain ⟨x, hx⟩ : ∃ x, xs[i] = x := ⟨_, rfl⟩
      rw [hx]
      have HX := Lib.hid hx; have HP := Lib.hid hp; have HNo := Lib.hid hno
      clear hx hp hno
      refine yield_round hrec (Rt := fun _ => False) (Rf := fun W' => ∃ (h : i < xs.length), FB N w i xs[i] true (.slice a xs.length cap) (.func (.func g) #[] lb) W' ∧ Book W' (N + 5) (rec .done (some .ret)) ∧ p xs[i] = true ∧ ∀ j (hj : j < i), p (xs[j]'(by omega)) = false) hbk rfl ?_ |>.mono ?_
      · have HF := Lib.hid hfb; have HB := Lib.hid hbk
        clear hrec hfb hbk s0 s1 s2 s3 s4 s5 s6 hmeant hsl
        obtain ⟨n, s, d, bo⟩ := x
        unfold fval
        simp only
        gi_wp2
        have b2 := below_new W (.cells #[.int .i64 n, .int .i64 s, .int .i64 d, .string bo] 38)
        have hk1 := (b2.block _ (Array.getElem?_eq_some_iff.1 HB.out.1).1).trans HB.out.1
        have hk2 := (b2.block _ (Array.getElem?_eq_some_iff.1 HB.out.2).1).trans HB.out.2
        refine ⟨hk1, ?_⟩
        have hlt := HF.out.lt
        have hW6 := (Array.getElem?_eq_some_iff.1 HB.out.1).1
        have hf3 := (HF.out.keep b2).putObj (N + 5 + 1) (.loop (rec .busy none)) (by omega)
        have hl3 := World.putObj_heap_same (o := .loop (rec .busy none)) (Array.getElem?_eq_some_iff.1 hk1).1
        have hd3 : ((W.alloc (.cells #[.int .i64 n, .int .i64 s, .int .i64 d, .string bo] 38)).putObj (N + 5 + 1) (.loop (rec .busy none))).heap[N + 5]? = some (.deferred (some [])) := (World.putObj_heap_other (by omega)).trans hk2
        have hR : ((W.alloc (.cells #[.int .i64 n, .int .i64 s, .int .i64 d, .string bo] 38)).putObj (N + 5 + 1) (.loop (rec .busy none))).heap[W.heap.size]? = some (.cells #[.int .i64 n, .int .i64 s, .int .i64 d, .string bo] 38 (0, 0)) :=
          (World.putObj_heap_other (by omega)).trans (alloc_at _ _)
        generalize (W.alloc (.cells #[.int .i64 n, .int .i64 s, .int .i64 d, .string bo] 38)).putObj (N + 5 + 1) (.loop (rec .busy none)) = W3 at hf3 hl3 hd3 hR ⊢
        have q0 : ¬ W.heap.size = N := by omega
        have q1 : ¬ N = W.heap.size := by omega
        have q2 : ¬ W.heap.size = N + 1 := by omega
        have q3 : ¬ N + 1 = W.heap.size := by omega
        have q4 : ¬ W.heap.size = N + 2 := by omega
        have q5 : ¬ N + 2 = W.heap.size := by omega
        generalize W.heap.size = R at hR q0 q1 q2 q3 q4 q5 ⊢
        obtain ⟨⟨k0, k1, k2, k3, k4, k5⟩, m0, m1, m2, m3, m4, m5⟩ := hf3.cells
        obtain ⟨r0, r1, r2, r3⟩ := fcells_at (x := ⟨n, s, d, bo⟩) (range_of_cells hR)
        simp only [Nat.zero_add] at r0 r1 r2 r3
        have HF3 := Lib.hid hf3; have HL3 := Lib.hid hl3; have HD3 := Lib.hid hd3
        clear b2 hk1 hk2 hlt hW6 hf3 hl3 hd3 hR HF HB
        gi_upto_region 4 with fail
        skip
        gi_region_with fail
        all_goals
          have hf4 := HF3.out.laid (i : Int) n s d bo true
          have hl4 := (laidF_other W3 N (i : Int) n s d bo true (N + 5 + 1) (by omega)).trans HL3.out
          have hd4 := (laidF_other W3 N (i : Int) n s d bo true (N + 5) (by omega)).trans HD3.out
          unfold laidF at hf4 hl4 hd4
          generalize ((((((W3.setCell ⟨N, 0, none⟩ (.int .i64 (i : Int))).setCell ⟨N + 1, 0, none⟩ (.int .i64 n)).setCell ⟨N + 1, 1, none⟩ (.int .i64 s)).setCell ⟨N + 1, 2, none⟩ (.int .i64 d)).setCell ⟨N + 1, 3, none⟩ (.string bo)).setCell ⟨N + 2, 0, none⟩ (.bool true)) = W4 at hf4 hl4 hd4 ⊢
          have hb4 : Below W4.heap.size W4 W4.drew := ⟨rfl, rfl, rfl, Nat.le_refl _, fun _ _ => rfl⟩
          have HF4 := Lib.hid (hf4.keep hb4); have HL4 := Lib.hid (show W4.drew.heap[N + 5 + 1]? = _ from hl4); have HD4 := Lib.hid (show W4.drew.heap[N + 5]? = _ from hd4)
          clear hf4 hl4 hd4 hb4 k0 k1 k2 k3 k4 k5 m0 m1 m2 m3 m4 m5 r0 r1 r2 r3 q0 q1 q2 q3 q4 q5
          generalize W4.drew = W5 at HF4 HL4 HD4 ⊢
          gi_wp2
          refine ⟨HL4.out, hi, ?_, ⟨World.putObj_heap_same (Array.getElem?_eq_some_iff.1 HL4.out).1, (World.putObj_heap_other (by omega)).trans HD4.out⟩, HP.out, fun j hj => HNo.out j (by omega) hj⟩
          rw [HX.out]
          exact HF4.out.putObj (N + 5 + 1) _ (by omega)
      · rintro e W' (⟨_, h⟩ | ⟨he, h⟩)
        · exact h.elim
        · exact .inr ⟨he, h⟩
  case hdone =>
    rintro W r r' ⟨hfb, hno⟩ hb
    simp only [s0]
    have hk : (W.putObj (N + 5 + 1) (.loop r')).heap[N + 5]? = some (.deferred (some [])) := by
      have := hb.2
      simp only [s0] at this
      exact (World.putObj_heap_other (by omega)).trans this
    have hfb2 := hfb.putObj (N + 5 + 1) (.loop r') (by omega)
    have HNo := Lib.hid hno
    clear hfb hb hno s0 s1 s2 s3 s4 s5 s6 hmeant hsl
    generalize W.putObj (N + 5 + 1) (.loop r') = W3 at hk hfb2 ⊢
    obtain ⟨⟨k0, k1, k2, k3, k4, k5⟩, m0, m1, m2, m3, m4, m5⟩ := hfb2.cells
    have HF3 := Lib.hid hfb2; have HD3 := Lib.hid hk
    clear hfb2 hk
    gi_wp2
    have hf4 := HF3.out.laid 0 0 0 0 { data := #[] } false
    have hd4 := (laidF_other W3 N 0 0 0 0 { data := #[] } false (N + 5) (by omega)).trans HD3.out
    unfold laidF at hf4 hd4
    generalize ((((((W3.setCell ⟨N, 0, none⟩ (.int .i64 0)).setCell ⟨N + 1, 0, none⟩ (.int .i64 0)).setCell ⟨N + 1, 1, none⟩ (.int .i64 0)).setCell ⟨N + 1, 2, none⟩ (.int .i64 0)).setCell ⟨N + 1, 3, none⟩ (.string { data := #[] })).setCell ⟨N + 2, 0, none⟩ (.bool false)) = W4 at hf4 hd4 ⊢
    have hf5 := hf4.putObj (N + 5) (.deferred none) (Nat.le_refl _)
    refine ⟨by simp, .inl ⟨_, _, rfl, run_takeDeferred hd4, ?_⟩⟩
    refine ⟨_, ret3 hf5 rfl rfl rfl, by rw [HN.out]; exact hf5.bel, .inl ⟨HNo.out, rfl⟩⟩
  case hstop =>
    rintro W r r' ⟨i, hi, hfb, hp, hno⟩ hb
    simp only [s0]
    have hk : (W.putObj (N + 5 + 1) (.loop r')).heap[N + 5]? = some (.deferred (some [])) := by
      have := hb.2
      simp only [s0] at this
      exact (World.putObj_heap_other (by omega)).trans this
    have hfb2 := hfb.putObj (N + 5 + 1) (.loop r') (by omega)
    clear hfb hb s0 s1 s2 s3 s4 s5 s6 hmeant hsl
    generalize W.putObj (N + 5 + 1) (.loop r') = W3 at hk hfb2 ⊢
    have HF3 := Lib.hid hfb2; have HD3 := Lib.hid hk; have HP := Lib.hid hp; have HNo := Lib.hid hno
    clear hfb2 hk hp hno
    gi_wp2
    have hf5 := HF3.out.putObj (N + 5) (.deferred none) (Nat.le_refl _)
    refine ⟨by simp, .inl ⟨_, _, rfl, run_takeDeferred HD3.out, ?_⟩⟩
    exact ⟨_, ret3 hf5 rfl rfl rfl, by rw [HN.out]; exact hf5.bel, .inr ⟨i, hi, HP.out, HNo.out, rfl⟩⟩

end Go.Proofs.YtalnmbfmfeaohaaGreat.flight
