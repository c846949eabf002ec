/- slices.Values, AppendSeq, Collect of numbers: a row is gathered out of an iterator. -/
import Derived.Test.YtngmcolbpdinmaaRows
import Derived.Test.YtngmcolbpdinmaaCrushIter
import Derived.Test.YtngmcolbpdinmaaIter
import Derived.Test.YtngmcolbpdinmaaRuleMath
namespace Go.Proofs.Ytngmcolbpdinmaa.crush
open Go.RowKit
open Go.Proofs.Ytngmcolbpdinmaa.kit Go.Proofs.Ytngmcolbpdinmaa.own Go.Proofs.Ytngmcolbpdinmaa.iter
set_option linter.unusedVariables false
attribute [local go_sem] Oper.semAt_some

/-- A row of numbers (int) is handed back. -/
def NumI (w : World) (ns : List Int) (e : Ending) (w' : World) : Prop := ∃ v, e = .returned v ∧ Own ic 1 3 w' w.heap.size v ns ∧ Below w.heap.size w w'

set_option maxHeartbeats 4000000 in
set_option maxRecDepth 100000 in
/-- The iterator that 'slices.Values' makes. -/
theorem vals1_any (l bl : Nat) (xs : List Int) (v : Value) (I : Nat → World → Prop)
    (hcells : ∀ i W, I i W → W.cell? ⟨bl, 0, none⟩ = some v ∧ Sl ic 1 W v xs)
    (hyield : ∀ i W (h : i < xs.length), I i W → YieldAt Fence.wide 0 Try.prog l #[.int .i64 xs[i]] W fun e W' => e = .returned (.bool true) ∧ I (i + 1) W')
    (W : World) (h0 : I 0 W) :
    CallsIn Fence.wide 0 Try.prog 49 #[.func (.yield l) #[] #[], .pointer (some ⟨bl, 0, none⟩)] W fun e W' => (∃ v, e = .returned v) ∧ I xs.length W' := by
  obtain ⟨c1, hs⟩ := hcells 0 W h0
  obtain ⟨hl, a, cap, rfl, -, -⟩ := id hs
  obtain ⟨L, hL⟩ : ∃ L, xs.length = L := ⟨_, rfl⟩
  have HL := Lib.hid hL
  rw [hL] at hl c1 ⊢
  have HC : Hid (∀ i W, I i W → W.cell? ⟨bl, 0, none⟩ = some (.slice a L cap) ∧ Sl ic 1 W (.slice a L cap) xs) := by rw [← hL]; exact hcells
  have HY := Lib.hid hyield; have HI0 := Lib.hid h0
  clear hcells hyield hs hL h0
  refine callsIn_of_wp Try.func49 rfl trivial ?_ rfl
  simp only [Try.ntmps49, List.size_toArray, List.length_cons, List.length_nil, Nat.reduceAdd, Nat.reduceSub, Array.replicate_succ, Array.replicate_zero, List.push_toArray, List.append_toArray, List.nil_append, List.cons_append]
  gi_wp2
  clear c1
  gi_loopw [7] (fun v wr => ∃ k : Nat, k ≤ L ∧ v = .int .i64 k ∧ I k wr) (fun v _ => L - (intOf v).toNat)
  case atStart => exact ⟨0, by omega, rfl, HI0.out⟩
  case round =>
    obtain ⟨k, hk, rfl, hi⟩ := hrel
    by_cases hlt : k < L
    · have hlt' : (k : Int) < L := by omega
      have hi0 : k < xs.length := by rw [HL.out]; exact hlt
      obtain ⟨_, hs⟩ := HC.out k wr hi
      obtain ⟨_, a', cap', he, -, hcell⟩ := hs
      cases he
      obtain ⟨b, off, rfl, hbl, hcell⟩ := hcell (by omega)
      have d1 := icell_at (hcell k hi0)
      rw [Nat.mul_one] at d1
      clear hcell hbl
      obtain ⟨fn, tmps, asg, bd, hy, hYr⟩ := HY.out k wr hi0 hi
      obtain ⟨x, hx⟩ : ∃ x, xs[k] = x := ⟨_, rfl⟩
      rw [hx] at d1 hy
      have HYr := Lib.hid hYr
      clear hYr hx hi
      gi_wp2
      refine ⟨rfl, HYr.out.mono ?_⟩
      rintro e W3 ⟨rfl, hI⟩
      have HI3 := Lib.hid hI
      clear hI hy d1
      gi_wp2
      go_roundw
      case rel => exact ⟨k + 1, by omega, by go_num, HI3.out⟩
      case measure => simp [intOf]; omega
    · obtain rfl : k = L := by omega
      have HI := Lib.hid hi
      clear hi
      gi_wp2
      go_end0
      exact ⟨⟨_, rfl⟩, HI.out⟩

/-- The boxes of 'AppendSeq'. -/
structure VBx (N : Nat) (w : World) (vo : Value) (out : List Int) (W : World) : Prop where
  bel : Below N w W
  box : W.heap[N]? = some (Obj.cells #[vo] 22 (0, 0))
  own : Own ic 1 3 W (N + 1) vo out
theorem VBx.lt {N : Nat} {w : World} {vo : Value} {out : List Int} {W : World} (h : VBx N w vo out W) : N < W.heap.size := (Array.getElem?_eq_some_iff.1 h.box).1
theorem VBx.keep {N : Nat} {w : World} {vo : Value} {out : List Int} {W W' : World} (h : VBx N w vo out W) (hb : Below W.heap.size W W') : VBx N w vo out W' := by
  have hl := h.lt
  exact ⟨h.bel.trans (hb.mono (by omega)), (hb.block _ (by omega)).trans h.box, h.own.below hb⟩
theorem VBx.putObj {N : Nat} {w : World} {vo : Value} {out : List Int} {W : World} (h : VBx N w vo out W) (l : Nat) (o : Obj) (hl : N + 1 ≤ l) (hnc : ∀ c t f, W.heap[l]? ≠ some (Obj.cells c t f)) : VBx N w vo out (W.putObj l o) :=
  ⟨below_putObj h.bel l o (by omega), (World.putObj_heap_other (by omega)).trans h.box, h.own.putObj l o hnc⟩

set_option maxHeartbeats 8000000 in
set_option maxRecDepth 100000 in
theorem appendSeq_any (bl : Nat) (xs : List Int) (v : Value) (w : World) (hc : w.cell? ⟨bl, 0, none⟩ = some v) (hs : Sl ic 1 w v xs) (hlen : xs.length * 8 ≤ 140737488355328) :
    Calls Try.prog 58 #[.slice none 0 0, .func (.func 49) #[] #[.pointer (some ⟨bl, 0, none⟩)]] w (NumI w xs) := by
  have HS := Lib.hid hs; have HC := Lib.hid hc; have HLn := Lib.hid hlen
  have HBl := Lib.hid (cell_lt hc)
  clear hs hc hlen
  refine (callsIn_wide (n := 0)).1 ?_
  refine callsIn_of_wp_marks Try.func58 rfl trivial ?_ rfl
  simp only [Try.ntmps58, List.size_toArray, List.length_cons, List.length_nil, Nat.reduceAdd, Nat.reduceSub, Array.replicate_succ, Array.replicate_zero, List.push_toArray, List.append_toArray, List.nil_append, List.cons_append]
  gi_wp2
  have hs0 : (w.alloc (.cells #[.slice none 0 0] 22)).heap.size = w.heap.size + 1 := by simp
  have hg0 : VBx w.heap.size w (.slice none 0 0) [] (w.alloc (.cells #[.slice none 0 0] 22)) := ⟨below_new w _, alloc_at w _, Own.nil _ _ _⟩
  generalize (w.alloc (.cells #[.slice none 0 0] 22)) = W0 at hs0 hg0 ⊢
  obtain ⟨N, hN⟩ : ∃ N, w.heap.size = N := ⟨_, rfl⟩
  have HN := Lib.hid hN
  rw [hN] at hs0 hg0 HBl ⊢
  have HS0 : Hid (∀ W', Below N w W' → W'.cell? ⟨bl, 0, none⟩ = some v ∧ Sl ic 1 W' v xs) := Lib.hid (fun W' hW => ⟨(hW.cell (p := ⟨bl, 0, none⟩) HBl.out).trans HC.out, HS.out.keep (by rw [HN.out]; exact hW)⟩)
  clear hN
  refine range_stmt (n := 0) (gf := 49) (lb := #[.pointer (some ⟨bl, 0, none⟩)])
    (I := fun W => ∃ vo, VBx N w vo xs W) (X := fun _ => False)
    rfl (enters_of Try.func49 (by kernel_rfl) rfl) ?hit ?hdone ?hstop
  case hit =>
    intro fn rec hrec
    simp only [hs0] at hrec ⊢
    refine (vals1_any (N + 1 + 1) bl xs v (I := fun k W => ∃ vo, VBx N w vo (xs.take k) W ∧ Book W (N + 1) (rec .ready none)) ?cells ?yield _ ?start).mono ?post
    case cells => exact fun i W ⟨vo, h, _⟩ => HS0.out W h.bel
    case start =>
      have b1 : Below W0.heap.size W0 ((W0.alloc (.deferred (some []))).alloc (.loop (rec .ready none))) := ((Below.refl _ W0).alloc (Nat.le_refl _) _).alloc (by simp) _
      refine ⟨_, hg0.keep b1, ?_, ?_⟩
      · have := World.alloc_heap_new (W0.alloc (.deferred (some []))) (.loop (rec .ready none))
        rw [World.size_alloc, hs0] at this
        exact this
      · simp only [alloc_heap, Array.getElem?_push, Array.size_push, hs0]; simp
    case post =>
      rintro e W ⟨hv, vo, h1, h2⟩
      rw [List.take_length] at h1
      exact ⟨hv, .inl ⟨⟨vo, h1⟩, h2⟩⟩
    case yield =>
      rintro i W hi ⟨vo, hsb, hbk⟩
      refine yield_round hrec (Rt := fun W' => ∃ vo, VBx N w vo (xs.take (i + 1)) W' ∧ Book W' (N + 1) (rec .ready none)) (Rf := fun _ => False) hbk rfl ?_ |>.mono ?_
      · have HG := Lib.hid hsb; have HB := Lib.hid hbk
        have htk : xs.take (i + 1) = xs.take i ++ [xs[i]] := List.take_succ_eq_append_getElem hi
        obtain ⟨z, hz⟩ : ∃ z, xs[i] = z := ⟨_, rfl⟩
        rw [hz] at htk ⊢
        have HTk := Lib.hid htk
        have HIl : Hid (((xs.take i).length + 1) * 8 ≤ 140737488355328) := Lib.hid (by rw [List.length_take]; have := HLn.out; omega)
        obtain ⟨ax, cx, rfl⟩ := hsb.own.slice
        obtain ⟨m, hm⟩ : ∃ m, (xs.take i).length = m := ⟨_, rfl⟩
        have HM := Lib.hid hm
        rw [hm] at HG
        clear hrec hsb hbk hs0 hg0 htk hz hm
        gi_wp2
        refine ⟨HB.out.1, ?_⟩
        have hnc : ∀ c t f, W.heap[N + 1 + 1]? ≠ some (Obj.cells c t f) := fun c t f e => by rw [HB.out.1] at e; cases e
        have hl6 := (Array.getElem?_eq_some_iff.1 HB.out.1).1
        have hg3 := HG.out.putObj (N + 1 + 1) (.loop (rec .busy none)) (by omega) hnc
        have hl3 := World.putObj_heap_same (o := .loop (rec .busy none)) hl6
        have hd3 : (W.putObj (N + 1 + 1) (.loop (rec .busy none))).heap[N + 1]? = some (.deferred (some [])) := (World.putObj_heap_other (by omega)).trans HB.out.2
        generalize W.putObj (N + 1 + 1) (.loop (rec .busy none)) = W3 at hg3 hl3 hd3 ⊢
        have k0 := box_cell hg3.box
        have HG3 := Lib.hid hg3; have HL3 := Lib.hid hl3; have HD3 := Lib.hid hd3
        clear hnc hl6 hg3 hl3 hd3 HG
        have HO3 := Lib.hid HG3.out.own
        have HE9 : Hid ((xs.take i ++ [z]).length = m + 1) := Lib.hid (by rw [List.length_append, HM.out]; rfl)
        have HLt := Lib.hid HG3.out.lt
        gi_wp2_with (gi_at_builtin; refine app1I_in rfl (.tmp 8) (.tmp 10) 22 rfl (N + 1) Try.underlying22 infoInt _ (xs.take i) rfl HO3.out z _ rfl rfl (by have := HIl.out; unfold maxLen; omega) HIl.out (by have := HLt.out; omega) ?_; intro v9 w9 ho9 hk9; obtain ⟨x9, y9, hv9⟩ := ho9.slice; rw [HE9.out] at hv9; subst hv9; have cN : w9.cell? ⟨N, 0, none⟩ = some (.slice ax m cx) := (by simp [World.cell?, hk9.below N (by omega), HG3.out.box]); have fN : w9.frozen? ⟨N, 0, none⟩ = false := (by simp [World.frozen?, hk9.below N (by omega), HG3.out.box]); have HO9 := Lib.hid ho9; have HK9 := Lib.hid hk9; clear ho9 hk9 k0)
        have hblk : ∀ g, (Value.slice x9 (m + 1) y9).ownBlock = some g → N + 1 ≤ g := fun g hg => (World.ownsRow.lt HO9.out g hg).1
        have HO5 := Lib.hid (Own.setOther HO9.out (N := N) (fun e => by have := hblk N e; omega) 0 (.slice x9 (m + 1) y9))
        have hb9 : w9.heap[N]? = some (Obj.cells #[.slice ax m cx] 22 (0, 0)) := (HK9.out.below N (by omega)).trans HG3.out.box
        have hr9 : w9.heap[N + 1 + 1]? = some (.loop (rec .busy none)) := (HK9.out.other (N + 1 + 1) (Array.getElem?_eq_some_iff.1 HL3.out).1 (fun c f e => by rw [HL3.out] at e; cases e)).trans HL3.out
        have hd9 : w9.heap[N + 1]? = some (.deferred (some [])) := (HK9.out.other (N + 1) (Array.getElem?_eq_some_iff.1 HD3.out).1 (fun c f e => by rw [HD3.out] at e; cases e)).trans HD3.out
        have hg5 : VBx N w (.slice x9 (m + 1) y9) (xs.take (i + 1)) (w9.setCell ⟨N, 0, none⟩ (.slice x9 (m + 1) y9)) := by
          refine ⟨?_, by simpa using heap_setCell_same w9 N 0 _ _ (.slice x9 (m + 1) y9) hb9, by rw [HTk.out]; exact HO5.out⟩
          have hbk : Below N w w9 := HG3.out.bel.trans (HK9.out.toBelow.mono (by omega))
          exact hbk.setCell (p := ⟨N, 0, none⟩) (Nat.le_refl _) _
        have hl4 := (heap_setCell_other w9 ⟨N, 0, none⟩ (N + 1 + 1) (.slice x9 (m + 1) y9) (by show N + 1 + 1 ≠ N; omega)).trans hr9
        have hd4 := (heap_setCell_other w9 ⟨N, 0, none⟩ (N + 1) (.slice x9 (m + 1) y9) (by show N + 1 ≠ N; omega)).trans hd9
        have hnc5 : ∀ c t f, (w9.setCell ⟨N, 0, none⟩ (.slice x9 (m + 1) y9)).heap[N + 1 + 1]? ≠ some (Obj.cells c t f) := fun c t f e => by rw [hl4] at e; cases e
        exact ⟨hl4, ⟨_, hg5.putObj (N + 1 + 1) _ (by omega) hnc5, World.putObj_heap_same (Array.getElem?_eq_some_iff.1 hl4).1, (World.putObj_heap_other (by omega)).trans hd4⟩⟩
      · rintro e W' (⟨he, h⟩ | ⟨_, h⟩)
        · exact ⟨he, h⟩
        · exact h.elim
  case hdone =>
    rintro W r r' ⟨vo, hgb⟩ hb
    simp only [hs0]
    have hbl := hb.1
    have hbd := hb.2
    simp only [hs0] at hbl hbd
    have hnc : ∀ c t f, W.heap[N + 1 + 1]? ≠ some (Obj.cells c t f) := fun c t f e => by rw [hbl] at e; cases e
    have hk : (W.putObj (N + 1 + 1) (.loop r')).heap[N + 1]? = some (.deferred (some [])) := (World.putObj_heap_other (by omega)).trans hbd
    have hg2 := hgb.putObj (N + 1 + 1) (.loop r') (by omega) hnc
    clear hgb hb hg0 hbl hbd hnc
    generalize W.putObj (N + 1 + 1) (.loop r') = W3 at hk hg2 ⊢
    obtain ⟨ax, cx, rfl⟩ := hg2.own.slice
    have k0 := box_cell hg2.box
    have HG3 := Lib.hid hg2; have HD3 := Lib.hid hk
    clear hg2 hk
    gi_wp2
    have hg5 := HG3.out.putObj (N + 1) (.deferred none) (by omega) (fun c t f e => by rw [HD3.out] at e; cases e)
    refine ⟨by simp, .inl ⟨_, _, rfl, run_takeDeferred HD3.out, ?_⟩⟩
    refine ⟨_, results_tmp rfl _ _, _, rfl, hg5.own.mono (by rw [HN.out]; omega), by rw [HN.out]; exact hg5.bel⟩
  case hstop => exact fun W r r' h _ => h.elim

set_option maxHeartbeats 4000000 in
set_option maxRecDepth 100000 in
theorem collect_any (bl : Nat) (xs : List Int) (v : Value) (w : World) (hc : w.cell? ⟨bl, 0, none⟩ = some v) (hs : Sl ic 1 w v xs) (hlen : xs.length * 8 ≤ 140737488355328) :
    Calls Try.prog 47 #[.func (.func 49) #[] #[.pointer (some ⟨bl, 0, none⟩)]] w (NumI w xs) := by
  have HA := Lib.hid (appendSeq_any bl xs v w hc hs hlen)
  clear hc hs hlen
  go_enter Try.func47, Try.ntmps47
  go_wp2_with fail
  refine HA.out.mono ?_
  rintro e w2 ⟨v2, rfl, ho, hb⟩
  obtain ⟨a2, c2, rfl⟩ := ho.slice
  have HO := Lib.hid ho; have HB := Lib.hid hb
  clear ho hb
  go_wp2
  go_ret
  exact ⟨_, rfl, HO.out, HB.out⟩
set_option maxHeartbeats 4000000 in
theorem values_any (a : Option Addr) (n c : Nat) (w : World) : Calls Try.prog 39 #[.slice a n c] w fun e w' =>
    e = .returned (.func (.func 49) #[] #[.pointer (some ⟨w.heap.size, 0, none⟩)]) ∧ w' = w.alloc (.cells #[.slice a n c] 22) := by
  have hmf : ∀ (fn : Fn) (first cap : Array Value) (w : World), (Instr.makeFunc fn first cap).run Try.prog w = .ok (.func fn first cap) w := fun _ _ _ _ => rfl
  go_enter Try.func39, Try.ntmps39
  go_wp2
  go_ret
  exact ⟨rfl, rfl⟩

end Go.Proofs.Ytngmcolbpdinmaa.crush
