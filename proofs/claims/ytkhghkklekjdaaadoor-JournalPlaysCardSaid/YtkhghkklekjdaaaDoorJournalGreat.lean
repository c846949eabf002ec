/- The greatest number of a row. -/
import Derived.Test.YtkhghkklekjdaaaDoorRows
import Derived.Test.YtkhghkklekjdaaaDoorJournalIter
namespace Go.Proofs.YtkhghkklekjdaaaDoor.journal
open Go.RowKit
open Go.Proofs.YtkhghkklekjdaaaDoor.kit Go.Proofs.YtkhghkklekjdaaaDoor.own Go.Proofs.YtkhghkklekjdaaaDoor.jm Go.Proofs.YtkhghkklekjdaaaDoor.iter
open Go.Proofs.YtkhghkklekjdaaaDoor.sector (bv ba Dev DevAt Read_ok range_of_block)
set_option linter.unusedVariables false
set_option linter.unusedSimpArgs false
attribute [local go_sem] Oper.semAt_some

/-- The pieces of a row of sectors, as the device has them. -/
def pcsOf (m : Dev) (from_ n : Nat) : List Pc := (List.range n).map fun i => pcOf (sector.look m (from_ + i))
theorem pcsOf_len (m : Dev) (from_ n : Nat) : (pcsOf m from_ n).length = n := by simp [pcsOf]
theorem pcsOf_at (m : Dev) (from_ n i : Nat) (h : i < n) : (pcsOf m from_ n)[i]? = some (pcOf (sector.look m (from_ + i))) := by
  unfold pcsOf
  rw [List.getElem?_map, List.getElem?_range h]; rfl
theorem pcsOf_take (m : Dev) (from_ n i : Nat) (h : i < n) : (pcsOf m from_ n).take (i + 1) = (pcsOf m from_ n).take i ++ [pcOf (sector.look m (from_ + i))] := by
  have hl : i < (pcsOf m from_ n).length := by rw [pcsOf_len]; exact h
  rw [List.take_succ_eq_append_getElem hl]
  have := pcsOf_at m from_ n i h
  rw [List.getElem?_eq_getElem hl] at this
  rw [Option.some.inj this]
theorem pcsOf_ok {m : Dev} (hm : m.Ok) (from_ n : Nat) (h : from_ + n ≤ m.n) : ∀ p ∈ pcsOf m from_ n, p.Ok := by
  intro p hp
  obtain ⟨i, hi, rfl⟩ := List.mem_map.1 hp
  have hi := List.mem_range.1 hi
  exact pcOf_ok _ (sector.look_len hm (by omega)) (look_lt hm (by omega))

def gmax (ps : List Pc) : Nat := ps.foldl (fun a p => max a p.num) 0
theorem gmax_snoc (ps : List Pc) (p : Pc) : gmax (ps ++ [p]) = max (gmax ps) p.num := by simp [gmax]
theorem Pc.Ok.num {p : Pc} (h : p.Ok) : p.num ≤ maxNum := by
  rcases h.1 with rfl | h
  · exact Nat.zero_le _
  · exact h.2.2.1
theorem gmax_le (ps : List Pc) (h : ∀ p ∈ ps, p.num ≤ maxNum) : gmax ps ≤ maxNum := by
  have : ∀ (ps : List Pc) (a : Nat), a ≤ maxNum → (∀ p ∈ ps, p.num ≤ maxNum) → ps.foldl (fun a p => max a p.num) a ≤ maxNum := by
    intro ps
    induction ps with
    | nil => intro a ha _; exact ha
    | cons p ps ih => intro a ha hp; exact ih _ (Nat.max_le.2 ⟨ha, hp p List.mem_cons_self⟩) (fun q hq => hp q (List.mem_cons_of_mem _ hq))
  exact this ps 0 (Nat.zero_le _) h
theorem gmax_ge (ps : List Pc) : ∀ p ∈ ps, p.num ≤ gmax ps := by
  have : ∀ (ps : List Pc) (a : Nat), a ≤ ps.foldl (fun a p => max a p.num) a ∧ ∀ p ∈ ps, p.num ≤ ps.foldl (fun a p => max a p.num) a := by
    intro ps
    induction ps with
    | nil => intro a; exact ⟨Nat.le_refl _, fun p hp => by cases hp⟩
    | cons q ps ih =>
      intro a
      obtain ⟨h1, h2⟩ := ih (max a q.num)
      refine ⟨Nat.le_trans (Nat.le_max_left _ _) h1, fun p hp => ?_⟩
      rcases List.mem_cons.1 hp with rfl | hp
      · exact Nat.le_trans (Nat.le_max_right _ _) h1
      · exact h2 p hp
  exact (this ps 0).2

theorem PcV_form (g : Nat) (p : Pc) : ∃ a l c, PcV g p = .agg #[.int .u8 (p.mark : Nat), .int .i64 (p.num : Nat), .slice a l c] := by
  unfold PcV
  split
  · exact ⟨_, _, _, rfl⟩
  · exact ⟨_, _, _, rfl⟩

/-- A row of sectors that is ranged over: the iterator's two variables, and the device. -/
structure RowAt (w : World) (bl bd : Nat) (Z : Nat → Prop) (d : Nat) (m : Dev) (from_ n : Nat) : Prop where
  row : w.heap[bl]? = some (.cells #[.int .i64 (from_ : Int), .int .i64 ((from_ + n : Nat) : Int)] 56 (0, 0))
  dev : w.heap[bd]? = some (.cells #[.pointer (some ⟨d, 0, none⟩)] 24 (0, 0))
  at_ : DevAt w Z d m
  fits : from_ + n ≤ m.n
  power : m.power = true
theorem RowAt.keep {w w' : World} {bl bd : Nat} {Z : Nat → Prop} {d : Nat} {m : Dev} {from_ n : Nat} (h : RowAt w bl bd Z d m from_ n) (hb : Below w.heap.size w w') : RowAt w' bl bd Z d m from_ n :=
  ⟨(hb.block _ (Array.getElem?_eq_some_iff.1 h.row).1).trans h.row, (hb.block _ (Array.getElem?_eq_some_iff.1 h.dev).1).trans h.dev, h.at_.keep hb, h.fits, h.power⟩
theorem RowAt.cells {w : World} {bl bd : Nat} {Z : Nat → Prop} {d : Nat} {m : Dev} {from_ n : Nat} (h : RowAt w bl bd Z d m from_ n) :
    w.cell? ⟨bl, 0, none⟩ = some (.int .i64 (from_ : Int)) ∧ w.cell? ⟨bl, 1, none⟩ = some (.int .i64 ((from_ + n : Nat) : Int)) ∧ w.cell? ⟨bd, 0, none⟩ = some (.pointer (some ⟨d, 0, none⟩)) ∧ DevAt w Z d m := by
  have h1 := h.row; have h2 := h.dev
  refine ⟨?_, ?_, ?_, h.at_⟩ <;> simp [World.cell?, h1, h2]
/-- The iterator, as a value. -/
def iterV (bl bd : Nat) : Value := .func (.func 50) #[] #[.pointer (some ⟨bl, 0, none⟩), .pointer (some ⟨bd, 0, none⟩)]

theorem below_putObj {B : Nat} {w W : World} (h : Below B w W) (l : Nat) (o : Obj) (hl : B ≤ l) : Below B w (W.putObj l o) :=
  ⟨h.os, h.tape, h.output, by rw [World.putObj_size]; exact h.size, fun j hj => (World.putObj_heap_other (by omega)).trans (h.block j hj)⟩

theorem below_new' (w : World) (o : Obj) : Below w.heap.size w (w.alloc o) := (Below.refl _ w).alloc (Nat.le_refl _) o
/-- What 'greatest' keeps. -/
structure GB (N : Nat) (w : World) (x : Nat) (W : World) : Prop where
  bel : Below N w W
  box : W.heap[N]? = some (.cells #[.int .i64 (x : Int)] 2 (0, 0))
theorem GB.keep {N : Nat} {w : World} {x : Nat} {W W' : World} (h : GB N w x W) (hb : Below W.heap.size W W') : GB N w x W' := by
  have hl := (Array.getElem?_eq_some_iff.1 h.box).1
  exact ⟨h.bel.trans (hb.mono (by omega)), (hb.block _ hl).trans h.box⟩
theorem GB.putObj {N : Nat} {w : World} {x : Nat} {W : World} (h : GB N w x W) (l : Nat) (o : Obj) (hl : N < l) : GB N w x (W.putObj l o) :=
  ⟨below_putObj h.bel l o (by omega), (World.putObj_heap_other (by omega)).trans h.box⟩
theorem GB.set {N : Nat} {w : World} {x : Nat} {W : World} (h : GB N w x W) (y : Nat) : GB N w y (W.setCell ⟨N, 0, none⟩ (.int .i64 (y : Int))) :=
  ⟨h.bel.setCell (p := ⟨N, 0, none⟩) (Nat.le_refl _) _, by simpa using heap_setCell_same W N 0 _ _ (.int .i64 (y : Int)) h.box⟩

theorem results_tmp {P : Program} {fn : Func} {t : Tmp} (h : fn.results = #[.tmp t]) (tmps : Array Value) (w : World) : (results fn tmps).run P w = .ok (tmps.getD t undef) w := by
  simp [results, h]

set_option maxHeartbeats 8000000 in
set_option maxRecDepth 100000 in
theorem greatest_any (w : World) (bl bd : Nat) (Z : Nat → Prop) (d : Nat) (m : Dev) (from_ n : Nat) (h : RowAt w bl bd Z d m from_ n) :
    Calls Tryd.prog 37 #[iterV bl bd] w fun e w' => e = .returned (.int .i64 (gmax (pcsOf m from_ n) : Nat)) ∧ Below w.heap.size w w' := by
  have HR := Lib.hid h
  have hm := h.at_.1
  clear h
  unfold iterV
  refine (callsIn_wide (n := 0)).1 ?_
  refine callsIn_of_wp_marks Tryd.func37 rfl trivial ?_ rfl
  simp only [Tryd.ntmps37, List.size_toArray, List.length_cons, List.length_nil, Nat.reduceAdd, Nat.reduceSub, Array.replicate_succ, Array.replicate_zero, List.push_toArray, List.append_toArray, List.nil_append, List.cons_append]
  gi_wp2
  have hs0 : (w.alloc (.cells #[.int .i64 0] 2)).heap.size = w.heap.size + 1 := by simp
  have hg0 : GB w.heap.size w 0 (w.alloc (.cells #[.int .i64 0] 2)) := ⟨below_new' _ _, alloc_at w _⟩
  generalize (w.alloc (.cells #[.int .i64 0] 2)) = W0 at hs0 hg0 ⊢
  obtain ⟨N, hN⟩ : ∃ N, w.heap.size = N := ⟨_, rfl⟩
  rw [hN] at hs0 hg0 ⊢
  have hrow : ∀ W, Below N w W → RowAt W bl bd Z d m from_ n := fun W hW => HR.out.keep (by rw [hN]; exact hW)
  refine range_stmtX (n := 0) (gf := 50) (lb := #[.pointer (some ⟨bl, 0, none⟩), .pointer (some ⟨bd, 0, none⟩)])
    (I := fun W => GB N w (gmax (pcsOf m from_ n)) W) (X := fun _ _ => False)
    rfl (enters_of Tryd.func50 (by kernel_rfl) rfl) ?hit ?hdone ?hstop
  case hit =>
    intro fn rec hrec
    simp only [hs0] at hrec ⊢
    refine (pieces1_any (N + 1 + 1) bl bd Z d m from_ n (I := fun k W => GB N w (gmax ((pcsOf m from_ n).take k)) W ∧ Book W (N + 1) (rec .ready none)) (X := fun _ _ => False) HR.out.fits hm.n HR.out.power ?cells ?below ?yield _ ?start).mono ?post
    case cells => exact fun i W h => (hrow W h.1.bel).cells
    case below => 
      rintro i W W' ⟨h1, ⟨h2, h3⟩⟩ hb
      exact ⟨h1.keep hb, (hb.block _ (Array.getElem?_eq_some_iff.1 h2).1).trans h2, (hb.block _ (Array.getElem?_eq_some_iff.1 h3).1).trans h3⟩
    case start =>
      have b1 : Below W0.heap.size W0 ((W0.alloc (.deferred (some []))).alloc (.loop (rec .ready none))) := ((Below.refl _ W0).alloc (Nat.le_refl _) _).alloc (by simp) _
      refine ⟨hg0.keep b1, ?_, ?_⟩
      · have := World.alloc_heap_new (W0.alloc (.deferred (some []))) (.loop (rec .ready none))
        rw [World.size_alloc, hs0] at this
        exact this
      · simp only [alloc_heap, Array.getElem?_push, Array.size_push, hs0]; simp
    case post =>
      rintro e W ⟨hv, (⟨h1, h2⟩ | ⟨i, hi, h⟩)⟩
      · refine ⟨hv, .inl ⟨?_, h2⟩⟩
        rw [List.take_of_length_le (by rw [pcsOf_len]; omega)] at h1
        exact h1
      · exact h.elim
    case yield =>
      rintro i W g hi ⟨hgb, hbk⟩ hra hgl
      refine yield_roundX hrec (Rt := fun W' => GB N w (gmax ((pcsOf m from_ n).take (i + 1))) W' ∧ Book W' (N + 1) (rec .ready none)) (Rx := fun _ _ => False) hbk rfl ?_ |>.mono ?_
      · have HG := Lib.hid hgb; have HB := Lib.hid hbk
        have hst := gmax_snoc ((pcsOf m from_ n).take i) (pcOf (sector.look m (from_ + i)))
        rw [← pcsOf_take m from_ n i hi] at hst
        obtain ⟨a, l, c, hpv⟩ := PcV_form g (pcOf (sector.look m (from_ + i)))
        rw [hpv]
        obtain ⟨x, hx⟩ : ∃ x, gmax ((pcsOf m from_ n).take i) = x := ⟨_, rfl⟩
        obtain ⟨y, hy⟩ : ∃ y, (pcOf (sector.look m (from_ + i))).num = y := ⟨_, rfl⟩
        obtain ⟨z, hz⟩ : ∃ z, gmax ((pcsOf m from_ n).take (i + 1)) = z := ⟨_, rfl⟩
        rw [hx, hy, hz] at hst
        rw [hx] at HG
        rw [hy, hz]
        generalize (pcOf (sector.look m (from_ + i))).mark = mk
        have hmx : True → (if x < y then (y : Int) else (x : Int)) = (z : Int) := fun _ => by split <;> omega
        clear hrec hgb hbk hs0 hg0 hrow hpv hx hy hz hst
        gi_wp2
        have b2 := below_new' W (.cells #[.int .u8 (mk : Int), .int .i64 (y : Int), .slice a l c] 92)
        have hlt := (Array.getElem?_eq_some_iff.1 HG.out.box).1
        have hl6 := (Array.getElem?_eq_some_iff.1 HB.out.1).1
        have hk1 := (b2.block _ hl6).trans HB.out.1
        have hk2 := (b2.block _ (Array.getElem?_eq_some_iff.1 HB.out.2).1).trans HB.out.2
        refine ⟨hk1, ?_⟩
        have hg3 := (HG.out.keep b2).putObj (N + 1 + 1) (.loop (rec .busy none)) (by omega)
        have hl3 := World.putObj_heap_same (o := .loop (rec .busy none)) (Array.getElem?_eq_some_iff.1 hk1).1
        have hd3 : ((W.alloc (.cells #[.int .u8 (mk : Int), .int .i64 (y : Int), .slice a l c] 92)).putObj (N + 1 + 1) (.loop (rec .busy none))).heap[N + 1]? = some (.deferred (some [])) := (World.putObj_heap_other (by omega)).trans hk2
        have hR : Box3 ((W.alloc (.cells #[.int .u8 (mk : Int), .int .i64 (y : Int), .slice a l c] 92)).putObj (N + 1 + 1) (.loop (rec .busy none))) W.heap.size 92 (.int .u8 (mk : Int)) (.int .i64 (y : Int)) (.slice a l c) :=
          (World.putObj_heap_other (by omega)).trans (alloc_at _ _)
        have hq : ¬ N = W.heap.size := by omega
        generalize (W.alloc (.cells #[.int .u8 (mk : Int), .int .i64 (y : Int), .slice a l c] 92)).putObj (N + 1 + 1) (.loop (rec .busy none)) = W3 at hg3 hl3 hd3 hR ⊢
        generalize W.heap.size = R at hR hq ⊢
        obtain ⟨r0, r1, r2⟩ := hR.cells
        have k0 := box_cell hg3.box
        have f0 := box_frozen hg3.box
        have HG3 := Lib.hid hg3; have HL3 := Lib.hid hl3; have HD3 := Lib.hid hd3
        clear b2 hk1 hk2 hlt hl6 hg3 hl3 hd3 hR HG HB hq
        gi_wp2
        have hg4 := HG3.out.set z
        have hl4 := (heap_setCell_other W3 ⟨N, 0, none⟩ (N + 1 + 1) (.int .i64 (z : Int)) (by show N + 1 + 1 ≠ N; omega)).trans HL3.out
        have hd4 := (heap_setCell_other W3 ⟨N, 0, none⟩ (N + 1) (.int .i64 (z : Int)) (by show N + 1 ≠ N; omega)).trans HD3.out
        exact ⟨hl4, hg4.putObj (N + 1 + 1) _ (by omega), World.putObj_heap_same (Array.getElem?_eq_some_iff.1 hl4).1, (World.putObj_heap_other (by omega)).trans hd4⟩
      · rintro e W' (⟨he, h⟩ | ⟨_, _, h⟩)
        · exact .inl ⟨he, h⟩
        · exact h.elim
  case hdone =>
    rintro W r r' hgb hb
    simp only [hs0]
    have hk : (W.putObj (N + 1 + 1) (.loop r')).heap[N + 1]? = some (.deferred (some [])) := by
      have := hb.2
      simp only [hs0] at this
      exact (World.putObj_heap_other (by omega)).trans this
    have hg2 := hgb.putObj (N + 1 + 1) (.loop r') (by omega)
    clear hgb hb hg0 hrow
    generalize W.putObj (N + 1 + 1) (.loop r') = W3 at hk hg2 ⊢
    have k0 := box_cell hg2.box
    have HG3 := Lib.hid hg2; have HD3 := Lib.hid hk
    clear hg2 hk
    gi_wp2
    have hg5 := HG3.out.putObj (N + 1) (.deferred none) (by omega)
    refine ⟨by simp, .inl ⟨_, _, rfl, run_takeDeferred HD3.out, ?_⟩⟩
    refine ⟨_, results_tmp rfl _ _, rfl, by rw [hN]; exact hg5.bel⟩
  case hstop => exact fun W c r r' h _ => h.elim

end Go.Proofs.YtkhghkklekjdaaaDoor.journal
