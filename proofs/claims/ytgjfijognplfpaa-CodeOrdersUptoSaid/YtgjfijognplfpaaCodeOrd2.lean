/- A field against a field; a row against a row. -/
import Derived.Test.YtgjfijognplfpaaRows
import Derived.Test.YtgjfijognplfpaaCodeOrd
namespace Go.Proofs.Ytgjfijognplfpaa.code
open Go.RowKit
open Go.Proofs.Ytgjfijognplfpaa.kit Go.Proofs.Ytgjfijognplfpaa.cm
set_option linter.unusedVariables false

/-- How two fields compare, by the program's way. -/
def ordF (f g : Fld) : Int := firstOf [cmp3 f.kind g.kind, cmp3 f.num g.num, Lib.compareBytes f.text.data.toList g.text.data.toList, cmp3 (flagN f.is) (flagN g.is)]

/-- Two fields' eight cells. -/
def TwoF (M N : Nat) (x0 x1 x2 x3 y0 y1 y2 y3 : Value) (W u : World) : Prop :=
  Below W.heap.size W u ∧ u.cell? ⟨M, 0, none⟩ = some x0 ∧ u.cell? ⟨M, 1, none⟩ = some x1 ∧ u.cell? ⟨M, 2, none⟩ = some x2 ∧ u.cell? ⟨M, 3, none⟩ = some x3 ∧
    u.cell? ⟨N, 0, none⟩ = some y0 ∧ u.cell? ⟨N, 1, none⟩ = some y1 ∧ u.cell? ⟨N, 2, none⟩ = some y2 ∧ u.cell? ⟨N, 3, none⟩ = some y3
theorem keepT {M N : Nat} {x0 x1 x2 x3 y0 y1 y2 y3 : Value} {W u v : World} (hM : M < W.heap.size) (hN : N < W.heap.size) (h : TwoF M N x0 x1 x2 x3 y0 y1 y2 y3 W u) (hb : Below u.heap.size u v) : TwoF M N x0 x1 x2 x3 y0 y1 y2 y3 W v := by
  obtain ⟨h0, h1, h2, h3, h4, h5, h6, h7, h8⟩ := h
  have hm : M < u.heap.size := Nat.lt_of_lt_of_le hM h0.size
  have hn : N < u.heap.size := Nat.lt_of_lt_of_le hN h0.size
  exact ⟨h0.trans (hb.mono h0.size), (hb.cell (p := ⟨M, _, none⟩) hm).trans h1, (hb.cell (p := ⟨M, _, none⟩) hm).trans h2, (hb.cell (p := ⟨M, _, none⟩) hm).trans h3, (hb.cell (p := ⟨M, _, none⟩) hm).trans h4,
    (hb.cell (p := ⟨N, _, none⟩) hn).trans h5, (hb.cell (p := ⟨N, _, none⟩) hn).trans h6, (hb.cell (p := ⟨N, _, none⟩) hn).trans h7, (hb.cell (p := ⟨N, _, none⟩) hn).trans h8⟩
theorem two_boxes (w : World) (f g : Fld) : (w.alloc (.cells #[.int .i64 f.kind, .int .i64 f.num, .string f.text, .bool f.is] 25)).heap.size = w.heap.size + 1 ∧
    TwoF w.heap.size (w.heap.size + 1) (.int .i64 f.kind) (.int .i64 f.num) (.string f.text) (.bool f.is) (.int .i64 g.kind) (.int .i64 g.num) (.string g.text) (.bool g.is)
      ((w.alloc (.cells #[.int .i64 f.kind, .int .i64 f.num, .string f.text, .bool f.is] 25)).alloc (.cells #[.int .i64 g.kind, .int .i64 g.num, .string g.text, .bool g.is] 25))
      ((w.alloc (.cells #[.int .i64 f.kind, .int .i64 f.num, .string f.text, .bool f.is] 25)).alloc (.cells #[.int .i64 g.kind, .int .i64 g.num, .string g.text, .bool g.is] 25)) := by
  have hs := World.size_alloc w (.cells #[.int .i64 f.kind, .int .i64 f.num, .string f.text, .bool f.is] 25)
  have h2 := heap_alloc_last (w.alloc (.cells #[.int .i64 f.kind, .int .i64 f.num, .string f.text, .bool f.is] 25)) (.cells #[.int .i64 g.kind, .int .i64 g.num, .string g.text, .bool g.is] 25)
  have h1 := heap_alloc_last w (.cells #[.int .i64 f.kind, .int .i64 f.num, .string f.text, .bool f.is] 25)
  rw [hs] at h2
  have hb : Below (w.heap.size + 1) (w.alloc (.cells #[.int .i64 f.kind, .int .i64 f.num, .string f.text, .bool f.is] 25)) ((w.alloc (.cells #[.int .i64 f.kind, .int .i64 f.num, .string f.text, .bool f.is] 25)).alloc (.cells #[.int .i64 g.kind, .int .i64 g.num, .string g.text, .bool g.is] 25)) :=
    (Below.refl _ _).alloc (by rw [hs]; exact Nat.le_refl _) _
  have h1' := (hb.block w.heap.size (by omega)).trans h1
  refine ⟨hs, Below.refl _ _, ?_, ?_, ?_, ?_, ?_, ?_, ?_, ?_⟩
  · simp only [World.cell?, h1']; rfl
  · simp only [World.cell?, h1']; rfl
  · simp only [World.cell?, h1']; rfl
  · simp only [World.cell?, h1']; rfl
  · simp only [World.cell?, h2]; rfl
  · simp only [World.cell?, h2]; rfl
  · simp only [World.cell?, h2]; rfl
  · simp only [World.cell?, h2]; rfl

theorem below_drew {B : Nat} {a u : World} (h : Below B a u) : Below B a u.drew := ⟨h.os, h.tape, h.output, h.size, h.block⟩
theorem or4_new (W : World) (T : TypeId) (x0 x1 x2 x3 : Int) : Calls Try.prog 51 #[.slice (some ⟨W.heap.size, 0, none⟩) 4 4] (W.alloc (.cells #[.int .i64 x0, .int .i64 x1, .int .i64 x2, .int .i64 x3] T)).drew
    fun e w' => e = .returned (.int .i64 (firstOf [x0, x1, x2, x3])) ∧ (W.alloc (.cells #[.int .i64 x0, .int .i64 x1, .int .i64 x2, .int .i64 x3] T)).drew = w' := by
  have h : ((W.alloc (.cells #[.int .i64 x0, .int .i64 x1, .int .i64 x2, .int .i64 x3] T)).drew).heap[W.heap.size]? = some (.cells #[.int .i64 x0, .int .i64 x1, .int .i64 x2, .int .i64 x3] T (0, 0)) := heap_alloc_last W _
  exact or4 W.heap.size x0 x1 x2 x3 _ (by simp only [World.cell?, h]; rfl) (by simp only [World.cell?, h]; rfl) (by simp only [World.cell?, h]; rfl) (by simp only [World.cell?, h]; rfl)

set_option maxHeartbeats 4000000 in
set_option maxRecDepth 100000 in
theorem order_any (f g : Fld) (w : World) :
    Calls Try.prog 35 #[f.val, g.val] w fun e w' => e = .returned (.int .i64 (ordF f g)) ∧ Below w.heap.size w w' := by
  obtain ⟨k, n, t, b⟩ := f
  obtain ⟨k2, n2, t2, b2⟩ := g
  obtain ⟨hsz, h2⟩ := two_boxes w ⟨k, n, t, b⟩ ⟨k2, n2, t2, b2⟩
  have hbw : Below w.heap.size w ((w.alloc (.cells #[.int .i64 k, .int .i64 n, .string t, .bool b] 25)).alloc (.cells #[.int .i64 k2, .int .i64 n2, .string t2, .bool b2] 25)) := ((Below.refl _ _).alloc (Nat.le_refl _) _).alloc (by simp) _
  have hM : w.heap.size < ((w.alloc (.cells #[.int .i64 k, .int .i64 n, .string t, .bool b] 25)).alloc (.cells #[.int .i64 k2, .int .i64 n2, .string t2, .bool b2] 25)).heap.size := by simp; omega
  have hN : w.heap.size + 1 < ((w.alloc (.cells #[.int .i64 k, .int .i64 n, .string t, .bool b] 25)).alloc (.cells #[.int .i64 k2, .int .i64 n2, .string t2, .bool b2] 25)).heap.size := by simp
  simp only at hsz h2
  unfold ordF Fld.val
  simp only
  go_enter Try.func35, Try.ntmps35
  go_upto_region 1 with fail
  generalize (w.alloc (.cells #[.int .i64 k, .int .i64 n, .string t, .bool b] 25)).alloc (.cells #[.int .i64 k2, .int .i64 n2, .string t2, .bool b2] 25) = W at h2 hbw hM hN ⊢
  clear hsz
  have HBW := Lib.hid hbw; have HM := Lib.hid hM; have HN := Lib.hid hN
  clear hbw hM hN
  generalize w.heap.size + 1 = N at h2 HN ⊢
  obtain ⟨M, hM⟩ : ∃ M, w.heap.size = M := ⟨_, rfl⟩
  rw [hM] at h2 HM ⊢
  have HE := Lib.hid hM
  clear hM
  have H2 := Lib.hid h2
  obtain ⟨_, c0, c1, c2, c3, d0, d1, d2, d3⟩ := h2
  go_region_held3 (fun u => Below W.heap.size W u ∧ u.cell? ⟨M, 0, none⟩ = some (.int .i64 k) ∧ u.cell? ⟨M, 1, none⟩ = some (.int .i64 n) ∧ u.cell? ⟨M, 2, none⟩ = some (.string t) ∧ u.cell? ⟨M, 3, none⟩ = some (.bool b) ∧
      u.cell? ⟨N, 0, none⟩ = some (.int .i64 k2) ∧ u.cell? ⟨N, 1, none⟩ = some (.int .i64 n2) ∧ u.cell? ⟨N, 2, none⟩ = some (.string t2) ∧ u.cell? ⟨N, 3, none⟩ = some (.bool b2))
    (first
      | exact ⟨⟨rfl, rfl, rfl, Nat.le_refl _, fun _ _ => rfl⟩, c0, c1, c2, c3, d0, d1, d2, d3⟩
      | exact keepT HM.out HN.out ⟨⟨rfl, rfl, rfl, Nat.le_refl _, fun _ _ => rfl⟩, c0, c1, c2, c3, d0, d1, d2, d3⟩ (below_drew ((Below.refl _ W).alloc (Nat.le_refl _) _)))
    (first
      | (go_at_call 52; refine (cmp_int _ _ _).mono ?_; rintro e w1 ⟨rfl, rfl⟩)
      | (go_at_call 53; refine (cmp_int64 _ _ _).mono ?_; rintro e w1 ⟨rfl, rfl⟩)
      | (go_at_call 54; refine (cmp_text _ _ _).mono ?_; rintro e w1 ⟨rfl, rfl⟩)
      | (go_at_call 47; refine (flag_any _ _).mono ?_; rintro e w1 ⟨rfl, rfl⟩)
      | (go_at_call 55; refine (cmp_byte _ _ _).mono ?_; rintro e w1 ⟨rfl, rfl⟩)
      | (go_at_call 51; refine (or4_new _ _ _ _ _ _).mono ?_; rintro e w1 ⟨rfl, rfl⟩))
  have HB2 := Lib.hid (HBW.out.trans ((below_drew ((Below.refl _ W).alloc (Nat.le_refl _) (.cells #[.int .i64 (cmp3 k k2), .int .i64 (cmp3 n n2), .int .i64 (Lib.compareBytes t.data.toList t2.data.toList), .int .i64 (cmp3 (flagN b) (flagN b2))] 3))).mono HBW.out.size))
  go_wp2
  go_ret
  exact ⟨rfl, HB2.out⟩

set_option maxHeartbeats 4000000 in
set_option maxRecDepth 100000 in
theorem unfit_any (f : Fld) (w : World) :
    Calls Try.prog 32 #[f.val] w fun e w' => e = .returned (.bool (!f.fit)) ∧ Below w.heap.size w w' := by
  obtain ⟨k, n, t, b⟩ := f
  unfold Fld.val
  go_enter Try.func32, Try.ntmps32
  go_wp2_with fail
  refine (fit_any ⟨k, n, t, b⟩ _).mono ?_
  rintro e w1 ⟨rfl, hb⟩
  have HB := Lib.hid (((Below.refl w.heap.size w).alloc (Nat.le_refl _) (Obj.cells #[Value.int .i64 k, Value.int .i64 n, Value.string t, Value.bool b] 25)).trans (hb.mono (by simp)))
  clear hb
  go_wp2
  go_ret
  exact ⟨rfl, HB.out⟩

set_option maxHeartbeats 4000000 in
set_option maxRecDepth 100000 in
theorem index_any (sl : Value) (fs : List Fld) (w : World) (hs : SlF w sl fs) :
    Calls Try.prog 50 #[sl, .func (.func 32) #[] #[]] w fun e w' => ∃ x : Int, e = .returned (.int .i64 x) ∧ decide (0 ≤ x) = (!fits fs) ∧ Below w.heap.size w w' := by
  obtain ⟨hl, a, cap, rfl, hc⟩ := id hs
  have HS := Lib.hid hs
  obtain ⟨L, hL⟩ : ∃ L, fs.length = L := ⟨_, rfl⟩
  have HL := Lib.hid hL
  rw [hL] at hl ⊢
  clear hs hc hL
  go_enter Try.func50, Try.ntmps50
  go_wp2
  go_loopw [8] (fun i wr => ∃ k : Nat, k ≤ L ∧ i = .int .i64 k ∧ (fs.take k).all Fld.fit = true ∧ Below w.heap.size w wr) (fun i _ => L - (intOf i).toNat)
  case atStart => exact ⟨0, by omega, rfl, rfl, Below.refl _ _⟩
  case round =>
    obtain ⟨k, hk, rfl, hfit, hb⟩ := hrel
    have HB := Lib.hid hb; have HFit := Lib.hid hfit
    clear hb hfit
    by_cases hlt : k < L
    · have hlt' : (k : Int) < L := by omega
      have hi : k < fs.length := by rw [HL.out]; exact hlt
      have hs2 : SlF wr (.slice a fs.length cap) fs := HS.out.below HB.out
      obtain ⟨_, a', cap', he, hcell⟩ := hs2
      cases he
      obtain ⟨b, off, rfl, hbl, hcell⟩ := hcell (by omega)
      obtain ⟨h1, h2, h3, h4⟩ := hcell k hi
      obtain ⟨f, hf⟩ : ∃ f, fs[k] = f := ⟨_, rfl⟩
      rw [hf] at h1 h2 h3 h4
      have HF := Lib.hid hf
      clear hcell hf
      go_wp2_with fail
      refine (unfit_any f wr).mono ?_
      rintro e w2 ⟨rfl, hb2⟩
      have HB2 := Lib.hid (HB.out.trans (hb2.mono HB.out.size))
      clear hb2 h1 h2 h3 h4
      by_cases hft : f.fit = true
      · rw [hft]
        go_wp2
        go_roundw
        case rel => exact ⟨k + 1, by omega, by go_num, by rw [take_next (by rw [HL.out]; exact hlt) HF.out, List.all_append, HFit.out]; simp [hft], HB2.out⟩
        case measure => simp [intOf]; omega
      · have hft' : f.fit = false := by simpa using hft
        rw [hft']
        go_wp2
        go_ret
        refine ⟨k, rfl, ?_, HB2.out⟩
        have : fits fs = false := by
          have hm : f ∈ fs := by rw [← HF.out]; exact List.getElem_mem _
          cases hq : fits fs with
          | false => rfl
          | true => exact absurd (List.all_eq_true.1 hq f hm) (by simp [hft'])
        rw [this]; simp
    · obtain rfl : k = L := by omega
      go_wp2
      go_ret
      refine ⟨-1, rfl, ?_, HB.out⟩
      have h := HFit.out
      rw [← HL.out, List.take_length] at h
      rw [show fits fs = true from h]; rfl

set_option maxHeartbeats 4000000 in
set_option maxRecDepth 100000 in
theorem contains_any (sl : Value) (fs : List Fld) (w : World) (hs : SlF w sl fs) :
    Calls Try.prog 33 #[sl, .func (.func 32) #[] #[]] w fun e w' => e = .returned (.bool (!fits fs)) ∧ Below w.heap.size w w' := by
  go_enter Try.func33, Try.ntmps33
  go_wp2_with fail
  refine (index_any sl fs w hs).mono ?_
  rintro e w1 ⟨x, rfl, hx, hb⟩
  have HB := Lib.hid hb; have HX := Lib.hid hx
  clear hx hb
  go_wp2
  go_ret
  refine ⟨?_, HB.out⟩
  rw [← HX.out]; simp

end Go.Proofs.Ytgjfijognplfpaa.code
