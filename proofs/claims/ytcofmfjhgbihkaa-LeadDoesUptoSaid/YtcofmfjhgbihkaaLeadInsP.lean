/- slices.Insert of promises. -/
import Derived.Test.YtcofmfjhgbihkaaRows
import Derived.Test.YtcofmfjhgbihkaaLeadBase
import Derived.Test.YtcofmfjhgbihkaaLeadFar
import Derived.Shelf.Spec.SlicesInsert
import Derived.Lib.AppendZerosOnto
import Derived.Laws.NewBlocks
namespace Go.Proofs.Ytcofmfjhgbihkaa.crush
open Go.RowKit
open Go.Proofs.Ytcofmfjhgbihkaa.kit Go.Proofs.Ytcofmfjhgbihkaa.own
set_option linter.unusedVariables false

/-- A ban more. -/
def InsOP (B : Nat → Prop) (xs : List PromV) (w : World) (e : Ending) (w' : World) : Prop := ∃ v, e = .returned v ∧ OwnP prc 6 53 w' B v xs ∧ Kept 0 53 w w' ∧ Far B w w'

set_option maxHeartbeats 8000000 in
set_option maxRecDepth 100000 in
theorem insEnd_anyP (v : Value) (xs : List PromV) (y : PromV) (B : Nat → Prop) (w : World) (h : OwnP prc 6 53 w B v xs) (hB : In B w) (vx : Value) (hx : Sl prc 6 w vx [y]) (hl : xs.length ≤ 1100000) :
    Calls Try.prog 104 #[v, .int .i64 xs.length, vx] w (InsOP B (xs ++ [y]) w) := by
  obtain ⟨a, c, rfl⟩ := h.slice
  obtain ⟨ax, cx, rfl⟩ := hx.slice
  have HO := Lib.hid h; have HX := Lib.hid hx; have HB := Lib.hid hB
  have hle : xs.length ≤ c := by
    rcases h.1.at with ⟨e, e2⟩ | ⟨g, cap, e, -, hat⟩
    · rw [e2]; exact Nat.zero_le _
    · cases e; exact hat.le
  have hcm : c ≤ maxLen := by
    rcases h.1.at with ⟨e, e2⟩ | ⟨g, cap, e, -, hat⟩
    · simp only [Value.slice.injEq] at e; unfold maxLen; omega
    · cases e; exact hat.max
  unfold maxLen at hcm
  clear h hx hB
  obtain ⟨L, hL⟩ : ∃ L, xs.length = L := ⟨_, rfl⟩
  have HL := Lib.hid hL
  rw [hL] at hl HO hle ⊢
  clear hL
  have h1 : ([y] : List PromV).length = 1 := rfl
  rw [h1]
  clear h1
  go_enter Try.func104, Try.ntmps104
  go_wp2_with (at_builtin; refine wpList_plain rfl fun _ hK => step_app1P prc_len prc_one (by decide) _ _ 24 rfl B 53 _ (by rfl) 56 Try.underlying24 infoProm _ xs rfl HO.out _ y rfl HX.out (by rw [HL.out]; unfold maxLen; omega) (by rw [HL.out]; omega) HB.out ?_; intro v5 w5 ho hk hgr; refine hK _ _ ?_; have HO5 := Lib.hid ho; have HK5 := Lib.hid hk; have HF5 := Lib.hid hgr; clear ho hk hgr)
  all_goals
    go_ret
    exact ⟨_, rfl, HO5.out, HK5.out, HF5.out⟩

set_option maxHeartbeats 8000000 in
set_option maxRecDepth 100000 in
theorem insMid_anyP (xs : List PromV) (y : PromV) (g cap i : Nat) (w : World) (h : OwnAt prc 6 53 w g cap xs) (hi : i < xs.length) (hroom : xs.length + 1 ≤ cap) (hl : xs.length ≤ 1100000) (N T cx : Nat) (hx : w.heap[N]? = some (.cells (prc y).toArray T (0, 0))) (hne : N ≠ g) :
    Calls Try.prog 104 #[.slice (some ⟨g, 0, none⟩) xs.length cap, .int .i64 i, .slice (some ⟨N, 0, none⟩) 1 cx] w fun e w' => e = .returned (.slice (some ⟨g, 0, none⟩) (xs.length + 1) cap) ∧ OwnAt prc 6 53 w' g cap (xs.take i ++ y :: xs.drop i) ∧ w' = (w.drew.setCells g ((i + 1) * 6) ((xs.drop i).flatMap prc)).setCells g (i * 6) (prc y) := by
  have hcm := h.max
  unfold maxLen at hcm
  obtain ⟨cur, hgc, hgs, -⟩ := h.ex
  have hov : ∀ W, (∀ k, W.heap[k]? = w.heap[k]?) → ∀ o lb cb, (callFunc 122 #[.slice (some ⟨N, 0, none⟩) 1 cx, .slice (some ⟨g, o, none⟩) lb cb]).run Try.prog W = .ok (.value (.bool false)) W := fun W hW o lb cb => by
    have hN := (hW N).trans hx
    have hG := (hW g).trans hgc
    have hs1 : W.shape? N = some (T, 6) := by unfold World.shape?; rw [hN]; rfl
    have hs2 : W.shape? g = some (53, cur.size) := by unfold World.shape?; rw [hG]
    have hs3 : W.frozen? ⟨N, 0, none⟩ = false := by unfold World.frozen?; rw [hN]; rfl
    have hs4 : W.frozen? ⟨N, 6, none⟩ = false := by unfold World.frozen?; rw [hN]; rfl
    rw [run_callFunc_extern Try.func122 (by kernel_rfl) (by kernel_rfl) (by kernel_rfl) (e := Extern.SlicesOverlaps.overlaps #[24, 24] #[4]) (by kernel_rfl),
      Lib.run_overlaps_apart W 24 4 53 Try.underlying24 6 (fun _ => by kernel_rfl) ⟨N, 0, none⟩ ⟨g, o, none⟩ 1 cx lb cb hne T 53 6 cur.size hs1 hs2 (by rw [hgs]; omega) hs3 hs4]
    rfl
  have hov1 := hov w (fun _ => rfl)
  obtain ⟨n, hn⟩ : ∃ n, xs.length = n := ⟨_, rfl⟩
  have HN := Lib.hid hn
  have HH := Lib.hid h
  have HX := Lib.hid hx
  rw [hn] at hi hroom hl ⊢
  clear hov hn h hx hgc hgs
  have hz1 : ¬ ((1 : Int) = 0) := by omega
  have hz2 : ¬ ((i : Int) = (n : Int)) := by omega
  have hw1 : IntKind.i64.wrap ((i : Int) + 1) = (i : Int) + 1 := by rw [IntKind.wrap_i64]; omega
  have hb1 : (0 : Int) ≤ (i : Int) + 1 := by omega
  have hin : i ≤ n := by omega
  have htn : ((i : Int) + 1).toNat = i + 1 := by omega
  have hb2 : ¬ (cap = i + 1) := by omega
  have hb3 : (i : Int) ≤ (n : Int) + 1 := by omega
  have hb4 : ¬ (cap = i) := by omega
  have hsz : (Try.prog.info? 53).map (·.size) = some 6 := by kernel_rfl
  have hHd : OwnAt prc 6 53 w.drew g cap xs := HH.out.block rfl
  have hdl : ((xs.drop i).flatMap prc).length = (n - i) * 6 := by rw [flat_len prc_len, List.length_drop, HN.out]
  have hcp1 : ∀ ty dc sc, (Builtin.copy_ #[24, 24] ty #[.slice (some ⟨g, (i + 1) * 6, none⟩) (n - i) dc, .slice (some ⟨g, i * 6, none⟩) (n + 1 - i) sc]).run Try.prog w.drew = .ok (goInt ((n - i : Nat) : Nat)) (w.drew.setCells g ((i + 1) * 6) ((xs.drop i).flatMap prc)) := fun ty dc sc =>
    run_copy_m w.drew _ _ ty 53 g ((i + 1) * 6) (n - i) dc ⟨g, i * 6, none⟩ (n + 1 - i) sc 6 (n - i) ((xs.drop i).flatMap prc) Try.underlying24 hsz (by simp only [Nat.min_def]; split <;> omega) hdl
      (fun j v hj => by
        have hlt : j < (n - i) * 6 := by rw [← hdl]; exact (List.getElem?_eq_some_iff.1 hj).1
        rw [add_plain']
        refine hHd.cells (i * 6 + j) v (by rw [HN.out]; omega) ?_
        have e : xs.flatMap prc = (xs.take i).flatMap prc ++ (xs.drop i).flatMap prc := by rw [← List.flatMap_append, List.take_append_drop]
        have el : ((xs.take i).flatMap prc).length = i * 6 := by rw [flat_len prc_len, List.length_take, HN.out, Nat.min_eq_left (by omega)]
        rw [e, List.getElem?_append_right (by rw [el]; omega), el, Nat.add_sub_cancel_left]
        exact hj)
      (fun j hj => hHd.some _ (by rw [hdl] at hj; omega)) (fun j hj => hHd.thaw _)
      (fun v hv => by
        obtain ⟨x, _, hx⟩ := List.mem_flatMap.1 hv
        exact prc_one x v hx)
  have hov2 := hHd.over prc_len (i + 1) (xs.drop i) (by rw [HN.out]; omega) (by rw [List.length_drop, HN.out]; omega) (by rw [List.length_drop, HN.out]; omega)
  obtain ⟨W1, hW1⟩ : ∃ W1, w.drew.setCells g ((i + 1) * 6) ((xs.drop i).flatMap prc) = W1 := ⟨_, rfl⟩
  have HW1 := Lib.hid hW1
  rw [hW1] at hov2
  simp only [hW1] at hcp1
  have hx1 : W1.heap[N]? = some (.cells (prc y).toArray T (0, 0)) := by
    rw [← hW1]
    rw [heap_setCells_other g _ _ w.drew N hne]
    exact HX.out
  have hcp2 : ∀ ty dc, (Builtin.copy_ #[24, 24] ty #[.slice (some ⟨g, i * 6, none⟩) (n + 1 - i) dc, .slice (some ⟨N, 0, none⟩) 1 cx]).run Try.prog W1 = .ok (goInt (1 : Nat)) (W1.setCells g (i * 6) (prc y)) := fun ty dc =>
    run_copy_m W1 _ _ ty 53 g (i * 6) (n + 1 - i) dc ⟨N, 0, none⟩ 1 cx 6 1 (prc y) Try.underlying24 hsz (by simp only [Nat.min_def]; split <;> omega) (prc_len y)
      (fun j v hj => by rw [add_plain']; simp only [World.cell?, hx1]; simpa using hj)
      (fun j hj => hov2.some _ (by rw [prc_len] at hj; omega)) (fun j hj => hov2.thaw _) (fun v hv => prc_one y v hv)
  have HO3 := Lib.hid (hov2.put prc_len i [y] (by simp; rw [HN.out]; omega))
  have mixed : Try.prog.follows .mixedOrders = true := by kernel_rfl
  clear hov2 hHd hdl hsz hx1 hW1
  go_enter Try.func104, Try.ntmps104
  go_wp2_with (simp only [hov1])
  go_region_law_o (refine step_copy_runI rfl _ _ 24 24 rfl _ _ (by simp [Act.eval, Act.put]) (by simp [Act.eval, Act.put]) (hcp1 _ _ _) ?_)
  go_wp2_with (at_builtin; refine wpList_copy_runI _ rfl _ _ 24 24 rfl _ _ rfl rfl (hcp2 _ _) ?_)
  go_ret
  refine ⟨rfl, ?_, by rw [HW1.out]⟩
  have l1 : (xs.take (i + 1)).length = i + 1 := by rw [List.length_take, HN.out]; omega
  have e1 : (xs.take (i + 1) ++ xs.drop i).take i = xs.take i := by
    rw [List.take_append_of_le_length (by omega), List.take_take, Nat.min_eq_left (by omega)]
  have e2 : (xs.take (i + 1) ++ xs.drop i).drop (i + 1) = xs.drop i := by
    rw [List.drop_append_of_le_length (by omega), List.drop_of_length_le (by omega), List.nil_append]
  have h9 := HO3.out
  rw [List.length_singleton, e1, e2, List.append_assoc] at h9
  simpa using h9
set_option maxHeartbeats 8000000 in
set_option maxRecDepth 100000 in
theorem insGrow_anyP (xs : List PromV) (y : PromV) (g cap i : Nat) (w : World) (h : OwnAt prc 6 53 w g cap xs) (hi : i < xs.length) (hroom : cap < xs.length + 1) (hl : xs.length ≤ 1100000) (N T cx : Nat) (hx : w.heap[N]? = some (.cells (prc y).toArray T (0, 0))) :
    Calls Try.prog 104 #[.slice (some ⟨g, 0, none⟩) xs.length cap, .int .i64 i, .slice (some ⟨N, 0, none⟩) 1 cx] w fun e w' => ∃ G, e = .returned (.slice (some ⟨w.heap.size, 0, none⟩) (xs.length + 1) G) ∧ OwnAt prc 6 53 w' w.heap.size G (xs.take i ++ y :: xs.drop i) ∧ Below w.heap.size w w' := by
  obtain ⟨n, hn⟩ : ∃ n, xs.length = n := ⟨_, rfl⟩
  have HN := Lib.hid hn
  have hlt := h.lt
  have hNlt : N < w.heap.size := (Array.getElem?_eq_some_iff.1 hx).1
  have hxc : ∀ t v, t < n * 6 → (xs.flatMap prc)[t]? = some v → w.cell? ⟨g, t, none⟩ = some v := fun t v ht hv => h.cells t v (by rw [hn]; exact ht) hv
  rw [hn] at hi hroom hl ⊢
  obtain ⟨i0, hi0, hz0, hzs, hzb⟩ := info_parts infoProm
  have hsz : (Try.prog.info? 53).map (·.size) = some 6 := by kernel_rfl
  have e0 : xs.flatMap prc = (xs.take i).flatMap prc ++ (xs.drop i).flatMap prc := by rw [← List.flatMap_append, List.take_append_drop]
  have el : ((xs.take i).flatMap prc).length = i * 6 := by rw [flat_len prc_len, List.length_take, HN.out, Nat.min_eq_left (by omega)]
  have hdl : ((xs.drop i).flatMap prc).length = (n - i) * 6 := by rw [flat_len prc_len, List.length_drop, HN.out]
  have hold : (Builtin.firstCells i0.size i (.slice (some ⟨g, 0, none⟩) i cap)).run Try.prog w.drew = .ok ((xs.take i).flatMap prc).toArray w.drew := by
    rw [hzs]
    exact run_firstCells_some w.drew 6 i ⟨g, 0, none⟩ i cap _ el (fun j v hj => by
      have hj2 : j < i * 6 := by rw [← el]; exact (List.getElem?_eq_some_iff.1 hj).1
      rw [add_plain', Nat.zero_add]
      exact hxc j v (by omega) (by rw [e0, List.getElem?_append_left (by rw [el]; exact hj2)]; exact hj))
  have hik : i + (n + 1 - i) = n + 1 := by omega
  have hkk : (n : Int) + 1 - (i : Int) = ((n + 1 - i : Nat) : Int) := by omega
  obtain ⟨G, hG⟩ : ∃ G, grownCap w (n + 1) cap 53 = G := ⟨_, rfl⟩
  obtain ⟨W1, hW1⟩ : ∃ W1, w.drew.alloc (.cells (((xs.take i).flatMap prc).toArray ++ Builtin.zeroCells (Value.agg #[.int .i64 0, .int .i64 0, .bool false, .int .i64 0, .int .i64 0, .string .empty]).cells (n + 1 - i) ++ Builtin.zeroCells (Value.agg #[.int .i64 0, .int .i64 0, .bool false, .int .i64 0, .int .i64 0, .string .empty]).cells (G - (n + 1))) 53) = W1 := ⟨_, rfl⟩
  have hrz : ∀ ty, (Builtin.append_ #[24, 3] ty #[.slice (some ⟨g, 0, none⟩) i cap, .int .i64 ((n : Int) + 1 - (i : Int))]).run Try.prog w = .ok (.slice (some ⟨w.heap.size, 0, none⟩) (n + 1) G) W1 := fun ty => by
    have h := Lib.run_append_grow_zeros w 24 3 ty 53 i0 _ .i64 .i64 Try.underlying24 Try.underlying3 hi0 hz0 (some ⟨g, 0, none⟩) i cap _ hold (n + 1 - i) (by omega) (by omega) (by omega) (by omega) (by rw [hzb]; omega) (by rw [hzb, hik]; exact growslice_fits (by omega) (by omega))
    rw [hik, hG, hW1] at h
    rw [hkk]
    exact h
  have hGn : n + 1 ≤ G := by rw [← hG]; exact grownCap_ge w _ _ _
  have hG63 : G ≤ maxLen := by rw [← hG]; exact grownCap_le_maxLen w (n + 1) cap _ (by unfold maxLen; omega)
  have hbel : Below w.heap.size w W1 := by rw [← hW1]; exact (below_drew (Below.refl _ w)).alloc (Nat.le_refl _) _
  have hO1 : OwnAt prc 6 53 W1 w.heap.size G (xs.take i) := by
    have hl1 : (xs.take i).length = i := by rw [List.length_take, HN.out, Nat.min_eq_left (by omega)]
    refine ⟨⟨_, by rw [← hW1]; exact alloc_at w.drew _, ?_, ?_⟩, by omega, hG63⟩
    · rw [Array.size_append, Array.size_append, size_zeroCells, size_zeroCells, List.size_toArray, el, show (Value.agg #[.int .i64 0, .int .i64 0, .bool false, .int .i64 0, .int .i64 0, .string .empty]).cells.size = 6 from rfl]; omega
    · rw [hl1, Array.toList_append, Array.toList_append, List.append_assoc, List.take_append_of_le_length (by simp [el]), List.take_of_length_le (by simp [el])]
  have hO2 := hO1.over prc_len i [y] (by rw [List.length_take, HN.out]; omega) (by rw [List.length_take]; simp; omega) (by simp; omega)
  have hcell1 : ∀ b j v, b < w.heap.size → w.cell? ⟨b, j, none⟩ = some v → W1.cell? ⟨b, j, none⟩ = some v := fun b j v hb hv => (hbel.cell (p := ⟨b, j, none⟩) hb).trans hv
  have hx1 : W1.heap[N]? = some (.cells (prc y).toArray T (0, 0)) := (hbel.block N hNlt).trans hx
  have hcpA : ∀ ty dc, (Builtin.copy_ #[24, 24] ty #[.slice (some ⟨w.heap.size, i * 6, none⟩) (n + 1 - i) dc, .slice (some ⟨N, 0, none⟩) 1 cx]).run Try.prog W1 = .ok (goInt (1 : Nat)) (W1.setCells w.heap.size (i * 6) (prc y)) := fun ty dc =>
    run_copy_m W1 _ _ ty 53 w.heap.size (i * 6) (n + 1 - i) dc ⟨N, 0, none⟩ 1 cx 6 1 (prc y) Try.underlying24 hsz (by simp only [Nat.min_def]; split <;> omega) (prc_len y)
      (fun j v hj => by rw [add_plain']; simp only [World.cell?, hx1]; simpa using hj)
      (fun j hj => hO1.some _ (by rw [prc_len] at hj; omega)) (fun j hj => hO1.thaw _) (fun v hv => prc_one y v hv)
  obtain ⟨W2, hW2⟩ : ∃ W2, W1.setCells w.heap.size (i * 6) (prc y) = W2 := ⟨_, rfl⟩
  have hfy : [y].flatMap prc = prc y := by simp
  rw [hfy, hW2] at hO2
  simp only [hW2] at hcpA
  have hbel2 : Below w.heap.size w W2 := by rw [← hW2]; exact Below.setCells hbel (Nat.le_refl _) _ _
  have hO2d : OwnAt prc 6 53 W2.drew w.heap.size G ((xs.take i).take i ++ [y]) := hO2.block rfl
  have hl2 : ((xs.take i).take i ++ [y]).length = i + 1 := by simp; omega
  have hcpB : ∀ ty dc sc, (Builtin.copy_ #[24, 24] ty #[.slice (some ⟨w.heap.size, (i + 1) * 6, none⟩) (n - i) dc, .slice (some ⟨g, i * 6, none⟩) (n - i) sc]).run Try.prog W2.drew = .ok (goInt ((n - i : Nat) : Nat)) (W2.drew.setCells w.heap.size ((i + 1) * 6) ((xs.drop i).flatMap prc)) := fun ty dc sc =>
    run_copy_m W2.drew _ _ ty 53 w.heap.size ((i + 1) * 6) (n - i) dc ⟨g, i * 6, none⟩ (n - i) sc 6 (n - i) ((xs.drop i).flatMap prc) Try.underlying24 hsz (by simp only [Nat.min_def]; split <;> omega) hdl
      (fun j v hj => by
        have hj2 : j < (n - i) * 6 := by rw [← hdl]; exact (List.getElem?_eq_some_iff.1 hj).1
        rw [add_plain']
        have := hxc (i * 6 + j) v (by omega) (by rw [e0, List.getElem?_append_right (by rw [el]; omega), el, Nat.add_sub_cancel_left]; exact hj)
        exact (hbel2.cell (p := ⟨g, i * 6 + j, none⟩) hlt).trans this)
      (fun j hj => hO2d.some _ (by rw [hdl] at hj; omega)) (fun j hj => hO2d.thaw _)
      (fun v hv => by
        obtain ⟨x, _, hx⟩ := List.mem_flatMap.1 hv
        exact prc_one x v hx)
  have HO3 := Lib.hid (hO2d.over prc_len (i + 1) (xs.drop i) (by rw [hl2]; exact Nat.le_refl _) (by rw [hl2]; omega) (by rw [List.length_drop, HN.out]; omega))
  have HBl := Lib.hid (Below.setCells (below_drew hbel2) (Nat.le_refl w.heap.size) ((i + 1) * 6) ((xs.drop i).flatMap prc))
  have HL2 := Lib.hid hl2
  have HI := Lib.hid hi
  have hz1 : ¬ ((1 : Int) = 0) := by omega
  have hz2 : ¬ ((i : Int) = (n : Int)) := by omega
  have hz3 : (cap : Int) < (n : Int) + 1 := by omega
  have hw1 : IntKind.i64.wrap ((i : Int) + 1) = (i : Int) + 1 := by rw [IntKind.wrap_i64]; omega
  have hb1 : (0 : Int) ≤ (i : Int) + 1 := by omega
  have hin : i ≤ n := by omega
  have htn : ((i : Int) + 1).toNat = i + 1 := by omega
  have hb3 : (i : Int) ≤ (n : Int) := by omega
  have hGi : ¬ (G = i) := by omega
  have hGim : ¬ (G = i + 1) := by omega
  have hle : n ≤ cap := by have := h.le; omega
  have hci : ¬ (cap = i) := by omega
  unfold maxLen at hG63
  have mixed : Try.prog.follows .mixedOrders = true := by kernel_rfl
  clear hO1 hO2 hO2d hl2 hbel hbel2 hW1 hW2 hold hxc e0 el hdl hx1 hcell1 hG hn h hx hfy hsz hi0 hz0 hzs hzb hkk hik
  go_enter Try.func104, Try.ntmps104
  go_wp2_with (first
    | (at_builtin; refine Lib.wpList_append_run _ rfl _ _ _ _ rfl _ _ rfl rfl _ _ (hrz _) ?_)
    | (at_builtin; refine wpList_copy_runI _ rfl _ _ 24 24 rfl _ _ rfl rfl (hcpA _ _) ?_))
  go_region_law_o (refine step_copy_runI rfl _ _ 24 24 rfl _ _ (by simp [Act.eval, Act.put]) (by simp [Act.eval, Act.put]) (hcpB _ _ _) ?_)
  go_wp2
  go_ret
  refine ⟨_, rfl, ?_, HBl.out⟩
  have h9 := HO3.out
  rw [List.take_of_length_le (by rw [HL2.out]; exact Nat.le_refl _), List.take_take, Nat.min_self, List.append_assoc] at h9
  simpa using h9
set_option maxHeartbeats 4000000 in
theorem ins_anyP (v : Value) (xs : List PromV) (y : PromV) (i : Nat) (B : Nat → Prop) (w : World) (h : OwnP prc 6 53 w B v xs) (hB : In B w) (N T : Nat) (hx : w.heap[N]? = some (.cells (prc y).toArray T (0, 0))) (hN : v.ownBlock ≠ some N) (hi : i ≤ xs.length) (hl : xs.length ≤ 1100000) :
    Calls Try.prog 104 #[v, .int .i64 i, .slice (some ⟨N, 0, none⟩) 1 1] w (InsOP B (xs.take i ++ y :: xs.drop i) w) := by
  have hNl : N < w.heap.size := (Array.getElem?_eq_some_iff.1 hx).1
  rcases Nat.lt_or_ge i xs.length with h1 | h1
  · have hfar := h.2
    rcases h.1.at with ⟨_, e2⟩ | ⟨g, cap, rfl, hg, hat⟩
    · rw [e2] at h1; exact absurd h1 (Nat.not_lt_zero _)
    · obtain ⟨cur, hgc, -⟩ := hat.ex
      have hne : N ≠ g := fun e => hN (by subst e; rfl)
      rcases Nat.lt_or_ge cap (xs.length + 1) with h2 | h2
      · refine (insGrow_anyP xs y g cap i w hat h1 h2 hl N T 1 hx).mono ?_
        rintro e w' ⟨G, rfl, ho, hb⟩
        have hlen : (xs.take i ++ y :: xs.drop i).length = xs.length + 1 := by simp; omega
        refine ⟨_, rfl, ⟨by have := ho.own prc_len (Nat.zero_le _); rwa [hlen] at this, fun b hb2 hb3 => ?_⟩, Kept.of_below (Nat.zero_le _) hb, Far.of hb hB⟩
        have e1 : w.heap.size = b := by simpa [Value.ownBlock] using hb2
        have := hB b hb3
        omega
      · refine (insMid_anyP xs y g cap i w hat h1 h2 hl N T 1 hx hne).mono ?_
        rintro e w' ⟨rfl, ho, hw⟩
        have hlen : (xs.take i ++ y :: xs.drop i).length = xs.length + 1 := by simp; omega
        refine ⟨_, rfl, ⟨by have := ho.own prc_len (Nat.zero_le _); rwa [hlen] at this, fun b hb2 => hfar b (by simpa [Value.ownBlock] using hb2)⟩, ?_, ?_⟩
        · rw [hw]
          exact kept_set (kept_set (Kept.refl 0 _ w).drew hgc (Nat.zero_le _) _ _) hgc (Nat.zero_le _) _ _
        · rw [hw]
          exact ((Far.refl B w).drew.setCells (hfar g rfl) _ _).setCells (hfar g rfl) _ _
  · obtain rfl : i = xs.length := by omega
    have hs : Sl prc 6 w (.slice (some ⟨N, 0, none⟩) 1 1) [y] := by
      refine ⟨by simp, _, _, rfl, fun h => (by cases h), fun _ => ⟨N, 0, rfl, hNl, fun j hj t v hv => ?_⟩⟩
      have hj0 : j = 0 := by simp at hj; omega
      subst hj0
      simp only [World.cell?, hx]
      simpa using hv
    have := insEnd_anyP v xs y B w h hB _ hs hl
    rw [List.take_of_length_le (Nat.le_refl _), List.drop_of_length_le (Nat.le_refl _)]
    exact this
end Go.Proofs.Ytcofmfjhgbihkaa.crush
