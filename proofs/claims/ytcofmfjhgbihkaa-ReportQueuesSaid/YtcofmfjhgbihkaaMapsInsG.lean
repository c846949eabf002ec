/- slices.Insert of a ban where there is no room. -/
import Derived.Test.YtcofmfjhgbihkaaRows
import Derived.Test.YtcofmfjhgbihkaaMapsIns
import Derived.Lib.AppendZerosOnto
import Derived.Laws.NewBlocks
namespace Go.Proofs.Ytcofmfjhgbihkaa.crush
open Go.RowKit
open Go.Proofs.Ytcofmfjhgbihkaa.kit Go.Proofs.Ytcofmfjhgbihkaa.own
set_option linter.unusedVariables false
set_option linter.unusedSimpArgs false

set_option maxHeartbeats 8000000 in
set_option maxRecDepth 100000 in
theorem insGrow_any (xs : List BanV) (y : BanV) (g cap i : Nat) (w : World) (h : OwnAt bc 2 136 w g cap xs) (hi : i < xs.length) (hroom : cap < xs.length + 1) (hl : xs.length ≤ 64) (N T cx : Nat) (hx : w.heap[N]? = some (.cells (bc y).toArray T (0, 0))) :
    Calls Try.prog 141 #[.slice (some ⟨g, 0, none⟩) xs.length cap, .int .i64 i, .slice (some ⟨N, 0, none⟩) 1 cx] w fun e w' => ∃ G, e = .returned (.slice (some ⟨w.heap.size, 0, none⟩) (xs.length + 1) G) ∧ OwnAt bc 2 136 w' w.heap.size G (xs.take i ++ y :: xs.drop i) ∧ Below w.heap.size w w' := by
  obtain ⟨n, hn⟩ : ∃ n, xs.length = n := ⟨_, rfl⟩
  have HN := Lib.hid hn
  have hlt := h.lt
  have hNlt : N < w.heap.size := (Array.getElem?_eq_some_iff.1 hx).1
  have hxc : ∀ t v, t < n * 2 → (xs.flatMap bc)[t]? = some v → w.cell? ⟨g, t, none⟩ = some v := fun t v ht hv => h.cells t v (by rw [hn]; exact ht) hv
  rw [hn] at hi hroom hl ⊢
  obtain ⟨i0, hi0, hz0, hzs, hzb⟩ := info_parts infoBan
  have hsz : (Try.prog.info? 136).map (·.size) = some 2 := by kernel_rfl
  have e0 : xs.flatMap bc = (xs.take i).flatMap bc ++ (xs.drop i).flatMap bc := by rw [← List.flatMap_append, List.take_append_drop]
  have el : ((xs.take i).flatMap bc).length = i * 2 := by rw [flat_len bc_len, List.length_take, HN.out, Nat.min_eq_left (by omega)]
  have hdl : ((xs.drop i).flatMap bc).length = (n - i) * 2 := by rw [flat_len bc_len, List.length_drop, HN.out]
  have hold : (Builtin.firstCells i0.size i (.slice (some ⟨g, 0, none⟩) i cap)).run Try.prog w.drew = .ok ((xs.take i).flatMap bc).toArray w.drew := by
    rw [hzs]
    exact run_firstCells_some w.drew 2 i ⟨g, 0, none⟩ i cap _ el (fun j v hj => by
      have hj2 : j < i * 2 := by rw [← el]; exact (List.getElem?_eq_some_iff.1 hj).1
      rw [add_plain', Nat.zero_add]
      exact hxc j v (by omega) (by rw [e0, List.getElem?_append_left (by rw [el]; exact hj2)]; exact hj))
  have hik : i + (n + 1 - i) = n + 1 := by omega
  have hkk : (n : Int) + 1 - (i : Int) = ((n + 1 - i : Nat) : Int) := by omega
  obtain ⟨G, hG⟩ : ∃ G, grownCap w (n + 1) cap 136 = G := ⟨_, rfl⟩
  obtain ⟨W1, hW1⟩ : ∃ W1, w.drew.alloc (.cells (((xs.take i).flatMap bc).toArray ++ Builtin.zeroCells (Value.agg #[.int .i64 0, .int .i64 0]).cells (n + 1 - i) ++ Builtin.zeroCells (Value.agg #[.int .i64 0, .int .i64 0]).cells (G - (n + 1))) 136) = W1 := ⟨_, rfl⟩
  have hrz : ∀ ty, (Builtin.append_ #[81, 3] ty #[.slice (some ⟨g, 0, none⟩) i cap, .int .i64 ((n : Int) + 1 - (i : Int))]).run Try.prog w = .ok (.slice (some ⟨w.heap.size, 0, none⟩) (n + 1) G) W1 := fun ty => by
    have h := Lib.run_append_grow_zeros w 81 3 ty 136 i0 _ .i64 .i64 Try.underlying81 Try.underlying3 hi0 hz0 (some ⟨g, 0, none⟩) i cap _ hold (n + 1 - i) (by omega) (by omega) (by omega) (by omega) (by rw [hzb]; omega) (by rw [hzb, hik]; exact growslice_fits (by omega) (by omega))
    rw [hik, hG, hW1] at h
    rw [hkk]
    exact h
  have hGn : n + 1 ≤ G := by rw [← hG]; exact grownCap_ge w _ _ _
  have hG63 : G ≤ maxLen := by rw [← hG]; exact grownCap_le_maxLen w (n + 1) cap _ (by unfold maxLen; omega)
  have hbel : Below w.heap.size w W1 := by rw [← hW1]; exact (below_drew (Below.refl _ w)).alloc (Nat.le_refl _) _
  have hO1 : OwnAt bc 2 136 W1 w.heap.size G (xs.take i) := by
    have hl1 : (xs.take i).length = i := by rw [List.length_take, HN.out, Nat.min_eq_left (by omega)]
    refine ⟨⟨_, by rw [← hW1]; exact alloc_at w.drew _, ?_, ?_⟩, by omega, hG63⟩
    · rw [Array.size_append, Array.size_append, size_zeroCells, size_zeroCells, List.size_toArray, el, show (Value.agg #[.int .i64 0, .int .i64 0]).cells.size = 2 from rfl]; omega
    · rw [hl1, Array.toList_append, Array.toList_append, List.append_assoc, List.take_append_of_le_length (by simp [el]), List.take_of_length_le (by simp [el])]
  have hO2 := hO1.over bc_len i [y] (by rw [List.length_take, HN.out]; omega) (by rw [List.length_take]; simp; omega) (by simp; omega)
  have hcell1 : ∀ b j v, b < w.heap.size → w.cell? ⟨b, j, none⟩ = some v → W1.cell? ⟨b, j, none⟩ = some v := fun b j v hb hv => (hbel.cell (p := ⟨b, j, none⟩) hb).trans hv
  have hx1 : W1.heap[N]? = some (.cells (bc y).toArray T (0, 0)) := (hbel.block N hNlt).trans hx
  have hcpA : ∀ ty dc, (Builtin.copy_ #[81, 81] ty #[.slice (some ⟨w.heap.size, i * 2, none⟩) (n + 1 - i) dc, .slice (some ⟨N, 0, none⟩) 1 cx]).run Try.prog W1 = .ok (goInt (1 : Nat)) (W1.setCells w.heap.size (i * 2) (bc y)) := fun ty dc =>
    run_copy_m W1 _ _ ty 136 w.heap.size (i * 2) (n + 1 - i) dc ⟨N, 0, none⟩ 1 cx 2 1 (bc y) Try.underlying81 hsz (by simp only [Nat.min_def]; split <;> omega) (bc_len y)
      (fun j v hj => by rw [add_plain']; simp only [World.cell?, hx1]; simpa using hj)
      (fun j hj => hO1.some _ (by rw [bc_len] at hj; omega)) (fun j hj => hO1.thaw _) (fun v hv => bc_one y v hv)
  obtain ⟨W2, hW2⟩ : ∃ W2, W1.setCells w.heap.size (i * 2) (bc y) = W2 := ⟨_, rfl⟩
  have hfy : [y].flatMap bc = bc y := by simp
  rw [hfy, hW2] at hO2
  simp only [hW2] at hcpA
  have hbel2 : Below w.heap.size w W2 := by rw [← hW2]; exact Below.setCells hbel (Nat.le_refl _) _ _
  have hO2d : OwnAt bc 2 136 W2.drew w.heap.size G ((xs.take i).take i ++ [y]) := hO2.block rfl
  have hl2 : ((xs.take i).take i ++ [y]).length = i + 1 := by simp; omega
  have hcpB : ∀ ty dc sc, (Builtin.copy_ #[81, 81] ty #[.slice (some ⟨w.heap.size, (i + 1) * 2, none⟩) (n - i) dc, .slice (some ⟨g, i * 2, none⟩) (n - i) sc]).run Try.prog W2.drew = .ok (goInt ((n - i : Nat) : Nat)) (W2.drew.setCells w.heap.size ((i + 1) * 2) ((xs.drop i).flatMap bc)) := fun ty dc sc =>
    run_copy_m W2.drew _ _ ty 136 w.heap.size ((i + 1) * 2) (n - i) dc ⟨g, i * 2, none⟩ (n - i) sc 2 (n - i) ((xs.drop i).flatMap bc) Try.underlying81 hsz (by simp only [Nat.min_def]; split <;> omega) hdl
      (fun j v hj => by
        have hj2 : j < (n - i) * 2 := by rw [← hdl]; exact (List.getElem?_eq_some_iff.1 hj).1
        rw [add_plain']
        have := hxc (i * 2 + j) v (by omega) (by rw [e0, List.getElem?_append_right (by rw [el]; omega), el, Nat.add_sub_cancel_left]; exact hj)
        exact (hbel2.cell (p := ⟨g, i * 2 + j, none⟩) hlt).trans this)
      (fun j hj => hO2d.some _ (by rw [hdl] at hj; omega)) (fun j hj => hO2d.thaw _)
      (fun v hv => by
        obtain ⟨x, _, hx⟩ := List.mem_flatMap.1 hv
        exact bc_one x v hx)
  have HO3 := Lib.hid (hO2d.over bc_len (i + 1) (xs.drop i) (by rw [hl2]; exact Nat.le_refl _) (by rw [hl2]; omega) (by rw [List.length_drop, HN.out]; omega))
  have HBl := Lib.hid (Below.setCells (below_drew hbel2) (Nat.le_refl w.heap.size) ((i + 1) * 2) ((xs.drop i).flatMap bc))
  have HL2 := Lib.hid hl2
  have HI := Lib.hid hi
  have hz1 : ¬ ((1 : Int) = 0) := by omega
  have hz2 : ¬ ((i : Int) = (n : Int)) := by omega
  have hz3 : (cap : Int) < (n : Int) + 1 := by omega
  have hw1 : IntKind.i64.wrap ((i : Int) + 1) = (i : Int) + 1 := by rw [IntKind.wrap_i64]; omega
  have hb1 : (0 : Int) ≤ (i : Int) + 1 := by omega
  have hin : i ≤ n := by omega
  have htn : ((i : Int) + 1).toNat = i + 1 := by omega
  have hb3 : (i : Int) ≤ (n : Int) := by omega
  have hGi : ¬ (G = i) := by omega
  have hGim : ¬ (G = i + 1) := by omega
  have hle : n ≤ cap := by have := h.le; omega
  have hci : ¬ (cap = i) := by omega
  unfold maxLen at hG63
  have mixed : Try.prog.follows .mixedOrders = true := by kernel_rfl
  clear hO1 hO2 hO2d hl2 hbel hbel2 hW1 hW2 hold hxc e0 el hdl hx1 hcell1 hG hn h hx hfy hsz hi0 hz0 hzs hzb hkk hik
  go_enter Try.func141, Try.ntmps141
  go_wp2_with (first
    | (at_builtin; refine Lib.wpList_append_run _ rfl _ _ _ _ rfl _ _ rfl rfl _ _ (hrz _) ?_)
    | (at_builtin; refine wpList_copy_runI _ rfl _ _ 81 81 rfl _ _ rfl rfl (hcpA _ _) ?_))
  go_region_law_o (refine step_copy_runI rfl _ _ 81 81 rfl _ _ (by simp [Act.eval, Act.put]) (by simp [Act.eval, Act.put]) (hcpB _ _ _) ?_)
  go_wp2
  go_ret
  refine ⟨_, rfl, ?_, HBl.out⟩
  have h9 := HO3.out
  rw [List.take_of_length_le (by rw [HL2.out]; exact Nat.le_refl _), List.take_take, Nat.min_self, List.append_assoc] at h9
  simpa using h9
end Go.Proofs.Ytcofmfjhgbihkaa.crush
