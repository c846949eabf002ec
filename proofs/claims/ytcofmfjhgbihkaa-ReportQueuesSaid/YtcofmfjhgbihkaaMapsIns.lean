/- slices.Insert of a ban. -/
import Derived.Test.YtcofmfjhgbihkaaRows
import Derived.Test.YtcofmfjhgbihkaaMapsFar
import Derived.Test.YtcofmfjhgbihkaaMapsBs
import Derived.Test.YtcofmfjhgbihkaaRuleApp
import Derived.Shelf.Spec.SlicesInsert
namespace Go.Proofs.Ytcofmfjhgbihkaa.crush
open Go.RowKit
open Go.Proofs.Ytcofmfjhgbihkaa.kit Go.Proofs.Ytcofmfjhgbihkaa.own
set_option linter.unusedVariables false
set_option linter.unusedSimpArgs false

section
variable {α : Type} {enc : α → List Value} {k : Nat}
/-- Rows written over the end of a row of the call's own. -/
theorem OwnAt.over (hk : ∀ x, (enc x).length = k) {e g cap : Nat} {w : World} {xs : List α} (h : OwnAt enc k e w g cap xs) (j : Nat) (ys : List α) (hj : j ≤ xs.length) (hn : xs.length ≤ j + ys.length) (hc : j + ys.length ≤ cap) :
    OwnAt enc k e (w.setCells g (j * k) (ys.flatMap enc)) g cap (xs.take j ++ ys) := by
  obtain ⟨cur, h1, h2, h3⟩ := h.ex
  have hlen : (xs.take j ++ ys).length = j + ys.length := by simp; omega
  have hyl := flat_len hk ys
  have hb : j * k + (ys.flatMap enc).length ≤ cur.toList.length := by
    have hcl : cur.toList.length = cap * k := by simpa using h2
    rw [hyl, hcl, ← Nat.add_mul]
    exact Nat.mul_le_mul_right _ hc
  refine ⟨⟨_, heap_setCells g e _ _ w cur h1, by simpa [setL_len] using h2, ?_⟩, by rw [hlen]; exact hc, h.max⟩
  rw [hlen]
  apply List.ext_getElem?
  intro t
  have hmul : j * k ≤ xs.length * k := Nat.mul_le_mul_right _ hj
  rw [List.getElem?_take, setL_at _ _ _ _ hb, hyl, List.flatMap_append, Nat.add_mul]
  have hx : ∀ t, t < xs.length * k → cur.toList[t]? = (xs.flatMap enc)[t]? := fun t ht => by
    rw [← h3, List.getElem?_take, if_pos ht]
  have htk : ((xs.take j).flatMap enc).length = j * k := by rw [flat_len hk, List.length_take, Nat.min_eq_left (by omega)]
  have hta : xs.flatMap enc = (xs.take j).flatMap enc ++ (xs.drop j).flatMap enc := by rw [← List.flatMap_append, List.take_append_drop]
  by_cases ht : t < j * k + ys.length * k
  · rw [if_pos ht]
    by_cases h5 : j * k ≤ t ∧ t < j * k + ys.length * k
    · rw [if_pos h5, List.getElem?_append_right (by rw [htk]; exact h5.1), htk]
    · rw [if_neg h5, hx t (by omega), List.getElem?_append_left (by rw [htk]; omega), hta, List.getElem?_append_left (by rw [htk]; omega)]
  · rw [if_neg ht, List.getElem?_eq_none]
    rw [List.length_append, htk, hyl]
    omega
end

/-- A ban more. -/
def InsO (B : Nat → Prop) (xs : List BanV) (w : World) (e : Ending) (w' : World) : Prop := ∃ v, e = .returned v ∧ OwnP bc 2 136 w' B v xs ∧ Kept 0 136 w w' ∧ Far B w w'

set_option maxHeartbeats 8000000 in
set_option maxRecDepth 100000 in
theorem insEnd_any (v : Value) (xs : List BanV) (y : BanV) (B : Nat → Prop) (w : World) (h : OwnP bc 2 136 w B v xs) (hB : In B w) (vx : Value) (hx : Sl bc 2 w vx [y]) (hl : xs.length ≤ 64) :
    Calls Try.prog 141 #[v, .int .i64 xs.length, vx] w (InsO B (xs ++ [y]) w) := by
  obtain ⟨a, c, rfl⟩ := h.slice
  obtain ⟨ax, cx, rfl⟩ := hx.slice
  have HO := Lib.hid h; have HX := Lib.hid hx; have HB := Lib.hid hB
  have hle : xs.length ≤ c := by
    rcases h.1.at with ⟨e, e2⟩ | ⟨g, cap, e, -, hat⟩
    · rw [e2]; exact Nat.zero_le _
    · cases e; exact hat.le
  have hcm : c ≤ maxLen := by
    rcases h.1.at with ⟨e, e2⟩ | ⟨g, cap, e, -, hat⟩
    · simp only [Value.slice.injEq] at e; unfold maxLen; omega
    · cases e; exact hat.max
  unfold maxLen at hcm
  clear h hx hB
  obtain ⟨L, hL⟩ : ∃ L, xs.length = L := ⟨_, rfl⟩
  have HL := Lib.hid hL
  rw [hL] at hl HO hle ⊢
  clear hL
  have h1 : ([y] : List BanV).length = 1 := rfl
  rw [h1]
  clear h1
  go_enter Try.func141, Try.ntmps141
  go_wp2_with (at_builtin; refine wpList_plain rfl fun _ hK => step_app1P bc_len bc_one (by decide) _ _ 81 rfl B 136 _ (by rfl) 16 Try.underlying81 infoBan _ xs rfl HO.out _ y rfl HX.out (by rw [HL.out]; unfold maxLen; omega) (by rw [HL.out]; omega) HB.out ?_; intro v5 w5 ho hk hgr; refine hK _ _ ?_; have HO5 := Lib.hid ho; have HK5 := Lib.hid hk; have HF5 := Lib.hid hgr; clear ho hk hgr)
  all_goals
    go_ret
    exact ⟨_, rfl, HO5.out, HK5.out, HF5.out⟩

set_option maxHeartbeats 8000000 in
set_option maxRecDepth 100000 in
theorem insMid_any (xs : List BanV) (y : BanV) (g cap i : Nat) (w : World) (h : OwnAt bc 2 136 w g cap xs) (hi : i < xs.length) (hroom : xs.length + 1 ≤ cap) (hl : xs.length ≤ 64) (N T cx : Nat) (hx : w.heap[N]? = some (.cells (bc y).toArray T (0, 0))) (hne : N ≠ g) :
    Calls Try.prog 141 #[.slice (some ⟨g, 0, none⟩) xs.length cap, .int .i64 i, .slice (some ⟨N, 0, none⟩) 1 cx] w fun e w' => e = .returned (.slice (some ⟨g, 0, none⟩) (xs.length + 1) cap) ∧ OwnAt bc 2 136 w' g cap (xs.take i ++ y :: xs.drop i) ∧ w' = (w.drew.setCells g ((i + 1) * 2) ((xs.drop i).flatMap bc)).setCells g (i * 2) (bc y) := by
  have hcm := h.max
  unfold maxLen at hcm
  obtain ⟨cur, hgc, hgs, -⟩ := h.ex
  have hov : ∀ W, (∀ k, W.heap[k]? = w.heap[k]?) → ∀ o lb cb, (callFunc 152 #[.slice (some ⟨N, 0, none⟩) 1 cx, .slice (some ⟨g, o, none⟩) lb cb]).run Try.prog W = .ok (.value (.bool false)) W := fun W hW o lb cb => by
    have hN := (hW N).trans hx
    have hG := (hW g).trans hgc
    have hs1 : W.shape? N = some (T, 2) := by unfold World.shape?; rw [hN]; rfl
    have hs2 : W.shape? g = some (136, cur.size) := by unfold World.shape?; rw [hG]
    have hs3 : W.frozen? ⟨N, 0, none⟩ = false := by unfold World.frozen?; rw [hN]; rfl
    have hs4 : W.frozen? ⟨N, 2, none⟩ = false := by unfold World.frozen?; rw [hN]; rfl
    rw [run_callFunc_extern Try.func152 (by kernel_rfl) (by kernel_rfl) (by kernel_rfl) (e := Extern.SlicesOverlaps.overlaps #[81, 81] #[4]) (by kernel_rfl),
      Lib.run_overlaps_apart W 81 4 136 Try.underlying81 2 (fun _ => by kernel_rfl) ⟨N, 0, none⟩ ⟨g, o, none⟩ 1 cx lb cb hne T 136 2 cur.size hs1 hs2 (by rw [hgs]; omega) hs3 hs4]
    rfl
  have hov1 := hov w (fun _ => rfl)
  obtain ⟨n, hn⟩ : ∃ n, xs.length = n := ⟨_, rfl⟩
  have HN := Lib.hid hn
  have HH := Lib.hid h
  have HX := Lib.hid hx
  rw [hn] at hi hroom hl ⊢
  clear hov hn h hx hgc hgs
  have hz1 : ¬ ((1 : Int) = 0) := by omega
  have hz2 : ¬ ((i : Int) = (n : Int)) := by omega
  have hw1 : IntKind.i64.wrap ((i : Int) + 1) = (i : Int) + 1 := by rw [IntKind.wrap_i64]; omega
  have hb1 : (0 : Int) ≤ (i : Int) + 1 := by omega
  have hin : i ≤ n := by omega
  have htn : ((i : Int) + 1).toNat = i + 1 := by omega
  have hb2 : ¬ (cap = i + 1) := by omega
  have hb3 : (i : Int) ≤ (n : Int) + 1 := by omega
  have hb4 : ¬ (cap = i) := by omega
  have hsz : (Try.prog.info? 136).map (·.size) = some 2 := by kernel_rfl
  have hHd : OwnAt bc 2 136 w.drew g cap xs := HH.out.block rfl
  have hdl : ((xs.drop i).flatMap bc).length = (n - i) * 2 := by rw [flat_len bc_len, List.length_drop, HN.out]
  have hcp1 : ∀ ty dc sc, (Builtin.copy_ #[81, 81] ty #[.slice (some ⟨g, (i + 1) * 2, none⟩) (n - i) dc, .slice (some ⟨g, i * 2, none⟩) (n + 1 - i) sc]).run Try.prog w.drew = .ok (goInt ((n - i : Nat) : Nat)) (w.drew.setCells g ((i + 1) * 2) ((xs.drop i).flatMap bc)) := fun ty dc sc =>
    run_copy_m w.drew _ _ ty 136 g ((i + 1) * 2) (n - i) dc ⟨g, i * 2, none⟩ (n + 1 - i) sc 2 (n - i) ((xs.drop i).flatMap bc) Try.underlying81 hsz (by simp only [Nat.min_def]; split <;> omega) hdl
      (fun j v hj => by
        have hlt : j < (n - i) * 2 := by rw [← hdl]; exact (List.getElem?_eq_some_iff.1 hj).1
        rw [add_plain']
        refine hHd.cells (i * 2 + j) v (by rw [HN.out]; omega) ?_
        have e : xs.flatMap bc = (xs.take i).flatMap bc ++ (xs.drop i).flatMap bc := by rw [← List.flatMap_append, List.take_append_drop]
        have el : ((xs.take i).flatMap bc).length = i * 2 := by rw [flat_len bc_len, List.length_take, HN.out, Nat.min_eq_left (by omega)]
        rw [e, List.getElem?_append_right (by rw [el]; omega), el, Nat.add_sub_cancel_left]
        exact hj)
      (fun j hj => hHd.some _ (by rw [hdl] at hj; omega)) (fun j hj => hHd.thaw _)
      (fun v hv => by
        obtain ⟨x, _, hx⟩ := List.mem_flatMap.1 hv
        exact bc_one x v hx)
  have hov2 := hHd.over bc_len (i + 1) (xs.drop i) (by rw [HN.out]; omega) (by rw [List.length_drop, HN.out]; omega) (by rw [List.length_drop, HN.out]; omega)
  obtain ⟨W1, hW1⟩ : ∃ W1, w.drew.setCells g ((i + 1) * 2) ((xs.drop i).flatMap bc) = W1 := ⟨_, rfl⟩
  have HW1 := Lib.hid hW1
  rw [hW1] at hov2
  simp only [hW1] at hcp1
  have hx1 : W1.heap[N]? = some (.cells (bc y).toArray T (0, 0)) := by
    rw [← hW1]
    rw [heap_setCells_other g _ _ w.drew N hne]
    exact HX.out
  have hcp2 : ∀ ty dc, (Builtin.copy_ #[81, 81] ty #[.slice (some ⟨g, i * 2, none⟩) (n + 1 - i) dc, .slice (some ⟨N, 0, none⟩) 1 cx]).run Try.prog W1 = .ok (goInt (1 : Nat)) (W1.setCells g (i * 2) (bc y)) := fun ty dc =>
    run_copy_m W1 _ _ ty 136 g (i * 2) (n + 1 - i) dc ⟨N, 0, none⟩ 1 cx 2 1 (bc y) Try.underlying81 hsz (by simp only [Nat.min_def]; split <;> omega) (bc_len y)
      (fun j v hj => by rw [add_plain']; simp only [World.cell?, hx1]; simpa using hj)
      (fun j hj => hov2.some _ (by rw [bc_len] at hj; omega)) (fun j hj => hov2.thaw _) (fun v hv => bc_one y v hv)
  have HO3 := Lib.hid (hov2.put bc_len i [y] (by simp; rw [HN.out]; omega))
  have mixed : Try.prog.follows .mixedOrders = true := by kernel_rfl
  clear hov2 hHd hdl hsz hx1 hW1
  go_enter Try.func141, Try.ntmps141
  go_wp2_with (simp only [hov1])
  go_region_law_o (refine step_copy_runI rfl _ _ 81 81 rfl _ _ (by simp [Act.eval, Act.put]) (by simp [Act.eval, Act.put]) (hcp1 _ _ _) ?_)
  go_wp2_with (at_builtin; refine wpList_copy_runI _ rfl _ _ 81 81 rfl _ _ rfl rfl (hcp2 _ _) ?_)
  go_ret
  refine ⟨rfl, ?_, by rw [HW1.out]⟩
  have l1 : (xs.take (i + 1)).length = i + 1 := by rw [List.length_take, HN.out]; omega
  have e1 : (xs.take (i + 1) ++ xs.drop i).take i = xs.take i := by
    rw [List.take_append_of_le_length (by omega), List.take_take, Nat.min_eq_left (by omega)]
  have e2 : (xs.take (i + 1) ++ xs.drop i).drop (i + 1) = xs.drop i := by
    rw [List.drop_append_of_le_length (by omega), List.drop_of_length_le (by omega), List.nil_append]
  have h9 := HO3.out
  rw [List.length_singleton, e1, e2, List.append_assoc] at h9
  simpa using h9
end Go.Proofs.Ytcofmfjhgbihkaa.crush
