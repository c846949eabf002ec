/- Ways put in order. -/
import Derived.Test.YtalnmbfmfeaohaaGreatRows
import Derived.Test.YtalnmbfmfeaohaaGreatFlightShelf
import Derived.Test.YtalnmbfmfeaohaaGreatFlightOrd
import Derived.Test.YtalnmbfmfeaohaaGreatFlightRow
namespace Go.Proofs.YtalnmbfmfeaohaaGreat.flight
open Go.RowKit Go.Shelf Go.Lib Go.Sort
open Go.Proofs.YtalnmbfmfeaohaaGreat.kit Go.Proofs.YtalnmbfmfeaohaaGreat.own
set_option linter.unusedVariables false

theorem ltOf_ord (x y : Wy) : ltOf ordW x y = ltW x y := ordW_lt x y
theorem ltW_iff (x y : Wy) : ltW x y = true ↔ x.1 < y.1 ∨ x.1 = y.1 ∧ x.2 < y.2 := by unfold ltW; simp
theorem ltW_not (x y : Wy) : ltW x y = false ↔ ¬ (x.1 < y.1 ∨ x.1 = y.1 ∧ x.2 < y.2) := by unfold ltW; simp
theorem ord_swo : SWO (ltOf ordW) where
  irrefl x := by rw [ltOf_ord, ltW_not]; omega
  trans x y z h1 h2 := by rw [ltOf_ord, ltW_iff] at *; omega
  ntrans x y z h1 h2 := by rw [ltOf_ord, ltW_not] at *; omega
theorem ord_total (x y : Wy) (h1 : ltOf ordW x y = false) (h2 : ltOf ordW y x = false) : x = y := by
  rw [ltOf_ord, ltW_not] at h1 h2
  exact Prod.ext (by omega) (by omega)
/-- Ways in their order. -/
def sortW (xs : List Wy) : List Wy := xs.mergeSort fun x y => !ltW y x

theorem holds_of_own {w : World} {g cap : Nat} {xs : List Wy} (h : OwnAt wc 2 40 w g cap xs) : HoldsK wc 2 w g 0 xs.toArray := by
  obtain ⟨cur, h1, h2, h3⟩ := h.ex
  intro t ht
  have ht' : t < xs.length * 2 := by simpa using ht
  have hq : t / 2 < xs.length := by omega
  rw [get_flatK _ _ _ _ (by simpa using ht')]
  have e1 : (xs.toArray[t / 2]! : Wy) = xs[t / 2] := by rw [getElem!_pos xs.toArray _ (by simpa using hq)]; simp
  rw [e1]
  have hr := h.row wc_len (t / 2) hq
  have hm : t % 2 < (wc xs[t / 2]).length := by rw [wc_len]; omega
  have := hr (t % 2) (wc xs[t / 2])[t % 2] (by simp [hm])
  refine ⟨?_, ?_⟩
  · rw [getElem!_pos (wc xs[t / 2]) _ hm]
    have e2 : 0 + t = t / 2 * 2 + t % 2 := by omega
    rw [e2]
    exact this
  · simp [World.frozen?, h1]

/-- What the sort leaves: the row sorted, in its block; nothing else that lay has turned. -/
theorem sortedWorld {w : World} {g cap : Nat} {xs ys : List Wy} (h : OwnAt wc 2 40 w g cap xs) (hl : ys.length = xs.length) (n : Nat) (os : Array Obj) :
    OwnAt wc 2 40 (sortWorldK wc 2 w g 0 n ys.toArray os) g cap ys ∧ w.grownBy (sortWorldK wc 2 w g 0 n ys.toArray os) (some g) := by
  have hg := h.lt
  obtain ⟨cur, h1, h2, h3⟩ := h.ex
  have hcap := h.le
  have hheap : (sortWorldK wc 2 w g 0 n ys.toArray os).heap[g]? = some (.cells (putCells id 0 (flatK wc 2 ys.toArray) cur) 40 (0, 0)) := by
    unfold sortWorldK putRowK putRow
    rw [heap_grow_old _ _ (by simpa [mapBlock] using hg)]
    simp only [mapBlock, Array.getElem?_modify]
    simp [onCells]
    exact ⟨_, h1, rfl⟩
  have hoth : ∀ k, k < w.heap.size → k ≠ g → (sortWorldK wc 2 w g 0 n ys.toArray os).heap[k]? = w.heap[k]? := by
    intro k hk hne
    unfold sortWorldK putRowK putRow
    rw [heap_grow_old _ _ (by simpa [mapBlock] using hk)]
    simp only [mapBlock, Array.getElem?_modify]
    rw [if_neg (fun e => hne e.symm)]
    rfl
  refine ⟨⟨⟨_, hheap, by simpa [putCells] using h2, ?_⟩, by rw [hl]; exact hcap, h.max⟩, ?_⟩
  · have hlen : xs.length * 2 ≤ cur.size := by rw [h2]; exact Nat.mul_le_mul_right 2 hcap
    apply List.ext_getElem?
    intro t
    rw [List.getElem?_take]
    by_cases ht : t < ys.length * 2
    · have hq : t / 2 < ys.length := by omega
      have hd : t = t / 2 * 2 + t % 2 := by omega
      have e1 : (ys.flatMap wc)[t]? = (wc ys[t / 2])[t % 2]? := by
        conv => lhs; rw [hd]
        exact flat_at wc_len ys (t / 2) (t % 2) hq (Nat.mod_lt _ (by decide))
      have hm : t % 2 < (wc ys[t / 2]).length := by rw [wc_len]; omega
      have hF : (flatK wc 2 ys.toArray)[t]! = (wc ys[t / 2])[t % 2] := by
        rw [get_flatK _ _ _ _ (by simpa using ht)]
        have e1 : (ys.toArray[t / 2]! : Wy) = ys[t / 2] := by rw [getElem!_pos ys.toArray _ (by simpa using hq)]; simp
        rw [e1, getElem!_pos (wc ys[t / 2]) (t % 2) hm]
      have hc : t < cur.size := by omega
      rw [if_pos ht, e1, List.getElem?_eq_getElem hm]
      simp only [putCells, Array.getElem?_toList, Array.getElem?_mapIdx, Array.getElem?_eq_getElem hc, Option.map_some, Nat.zero_le, true_and, Nat.zero_add, size_flatK, Nat.sub_zero]
      rw [if_pos (by simpa using ht)]
      simp only [id, hF]
    · rw [if_neg ht]
      symm
      rw [List.getElem?_eq_none]
      rw [flat_len wc_len]; omega
  · refine ⟨rfl, rfl, rfl, ?_, fun k hk hn => hoth k hk (fun e => hn (by rw [e]))⟩
    unfold sortWorldK putRowK
    rw [size_grow, size_putRow]
    exact Nat.le_add_right _ _

theorem sortW_len (xs : List Wy) : (sortW xs).length = xs.length := by unfold sortW; exact List.length_mergeSort ..
set_option maxHeartbeats 1000000 in
/-- 'slices.SortFunc(ways, order)': the row holds them in their order. -/
theorem sortF_any (g cap : Nat) (xs : List Wy) (w : World) (h : OwnAt wc 2 40 w g cap xs) (hm : xs.length < 4611686018427387904) :
    Calls Tryz.prog 67 #[.slice (some ⟨g, 0, none⟩) xs.length cap, .func (.func 49) #[] #[]] w fun e w' =>
      e = .returned (.tuple #[]) ∧ OwnAt wc 2 40 w' g cap (sortW xs) ∧ w.grownBy w' (some g) := by
  have eg : ∀ args w, (callFunc 49 args).run Tryz.prog w = .ok (.enter 49 args) w := enters_of Tryz.func49 (by kernel_rfl) rfl
  have hcmp : CmpLays Tryz.prog 49 #[] wc 2 ordW g 0 xs.toArray.size w := fun _ _ _ _ x y => order_any x y _
  have hcon := AnyQ.slices_SortFunc_total Tryz.sortWays 2 Tryz.isAgg40 Tryz.sizeOf40 wc wc_len wc_one ordW ord_swo 49 #[] g 0 cap xs.toArray w eg hcmp (holds_of_own h) h.lt (by simpa using hm) ord_total
  refine hcon.mono ?_
  rintro e w' ⟨he, n, os, rfl⟩
  have hs : (xs.toArray.toList.mergeSort fun x y => !(ltOf ordW) y x) = sortW xs := by
    unfold sortW
    simp only [ltOf_ord]
  rw [hs]
  obtain ⟨h1, h2⟩ := sortedWorld h (sortW_len xs) n os
  exact ⟨he, h1, h2⟩

end Go.Proofs.YtalnmbfmfeaohaaGreat.flight
