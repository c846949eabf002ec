/- Extents put in order. -/
import Derived.Test.YtijafehhhknamaaRows
import Derived.Test.YtijafehhhknamaaExtShelf
import Derived.Test.YtijafehhhknamaaExtOrd
import Derived.Test.YtijafehhhknamaaExtRow
import Derived.Test.YtijafehhhknamaaExtConc
import Derived.Shelf.SlSortCmp.QuietGrown
namespace Go.Proofs.Ytijafehhhknamaa.ext
open Go.RowKit Go.Shelf Go.Lib Go.Sort
open Go.Proofs.Ytijafehhhknamaa.kit Go.Proofs.Ytijafehhhknamaa.own
set_option linter.unusedVariables false

/-- The order of extents: by the first sector. -/
def ordA (x y : Wy) : Int := cmp3 x.1 y.1
theorem ltA (x y : Wy) : ltOf ordA x y = decide (x.1 < y.1) := by
  unfold ltOf ordA cmp3
  by_cases h1 : x.1 < y.1
  · simp [h1]
  · by_cases h2 : y.1 < x.1 <;> simp [h1, h2]
theorem ordA_swo : SWO (ltOf ordA) where
  irrefl x := by rw [ltA]; simp
  trans x y z h1 h2 := by rw [ltA] at *; simp at *; omega
  ntrans x y z h1 h2 := by rw [ltA] at *; simp at *; omega
theorem holds_of_own {w : World} {g cap : Nat} {xs : List Wy} (h : OwnAt wc 2 48 w g cap xs) : HoldsK wc 2 w g 0 xs.toArray := by
  obtain ⟨cur, h1, h2, h3⟩ := h.ex
  intro t ht
  have ht' : t < xs.length * 2 := by simpa using ht
  have hq : t / 2 < xs.length := by omega
  rw [get_flatK _ _ _ _ (by simpa using ht')]
  have e1 : (xs.toArray[t / 2]! : Wy) = xs[t / 2] := by rw [getElem!_pos xs.toArray _ (by simpa using hq)]; simp
  rw [e1]
  have hr := h.row wc_len (t / 2) hq
  have hm : t % 2 < (wc xs[t / 2]).length := by rw [wc_len]; omega
  have := hr (t % 2) (wc xs[t / 2])[t % 2] (by simp [hm])
  refine ⟨?_, ?_⟩
  · rw [getElem!_pos (wc xs[t / 2]) _ hm]
    have e2 : 0 + t = t / 2 * 2 + t % 2 := by omega
    rw [e2]
    exact this
  · simp [World.frozen?, h1]

/-- What the sort leaves: the row sorted, in its block; nothing else that lay has turned. -/
theorem sortedWorld {w : World} {g cap : Nat} {xs ys : List Wy} (h : OwnAt wc 2 48 w g cap xs) (hl : ys.length = xs.length) (n : Nat) (os : Array Obj) :
    OwnAt wc 2 48 (sortWorldK wc 2 w g 0 n ys.toArray os) g cap ys ∧ w.grownBy (sortWorldK wc 2 w g 0 n ys.toArray os) (some g) := by
  have hg := h.lt
  obtain ⟨cur, h1, h2, h3⟩ := h.ex
  have hcap := h.le
  have hheap : (sortWorldK wc 2 w g 0 n ys.toArray os).heap[g]? = some (.cells (putCells id 0 (flatK wc 2 ys.toArray) cur) 48 (0, 0)) := by
    unfold sortWorldK putRowK putRow
    rw [heap_grow_old _ _ (by simpa [mapBlock] using hg)]
    simp only [mapBlock, Array.getElem?_modify]
    simp [onCells]
    exact ⟨_, h1, rfl⟩
  have hoth : ∀ k, k < w.heap.size → k ≠ g → (sortWorldK wc 2 w g 0 n ys.toArray os).heap[k]? = w.heap[k]? := by
    intro k hk hne
    unfold sortWorldK putRowK putRow
    rw [heap_grow_old _ _ (by simpa [mapBlock] using hk)]
    simp only [mapBlock, Array.getElem?_modify]
    rw [if_neg (fun e => hne e.symm)]
    rfl
  refine ⟨⟨⟨_, hheap, by simpa [putCells] using h2, ?_⟩, by rw [hl]; exact hcap, h.max⟩, ?_⟩
  · have hlen : xs.length * 2 ≤ cur.size := by rw [h2]; exact Nat.mul_le_mul_right 2 hcap
    apply List.ext_getElem?
    intro t
    rw [List.getElem?_take]
    by_cases ht : t < ys.length * 2
    · have hq : t / 2 < ys.length := by omega
      have hd : t = t / 2 * 2 + t % 2 := by omega
      have e1 : (ys.flatMap wc)[t]? = (wc ys[t / 2])[t % 2]? := by
        conv => lhs; rw [hd]
        exact flat_at wc_len ys (t / 2) (t % 2) hq (Nat.mod_lt _ (by decide))
      have hm : t % 2 < (wc ys[t / 2]).length := by rw [wc_len]; omega
      have hF : (flatK wc 2 ys.toArray)[t]! = (wc ys[t / 2])[t % 2] := by
        rw [get_flatK _ _ _ _ (by simpa using ht)]
        have e1 : (ys.toArray[t / 2]! : Wy) = ys[t / 2] := by rw [getElem!_pos ys.toArray _ (by simpa using hq)]; simp
        rw [e1, getElem!_pos (wc ys[t / 2]) (t % 2) hm]
      have hc : t < cur.size := by omega
      rw [if_pos ht, e1, List.getElem?_eq_getElem hm]
      simp only [putCells, Array.getElem?_toList, Array.getElem?_mapIdx, Array.getElem?_eq_getElem hc, Option.map_some, Nat.zero_le, true_and, Nat.zero_add, size_flatK, Nat.sub_zero]
      rw [if_pos (by simpa using ht)]
      simp only [id, hF]
    · rw [if_neg ht]
      symm
      rw [List.getElem?_eq_none]
      rw [flat_len wc_len]; omega
  · refine ⟨rfl, rfl, rfl, ?_, fun k hk hn => hoth k hk (fun e => hn (by rw [e]))⟩
    unfold sortWorldK putRowK
    rw [size_grow, size_putRow]
    exact Nat.le_add_right _ _


set_option maxHeartbeats 4000000 in
set_option maxRecDepth 100000 in
theorem cmpA_any (x y : Wy) (w : World) :
    Calls Try.prog 44 #[.agg #[.int .i64 x.1, .int .i64 x.2], .agg #[.int .i64 y.1, .int .i64 y.2]] w fun e w' => e = .returned (.int .i64 (ordA x y)) ∧ ∃ q os', w' = grow (w.drewN q) os' := by
  obtain ⟨a, b⟩ := x
  obtain ⟨c, d⟩ := y
  simp only [ordA]
  have hg : ∃ q os', ((w.alloc (.cells #[.int .i64 a, .int .i64 b] 48)).alloc (.cells #[.int .i64 c, .int .i64 d] 48)) = grow (w.drewN q) os' := ⟨0, _, by rw [alloc_eq_grow, alloc_eq_grow, grow_grow]; rfl⟩
  have HG := Lib.hid hg
  clear hg
  go_enter Try.func44, Try.ntmps44
  go_wp2_with (go_at_call 45; refine (cmp_int _ _ _).mono ?_; rintro e w1 ⟨rfl, rfl⟩)
  go_ret
  exact ⟨rfl, HG.out⟩

set_option maxHeartbeats 1000000 in
/-- 'slices.SortFunc(extents, by the first sector)': the row holds them in an order. -/
theorem sortF_any (g cap : Nat) (xs : List Wy) (w : World) (h : OwnAt wc 2 48 w g cap xs) (hm : xs.length < 4611686018427387904) :
    Calls Try.prog 43 #[.slice (some ⟨g, 0, none⟩) xs.length cap, .func (.func 44) #[] #[]] w fun e w' =>
      e = .returned (.tuple #[]) ∧ ∃ ys : List Wy, ys.Perm xs ∧ ys.Pairwise (fun x y => x.1 ≤ y.1) ∧ OwnAt wc 2 48 w' g cap ys ∧ w.grownBy w' (some g) := by
  have eg : ∀ args w, (callFunc 44 args).run Try.prog w = .ok (.enter 44 args) w := enters_of Try.func44 (by kernel_rfl) rfl
  have hcmp : CmpLays Try.prog 44 #[] wc 2 ordA g 0 xs.toArray.size w := fun _ _ _ _ x y => cmpA_any x y _
  have hcon := AnyQ.slices_SortFunc Try.sortWays 2 Try.isAgg48 Try.sizeOf48 wc wc_len wc_one ordA ordA_swo 44 #[] g 0 cap xs.toArray w eg hcmp (holds_of_own h) h.lt (by simpa using hm)
  refine hcon.mono ?_
  rintro e w' ⟨he, d', n, os, hp, hs, rfl⟩
  obtain ⟨hsz, -, hperm⟩ := hp
  have hsz' : d'.size = xs.length := by simpa using hsz
  have hperm' : d'.toList.Perm xs := by
    have e1 : d'.extract 0 xs.toArray.size = d' := by rw [← hsz]; exact Array.extract_size
    have e2 : xs.toArray.extract 0 xs.toArray.size = xs.toArray := Array.extract_size
    rw [e1, e2] at hperm
    simpa using hperm
  have hpw : d'.toList.Pairwise (fun x y => x.1 ≤ y.1) := by
    rw [List.pairwise_iff_getElem]
    intro i j hi hj hij
    have hj' : j < d'.size := by simpa using hj
    have hi' : i < d'.size := by simpa using hi
    have := hs i j (Nat.zero_le _) hij (by simpa [hsz'] using hj')
    rw [ltA, getElem!_pos d' j hj', getElem!_pos d' i hi'] at this
    simpa using this
  obtain ⟨h1, h2⟩ := sortedWorld (ys := d'.toList) h (by simpa using hsz') n os
  exact ⟨he, d'.toList, hperm', hpw, by simpa using h1, by simpa using h2⟩

end Go.Proofs.Ytijafehhhknamaa.ext
