/- Numbers packed into extents. -/
import Derived.Test.YtijafehhhknamaaRows
import Derived.Test.YtijafehhhknamaaExtSec
import Derived.Test.YtijafehhhknamaaExtMath3
import Derived.Test.YtijafehhhknamaaExtSort
import Derived.Deep.LoopGhost
namespace Go.Proofs.Ytijafehhhknamaa.ext
open Go.RowKit Go.Shelf Go.Lib Go.Sort
open Go.Proofs.Ytijafehhhknamaa.kit Go.Proofs.Ytijafehhhknamaa.own
set_option linter.unusedVariables false

theorem sort_same (xs : List Int) (h : xs.Pairwise (· < ·)) : (xs.mergeSort fun x y => decide (x ≤ y)) = xs := by
  refine List.mergeSort_of_pairwise ?_
  exact h.imp fun h => by simp; omega

set_option maxHeartbeats 8000000 in
set_option maxRecDepth 100000 in
/-- Where no two neighbours are equal, nothing is done. -/
theorem compI_id (a : Option Addr) (cap : Nat) (xs : List Int) (w : World) (h : Sl ic 1 w (.slice a xs.length cap) xs) (hne : ∀ i (h : i + 1 < xs.length), xs[i] ≠ xs[i + 1]) :
    Calls Try.prog 39 #[.slice a xs.length cap] w fun e w' => e = .returned (.slice a xs.length cap) ∧ Below w.heap.size w w' := by
  have hl := h.1
  have HS := Lib.hid h; have HNe := Lib.hid hne
  obtain ⟨L, hL⟩ : ∃ L, xs.length = L := ⟨_, rfl⟩
  have HL := Lib.hid hL
  rw [hL] at hl HS ⊢
  clear h hne hL
  by_cases h2 : L < 2
  · have h2' : (L : Int) < 2 := by omega
    go_enter Try.func39, Try.ntmps39
    go_wp2
    go_ret
    exact ⟨rfl, Below.refl _ _⟩
  · have h2' : ¬ (L : Int) < 2 := by omega
    go_enter Try.func39, Try.ntmps39
    go_wp2
    go_loopw [3] (fun vk wr => ∃ (k : Nat), vk = .int .i64 k ∧ 1 ≤ k ∧ k ≤ L ∧ Below w.heap.size w wr) (fun vk _ => L - (intOf vk).toNat)
    case atStart => exact ⟨1, rfl, by omega, by omega, Below.refl _ _⟩
    case round =>
      obtain ⟨k, rfl, hk1, hkL, hb⟩ := hrel
      have HB := Lib.hid hb
      clear hb
      by_cases hlt : k < L
      · obtain ⟨m, hm⟩ : ∃ m, k = m + 1 := ⟨k - 1, by omega⟩
        have hlt' : (k : Int) < L := by omega
        have hk0 : (0 : Int) ≤ k := by omega
        have hkm : (k : Int) - 1 = m := by omega
        have hm0 : (0 : Int) ≤ m := by omega
        have hm1 : (m : Int) < L := by omega
        have hwp : IntKind.i64.wrap (m : Int) = (m : Int) := by rw [IntKind.wrap_i64]; omega
        have hi : k < xs.length := by rw [HL.out]; exact hlt
        have hs2 : Sl ic 1 wr (.slice a L cap) xs := HS.out.keep HB.out
        obtain ⟨_, a', cap', he, -, hcell⟩ := hs2
        have he' : a = a' ∧ cap = cap' := by cases he; exact ⟨rfl, rfl⟩
        obtain ⟨rfl, rfl⟩ := he'
        clear he
        obtain ⟨b, off, rfl, hbl, hcell⟩ := hcell (by omega)
        have c1 := icell_at (hcell k hi)
        have d1 := icell_at (hcell m (by omega))
        rw [Nat.mul_one] at c1 d1
        have hne := HNe.out m (by omega)
        obtain ⟨x, hx⟩ : ∃ x, xs[k] = x := ⟨_, rfl⟩
        obtain ⟨y, hy⟩ : ∃ y, xs[m]'(by omega) = y := ⟨_, rfl⟩
        have hxy : ¬ x = y := by
          subst hm
          intro e
          exact hne (by rw [hy, hx, e])
        rw [hx] at c1
        rw [hy] at d1
        have heq : True → (x == y) = false := fun _ => by simp [hxy]
        clear hcell hne hx hy hm hbl hxy
        go_upto_region 6 with fail
        go_quiet (fail)
        have HBn := Lib.hid (HB.out.drewN' nq)
        clear c1 d1 heq
        go_wp2
        go_roundw
        case rel => exact ⟨k + 1, by go_num, by omega, by omega, HBn.out⟩
        case measure => simp [intOf]; omega
      · obtain rfl : k = L := by omega
        go_wp2
        go_ret
        exact ⟨rfl, HB.out⟩

set_option maxHeartbeats 1000000 in
/-- 'slices.Sort' of what rises: it stays. -/
theorem sortI_same (g cap : Nat) (xs : List Int) (w : World) (h : OwnAt ic 1 3 w g cap xs) (hr : xs.Pairwise (· < ·)) (hm : xs.length < 4611686018427387904) :
    Calls Try.prog 38 #[.slice (some ⟨g, 0, none⟩) xs.length cap] w fun e w' => e = .returned (.tuple #[]) ∧ RowKit.Below w.heap.size w w' := by
  have hH : Holds (Value.int .i64) w g 0 xs.toArray := by
    intro j hj
    have hj' : j < xs.length := by simpa using hj
    rw [Nat.zero_add]
    refine ⟨?_, h.thaw j⟩
    rw [icells_at h j hj', getElem!_pos xs.toArray j hj]
    simp
  refine (AnyM.slices_Sort_int Try.sortInts g 0 cap xs w hH h.lt hm).mono ?_
  rintro e w' ⟨he, n, os, rfl⟩
  rw [sort_same xs hr]
  refine ⟨he, ?_⟩
  obtain ⟨cur, h1, h2, h3⟩ := h.ex
  have hput : putCells (Value.int .i64) 0 xs.toArray cur = cur := by
    apply Array.ext
    · simp [putCells]
    · intro i hi1 hi2
      simp only [putCells, Array.getElem_mapIdx]
      split
      · rename_i hc
        have hi : i < xs.length := by simpa using hc.2
        have e1 := icells_at h i hi
        simp [World.cell?, h1] at e1
        rw [Nat.sub_zero, getElem!_pos xs.toArray i (by simpa using hi)]
        rw [Array.getElem?_eq_some_iff] at e1
        obtain ⟨_, e1⟩ := e1
        rw [e1]
        simp
      · rfl
  have hk : ∀ k, k < w.heap.size → (grow (putRow (Value.int .i64) (Sort.ahead w n) g 0 xs.toArray) os).heap[k]? = w.heap[k]? := by
    intro k hk
    unfold putRow
    rw [heap_grow_old _ _ (by simpa [mapBlock, Sort.ahead] using hk)]
    simp only [mapBlock, Sort.ahead, Array.getElem?_modify]
    split
    · rename_i e
      subst e
      rw [h1]
      simp [onCells, hput]
    · rfl
  refine ⟨rfl, rfl, rfl, ?_, hk⟩
  rw [size_grow]
  simp [putRow, mapBlock, Sort.ahead]

set_option maxHeartbeats 8000000 in
set_option maxRecDepth 100000 in
/-- 'Pack' of numbers that rise, all of the greatest row. -/
theorem Pack_any (v : Value) (ns : List Int) (w : World) (h : Sl ic 1 w v ns) (hr : ns.Pairwise (· < ·)) (hb : ∀ n ∈ ns, 0 ≤ n ∧ n < 65536) (hlen : ns.length ≤ 65536) :
    Calls Try.prog 20 #[v] w (RowS w (joinE (onesL ns))) := by
  obtain ⟨hl, a, cap, rfl, -, -⟩ := id h
  have HS := Lib.hid h; have HR := Lib.hid hr; have HBd := Lib.hid hb; have HLn := Lib.hid hlen
  obtain ⟨L, hL⟩ : ∃ L, ns.length = L := ⟨_, rfl⟩
  have HL := Lib.hid hL
  rw [hL] at hl HS hlen ⊢
  clear h hr hb hL
  go_enter Try.func20, Try.ntmps20
  go_wp2
  go_loopw [3, 11] (fun vi i wr => ∃ (k : Nat), k ≤ L ∧ i = .int .i64 k ∧ Own ic 1 3 wr w.heap.size vi (ns.take k) ∧ RowKit.Below w.heap.size w wr) (fun _ i _ => L - (intOf i).toNat)
  case atStart => exact ⟨0, by omega, rfl, Own.nil _ _ _, RowKit.Below.refl _ _⟩
  case round =>
    obtain ⟨k, hk, rfl, ho, hb⟩ := hrel
    have HB := Lib.hid hb; have HO := Lib.hid ho
    obtain ⟨xa, xc, rfl⟩ := ho.slice
    have htl : (ns.take k).length = k := by rw [List.length_take, HL.out]; omega
    have HTl := Lib.hid htl
    rw [htl] at HO ⊢
    clear hb ho htl
    by_cases hlt : k < L
    · have hlt' : (k : Int) < L := by omega
      have hi : k < ns.length := by rw [HL.out]; exact hlt
      have hs2 : Sl ic 1 wr (.slice a L cap) ns := HS.out.keep HB.out
      obtain ⟨_, a', cap', he, -, hcell⟩ := hs2
      have he' : a = a' ∧ cap = cap' := by cases he; exact ⟨rfl, rfl⟩
      obtain ⟨rfl, rfl⟩ := he'
      clear he
      obtain ⟨b, off, rfl, hbl, hcell⟩ := hcell (by omega)
      have c1 := icell_at (hcell k hi)
      rw [Nat.mul_one] at c1
      clear hcell hbl
      have ht : ns.take (k + 1) = ns.take k ++ [ns[k]] := List.take_succ_eq_append_getElem hi
      have hbd := HBd.out _ (List.getElem_mem hi)
      obtain ⟨z, hz⟩ : ∃ z, ns[k] = z := ⟨_, rfl⟩
      rw [hz] at c1 ht hbd
      obtain ⟨hz0, hz1⟩ := hbd
      have HT := Lib.hid ht
      clear ht hz
      have HSn := Lib.hid (sl_new ic_len wr z 3 _ rfl)
      have hbn := below_new wr (.cells (ic z).toArray 3)
      have HO3 := Lib.hid (HO.out.below hbn)
      have HB3 := Lib.hid (HB.out.trans (hbn.mono HB.out.size))
      clear hbn
      go_wp2_with (at_builtin; refine appSl ic_len ic_one (by decide) rfl _ _ 40 rfl w.heap.size 3 _ (by rfl) 8 Try.underlying40 infoInt _ (ns.take k) rfl HO3.out _ [z] rfl HSn.out (by have := HTl.out; have := HLn.out; have := HL.out; unfold maxLen; simp; omega) (by have := HTl.out; have := HLn.out; have := HL.out; simp; omega) HB3.out.size ?_; intro v3 w3 ho3 hk3; obtain ⟨x3, y3, rfl⟩ := ho3.slice; have HO4 := Lib.hid ho3; have HB4 := Lib.hid (HB3.out.trans hk3.toBelow); clear ho3 hk3)
      clear c1
      go_roundw
      case rel => exact ⟨k + 1, by omega, by go_num, by rw [HT.out]; have := HO4.out; rw [List.length_append, List.length_take] at this; exact this, HB4.out⟩
      case measure => simp [intOf]; omega
    · obtain rfl : k = L := by omega
      have HE : Hid (ns.take k = ns) := Lib.hid (by rw [← HL.out, List.take_length])
      rw [HE.out] at HO HTl
      have HSort : Hid (Calls Try.prog 38 #[.slice xa k xc] wr fun e w' => e = .returned (.tuple #[]) ∧ RowKit.Below wr.heap.size wr w') := Lib.hid (by
        have ho := HO.out
        have hk := HTl.out
        rcases ho.at with ⟨h1, h2⟩ | ⟨g, c, h1, h2, hat⟩
        · rw [h1]
          exact (AnyM.slices_Sort_int_none Try.sortInts none 0 wr).mono fun e w' ⟨h1, h2⟩ => ⟨h1, by rw [h2]; exact RowKit.Below.refl _ _⟩
        · rw [h1]
          exact sortI_same g c ns wr hat HR.out (by have := HLn.out; omega))
      have HComp : Hid (∀ W, RowKit.Below wr.heap.size wr W → Calls Try.prog 39 #[.slice xa k xc] W fun e w' => e = .returned (.slice xa k xc) ∧ RowKit.Below W.heap.size W w') := Lib.hid (fun W hW => by
        have hs := (HO.out.below hW).read ic_len
        have hk := HTl.out
        rw [← hk] at hs ⊢
        exact compI_id xa xc ns W hs (fun i hi e => by
          have := List.pairwise_iff_getElem.1 HR.out i (i + 1) (by omega) hi (by omega)
          omega))
      go_wp2_with fail
      refine HSort.out.mono ?_
      rintro e w4 ⟨rfl, hb4⟩
      have HB4 := Lib.hid (HB.out.trans (hb4.mono HB.out.size))
      have HC4 := Lib.hid (HComp.out w4 hb4)
      have HO4 := Lib.hid (HO.out.below hb4)
      clear hb4
      go_wp2_with fail
      refine HC4.out.mono ?_
      rintro e w5 ⟨rfl, hb5⟩
      have HB5 := Lib.hid (HB4.out.trans (hb5.mono HB4.out.size))
      have HS5 := Lib.hid ((HO4.out.below hb5).read ic_len)
      clear hb5
      go_wp2_with fail
      go_loopw [6, 31] (fun vi i wr2 => ∃ (j : Nat), j ≤ k ∧ i = .int .i64 j ∧ Own wc 2 48 wr2 w5.heap.size vi (onesL (ns.take j)) ∧ RowKit.Below w5.heap.size w5 wr2) (fun _ i _ => k - (intOf i).toNat)
      case atStart => exact ⟨0, by omega, rfl, Own.nil _ _ _, RowKit.Below.refl _ _⟩
      case round =>
        obtain ⟨j, hj, rfl, ho6, hb6⟩ := hrel
        have HB6 := Lib.hid hb6; have HO6 := Lib.hid ho6
        obtain ⟨ya, yc, rfl⟩ := ho6.slice
        have htl : (onesL (ns.take j)).length = j := by unfold onesL; rw [List.length_map, List.length_take, HTl.out]; omega
        have HTj := Lib.hid htl
        rw [htl] at HO6 ⊢
        clear hb6 ho6 htl
        by_cases hlt2 : j < k
        · have hlt2' : (j : Int) < k := by omega
          have hi : j < ns.length := by rw [HTl.out]; exact hlt2
          have hs2 := HS5.out.keep HB6.out
          obtain ⟨_, a', cap', he, -, hcell⟩ := hs2
          have he' : xa = a' ∧ xc = cap' := by cases he; exact ⟨rfl, rfl⟩
          obtain ⟨rfl, rfl⟩ := he'
          clear he
          obtain ⟨b, off, rfl, hbl, hcell⟩ := hcell (by omega)
          have c1 := icell_at (hcell j hi)
          rw [Nat.mul_one] at c1
          clear hcell hbl
          have ht : onesL (ns.take (j + 1)) = onesL (ns.take j) ++ [(ns[j], 1)] := by rw [List.take_succ_eq_append_getElem hi]; unfold onesL; rw [List.map_append]; rfl
          obtain ⟨z, hz⟩ : ∃ z, ns[j] = z := ⟨_, rfl⟩
          rw [hz] at c1 ht
          have HT := Lib.hid ht
          clear ht hz
          have HSn := Lib.hid (sl_new wc_len wr ((z, 1) : Wy) 48 _ rfl)
          have hbn := below_new wr (.cells (wc (z, 1)).toArray 48)
          have HO7 := Lib.hid (HO6.out.below hbn)
          have HB7 := Lib.hid (HB6.out.trans (hbn.mono HB6.out.size))
          clear hbn
          go_wp2_with (at_builtin; refine appSl wc_len wc_one (by decide) rfl _ _ 22 rfl w5.heap.size 48 _ (by rfl) 16 Try.underlying22 infoWay _ (onesL (ns.take j)) rfl HO7.out _ [(z, 1)] rfl HSn.out (by have := HTj.out; have := HLn.out; have := HTl.out; unfold maxLen; simp only [List.length_cons, List.length_nil]; omega) (by have := HTj.out; have := HLn.out; have := HTl.out; simp only [List.length_cons, List.length_nil]; omega) HB7.out.size ?_; intro v8 w8 ho8 hk8; obtain ⟨x8, y8, hv8⟩ := ho8.slice; rw [List.length_append, HTj.out] at hv8; subst hv8; have HO8 := Lib.hid ho8; have HB8 := Lib.hid (HB7.out.trans hk8.toBelow); clear ho8 hk8)
          clear c1
          go_roundw
          case rel => exact ⟨j + 1, by omega, by go_num, by rw [HT.out]; exact HO8.out, HB8.out⟩
          case measure => simp [intOf]; omega
        · obtain rfl : j = k := by omega
          have HE2 : Hid (ns.take j = ns) := Lib.hid (by rw [← HTl.out, List.take_length])
          have HFin : Hid (∀ x ∈ onesL ns, Fine x) := Lib.hid (fun x hx => by
            obtain ⟨n, hn, rfl⟩ := List.mem_map.1 hx
            have := HBd.out n hn
            unfold Fine
            simp only; omega)
          have HS9 := Lib.hid (HO6.out.read wc_len)
          rw [HE2.out] at HS9 HTj
          have HBB := Lib.hid (HB5.out.trans (HB6.out.mono HB5.out.size))
          go_wp2_with (go_at_call 35; refine (joined_any _ (onesL ns) _ HS9.out HFin.out (by have := HTj.out; have := HTl.out; have := HLn.out; omega)).mono ?_; rintro e w9 ⟨v9, rfl, ho9, hb9⟩; have HO9 := Lib.hid (ho9.mono HBB.out.size); have HB9 := Lib.hid (HBB.out.trans (hb9.mono HBB.out.size)); clear ho9 hb9)
          go_ret
          exact ⟨_, rfl, HO9.out, HB9.out⟩

end Go.Proofs.Ytijafehhhknamaa.ext
