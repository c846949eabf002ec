/- slices.Compact and slices.Sort of numbers; the numbers of a row, each once. -/
import Derived.Test.YtngmcolbpdinmaaRows
import Derived.Test.YtngmcolbpdinmaaRuleVals
import Derived.Test.YtngmcolbpdinmaaRuleShelf
import Derived.Test.YtngmcolbpdinmaaCrushCount
namespace Go.Proofs.Ytngmcolbpdinmaa.crush
open Go.RowKit Go.Shelf Go.Lib Go.Sort
open Go.Proofs.Ytngmcolbpdinmaa.kit Go.Proofs.Ytngmcolbpdinmaa.own
set_option linter.unusedVariables false

theorem take_set {α : Type} (ys : List α) (i : Nat) (hi : i < ys.length) (x : α) : (ys.set i x).take (i + 1) = ys.take i ++ [x] := by
  rw [List.take_succ_eq_append_getElem (by simpa using hi), List.getElem_set_self, List.take_set_of_le (Nat.le_refl i)]
theorem drop_get {α : Type} {xs ys : List α} {j : Nat} (h : ys.drop j = xs.drop j) (hj : j < ys.length) (hx : j < xs.length) : ys[j] = xs[j] ∧ ys.drop (j + 1) = xs.drop (j + 1) := by
  rw [List.drop_eq_getElem_cons hj, List.drop_eq_getElem_cons hx] at h
  exact List.cons.inj h
theorem grown_refl (w : World) (o : Option Nat) : w.grownBy w o := ⟨rfl, rfl, rfl, Nat.le_refl _, fun _ _ _ => rfl⟩
theorem grown_of_below {w w' : World} (h : Below w.heap.size w w') (o : Option Nat) : w.grownBy w' o := ⟨h.os, h.tape, h.output, h.size, fun k hk _ => h.block k hk⟩
theorem grown_trans {a b c : World} {o : Option Nat} (h : a.grownBy b o) (k : b.grownBy c o) : a.grownBy c o :=
  ⟨k.os.trans h.os, k.tape.trans h.tape, k.output.trans h.output, Nat.le_trans h.size k.size, fun i hi hn => (k.block i (Nat.lt_of_lt_of_le hi h.size) hn).trans (h.block i hi hn)⟩
theorem zeroInt (w : World) : (zeroValue 3).run Try.prog w = .ok (.int .i64 0) w := by kernel_rfl

theorem run_clear_row {P : Program} (w : World) (t e ty : TypeId) (z : Value) (ht : P.underlying t = some (.slice e)) (hv : ∀ w, (zeroValue e).run P w = .ok z w) (g o n c : Nat) (hn : 0 < n) (hth : w.there g o (n * z.cells.size)) (h1 : z.cells.all (·.oneCell') = true) :
    (Builtin.clear_ #[t] ty #[.slice (some ⟨g, o, none⟩) n c]).run P w = .ok (.tuple #[]) (w.setCells g o (Builtin.zeroCells z.cells n).toList) := by
  obtain ⟨m, rfl⟩ : ∃ m, n = m + 1 := ⟨n - 1, by omega⟩
  have hone : ∀ v ∈ (Builtin.zeroCells z.cells (m + 1)).toList, v.oneCell' = true := by
    intro v hv
    simp only [Builtin.zeroCells, Array.toList_map, List.mem_map] at hv
    obtain ⟨i, hi, rfl⟩ := hv
    have hi' : i < (m + 1) * z.cells.size := by simpa using hi
    have hs : 0 < z.cells.size := by rcases Nat.eq_zero_or_pos z.cells.size with h | h; · rw [h] at hi'; simp at hi'
                                     · exact h
    have hlt := Nat.mod_lt i hs
    rw [getElem!_pos z.cells _ hlt]
    exact (Array.all_eq_true_iff_forall_mem.1 h1) _ (Array.getElem_mem hlt)
  have hsz : (Builtin.zeroCells z.cells (m + 1)).toList.length = (m + 1) * z.cells.size := by rw [Array.length_toList, size_zeroCells]
  have hst := run_storeCells_cells (P := P) g o (Builtin.zeroCells z.cells (m + 1)).toList 0 w (fun j hj => by rw [Nat.add_zero]; exact (hth j (by rwa [hsz] at hj)).1) (fun j hj => by rw [Nat.add_zero]; exact (hth j (by rwa [hsz] at hj)).2) hone
  simp only [Nat.add_zero] at hst
  simp [Builtin.clear_, run_underlying ht, hv, hst]

def zin (n : Nat) : List Value := (Builtin.zeroCells #[.int .i64 0] n).toList
theorem run_clear_int (w : World) (ty : TypeId) (g o n c : Nat) (hn : 0 < n) (hth : w.there g o (n * 1)) :
    (Builtin.clear_ #[22] ty #[.slice (some ⟨g, o, none⟩) n c]).run Try.prog w = .ok (.tuple #[]) (w.setCells g o (zin n)) := by
  have hs : (Value.cells (.int .i64 0)).size = 1 := rfl
  exact run_clear_row (P := Try.prog) w 22 3 ty (.int .i64 0) Try.underlying22 zeroInt g o n c hn (by rw [hs]; exact hth) (by simp [Value.oneCell', Value.cells])
theorem OwnAt.thaw1 {α : Type} {enc : α → List Value} {k e g cap : Nat} {w : World} {xs : List α} (h : OwnAt enc k e w g cap xs) (i : Nat) : w.frozen? ⟨g, i, none⟩ = false := by
  obtain ⟨cur, h1, _⟩ := h.ex
  simp [World.frozen?, h1]

set_option maxHeartbeats 8000000 in
set_option maxRecDepth 100000 in
theorem compI_any (g cap : Nat) (xs : List Int) (w : World) (h : OwnAt ic 1 3 w g cap xs) :
    Calls Try.prog 37 #[.slice (some ⟨g, 0, none⟩) xs.length cap] w fun e w' => e = .returned (.slice (some ⟨g, 0, none⟩) (compW xs).length cap) ∧ OwnAt ic 1 3 w' g cap (compW xs) ∧ w.grownBy w' (some g) := by
  have hl := h.le; have hm := h.max
  unfold maxLen at hm
  have HAt := Lib.hid h
  obtain ⟨L, hL⟩ : ∃ L, xs.length = L := ⟨_, rfl⟩
  have HL := Lib.hid hL
  rw [hL] at hl ⊢
  clear h hL
  by_cases h2 : L < 2
  · have h2' : (L : Int) < 2 := by omega
    have HE : Hid (compW xs = xs) := Lib.hid (compW_self xs (fun i hi => by have := HL.out; omega))
    go_enter Try.func37, Try.ntmps37
    go_wp2
    go_ret
    rw [HE.out, HL.out]
    exact ⟨rfl, HAt.out, grown_refl _ _⟩
  · have h2' : ¬ (L : Int) < 2 := by omega
    go_enter Try.func37, Try.ntmps37
    go_wp2
    go_loopw [3] (fun vk wr => ∃ (k : Nat), vk = .int .i64 k ∧ 1 ≤ k ∧ k ≤ L ∧ Below w.heap.size w wr ∧ compW (xs.take k) = xs.take k) (fun vk _ => L - (intOf vk).toNat)
    case atStart => exact ⟨1, rfl, by omega, by omega, Below.refl _ _, compW_self _ (fun i hi => by simp at hi; omega)⟩
    case round =>
      obtain ⟨k, rfl, hk1, hkL, hb, hcm⟩ := hrel
      have HB := Lib.hid hb; have HCm := Lib.hid hcm
      clear hb hcm
      by_cases hlt : k < L
      · obtain ⟨m, rfl⟩ : ∃ m, k = m + 1 := ⟨k - 1, by omega⟩
        have hlt' : ((m + 1 : Nat) : Int) < L := by omega
        have hm0 : (0 : Int) ≤ m := by omega
        have hm1 : (m : Int) < L := by omega
        have hwp : IntKind.i64.wrap (m : Int) = (m : Int) := by rw [IntKind.wrap_i64]; omega
        have hi : m + 1 < xs.length := by rw [HL.out]; exact hlt
        have HCt := Lib.hid (compW_take xs m hi)
        have hat := HAt.out.block (HB.out.block g HAt.out.lt)
        have c1 := icell_at (hat.row ic_len (m + 1) hi)
        have d1 := icell_at (hat.row ic_len m (by omega))
        rw [Nat.mul_one] at c1 d1
        obtain ⟨x, hx⟩ : ∃ x, xs[m + 1] = x := ⟨_, rfl⟩
        obtain ⟨y, hy⟩ : ∃ y, xs[m]'(by omega) = y := ⟨_, rfl⟩
        rw [hx] at c1 HCt
        rw [hy] at d1 HCt
        have HAt2 := Lib.hid hat
        have HXy := Lib.hid (And.intro hx hy)
        clear hat hx hy
        by_cases hxy : x = y
        · subst hxy
          rw [if_pos rfl] at HCt
          have heq : True → (x == x) = true := fun _ => by simp
          go_upto_region 6 with fail
          go_quiet (fail)
          have HBn := Lib.hid (HB.out.drewN' nq)
          clear c1 d1 heq
          go_wp2
          have HAt3 := Lib.hid (HAt2.out.block (show (wr.drewN nq).heap[g]? = wr.heap[g]? from rfl))
          have HGr3 := Lib.hid (grown_of_below HBn.out (some g))
          obtain ⟨K, hK⟩ : ∃ K, m + 1 = K := ⟨_, rfl⟩
          have HSt : Hid (xs.take K = compW (xs.take (K + 1))) := Lib.hid (by rw [← hK]; show _ = compW (List.take (m + 2) xs); rw [HCt.out]; exact HCm.out.symm)
          simp only [hK] at hlt ⊢
          have hMl : K < L := by omega
          obtain ⟨M, hM⟩ : ∃ M, L - K = M := ⟨_, rfl⟩
          obtain ⟨C, hC⟩ : ∃ C, cap - K = C := ⟨_, rfl⟩
          have hKM : K + M = L := by omega
          have hCC : K + C = cap := by omega
          rw [hM, hC]
          have hMC : M ≤ C := by omega
          have hC63 : C ≤ 9223372036854775807 := by omega
          have HNs := Lib.hid (And.intro hKM hCC)
          clear hM hC HB HCt HCm HXy HAt2 hwp hm0 hm1 hi hk1 hkL hlt' HBn hK hMl hKM hCC
          generalize wr.drewN nq = W2 at HAt3 HGr3 ⊢
          go_loopw [3, 5] (fun v3 v5 wr2 => ∃ (kk j : Nat) (ys : List Int), v3 = .int .i64 kk ∧ v5 = .int .i64 ((j + 1 : Nat) : Int) ∧ j + 1 ≤ M ∧ kk ≤ K + j ∧ ys.length = L ∧ ys.take kk = compW (xs.take (K + j + 1)) ∧ ys.drop (K + j) = xs.drop (K + j) ∧ OwnAt ic 1 3 wr2 g cap ys ∧ w.grownBy wr2 (some g)) (fun _ v5 _ => M - (intOf v5).toNat)
          case atStart => exact ⟨K, 0, xs, rfl, rfl, by have := HNs.out; omega, by omega, HL.out, HSt.out, rfl, HAt3.out, HGr3.out⟩
          case round =>
            obtain ⟨kk, j, ys, rfl, rfl, hjM, hkk, hyl, hyt, hyd, hat, hgr⟩ := hrel
            have HAt4 := Lib.hid hat; have HGr4 := Lib.hid hgr; have HYl := Lib.hid hyl; have HYt := Lib.hid hyt; have HYd := Lib.hid hyd
            clear hat hgr hyl hyt hyd
            have hkI : (0 : Int) ≤ kk := by omega
            have hkL : (kk : Int) < L := by have := HNs.out; omega
            by_cases hlt : j + 1 < M
            · have hlt' : ((j + 1 : Nat) : Int) < M := by omega
              have hj0 : (0 : Int) ≤ j := by omega
              have hj1 : (j : Int) < M := by omega
              have hwp : IntKind.i64.wrap (j : Int) = (j : Int) := by rw [IntKind.wrap_i64]; omega
              have hix : K + j + 1 < xs.length := by rw [HL.out]; have := HNs.out; omega
              have hiy : K + j + 1 < ys.length := by rw [HYl.out]; have := HNs.out; omega
              obtain ⟨g1, hd1⟩ := drop_get HYd.out (show K + j < ys.length by omega) (show K + j < xs.length by omega)
              obtain ⟨g2, hd2⟩ := drop_get hd1 hiy hix
              have HCt := Lib.hid (compW_take xs (K + j) hix)
              have r1 := HAt4.out.row ic_len (K + j + 1) hiy
              have r2 := HAt4.out.row ic_len (K + j) (by omega)
              rw [g2, show (K + j + 1) * 1 = K + (j + 1) by omega] at r1
              rw [g1, show (K + j) * 1 = K + j by omega] at r2
              have c1 := icell_at r1
              have d1 := icell_at r2
              obtain ⟨x, hx⟩ : ∃ x, xs[K + j + 1] = x := ⟨_, rfl⟩
              obtain ⟨y, hy⟩ : ∃ y, xs[K + j]'(by omega) = y := ⟨_, rfl⟩
              rw [hx, hy] at HCt
              rw [hx] at c1
              rw [hy] at d1
              have HD1 := Lib.hid hd1
              clear r1 r2 g1 g2 hd1 hd2 hx hy
              by_cases hxy : x = y
              · subst hxy
                rw [if_pos rfl] at HCt
                have hne : True → (x != x) = false := fun _ => by simp
                go_upto_region 11 with fail
                go_quiet (fail)
                have HAt5 := Lib.hid (HAt4.out.block (show (wr.drewN nq).heap[g]? = wr.heap[g]? from rfl))
                have HGr5 := Lib.hid (grown_trans HGr4.out (grown_of_below ((Below.refl wr.heap.size wr).drewN' nq) (some g)))
                clear c1 d1 hne
                go_wp2
                go_roundw
                case rel => exact ⟨kk, j + 1, ys, rfl, by go_num, by omega, by omega, HYl.out, by rw [HYt.out]; exact HCt.out.symm, HD1.out, HAt5.out, HGr5.out⟩
                case measure => simp [intOf]; omega
              · rw [if_neg (fun e => hxy e.symm)] at HCt
                have hne : True → (x != y) = true := fun _ => by simp [hxy]
                have hik : kk < ys.length := by rw [HYl.out]; have := HNs.out; omega
                clear hxy
                go_upto_region 11 with fail
                go_quiet (fail)
                have HAt5 := Lib.hid (HAt4.out.block (show (wr.drewN nq).heap[g]? = wr.heap[g]? from rfl))
                have HGr5 := Lib.hid (grown_trans HGr4.out (grown_of_below ((Below.refl wr.heap.size wr).drewN' nq) (some g)))
                have c1' : (wr.drewN nq).cell? ⟨g, K + (j + 1), none⟩ = some (.int .i64 x) := c1
                clear c1 d1 hne
                generalize wr.drewN nq = W5 at HAt5 HGr5 c1' ⊢
                have k0 := icell_at (HAt5.out.row ic_len kk hik)
                rw [Nat.mul_one] at k0
                have m0 := HAt5.out.thaw1 kk
                have HAt6 : Hid (OwnAt ic 1 3 (W5.setCell ⟨g, kk, none⟩ (.int .i64 x)) g cap (ys.set kk x)) := Lib.hid (by
                  have := HAt5.out.set ic_len (by decide) kk hik x
                  rw [Nat.mul_one] at this
                  exact this)
                have HGr6 : Hid (w.grownBy (W5.setCell ⟨g, kk, none⟩ (.int .i64 x)) (some g)) := Lib.hid (grown_trans HGr5.out (grown_setCells W5 g kk (ic x)))
                go_wp2_with fail
                clear k0 m0 c1'
                go_roundw
                case rel =>
                  refine ⟨kk + 1, j + 1, ys.set kk x, by go_num, by go_num, by omega, by omega, by simpa using HYl.out, ?_, ?_, HAt6.out, HGr6.out⟩
                  · rw [take_set ys kk hik, HYt.out]; exact HCt.out.symm
                  · rw [List.drop_set_of_lt (by omega)]; exact HD1.out
                case measure => simp [intOf]; omega
            · obtain rfl : j + 1 = M := by omega
              have hkc : (kk : Int) ≤ cap := by omega
              have hkn : kk < L := by omega
              have hth : wr.there g kk ((L - kk) * 1) := by
                intro t ht
                have h1 := HAt4.out.there (kk + t) (by omega) 0 (by decide)
                rw [show (kk + t) * 1 + 0 = kk + t by omega] at h1
                exact h1
              have hcl := fun ty => run_clear_int wr ty g kk (L - kk) (cap - kk) (by omega) hth
              have htk := HAt4.out.take ic_len kk (by rw [HYl.out]; omega)
              have hlt2 : (ys.take kk).length = kk := by rw [List.length_take, HYl.out]; omega
              have htl := htk.tail ic_len (zin (L - kk))
              rw [hlt2, Nat.mul_one] at htl
              have hgc := grown_trans HGr4.out (grown_setCells wr g kk (zin (L - kk)))
              obtain ⟨w6, hw6⟩ : ∃ w6, wr.setCells g kk (zin (L - kk)) = w6 := ⟨_, rfl⟩
              rw [hw6] at htl hgc
              simp only [hw6] at hcl
              have HTl := Lib.hid htl; have HGc := Lib.hid hgc; have HLt := Lib.hid hlt2
              have hzr := zeroInt
              clear hth htk hlt2 htl hgc hw6 hzr
              go_wp2
              go_ret
              have hx : ys.take kk = compW xs := by
                have h1 := HYt.out
                have h2 := HNs.out.1
                rw [show K + j + 1 = xs.length by rw [HL.out]; omega, List.take_length] at h1
                exact h1
              have hT := HTl.out
              rw [hx] at hT
              refine ⟨?_, hT, HGc.out⟩
              rw [← hx, HLt.out]
              rfl
        · rw [if_neg (fun e => hxy e.symm)] at HCt
          have heq : True → (x == y) = false := fun _ => by simp [hxy]
          clear hxy
          go_upto_region 6 with fail
          go_quiet (fail)
          have HBn := Lib.hid (HB.out.drewN' nq)
          clear c1 d1 heq
          go_wp2
          go_roundw
          case rel => exact ⟨m + 1 + 1, by go_num, by omega, by omega, HBn.out, by rw [HCt.out, HCm.out, List.take_succ_eq_append_getElem hi, HXy.out.1]⟩
          case measure => simp [intOf]; omega
      · obtain rfl : k = L := by omega
        go_wp2
        go_ret
        have he : compW xs = xs := by have := HCm.out; rw [← HL.out, List.take_length] at this; exact this
        rw [he, HL.out]
        exact ⟨rfl, HAt.out.block (HB.out.block g HAt.out.lt), grown_of_below HB.out _⟩

theorem holdsI_of_own {w : World} {g cap : Nat} {xs : List Int} (h : OwnAt ic 1 3 w g cap xs) : Holds (Value.int .i64) w g 0 xs.toArray := by
  intro t ht
  have ht' : t < xs.length := by simpa using ht
  have hr := icell_at (h.row ic_len t ht')
  rw [Nat.mul_one] at hr
  rw [Nat.zero_add]
  refine ⟨?_, h.thaw1 t⟩
  rw [hr, getElem!_pos xs.toArray t ht]
  simp
theorem sortedWorldI {w : World} {g cap : Nat} {xs ys : List Int} (h : OwnAt ic 1 3 w g cap xs) (hl : ys.length = xs.length) (n : Nat) (os : Array Obj) :
    OwnAt ic 1 3 (grow (putRow (Value.int .i64) (Sort.ahead w n) g 0 ys.toArray) os) g cap ys ∧ w.grownBy (grow (putRow (Value.int .i64) (Sort.ahead w n) g 0 ys.toArray) os) (some g) := by
  have hg := h.lt
  have hg' : g < (Sort.ahead w n).heap.size := hg
  obtain ⟨cur, h1, h2, h3⟩ := h.ex
  have h1' : (Sort.ahead w n).heap[g]? = some (.cells cur 3 (0, 0)) := h1
  have hcap := h.le
  have hheap : (grow (putRow (Value.int .i64) (Sort.ahead w n) g 0 ys.toArray) os).heap[g]? = some (.cells (putCells (Value.int .i64) 0 ys.toArray cur) 3 (0, 0)) := by
    unfold putRow
    rw [heap_grow_old _ _ (by simpa [mapBlock] using hg')]
    simp only [mapBlock, Array.getElem?_modify]
    simp [onCells]
    exact ⟨_, h1', rfl⟩
  have hoth : ∀ k, k < w.heap.size → k ≠ g → (grow (putRow (Value.int .i64) (Sort.ahead w n) g 0 ys.toArray) os).heap[k]? = w.heap[k]? := by
    intro k hk hne
    have hk' : k < (Sort.ahead w n).heap.size := hk
    unfold putRow
    rw [heap_grow_old _ _ (by simpa [mapBlock] using hk')]
    simp only [mapBlock, Array.getElem?_modify]
    rw [if_neg (fun e => hne e.symm)]
    rfl
  refine ⟨⟨⟨_, hheap, by simpa [putCells] using h2, ?_⟩, by rw [hl]; exact hcap, h.max⟩, ?_⟩
  · apply List.ext_getElem?
    intro t
    rw [List.getElem?_take, Nat.mul_one]
    have ef := flat_ic ys
    by_cases ht : t < ys.length
    · have hc : t < cur.size := by omega
      rw [if_pos ht, ef, List.getElem?_map, List.getElem?_eq_getElem ht]
      simp only [putCells, Array.getElem?_toList, Array.getElem?_mapIdx, Array.getElem?_eq_getElem hc, Option.map_some, Nat.zero_le, true_and, Nat.zero_add, Nat.sub_zero]
      rw [if_pos (by simpa using ht), getElem!_pos ys.toArray t (by simpa using ht)]
      simp
    · rw [if_neg ht, ef]
      symm
      rw [List.getElem?_eq_none]
      simpa using ht
  · refine ⟨rfl, rfl, rfl, ?_, fun k hk hn => hoth k hk (fun e => hn (by rw [e]))⟩
    rw [size_grow, size_putRow]
    exact Nat.le_add_right _ _
set_option maxHeartbeats 1000000 in
theorem sortI_any (g cap : Nat) (xs : List Int) (w : World) (h : OwnAt ic 1 3 w g cap xs) (hm : xs.length < 4611686018427387904) :
    Calls Try.prog 48 #[.slice (some ⟨g, 0, none⟩) xs.length cap] w fun e w' =>
      e = .returned (.tuple #[]) ∧ OwnAt ic 1 3 w' g cap (sortI xs) ∧ w.grownBy w' (some g) := by
  have hcon := AnyM.slices_Sort_int Try.sortInts g 0 cap xs w (holdsI_of_own h) h.lt hm
  refine hcon.mono ?_
  rintro e w' ⟨he, n, os, rfl⟩
  obtain ⟨h1, h2⟩ := sortedWorldI h (sortI_len xs) n os
  exact ⟨he, h1, h2⟩

set_option maxHeartbeats 4000000 in
set_option maxRecDepth 100000 in
theorem sorted_any (bl : Nat) (xs : List Int) (v : Value) (w : World) (hc : w.cell? ⟨bl, 0, none⟩ = some v) (hs : Sl ic 1 w v xs) (hlen : xs.length * 8 ≤ 140737488355328) :
    Calls Try.prog 38 #[.func (.func 49) #[] #[.pointer (some ⟨bl, 0, none⟩)]] w (NumI w (sortI xs)) := by
  have HA := Lib.hid (collect_any bl xs v w hc hs hlen)
  have HLn := Lib.hid hlen
  have HLs := Lib.hid (sortI_len xs)
  clear hc hs hlen
  go_enter Try.func38, Try.ntmps38
  go_wp2_with fail
  refine HA.out.mono ?_
  rintro e w2 ⟨v2, rfl, ho, hb⟩
  rcases ho.at with ⟨rfl, rfl⟩ | ⟨g, cap, rfl, hB, hat⟩
  · have hn : Calls Try.prog 48 #[.slice none 0 0] w2 fun e w' => e = .returned (.tuple #[]) ∧ w' = w2 := AnyM.slices_Sort_int_none Try.sortInts none 0 w2
    have HN := Lib.hid hn; have HB := Lib.hid hb
    clear ho hb hn
    go_wp2_with fail
    refine HN.out.mono ?_
    rintro e w3 ⟨rfl, rfl⟩
    go_wp2
    go_ret
    refine ⟨_, rfl, ?_, HB.out⟩
    have : sortI [] = [] := by unfold sortI; simp
    rw [this]
    exact Own.nil _ _ _
  · have hs := sortI_any g cap xs w2 hat (by have := HLn.out; omega)
    have HSt := Lib.hid hs; have HB := Lib.hid hb; have HG := Lib.hid hB
    clear ho hb hs hB hat
    go_wp2_with fail
    refine HSt.out.mono ?_
    rintro e w3 ⟨rfl, hat3, hg3⟩
    have HO3 := Lib.hid (hat3.own ic_len HG.out); have HB3 := Lib.hid (show Below w.heap.size w w3 from HB.out.grown hg3 HB.out.size (fun k e => by cases e; exact HG.out))
    rw [HLs.out] at HO3
    clear hat3 hg3
    go_wp2
    go_ret
    exact ⟨_, rfl, HO3.out, HB3.out⟩

set_option maxHeartbeats 4000000 in
set_option maxRecDepth 100000 in
theorem unlike_any (v : Value) (xs : List Int) (w : World) (hs : Sl ic 1 w v xs) (hlen : xs.length * 8 ≤ 140737488355328) : Calls Try.prog 29 #[v] w (NumI w (onceL xs)) := by
  obtain ⟨a, c, rfl⟩ := hs.slice
  have hb1 := below_new w (.cells #[.slice a xs.length c] 22)
  have HB1 := Lib.hid hb1
  have hc : (w.alloc (.cells #[.slice a xs.length c] 22)).cell? ⟨w.heap.size, 0, none⟩ = some (.slice a xs.length c) := by rw [World.cell?_alloc_at _ _ _ _ rfl]; rfl
  have HSo := Lib.hid (sorted_any w.heap.size xs _ _ hc (hs.keep hb1) hlen)
  have HLn := Lib.hid hlen
  have HLs := Lib.hid (sortI_len xs)
  clear hs hlen hb1 hc
  go_enter Try.func29, Try.ntmps29
  go_wp2_with fail
  refine (values_any _ _ _ _).mono ?_
  rintro e w2 ⟨rfl, rfl⟩
  go_wp2_with fail
  refine HSo.out.mono ?_
  rintro e w3 ⟨v3, rfl, ho, hb⟩
  rcases ho.at with ⟨rfl, h0⟩ | ⟨g, cap, rfl, hB, hat⟩
  · have hcn : Calls Try.prog 37 #[.slice none 0 0] w3 fun e w' => e = .returned (.slice none 0 0) ∧ w' = w3 := by
      clear ho hb
      go_enter Try.func37, Try.ntmps37
      go_wp2
      go_ret
      exact ⟨rfl, rfl⟩
    have HN := Lib.hid hcn; have HB := Lib.hid (HB1.out.trans (hb.mono HB1.out.size)); have H0 := Lib.hid h0
    clear ho hb hcn h0
    go_wp2_with fail
    refine HN.out.mono ?_
    rintro e w4 ⟨rfl, rfl⟩
    go_wp2
    go_ret
    refine ⟨_, rfl, ?_, HB.out⟩
    unfold onceL
    rw [H0.out]
    exact Own.nil _ _ _
  · have hcp := compI_any g cap (sortI xs) w3 hat
    have HC := Lib.hid hcp; have HB := Lib.hid (HB1.out.trans (hb.mono HB1.out.size)); have HG := Lib.hid (show w.heap.size ≤ g from Nat.le_trans HB1.out.size hB)
    clear ho hb hcp hB hat
    go_wp2_with fail
    refine HC.out.mono ?_
    rintro e w4 ⟨rfl, hat4, hg4⟩
    have HO4 := Lib.hid (hat4.own ic_len HG.out); have HB4 := Lib.hid (show Below w.heap.size w w4 from HB.out.grown hg4 HB.out.size (fun k e => by cases e; exact HG.out))
    clear hat4 hg4
    go_wp2
    go_ret
    exact ⟨_, rfl, HO4.out, HB4.out⟩

end Go.Proofs.Ytngmcolbpdinmaa.crush
