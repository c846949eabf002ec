/- The document's marks. -/
import Derived.Test.YtijafehhhknamaaRows
import Derived.Test.YtijafehhhknamaaExtC
import Derived.Test.YtijafehhhknamaaExtD
import Derived.Test.YtijafehhhknamaaExtMath2
import Derived.Laws.OwnMore
namespace Go.Proofs.Ytijafehhhknamaa.ext
open Go.RowKit Go.Sort
open Go.Proofs.Ytijafehhhknamaa.kit Go.Proofs.Ytijafehhhknamaa.own
set_option linter.unusedVariables false

theorem icell_at {w : World} {b o : Nat} {x : Int} (h : w.rangeAt b o (ic x)) : w.cell? ⟨b, o, none⟩ = some (.int .i64 x) := h 0 _ rfl
theorem flat_ic (xs : List Int) : xs.flatMap ic = xs.map (Value.int .i64) := by
  induction xs with
  | nil => rfl
  | cons x r ih => rw [List.flatMap_cons, ih]; rfl
theorem made_ints (w : World) (n : Nat) (hn : n ≤ 65536) : ∃ w1, (Instr.makeSlice 40 (.int .i64 (n : Nat)) (.int .i64 (n : Nat))).run Try.prog w = .ok (.slice (some ⟨w.heap.size, 0, none⟩) n n) w1 ∧
    OwnAt ic 1 3 w1 w.heap.size n (List.replicate n 0) ∧ Below w.heap.size w w1 := by
  obtain ⟨i0, hi, hz0, hz1, hz2⟩ := info_parts infoInt
  obtain ⟨w1, h1, h2, h3⟩ := run_makeSlice_full (P := Try.prog) w w.heap.size 40 3 i0 (.int .i64 0) 1 Try.underlying40 hi hz0 hz1 .i64 .i64 n (by omega) (by rw [hz2]; omega) (by unfold maxLen; omega) (Nat.le_refl _)
  have e : (Value.int .i64 0).cells = #[.int .i64 0] := rfl
  rw [e, toList_madeCells_one, Nat.mul_one] at h2
  refine ⟨w1, h1, ?_, ⟨h3.os, h3.tape, h3.output, h3.size, fun k hk => h3.block k hk (by simp)⟩⟩
  have ho : Own ic 1 3 w1 w.heap.size (.slice (some ⟨w.heap.size, 0, none⟩) n n) (List.replicate n 0) := by
    unfold Own
    rw [List.length_replicate, flat_ic, List.map_replicate]
    exact h2
  rcases ho.at with ⟨h, _⟩ | ⟨g, cap, h, _, hat⟩
  · cases h
  · simp at h
    obtain ⟨h1, h2⟩ := h
    rw [← h1, ← h2] at hat
    exact hat
theorem OwnAt.set1 {e g cap : Nat} {w : World} {xs : List Int} (h : OwnAt ic 1 e w g cap xs) (i : Nat) (hi : i < xs.length) (x : Int) : OwnAt ic 1 e (w.setCell ⟨g, i, none⟩ (.int .i64 x)) g cap (xs.set i x) := by
  have := h.set ic_len (by decide) i hi x
  rw [Nat.mul_one] at this
  exact this
theorem icells_at {e g cap : Nat} {w : World} {xs : List Int} (h : OwnAt ic 1 e w g cap xs) (i : Nat) (hi : i < xs.length) : w.cell? ⟨g, i, none⟩ = some (.int .i64 xs[i]) := by
  have := icell_at (h.row ic_len i hi)
  rwa [Nat.mul_one] at this
theorem OwnAt.thaw {α : Type} {enc : α → List Value} {k e g cap : Nat} {w : World} {xs : List α} (h : OwnAt enc k e w g cap xs) (i : Nat) : w.frozen? ⟨g, i, none⟩ = false := by
  obtain ⟨cur, h1, _⟩ := h.ex
  simp [World.frozen?, h1]
/-- How often each sector is meant, at most 2; those of x from its first one to below i count. -/
def markI (n : Nat) (xs : List Wy) (p i : Nat) : List Int := (List.range n).map fun j : Nat => ((min (cnt xs (j : Int) + if p ≤ j ∧ j < i then 1 else 0) 2 : Nat) : Int)
def marks (n : Nat) (xs : List Wy) : List Int := (List.range n).map fun j : Nat => ((min (cnt xs (j : Int)) 2 : Nat) : Int)
theorem markI_len (n : Nat) (xs : List Wy) (p i : Nat) : (markI n xs p i).length = n := by simp [markI]
theorem marks_len (n : Nat) (xs : List Wy) : (marks n xs).length = n := by simp [marks]
theorem markI_zero (n : Nat) (xs : List Wy) (p : Nat) : markI n xs p p = marks n xs := by
  unfold markI marks
  apply List.map_congr_left
  intro j _
  rw [if_neg (by omega), Nat.add_zero]
theorem markI_full (n : Nat) (xs : List Wy) (p q : Nat) : markI n xs p (p + q) = marks n (xs ++ [((p : Int), (q : Int))]) := by
  unfold markI marks
  apply List.map_congr_left
  intro j _
  rw [cnt_append]
  congr 3
  unfold cnt
  rw [List.countP_singleton]
  by_cases h : p ≤ j ∧ j < p + q
  · rw [if_pos h, if_pos ((inE_iff _ _).2 ⟨by simp only; omega, by simp only; omega⟩)]
  · rw [if_neg h, if_neg]
    intro h2
    have := (inE_iff _ _).1 h2
    simp only at this
    omega
theorem markI_at (n : Nat) (xs : List Wy) (p i j : Nat) (hj : j < (markI n xs p i).length) : (markI n xs p i)[j] = ((min (cnt xs j + if p ≤ j ∧ j < i then 1 else 0) 2 : Nat) : Int) := by simp [markI]
theorem marks_at (n : Nat) (xs : List Wy) (j : Nat) (hj : j < (marks n xs).length) : (marks n xs)[j] = ((min (cnt xs j) 2 : Nat) : Int) := by simp [marks]
theorem markI_set (n : Nat) (xs : List Wy) (p i : Nat) (hp : p ≤ i) (hi : i < (markI n xs p i).length) : (markI n xs p i).set i (min ((markI n xs p i)[i] + 1) 2) = markI n xs p (i + 1) := by
  apply List.ext_getElem
  · rw [List.length_set, markI_len, markI_len]
  · intro j h1 h2
    simp only [List.getElem_set, markI_at]
    by_cases h : i = j
    · subst h
      rw [if_pos rfl, if_neg (by omega), if_pos (by omega)]
      omega
    · rw [if_neg h]
      by_cases h3 : p ≤ j ∧ j < i
      · rw [if_pos h3, if_pos (by omega)]
      · rw [if_neg h3, if_neg (by omega)]
theorem marks_nil (n : Nat) : marks n [] = List.replicate n 0 := by
  unfold marks
  rw [List.eq_replicate_iff]
  constructor
  · simp
  · intro b hb
    obtain ⟨j, _, rfl⟩ := List.mem_map.1 hb
    rfl

/-- What 'marked' tells. -/
def MarkS (w : World) (t : Int) (n : Nat) (xs : List Wy) (e : Ending) (w' : World) : Prop :=
  ((∀ x ∈ xs, lieE t x = true) ∧ ∃ g, e = .returned (.tuple #[.slice (some ⟨g, 0, none⟩) n n, .bool true]) ∧ w.heap.size ≤ g ∧ OwnAt ic 1 3 w' g n (marks n xs) ∧ Below w.heap.size w w') ∨
  ((¬ ∀ x ∈ xs, lieE t x = true) ∧ e = .returned (.tuple #[.slice none 0 0, .bool false]) ∧ Below w.heap.size w w')

set_option maxHeartbeats 8000000 in
set_option maxRecDepth 100000 in
theorem marked_any (n : Nat) (v : Value) (xs : List Wy) (w : World) (h : Sl wc 2 w v xs) (hn : n ≤ 65536) (hok : ∀ x ∈ xs, Wy.Ok x) :
    Calls Try.prog 36 #[.int .i64 n, v] w (MarkS w n n xs) := by
  obtain ⟨hl, a, cap, rfl, -, -⟩ := id h
  have HS := Lib.hid h; have HOk := Lib.hid hok
  obtain ⟨L, hL⟩ : ∃ L, xs.length = L := ⟨_, rfl⟩
  have HL := Lib.hid hL
  rw [hL] at hl HS ⊢
  clear h hL hok
  obtain ⟨w1, hmk, hat, hb1⟩ := made_ints w n hn
  have HB1 := Lib.hid hb1; have HAt := Lib.hid hat
  obtain ⟨g, hg⟩ : ∃ g, w.heap.size = g := ⟨_, rfl⟩
  rw [hg] at hmk HAt
  have HG := Lib.hid hg
  have hn0 : (0 : Int) ≤ n := by omega
  clear hb1 hat hg
  go_enter Try.func36, Try.ntmps36
  go_wp2
  clear hmk
  go_loopw [7] (fun i wr => ∃ (k : Nat), k ≤ L ∧ i = .int .i64 k ∧ (∀ x ∈ xs.take k, lieE n x = true) ∧ OwnAt ic 1 3 wr g n (marks n (xs.take k)) ∧ Below w.heap.size w wr) (fun i _ => L - (intOf i).toNat)
  case atStart => exact ⟨0, by omega, rfl, fun x hx => (by cases hx), by rw [List.take_zero, marks_nil]; exact HAt.out, HB1.out⟩
  case round =>
    obtain ⟨k, hk, rfl, hlk, ho, hb⟩ := hrel
    have HB := Lib.hid hb; have HO := Lib.hid ho; have HLk := Lib.hid hlk
    clear hb ho hlk
    by_cases hlt : k < L
    · have hlt' : (k : Int) < L := by omega
      have hi : k < xs.length := by rw [HL.out]; exact hlt
      have hs2 : Sl wc 2 wr (.slice a L cap) xs := HS.out.keep HB.out
      obtain ⟨_, a', cap', he, -, hcell⟩ := hs2
      have he' : a = a' ∧ cap = cap' := by cases he; exact ⟨rfl, rfl⟩
      obtain ⟨rfl, rfl⟩ := he'
      clear he
      obtain ⟨b, off, rfl, hbl, hcell⟩ := hcell (by omega)
      obtain ⟨c1, c2⟩ := wcells_at (hcell k hi)
      clear hcell
      have hd : xs.take (k + 1) = xs.take k ++ [xs[k]] := List.take_succ_eq_append_getElem hi
      have hmem := List.getElem_mem hi
      have ho := HOk.out _ hmem
      obtain ⟨x, hx⟩ : ∃ x, xs[k] = x := ⟨_, rfl⟩
      rw [hx] at c1 c2 hd ho hmem
      obtain ⟨p, q⟩ := x
      unfold Wy.Ok at ho
      simp only at c1 c2 ho
      have HD := Lib.hid hd; have HMem := Lib.hid hmem
      clear hd hx hmem
      have HBn := Lib.hid (HB.out.alloc (HB.out.size) (.cells #[.int .i64 p, .int .i64 q] 48))
      by_cases h1 : q < 1
      · have HF : Hid (¬ ∀ x ∈ xs, lieE n x = true) := Lib.hid (fun h => by have := (lieE_iff _ _).1 (h _ HMem.out); simp only at this; omega)
        clear ho
        go_wp2
        go_ret2
        exact .inr ⟨HF.out, rfl, HBn.out⟩
      by_cases h2 : (n : Int) < q
      · have HF : Hid (¬ ∀ x ∈ xs, lieE n x = true) := Lib.hid (fun h => by have := (lieE_iff _ _).1 (h _ HMem.out); simp only at this; omega)
        clear ho
        go_wp2
        go_ret2
        exact .inr ⟨HF.out, rfl, HBn.out⟩
      by_cases h3 : p < 0
      · have HF : Hid (¬ ∀ x ∈ xs, lieE n x = true) := Lib.hid (fun h => by have := (lieE_iff _ _).1 (h _ HMem.out); simp only at this; omega)
        clear ho
        go_wp2
        go_ret2
        exact .inr ⟨HF.out, rfl, HBn.out⟩
      have hw : IntKind.i64.wrap ((n : Int) - q) = n - q := by rw [IntKind.wrap_i64]; omega
      by_cases h4 : (n : Int) - q < p
      · have HF : Hid (¬ ∀ x ∈ xs, lieE n x = true) := Lib.hid (fun h => by have := (lieE_iff _ _).1 (h _ HMem.out); simp only at this; omega)
        clear ho
        go_wp2
        go_ret2
        exact .inr ⟨HF.out, rfl, HBn.out⟩
      obtain ⟨pn, hpn⟩ : ∃ pn : Nat, p = pn := ⟨p.toNat, by omega⟩
      obtain ⟨qn, hqn⟩ : ∃ qn : Nat, q = qn := ⟨q.toNat, by omega⟩
      subst hpn hqn
      have hle : pn + qn ≤ n := by omega
      have hw2 : IntKind.i64.wrap ((pn : Int) + qn) = pn + qn := by rw [IntKind.wrap_i64]; omega
      have HLn : Hid (∀ x ∈ xs.take (k + 1), lieE n x = true) := Lib.hid (by
        rw [HD.out]
        intro y hy
        rcases List.mem_append.1 hy with h | h
        · exact HLk.out y h
        · rw [List.mem_singleton.1 h]; exact (lieE_iff _ _).2 ⟨by simp only; omega, by simp only; omega, by simp only; omega⟩)
      have hbA := below_new wr (ebox ((pn : Int), (qn : Int)))
      have hX := alloc_at wr (ebox ((pn : Int), (qn : Int)))
      have HOn := Lib.hid (HO.out.block (hbA.block g HO.out.lt))
      have HGM := Lib.hid HO.out.lt
      simp only [ebox] at hX HOn
      clear ho
      have hwn1 := h1; have hwn2 := h2; have hwn3 := h3; have hwn4 := h4
      go_upto_region 8 with fail
      generalize (wr.alloc (.cells #[.int .i64 pn, .int .i64 qn] 48)) = W at HBn HOn hX ⊢
      obtain ⟨M, hM⟩ : ∃ M, wr.heap.size = M := ⟨_, rfl⟩
      rw [hM] at hX ⊢
      have HM := Lib.hid hM
      have HX := Lib.hid hX
      have b1 : W.cell? ⟨M, 0, none⟩ = some (.int .i64 pn) := by simp [World.cell?, hX]
      clear c1 c2 hbA hM hX
      have HO0 : Hid (OwnAt ic 1 3 W g n (markI n (xs.take k) pn pn)) := Lib.hid (by rw [markI_zero]; exact HOn.out)
      go_wp2_with fail
      clear b1
      go_loopw [9] (fun i wr2 => ∃ (i' : Nat), pn ≤ i' ∧ i' ≤ pn + qn ∧ i = .int .i64 i' ∧ OwnAt ic 1 3 wr2 g n (markI n (xs.take k) pn i') ∧ wr2.heap[M]? = some (ebox ((pn : Int), (qn : Int))) ∧ Below w.heap.size w wr2) (fun i _ => pn + qn - (intOf i).toNat)
      case atStart => exact ⟨pn, by omega, by omega, rfl, HO0.out, HX.out, HBn.out⟩
      case round =>
        obtain ⟨i', hi0, hi1, rfl, ho2, hx2, hb2⟩ := hrel
        have HB2 := Lib.hid hb2; have HO2 := Lib.hid ho2; have HX2 := Lib.hid hx2
        obtain ⟨e1, e2⟩ := ebox_at hx2
        simp only at e1 e2
        clear hb2 hx2 ho2
        by_cases hc : i' < pn + qn
        · have hcI : (i' : Int) < pn + qn := by omega
          have hiL : i' < (markI n (xs.take k) pn i').length := by rw [markI_len]; omega
          have hin : (i' : Int) < n := by omega
          have hin' : i' < n := by omega
          have hi00 : (0 : Int) ≤ i' := by omega
          have d1 := icells_at HO2.out i' hiL
          have d2 := HO2.out.thaw i'
          have hcr : 0 ≤ (markI n (xs.take k) pn i')[i'] ∧ (markI n (xs.take k) pn i')[i'] ≤ 2 := by rw [markI_at]; omega
          have hset := markI_set n (xs.take k) pn i' hi0 hiL
          obtain ⟨c, hcE⟩ : ∃ c, (markI n (xs.take k) pn i')[i'] = c := ⟨_, rfl⟩
          rw [hcE] at d1 hcr hset
          obtain ⟨c', hcm⟩ : ∃ c', min (c + 1) 2 = c' := ⟨_, rfl⟩
          rw [hcm] at hset
          have hwc : IntKind.i64.wrap (c + 1) = c + 1 := by rw [IntKind.wrap_i64]; omega
          have HO3 := Lib.hid (HO2.out.set1 i' hiL c')
          rw [hset] at HO3
          have HX3 := Lib.hid ((heap_setCell_other wr ⟨g, i', none⟩ M (.int .i64 c') (by show M ≠ g; have := HGM.out; have := HM.out; omega)).trans HX2.out)
          have HB3 := Lib.hid (HB2.out.setCell (p := ⟨g, i', none⟩) (Nat.le_of_eq HG.out) (.int .i64 c'))
          clear hcE hcr hset hiL
          go_wp2
          go_roundw
          case rel => exact ⟨i' + 1, by omega, by omega, by go_num, HO3.out, HX3.out, HB3.out⟩
          case measure => simp [intOf]; omega
        · have hcI : ¬ (i' : Int) < pn + qn := by omega
          obtain rfl : i' = pn + qn := by omega
          have HO3 : Hid (OwnAt ic 1 3 wr g n (marks n (xs.take (k + 1)))) := Lib.hid (by rw [HD.out, ← markI_full]; exact HO2.out)
          go_wp2
          go_roundw
          case rel => exact ⟨k + 1, by omega, by go_num, HLn.out, HO3.out, HB2.out⟩
          case measure => simp [intOf]; omega
    · obtain rfl : k = L := by omega
      go_wp2
      go_ret2
      have HE : Hid (xs.take k = xs) := Lib.hid (by rw [← HL.out, List.take_length])
      refine .inl ⟨by have := HLk.out; rwa [HE.out] at this, g, rfl, Nat.le_of_eq HG.out, by have := HO.out; rwa [HE.out] at this, HB.out⟩

end Go.Proofs.Ytijafehhhknamaa.ext
