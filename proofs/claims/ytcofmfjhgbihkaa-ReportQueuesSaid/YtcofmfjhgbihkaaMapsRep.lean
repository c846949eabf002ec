/- slices.Repeat of one number, or one storage node, a few times. -/
import Derived.Test.YtcofmfjhgbihkaaRows
import Derived.Test.YtcofmfjhgbihkaaMapsRow
namespace Go.Proofs.Ytcofmfjhgbihkaa.crush
open Go.RowKit
open Go.Proofs.Ytcofmfjhgbihkaa.kit Go.Proofs.Ytcofmfjhgbihkaa.own
set_option linter.unusedVariables false
set_option linter.unusedSimpArgs false

theorem made_flat {α : Type} {enc : α → List Value} {k : Nat} (hk : ∀ x, (enc x).length = k) (hk0 : 0 < k) (cs : Array Value) (x : α) (hc : cs.toList = enc x) (n : Nat) : (madeCells cs (n * k)).toList = (List.replicate n x).flatMap enc := by
  have hs : cs.size = k := by rw [← hk x, ← hc]; simp
  have hfl : ((List.replicate n x).flatMap enc).length = n * k := by rw [flat_len hk, List.length_replicate]
  apply List.ext_getElem?
  intro t
  by_cases ht : t < n * k
  · have h1 : t / k < n := (Nat.div_lt_iff_lt_mul hk0).2 ht
    have h2 : t % k < k := Nat.mod_lt _ hk0
    have hd : t = (t / k) * k + t % k := (Nat.div_add_mod' t k).symm
    have hr := flat_at hk (List.replicate n x) (t / k) (t % k) (by rw [List.length_replicate]; exact h1) h2
    rw [← hd, List.getElem_replicate] at hr
    rw [hr, ← hc]
    have h3 : t % k < cs.size := by omega
    simp [madeCells, ht, hs]
    rw [getElem!_pos cs _ h3, getElem?_pos cs _ h3]
  · have h1 : (madeCells cs (n * k)).toList.length = n * k := by simp [madeCells]
    rw [List.getElem?_eq_none (by omega), List.getElem?_eq_none (by omega)]
theorem sizeI : (Try.prog.info? 3).map (·.size) = some 1 := by kernel_rfl
theorem sizeO : (Try.prog.info? 132).map (·.size) = some 4 := by kernel_rfl
theorem take_rep {α : Type} (j n m : Nat) (y z : α) (h : j + m ≤ n) : (List.replicate j y ++ List.replicate (n - j) z).take j ++ List.replicate m y ++ (List.replicate j y ++ List.replicate (n - j) z).drop (j + (List.replicate m y).length) = List.replicate (j + m) y ++ List.replicate (n - (j + m)) z := by
  rw [List.length_replicate, List.take_left' (by simp), List.drop_append, List.length_replicate, List.drop_eq_nil_of_le (by simp), List.nil_append, List.replicate_append_replicate, List.drop_replicate]
  congr 2
  omega

/-- n of them are made. -/
theorem madeI (w : World) (n : Nat) (hn : n ≤ 65536) : ∃ w1, (Instr.makeSlice 25 (.int .i64 (n : Nat)) (.int .i64 (n : Nat))).run Try.prog w = .ok (.slice (some ⟨w.heap.size, 0, none⟩) n n) w1 ∧
    OwnAt ic 1 3 w1 w.heap.size n (List.replicate n (0 : Int)) ∧ Below w.heap.size w w1 := by
  obtain ⟨i0, hi, hz0, hz1, hz2⟩ := info_parts infoInt
  obtain ⟨w1, h1, h2, h3⟩ := run_makeSlice_full (P := Try.prog) w w.heap.size 25 3 i0 _ 1 Try.underlying25 hi hz0 hz1 .i64 .i64 n (by omega) (by rw [hz2]; omega) (by unfold maxLen; omega) (Nat.le_refl _)
  refine ⟨w1, h1, ?_, ⟨h3.os, h3.tape, h3.output, h3.size, fun k hk => h3.block k hk (by simp)⟩⟩
  have e : (madeCells (Value.int .i64 0).cells (n * 1)).toList = (List.replicate n (0 : Int)).flatMap ic := made_flat ic_len (by decide) _ (0 : Int) rfl n
  rcases h2.2 with ⟨e', _⟩ | ⟨g, cap, cur, e', hB, hg, hc, hm, hs, ht⟩
  · cases e'
  · cases e'
    refine ⟨⟨cur, hg, hs, ?_⟩, by rw [List.length_replicate]; exact Nat.le_refl _, hm⟩
    rw [List.length_replicate, ht, e]

/-- n of them are made. -/
theorem madeO (w : World) (n : Nat) (hn : n ≤ 65536) : ∃ w1, (Instr.makeSlice 79 (.int .i64 (n : Nat)) (.int .i64 (n : Nat))).run Try.prog w = .ok (.slice (some ⟨w.heap.size, 0, none⟩) n n) w1 ∧
    OwnAt oc 4 132 w1 w.heap.size n (List.replicate n (⟨0, false, 0, 0⟩ : OsdV)) ∧ Below w.heap.size w w1 := by
  obtain ⟨i0, hi, hz0, hz1, hz2⟩ := info_parts infoOsd
  obtain ⟨w1, h1, h2, h3⟩ := run_makeSlice_full (P := Try.prog) w w.heap.size 79 132 i0 _ 4 Try.underlying79 hi hz0 hz1 .i64 .i64 n (by omega) (by rw [hz2]; omega) (by unfold maxLen; omega) (Nat.le_refl _)
  refine ⟨w1, h1, ?_, ⟨h3.os, h3.tape, h3.output, h3.size, fun k hk => h3.block k hk (by simp)⟩⟩
  have e : (madeCells (Value.agg #[.int .i64 0, .bool false, .int .i64 0, .int .i64 0]).cells (n * 4)).toList = (List.replicate n (⟨0, false, 0, 0⟩ : OsdV)).flatMap oc := made_flat oc_len (by decide) _ (⟨0, false, 0, 0⟩ : OsdV) rfl n
  rcases h2.2 with ⟨e', _⟩ | ⟨g, cap, cur, e', hB, hg, hc, hm, hs, ht⟩
  · cases e'
  · cases e'
    refine ⟨⟨cur, hg, hs, ?_⟩, by rw [List.length_replicate]; exact Nat.le_refl _, hm⟩
    rw [List.length_replicate, ht, e]

end Go.Proofs.Ytcofmfjhgbihkaa.crush
