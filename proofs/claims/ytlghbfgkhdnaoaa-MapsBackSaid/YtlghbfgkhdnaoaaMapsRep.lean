/- slices.Repeat of one number, or one storage node, a few times. -/
import Derived.Test.YtlghbfgkhdnaoaaRows
import Derived.Test.YtlghbfgkhdnaoaaMapsRow
namespace Go.Proofs.Ytlghbfgkhdnaoaa.crush
open Go.RowKit
open Go.Proofs.Ytlghbfgkhdnaoaa.kit Go.Proofs.Ytlghbfgkhdnaoaa.own
set_option linter.unusedVariables false

set_option maxHeartbeats 8000000 in
set_option maxRecDepth 100000 in
theorem mul64_any (n : Nat) (hn : n ≤ 8) (w : World) : Calls Try.prog 63 #[.int .u64 1, .int .u64 n] w fun e w' => e = .returned (.tuple #[.int .u64 0, .int .u64 n]) ∧ w = w' := by
  have h9 : n = 0 ∨ n = 1 ∨ n = 2 ∨ n = 3 ∨ n = 4 ∨ n = 5 ∨ n = 6 ∨ n = 7 ∨ n = 8 := by omega
  clear hn
  rcases h9 with rfl | rfl | rfl | rfl | rfl | rfl | rfl | rfl | rfl
  all_goals
    go_enter Try.func63, Try.ntmps63
    go_wp2
    go_ret2
    exact ⟨rfl, rfl⟩
set_option maxHeartbeats 8000000 in
theorem mul_any (n : Nat) (hn : n ≤ 8) (w : World) : Calls Try.prog 41 #[.int .u64 1, .int .u64 n] w fun e w' => e = .returned (.tuple #[.int .u64 0, .int .u64 n]) ∧ w = w' := by
  go_enter Try.func41, Try.ntmps41
  go_wp2_with (go_at_call 63; refine (mul64_any n hn _).mono ?_; rintro e w5 ⟨rfl, rfl⟩)
  go_ret2
  exact ⟨rfl, rfl⟩
theorem made_flat {α : Type} {enc : α → List Value} {k : Nat} (hk : ∀ x, (enc x).length = k) (hk0 : 0 < k) (cs : Array Value) (x : α) (hc : cs.toList = enc x) (n : Nat) : (madeCells cs (n * k)).toList = (List.replicate n x).flatMap enc := by
  have hs : cs.size = k := by rw [← hk x, ← hc]; simp
  have hfl : ((List.replicate n x).flatMap enc).length = n * k := by rw [flat_len hk, List.length_replicate]
  apply List.ext_getElem?
  intro t
  by_cases ht : t < n * k
  · have h1 : t / k < n := (Nat.div_lt_iff_lt_mul hk0).2 ht
    have h2 : t % k < k := Nat.mod_lt _ hk0
    have hd : t = (t / k) * k + t % k := (Nat.div_add_mod' t k).symm
    have hr := flat_at hk (List.replicate n x) (t / k) (t % k) (by rw [List.length_replicate]; exact h1) h2
    rw [← hd, List.getElem_replicate] at hr
    rw [hr, ← hc]
    have h3 : t % k < cs.size := by omega
    simp [madeCells, ht, hs]
    rw [getElem!_pos cs _ h3, getElem?_pos cs _ h3]
  · have h1 : (madeCells cs (n * k)).toList.length = n * k := by simp [madeCells]
    rw [List.getElem?_eq_none (by omega), List.getElem?_eq_none (by omega)]
theorem sizeI : (Try.prog.info? 3).map (·.size) = some 1 := by kernel_rfl
theorem sizeO : (Try.prog.info? 39).map (·.size) = some 4 := by kernel_rfl
theorem take_rep {α : Type} (j n m : Nat) (y z : α) (h : j + m ≤ n) : (List.replicate j y ++ List.replicate (n - j) z).take j ++ List.replicate m y ++ (List.replicate j y ++ List.replicate (n - j) z).drop (j + (List.replicate m y).length) = List.replicate (j + m) y ++ List.replicate (n - (j + m)) z := by
  rw [List.length_replicate, List.take_left' (by simp), List.drop_append, List.length_replicate, List.drop_eq_nil_of_le (by simp), List.nil_append, List.replicate_append_replicate, List.drop_replicate]
  congr 2
  omega

/-- n of them are made. -/
theorem madeI (w : World) (n : Nat) (hn : n ≤ 65536) : ∃ w1, (Instr.makeSlice 22 (.int .i64 (n : Nat)) (.int .i64 (n : Nat))).run Try.prog w = .ok (.slice (some ⟨w.heap.size, 0, none⟩) n n) w1 ∧
    OwnAt ic 1 3 w1 w.heap.size n (List.replicate n (0 : Int)) ∧ Below w.heap.size w w1 := by
  obtain ⟨i0, hi, hz0, hz1, hz2⟩ := info_parts infoInt
  obtain ⟨w1, h1, h2, h3⟩ := run_makeSlice_full (P := Try.prog) w w.heap.size 22 3 i0 _ 1 Try.underlying22 hi hz0 hz1 .i64 .i64 n (by omega) (by rw [hz2]; omega) (by unfold maxLen; omega) (Nat.le_refl _)
  refine ⟨w1, h1, ?_, ⟨h3.os, h3.tape, h3.output, h3.size, fun k hk => h3.block k hk (by simp)⟩⟩
  have e : (madeCells (Value.int .i64 0).cells (n * 1)).toList = (List.replicate n (0 : Int)).flatMap ic := made_flat ic_len (by decide) _ (0 : Int) rfl n
  rcases h2.2 with ⟨e', _⟩ | ⟨g, cap, cur, e', hB, hg, hc, hm, hs, ht⟩
  · cases e'
  · cases e'
    refine ⟨⟨cur, hg, hs, ?_⟩, by rw [List.length_replicate]; exact Nat.le_refl _, hm⟩
    rw [List.length_replicate, ht, e]

set_option maxHeartbeats 16000000 in
set_option maxRecDepth 100000 in
theorem repeatI (v : Value) (y : Int ) (n : Nat) (hn0 : 1 ≤ n) (hn : n ≤ 8) (w : World) (h : Sl ic 1 w v [y]) :
    Calls Try.prog 35 #[v, .int .i64 n] w fun e w' => ∃ v', e = .returned v' ∧ Own ic 1 3 w' w.heap.size v' (List.replicate n y) ∧ Below w.heap.size w w' := by
  obtain ⟨hl, a, cap, rfl, hnil, hc⟩ := id h
  obtain ⟨b, off, rfl, hlt, hcell⟩ := hc (by simp)
  have HSl := Lib.hid h
  have HSrc : Hid (∀ j v, (ic y)[j]? = some v → w.cell? ((⟨b, off, none⟩ : Addr).add j) = some v) := Lib.hid (fun j v hv => by
    rw [add_plain']
    have := hcell 0 (by simp) j v hv
    simpa using this)
  have HLt := Lib.hid hlt
  obtain ⟨w1, hm1, hm2, hm3⟩ := madeI w n (by omega)
  have HM2 := Lib.hid hm2; have HM3 := Lib.hid hm3
  clear h hl hnil hc hlt hcell hm2 hm3
  have hn2 : ¬ (9223372036854775807 : Nat) < n := by omega
  go_enter Try.func35 , Try.ntmps35 
  go_upto_region 7 with (go_at_call 41; refine (mul_any n hn _).mono ?_; rintro e w5 ⟨rfl, rfl⟩)
  have HW1 : Hid (OwnAt ic 1 3 (w1.setCells w.heap.size 0 (ic y)) w.heap.size n (List.replicate 1 y ++ List.replicate (n - 1) (0 : Int))) := Lib.hid (by
    have h1 := HM2.out.put ic_len 0 [y] (by simp; omega)
    have e : (List.replicate n (0 : Int)).take 0 ++ [y] ++ (List.replicate n (0 : Int)).drop (0 + [y].length) = List.replicate 1 y ++ List.replicate (n - 1) (0 : Int) := by simp [List.drop_replicate]
    rw [e, Nat.zero_mul, List.flatMap_cons, List.flatMap_nil, List.append_nil] at h1
    exact h1)
  have HB1 := Lib.hid (Below.setCells HM3.out (Nat.le_refl _) 0 (ic y))
  have hcp := run_copy_m (P := Try.prog) w1 22 22 3 3 w.heap.size 0 n n ⟨b, off, none⟩ 1 cap 1 1 (ic y) Try.underlying22 sizeI (by show min 1 n = 1; omega) rfl (fun j v hv => by rw [add_plain']; exact (HM3.out.cell (p := ⟨b, off + j, none⟩) HLt.out).trans (by have := HSrc.out j v hv; rwa [add_plain'] at this)) (fun j hj => HM2.out.some _ (by have : (ic y).length = 1 := rfl; rw [this] at hj; omega)) (fun j _ => HM2.out.thaw _) (ic_one y)
  go_upto_region 8 with fail
  clear hcp
  generalize w1.setCells w.heap.size 0 (ic y) = W1 at HW1 HB1 ⊢
  clear hm1 HM2 HM3
  go_loopw [8] (fun vi wr => ∃ j : Nat, 1 ≤ j ∧ j ≤ n ∧ vi = .int .i64 j ∧ OwnAt ic 1 3 wr w.heap.size n (List.replicate j y ++ List.replicate (n - j) (0 : Int)) ∧ Below w.heap.size w wr) (fun i _ => n - (intOf i).toNat)
  case atStart => exact ⟨1, by omega, hn0, rfl, HW1.out, HB1.out⟩
  case round =>
    obtain ⟨j, hj1, hjn, rfl, ho, hb⟩ := hrel
    have HO := Lib.hid ho; have HB := Lib.hid hb
    clear ho hb
    by_cases hlt : j < n
    · have hlt' : (j : Int) < n := by omega
      have hj0 : (0 : Int) ≤ j := by omega
      have hj9 : (j : Int) ≤ n := by omega
      obtain ⟨m, hm⟩ : ∃ m, min j (n - j) = m := ⟨_, rfl⟩
      have hm1 : 1 ≤ m := by omega
      have hmj : m ≤ j := by omega
      have hmn : j + m ≤ n := by omega
      have HOd : Hid (OwnAt ic 1 3 wr.drew w.heap.size n (List.replicate j y ++ List.replicate (n - j) (0 : Int))) := Lib.hid ⟨HO.out.ex, HO.out.le, HO.out.max⟩
      have HW2 : Hid (OwnAt ic 1 3 (wr.drew.setCells w.heap.size (j * 1 ) ((List.replicate m y).flatMap ic )) w.heap.size n (List.replicate (j + m) y ++ List.replicate (n - (j + m)) (0 : Int))) := Lib.hid (by
        have h1 := HOd.out.put ic_len j (List.replicate m y) (by simp; omega)
        rw [take_rep j n m y _ hmn] at h1
        exact h1)
      have HB2 := Lib.hid (Below.setCells (below_drew HB.out) (Nat.le_refl _) (j * 1 ) ((List.replicate m y).flatMap ic ))
      have HSr : Hid (∀ t v, ((List.replicate m y).flatMap ic )[t]? = some v → wr.drew.cell? ((⟨w.heap.size, 0, none⟩ : Addr).add t) = some v) := Lib.hid (fun t v hv => by
        rw [add_plain', Nat.zero_add]
        have hl := (List.getElem?_eq_some_iff.1 hv).1
        rw [flat_len ic_len, List.length_replicate] at hl
        have hmk : m * 1 ≤ j * 1 := Nat.mul_le_mul_right _ hmj
        have hnk : j * 1 ≤ n * 1 := Nat.mul_le_mul_right _ hjn
        refine HOd.out.cells t v (by rw [List.length_append, List.length_replicate, List.length_replicate, show j + (n - j) = n by omega]; omega) ?_
        rw [List.flatMap_append, List.getElem?_append_left (by rw [flat_len ic_len, List.length_replicate]; omega), ← hv]
        have e : List.replicate j y = List.replicate m y ++ List.replicate (j - m) y := by rw [List.replicate_append_replicate]; congr 1; omega
        rw [e, List.flatMap_append, List.getElem?_append_left (by rw [flat_len ic_len, List.length_replicate]; exact hl)])
      have HCe : Hid (∀ t, t < ((List.replicate m y).flatMap ic ).length → (wr.drew.cell? ⟨w.heap.size, j * 1 + t, none⟩).isSome = true) := Lib.hid (fun t ht => HOd.out.some _ (by
        rw [flat_len ic_len, List.length_replicate] at ht
        have hnk : (j + m) * 1 ≤ n * 1 := Nat.mul_le_mul_right _ hmn
        rw [Nat.add_mul] at hnk
        omega))
      have HFr : Hid (∀ t, t < ((List.replicate m y).flatMap ic ).length → wr.drew.frozen? ⟨w.heap.size, j * 1 + t, none⟩ = false) := Lib.hid (fun t _ => HOd.out.thaw _)
      have hcp := run_copy_m (P := Try.prog) wr.drew 22 22 3 3 w.heap.size (j * 1 ) (n - j) (n - j) ⟨w.heap.size, 0, none⟩ j n 1 m ((List.replicate m y).flatMap ic ) Try.underlying22 sizeI (by show min j (n - j) = m; omega) (by rw [flat_len ic_len, List.length_replicate]) HSr.out HCe.out HFr.out (fun u hu => by obtain ⟨q, hq, hu⟩ := List.mem_flatMap.1 hu; exact ic_one _ u hu)
      try rw [Nat.mul_one] at hcp HW2 HB2
      go_upto_region 9 with fail
      go_region
      generalize wr.drew.setCells w.heap.size _ ((List.replicate m y).flatMap ic ) = W2 at HW2 HB2 ⊢
      clear hcp
      go_wp2
      go_roundw
      case rel => exact ⟨j + m, by omega, by omega, by go_num, HW2.out, HB2.out⟩
      case measure => simp [intOf]; omega
    · obtain rfl : j = n := by omega
      have HO2 := Lib.hid (HO.out)
      rw [Nat.sub_self, List.replicate_zero, List.append_nil] at HO2
      go_wp2
      go_ret
      have hown := HO2.out.own (B := w.heap.size) ic_len (Nat.le_refl _)
      rw [List.length_replicate] at hown
      exact ⟨_, rfl, hown, HB.out⟩

/-- n of them are made. -/
theorem madeO (w : World) (n : Nat) (hn : n ≤ 65536) : ∃ w1, (Instr.makeSlice 24 (.int .i64 (n : Nat)) (.int .i64 (n : Nat))).run Try.prog w = .ok (.slice (some ⟨w.heap.size, 0, none⟩) n n) w1 ∧
    OwnAt oc 4 39 w1 w.heap.size n (List.replicate n (⟨0, false, 0, 0⟩ : OsdV)) ∧ Below w.heap.size w w1 := by
  obtain ⟨i0, hi, hz0, hz1, hz2⟩ := info_parts infoOsd
  obtain ⟨w1, h1, h2, h3⟩ := run_makeSlice_full (P := Try.prog) w w.heap.size 24 39 i0 _ 4 Try.underlying24 hi hz0 hz1 .i64 .i64 n (by omega) (by rw [hz2]; omega) (by unfold maxLen; omega) (Nat.le_refl _)
  refine ⟨w1, h1, ?_, ⟨h3.os, h3.tape, h3.output, h3.size, fun k hk => h3.block k hk (by simp)⟩⟩
  have e : (madeCells (Value.agg #[.int .i64 0, .bool false, .int .i64 0, .int .i64 0]).cells (n * 4)).toList = (List.replicate n (⟨0, false, 0, 0⟩ : OsdV)).flatMap oc := made_flat oc_len (by decide) _ (⟨0, false, 0, 0⟩ : OsdV) rfl n
  rcases h2.2 with ⟨e', _⟩ | ⟨g, cap, cur, e', hB, hg, hc, hm, hs, ht⟩
  · cases e'
  · cases e'
    refine ⟨⟨cur, hg, hs, ?_⟩, by rw [List.length_replicate]; exact Nat.le_refl _, hm⟩
    rw [List.length_replicate, ht, e]

set_option maxHeartbeats 16000000 in
set_option maxRecDepth 100000 in
theorem repeatO (v : Value) (y : OsdV ) (n : Nat) (hn0 : 1 ≤ n) (hn : n ≤ 8) (w : World) (h : Sl oc 4 w v [y]) :
    Calls Try.prog 17 #[v, .int .i64 n] w fun e w' => ∃ v', e = .returned v' ∧ Own oc 4 39 w' w.heap.size v' (List.replicate n y) ∧ Below w.heap.size w w' := by
  obtain ⟨hl, a, cap, rfl, hnil, hc⟩ := id h
  obtain ⟨b, off, rfl, hlt, hcell⟩ := hc (by simp)
  have HSl := Lib.hid h
  have HSrc : Hid (∀ j v, (oc y)[j]? = some v → w.cell? ((⟨b, off, none⟩ : Addr).add j) = some v) := Lib.hid (fun j v hv => by
    rw [add_plain']
    have := hcell 0 (by simp) j v hv
    simpa using this)
  have HLt := Lib.hid hlt
  obtain ⟨w1, hm1, hm2, hm3⟩ := madeO w n (by omega)
  have HM2 := Lib.hid hm2; have HM3 := Lib.hid hm3
  clear h hl hnil hc hlt hcell hm2 hm3
  have hn2 : ¬ (9223372036854775807 : Nat) < n := by omega
  go_enter Try.func17 , Try.ntmps17 
  go_upto_region 7 with (go_at_call 41; refine (mul_any n hn _).mono ?_; rintro e w5 ⟨rfl, rfl⟩)
  have HW1 : Hid (OwnAt oc 4 39 (w1.setCells w.heap.size 0 (oc y)) w.heap.size n (List.replicate 1 y ++ List.replicate (n - 1) (⟨0, false, 0, 0⟩ : OsdV))) := Lib.hid (by
    have h1 := HM2.out.put oc_len 0 [y] (by simp; omega)
    have e : (List.replicate n (⟨0, false, 0, 0⟩ : OsdV)).take 0 ++ [y] ++ (List.replicate n (⟨0, false, 0, 0⟩ : OsdV)).drop (0 + [y].length) = List.replicate 1 y ++ List.replicate (n - 1) (⟨0, false, 0, 0⟩ : OsdV) := by simp [List.drop_replicate]
    rw [e, Nat.zero_mul, List.flatMap_cons, List.flatMap_nil, List.append_nil] at h1
    exact h1)
  have HB1 := Lib.hid (Below.setCells HM3.out (Nat.le_refl _) 0 (oc y))
  have hcp := run_copy_m (P := Try.prog) w1 24 24 3 39 w.heap.size 0 n n ⟨b, off, none⟩ 1 cap 4 1 (oc y) Try.underlying24 sizeO (by show min 1 n = 1; omega) rfl (fun j v hv => by rw [add_plain']; exact (HM3.out.cell (p := ⟨b, off + j, none⟩) HLt.out).trans (by have := HSrc.out j v hv; rwa [add_plain'] at this)) (fun j hj => HM2.out.some _ (by have : (oc y).length = 4 := rfl; rw [this] at hj; omega)) (fun j _ => HM2.out.thaw _) (oc_one y)
  go_upto_region 8 with fail
  clear hcp
  generalize w1.setCells w.heap.size 0 (oc y) = W1 at HW1 HB1 ⊢
  clear hm1 HM2 HM3
  go_loopw [8] (fun vi wr => ∃ j : Nat, 1 ≤ j ∧ j ≤ n ∧ vi = .int .i64 j ∧ OwnAt oc 4 39 wr w.heap.size n (List.replicate j y ++ List.replicate (n - j) (⟨0, false, 0, 0⟩ : OsdV)) ∧ Below w.heap.size w wr) (fun i _ => n - (intOf i).toNat)
  case atStart => exact ⟨1, by omega, hn0, rfl, HW1.out, HB1.out⟩
  case round =>
    obtain ⟨j, hj1, hjn, rfl, ho, hb⟩ := hrel
    have HO := Lib.hid ho; have HB := Lib.hid hb
    clear ho hb
    by_cases hlt : j < n
    · have hlt' : (j : Int) < n := by omega
      have hj0 : (0 : Int) ≤ j := by omega
      have hj9 : (j : Int) ≤ n := by omega
      obtain ⟨m, hm⟩ : ∃ m, min j (n - j) = m := ⟨_, rfl⟩
      have hm1 : 1 ≤ m := by omega
      have hmj : m ≤ j := by omega
      have hmn : j + m ≤ n := by omega
      have HOd : Hid (OwnAt oc 4 39 wr.drew w.heap.size n (List.replicate j y ++ List.replicate (n - j) (⟨0, false, 0, 0⟩ : OsdV))) := Lib.hid ⟨HO.out.ex, HO.out.le, HO.out.max⟩
      have HW2 : Hid (OwnAt oc 4 39 (wr.drew.setCells w.heap.size (j * 4 ) ((List.replicate m y).flatMap oc )) w.heap.size n (List.replicate (j + m) y ++ List.replicate (n - (j + m)) (⟨0, false, 0, 0⟩ : OsdV))) := Lib.hid (by
        have h1 := HOd.out.put oc_len j (List.replicate m y) (by simp; omega)
        rw [take_rep j n m y _ hmn] at h1
        exact h1)
      have HB2 := Lib.hid (Below.setCells (below_drew HB.out) (Nat.le_refl _) (j * 4 ) ((List.replicate m y).flatMap oc ))
      have HSr : Hid (∀ t v, ((List.replicate m y).flatMap oc )[t]? = some v → wr.drew.cell? ((⟨w.heap.size, 0, none⟩ : Addr).add t) = some v) := Lib.hid (fun t v hv => by
        rw [add_plain', Nat.zero_add]
        have hl := (List.getElem?_eq_some_iff.1 hv).1
        rw [flat_len oc_len, List.length_replicate] at hl
        have hmk : m * 4 ≤ j * 4 := Nat.mul_le_mul_right _ hmj
        have hnk : j * 4 ≤ n * 4 := Nat.mul_le_mul_right _ hjn
        refine HOd.out.cells t v (by rw [List.length_append, List.length_replicate, List.length_replicate, show j + (n - j) = n by omega]; omega) ?_
        rw [List.flatMap_append, List.getElem?_append_left (by rw [flat_len oc_len, List.length_replicate]; omega), ← hv]
        have e : List.replicate j y = List.replicate m y ++ List.replicate (j - m) y := by rw [List.replicate_append_replicate]; congr 1; omega
        rw [e, List.flatMap_append, List.getElem?_append_left (by rw [flat_len oc_len, List.length_replicate]; exact hl)])
      have HCe : Hid (∀ t, t < ((List.replicate m y).flatMap oc ).length → (wr.drew.cell? ⟨w.heap.size, j * 4 + t, none⟩).isSome = true) := Lib.hid (fun t ht => HOd.out.some _ (by
        rw [flat_len oc_len, List.length_replicate] at ht
        have hnk : (j + m) * 4 ≤ n * 4 := Nat.mul_le_mul_right _ hmn
        rw [Nat.add_mul] at hnk
        omega))
      have HFr : Hid (∀ t, t < ((List.replicate m y).flatMap oc ).length → wr.drew.frozen? ⟨w.heap.size, j * 4 + t, none⟩ = false) := Lib.hid (fun t _ => HOd.out.thaw _)
      have hcp := run_copy_m (P := Try.prog) wr.drew 24 24 3 39 w.heap.size (j * 4 ) (n - j) (n - j) ⟨w.heap.size, 0, none⟩ j n 4 m ((List.replicate m y).flatMap oc ) Try.underlying24 sizeO (by show min j (n - j) = m; omega) (by rw [flat_len oc_len, List.length_replicate]) HSr.out HCe.out HFr.out (fun u hu => by obtain ⟨q, hq, hu⟩ := List.mem_flatMap.1 hu; exact oc_one _ u hu)
      try rw [Nat.mul_one] at hcp HW2 HB2
      go_upto_region 9 with fail
      go_region
      generalize wr.drew.setCells w.heap.size _ ((List.replicate m y).flatMap oc ) = W2 at HW2 HB2 ⊢
      clear hcp
      go_wp2
      go_roundw
      case rel => exact ⟨j + m, by omega, by omega, by go_num, HW2.out, HB2.out⟩
      case measure => simp [intOf]; omega
    · obtain rfl : j = n := by omega
      have HO2 := Lib.hid (HO.out)
      rw [Nat.sub_self, List.replicate_zero, List.append_nil] at HO2
      go_wp2
      go_ret
      have hown := HO2.out.own (B := w.heap.size) oc_len (Nat.le_refl _)
      rw [List.length_replicate] at hown
      exact ⟨_, rfl, hown, HB.out⟩
end Go.Proofs.Ytlghbfgkhdnaoaa.crush
