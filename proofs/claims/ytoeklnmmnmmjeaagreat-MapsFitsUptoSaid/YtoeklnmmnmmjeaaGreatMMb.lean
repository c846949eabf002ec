/- Texts laid together: MapsRep, MapsApply, MapsChgs, MapsAll, MapsGrowM, MapsGrowB, MapsOnce, MapsFirst, MapsOk, MapsEq, MapsHas, MapsRFit, MapsRFit2. -/
import Derived.Test.YtoeklnmmnmmjeaaGreatRows
import Derived.Test.YtoeklnmmnmmjeaaGreatMapsRow
import Derived.Test.YtoeklnmmnmmjeaaGreatMapsChg
import Derived.Deep.RegionHeld3
import Derived.Test.YtoeklnmmnmmjeaaGreatMMa
import Derived.Test.YtoeklnmmnmmjeaaGreatMapsRInc
namespace Go.Proofs.YtoeklnmmnmmjeaaGreat.crush
open Go.RowKit
open Go.Proofs.YtoeklnmmnmmjeaaGreat.kit Go.Proofs.YtoeklnmmnmmjeaaGreat.own
set_option linter.unusedVariables false

set_option maxHeartbeats 8000000 in
set_option maxRecDepth 100000 in
theorem mul64_any (n : Nat) (hn : n ≤ 8) (w : World) : Calls Tryz.prog 145 #[.int .u64 1, .int .u64 n] w fun e w' => e = .returned (.tuple #[.int .u64 0, .int .u64 n]) ∧ w = w' := by
  have h9 : n = 0 ∨ n = 1 ∨ n = 2 ∨ n = 3 ∨ n = 4 ∨ n = 5 ∨ n = 6 ∨ n = 7 ∨ n = 8 := by omega
  clear hn
  rcases h9 with rfl | rfl | rfl | rfl | rfl | rfl | rfl | rfl | rfl
  all_goals
    go_enter Tryz.func145, Tryz.ntmps145
    go_wp2
    go_ret2
    exact ⟨rfl, rfl⟩
set_option maxHeartbeats 8000000 in
theorem mul_any (n : Nat) (hn : n ≤ 8) (w : World) : Calls Tryz.prog 106 #[.int .u64 1, .int .u64 n] w fun e w' => e = .returned (.tuple #[.int .u64 0, .int .u64 n]) ∧ w = w' := by
  go_enter Tryz.func106, Tryz.ntmps106
  go_wp2_with (go_at_call 145; refine (mul64_any n hn _).mono ?_; rintro e w5 ⟨rfl, rfl⟩)
  go_ret2
  exact ⟨rfl, rfl⟩
theorem made_flat {α : Type} {enc : α → List Value} {k : Nat} (hk : ∀ x, (enc x).length = k) (hk0 : 0 < k) (cs : Array Value) (x : α) (hc : cs.toList = enc x) (n : Nat) : (madeCells cs (n * k)).toList = (List.replicate n x).flatMap enc := by
  have hs : cs.size = k := by rw [← hk x, ← hc]; simp
  have hfl : ((List.replicate n x).flatMap enc).length = n * k := by rw [flat_len hk, List.length_replicate]
  apply List.ext_getElem?
  intro t
  by_cases ht : t < n * k
  · have h1 : t / k < n := (Nat.div_lt_iff_lt_mul hk0).2 ht
    have h2 : t % k < k := Nat.mod_lt _ hk0
    have hd : t = (t / k) * k + t % k := (Nat.div_add_mod' t k).symm
    have hr := flat_at hk (List.replicate n x) (t / k) (t % k) (by rw [List.length_replicate]; exact h1) h2
    rw [← hd, List.getElem_replicate] at hr
    rw [hr, ← hc]
    have h3 : t % k < cs.size := by omega
    simp [madeCells, ht, hs]
    rw [getElem!_pos cs _ h3, getElem?_pos cs _ h3]
  · have h1 : (madeCells cs (n * k)).toList.length = n * k := by simp [madeCells]
    rw [List.getElem?_eq_none (by omega), List.getElem?_eq_none (by omega)]
theorem sizeI : (Tryz.prog.info? 3).map (·.size) = some 1 := by kernel_rfl
theorem sizeO : (Tryz.prog.info? 74).map (·.size) = some 4 := by kernel_rfl
theorem take_rep {α : Type} (j n m : Nat) (y z : α) (h : j + m ≤ n) : (List.replicate j y ++ List.replicate (n - j) z).take j ++ List.replicate m y ++ (List.replicate j y ++ List.replicate (n - j) z).drop (j + (List.replicate m y).length) = List.replicate (j + m) y ++ List.replicate (n - (j + m)) z := by
  rw [List.length_replicate, List.take_left' (by simp), List.drop_append, List.length_replicate, List.drop_eq_nil_of_le (by simp), List.nil_append, List.replicate_append_replicate, List.drop_replicate]
  congr 2
  omega

/-- n of them are made. -/
theorem madeI (w : World) (n : Nat) (hn : n ≤ 65536) : ∃ w1, (Instr.makeSlice 22 (.int .i64 (n : Nat)) (.int .i64 (n : Nat))).run Tryz.prog w = .ok (.slice (some ⟨w.heap.size, 0, none⟩) n n) w1 ∧
    OwnAt ic 1 3 w1 w.heap.size n (List.replicate n (0 : Int)) ∧ Below w.heap.size w w1 := by
  obtain ⟨i0, hi, hz0, hz1, hz2⟩ := info_parts infoInt
  obtain ⟨w1, h1, h2, h3⟩ := run_makeSlice_full (P := Tryz.prog) w w.heap.size 22 3 i0 _ 1 Tryz.underlying22 hi hz0 hz1 .i64 .i64 n (by omega) (by rw [hz2]; omega) (by unfold maxLen; omega) (Nat.le_refl _)
  refine ⟨w1, h1, ?_, ⟨h3.os, h3.tape, h3.output, h3.size, fun k hk => h3.block k hk (by simp)⟩⟩
  have e : (madeCells (Value.int .i64 0).cells (n * 1)).toList = (List.replicate n (0 : Int)).flatMap ic := made_flat ic_len (by decide) _ (0 : Int) rfl n
  rcases h2.2 with ⟨e', _⟩ | ⟨g, cap, cur, e', hB, hg, hc, hm, hs, ht⟩
  · cases e'
  · cases e'
    refine ⟨⟨cur, hg, hs, ?_⟩, by rw [List.length_replicate]; exact Nat.le_refl _, hm⟩
    rw [List.length_replicate, ht, e]

set_option maxHeartbeats 16000000 in
set_option maxRecDepth 100000 in
theorem repeatI (v : Value) (y : Int ) (n : Nat) (hn0 : 1 ≤ n) (hn : n ≤ 8) (w : World) (h : Sl ic 1 w v [y]) :
    Calls Tryz.prog 54 #[v, .int .i64 n] w fun e w' => ∃ v', e = .returned v' ∧ Own ic 1 3 w' w.heap.size v' (List.replicate n y) ∧ Below w.heap.size w w' := by
  obtain ⟨hl, a, cap, rfl, hnil, hc⟩ := id h
  obtain ⟨b, off, rfl, hlt, hcell⟩ := hc (by simp)
  have HSl := Lib.hid h
  have HSrc : Hid (∀ j v, (ic y)[j]? = some v → w.cell? ((⟨b, off, none⟩ : Addr).add j) = some v) := Lib.hid (fun j v hv => by
    rw [add_plain']
    have := hcell 0 (by simp) j v hv
    simpa using this)
  have HLt := Lib.hid hlt
  obtain ⟨w1, hm1, hm2, hm3⟩ := madeI w n (by omega)
  have HM2 := Lib.hid hm2; have HM3 := Lib.hid hm3
  clear h hl hnil hc hlt hcell hm2 hm3
  have hn2 : ¬ (9223372036854775807 : Nat) < n := by omega
  go_enter Tryz.func54 , Tryz.ntmps54 
  go_upto_region 7 with (go_at_call 106; refine (mul_any n hn _).mono ?_; rintro e w5 ⟨rfl, rfl⟩)
  have HW1 : Hid (OwnAt ic 1 3 (w1.setCells w.heap.size 0 (ic y)) w.heap.size n (List.replicate 1 y ++ List.replicate (n - 1) (0 : Int))) := Lib.hid (by
    have h1 := HM2.out.put ic_len 0 [y] (by simp; omega)
    have e : (List.replicate n (0 : Int)).take 0 ++ [y] ++ (List.replicate n (0 : Int)).drop (0 + [y].length) = List.replicate 1 y ++ List.replicate (n - 1) (0 : Int) := by simp [List.drop_replicate]
    rw [e, Nat.zero_mul, List.flatMap_cons, List.flatMap_nil, List.append_nil] at h1
    exact h1)
  have HB1 := Lib.hid (Below.setCells HM3.out (Nat.le_refl _) 0 (ic y))
  have hcp := run_copy_m (P := Tryz.prog) w1 22 22 3 3 w.heap.size 0 n n ⟨b, off, none⟩ 1 cap 1 1 (ic y) Tryz.underlying22 sizeI (by show min 1 n = 1; omega) rfl (fun j v hv => by rw [add_plain']; exact (HM3.out.cell (p := ⟨b, off + j, none⟩) HLt.out).trans (by have := HSrc.out j v hv; rwa [add_plain'] at this)) (fun j hj => HM2.out.some _ (by have : (ic y).length = 1 := rfl; rw [this] at hj; omega)) (fun j _ => HM2.out.thaw _) (ic_one y)
  go_upto_region 8 with fail
  clear hcp
  generalize w1.setCells w.heap.size 0 (ic y) = W1 at HW1 HB1 ⊢
  clear hm1 HM2 HM3
  go_loopw [8] (fun vi wr => ∃ j : Nat, 1 ≤ j ∧ j ≤ n ∧ vi = .int .i64 j ∧ OwnAt ic 1 3 wr w.heap.size n (List.replicate j y ++ List.replicate (n - j) (0 : Int)) ∧ Below w.heap.size w wr) (fun i _ => n - (intOf i).toNat)
  case atStart => exact ⟨1, by omega, hn0, rfl, HW1.out, HB1.out⟩
  case round =>
    obtain ⟨j, hj1, hjn, rfl, ho, hb⟩ := hrel
    have HO := Lib.hid ho; have HB := Lib.hid hb
    clear ho hb
    by_cases hlt : j < n
    · have hlt' : (j : Int) < n := by omega
      have hj0 : (0 : Int) ≤ j := by omega
      have hj9 : (j : Int) ≤ n := by omega
      obtain ⟨m, hm⟩ : ∃ m, min j (n - j) = m := ⟨_, rfl⟩
      have hm1 : 1 ≤ m := by omega
      have hmj : m ≤ j := by omega
      have hmn : j + m ≤ n := by omega
      have HOd : Hid (OwnAt ic 1 3 wr.drew w.heap.size n (List.replicate j y ++ List.replicate (n - j) (0 : Int))) := Lib.hid ⟨HO.out.ex, HO.out.le, HO.out.max⟩
      have HW2 : Hid (OwnAt ic 1 3 (wr.drew.setCells w.heap.size (j * 1 ) ((List.replicate m y).flatMap ic )) w.heap.size n (List.replicate (j + m) y ++ List.replicate (n - (j + m)) (0 : Int))) := Lib.hid (by
        have h1 := HOd.out.put ic_len j (List.replicate m y) (by simp; omega)
        rw [take_rep j n m y _ hmn] at h1
        exact h1)
      have HB2 := Lib.hid (Below.setCells (below_drew HB.out) (Nat.le_refl _) (j * 1 ) ((List.replicate m y).flatMap ic ))
      have HSr : Hid (∀ t v, ((List.replicate m y).flatMap ic )[t]? = some v → wr.drew.cell? ((⟨w.heap.size, 0, none⟩ : Addr).add t) = some v) := Lib.hid (fun t v hv => by
        rw [add_plain', Nat.zero_add]
        have hl := (List.getElem?_eq_some_iff.1 hv).1
        rw [flat_len ic_len, List.length_replicate] at hl
        have hmk : m * 1 ≤ j * 1 := Nat.mul_le_mul_right _ hmj
        have hnk : j * 1 ≤ n * 1 := Nat.mul_le_mul_right _ hjn
        refine HOd.out.cells t v (by rw [List.length_append, List.length_replicate, List.length_replicate, show j + (n - j) = n by omega]; omega) ?_
        rw [List.flatMap_append, List.getElem?_append_left (by rw [flat_len ic_len, List.length_replicate]; omega), ← hv]
        have e : List.replicate j y = List.replicate m y ++ List.replicate (j - m) y := by rw [List.replicate_append_replicate]; congr 1; omega
        rw [e, List.flatMap_append, List.getElem?_append_left (by rw [flat_len ic_len, List.length_replicate]; exact hl)])
      have HCe : Hid (∀ t, t < ((List.replicate m y).flatMap ic ).length → (wr.drew.cell? ⟨w.heap.size, j * 1 + t, none⟩).isSome = true) := Lib.hid (fun t ht => HOd.out.some _ (by
        rw [flat_len ic_len, List.length_replicate] at ht
        have hnk : (j + m) * 1 ≤ n * 1 := Nat.mul_le_mul_right _ hmn
        rw [Nat.add_mul] at hnk
        omega))
      have HFr : Hid (∀ t, t < ((List.replicate m y).flatMap ic ).length → wr.drew.frozen? ⟨w.heap.size, j * 1 + t, none⟩ = false) := Lib.hid (fun t _ => HOd.out.thaw _)
      have hcp := run_copy_m (P := Tryz.prog) wr.drew 22 22 3 3 w.heap.size (j * 1 ) (n - j) (n - j) ⟨w.heap.size, 0, none⟩ j n 1 m ((List.replicate m y).flatMap ic ) Tryz.underlying22 sizeI (by show min j (n - j) = m; omega) (by rw [flat_len ic_len, List.length_replicate]) HSr.out HCe.out HFr.out (fun u hu => by obtain ⟨q, hq, hu⟩ := List.mem_flatMap.1 hu; exact ic_one _ u hu)
      try rw [Nat.mul_one] at hcp HW2 HB2
      go_upto_region 9 with fail
      go_region
      generalize wr.drew.setCells w.heap.size _ ((List.replicate m y).flatMap ic ) = W2 at HW2 HB2 ⊢
      clear hcp
      go_wp2
      go_roundw
      case rel => exact ⟨j + m, by omega, by omega, by go_num, HW2.out, HB2.out⟩
      case measure => simp [intOf]; omega
    · obtain rfl : j = n := by omega
      have HO2 := Lib.hid (HO.out)
      rw [Nat.sub_self, List.replicate_zero, List.append_nil] at HO2
      go_wp2
      go_ret
      have hown := HO2.out.own (B := w.heap.size) ic_len (Nat.le_refl _)
      rw [List.length_replicate] at hown
      exact ⟨_, rfl, hown, HB.out⟩

/-- n of them are made. -/
theorem madeO (w : World) (n : Nat) (hn : n ≤ 65536) : ∃ w1, (Instr.makeSlice 23 (.int .i64 (n : Nat)) (.int .i64 (n : Nat))).run Tryz.prog w = .ok (.slice (some ⟨w.heap.size, 0, none⟩) n n) w1 ∧
    OwnAt oc 4 74 w1 w.heap.size n (List.replicate n (⟨0, false, 0, 0⟩ : OsdV)) ∧ Below w.heap.size w w1 := by
  obtain ⟨i0, hi, hz0, hz1, hz2⟩ := info_parts infoOsd
  obtain ⟨w1, h1, h2, h3⟩ := run_makeSlice_full (P := Tryz.prog) w w.heap.size 23 74 i0 _ 4 Tryz.underlying23 hi hz0 hz1 .i64 .i64 n (by omega) (by rw [hz2]; omega) (by unfold maxLen; omega) (Nat.le_refl _)
  refine ⟨w1, h1, ?_, ⟨h3.os, h3.tape, h3.output, h3.size, fun k hk => h3.block k hk (by simp)⟩⟩
  have e : (madeCells (Value.agg #[.int .i64 0, .bool false, .int .i64 0, .int .i64 0]).cells (n * 4)).toList = (List.replicate n (⟨0, false, 0, 0⟩ : OsdV)).flatMap oc := made_flat oc_len (by decide) _ (⟨0, false, 0, 0⟩ : OsdV) rfl n
  rcases h2.2 with ⟨e', _⟩ | ⟨g, cap, cur, e', hB, hg, hc, hm, hs, ht⟩
  · cases e'
  · cases e'
    refine ⟨⟨cur, hg, hs, ?_⟩, by rw [List.length_replicate]; exact Nat.le_refl _, hm⟩
    rw [List.length_replicate, ht, e]

set_option maxHeartbeats 16000000 in
set_option maxRecDepth 100000 in
theorem repeatO (v : Value) (y : OsdV ) (n : Nat) (hn0 : 1 ≤ n) (hn : n ≤ 8) (w : World) (h : Sl oc 4 w v [y]) :
    Calls Tryz.prog 85 #[v, .int .i64 n] w fun e w' => ∃ v', e = .returned v' ∧ Own oc 4 74 w' w.heap.size v' (List.replicate n y) ∧ Below w.heap.size w w' := by
  obtain ⟨hl, a, cap, rfl, hnil, hc⟩ := id h
  obtain ⟨b, off, rfl, hlt, hcell⟩ := hc (by simp)
  have HSl := Lib.hid h
  have HSrc : Hid (∀ j v, (oc y)[j]? = some v → w.cell? ((⟨b, off, none⟩ : Addr).add j) = some v) := Lib.hid (fun j v hv => by
    rw [add_plain']
    have := hcell 0 (by simp) j v hv
    simpa using this)
  have HLt := Lib.hid hlt
  obtain ⟨w1, hm1, hm2, hm3⟩ := madeO w n (by omega)
  have HM2 := Lib.hid hm2; have HM3 := Lib.hid hm3
  clear h hl hnil hc hlt hcell hm2 hm3
  have hn2 : ¬ (9223372036854775807 : Nat) < n := by omega
  go_enter Tryz.func85 , Tryz.ntmps85 
  go_upto_region 7 with (go_at_call 106; refine (mul_any n hn _).mono ?_; rintro e w5 ⟨rfl, rfl⟩)
  have HW1 : Hid (OwnAt oc 4 74 (w1.setCells w.heap.size 0 (oc y)) w.heap.size n (List.replicate 1 y ++ List.replicate (n - 1) (⟨0, false, 0, 0⟩ : OsdV))) := Lib.hid (by
    have h1 := HM2.out.put oc_len 0 [y] (by simp; omega)
    have e : (List.replicate n (⟨0, false, 0, 0⟩ : OsdV)).take 0 ++ [y] ++ (List.replicate n (⟨0, false, 0, 0⟩ : OsdV)).drop (0 + [y].length) = List.replicate 1 y ++ List.replicate (n - 1) (⟨0, false, 0, 0⟩ : OsdV) := by simp [List.drop_replicate]
    rw [e, Nat.zero_mul, List.flatMap_cons, List.flatMap_nil, List.append_nil] at h1
    exact h1)
  have HB1 := Lib.hid (Below.setCells HM3.out (Nat.le_refl _) 0 (oc y))
  have hcp := run_copy_m (P := Tryz.prog) w1 23 23 3 74 w.heap.size 0 n n ⟨b, off, none⟩ 1 cap 4 1 (oc y) Tryz.underlying23 sizeO (by show min 1 n = 1; omega) rfl (fun j v hv => by rw [add_plain']; exact (HM3.out.cell (p := ⟨b, off + j, none⟩) HLt.out).trans (by have := HSrc.out j v hv; rwa [add_plain'] at this)) (fun j hj => HM2.out.some _ (by have : (oc y).length = 4 := rfl; rw [this] at hj; omega)) (fun j _ => HM2.out.thaw _) (oc_one y)
  go_upto_region 8 with fail
  clear hcp
  generalize w1.setCells w.heap.size 0 (oc y) = W1 at HW1 HB1 ⊢
  clear hm1 HM2 HM3
  go_loopw [8] (fun vi wr => ∃ j : Nat, 1 ≤ j ∧ j ≤ n ∧ vi = .int .i64 j ∧ OwnAt oc 4 74 wr w.heap.size n (List.replicate j y ++ List.replicate (n - j) (⟨0, false, 0, 0⟩ : OsdV)) ∧ Below w.heap.size w wr) (fun i _ => n - (intOf i).toNat)
  case atStart => exact ⟨1, by omega, hn0, rfl, HW1.out, HB1.out⟩
  case round =>
    obtain ⟨j, hj1, hjn, rfl, ho, hb⟩ := hrel
    have HO := Lib.hid ho; have HB := Lib.hid hb
    clear ho hb
    by_cases hlt : j < n
    · have hlt' : (j : Int) < n := by omega
      have hj0 : (0 : Int) ≤ j := by omega
      have hj9 : (j : Int) ≤ n := by omega
      obtain ⟨m, hm⟩ : ∃ m, min j (n - j) = m := ⟨_, rfl⟩
      have hm1 : 1 ≤ m := by omega
      have hmj : m ≤ j := by omega
      have hmn : j + m ≤ n := by omega
      have HOd : Hid (OwnAt oc 4 74 wr.drew w.heap.size n (List.replicate j y ++ List.replicate (n - j) (⟨0, false, 0, 0⟩ : OsdV))) := Lib.hid ⟨HO.out.ex, HO.out.le, HO.out.max⟩
      have HW2 : Hid (OwnAt oc 4 74 (wr.drew.setCells w.heap.size (j * 4 ) ((List.replicate m y).flatMap oc )) w.heap.size n (List.replicate (j + m) y ++ List.replicate (n - (j + m)) (⟨0, false, 0, 0⟩ : OsdV))) := Lib.hid (by
        have h1 := HOd.out.put oc_len j (List.replicate m y) (by simp; omega)
        rw [take_rep j n m y _ hmn] at h1
        exact h1)
      have HB2 := Lib.hid (Below.setCells (below_drew HB.out) (Nat.le_refl _) (j * 4 ) ((List.replicate m y).flatMap oc ))
      have HSr : Hid (∀ t v, ((List.replicate m y).flatMap oc )[t]? = some v → wr.drew.cell? ((⟨w.heap.size, 0, none⟩ : Addr).add t) = some v) := Lib.hid (fun t v hv => by
        rw [add_plain', Nat.zero_add]
        have hl := (List.getElem?_eq_some_iff.1 hv).1
        rw [flat_len oc_len, List.length_replicate] at hl
        have hmk : m * 4 ≤ j * 4 := Nat.mul_le_mul_right _ hmj
        have hnk : j * 4 ≤ n * 4 := Nat.mul_le_mul_right _ hjn
        refine HOd.out.cells t v (by rw [List.length_append, List.length_replicate, List.length_replicate, show j + (n - j) = n by omega]; omega) ?_
        rw [List.flatMap_append, List.getElem?_append_left (by rw [flat_len oc_len, List.length_replicate]; omega), ← hv]
        have e : List.replicate j y = List.replicate m y ++ List.replicate (j - m) y := by rw [List.replicate_append_replicate]; congr 1; omega
        rw [e, List.flatMap_append, List.getElem?_append_left (by rw [flat_len oc_len, List.length_replicate]; exact hl)])
      have HCe : Hid (∀ t, t < ((List.replicate m y).flatMap oc ).length → (wr.drew.cell? ⟨w.heap.size, j * 4 + t, none⟩).isSome = true) := Lib.hid (fun t ht => HOd.out.some _ (by
        rw [flat_len oc_len, List.length_replicate] at ht
        have hnk : (j + m) * 4 ≤ n * 4 := Nat.mul_le_mul_right _ hmn
        rw [Nat.add_mul] at hnk
        omega))
      have HFr : Hid (∀ t, t < ((List.replicate m y).flatMap oc ).length → wr.drew.frozen? ⟨w.heap.size, j * 4 + t, none⟩ = false) := Lib.hid (fun t _ => HOd.out.thaw _)
      have hcp := run_copy_m (P := Tryz.prog) wr.drew 23 23 3 74 w.heap.size (j * 4 ) (n - j) (n - j) ⟨w.heap.size, 0, none⟩ j n 4 m ((List.replicate m y).flatMap oc ) Tryz.underlying23 sizeO (by show min j (n - j) = m; omega) (by rw [flat_len oc_len, List.length_replicate]) HSr.out HCe.out HFr.out (fun u hu => by obtain ⟨q, hq, hu⟩ := List.mem_flatMap.1 hu; exact oc_one _ u hu)
      try rw [Nat.mul_one] at hcp HW2 HB2
      go_upto_region 9 with fail
      go_region
      generalize wr.drew.setCells w.heap.size _ ((List.replicate m y).flatMap oc ) = W2 at HW2 HB2 ⊢
      clear hcp
      go_wp2
      go_roundw
      case rel => exact ⟨j + m, by omega, by omega, by go_num, HW2.out, HB2.out⟩
      case measure => simp [intOf]; omega
    · obtain rfl : j = n := by omega
      have HO2 := Lib.hid (HO.out)
      rw [Nat.sub_self, List.replicate_zero, List.append_nil] at HO2
      go_wp2
      go_ret
      have hown := HO2.out.own (B := w.heap.size) oc_len (Nat.le_refl _)
      rw [List.length_replicate] at hown
      exact ⟨_, rfl, hown, HB.out⟩
end Go.Proofs.YtoeklnmmnmmjeaaGreat.crush

namespace Go.Proofs.YtoeklnmmnmmjeaaGreat.crush
open Go.RowKit
open Go.Proofs.YtoeklnmmnmmjeaaGreat.kit Go.Proofs.YtoeklnmmnmmjeaaGreat.own
set_option linter.unusedVariables false

def MapV.tick (m : MapV) : MapV := ⟨m.epoch + 1, m.hosts, m.osds, m.pools, m.bans⟩
theorem SheetG.tick {w : World} {B : Nat → Prop} {S g cap : Nat} {m : MapV} (h : SheetG w B S g cap m) : SheetG (w.setCell ⟨S, 0, none⟩ (.int .i64 (m.epoch + 1))) B S g cap m.tick := by
  obtain ⟨h0, hg, vh, vp, vb, h1, h2, h3, h4, h5⟩ := h
  obtain ⟨cur, hc, -⟩ := h3.ex
  have hne : g ≠ S := fun e => by subst e; unfold MBox at h1; rw [h1] at hc; cases hc
  have hS : w.heap[S]? = some (.cells #[.int .i64 m.epoch, vh, .slice (some ⟨g, 0, none⟩) m.osds.length cap, vp, vb] 109 (0, 0)) := h1
  refine ⟨h0, hg, vh, vp, vb, ?_, h2.far hS (by decide) _ _, h3.block (heap_setCell_other _ _ _ _ hne), h4.far hS (by decide) _ _, h5.far hS (by decide) _ _⟩
  have := heap_setCell_same w S 0 _ _ (.int .i64 (m.epoch + 1)) hS
  exact this
/-- What 'change' comes to. -/
def ChS (B : Nat → Prop) (S g cap : Nat) (m : MapV) (w : World) (e : Ending) (w' : World) : Prop := ∃ b, e = .returned (.bool b) ∧ SheetG w' B S g cap m ∧ Far B w w'
def NextS (B : Nat → Prop) (S g cap : Nat) (m : MapV) (w : World) (e : Ending) (w' : World) : Prop := (∃ v, e = .returned v) ∧ SheetG w' B S g cap m ∧ Far B w w'

set_option maxHeartbeats 16000000 in
set_option maxRecDepth 100000 in
theorem next_any (c : IncV) (B : Nat → Prop) (S g cap : Nat) (m m' : MapV) (w : World) (h : SheetG w B S g cap m) (hB : In B w) (hI : I64 m.epoch) (hm : m'.epoch = m.epoch)
    (HCh : ∀ u, Below w.heap.size w u → Calls Tryz.prog 163 #[.pointer (some ⟨S, 0, none⟩), c.val] u (ChS B S g cap m' u)) :
    Calls Tryz.prog 121 #[.pointer (some ⟨S, 0, none⟩), c.val] w (NextS B S g cap (if m.epoch < 4096 then m'.tick else m) w) := by
  obtain ⟨k, o, cl, n, a, b, p, d⟩ := c
  unfold IncV.val at HCh ⊢
  simp only at HCh ⊢
  have hb := below_new w (.cells #[.int .i64 k, .int .i64 o, .int .i64 cl, .int .i64 n, .int .i64 a, .int .i64 b, .int .i64 p, .int .i64 d] 31)
  have HB := Lib.hid hb; have HG := Lib.hid (h.keep hb); have HC := Lib.hid HCh; have HBB := Lib.hid hB; have HM := Lib.hid hm
  have HX := Lib.hid (ibx_new w ⟨k, o, cl, n, ⟨a, b, p, d⟩⟩)
  clear h hb HCh hB hm
  obtain ⟨-, -, vh, vp, vb, hmb, -⟩ := id HG.out
  obtain ⟨e0, -, -, -, -⟩ := hmb.cells
  clear hmb
  go_enter Tryz.func121, Tryz.ntmps121
  by_cases he : m.epoch < 4096
  · rw [if_pos he]
    unfold I64 at hI
    obtain ⟨ep, hep⟩ : ∃ ep, m.epoch = ep := ⟨_, rfl⟩
    have HEp := Lib.hid hep
    rw [hep] at e0 he hI
    have hI1 := hI.1
    clear hI hep
    go_wp2_with (go_at_call 163; refine (HC.out _ HB.out).mono ?_; rintro e w5 ⟨b5, rfl, hg, hb⟩; have HG5 := Lib.hid hg; have HB5 := Lib.hid ((Far.of HB.out HBB.out).trans hb); clear hb e0; obtain ⟨-, -, vh5, vp5, vb5, hmb, -⟩ := id hg; obtain ⟨e0, -, -, -, -⟩ := hmb.cells; have t0 := hmb.thaw 0; rw [HM.out, HEp.out] at e0; have HTk := Lib.hid HG5.out.tick; have HBt := Lib.hid (HB5.out.setCell (p := ⟨S, 0, none⟩) HG5.out.1 (.int .i64 (ep + 1))); rw [HM.out, HEp.out] at HTk; clear hmb hg)
    go_end0
    exact ⟨⟨_, rfl⟩, HTk.out, HBt.out⟩
  · rw [if_neg he]
    go_wp2
    go_end0
    exact ⟨⟨_, rfl⟩, HG.out, Far.of HB.out HBB.out⟩

theorem Own.setCells_far {α : Type} {enc : α → List Value} {k e B : Nat} {W : World} {v : Value} {xs : List α} (h : Own enc k e W B v xs) {N : Nat} (hN : N < B) (o : Nat) (vs : List Value) : Own enc k e (W.setCells N o vs) B v xs := by
  induction vs generalizing W o with
  | nil => exact h
  | cons u r ih => exact ih (h.setOther (fun e => by have := (h.blk _ e).1; omega) o u) (o + 1)
/-- A map is handed back, in rows of the call's own. -/
def AppS (w : World) (m : MapV) (e : Ending) (w' : World) : Prop := ∃ vh vo vp vb, e = .returned (.agg #[.int .i64 m.epoch, vh, vo, vp, vb]) ∧ MapO w' w.heap.size vh vo vp vb m ∧ Below w.heap.size w w'
theorem MapO.read {w : World} {B : Nat} {vh vo vp vb : Value} {m : MapV} (h : MapO w B vh vo vp vb m) : MapR w (.agg #[.int .i64 m.epoch, vh, vo, vp, vb]) m := ⟨_, _, _, _, rfl, h.1.read ic_len, h.2.1.read oc_len, h.2.2.1.read pc_len, h.2.2.2.read bc_len⟩
theorem MapO.below {w w' : World} {B : Nat} {vh vo vp vb : Value} {m : MapV} (h : MapO w B vh vo vp vb m) (hb : Below w.heap.size w w') : MapO w' B vh vo vp vb m := ⟨h.1.below hb, h.2.1.below hb, h.2.2.1.below hb, h.2.2.2.below hb⟩
theorem MapO.mono {w : World} {B B' : Nat} {vh vo vp vb : Value} {m : MapV} (h : MapO w B vh vo vp vb m) (hB : B' ≤ B) : MapO w B' vh vo vp vb m := ⟨h.1.mono hB, h.2.1.mono hB, h.2.2.1.mono hB, h.2.2.2.mono hB⟩
theorem MapO.far {w : World} {B : Nat} {vh vo vp vb : Value} {m : MapV} (h : MapO w B vh vo vp vb m) {N : Nat} (hN : N < B) (o : Nat) (vs : List Value) : MapO (w.setCells N o vs) B vh vo vp vb m := ⟨h.1.setCells_far hN o vs, h.2.1.setCells_far hN o vs, h.2.2.1.setCells_far hN o vs, h.2.2.2.setCells_far hN o vs⟩
theorem map_one (ep : Int) (a1 a2 a3 a4 : Option Addr) (n1 n2 n3 n4 c1 c2 c3 c4 : Nat) : (#[Value.int .i64 ep, .slice a1 n1 c1, .slice a2 n2 c2, .slice a3 n3 c3, .slice a4 n4 c4] : Array Value).all (·.oneCell') = true := by simp [Value.oneCell']

set_option maxHeartbeats 16000000 in
set_option maxRecDepth 100000 in
theorem Apply_any (v : Value) (c : IncV) (m m' : MapV) (w : World) (h : MapR w v m) (hs : m.Small) (hn : m.osds ≠ []) (hI : I64 m.epoch) (hm : m'.epoch = m.epoch)
    (HCh : ∀ (B S g cap : Nat) u, w.heap.size ≤ B → B ≤ u.heap.size → SheetG u (fun k => k < B) S g cap m → Calls Tryz.prog 163 #[.pointer (some ⟨S, 0, none⟩), c.val] u (ChS (fun k => k < B) S g cap m' u)) :
    Calls Tryz.prog 80 #[v, c.val] w (AppS w (if m.epoch < 4096 then m'.tick else m)) := by
  have hr := h
  obtain ⟨vh, vo, vp, vb, rfl, h1, h2, h3, h4⟩ := h
  obtain ⟨ah, ch, rfl⟩ := h1.slice
  obtain ⟨ao, co, rfl⟩ := h2.slice
  obtain ⟨ap, cp, rfl⟩ := h3.slice
  obtain ⟨ab, cb, rfl⟩ := h4.slice
  have HCp := Lib.hid (fun u (hu : Below w.heap.size w u) => copied_any _ m u (hr.keep hu) hs)
  have HNx := Lib.hid (fun B S g cap u (h1 : w.heap.size ≤ B) (h2 : B ≤ u.heap.size) (h3 : SheetG u (fun k => k < B) S g cap m) => next_any c (fun k => k < B) S g cap m m' u h3 (In.le h2) hI hm (fun u' hu => HCh B S g cap u' h1 (Nat.le_trans h2 hu.size) (h3.keep hu)))
  have HOp := Lib.hid (fun u B S (h : SheetAt u B S m) => h.open hn)
  obtain ⟨k, o, cl, n, a, b, p, d⟩ := c
  unfold IncV.val at HNx ⊢
  simp only at HNx ⊢
  clear hr hs hn hI hm HCh h1 h2 h3 h4
  generalize (if m.epoch < 4096 then m'.tick else m) = mr at HNx ⊢
  generalize m.hosts.length = Lh at HCp ⊢
  generalize m.osds.length = Lo at HCp ⊢
  generalize m.pools.length = Lp at HCp ⊢
  generalize m.bans.length = Lb at HCp ⊢
  generalize m.epoch = ep at HCp ⊢
  obtain ⟨W3, hW3⟩ : ∃ W3, (((w.alloc (.cells #[.int .i64 ep, .slice ah Lh ch, .slice ao Lo co, .slice ap Lp cp, .slice ab Lb cb] 27)).alloc (.cells #[.int .i64 k, .int .i64 o, .int .i64 cl, .int .i64 n, .int .i64 a, .int .i64 b, .int .i64 p, .int .i64 d] 31)).alloc (.cells #[.int .i64 0, .slice none 0 0, .slice none 0 0, .slice none 0 0, .slice none 0 0] 27)) = W3 := ⟨_, rfl⟩
  have hB3 : Below w.heap.size w W3 := by rw [← hW3]; exact ((below_new w _).alloc (by simp) _).alloc (by simp; omega) _
  have hX0 : MBox W3 w.heap.size 27 ep (.slice ah Lh ch) (.slice ao Lo co) (.slice ap Lp cp) (.slice ab Lb cb) := by
    unfold MBox; rw [← hW3]; simp only [alloc_heap, Array.getElem?_push, Array.size_push]
    repeat (first | rw [if_pos trivial] | rw [if_pos (by omega)] | rw [if_neg (by omega)])
  have hX1 : IBx W3 (w.heap.size + 1) ⟨k, o, cl, n, ⟨a, b, p, d⟩⟩ := by
    unfold IBx; rw [← hW3]; simp only [alloc_heap, Array.getElem?_push, Array.size_push]
    repeat (first | rw [if_pos trivial] | rw [if_pos (by omega)] | rw [if_neg (by omega)])
  have hX2 : MBox W3 (w.heap.size + 1 + 1) 27 0 (.slice none 0 0) (.slice none 0 0) (.slice none 0 0) (.slice none 0 0) := by
    unfold MBox; rw [← hW3]; simp only [alloc_heap, Array.getElem?_push, Array.size_push]
    repeat (first | rw [if_pos trivial] | rw [if_pos (by omega)] | rw [if_neg (by omega)])
  have HB3 := Lib.hid hB3; have HX0 := Lib.hid hX0; have HX1 := Lib.hid hX1; have HX2 := Lib.hid hX2
  clear hB3 hX0 hX1 hX2
  go_enter Tryz.func80, Tryz.ntmps80
  go_upto_region 1 with fail
  clear hW3
  obtain ⟨l0, l1, l2, l3, l4⟩ := HX0.out.cells
  go_upto_region 2 with (go_at_call 82; refine (HCp.out _ HB3.out).mono ?_; rintro e w4 ⟨S, rfl, hsh, hb⟩; obtain ⟨g, cap, hg⟩ := HOp.out _ _ _ hsh; have HG4 := Lib.hid hg; have HB34 := Lib.hid hb; have HX14 := Lib.hid (HX1.out.keep hb); have HX24 := Lib.hid (HX2.out.keep hb); clear hb hsh hg l0 l1 l2 l3 l4)
  obtain ⟨c0, c1, c2, c3, c4, c5, c6, c7⟩ := HX14.out.cells
  simp only at c0 c1 c2 c3 c4 c5 c6 c7
  have HSz := Lib.hid HB3.out.size; have HLt := Lib.hid HX2.out.lt
  go_upto_region 3 with (go_at_call 121; refine (HNx.out _ S g cap w4 HSz.out HB34.out.size HG4.out).mono ?_; rintro e w5 ⟨⟨v5, rfl⟩, hg, hb⟩; have HG5 := Lib.hid hg; have HX25 := Lib.hid (show MBox w5 (w.heap.size + 1 + 1) 27 0 (.slice none 0 0) (.slice none 0 0) (.slice none 0 0) (.slice none 0 0) from (hb.to.block _ HLt.out).trans HX24.out); have HB5 := Lib.hid (HB3.out.trans ((HB34.out.trans hb.to).mono HSz.out)); clear hb hg c0 c1 c2 c3 c4 c5 c6 c7)
  obtain ⟨hS, hgB, vh5, vp5, vb5, hmb, r1, r2, r3, r4⟩ := id HG5.out
  obtain ⟨xh, yh, rfl⟩ := r1.slice
  obtain ⟨xp, yp, rfl⟩ := r3.slice
  obtain ⟨xb, yb, rfl⟩ := r4.slice
  obtain ⟨l0, l1, l2, l3, l4⟩ := hmb.cells
  have HR1 := Lib.hid r1.to; have HR2 := Lib.hid (r2.own oc_len (Nat.not_lt.1 hgB)); have HR3 := Lib.hid r3.to; have HR4 := Lib.hid r4.to
  have HT := Lib.hid HX25.out.there
  have HP := Lib.hid (HX25.out.put mr.epoch (.slice xh mr.hosts.length yh) (.slice (some ⟨g, 0, none⟩) mr.osds.length cap) (.slice xp mr.pools.length yp) (.slice xb mr.bans.length yb))
  have HF1 := Lib.hid (HR1.out.setCells_far (N := w.heap.size + 1 + 1) HLt.out 0 [.int .i64 mr.epoch, .slice xh mr.hosts.length yh, .slice (some ⟨g, 0, none⟩) mr.osds.length cap, .slice xp mr.pools.length yp, .slice xb mr.bans.length yb])
  have HF2 := Lib.hid (HR2.out.setCells_far (N := w.heap.size + 1 + 1) HLt.out 0 [.int .i64 mr.epoch, .slice xh mr.hosts.length yh, .slice (some ⟨g, 0, none⟩) mr.osds.length cap, .slice xp mr.pools.length yp, .slice xb mr.bans.length yb])
  have HF3 := Lib.hid (HR3.out.setCells_far (N := w.heap.size + 1 + 1) HLt.out 0 [.int .i64 mr.epoch, .slice xh mr.hosts.length yh, .slice (some ⟨g, 0, none⟩) mr.osds.length cap, .slice xp mr.pools.length yp, .slice xb mr.bans.length yb])
  have HF4 := Lib.hid (HR4.out.setCells_far (N := w.heap.size + 1 + 1) HLt.out 0 [.int .i64 mr.epoch, .slice xh mr.hosts.length yh, .slice (some ⟨g, 0, none⟩) mr.osds.length cap, .slice xp mr.pools.length yp, .slice xb mr.bans.length yb])
  have HBf := Lib.hid (Below.setCells HB5.out (b := w.heap.size + 1 + 1) (by omega) 0 [.int .i64 mr.epoch, .slice xh mr.hosts.length yh, .slice (some ⟨g, 0, none⟩) mr.osds.length cap, .slice xp mr.pools.length yp, .slice xb mr.bans.length yb])
  clear hmb r1 r2 r3 r4 HG5 HG4 HX14 HX24 HB34 HNx HCp HOp
  go_wp2_with (refine wpList_store_mid rfl 27 _ _ rfl (w.heap.size + 1 + 1) 0 #[.int .i64 mr.epoch, .slice xh mr.hosts.length yh, .slice (some ⟨g, 0, none⟩) mr.osds.length cap, .slice xp mr.pools.length yp, .slice xb mr.bans.length yb] rfl rfl HT.out sizeMap (map_one _ _ _ _ _ _ _ _ _ _ _ _ _) ?_)
  refine bodyPost_ret (ret_cell rfl rfl HP.out.range Tryz.underlying27 rfl sizeMap) rfl ?_
  exact ⟨_, _, _, _, rfl, ⟨HF1.out.mono HSz.out, HF2.out.mono HSz.out, HF3.out.mono HSz.out, HF4.out.mono HSz.out⟩, HBf.out⟩
end Go.Proofs.YtoeklnmmnmmjeaaGreat.crush

namespace Go.Proofs.YtoeklnmmnmmjeaaGreat.crush
open Go.RowKit
open Go.Proofs.YtoeklnmmnmmjeaaGreat.kit Go.Proofs.YtoeklnmmnmmjeaaGreat.own
set_option linter.unusedVariables false

end Go.Proofs.YtoeklnmmnmmjeaaGreat.crush

namespace Go.Proofs.YtoeklnmmnmmjeaaGreat.crush
open Go.RowKit
open Go.Proofs.YtoeklnmmnmmjeaaGreat.kit Go.Proofs.YtoeklnmmnmmjeaaGreat.own
set_option linter.unusedVariables false

theorem ltBan_trans {a b c : BanV} (h1 : ltBan a b = true) (h2 : ltBan b c = true) : ltBan a c = true := by
  simp only [ltBan, Bool.or_eq_true, Bool.and_eq_true, decide_eq_true_eq] at h1 h2 ⊢
  omega
theorem bans_lt {xs : List BanV} : ∀ n, n ≤ xs.length → okBansF xs n = true → ∀ j k (hk : k < xs.length), k < n → ∀ (hj : j < k), ltBan (xs[j]'(by omega)) xs[k] = true := by
  intro n
  induction n with
  | zero => intro _ _ j k _ h; omega
  | succ n ih =>
    intro hn h j k hk hkn hj
    have hs := okBansF_step (l := xs) (k := n) (by omega)
    rw [h] at hs
    have hs := hs.symm
    simp only [Bool.and_eq_true, Bool.or_eq_true, decide_eq_true_eq] at hs
    obtain ⟨h1, -, h2⟩ := hs
    rcases Nat.lt_or_ge k n with h3 | h3
    · exact ih (by omega) h1 j k hk h3 hj
    · obtain rfl : k = n := by omega
      have h4 : ltBan (xs[k - 1]'(by omega)) xs[k] = true := by
        rcases h2 with h2 | h2
        · omega
        · rw [List.getD_eq_getElem?_getD, List.getElem?_eq_getElem (by omega), Option.getD_some] at h2
          rw [← ordB_lt]; exact decide_eq_true h2
      rcases Nat.lt_or_ge j (k - 1) with h5 | h5
      · exact ltBan_trans (ih (by omega) h1 j (k - 1) (by omega) (by omega) h5) h4
      · obtain rfl : j = k - 1 := by omega
        exact h4
theorem while_iff {α : Type} {p : α → Bool} : ∀ (xs : List α), (∀ j k (hk : k < xs.length) (hj : j < k), p xs[k] = true → p (xs[j]'(by omega)) = true) → ∀ k (hk : k < xs.length), p xs[k] = true ↔ k < (xs.takeWhile p).length := by
  intro xs
  induction xs with
  | nil => intro _ k hk; exact absurd hk (Nat.not_lt_zero _)
  | cons x xs ih =>
    intro hm k hk
    cases hx : p x with
    | true =>
      rw [List.takeWhile_cons_of_pos hx, List.length_cons]
      cases k with
      | zero => simp [hx]
      | succ k =>
        have := ih (fun j k hk hj h => hm (j + 1) (k + 1) (by simpa using hk) (by omega) (by simpa using h)) k (by simpa using hk)
        simpa using this
    | false =>
      rw [List.takeWhile_cons_of_neg (by simp [hx])]
      refine ⟨fun h => ?_, fun h => absurd h (Nat.not_lt_zero _)⟩
      cases k with
      | zero => rw [List.getElem_cons_zero, hx] at h; cases h
      | succ k =>
        have := hm 0 (k + 1) hk (by omega) h
        rw [List.getElem_cons_zero, hx] at this; cases this
theorem bans_pos {xs : List BanV} (h : okBans xs = true) (y : BanV) : ∀ k (hk : k < xs.length), ordB xs[k] y < 0 ↔ k < posB xs y := by
  intro k hk
  unfold okBans at h
  rw [Bool.and_eq_true] at h
  have := while_iff (p := fun x => decide (ordB x y < 0)) xs (fun j k hk hj h2 => by
    rw [ordB_lt] at h2 ⊢
    exact ltBan_trans (bans_lt _ (Nat.le_refl _) h.1 j k hk hk hj) h2) k hk
  unfold posB
  rw [← this]
  simp
/-- What a change changes, and whether it does. -/
def chE (c : IncV) (m : MapV) : MapV × Bool :=
  if okInc c = false then (m, false)
  else if c.kind = 1 then setO bootO c.num c.osd.toNat m
  else if c.kind = 2 then setO downO c.num c.osd.toNat m
  else if c.kind = 3 then setO weighO c.num c.osd.toNat m
  else if c.kind = 4 then setO thruO c.num c.osd.toNat m
  else if c.kind = 5 then poolE c.pool m
  else banE (banV c) m
theorem osd_nat {c : IncV} (h : okInc c = true) (hk : c.kind = 1 ∨ c.kind = 2 ∨ c.kind = 3 ∨ c.kind = 4) : c.osd = (c.osd.toNat : Int) := by
  have h1 : isOsd c = true := by
    unfold okInc at h
    split at h
    · exact (Bool.and_eq_true .. ▸ h).1
    · split at h
      · exact (Bool.and_eq_true .. ▸ h).1
      · split at h
        · exact (Bool.and_eq_true .. ▸ h).1
        · omega
  unfold isOsd okId inR at h1
  simp only [Bool.and_eq_true, decide_eq_true_eq] at h1
  omega
theorem kind_six {c : IncV} (h : okInc c = true) (h1 : ¬ c.kind = 1) (h2 : ¬ c.kind = 2) (h3 : ¬ c.kind = 3) (h4 : ¬ c.kind = 4) (h5 : ¬ c.kind = 5) : c.kind = 6 := by
  unfold okInc at h
  rw [if_neg (by omega), if_neg h3, if_neg h4, if_neg h5] at h
  by_cases h6 : c.kind = 6
  · exact h6
  · rw [if_neg h6] at h; cases h
theorem change_any (c : IncV) (m : MapV) (hb : okBans m.bans = true) (B : Nat → Prop) (S g cap : Nat) (w : World) (h : SheetG w B S g cap m) (hB : In B w) :
    Calls Tryz.prog 163 #[.pointer (some ⟨S, 0, none⟩), c.val] w (StO B S g cap (chE c m) w) := by
  cases hok : okInc c with
  | false =>
    unfold chE
    rw [if_pos hok]
    exact change0_any c hok B S g cap m w h hB
  | true =>
    unfold chE
    rw [if_neg (by rw [hok]; decide)]
    by_cases k1 : c.kind = 1
    · rw [if_pos k1]; exact change1_any c k1 _ (osd_nat hok (by omega)) hok B S g cap m w h hB
    · by_cases k2 : c.kind = 2
      · rw [if_neg k1, if_pos k2]; exact change2_any c k2 _ (osd_nat hok (by omega)) hok B S g cap m w h hB
      · by_cases k3 : c.kind = 3
        · rw [if_neg k1, if_neg k2, if_pos k3]; exact change3_any c k3 _ (osd_nat hok (by omega)) hok B S g cap m w h hB
        · by_cases k4 : c.kind = 4
          · rw [if_neg k1, if_neg k2, if_neg k3, if_pos k4]; exact change4_any c k4 _ (osd_nat hok (by omega)) hok B S g cap m w h hB
          · by_cases k5 : c.kind = 5
            · rw [if_neg k1, if_neg k2, if_neg k3, if_neg k4, if_pos k5]; exact change5_any c k5 hok B S g cap m w h hB
            · have k6 := kind_six hok k1 k2 k3 k4 k5
              rw [if_neg k1, if_neg k2, if_neg k3, if_neg k4, if_neg k5]
              have hl : m.bans.length ≤ 64 := by
                unfold okBans at hb
                simp only [Bool.and_eq_true, decide_eq_true_eq] at hb
                exact hb.2
              exact change6_any c k6 hok B S g cap m w h hB hl (bans_pos hb _)
theorem chE_epoch (c : IncV) (m : MapV) : (chE c m).1.epoch = m.epoch := by
  have hs : ∀ (f : Int → Int → OsdV → Option OsdV) (n : Int) (i : Nat), (setO f n i m).1.epoch = m.epoch := fun f n i => by
    unfold setO
    cases m.osds[i]? with
    | none => rfl
    | some o =>
      simp only
      cases f n m.epoch o <;> rfl
  unfold chE
  repeat' split
  all_goals first | rfl | exact hs _ _ _ | (unfold poolE; split <;> rfl) | (unfold banE; split <;> rfl)
/-- The map behind a change. -/
def appE (c : IncV) (m : MapV) : MapV := if m.epoch < 4096 then (chE c m).1.tick else m
theorem Apply_all (v : Value) (c : IncV) (m : MapV) (w : World) (h : MapR w v m) (hs : m.Small) (hn : m.osds ≠ []) (hI : I64 m.epoch) (hb : okBans m.bans = true) :
    Calls Tryz.prog 80 #[v, c.val] w (AppS w (appE c m)) :=
  Apply_any v c m _ w h hs hn hI (chE_epoch c m) (fun B S g cap u h1 h2 h3 => (change_any c m hb (fun k => k < B) S g cap u h3 (In.le h2)).mono (by
    rintro e w' ⟨he, hg, hb⟩
    exact ⟨_, he, hg, hb⟩))
theorem Fit_all (v : Value) (m : MapV) (w : World) (h : MapR w v m) : Calls Tryz.prog 14 #[v] w fun e w' => e = .returned (.bool (okMap m)) ∧ Below w.heap.size w w' :=
  Fit_any v m w h (fun vb u hu => fitBans_any vb m.bans u hu)
end Go.Proofs.YtoeklnmmnmmjeaaGreat.crush

namespace Go.Proofs.YtoeklnmmnmmjeaaGreat.crush
open Go.RowKit
open Go.Proofs.YtoeklnmmnmmjeaaGreat.kit Go.Proofs.YtoeklnmmnmmjeaaGreat.own
set_option linter.unusedVariables false

theorem unOsd_iff (e : Int) (o : OsdV) : unOsd e o = false ↔ ((1 ≤ o.boot ∧ o.boot ≤ 1073741824) ∨ (o.boot = 0 ∧ o.up = false)) ∧ 0 ≤ o.wt ∧ o.wt ≤ 1048576 ∧ 0 ≤ o.thru ∧ o.thru ≤ e := by
  unfold unOsd okBoot okWeight inR
  cases o.up <;> simp <;> omega
theorem unOsd_up {e : Int} {o : OsdV} (h : unOsd e o = false) : unOsd (e + 1) o = false := by
  rw [unOsd_iff] at h ⊢
  exact ⟨h.1, h.2.1, h.2.2.1, h.2.2.2.1, by omega⟩
theorem osds_iff (e : Int) (hs : List Int) (l : List OsdV) : okOsds e hs l = true ↔ l.length = hs.length ∧ ∀ o ∈ l, unOsd e o = false := by
  unfold okOsds
  rw [Bool.and_eq_true, decide_eq_true_eq, Bool.not_eq_true', List.any_eq_false]
  simp
theorem osds_set {e : Int} {hs : List Int} {l : List OsdV} (h : okOsds e hs l = true) (i : Nat) (o : OsdV) (ho : unOsd (e + 1) o = false) : okOsds (e + 1) hs (l.set i o) = true := by
  rw [osds_iff] at h ⊢
  refine ⟨by rw [List.length_set]; exact h.1, fun x hx => ?_⟩
  rcases List.mem_or_eq_of_mem_set hx with h1 | rfl
  · exact unOsd_up (h.2 x h1)
  · exact ho
theorem osds_up {e : Int} {hs : List Int} {l : List OsdV} (h : okOsds e hs l = true) : okOsds (e + 1) hs l = true := by
  rw [osds_iff] at h ⊢
  exact ⟨h.1, fun x hx => unOsd_up (h.2 x hx)⟩
/-- A storage node's part is fit behind a change, and its numbers never fall. -/
theorem boot_fit {n e : Int} {o o' : OsdV} (h : unOsd e o = false) (hn : okBoot n = true) (hb : bootO n e o = some o') : unOsd (e + 1) o' = false ∧ o.boot ≤ o'.boot ∧ o.thru ≤ o'.thru := by
  unfold bootO at hb
  split at hb
  · cases hb
  · cases hb
    rw [unOsd_iff] at h ⊢
    unfold okBoot inR at hn
    simp only [Bool.and_eq_true, decide_eq_true_eq] at hn
    refine ⟨⟨Or.inl hn, h.2.1, h.2.2.1, h.2.2.2.1, by have := h.2.2.2.2; simp only; omega⟩, by simp only; omega, Int.le_refl _⟩
theorem down_fit {n e : Int} {o o' : OsdV} (h : unOsd e o = false) (hb : downO n e o = some o') : unOsd (e + 1) o' = false ∧ o.boot ≤ o'.boot ∧ o.thru ≤ o'.thru := by
  unfold downO at hb
  split at hb
  · cases hb
  · cases hb
    rw [unOsd_iff] at h ⊢
    refine ⟨⟨h.1.imp id (fun h2 => ⟨h2.1, rfl⟩), h.2.1, h.2.2.1, h.2.2.2.1, by have := h.2.2.2.2; simp only; omega⟩, Int.le_refl _, Int.le_refl _⟩
theorem weigh_fit {n e : Int} {o o' : OsdV} (h : unOsd e o = false) (hn : okWeight n = true) (hb : weighO n e o = some o') : unOsd (e + 1) o' = false ∧ o.boot ≤ o'.boot ∧ o.thru ≤ o'.thru := by
  unfold weighO at hb
  split at hb
  · cases hb
  · cases hb
    rw [unOsd_iff] at h ⊢
    unfold okWeight inR at hn
    simp only [Bool.and_eq_true, decide_eq_true_eq] at hn
    refine ⟨⟨h.1, hn.1, hn.2, h.2.2.2.1, by have := h.2.2.2.2; simp only; omega⟩, Int.le_refl _, Int.le_refl _⟩
theorem thru_fit {n e : Int} {o o' : OsdV} (h : unOsd e o = false) (hb : thruO n e o = some o') : unOsd (e + 1) o' = false ∧ o.boot ≤ o'.boot ∧ o.thru ≤ o'.thru := by
  unfold thruO at hb
  split at hb
  · cases hb
  · rename_i h1
    cases hb
    rw [unOsd_iff] at h ⊢
    simp only [not_or] at h1
    have h3 := h.2.2.2.1
    refine ⟨⟨h.1, h.2.1, h.2.2.1, by simp only; omega, by simp only; omega⟩, Int.le_refl _, by simp only; omega⟩
def Grows (m m' : MapV) : Prop := m'.epoch = m.epoch + 1 ∧ m'.hosts = m.hosts ∧ m'.osds.length = m.osds.length ∧ (∀ i (h : i < m.osds.length) (h' : i < m'.osds.length), m.osds[i].boot ≤ m'.osds[i].boot ∧ m.osds[i].thru ≤ m'.osds[i].thru) ∧ (∃ ps, m'.pools = m.pools ++ ps) ∧ (∀ b ∈ m.bans, b ∈ m'.bans) ∧ m.bans.length ≤ m'.bans.length
theorem okMap_iff (m : MapV) : okMap m = true ↔ (0 ≤ m.epoch ∧ m.epoch ≤ 4096) ∧ okHosts m.hosts = true ∧ okOsds m.epoch m.hosts m.osds = true ∧ okPools m.pools = true ∧ okBans m.bans = true := by
  unfold okMap inR
  simp only [Bool.and_eq_true, decide_eq_true_eq]
theorem tick_fit {m : MapV} (h : okMap m = true) (he : m.epoch < 4096) : okMap m.tick = true ∧ Grows m m.tick := by
  rw [okMap_iff] at h
  refine ⟨(okMap_iff _).2 ⟨⟨by show 0 ≤ m.epoch + 1; omega, by show m.epoch + 1 ≤ 4096; omega⟩, h.2.1, osds_up h.2.2.1, h.2.2.2⟩, rfl, rfl, rfl, fun i _ _ => ⟨Int.le_refl _, Int.le_refl _⟩, ⟨[], (List.append_nil _).symm⟩, fun _ h => h, Nat.le_refl _⟩
theorem setO_fit {f : Int → Int → OsdV → Option OsdV} {n : Int} (i : Nat) {m : MapV} (hf : ∀ o o', unOsd m.epoch o = false → f n m.epoch o = some o' → unOsd (m.epoch + 1) o' = false ∧ o.boot ≤ o'.boot ∧ o.thru ≤ o'.thru) (h : okMap m = true) (he : m.epoch < 4096) :
    okMap (setO f n i m).1.tick = true ∧ Grows m (setO f n i m).1.tick := by
  unfold setO
  cases hi : m.osds[i]? with
  | none => exact tick_fit h he
  | some o =>
    cases ho : f n m.epoch o with
    | none => simp only [ho]; exact tick_fit h he
    | some o' =>
      simp only [ho]
      rw [okMap_iff] at h
      have hos := (osds_iff _ _ _).1 h.2.2.1
      obtain ⟨hil, hio⟩ := List.getElem?_eq_some_iff.1 hi
      obtain ⟨g1, g2, g3⟩ := hf o o' (hos.2 o (by rw [← hio]; exact List.getElem_mem hil)) ho
      refine ⟨(okMap_iff _).2 ⟨⟨by show 0 ≤ m.epoch + 1; omega, by show m.epoch + 1 ≤ 4096; omega⟩, h.2.1, osds_set h.2.2.1 i o' g1, h.2.2.2⟩, rfl, rfl, List.length_set, fun j h1 h2 => ?_, ⟨[], (List.append_nil _).symm⟩, fun _ h => h, Nat.le_refl _⟩
      have h2' : j < (m.osds.set i o').length := h2
      have e : (m.osds.set i o')[j]'h2' = if i = j then o' else m.osds[j] := List.getElem_set ..
      show m.osds[j].boot ≤ ((m.osds.set i o')[j]'h2').boot ∧ m.osds[j].thru ≤ ((m.osds.set i o')[j]'h2').thru
      rw [e]
      by_cases hj : i = j
      · subst hj
        rw [if_pos rfl, hio]
        exact ⟨g2, g3⟩
      · rw [if_neg hj]
        exact ⟨Int.le_refl _, Int.le_refl _⟩
theorem pool_fit {p : PoolV} {m : MapV} (hp : okPool p = true) (h : okMap m = true) (he : m.epoch < 4096) : okMap (poolE p m).1.tick = true ∧ Grows m (poolE p m).1.tick := by
  unfold poolE
  by_cases h2 : 2 ≤ m.pools.length
  · rw [if_pos h2]; exact tick_fit h he
  · rw [if_neg h2]
    rw [okMap_iff] at h
    refine ⟨(okMap_iff _).2 ⟨⟨by show 0 ≤ m.epoch + 1; omega, by show m.epoch + 1 ≤ 4096; omega⟩, h.2.1, osds_up h.2.2.1, ?_, h.2.2.2.2⟩, rfl, rfl, rfl, fun i _ _ => ⟨Int.le_refl _, Int.le_refl _⟩, ⟨[p], rfl⟩, fun _ h => h, Nat.le_refl _⟩
    have h4 := h.2.2.2.1
    show okPools (m.pools ++ [p]) = true
    unfold okPools at h4 ⊢
    rw [Bool.and_eq_true, Bool.not_eq_true', decide_eq_true_eq] at h4
    rw [List.any_append, h4.2, List.length_append, List.length_singleton, decide_eq_true (by omega : m.pools.length + 1 ≤ 2)]
    simp [hp]
end Go.Proofs.YtoeklnmmnmmjeaaGreat.crush

namespace Go.Proofs.YtoeklnmmnmmjeaaGreat.crush
open Go.RowKit
open Go.Proofs.YtoeklnmmnmmjeaaGreat.kit Go.Proofs.YtoeklnmmnmmjeaaGreat.own
set_option linter.unusedVariables false

theorem okBans_iff (l : List BanV) : okBans l = true ↔ (∀ b ∈ l, okBan b.client b.inst = true) ∧ l.Pairwise (fun a b => ltBan a b = true) ∧ l.length ≤ 64 := by
  unfold okBans
  rw [Bool.and_eq_true, decide_eq_true_eq]
  constructor
  · rintro ⟨h, h64⟩
    refine ⟨fun b hb => ?_, List.pairwise_iff_getElem.2 (fun i j hi hj hij => bans_lt _ (Nat.le_refl _) h i j hj hj hij), h64⟩
    obtain ⟨k, hk, rfl⟩ := List.getElem_of_mem hb
    have h1 : okBansF l (k + 1) = true := by
      cases hh : okBansF l (k + 1) with
      | true => rfl
      | false => rw [okBansF_false hh _ hk] at h; cases h
    rw [okBansF_step hk] at h1
    simp only [Bool.and_eq_true] at h1
    exact h1.2.1
  · rintro ⟨ha, hp, h64⟩
    refine ⟨?_, h64⟩
    have : ∀ n, n ≤ l.length → okBansF l n = true := by
      intro n
      induction n with
      | zero => intro _; rfl
      | succ n ih =>
        intro hn
        rw [okBansF_step (by omega), ih (by omega), ha _ (List.getElem_mem (by omega)), Bool.true_and, Bool.true_and, Bool.or_eq_true]
        by_cases h0 : n = 0
        · exact .inl (by simp [h0])
        · right
          rw [ordB_lt, List.getD_eq_getElem?_getD, List.getElem?_eq_getElem (by omega), Option.getD_some]
          exact List.pairwise_iff_getElem.1 hp (n - 1) n (by omega) (by omega) (by omega)
    exact this _ (Nat.le_refl _)
theorem ltBan_other {x y : BanV} (h1 : ¬ ordB x y < 0) (h2 : ¬ ordB x y = 0) : ltBan y x = true := by
  have e1 : ltBan x y = false := by rw [← ordB_lt]; exact decide_eq_false h1
  unfold ordB first2 cmp3 at h2
  unfold ltBan at e1 ⊢
  simp only [Bool.or_eq_false_iff, Bool.and_eq_false_imp, decide_eq_false_iff_not, decide_eq_true_eq, Bool.or_eq_true, Bool.and_eq_true] at e1 ⊢
  by_cases q1 : x.client < y.client
  · exact absurd q1 e1.1
  · by_cases q2 : y.client < x.client
    · exact .inl q2
    · have q3 : x.client = y.client := by omega
      refine .inr ⟨q3.symm, ?_⟩
      have q4 := e1.2 q3
      by_cases q5 : y.inst < x.inst
      · exact q5
      · exact absurd (by simp [q1, q2, q4, q5]) h2
theorem ban_fit {y : BanV} {m : MapV} (hy : okBan y.client y.inst = true) (h : okMap m = true) (he : m.epoch < 4096) : okMap (banE y m).1.tick = true ∧ Grows m (banE y m).1.tick := by
  unfold banE
  cases hq : (atBan m.bans y (posB m.bans y) || decide (64 ≤ m.bans.length)) with
  | true => rw [if_pos rfl]; exact tick_fit h he
  | false =>
    rw [if_neg (by decide)]
    rw [okMap_iff] at h
    rw [Bool.or_eq_false_iff, decide_eq_false_iff_not] at hq
    have hb := h.2.2.2.2
    have hpos := bans_pos hb y
    have hple := posB_le m.bans y
    generalize posB m.bans y = p at hq hpos hple ⊢
    obtain ⟨h1, h2, h3⟩ := (okBans_iff _).1 hb
    have hlo : ∀ a ∈ m.bans.take p, ltBan a y = true := fun a ha => by
      obtain ⟨k, hk, rfl⟩ := List.getElem_of_mem ha
      rw [List.length_take] at hk
      rw [List.getElem_take, ← ordB_lt]
      exact decide_eq_true ((hpos k (by omega)).2 (by omega))
    have hhi : ∀ b ∈ m.bans.drop p, ltBan y b = true := fun b hbm => by
      obtain ⟨k, hk, rfl⟩ := List.getElem_of_mem hbm
      rw [List.length_drop] at hk
      rw [List.getElem_drop]
      have hp0 : p < m.bans.length := by omega
      have hat : ¬ ordB m.bans[p] y = 0 := by
        have := hq.1
        unfold atBan at this
        rw [List.getElem?_eq_getElem hp0] at this
        exact of_decide_eq_false this
      have hfirst := ltBan_other (fun hh => absurd ((hpos p hp0).1 hh) (Nat.lt_irrefl _)) hat
      cases k with
      | zero => exact hfirst
      | succ k => exact ltBan_trans hfirst (List.pairwise_iff_getElem.1 h2 p (p + (k + 1)) hp0 (by omega) (by omega))
    refine ⟨(okMap_iff _).2 ⟨⟨by show 0 ≤ m.epoch + 1; omega, by show m.epoch + 1 ≤ 4096; omega⟩, h.2.1, osds_up h.2.2.1, h.2.2.2.1, ?_⟩, rfl, rfl, rfl, fun i _ _ => ⟨Int.le_refl _, Int.le_refl _⟩, ⟨[], (List.append_nil _).symm⟩, fun b hbm => ?_, ?_⟩
    · refine (okBans_iff _).2 ⟨fun b hbm => ?_, ?_, ?_⟩
      · rcases List.mem_append.1 hbm with h5 | h5
        · exact h1 b (List.mem_of_mem_take h5)
        · rcases List.mem_cons.1 h5 with rfl | h5
          · exact hy
          · exact h1 b (List.mem_of_mem_drop h5)
      · refine List.pairwise_append.2 ⟨h2.sublist (List.take_sublist _ _), List.pairwise_cons.2 ⟨hhi, h2.sublist (List.drop_sublist _ _)⟩, fun a ha b hbm => ?_⟩
        rcases List.mem_cons.1 hbm with rfl | h5
        · exact hlo a ha
        · exact ltBan_trans (hlo a ha) (hhi b h5)
      · show (m.bans.take p ++ y :: m.bans.drop p).length ≤ 64
        simp
        omega
    · show b ∈ m.bans.take p ++ y :: m.bans.drop p
      rw [← List.take_append_drop p m.bans] at hbm
      rcases List.mem_append.1 hbm with h5 | h5
      · exact List.mem_append_left _ h5
      · exact List.mem_append_right _ (List.mem_cons_of_mem _ h5)
    · show m.bans.length ≤ (m.bans.take p ++ y :: m.bans.drop p).length
      simp
      omega
theorem grow_all (c : IncV) {m : MapV} (h : okMap m = true) (he : m.epoch < 4096) : okMap (appE c m) = true ∧ Grows m (appE c m) := by
  unfold appE
  rw [if_pos he]
  unfold chE
  cases hok : okInc c with
  | false => rw [if_pos rfl]; exact tick_fit h he
  | true =>
    rw [if_neg (by decide)]
    have ho := hok
    unfold okInc at ho
    by_cases k1 : c.kind = 1
    · rw [if_pos (Or.inl k1), Bool.and_eq_true] at ho
      rw [if_pos k1]
      exact setO_fit _ (fun o o' h1 h2 => boot_fit h1 ho.2 h2) h he
    · by_cases k2 : c.kind = 2
      · rw [if_neg k1, if_pos k2]
        exact setO_fit _ (fun o o' h1 h2 => down_fit h1 h2) h he
      · rw [if_neg (by omega)] at ho
        by_cases k3 : c.kind = 3
        · rw [if_pos k3, Bool.and_eq_true] at ho
          rw [if_neg k1, if_neg k2, if_pos k3]
          exact setO_fit _ (fun o o' h1 h2 => weigh_fit h1 ho.2 h2) h he
        · rw [if_neg k3] at ho
          by_cases k4 : c.kind = 4
          · rw [if_neg k1, if_neg k2, if_neg k3, if_pos k4]
            exact setO_fit _ (fun o o' h1 h2 => thru_fit h1 h2) h he
          · rw [if_neg k4] at ho
            by_cases k5 : c.kind = 5
            · rw [if_pos k5, Bool.and_eq_true] at ho
              rw [if_neg k1, if_neg k2, if_neg k3, if_neg k4, if_pos k5]
              exact pool_fit ho.2 h he
            · have k6 := kind_six hok k1 k2 k3 k4 k5
              rw [if_neg k5, if_pos k6, Bool.and_eq_true] at ho
              rw [if_neg k1, if_neg k2, if_neg k3, if_neg k4, if_neg k5]
              exact ban_fit ho.2 h he
end Go.Proofs.YtoeklnmmnmmjeaaGreat.crush

namespace Go.Proofs.YtoeklnmmnmmjeaaGreat.crush
open Go.RowKit
open Go.Proofs.YtoeklnmmnmmjeaaGreat.kit Go.Proofs.YtoeklnmmnmmjeaaGreat.own
set_option linter.unusedVariables false

theorem setO_twice {f : Int → Int → OsdV → Option OsdV} {n : Int} (i : Nat) (m : MapV) (hn : ∀ e o, f n e o = none → f n (e + 1) o = none) (hs : ∀ e o o', f n e o = some o' → f n (e + 1) o' = none) :
    (setO f n i (setO f n i m).1.tick).2 = false := by
  cases hi : m.osds[i]? with
  | none =>
    have e1 : setO f n i m = (m, false) := by unfold setO; rw [hi]
    rw [e1]
    unfold setO
    rw [show m.tick.osds[i]? = none from hi]
  | some o =>
    obtain ⟨hil, -⟩ := List.getElem?_eq_some_iff.1 hi
    cases ho : f n m.epoch o with
    | none =>
      have e1 : setO f n i m = (m, false) := by unfold setO; rw [hi]; simp only [ho]
      rw [e1]
      unfold setO
      rw [show m.tick.osds[i]? = some o from hi]
      simp only [show f n m.tick.epoch o = none from hn _ _ ho]
    | some o' =>
      have e1 : setO f n i m = (putOsd m i o', true) := by unfold setO; rw [hi]; simp only [ho]
      rw [e1]
      unfold setO
      rw [show (putOsd m i o').tick.osds[i]? = some o' from by show (m.osds.set i o')[i]? = some o'; rw [List.getElem?_set_self hil]]
      simp only [show f n (putOsd m i o').tick.epoch o' = none from hs _ _ _ ho]
theorem boot_twice (n : Int) (i : Nat) (m : MapV) : (setO bootO n i (setO bootO n i m).1.tick).2 = false :=
  setO_twice i m (fun e o h => h) (fun e o o' h => by
    unfold bootO at h ⊢
    split at h
    · cases h
    · cases h; exact if_pos (Int.le_refl _))
theorem down_twice (n : Int) (i : Nat) (m : MapV) : (setO downO n i (setO downO n i m).1.tick).2 = false :=
  setO_twice i m (fun e o h => h) (fun e o o' h => by
    unfold downO at h ⊢
    split at h
    · cases h
    · cases h; exact if_pos (Or.inl rfl))
theorem weigh_twice (n : Int) (i : Nat) (m : MapV) : (setO weighO n i (setO weighO n i m).1.tick).2 = false :=
  setO_twice i m (fun e o h => h) (fun e o o' h => by
    unfold weighO at h ⊢
    split at h
    · cases h
    · cases h; exact if_pos rfl)
theorem ordB_self (y : BanV) : ordB y y = 0 := by
  unfold ordB first2 cmp3
  simp
theorem ban_twice {y : BanV} {m : MapV} (hy : okBan y.client y.inst = true) (h : okMap m = true) (he : m.epoch < 4096) : (banE y (banE y m).1.tick).2 = false := by
  have hf := ban_fit hy h he
  cases hq : (atBan m.bans y (posB m.bans y) || decide (64 ≤ m.bans.length)) with
  | true =>
    have e1 : banE y m = (m, false) := by unfold banE; rw [hq]; exact if_pos rfl
    rw [e1]
    unfold banE
    rw [show (atBan m.tick.bans y (posB m.tick.bans y) || decide (64 ≤ m.tick.bans.length)) = true from hq, if_pos rfl]
  | false =>
    have e1 : banE y m = (⟨m.epoch, m.hosts, m.osds, m.pools, m.bans.take (posB m.bans y) ++ y :: m.bans.drop (posB m.bans y)⟩, true) := by unfold banE; rw [hq]; exact if_neg (by decide)
    rw [e1] at hf ⊢
    have hb := ((okMap_iff _).1 hf.1).2.2.2.2
    have hpos0 := bans_pos ((okMap_iff _).1 h).2.2.2.2 y
    have hple := posB_le m.bans y
    generalize posB m.bans y = p at hb hpos0 hple ⊢
    have hb' : okBans (m.bans.take p ++ y :: m.bans.drop p) = true := hb
    have hpos := bans_pos hb' y
    have hlen : (m.bans.take p ++ y :: m.bans.drop p).length = m.bans.length + 1 := by simp; omega
    have hlt : (m.bans.take p).length = p := by rw [List.length_take]; omega
    have hy2 : (m.bans.take p ++ y :: m.bans.drop p)[p]? = some y := by
      rw [List.getElem?_append_right (by omega), hlt, Nat.sub_self]; rfl
    obtain ⟨hpl, hpy⟩ := List.getElem?_eq_some_iff.1 hy2
    have hge : posB (m.bans.take p ++ y :: m.bans.drop p) y ≤ p := by
      rcases Nat.lt_or_ge p (posB (m.bans.take p ++ y :: m.bans.drop p) y) with h1 | h1
      · have := (hpos p hpl).2 h1
        rw [hpy, ordB_self] at this
        omega
      · exact h1
    have hle : p ≤ posB (m.bans.take p ++ y :: m.bans.drop p) y := by
      rcases Nat.lt_or_ge (posB (m.bans.take p ++ y :: m.bans.drop p) y) p with h1 | h1
      · have h2 := (hpos0 (posB (m.bans.take p ++ y :: m.bans.drop p) y) (by omega)).2 h1
        have h3 := (hpos (posB (m.bans.take p ++ y :: m.bans.drop p) y) (by omega)).1 (by
          rw [List.getElem_append_left (by omega), List.getElem_take]; exact h2)
        omega
      · exact h1
    have hpe : posB (m.bans.take p ++ y :: m.bans.drop p) y = p := by omega
    have hat : atBan (m.bans.take p ++ y :: m.bans.drop p) y p = true := by unfold atBan; rw [hy2]; simp [ordB_self]
    unfold banE
    rw [if_pos (by
      show (atBan (m.bans.take p ++ y :: m.bans.drop p) y (posB (m.bans.take p ++ y :: m.bans.drop p) y) || _) = true
      rw [hpe, hat]; rfl)]
/-- Behind a change the change changes nothing more: but a pool, and an up_thru that the epoch now lets in. -/
theorem chE_twice (c : IncV) {m : MapV} (h : okMap m = true) (he : m.epoch < 4096) (h4 : ¬ c.kind = 4) (h5 : ¬ c.kind = 5) : (chE c (appE c m)).2 = false := by
  unfold appE
  rw [if_pos he]
  cases hok : okInc c with
  | false =>
    have e : ∀ x, chE c x = (x, false) := fun x => by unfold chE; rw [if_pos hok]
    rw [e]
  | true =>
    have hno : ¬ okInc c = false := by rw [hok]; decide
    by_cases k1 : c.kind = 1
    · have e : ∀ x, chE c x = setO bootO c.num c.osd.toNat x := fun x => by unfold chE; rw [if_neg hno, if_pos k1]
      rw [e, e]; exact boot_twice _ _ _
    · by_cases k2 : c.kind = 2
      · have e : ∀ x, chE c x = setO downO c.num c.osd.toNat x := fun x => by unfold chE; rw [if_neg hno, if_neg k1, if_pos k2]
        rw [e, e]; exact down_twice _ _ _
      · by_cases k3 : c.kind = 3
        · have e : ∀ x, chE c x = setO weighO c.num c.osd.toNat x := fun x => by unfold chE; rw [if_neg hno, if_neg k1, if_neg k2, if_pos k3]
          rw [e, e]; exact weigh_twice _ _ _
        · have k6 := kind_six hok k1 k2 k3 h4 h5
          have e : ∀ x, chE c x = banE (banV c) x := fun x => by unfold chE; rw [if_neg hno, if_neg k1, if_neg k2, if_neg k3, if_neg h4, if_neg h5]
          have ho := hok
          unfold okInc at ho
          rw [if_neg (by omega), if_neg k3, if_neg h4, if_neg h5, if_pos k6, Bool.and_eq_true] at ho
          rw [e, e]
          exact ban_twice ho.2 h he
end Go.Proofs.YtoeklnmmnmmjeaaGreat.crush

namespace Go.Proofs.YtoeklnmmnmmjeaaGreat.crush
open Go.RowKit
open Go.Proofs.YtoeklnmmnmmjeaaGreat.kit Go.Proofs.YtoeklnmmnmmjeaaGreat.own
set_option linter.unusedVariables false

def osd0 : OsdV := ⟨0, false, 65536, 0⟩
def firstE (hs : List Int) : MapV := if okHosts hs then ⟨0, hs, List.replicate hs.length osd0, [], []⟩ else ⟨0, [], [], [], []⟩
theorem okHosts_len {hs : List Int} (h : okHosts hs = true) : 1 ≤ hs.length ∧ hs.length ≤ 8 := by
  unfold okHosts at h
  rw [Bool.and_eq_true] at h
  have h1 := h.1
  unfold inR at h1
  simp only [Bool.and_eq_true, decide_eq_true_iff] at h1
  omega

set_option maxHeartbeats 16000000 in
set_option maxRecDepth 100000 in
theorem First_any (v : Value) (hs : List Int) (w : World) (h : Sl ic 1 w v hs) : Calls Tryz.prog 27 #[v] w (AppS w (firstE hs)) := by
  have hb := below_new w (.cells #[.int .i64 0, .slice none 0 0, .slice none 0 0, .slice none 0 0, .slice none 0 0] 27)
  have hx := mbox_new w 27 0 (.slice none 0 0) (.slice none 0 0) (.slice none 0 0) (.slice none 0 0)
  have HF := Lib.hid (fun u (hu : Below w.heap.size w u) => fitHosts_any v hs u (h.keep hu))
  have HOk := Lib.hid (fun (e : okHosts hs = true) => okHosts_len e)
  obtain ⟨q, hq⟩ : ∃ q, okHosts hs = q := ⟨_, rfl⟩
  rw [hq] at HF
  have HE : Hid (firstE hs = if q then ⟨0, hs, List.replicate hs.length osd0, [], []⟩ else ⟨0, [], [], [], []⟩) := Lib.hid (by unfold firstE; rw [hq])
  have HQ := Lib.hid hq
  have HCl := Lib.hid (fun (hl : hs.length ≤ 8) u (hu : Below w.heap.size w u) => cloneI v hs u (h.keep hu) (by omega))
  have HRp := Lib.hid (fun (hl : 1 ≤ hs.length ∧ hs.length ≤ 8) v u (hv : Sl oc 4 u v [osd0]) => repeatO v osd0 hs.length hl.1 hl.2 u hv)
  have HNw := Lib.hid (fun (u : World) => sl_new oc_len u osd0 74 u.heap.size rfl)
  have HBn := Lib.hid (fun (u : World) => below_new u (.cells (oc osd0).toArray 74))
  obtain ⟨a, c, rfl⟩ := h.slice
  have HB := Lib.hid hb; have HX := Lib.hid hx
  obtain ⟨L, hL⟩ : ∃ L, hs.length = L := ⟨_, rfl⟩
  have HL := Lib.hid hL
  rw [hL] at HF HCl HRp HOk ⊢
  clear h hb hx hq hL
  go_enter Tryz.func27, Tryz.ntmps27
  go_upto_region 1 with fail
  generalize (w.alloc (.cells #[.int .i64 0, .slice none 0 0, .slice none 0 0, .slice none 0 0, .slice none 0 0] 27)) = W at HB HX ⊢
  cases q with
  | false =>
    go_wp2_with (first
      | (go_at_call 59; refine (HF.out _ HB.out).mono ?_; rintro e w5 ⟨rfl, hb⟩; have HB5 := Lib.hid (HB.out.trans (hb.mono HB.out.size)); have HX5 := Lib.hid (HX.out.keep hb); clear hb)
      | (refine wpList_store_mid rfl 27 _ _ rfl w.heap.size 0 #[.int .i64 0, .slice none 0 0, .slice none 0 0, .slice none 0 0, .slice none 0 0] rfl rfl HX5.out.there sizeMap (map_one _ _ _ _ _ _ _ _ _ _ _ _ _) ?_))
    refine bodyPost_ret (ret_cell rfl rfl (HX5.out.put 0 (.slice none 0 0) (.slice none 0 0) (.slice none 0 0) (.slice none 0 0)).range Tryz.underlying27 rfl sizeMap) rfl ?_
    rw [HE.out]
    exact ⟨_, _, _, _, rfl, ⟨Own.nil _ _ _, Own.nil _ _ _, Own.nil _ _ _, Own.nil _ _ _⟩, Below.setCells HB5.out (b := w.heap.size) (Nat.le_refl _) 0 _⟩
  | true =>
    have hl8 := HOk.out HQ.out
    go_upto_region 3 with (go_at_call 59; refine (HF.out _ HB.out).mono ?_; rintro e w5 ⟨rfl, hb⟩; have HB5 := Lib.hid (HB.out.trans (hb.mono HB.out.size)); have HX5 := Lib.hid (HX.out.keep hb); clear hb)
    go_wp2_with (first
      | (go_at_call 84; refine (HCl.out hl8.2 _ HB5.out).mono ?_; rintro e w6 ⟨v6, rfl, ho, hb⟩; obtain ⟨a6, c6, rfl⟩ := ho.slice; have HB6 := Lib.hid (HB5.out.trans (hb.mono HB5.out.size)); have HX6 := Lib.hid (HX5.out.keep hb); have HO6 := Lib.hid (ho.mono (show w.heap.size + 1 ≤ _ from HX5.out.lt)); have HS6 := Lib.hid (HNw.out w6); have HB7 := Lib.hid (HB6.out.trans ((HBn.out w6).mono HB6.out.size)); have HX7 := Lib.hid (HX6.out.keep (HBn.out w6)); have HO7 := Lib.hid (HO6.out.below (HBn.out w6)); clear ho hb)
      | (go_at_call 85; refine (HRp.out hl8 _ _ HS6.out).mono ?_; rintro e w8 ⟨v8, rfl, ho, hb⟩; obtain ⟨a8, c8, rfl⟩ := ho.slice; rw [List.length_replicate] at ho; have HB8 := Lib.hid (HB7.out.trans (hb.mono HB7.out.size)); have HX8 := Lib.hid (HX7.out.keep hb); have HO8 := Lib.hid (ho.mono (show w.heap.size + 1 ≤ _ from HX7.out.lt)); have HO78 := Lib.hid (HO7.out.below hb); clear ho hb)
      | (refine wpList_store_mid rfl 27 _ _ rfl w.heap.size 0 #[.int .i64 0, .slice a6 hs.length c6, .slice a8 L c8, .slice none 0 0, .slice none 0 0] rfl rfl HX8.out.there sizeMap (map_one _ _ _ _ _ _ _ _ _ _ _ _ _) ?_))
    refine bodyPost_ret (ret_cell rfl rfl (HX8.out.put 0 (.slice a6 hs.length c6) (.slice a8 L c8) (.slice none 0 0) (.slice none 0 0)).range Tryz.underlying27 rfl sizeMap) rfl ?_
    rw [HE.out, if_pos trivial]
    exact ⟨_, _, _, _, rfl, ⟨(HO78.out.setCells_far (Nat.lt_succ_self _) 0 _).mono (Nat.le_succ _), by rw [HL.out]; exact (HO8.out.setCells_far (Nat.lt_succ_self _) 0 _).mono (Nat.le_succ _), Own.nil _ _ _, Own.nil _ _ _⟩, Below.setCells HB8.out (b := w.heap.size) (Nat.le_refl _) 0 _⟩
end Go.Proofs.YtoeklnmmnmmjeaaGreat.crush

namespace Go.Proofs.YtoeklnmmnmmjeaaGreat.crush
open Go.RowKit
open Go.Proofs.YtoeklnmmnmmjeaaGreat.kit Go.Proofs.YtoeklnmmnmmjeaaGreat.own
set_option linter.unusedVariables false

theorem okMap_small {m : MapV} (h : okMap m = true) : m.Small ∧ m.osds ≠ [] ∧ I64 m.epoch ∧ okBans m.bans = true := by
  have h0 := (okMap_iff m).1 h
  have h1 := okHosts_len h0.2.1
  have h2 := ((osds_iff _ _ _).1 h0.2.2.1).1
  have h3 : m.pools.length ≤ 2 := by
    have := h0.2.2.2.1
    unfold okPools at this
    rw [Bool.and_eq_true, decide_eq_true_eq] at this
    exact this.1
  have h4 := ((okBans_iff _).1 h0.2.2.2.2).2.2
  refine ⟨?_, fun e => ?_, ?_, h0.2.2.2.2⟩
  · unfold MapV.Small
    omega
  · rw [e] at h2
    simp at h2
    omega
  · unfold I64
    omega
theorem first_ok {hs : List Int} (h : okHosts hs = true) : okMap (firstE hs) = true := by
  unfold firstE
  rw [if_pos h, okMap_iff]
  refine ⟨⟨Int.le_refl 0, by show (0 : Int) ≤ 4096; decide⟩, h, (osds_iff _ _ _).2 ⟨by simp, fun o ho => ?_⟩, by rfl, by rfl⟩
  rw [List.eq_of_mem_replicate ho]
  rfl
/-- The slice has room for what it holds. -/
def CapM (v : Value) (n : Nat) : Prop := ∃ a c, v = .slice a n c ∧ n ≤ c ∧ c ≤ 9223372036854775807
theorem sl_elem {α : Type} {enc : α → List Value} {k : Nat} {W : World} {a : Option Addr} {L cap : Nat} {xs : List α} (h : Sl enc k W (.slice a L cap) xs) (j : Nat) (hj : j < xs.length) :
    ∃ b off, a = some ⟨b, off, none⟩ ∧ b < W.heap.size ∧ W.rangeAt b (off + j * k) (enc xs[j]) := by
  obtain ⟨_, a', c', he, -, hcell⟩ := h
  cases he
  obtain ⟨b, off, rfl, hbl, hc⟩ := hcell (by omega)
  exact ⟨b, off, rfl, hbl, hc j hj⟩
theorem mapR_rows {W : World} {em : Int} {vh vo vp vb : Value} {m : MapV} (h : MapR W (.agg #[.int .i64 em, vh, vo, vp, vb]) m) : Sl ic 1 W vh m.hosts ∧ Sl oc 4 W vo m.osds ∧ Sl pc 4 W vp m.pools ∧ Sl bc 2 W vb m.bans := by
  obtain ⟨_, _, _, _, he, h1, h2, h3, h4⟩ := h
  simp at he
  obtain ⟨-, rfl, rfl, rfl, rfl⟩ := he
  exact ⟨h1, h2, h3, h4⟩
end Go.Proofs.YtoeklnmmnmmjeaaGreat.crush

--
namespace Go.Proofs.YtoeklnmmnmmjeaaGreat.crush
open Go.RowKit
open Go.Proofs.YtoeklnmmnmmjeaaGreat.kit Go.Proofs.YtoeklnmmnmmjeaaGreat.own
set_option linter.unusedVariables false
set_option linter.unusedSimpArgs false

theorem all_eq {α : Type} {xs ys : List α} {L : Nat} (h1 : xs.length = L) (h2 : ys.length = L) (h : ∀ j (hx : j < xs.length) (hy : j < ys.length), j < L → xs[j] = ys[j]) : xs = ys :=
  List.ext_getElem (h1.trans h2.symm) (fun j a b => h j a b (by omega))
theorem neq_osd (x y : OsdV) (w : World) : (binOp .neq 74 (.agg (oc x).toArray) (.agg (oc y).toArray)).run Tryz.prog w = .ok (.bool (!decide (x = y))) w := by
  obtain ⟨a, b, c, d⟩ := x
  obtain ⟨a', b', c', d'⟩ := y
  simp only [oc]
  go_simp
  repeat' split
  all_goals simp [*]
theorem neq_pool2 (x y : PoolV) (w : World) : (binOp .neq 29 (.agg (pc x).toArray) (.agg (pc y).toArray)).run Tryz.prog w = .ok (.bool (!decide (x = y))) w := by
  obtain ⟨a, b, c, d⟩ := x
  obtain ⟨a', b', c', d'⟩ := y
  simp only [pc]
  go_simp
  repeat' split
  all_goals simp [*]
theorem neq_ban (x y : BanV) (w : World) : (binOp .neq 93 (.agg (bc x).toArray) (.agg (bc y).toArray)).run Tryz.prog w = .ok (.bool (!decide (x = y))) w := by
  obtain ⟨a, b⟩ := x
  obtain ⟨a', b'⟩ := y
  simp only [bc]
  go_simp
  repeat' split
  all_goals simp [*]

set_option maxHeartbeats 8000000 in
set_option maxRecDepth 100000 in
theorem equal_int (va vb : Value) (xs ys : List Int) (w : World) (ha : Sl ic 1 w va xs) (hb : Sl ic 1 w vb ys) :
    Calls Tryz.prog 67 #[va, vb] w fun e w' => e = .returned (.bool (decide (xs = ys))) ∧ Below w.heap.size w w' := by
  have HA := Lib.hid ha; have HBs := Lib.hid hb
  have mixed : Tryz.prog.follows .mixedOrders = true := by kernel_rfl
  obtain ⟨r, hr⟩ : ∃ r, decide (xs = ys) = r := ⟨_, rfl⟩
  have HR := Lib.hid hr
  obtain ⟨a1, c1, rfl⟩ := ha.slice
  obtain ⟨a2, c2, rfl⟩ := hb.slice
  have hla := ha.1
  obtain ⟨L, hL⟩ : ∃ L, xs.length = L := ⟨_, rfl⟩
  obtain ⟨M, hM⟩ : ∃ M, ys.length = M := ⟨_, rfl⟩
  have HL := Lib.hid hL; have HM := Lib.hid hM
  rw [hL] at HA hla ⊢
  rw [hM] at HBs ⊢
  rw [hr]
  clear ha hb hL hM hr
  go_enter Tryz.func67, Tryz.ntmps67
  by_cases hLM : L = M
  · subst hLM
    go_wp2
    go_loopw [13] (fun vi wr => ∃ k : Nat, k ≤ L ∧ vi = .int .i64 k ∧ Hid (∀ j (hx : j < xs.length) (hy : j < ys.length), j < k → xs[j] = ys[j]) ∧ Below w.heap.size w wr) (fun i _ => L - (intOf i).toNat)
    case atStart => exact ⟨0, by omega, rfl, Lib.hid (fun j _ _ h => absurd h (Nat.not_lt_zero _)), Below.refl _ _⟩
    case round =>
      obtain ⟨k, hk, rfl, HN, hbw⟩ := hrel
      have HB := Lib.hid hbw
      by_cases hlt : k < L
      · have hlt' : (k : Int) < L := by omega
        have hk0 : (0 : Int) ≤ k := by omega
        have h1 : k < xs.length := by rw [HL.out]; exact hlt
        have h2 : k < ys.length := by rw [HM.out]; exact hlt
        obtain ⟨b1, o1, e1, hl1, hr1⟩ := sl_elem (HA.out.keep hbw) k h1
        obtain ⟨b2, o2, e2, hl2, hr2⟩ := sl_elem (HBs.out.keep hbw) k h2
        cases e1; cases e2
        clear hbw hl1 hl2
        obtain ⟨x, hx⟩ : ∃ x, xs[k] = x := ⟨_, rfl⟩
        obtain ⟨y, hy⟩ : ∃ y, ys[k] = y := ⟨_, rfl⟩
        have HX := Lib.hid hx; have HY := Lib.hid hy
        rw [hx] at hr1
        rw [hy] at hr2
        clear hx hy
        obtain ⟨q, hq⟩ : ∃ q, decide (x = y) = q := ⟨_, rfl⟩
        have HQq := Lib.hid hq
        have d1 := icell_at hr1
        have d2 := icell_at hr2
        rw [Nat.mul_one] at d1 d2
        have hQ : True → (x != y) = !q := fun _ => by rw [← hq]; by_cases h : x = y <;> simp [h]
        clear hr1 hr2 hq
        cases q with
        | false =>
          have HF : Hid (r = false) := Lib.hid (by rw [← HR.out]; exact decide_eq_false (fun e => by subst e; exact of_decide_eq_false HQq.out (HX.out.symm.trans HY.out)))
          go_upto_region 6 with fail
          go_quiet (fail)
          have HB2 := Lib.hid (HB.out.drewN' nq)
          clear d1 d2 hQ
          go_wp2
          go_ret
          exact ⟨by rw [HF.out]; rfl, HB2.out⟩
        | true =>
          have HN2 : Hid (∀ j (hx : j < xs.length) (hy : j < ys.length), j < k + 1 → xs[j] = ys[j]) := Lib.hid (fun j hx hy h => by
            rcases Nat.lt_or_ge j k with h3 | h3
            · exact HN.out j hx hy h3
            · obtain rfl : j = k := by omega
              exact HX.out.trans ((of_decide_eq_true HQq.out).trans HY.out.symm))
          go_upto_region 6 with fail
          go_quiet (fail)
          have HB2 := Lib.hid (HB.out.drewN' nq)
          clear d1 d2 hQ
          go_wp2
          go_roundw
          case rel => exact ⟨k + 1, by omega, by go_num, HN2, HB2.out⟩
          case measure => simp [intOf]; omega
      · have hlt' : ¬ ((k : Int) < L) := by omega
        have HT : Hid (r = true) := Lib.hid (by rw [← HR.out]; exact decide_eq_true (all_eq HL.out HM.out (fun j hx hy h => HN.out j hx hy (by omega))))
        clear hbw
        go_wp2
        go_ret
        exact ⟨by rw [HT.out]; rfl, HB.out⟩
  · have hne : True → ((L : Int) != (M : Int)) = true := fun _ => by simp; omega
    have HF : Hid (r = false) := Lib.hid (by rw [← HR.out]; exact decide_eq_false (fun e => hLM (by rw [← HL.out, ← HM.out, e])))
    clear hLM
    go_wp2
    go_ret
    exact ⟨by rw [HF.out]; rfl, Below.refl _ _⟩

set_option maxHeartbeats 8000000 in
set_option maxRecDepth 100000 in
theorem equal_osd (va vb : Value) (xs ys : List OsdV) (w : World) (ha : Sl oc 4 w va xs) (hb : Sl oc 4 w vb ys) :
    Calls Tryz.prog 68 #[va, vb] w fun e w' => e = .returned (.bool (decide (xs = ys))) ∧ Below w.heap.size w w' := by
  have HA := Lib.hid ha; have HBs := Lib.hid hb
  have mixed : Tryz.prog.follows .mixedOrders = true := by kernel_rfl
  obtain ⟨r, hr⟩ : ∃ r, decide (xs = ys) = r := ⟨_, rfl⟩
  have HR := Lib.hid hr
  obtain ⟨a1, c1, rfl⟩ := ha.slice
  obtain ⟨a2, c2, rfl⟩ := hb.slice
  have hla := ha.1
  obtain ⟨L, hL⟩ : ∃ L, xs.length = L := ⟨_, rfl⟩
  obtain ⟨M, hM⟩ : ∃ M, ys.length = M := ⟨_, rfl⟩
  have HL := Lib.hid hL; have HM := Lib.hid hM
  rw [hL] at HA hla ⊢
  rw [hM] at HBs ⊢
  rw [hr]
  clear ha hb hL hM hr
  go_enter Tryz.func68, Tryz.ntmps68
  by_cases hLM : L = M
  · subst hLM
    go_wp2
    go_loopw [13] (fun vi wr => ∃ k : Nat, k ≤ L ∧ vi = .int .i64 k ∧ Hid (∀ j (hx : j < xs.length) (hy : j < ys.length), j < k → xs[j] = ys[j]) ∧ Below w.heap.size w wr) (fun i _ => L - (intOf i).toNat)
    case atStart => exact ⟨0, by omega, rfl, Lib.hid (fun j _ _ h => absurd h (Nat.not_lt_zero _)), Below.refl _ _⟩
    case round =>
      obtain ⟨k, hk, rfl, HN, hbw⟩ := hrel
      have HB := Lib.hid hbw
      by_cases hlt : k < L
      · have hlt' : (k : Int) < L := by omega
        have hk0 : (0 : Int) ≤ k := by omega
        have h1 : k < xs.length := by rw [HL.out]; exact hlt
        have h2 : k < ys.length := by rw [HM.out]; exact hlt
        obtain ⟨b1, o1, e1, hl1, hr1⟩ := sl_elem (HA.out.keep hbw) k h1
        obtain ⟨b2, o2, e2, hl2, hr2⟩ := sl_elem (HBs.out.keep hbw) k h2
        cases e1; cases e2
        clear hbw hl1 hl2
        obtain ⟨x, hx⟩ : ∃ x, xs[k] = x := ⟨_, rfl⟩
        obtain ⟨y, hy⟩ : ∃ y, ys[k] = y := ⟨_, rfl⟩
        have HX := Lib.hid hx; have HY := Lib.hid hy
        rw [hx] at hr1
        rw [hy] at hr2
        clear hx hy
        obtain ⟨q, hq⟩ : ∃ q, decide (x = y) = q := ⟨_, rfl⟩
        have HQq := Lib.hid hq
        have hQ := fun u => neq_osd x y u
        rw [hq] at hQ
        obtain ⟨e1, u1, t1, h1⟩ := x
        obtain ⟨e2, u2, t2, h2⟩ := y
        simp only [oc] at hQ
        have d10 : wr.cell? ⟨b1, o1 + k * 4, none⟩ = some (.int .i64 e1) := hr1 0 _ rfl
        have d11 : wr.cell? ⟨b1, o1 + k * 4 + 1, none⟩ = some (.bool u1) := hr1 1 _ rfl
        have d12 : wr.cell? ⟨b1, o1 + k * 4 + 2, none⟩ = some (.int .i64 t1) := hr1 2 _ rfl
        have d13 : wr.cell? ⟨b1, o1 + k * 4 + 3, none⟩ = some (.int .i64 h1) := hr1 3 _ rfl
        have d20 : wr.cell? ⟨b2, o2 + k * 4, none⟩ = some (.int .i64 e2) := hr2 0 _ rfl
        have d21 : wr.cell? ⟨b2, o2 + k * 4 + 1, none⟩ = some (.bool u2) := hr2 1 _ rfl
        have d22 : wr.cell? ⟨b2, o2 + k * 4 + 2, none⟩ = some (.int .i64 t2) := hr2 2 _ rfl
        have d23 : wr.cell? ⟨b2, o2 + k * 4 + 3, none⟩ = some (.int .i64 h2) := hr2 3 _ rfl
        clear hr1 hr2 hq
        cases q with
        | false =>
          have HF : Hid (r = false) := Lib.hid (by rw [← HR.out]; exact decide_eq_false (fun e => by subst e; exact of_decide_eq_false HQq.out (HX.out.symm.trans HY.out)))
          go_upto_region 6 with fail
          go_quiet (fail)
          have HB2 := Lib.hid (HB.out.drewN' nq)
          clear d10 d11 d12 d13 d20 d21 d22 d23 hQ
          go_wp2
          go_ret
          exact ⟨by rw [HF.out]; rfl, HB2.out⟩
        | true =>
          have HN2 : Hid (∀ j (hx : j < xs.length) (hy : j < ys.length), j < k + 1 → xs[j] = ys[j]) := Lib.hid (fun j hx hy h => by
            rcases Nat.lt_or_ge j k with h3 | h3
            · exact HN.out j hx hy h3
            · obtain rfl : j = k := by omega
              exact HX.out.trans ((of_decide_eq_true HQq.out).trans HY.out.symm))
          go_upto_region 6 with fail
          go_quiet (fail)
          have HB2 := Lib.hid (HB.out.drewN' nq)
          clear d10 d11 d12 d13 d20 d21 d22 d23 hQ
          go_wp2
          go_roundw
          case rel => exact ⟨k + 1, by omega, by go_num, HN2, HB2.out⟩
          case measure => simp [intOf]; omega
      · have hlt' : ¬ ((k : Int) < L) := by omega
        have HT : Hid (r = true) := Lib.hid (by rw [← HR.out]; exact decide_eq_true (all_eq HL.out HM.out (fun j hx hy h => HN.out j hx hy (by omega))))
        clear hbw
        go_wp2
        go_ret
        exact ⟨by rw [HT.out]; rfl, HB.out⟩
  · have hne : True → ((L : Int) != (M : Int)) = true := fun _ => by simp; omega
    have HF : Hid (r = false) := Lib.hid (by rw [← HR.out]; exact decide_eq_false (fun e => hLM (by rw [← HL.out, ← HM.out, e])))
    clear hLM
    go_wp2
    go_ret
    exact ⟨by rw [HF.out]; rfl, Below.refl _ _⟩

set_option maxHeartbeats 8000000 in
set_option maxRecDepth 100000 in
theorem equal_pool (va vb : Value) (xs ys : List PoolV) (w : World) (ha : Sl pc 4 w va xs) (hb : Sl pc 4 w vb ys) :
    Calls Tryz.prog 69 #[va, vb] w fun e w' => e = .returned (.bool (decide (xs = ys))) ∧ Below w.heap.size w w' := by
  have HA := Lib.hid ha; have HBs := Lib.hid hb
  have mixed : Tryz.prog.follows .mixedOrders = true := by kernel_rfl
  obtain ⟨r, hr⟩ : ∃ r, decide (xs = ys) = r := ⟨_, rfl⟩
  have HR := Lib.hid hr
  obtain ⟨a1, c1, rfl⟩ := ha.slice
  obtain ⟨a2, c2, rfl⟩ := hb.slice
  have hla := ha.1
  obtain ⟨L, hL⟩ : ∃ L, xs.length = L := ⟨_, rfl⟩
  obtain ⟨M, hM⟩ : ∃ M, ys.length = M := ⟨_, rfl⟩
  have HL := Lib.hid hL; have HM := Lib.hid hM
  rw [hL] at HA hla ⊢
  rw [hM] at HBs ⊢
  rw [hr]
  clear ha hb hL hM hr
  go_enter Tryz.func69, Tryz.ntmps69
  by_cases hLM : L = M
  · subst hLM
    go_wp2
    go_loopw [13] (fun vi wr => ∃ k : Nat, k ≤ L ∧ vi = .int .i64 k ∧ Hid (∀ j (hx : j < xs.length) (hy : j < ys.length), j < k → xs[j] = ys[j]) ∧ Below w.heap.size w wr) (fun i _ => L - (intOf i).toNat)
    case atStart => exact ⟨0, by omega, rfl, Lib.hid (fun j _ _ h => absurd h (Nat.not_lt_zero _)), Below.refl _ _⟩
    case round =>
      obtain ⟨k, hk, rfl, HN, hbw⟩ := hrel
      have HB := Lib.hid hbw
      by_cases hlt : k < L
      · have hlt' : (k : Int) < L := by omega
        have hk0 : (0 : Int) ≤ k := by omega
        have h1 : k < xs.length := by rw [HL.out]; exact hlt
        have h2 : k < ys.length := by rw [HM.out]; exact hlt
        obtain ⟨b1, o1, e1, hl1, hr1⟩ := sl_elem (HA.out.keep hbw) k h1
        obtain ⟨b2, o2, e2, hl2, hr2⟩ := sl_elem (HBs.out.keep hbw) k h2
        cases e1; cases e2
        clear hbw hl1 hl2
        obtain ⟨x, hx⟩ : ∃ x, xs[k] = x := ⟨_, rfl⟩
        obtain ⟨y, hy⟩ : ∃ y, ys[k] = y := ⟨_, rfl⟩
        have HX := Lib.hid hx; have HY := Lib.hid hy
        rw [hx] at hr1
        rw [hy] at hr2
        clear hx hy
        obtain ⟨q, hq⟩ : ∃ q, decide (x = y) = q := ⟨_, rfl⟩
        have HQq := Lib.hid hq
        have hQ := fun u => neq_pool2 x y u
        rw [hq] at hQ
        obtain ⟨s1, m1, p1, d1⟩ := x
        obtain ⟨s2, m2, p2, d2⟩ := y
        simp only [pc] at hQ
        have d10 : wr.cell? ⟨b1, o1 + k * 4, none⟩ = some (.int .i64 s1) := hr1 0 _ rfl
        have d11 : wr.cell? ⟨b1, o1 + k * 4 + 1, none⟩ = some (.int .i64 m1) := hr1 1 _ rfl
        have d12 : wr.cell? ⟨b1, o1 + k * 4 + 2, none⟩ = some (.int .i64 p1) := hr1 2 _ rfl
        have d13 : wr.cell? ⟨b1, o1 + k * 4 + 3, none⟩ = some (.int .i64 d1) := hr1 3 _ rfl
        have d20 : wr.cell? ⟨b2, o2 + k * 4, none⟩ = some (.int .i64 s2) := hr2 0 _ rfl
        have d21 : wr.cell? ⟨b2, o2 + k * 4 + 1, none⟩ = some (.int .i64 m2) := hr2 1 _ rfl
        have d22 : wr.cell? ⟨b2, o2 + k * 4 + 2, none⟩ = some (.int .i64 p2) := hr2 2 _ rfl
        have d23 : wr.cell? ⟨b2, o2 + k * 4 + 3, none⟩ = some (.int .i64 d2) := hr2 3 _ rfl
        clear hr1 hr2 hq
        cases q with
        | false =>
          have HF : Hid (r = false) := Lib.hid (by rw [← HR.out]; exact decide_eq_false (fun e => by subst e; exact of_decide_eq_false HQq.out (HX.out.symm.trans HY.out)))
          go_upto_region 6 with fail
          go_quiet (fail)
          have HB2 := Lib.hid (HB.out.drewN' nq)
          clear d10 d11 d12 d13 d20 d21 d22 d23 hQ
          go_wp2
          go_ret
          exact ⟨by rw [HF.out]; rfl, HB2.out⟩
        | true =>
          have HN2 : Hid (∀ j (hx : j < xs.length) (hy : j < ys.length), j < k + 1 → xs[j] = ys[j]) := Lib.hid (fun j hx hy h => by
            rcases Nat.lt_or_ge j k with h3 | h3
            · exact HN.out j hx hy h3
            · obtain rfl : j = k := by omega
              exact HX.out.trans ((of_decide_eq_true HQq.out).trans HY.out.symm))
          go_upto_region 6 with fail
          go_quiet (fail)
          have HB2 := Lib.hid (HB.out.drewN' nq)
          clear d10 d11 d12 d13 d20 d21 d22 d23 hQ
          go_wp2
          go_roundw
          case rel => exact ⟨k + 1, by omega, by go_num, HN2, HB2.out⟩
          case measure => simp [intOf]; omega
      · have hlt' : ¬ ((k : Int) < L) := by omega
        have HT : Hid (r = true) := Lib.hid (by rw [← HR.out]; exact decide_eq_true (all_eq HL.out HM.out (fun j hx hy h => HN.out j hx hy (by omega))))
        clear hbw
        go_wp2
        go_ret
        exact ⟨by rw [HT.out]; rfl, HB.out⟩
  · have hne : True → ((L : Int) != (M : Int)) = true := fun _ => by simp; omega
    have HF : Hid (r = false) := Lib.hid (by rw [← HR.out]; exact decide_eq_false (fun e => hLM (by rw [← HL.out, ← HM.out, e])))
    clear hLM
    go_wp2
    go_ret
    exact ⟨by rw [HF.out]; rfl, Below.refl _ _⟩

set_option maxHeartbeats 8000000 in
set_option maxRecDepth 100000 in
theorem equal_ban (va vb : Value) (xs ys : List BanV) (w : World) (ha : Sl bc 2 w va xs) (hb : Sl bc 2 w vb ys) :
    Calls Tryz.prog 70 #[va, vb] w fun e w' => e = .returned (.bool (decide (xs = ys))) ∧ Below w.heap.size w w' := by
  have HA := Lib.hid ha; have HBs := Lib.hid hb
  have mixed : Tryz.prog.follows .mixedOrders = true := by kernel_rfl
  obtain ⟨r, hr⟩ : ∃ r, decide (xs = ys) = r := ⟨_, rfl⟩
  have HR := Lib.hid hr
  obtain ⟨a1, c1, rfl⟩ := ha.slice
  obtain ⟨a2, c2, rfl⟩ := hb.slice
  have hla := ha.1
  obtain ⟨L, hL⟩ : ∃ L, xs.length = L := ⟨_, rfl⟩
  obtain ⟨M, hM⟩ : ∃ M, ys.length = M := ⟨_, rfl⟩
  have HL := Lib.hid hL; have HM := Lib.hid hM
  rw [hL] at HA hla ⊢
  rw [hM] at HBs ⊢
  rw [hr]
  clear ha hb hL hM hr
  go_enter Tryz.func70, Tryz.ntmps70
  by_cases hLM : L = M
  · subst hLM
    go_wp2
    go_loopw [13] (fun vi wr => ∃ k : Nat, k ≤ L ∧ vi = .int .i64 k ∧ Hid (∀ j (hx : j < xs.length) (hy : j < ys.length), j < k → xs[j] = ys[j]) ∧ Below w.heap.size w wr) (fun i _ => L - (intOf i).toNat)
    case atStart => exact ⟨0, by omega, rfl, Lib.hid (fun j _ _ h => absurd h (Nat.not_lt_zero _)), Below.refl _ _⟩
    case round =>
      obtain ⟨k, hk, rfl, HN, hbw⟩ := hrel
      have HB := Lib.hid hbw
      by_cases hlt : k < L
      · have hlt' : (k : Int) < L := by omega
        have hk0 : (0 : Int) ≤ k := by omega
        have h1 : k < xs.length := by rw [HL.out]; exact hlt
        have h2 : k < ys.length := by rw [HM.out]; exact hlt
        obtain ⟨b1, o1, e1, hl1, hr1⟩ := sl_elem (HA.out.keep hbw) k h1
        obtain ⟨b2, o2, e2, hl2, hr2⟩ := sl_elem (HBs.out.keep hbw) k h2
        cases e1; cases e2
        clear hbw hl1 hl2
        obtain ⟨x, hx⟩ : ∃ x, xs[k] = x := ⟨_, rfl⟩
        obtain ⟨y, hy⟩ : ∃ y, ys[k] = y := ⟨_, rfl⟩
        have HX := Lib.hid hx; have HY := Lib.hid hy
        rw [hx] at hr1
        rw [hy] at hr2
        clear hx hy
        obtain ⟨q, hq⟩ : ∃ q, decide (x = y) = q := ⟨_, rfl⟩
        have HQq := Lib.hid hq
        have hQ := fun u => neq_ban x y u
        rw [hq] at hQ
        obtain ⟨c1, n1⟩ := x
        obtain ⟨c2, n2⟩ := y
        simp only [bc] at hQ
        have d10 : wr.cell? ⟨b1, o1 + k * 2, none⟩ = some (.int .i64 c1) := hr1 0 _ rfl
        have d11 : wr.cell? ⟨b1, o1 + k * 2 + 1, none⟩ = some (.int .i64 n1) := hr1 1 _ rfl
        have d20 : wr.cell? ⟨b2, o2 + k * 2, none⟩ = some (.int .i64 c2) := hr2 0 _ rfl
        have d21 : wr.cell? ⟨b2, o2 + k * 2 + 1, none⟩ = some (.int .i64 n2) := hr2 1 _ rfl
        clear hr1 hr2 hq
        cases q with
        | false =>
          have HF : Hid (r = false) := Lib.hid (by rw [← HR.out]; exact decide_eq_false (fun e => by subst e; exact of_decide_eq_false HQq.out (HX.out.symm.trans HY.out)))
          go_upto_region 6 with fail
          go_quiet (fail)
          have HB2 := Lib.hid (HB.out.drewN' nq)
          clear d10 d11 d20 d21 hQ
          go_wp2
          go_ret
          exact ⟨by rw [HF.out]; rfl, HB2.out⟩
        | true =>
          have HN2 : Hid (∀ j (hx : j < xs.length) (hy : j < ys.length), j < k + 1 → xs[j] = ys[j]) := Lib.hid (fun j hx hy h => by
            rcases Nat.lt_or_ge j k with h3 | h3
            · exact HN.out j hx hy h3
            · obtain rfl : j = k := by omega
              exact HX.out.trans ((of_decide_eq_true HQq.out).trans HY.out.symm))
          go_upto_region 6 with fail
          go_quiet (fail)
          have HB2 := Lib.hid (HB.out.drewN' nq)
          clear d10 d11 d20 d21 hQ
          go_wp2
          go_roundw
          case rel => exact ⟨k + 1, by omega, by go_num, HN2, HB2.out⟩
          case measure => simp [intOf]; omega
      · have hlt' : ¬ ((k : Int) < L) := by omega
        have HT : Hid (r = true) := Lib.hid (by rw [← HR.out]; exact decide_eq_true (all_eq HL.out HM.out (fun j hx hy h => HN.out j hx hy (by omega))))
        clear hbw
        go_wp2
        go_ret
        exact ⟨by rw [HT.out]; rfl, HB.out⟩
  · have hne : True → ((L : Int) != (M : Int)) = true := fun _ => by simp; omega
    have HF : Hid (r = false) := Lib.hid (by rw [← HR.out]; exact decide_eq_false (fun e => hLM (by rw [← HL.out, ← HM.out, e])))
    clear hLM
    go_wp2
    go_ret
    exact ⟨by rw [HF.out]; rfl, Below.refl _ _⟩
/-- Are two maps the same? -/
def sameE (m n : MapV) : Bool := decide (m.epoch = n.epoch) && (decide (m.hosts = n.hosts) && (decide (m.osds = n.osds) && (decide (m.pools = n.pools) && decide (m.bans = n.bans))))
set_option maxHeartbeats 16000000 in
set_option maxRecDepth 100000 in
theorem Same_any (va vb : Value) (m n : MapV) (w : World) (ha : MapR w va m) (hb : MapR w vb n) : Calls Tryz.prog 16 #[va, vb] w fun e w' => e = .returned (.bool (sameE m n)) ∧ Below w.heap.size w w' := by
  obtain ⟨a1, a2, a3, a4, rfl, r1, r2, r3, r4⟩ := ha
  obtain ⟨b1, b2, b3, b4, rfl, s1, s2, s3, s4⟩ := hb
  have HE1 := Lib.hid (fun u (hu : Below w.heap.size w u) => equal_int a1 b1 _ _ u (r1.keep hu) (s1.keep hu))
  have HE2 := Lib.hid (fun u (hu : Below w.heap.size w u) => equal_osd a2 b2 _ _ u (r2.keep hu) (s2.keep hu))
  have HE3 := Lib.hid (fun u (hu : Below w.heap.size w u) => equal_pool a3 b3 _ _ u (r3.keep hu) (s3.keep hu))
  have HE4 := Lib.hid (fun u (hu : Below w.heap.size w u) => equal_ban a4 b4 _ _ u (r4.keep hu) (s4.keep hu))
  obtain ⟨x1, y1, rfl⟩ := r1.slice; obtain ⟨x2, y2, rfl⟩ := r2.slice; obtain ⟨x3, y3, rfl⟩ := r3.slice; obtain ⟨x4, y4, rfl⟩ := r4.slice
  obtain ⟨p1, q1, rfl⟩ := s1.slice; obtain ⟨p2, q2, rfl⟩ := s2.slice; obtain ⟨p3, q3, rfl⟩ := s3.slice; obtain ⟨p4, q4, rfl⟩ := s4.slice
  unfold sameE
  obtain ⟨t0, h0⟩ : ∃ t, decide (m.epoch = n.epoch) = t := ⟨_, rfl⟩
  obtain ⟨t1, h1⟩ : ∃ t, decide (m.hosts = n.hosts) = t := ⟨_, rfl⟩
  obtain ⟨t2, h2⟩ : ∃ t, decide (m.osds = n.osds) = t := ⟨_, rfl⟩
  obtain ⟨t3, h3⟩ : ∃ t, decide (m.pools = n.pools) = t := ⟨_, rfl⟩
  obtain ⟨t4, h4⟩ : ∃ t, decide (m.bans = n.bans) = t := ⟨_, rfl⟩
  rw [h1] at HE1; rw [h2] at HE2; rw [h3] at HE3; rw [h4] at HE4
  rw [h0, h1, h2, h3, h4]
  generalize m.hosts.length = k1 at HE1 ⊢; generalize m.osds.length = k2 at HE2 ⊢; generalize m.pools.length = k3 at HE3 ⊢; generalize m.bans.length = k4 at HE4 ⊢
  generalize n.hosts.length = l1 at HE1 ⊢; generalize n.osds.length = l2 at HE2 ⊢; generalize n.pools.length = l3 at HE3 ⊢; generalize n.bans.length = l4 at HE4 ⊢
  generalize m.epoch = em at h0 ⊢
  generalize n.epoch = en at h0 ⊢
  have he : True → (em == en) = t0 := fun _ => by rw [← h0]; by_cases h : em = en <;> simp [h]
  clear r1 r2 r3 r4 s1 s2 s3 s4 h0 h1 h2 h3 h4
  obtain ⟨W, hW⟩ : ∃ W, ((w.alloc (.cells #[.int .i64 em, .slice x1 k1 y1, .slice x2 k2 y2, .slice x3 k3 y3, .slice x4 k4 y4] 27)).alloc (.cells #[.int .i64 en, .slice p1 l1 q1, .slice p2 l2 q2, .slice p3 l3 q3, .slice p4 l4 q4] 27)) = W := ⟨_, rfl⟩
  have hB : Below w.heap.size w W := by rw [← hW]; exact (below_new w _).alloc (by simp) _
  have hX : MBox W w.heap.size 27 em (.slice x1 k1 y1) (.slice x2 k2 y2) (.slice x3 k3 y3) (.slice x4 k4 y4) := by
    unfold MBox; rw [← hW]; simp only [alloc_heap, Array.getElem?_push, Array.size_push]
    repeat (first | rw [if_pos trivial] | rw [if_pos (by omega)] | rw [if_neg (by omega)])
  have hY : MBox W (w.heap.size + 1) 27 en (.slice p1 l1 q1) (.slice p2 l2 q2) (.slice p3 l3 q3) (.slice p4 l4 q4) := by
    unfold MBox; rw [← hW]; simp only [alloc_heap, Array.getElem?_push, Array.size_push]
    repeat (first | rw [if_pos trivial] | rw [if_pos (by omega)] | rw [if_neg (by omega)])
  have HB := Lib.hid hB; have HX := Lib.hid hX; have HY := Lib.hid hY
  clear hB hX hY
  go_enter Tryz.func16, Tryz.ntmps16
  go_upto_region 1 with fail
  clear hW
  obtain ⟨c0, c1, c2, c3, c4⟩ := HX.out.cells
  obtain ⟨d0, d1, d2, d3, d4⟩ := HY.out.cells
  have hcs : t0 = false ∨ (t0 = true ∧ t1 = false) ∨ (t0 = true ∧ t1 = true ∧ t2 = false) ∨ (t0 = true ∧ t1 = true ∧ t2 = true ∧ t3 = false) ∨ (t0 = true ∧ t1 = true ∧ t2 = true ∧ t3 = true) := by cases t0 <;> cases t1 <;> cases t2 <;> cases t3 <;> simp
  rcases hcs with rfl | ⟨rfl, rfl⟩ | ⟨rfl, rfl, rfl⟩ | ⟨rfl, rfl, rfl, rfl⟩ | ⟨rfl, rfl, rfl, rfl⟩
  all_goals
    go_wp2_with (first
      | (go_at_call 67; refine (HE1.out _ HB.out).mono ?_; rintro e w5 ⟨rfl, hb⟩; have HB1 := Lib.hid (HB.out.trans (hb.mono HB.out.size)); have HX1 := Lib.hid (HX.out.keep hb); have HY1 := Lib.hid (HY.out.keep hb); clear hb c0 c1 c2 c3 c4 d0 d1 d2 d3 d4; obtain ⟨c0, c1, c2, c3, c4⟩ := HX1.out.cells; obtain ⟨d0, d1, d2, d3, d4⟩ := HY1.out.cells)
      | (go_at_call 68; refine (HE2.out _ HB1.out).mono ?_; rintro e w5 ⟨rfl, hb⟩; have HB2 := Lib.hid (HB1.out.trans (hb.mono HB1.out.size)); have HX2 := Lib.hid (HX1.out.keep hb); have HY2 := Lib.hid (HY1.out.keep hb); clear hb c0 c1 c2 c3 c4 d0 d1 d2 d3 d4; obtain ⟨c0, c1, c2, c3, c4⟩ := HX2.out.cells; obtain ⟨d0, d1, d2, d3, d4⟩ := HY2.out.cells)
      | (go_at_call 69; refine (HE3.out _ HB2.out).mono ?_; rintro e w5 ⟨rfl, hb⟩; have HB3 := Lib.hid (HB2.out.trans (hb.mono HB2.out.size)); have HX3 := Lib.hid (HX2.out.keep hb); have HY3 := Lib.hid (HY2.out.keep hb); clear hb c0 c1 c2 c3 c4 d0 d1 d2 d3 d4; obtain ⟨c0, c1, c2, c3, c4⟩ := HX3.out.cells; obtain ⟨d0, d1, d2, d3, d4⟩ := HY3.out.cells)
      | (go_at_call 70; refine (HE4.out _ HB3.out).mono ?_; rintro e w5 ⟨rfl, hb⟩; have HB4 := Lib.hid (HB3.out.trans (hb.mono HB3.out.size)); have HX4 := Lib.hid (HX3.out.keep hb); have HY4 := Lib.hid (HY3.out.keep hb); clear hb c0 c1 c2 c3 c4 d0 d1 d2 d3 d4; obtain ⟨c0, c1, c2, c3, c4⟩ := HX4.out.cells; obtain ⟨d0, d1, d2, d3, d4⟩ := HY4.out.cells))
    go_ret
    first | exact ⟨rfl, HB4.out⟩ | exact ⟨rfl, HB3.out⟩ | exact ⟨rfl, HB2.out⟩ | exact ⟨rfl, HB1.out⟩ | exact ⟨rfl, HB.out⟩
end Go.Proofs.YtoeklnmmnmmjeaaGreat.crush

namespace Go.Proofs.YtoeklnmmnmmjeaaGreat.crush
open Go.RowKit
open Go.Proofs.YtoeklnmmnmmjeaaGreat.kit Go.Proofs.YtoeklnmmnmmjeaaGreat.own
set_option linter.unusedVariables false

theorem eql_ban (x y : BanV) (w : World) : (binOp .eql 93 (.agg (bc x).toArray) (.agg (bc y).toArray)).run Tryz.prog w = .ok (.bool (decide (x = y))) w := by
  obtain ⟨k, o⟩ := x
  obtain ⟨k', o'⟩ := y
  simp only [bc]
  go_simp
  repeat' split
  all_goals simp [*]
def hasBan (xs : List BanV) (y : BanV) : Bool := xs.any fun x => decide (y = x)
def IdxB (w : World) (xs : List BanV) (y : BanV) (e : Ending) (w' : World) : Prop := ∃ i : Int, e = .returned (.int .i64 i) ∧ (decide (0 ≤ i) = hasBan xs y) ∧ Below w.heap.size w w'
set_option maxHeartbeats 8000000 in
set_option maxRecDepth 100000 in
theorem rHosts_any (v : Value) (xs : List Int) (w : World) (h : Sl ic 1 w v xs) : Calls Tryz.prog 63 #[v] w fun e w' => e = .returned (.bool (okHosts xs)) ∧ w' = w := by
  obtain ⟨hl, a, c, rfl, -, hc⟩ := h
  have HC := Lib.hid hc
  have HBad : Hid (∀ k (h : k < xs.length), (xs[k] < 0 ∨ 7 < xs[k]) → okHosts xs = false) := Lib.hid (fun k h e => by
    unfold okHosts
    have : (xs.any fun h => !okId h) = true := List.any_eq_true.2 ⟨_, List.getElem_mem h, by unfold okId inR; simp; omega⟩
    rw [this]; simp)
  have HAll : Hid ((∀ j (h : j < xs.length), 0 ≤ xs[j] ∧ xs[j] ≤ 7) → ∀ K : Nat, xs.length = K → okHosts xs = inR K 1 8) := Lib.hid (fun h K hK => by
    subst hK
    unfold okHosts
    have : (xs.any fun h => !okId h) = false := List.any_eq_false.2 (fun x hx => by
      obtain ⟨j, hj, rfl⟩ := List.getElem_of_mem hx
      have := h j hj
      unfold okId inR; simp; omega)
    rw [this]; simp)
  generalize okHosts xs = R at HBad HAll ⊢
  obtain ⟨L, hL⟩ : ∃ L, xs.length = L := ⟨_, rfl⟩
  have HL := Lib.hid hL
  rw [hL] at hl ⊢
  clear hc hL
  go_enter Tryz.func63, Tryz.ntmps63
  go_wp2
  go_loopw [3] (fun vi wr => ∃ k : Nat, k ≤ L ∧ vi = .int .i64 k ∧ Hid (∀ j (h : j < xs.length), j < k → 0 ≤ xs[j] ∧ xs[j] ≤ 7) ∧ wr = w) (fun i _ => L - (intOf i).toNat)
  case atStart => exact ⟨0, by omega, rfl, Lib.hid (fun j h h2 => by omega), rfl⟩
  case round =>
    obtain ⟨k, hk, rfl, HN, rfl⟩ := hrel
    by_cases hlt : k < L
    · have hlt' : (k : Int) < L := by omega
      have hk0 : (0 : Int) ≤ k := by omega
      have hi : k < xs.length := by rw [HL.out]; exact hlt
      obtain ⟨b, off, rfl, hbl, hcell⟩ := HC.out (by omega)
      have d1 := icell_at (hcell k hi)
      rw [Nat.mul_one] at d1
      have hbad := HBad.out k hi
      obtain ⟨y, hy⟩ : ∃ y, xs[k] = y := ⟨_, rfl⟩
      have HY := Lib.hid hy
      rw [hy] at d1 hbad
      have HBd := Lib.hid hbad
      clear hcell hbl hy hbad
      by_cases h1 : y < 0
      · have HR := Lib.hid (HBd.out (Or.inl h1))
        go_wp2
        go_ret
        exact ⟨by rw [HR.out]; rfl, rfl⟩
      · by_cases h2 : 7 < y
        · have HR := Lib.hid (HBd.out (Or.inr h2))
          go_wp2
          go_ret
          exact ⟨by rw [HR.out]; rfl, rfl⟩
        · have HN2 : Hid (∀ j (h : j < xs.length), j < k + 1 → 0 ≤ xs[j] ∧ xs[j] ≤ 7) := Lib.hid (fun j h h3 => by
            rcases Nat.lt_or_ge j k with h4 | h4
            · exact HN.out j h h4
            · obtain rfl : j = k := by omega
              rw [HY.out]; omega)
          go_wp2
          clear d1
          go_roundw
          case rel => exact ⟨k + 1, by omega, by go_num, HN2, trivial⟩
          case measure => simp [intOf]; omega
    · obtain rfl : k = L := by omega
      have HF := Lib.hid (HAll.out (fun j h => HN.out j h (by rw [← HL.out]; exact h)) _ HL.out)
      by_cases h1 : (1 : Int) ≤ k
      · by_cases h2 : (k : Int) ≤ 8
        · go_wp2
          go_ret
          exact ⟨by rw [HF.out, inR]; simp [h1, h2], rfl⟩
        · go_wp2
          go_ret
          exact ⟨by rw [HF.out, inR]; simp [h1, h2], rfl⟩
      · go_wp2
        go_ret
        exact ⟨by have h3 : inR (k : Int) 1 8 = false := by { unfold inR; rw [decide_eq_false (by omega : ¬ (1 : Int) ≤ k)]; rfl }
                  rw [HF.out, h3]; rfl, rfl⟩
end Go.Proofs.YtoeklnmmnmmjeaaGreat.crush

namespace Go.Proofs.YtoeklnmmnmmjeaaGreat.crush
open Go.RowKit
open Go.Proofs.YtoeklnmmnmmjeaaGreat.kit Go.Proofs.YtoeklnmmnmmjeaaGreat.own
set_option linter.unusedVariables false
set_option linter.unusedSimpArgs false

set_option maxHeartbeats 8000000 in
theorem rBan_any (x : BanV) (w : World) : Calls Tryz.prog 65 #[.agg (bc x).toArray] w fun e w' => e = .returned (.bool (okBan x.client x.inst)) ∧ Below w.heap.size w w' := by
  obtain ⟨c, n⟩ := x
  obtain ⟨y, hy⟩ : ∃ y, inR n 1 1073741824 = y := ⟨_, rfl⟩
  have HW := Lib.hid (fun u => rwithin_any n 1 1073741824 u)
  rw [hy] at HW
  obtain ⟨R, hR⟩ : ∃ R, okBan c n = R := ⟨_, rfl⟩
  simp only [hR, bc]
  unfold okBan okBoot at hR
  rw [hy] at hR
  have HB := Lib.hid (below_new w (.cells #[.int .i64 c, .int .i64 n] 93))
  have hcs : (c < 0 ∧ R = false) ∨ (¬ c < 0 ∧ ¬ c < 4 ∧ R = false) ∨ (¬ c < 0 ∧ c < 4 ∧ y = R) := by
    subst hR
    unfold inR
    by_cases h1 : c < 0
    · exact .inl ⟨h1, by rw [decide_eq_false (by omega : ¬ 0 ≤ c)]; rfl⟩
    · by_cases h2 : c < 4
      · exact .inr (.inr ⟨h1, h2, by rw [decide_eq_true (by omega : 0 ≤ c), decide_eq_true (by omega : c ≤ 3)]; rfl⟩)
      · exact .inr (.inl ⟨h1, h2, by rw [decide_eq_false (by omega : ¬ c ≤ 3)]; simp⟩)
  clear hR hy
  go_enter Tryz.func65, Tryz.ntmps65
  rcases hcs with ⟨h1, hr⟩ | ⟨h1, h2, hr⟩ | ⟨h1, h2, hr⟩
  all_goals
    have HR := Lib.hid hr
    clear hr
    go_wp2_with (go_at_call 64; refine (HW.out _).mono ?_; rintro e w5 ⟨rfl, rfl⟩)
    go_ret
    exact ⟨by rw [← HR.out]; rfl, HB.out⟩
set_option maxHeartbeats 8000000 in
theorem rBefore_any (x y : BanV) (w : World) : Calls Tryz.prog 66 #[.agg (bc x).toArray, .agg (bc y).toArray] w fun e w' => e = .returned (.bool (ltBan x y)) ∧ Below w.heap.size w w' := by
  obtain ⟨c, n⟩ := x
  obtain ⟨c', n'⟩ := y
  obtain ⟨R, hR⟩ : ∃ R, ltBan ⟨c, n⟩ ⟨c', n'⟩ = R := ⟨_, rfl⟩
  simp only [hR, bc]
  unfold ltBan at hR
  simp only at hR
  have HB := Lib.hid ((below_new w (.cells #[.int .i64 c, .int .i64 n] 93)).alloc (by simp) (.cells #[.int .i64 c', .int .i64 n'] 93))
  have hcs : (c < c' ∧ R = true) ∨ (¬ c < c' ∧ (True → (c == c') = false) ∧ R = false) ∨ (¬ c < c' ∧ (True → (c == c') = true) ∧ n < n' ∧ R = true) ∨ (¬ c < c' ∧ (True → (c == c') = true) ∧ ¬ n < n' ∧ R = false) := by
    subst hR
    by_cases h1 : c < c'
    · exact .inl ⟨h1, by simp [h1]⟩
    · by_cases h2 : c = c'
      · by_cases h3 : n < n'
        · exact .inr (.inr (.inl ⟨h1, fun _ => by simp [h2], h3, by simp [h2, h3]⟩))
        · exact .inr (.inr (.inr ⟨h1, fun _ => by simp [h2], h3, by simp [h2, h3]⟩))
      · exact .inr (.inl ⟨h1, fun _ => by simp [h2], by simp [h1, h2]⟩)
  clear hR
  go_enter Tryz.func66, Tryz.ntmps66
  rcases hcs with ⟨h1, hr⟩ | ⟨h1, h2, hr⟩ | ⟨h1, h2, h3, hr⟩ | ⟨h1, h2, h3, hr⟩
  all_goals
    have HR := Lib.hid hr
    clear hr
    go_wp2
    go_ret
    exact ⟨by rw [HR.out]; rfl, HB.out⟩
theorem pools_iff (l : List PoolV) : okPools l = true ↔ l.length ≤ 2 ∧ ∀ p ∈ l, okPool p = true := by
  unfold okPools
  rw [Bool.and_eq_true, decide_eq_true_eq]
  simp
/-- A storage node, as the document asks. -/
theorem osd_cases (e : Int) (o : OsdV) : (inR o.boot 0 1073741824 = false ∧ unOsd e o = true) ∨ (inR o.boot 0 1073741824 = true ∧ o.up = true ∧ (True → (o.boot == 0) = true) ∧ unOsd e o = true) ∨
    (inR o.boot 0 1073741824 = true ∧ (o.up = false ∨ (o.up = true ∧ (True → (o.boot == 0) = false))) ∧ inR o.wt 0 1048576 = false ∧ unOsd e o = true) ∨
    (inR o.boot 0 1073741824 = true ∧ (o.up = false ∨ (o.up = true ∧ (True → (o.boot == 0) = false))) ∧ inR o.wt 0 1048576 = true ∧ (inR o.thru 0 e = !(unOsd e o))) := by
  have h := unOsd_iff e o
  obtain ⟨b, u, wt, th⟩ := o
  simp only at h ⊢
  cases h1 : inR b 0 1073741824 with
  | false =>
    refine .inl ⟨rfl, ?_⟩
    cases hu : unOsd e ⟨b, u, wt, th⟩ with
    | true => rfl
    | false =>
      have := h.1 hu
      unfold inR at h1
      simp only [Bool.and_eq_false_iff, decide_eq_false_iff_not] at h1
      omega
  | true =>
    unfold inR at h1
    simp only [Bool.and_eq_true, decide_eq_true_eq] at h1
    by_cases h2 : u = true ∧ b = 0
    · refine .inr (.inl ⟨rfl, h2.1, fun _ => by simp [h2.2], ?_⟩)
      cases hu : unOsd e ⟨b, u, wt, th⟩ with
      | true => rfl
      | false =>
        have := h.1 hu
        have h3 := h2.1
        subst h3
        simp at this
        omega
    · have h2' : u = false ∨ (u = true ∧ (True → (b == 0) = false)) := by
        cases u with
        | false => exact .inl rfl
        | true => exact .inr ⟨rfl, fun _ => by simp at h2; simp [h2]⟩
      cases h3 : inR wt 0 1048576 with
      | false =>
        refine .inr (.inr (.inl ⟨rfl, h2', rfl, ?_⟩))
        cases hu : unOsd e ⟨b, u, wt, th⟩ with
        | true => rfl
        | false =>
          have := h.1 hu
          unfold inR at h3
          simp only [Bool.and_eq_false_iff, decide_eq_false_iff_not] at h3
          omega
      | true =>
        refine .inr (.inr (.inr ⟨rfl, h2', rfl, ?_⟩))
        unfold inR at h3 ⊢
        simp only [Bool.and_eq_true, decide_eq_true_eq] at h3
        cases hu : unOsd e ⟨b, u, wt, th⟩ with
        | false =>
          have := h.1 hu
          simp
          omega
        | true =>
          simp only [Bool.not_true, Bool.and_eq_false_iff, decide_eq_false_iff_not]
          by_cases h4 : 0 ≤ th
          · by_cases h5 : th ≤ e
            · have : unOsd e ⟨b, u, wt, th⟩ = false := h.2 ⟨by
                rcases h2' with hf | ⟨ht, h0⟩
                · by_cases hb : b = 0
                  · exact .inr ⟨hb, hf⟩
                  · exact .inl (by omega)
                · have := h0 trivial
                  simp at this
                  exact .inl (by omega), by omega, by omega, h4, h5⟩
              rw [hu] at this
              cases this
            · exact .inr h5
          · exact .inl h4
end Go.Proofs.YtoeklnmmnmmjeaaGreat.crush

namespace Go.Proofs.YtoeklnmmnmmjeaaGreat.crush
open Go.RowKit
open Go.Proofs.YtoeklnmmnmmjeaaGreat.kit Go.Proofs.YtoeklnmmnmmjeaaGreat.own
set_option linter.unusedVariables false
set_option linter.unusedSimpArgs false

set_option maxHeartbeats 32000000 in
set_option maxRecDepth 100000 in
theorem rFit_any (va : Value) (m : MapV) (w : World) (ha : MapR w va m) : Calls Tryz.prog 15 #[va] w fun e w' => e = .returned (.bool (okMap m)) ∧ Below w.heap.size w w' := by
  have HRA := Lib.hid ha
  obtain ⟨a1, a2, a3, a4, rfl, r1, r2, r3, r4⟩ := ha
  have HHo := Lib.hid (fun u (hu : Below w.heap.size w u) => rHosts_any a1 m.hosts u (r1.keep hu))
  obtain ⟨x1, y1, rfl⟩ := r1.slice; obtain ⟨x2, y2, rfl⟩ := r2.slice; obtain ⟨x3, y3, rfl⟩ := r3.slice; obtain ⟨x4, y4, rfl⟩ := r4.slice
  have hl2 := r2.1; have hl3 := r3.1; have hl4 := r4.1
  obtain ⟨R, hR⟩ : ∃ R, okMap m = R := ⟨_, rfl⟩
  rw [hR]
  have hF : ¬ ((0 ≤ m.epoch ∧ m.epoch ≤ 4096) ∧ okHosts m.hosts = true ∧ (m.osds.length = m.hosts.length ∧ ∀ o ∈ m.osds, unOsd m.epoch o = false) ∧ (m.pools.length ≤ 2 ∧ ∀ p ∈ m.pools, okPool p = true) ∧ okBans m.bans = true) → R = false := fun h => by
    rw [← hR]
    cases hh : okMap m with
    | false => rfl
    | true =>
      have := (okMap_iff m).1 hh
      rw [osds_iff, pools_iff] at this
      exact absurd this h
  have hT : ((0 ≤ m.epoch ∧ m.epoch ≤ 4096) ∧ okHosts m.hosts = true ∧ (m.osds.length = m.hosts.length ∧ ∀ o ∈ m.osds, unOsd m.epoch o = false) ∧ (m.pools.length ≤ 2 ∧ ∀ p ∈ m.pools, okPool p = true) ∧ okBans m.bans = true) → R = true := fun h => by
    rw [← hR, okMap_iff, osds_iff, pools_iff]
    exact h
  have HF := Lib.hid hF; have HT := Lib.hid hT
  obtain ⟨th, hth⟩ : ∃ t, okHosts m.hosts = t := ⟨_, rfl⟩
  rw [hth] at HHo
  have HTh := Lib.hid hth
  obtain ⟨k1, e1⟩ : ∃ k, m.hosts.length = k := ⟨_, rfl⟩
  obtain ⟨k2, e2⟩ : ∃ k, m.osds.length = k := ⟨_, rfl⟩
  obtain ⟨k3, e3⟩ : ∃ k, m.pools.length = k := ⟨_, rfl⟩
  obtain ⟨k4, e4⟩ : ∃ k, m.bans.length = k := ⟨_, rfl⟩
  have HK1 := Lib.hid e1; have HK2 := Lib.hid e2; have HK3 := Lib.hid e3; have HK4 := Lib.hid e4
  rw [e2] at hl2; rw [e3] at hl3; rw [e4] at hl4
  rw [e1] at HHo
  rw [e1, e2, e3, e4] at HRA ⊢
  obtain ⟨em, hem⟩ : ∃ e, m.epoch = e := ⟨_, rfl⟩
  have HEm := Lib.hid hem
  rw [hem] at HRA ⊢
  obtain ⟨te, hte⟩ : ∃ t, inR em 0 4096 = t := ⟨_, rfl⟩
  have HTe := Lib.hid hte
  have HWe := Lib.hid (fun u => rwithin_any em 0 4096 u)
  rw [hte] at HWe
  have HB := Lib.hid (below_new w (.cells #[.int .i64 em, .slice x1 k1 y1, .slice x2 k2 y2, .slice x3 k3 y3, .slice x4 k4 y4] 27))
  have HX := Lib.hid (mbox_new w 27 em (.slice x1 k1 y1) (.slice x2 k2 y2) (.slice x3 k3 y3) (.slice x4 k4 y4))
  have mixed : Tryz.prog.follows .mixedOrders = true := by kernel_rfl
  clear r1 r2 r3 r4 hR e1 e2 e3 e4 hem hth hte hF hT
  have hcs : (th = false ∧ R = false) ∨ (th = true ∧ (True → ((k2 : Int) != (k1 : Int)) = true) ∧ R = false) ∨ (th = true ∧ k2 = k1 ∧ 2 < k3 ∧ R = false) ∨ (th = true ∧ k2 = k1 ∧ ¬ 2 < k3 ∧ 64 < k4 ∧ R = false) ∨ (th = true ∧ k2 = k1 ∧ ¬ 2 < k3 ∧ ¬ 64 < k4 ∧ te = false ∧ R = false) ∨ (th = true ∧ k2 = k1 ∧ ¬ 2 < k3 ∧ ¬ 64 < k4 ∧ te = true) := by
    cases th with
    | false => exact .inl ⟨rfl, HF.out (fun h => by have := h.2.1; rw [HTh.out] at this; cases this)⟩
    | true =>
      by_cases h1 : k2 = k1
      · by_cases h2 : 2 < k3
        · exact .inr (.inr (.inl ⟨rfl, h1, h2, HF.out (fun h => by have := h.2.2.2.1.1; rw [HK3.out] at this; omega)⟩))
        · by_cases h3 : 64 < k4
          · exact .inr (.inr (.inr (.inl ⟨rfl, h1, h2, h3, HF.out (fun h => by have := ((okBans_iff _).1 h.2.2.2.2).2.2; rw [HK4.out] at this; omega)⟩)))
          · cases te with
            | false => exact .inr (.inr (.inr (.inr (.inl ⟨rfl, h1, h2, h3, rfl, HF.out (fun h => by
                have h5 := HTe.out
                have h6 := h.1
                rw [HEm.out] at h6
                unfold inR at h5
                simp only [Bool.and_eq_false_iff, decide_eq_false_iff_not] at h5
                omega)⟩))))
            | true => exact .inr (.inr (.inr (.inr (.inr ⟨rfl, h1, h2, h3, rfl⟩))))
      · exact .inr (.inl ⟨rfl, fun _ => by simp; omega, HF.out (fun h => h1 (by rw [← HK2.out, ← HK1.out]; exact h.2.2.1.1))⟩)
  go_enter Tryz.func15, Tryz.ntmps15
  rcases hcs with ⟨rfl, hr⟩ | ⟨rfl, h1, hr⟩ | ⟨rfl, rfl, h2, hr⟩ | ⟨rfl, rfl, h2, h3, hr⟩ | ⟨rfl, rfl, h2, h3, rfl, hr⟩ | ⟨rfl, rfl, h2, h3, rfl⟩
  rotate_left 5
  · go_upto_region 1 with fail
    obtain ⟨W, hW⟩ : ∃ W, (w.alloc (.cells #[.int .i64 em, .slice x1 k2 y1, .slice x2 k2 y2, .slice x3 k3 y3, .slice x4 k4 y4] 27)) = W := ⟨_, rfl⟩
    rw [hW] at HB HX ⊢
    have hb' := HB.out
    have HBw := Lib.hid (fun u (hu : Below W.heap.size W u) => HB.out.trans (hu.mono HB.out.size))
    obtain ⟨M, hM⟩ : ∃ M, w.heap.size = M := ⟨_, rfl⟩
    rw [hM] at HX ⊢
    obtain ⟨c0, c1, c2, c3, c4⟩ := HX.out.cells
    clear hW hM hb'
    have HTk : Hid (m.osds.length = m.hosts.length) := Lib.hid (by rw [HK2.out, HK1.out])
    go_upto_region 3 with (first
      | (go_at_call 63; refine (HHo.out _ HB.out).mono ?_; rintro e w5 ⟨rfl, rfl⟩)
      | (go_at_call 64; refine (HWe.out _).mono ?_; rintro e w5 ⟨rfl, rfl⟩))
    obtain ⟨W, rfl⟩ : ∃ V, V = w5 := ⟨_, rfl⟩
    go_wp2
    clear c0 c1 c2 c3 c4
    go_loopw [3] (fun vi wr => ∃ k : Nat, k ≤ k2 ∧ vi = .int .i64 k ∧ Hid (∀ j (hx : j < m.osds.length), j < k → unOsd em m.osds[j] = false) ∧ Below W.heap.size W wr) (fun i _ => k2 - (intOf i).toNat)
    case atStart => exact ⟨0, by omega, rfl, Lib.hid (fun j _ h => absurd h (Nat.not_lt_zero _)), Below.refl _ _⟩
    case round =>
      obtain ⟨k, hk, rfl, HN1, hbw⟩ := hrel
      have HBr := Lib.hid hbw
      obtain ⟨c0, c1, c2, c3, c4⟩ := (HX.out.keep hbw).cells
      by_cases hlt : k < k2
      · have hlt' : (k : Int) < k2 := by omega
        have hk0 : (0 : Int) ≤ k := by omega
        have hi : k < m.osds.length := by rw [HK2.out]; exact hlt
        obtain ⟨b1, o1, z1, hl1, hr1⟩ := sl_elem (mapR_rows (HRA.out.keep (HBw.out _ hbw))).2.1 k hi
        cases z1
        obtain ⟨x, hx⟩ : ∃ x, m.osds[k] = x := ⟨_, rfl⟩
        have HXx := Lib.hid hx
        have hc := osd_cases em x
        rw [hx] at hr1
        have HW1 := Lib.hid (fun u => rwithin_any x.boot 0 1073741824 u)
        have HW2 := Lib.hid (fun u => rwithin_any x.wt 0 1048576 u)
        have HW3 := Lib.hid (fun u => rwithin_any x.thru 0 em u)
        obtain ⟨t1, g1⟩ : ∃ t, inR x.boot 0 1073741824 = t := ⟨_, rfl⟩
        obtain ⟨t2, g2⟩ : ∃ t, inR x.wt 0 1048576 = t := ⟨_, rfl⟩
        obtain ⟨t3, g3⟩ : ∃ t, inR x.thru 0 em = t := ⟨_, rfl⟩
        obtain ⟨r, hr⟩ : ∃ r, unOsd em x = r := ⟨_, rfl⟩
        have HR := Lib.hid hr
        rw [g1] at HW1 hc; rw [g2] at HW2 hc; rw [g3] at HW3 hc
        rw [hr] at hc
        clear hx g1 g2 g3 hr
        obtain ⟨fa, fb, fc, fd⟩ := x
        simp only at HW1 HW2 HW3 hc
        have g0 : wr.cell? ⟨b1, o1 + k * 4, none⟩ = some (.int .i64 fa) := hr1 0 _ rfl
        have g1 : wr.cell? ⟨b1, o1 + k * 4 + 1, none⟩ = some (.bool fb) := hr1 1 _ rfl
        have g2 : wr.cell? ⟨b1, o1 + k * 4 + 2, none⟩ = some (.int .i64 fc) := hr1 2 _ rfl
        have g3 : wr.cell? ⟨b1, o1 + k * 4 + 3, none⟩ = some (.int .i64 fd) := hr1 3 _ rfl
        have hb6 := below_new wr (.cells #[.int .i64 fa, .bool fb, .int .i64 fc, .int .i64 fd] 74)
        have hx6 := alloc_at wr (.cells #[.int .i64 fa, .bool fb, .int .i64 fc, .int .i64 fd] 74)
        have HB6 := Lib.hid (hbw.trans (hb6.mono hbw.size)); have HX6 := Lib.hid hx6
        clear hr1 hl1 hb6 hx6
        go_upto_region 7 with fail
        generalize (wr.alloc (.cells #[.int .i64 fa, .bool fb, .int .i64 fc, .int .i64 fd] 74)) = W6 at HB6 HX6 ⊢
        generalize wr.heap.size = X6 at HX6 ⊢
        clear g0 g1 g2 g3 c0 c1 c2 c3 c4
        obtain ⟨c0, c1, c2, c3, c4⟩ := (HX.out.keep HB6.out).cells
        have s0 : W6.cell? ⟨X6, 0, none⟩ = some (.int .i64 fa) := by simp [World.cell?, HX6.out]
        have s1 : W6.cell? ⟨X6, 1, none⟩ = some (.bool fb) := by simp [World.cell?, HX6.out]
        have s2 : W6.cell? ⟨X6, 2, none⟩ = some (.int .i64 fc) := by simp [World.cell?, HX6.out]
        have s3 : W6.cell? ⟨X6, 3, none⟩ = some (.int .i64 fd) := by simp [World.cell?, HX6.out]
        have HBad : Hid (r = true → R = false) := Lib.hid (fun h => HF.out (fun h2 => by
          have h3 := h2.2.2.1.2 m.osds[k] (List.getElem_mem hi)
          rw [HEm.out, HXx.out, HR.out, h] at h3
          cases h3))
        have HGood : Hid (r = false → ∀ j (hx : j < m.osds.length), j < k + 1 → unOsd em m.osds[j] = false) := Lib.hid (fun h j hx h4 => by
          rcases Nat.lt_or_ge j k with h3 | h3
          · exact HN1.out j hx h3
          · obtain rfl : j = k := by omega
            rw [HXx.out, HR.out, h])
        have hc' : ((t1 = false ∨ (t1 = true ∧ fb = true ∧ (True → (fa == 0) = true)) ∨ (t1 = true ∧ fb = false ∧ t2 = false) ∨ (t1 = true ∧ fb = true ∧ (True → (fa == 0) = false) ∧ t2 = false) ∨ (t1 = true ∧ fb = false ∧ t2 = true ∧ t3 = false) ∨ (t1 = true ∧ fb = true ∧ (True → (fa == 0) = false) ∧ t2 = true ∧ t3 = false)) ∧ r = true) ∨ (((t1 = true ∧ fb = false ∧ t2 = true ∧ t3 = true) ∨ (t1 = true ∧ fb = true ∧ (True → (fa == 0) = false) ∧ t2 = true ∧ t3 = true)) ∧ r = false) := by
          rcases hc with ⟨h1, h2⟩ | ⟨h1, h2, h3, h4⟩ | ⟨h1, h2 | ⟨h2, h3⟩, h4, h5⟩ | ⟨h1, h2 | ⟨h2, h3⟩, h4, h5⟩
          · exact .inl ⟨.inl h1, h2⟩
          · exact .inl ⟨.inr (.inl ⟨h1, h2, h3⟩), h4⟩
          · exact .inl ⟨.inr (.inr (.inl ⟨h1, h2, h4⟩)), h5⟩
          · exact .inl ⟨.inr (.inr (.inr (.inl ⟨h1, h2, h3, h4⟩))), h5⟩
          · cases r with
            | true => exact .inl ⟨.inr (.inr (.inr (.inr (.inl ⟨h1, h2, h4, h5⟩)))), rfl⟩
            | false => exact .inr ⟨.inl ⟨h1, h2, h4, h5⟩, rfl⟩
          · cases r with
            | true => exact .inl ⟨.inr (.inr (.inr (.inr (.inr ⟨h1, h2, h3, h4, h5⟩)))), rfl⟩
            | false => exact .inr ⟨.inr ⟨h1, h2, h3, h4, h5⟩, rfl⟩
        clear hc hbw
        rcases hc' with ⟨hc, rfl⟩ | ⟨hc, rfl⟩
        · have HRf := Lib.hid (HBad.out rfl)
          rcases hc with rfl | ⟨rfl, rfl, h0⟩ | ⟨rfl, rfl, rfl⟩ | ⟨rfl, rfl, h0, rfl⟩ | ⟨rfl, rfl, rfl, rfl⟩ | ⟨rfl, rfl, h0, rfl, rfl⟩
          all_goals
            go_wp2_with (go_at_call 64; first | (with_reducible refine (HW1.out _).mono ?_; rintro e w5 ⟨rfl, rfl⟩) | (with_reducible refine (HW2.out _).mono ?_; rintro e w5 ⟨rfl, rfl⟩) | (with_reducible refine (HW3.out _).mono ?_; rintro e w5 ⟨rfl, rfl⟩))
            go_ret
            exact ⟨by rw [HRf.out]; rfl, HBw.out _ HB6.out⟩
        · have HN2 := Lib.hid (HGood.out rfl)
          rcases hc with ⟨rfl, rfl, rfl, rfl⟩ | ⟨rfl, rfl, h0, rfl, rfl⟩
          all_goals
            go_wp2_with (go_at_call 64; first | (with_reducible refine (HW1.out _).mono ?_; rintro e w5 ⟨rfl, rfl⟩) | (with_reducible refine (HW2.out _).mono ?_; rintro e w5 ⟨rfl, rfl⟩) | (with_reducible refine (HW3.out _).mono ?_; rintro e w5 ⟨rfl, rfl⟩))
            clear c0 c1 c2 c3 c4 s0 s1 s2 s3
            go_roundw
            case rel => exact ⟨k + 1, by omega, by go_num, HN2, HB6.out⟩
            case measure => simp [intOf]; omega
      · have hlt' : ¬ ((k : Int) < k2) := by omega
        have HOs : Hid (∀ o ∈ m.osds, unOsd m.epoch o = false) := Lib.hid (fun o ho => by
          obtain ⟨j, hj, rfl⟩ := List.getElem_of_mem ho
          rw [HEm.out]
          exact HN1.out j hj (by have := HK2.out; omega))
        have HX1 := Lib.hid (HX.out.keep hbw)
        have hbw1 := hbw
        have HX := HX1
        clear hbw HBr HX1 HN1
        obtain ⟨W1, rfl⟩ : ∃ V, V = wr := ⟨_, rfl⟩
        have HBw0 := HBw
        have HBw := Lib.hid (fun u (hu : Below W1.heap.size W1 u) => HBw0.out u (hbw1.trans (hu.mono hbw1.size)))
        go_wp2
        clear c0 c1 c2 c3 c4
        go_loopw [5] (fun vi wr => ∃ k : Nat, k ≤ k3 ∧ vi = .int .i64 k ∧ Hid (∀ j (hx : j < m.pools.length), j < k → okPool m.pools[j] = true) ∧ Below W1.heap.size W1 wr) (fun i _ => k3 - (intOf i).toNat)
        case atStart => exact ⟨0, by omega, rfl, Lib.hid (fun j _ h => absurd h (Nat.not_lt_zero _)), Below.refl _ _⟩
        case round =>
          obtain ⟨k, hk, rfl, HN2, hbw⟩ := hrel
          have HBr := Lib.hid hbw
          obtain ⟨c0, c1, c2, c3, c4⟩ := (HX.out.keep hbw).cells
          by_cases hlt : k < k3
          · have hlt' : (k : Int) < k3 := by omega
            have hk0 : (0 : Int) ≤ k := by omega
            have hi : k < m.pools.length := by rw [HK3.out]; exact hlt
            obtain ⟨b1, o1, z1, hl1, hr1⟩ := sl_elem (mapR_rows (HRA.out.keep (HBw.out _ hbw))).2.2.1 k hi
            cases z1
            obtain ⟨x, hx⟩ : ∃ x, m.pools[k] = x := ⟨_, rfl⟩
            have HXx := Lib.hid hx
            rw [hx] at hr1
            have HP := Lib.hid (fun u => rPool_any x u)
            obtain ⟨t1, ht1⟩ : ∃ t, okPool x = t := ⟨_, rfl⟩
            have HT1 := Lib.hid ht1
            rw [ht1] at HP
            clear hx ht1
            obtain ⟨fa, fb, fc, fd⟩ := x
            unfold PoolV.val at HP
            simp only at HP
            have g0 : wr.cell? ⟨b1, o1 + k * 4, none⟩ = some (.int .i64 fa) := hr1 0 _ rfl
            have g1 : wr.cell? ⟨b1, o1 + k * 4 + 1, none⟩ = some (.int .i64 fb) := hr1 1 _ rfl
            have g2 : wr.cell? ⟨b1, o1 + k * 4 + 2, none⟩ = some (.int .i64 fc) := hr1 2 _ rfl
            have g3 : wr.cell? ⟨b1, o1 + k * 4 + 3, none⟩ = some (.int .i64 fd) := hr1 3 _ rfl
            clear hr1 hl1 hbw
            cases t1 with
            | false =>
              have HRf : Hid (R = false) := Lib.hid (HF.out (fun h2 => by
                have h3 := h2.2.2.2.1.2 m.pools[k] (List.getElem_mem hi)
                rw [HXx.out, HT1.out] at h3
                cases h3))
              go_wp2_with (go_at_call 19; refine (HP.out _).mono ?_; rintro e w5 ⟨rfl, hb⟩; have HB5 := Lib.hid (HBr.out.trans (hb.mono HBr.out.size)); clear hb)
              go_ret
              exact ⟨by rw [HRf.out]; rfl, HBw.out _ HB5.out⟩
            | true =>
              have HN3 : Hid (∀ j (hx : j < m.pools.length), j < k + 1 → okPool m.pools[j] = true) := Lib.hid (fun j hx h4 => by
                rcases Nat.lt_or_ge j k with h3 | h3
                · exact HN2.out j hx h3
                · obtain rfl : j = k := by omega
                  rw [HXx.out, HT1.out])
              go_wp2_with (go_at_call 19; refine (HP.out _).mono ?_; rintro e w5 ⟨rfl, hb⟩; have HB5 := Lib.hid (HBr.out.trans (hb.mono HBr.out.size)); clear hb)
              clear c0 c1 c2 c3 c4 g0 g1 g2 g3
              go_roundw
              case rel => exact ⟨k + 1, by omega, by go_num, HN3, HB5.out⟩
              case measure => simp [intOf]; omega
          · have hlt' : ¬ ((k : Int) < k3) := by omega
            have HPs : Hid (m.pools.length ≤ 2 ∧ ∀ p ∈ m.pools, okPool p = true) := Lib.hid ⟨by have := HK3.out; omega, fun p hp => by
              obtain ⟨j, hj, rfl⟩ := List.getElem_of_mem hp
              exact HN2.out j hj (by have := HK3.out; omega)⟩
            have HX2 := Lib.hid (HX.out.keep hbw)
            have hbw2 := hbw
            clear hbw HBr HN2
            obtain ⟨W2, rfl⟩ : ∃ V, V = wr := ⟨_, rfl⟩
            have HBw2 := Lib.hid (fun u (hu : Below W2.heap.size W2 u) => HBw.out u (hbw2.trans (hu.mono hbw2.size)))
            go_wp2
            clear c0 c1 c2 c3 c4
            go_loopw [6] (fun vi wr => ∃ k : Nat, k ≤ k4 ∧ vi = .int .i64 k ∧ Hid (okBansF m.bans k = true) ∧ Below W2.heap.size W2 wr) (fun i _ => k4 - (intOf i).toNat)
            case atStart => exact ⟨0, by omega, rfl, Lib.hid rfl, Below.refl _ _⟩
            case round =>
              obtain ⟨k, hk, rfl, HN3, hbw⟩ := hrel
              have HBr := Lib.hid hbw
              obtain ⟨c0, c1, c2, c3, c4⟩ := (HX2.out.keep hbw).cells
              by_cases hlt : k < k4
              · have hlt' : (k : Int) < k4 := by omega
                have hk0 : (0 : Int) ≤ k := by omega
                have hi : k < m.bans.length := by rw [HK4.out]; exact hlt
                have hsl := (mapR_rows (HRA.out.keep (HBw2.out _ hbw))).2.2.2
                obtain ⟨b1, o1, z1, hl1, hr1⟩ := sl_elem hsl k hi
                cases z1
                have HRo : Hid (∀ j (hj : j < m.bans.length) u, Below wr.heap.size wr u → u.rangeAt b1 (o1 + j * 2) (bc m.bans[j])) := Lib.hid (fun j hj u hu => by
                  obtain ⟨b2, o2, z2, hl2, hr2⟩ := sl_elem hsl j hj
                  cases z2
                  exact range_keep hr2 hl2 hu)
                have HXu : Hid (∀ u, Below wr.heap.size wr u → u.cell? ⟨M, 4, none⟩ = some (.slice (some (⟨b1, o1, none⟩ : Addr)) k4 y4)) := Lib.hid (fun u hu => ((HX2.out.keep hbw).keep hu).cells.2.2.2.2)
                obtain ⟨x, hx⟩ : ∃ x, m.bans[k] = x := ⟨_, rfl⟩
                have hst := okBansF_step hi
                rw [hx, HN3.out, Bool.true_and] at hst
                have hcl := fun u hu => HRo.out k hi u hu
                rw [hx] at hcl
                have hba := fun u => rBan_any x u
                obtain ⟨q1, hq1⟩ : ∃ q, okBan x.client x.inst = q := ⟨_, rfl⟩
                rw [hq1] at hst hba
                have HBaS : Hid (∀ kk, k < kk → okBansF m.bans (k + 1) = false → R = false) := Lib.hid (fun _ _ h => HF.out (fun h2 => by
                  have h3 := h2.2.2.2.2
                  unfold okBans at h3
                  rw [okBansF_false h m.bans.length (by omega)] at h3
                  cases h3))
                obtain ⟨xc, xn⟩ := x
                simp only [bc] at hba
                have HSt := Lib.hid hst; have HBa := Lib.hid hba
                have HCx : Hid (∀ u, Below wr.heap.size wr u → u.cell? ⟨b1, o1 + k * 2, none⟩ = some (.int .i64 xc) ∧ u.cell? ⟨b1, o1 + k * 2 + 1, none⟩ = some (.int .i64 xn)) := Lib.hid (fun u hu => ⟨by have := hcl u hu 0 _ rfl; simpa using this, hcl u hu 1 _ rfl⟩)
                have HD := Lib.hid (below_drew (Below.refl wr.heap.size wr))
                clear hst hba hcl hsl hr1 hl1 hq1 hbw c0 c1 c2 c3
                cases q1 with
                | false =>
                  have HRf := Lib.hid (HBaS.out (k + 1) (by omega) (by rw [HSt.out]; rfl))
                  clear HRo
                  go_upto_region 17 with fail; clear c4
                  --R17F
                  refine wp_region_held_drew (S := fun u => (u.cell? ⟨M, 4, none⟩ = some (.slice (some (⟨b1, o1, none⟩ : Addr)) k4 y4)) ∧ u.cell? ⟨b1, o1 + k * 2, none⟩ = some (.int .i64 xc) ∧ u.cell? ⟨b1, o1 + k * 2 + 1, none⟩ = some (.int .i64 xn)) (by kernel_rfl) (⟨HXu.out _ HD.out, HCx.out _ HD.out⟩) (fun hHeld => ?_)
                  refine wpAnyH_take (i := 0) (oi := { dst := some 98, op := Op.fieldAddr 27 (Operand.tmp 1) 4, type := 0, pos := "ref.go:72", after := #[], guard := none }) (v := ?_) rfl (by kernel_rfl) (by kernel_rfl) (by kernel_rfl) (fun _ _ _ h => h) (Or.inl ⟨by rfl, ?_⟩) hHeld ?_
                  rotate_left 1
                  · intro W hSw
                    (try dsimp only at hSw)
                    go_simp
                    try with_reducible rfl
                  try simp only [Act.put, List.setIfInBounds_toArray, List.set_cons_zero, List.set_cons_succ]
                  refine wpAnyH_take (i := 1) (oi := { dst := some 99, op := Op.load 25 (Operand.tmp 98), type := 25, pos := "ref.go:72", after := #[{ on := 0, ground := Ground.data }], guard := none }) (v := ?_) rfl (by kernel_rfl) (by kernel_rfl) (by kernel_rfl) (fun _ _ _ h => h) (Or.inl ⟨by rfl, ?_⟩) hHeld ?_
                  rotate_left 1
                  · intro W hSw
                    (try dsimp only at hSw)
                    go_simp
                    try with_reducible rfl
                  try simp only [Act.put, List.setIfInBounds_toArray, List.set_cons_zero, List.set_cons_succ]
                  refine wpAnyH_take (i := 2) (oi := { dst := some 100, op := Op.move (Operand.tmp 6), type := 3, pos := "ref.go:72", after := #[], guard := none }) (v := ?_) rfl (by kernel_rfl) (by kernel_rfl) (by kernel_rfl) (fun _ _ _ h => h) (Or.inl ⟨by rfl, ?_⟩) hHeld ?_
                  rotate_left 1
                  · intro W hSw
                    (try dsimp only at hSw)
                    go_simp
                    try with_reducible rfl
                  try simp only [Act.put, List.setIfInBounds_toArray, List.set_cons_zero, List.set_cons_succ]
                  refine wpAnyH_take (i := 3) (oi := { dst := some 101, op := Op.indexAddr 25 (Operand.tmp 99) (Operand.tmp 100), type := 0, pos := "ref.go:72", after := #[{ on := 1, ground := Ground.data }, { on := 2, ground := Ground.data }], guard := none }) (v := ?_) rfl (by kernel_rfl) (by kernel_rfl) (by kernel_rfl) (fun _ _ _ h => h) (Or.inl ⟨by rfl, ?_⟩) hHeld ?_
                  rotate_left 1
                  · intro W hSw
                    (try dsimp only at hSw)
                    go_simp
                    try with_reducible rfl
                  try simp only [Act.put, List.setIfInBounds_toArray, List.set_cons_zero, List.set_cons_succ]
                  refine wpAnyH_take (i := 4) (oi := { dst := some 102, op := Op.load 93 (Operand.tmp 101), type := 93, pos := "ref.go:72", after := #[{ on := 3, ground := Ground.data }], guard := none }) (v := ?_) rfl (by kernel_rfl) (by kernel_rfl) (by kernel_rfl) (fun _ _ _ h => h) (Or.inl ⟨by rfl, ?_⟩) hHeld ?_
                  rotate_left 1
                  · intro W hSw
                    (try dsimp only at hSw)
                    go_simp
                    try with_reducible rfl
                  try simp only [Act.put, List.setIfInBounds_toArray, List.set_cons_zero, List.set_cons_succ]
                  refine wpAnyH_ready (rs := [5]) (by kernel_rfl) (by simp) ?_
                  refine AllReadyH.cons (o := { dst := some 103, op := Op.call { callee := Callee.value (Operand.func 65), args := #[Operand.tmp 102], argTypes := #[93] }, type := 4, pos := "ref.go:72", after := #[{ on := 4, ground := Ground.data }], guard := none }) rfl (fun K7 hK7 => ?_) ?_
                  · go_simp
                    refine (HBa.out _).mono ?_
                    rintro e w1 ⟨rfl, hb⟩
                    have HB1 : Hid (Below wr.heap.size wr w1) := Lib.hid (HD.out.trans (hb.mono HD.out.size))
                    clear hb
                    try dsimp only
                    refine hK7.out _ _ (⟨HXu.out _ HB1.out, HCx.out _ HB1.out⟩) (fun hHeld => ?_)
                    clear hK7 K7
                    try simp only [Act.put, List.setIfInBounds_toArray, List.set_cons_zero, List.set_cons_succ]
                    refine wpAnyH_take (i := 6) (oi := { dst := some 104, op := Op.unOp UnOp.not 4 (Operand.tmp 103), type := 4, pos := "ref.go:72", after := #[{ on := 5, ground := Ground.data }], guard := none }) (v := ?_) rfl (by kernel_rfl) (by kernel_rfl) (by kernel_rfl) (fun _ _ _ h => h) (Or.inl ⟨by rfl, ?_⟩) hHeld ?_
                    rotate_left 1
                    · intro W hSw
                      (try dsimp only at hSw)
                      go_simp
                      try with_reducible rfl
                    try simp only [Act.put, List.setIfInBounds_toArray, List.set_cons_zero, List.set_cons_succ]
                    refine wpAnyH_take (i := 7) (oi := { dst := some 105, op := Op.move (Operand.tmp 104), type := 4, pos := "ref.go:72", after := #[{ on := 6, ground := Ground.data }, { on := 5, ground := Ground.chain }], guard := none }) (v := ?_) rfl (by kernel_rfl) (by kernel_rfl) (by kernel_rfl) (fun _ _ _ h => h) (Or.inl ⟨by rfl, ?_⟩) hHeld ?_
                    rotate_left 1
                    · intro W hSw
                      (try dsimp only at hSw)
                      go_simp
                      try with_reducible rfl
                    try simp only [Act.put, List.setIfInBounds_toArray, List.set_cons_zero, List.set_cons_succ]
                    refine wpAnyH_take (i := 8) (oi := { dst := some 106, op := Op.move (Operand.tmp 6), type := 3, pos := "ref.go:72", after := #[{ on := 7, ground := Ground.guard }], guard := some (7, false) }) (v := undef) rfl (by kernel_rfl) (by kernel_rfl) (by kernel_rfl) (fun _ _ _ h => h) (Or.inr ⟨by rfl, rfl⟩) hHeld ?_
                    try simp only [Act.put, List.setIfInBounds_toArray, List.set_cons_zero, List.set_cons_succ]
                    refine wpAnyH_take (i := 9) (oi := { dst := some 107, op := Op.binOp BinOp.gtr 3 (Operand.tmp 106) (Operand.const (Value.int IntKind.i64 0)) 3, type := 4, pos := "ref.go:72", after := #[{ on := 8, ground := Ground.data }, { on := 7, ground := Ground.guard }], guard := some (7, false) }) (v := undef) rfl (by kernel_rfl) (by kernel_rfl) (by kernel_rfl) (fun _ _ _ h => h) (Or.inr ⟨by rfl, rfl⟩) hHeld ?_
                    try simp only [Act.put, List.setIfInBounds_toArray, List.set_cons_zero, List.set_cons_succ]
                    refine wpAnyH_take (i := 10) (oi := { dst := some 108, op := Op.move (Operand.tmp 107), type := 4, pos := "ref.go:72", after := #[{ on := 9, ground := Ground.data }, { on := 7, ground := Ground.chain }, { on := 7, ground := Ground.guard }], guard := some (7, false) }) (v := undef) rfl (by kernel_rfl) (by kernel_rfl) (by kernel_rfl) (fun _ _ _ h => h) (Or.inr ⟨by rfl, rfl⟩) hHeld ?_
                    try simp only [Act.put, List.setIfInBounds_toArray, List.set_cons_zero, List.set_cons_succ]
                    refine wpAnyH_take (i := 11) (oi := { dst := some 109, op := Op.fieldAddr 27 (Operand.tmp 1) 4, type := 0, pos := "ref.go:72", after := #[{ on := 10, ground := Ground.guard }], guard := some (10, true) }) (v := undef) rfl (by kernel_rfl) (by kernel_rfl) (by kernel_rfl) (fun _ _ _ h => h) (Or.inr ⟨by rfl, rfl⟩) hHeld ?_
                    try simp only [Act.put, List.setIfInBounds_toArray, List.set_cons_zero, List.set_cons_succ]
                    refine wpAnyH_take (i := 12) (oi := { dst := some 110, op := Op.load 25 (Operand.tmp 109), type := 25, pos := "ref.go:72", after := #[{ on := 11, ground := Ground.data }, { on := 10, ground := Ground.guard }], guard := some (10, true) }) (v := undef) rfl (by kernel_rfl) (by kernel_rfl) (by kernel_rfl) (fun _ _ _ h => h) (Or.inr ⟨by rfl, rfl⟩) hHeld ?_
                    try simp only [Act.put, List.setIfInBounds_toArray, List.set_cons_zero, List.set_cons_succ]
                    refine wpAnyH_take (i := 13) (oi := { dst := some 111, op := Op.move (Operand.tmp 6), type := 3, pos := "ref.go:72", after := #[{ on := 10, ground := Ground.guard }], guard := some (10, true) }) (v := undef) rfl (by kernel_rfl) (by kernel_rfl) (by kernel_rfl) (fun _ _ _ h => h) (Or.inr ⟨by rfl, rfl⟩) hHeld ?_
                    try simp only [Act.put, List.setIfInBounds_toArray, List.set_cons_zero, List.set_cons_succ]
                    refine wpAnyH_take (i := 14) (oi := { dst := some 112, op := Op.binOp BinOp.sub 3 (Operand.tmp 111) (Operand.const (Value.int IntKind.i64 1)) 3, type := 3, pos := "ref.go:72", after := #[{ on := 13, ground := Ground.data }, { on := 10, ground := Ground.guard }], guard := some (10, true) }) (v := undef) rfl (by kernel_rfl) (by kernel_rfl) (by kernel_rfl) (fun _ _ _ h => h) (Or.inr ⟨by rfl, rfl⟩) hHeld ?_
                    try simp only [Act.put, List.setIfInBounds_toArray, List.set_cons_zero, List.set_cons_succ]
                    refine wpAnyH_take (i := 15) (oi := { dst := some 113, op := Op.indexAddr 25 (Operand.tmp 110) (Operand.tmp 112), type := 0, pos := "ref.go:72", after := #[{ on := 12, ground := Ground.data }, { on := 14, ground := Ground.data }, { on := 10, ground := Ground.guard }], guard := some (10, true) }) (v := undef) rfl (by kernel_rfl) (by kernel_rfl) (by kernel_rfl) (fun _ _ _ h => h) (Or.inr ⟨by rfl, rfl⟩) hHeld ?_
                    try simp only [Act.put, List.setIfInBounds_toArray, List.set_cons_zero, List.set_cons_succ]
                    refine wpAnyH_take (i := 16) (oi := { dst := some 114, op := Op.load 93 (Operand.tmp 113), type := 93, pos := "ref.go:72", after := #[{ on := 15, ground := Ground.data }, { on := 10, ground := Ground.guard }], guard := some (10, true) }) (v := undef) rfl (by kernel_rfl) (by kernel_rfl) (by kernel_rfl) (fun _ _ _ h => h) (Or.inr ⟨by rfl, rfl⟩) hHeld ?_
                    try simp only [Act.put, List.setIfInBounds_toArray, List.set_cons_zero, List.set_cons_succ]
                    refine wpAnyH_take (i := 17) (oi := { dst := some 115, op := Op.fieldAddr 27 (Operand.tmp 1) 4, type := 0, pos := "ref.go:72", after := #[{ on := 10, ground := Ground.guard }], guard := some (10, true) }) (v := undef) rfl (by kernel_rfl) (by kernel_rfl) (by kernel_rfl) (fun _ _ _ h => h) (Or.inr ⟨by rfl, rfl⟩) hHeld ?_
                    try simp only [Act.put, List.setIfInBounds_toArray, List.set_cons_zero, List.set_cons_succ]
                    refine wpAnyH_take (i := 18) (oi := { dst := some 116, op := Op.load 25 (Operand.tmp 115), type := 25, pos := "ref.go:72", after := #[{ on := 17, ground := Ground.data }, { on := 10, ground := Ground.guard }], guard := some (10, true) }) (v := undef) rfl (by kernel_rfl) (by kernel_rfl) (by kernel_rfl) (fun _ _ _ h => h) (Or.inr ⟨by rfl, rfl⟩) hHeld ?_
                    try simp only [Act.put, List.setIfInBounds_toArray, List.set_cons_zero, List.set_cons_succ]
                    refine wpAnyH_take (i := 19) (oi := { dst := some 117, op := Op.move (Operand.tmp 6), type := 3, pos := "ref.go:72", after := #[{ on := 10, ground := Ground.guard }], guard := some (10, true) }) (v := undef) rfl (by kernel_rfl) (by kernel_rfl) (by kernel_rfl) (fun _ _ _ h => h) (Or.inr ⟨by rfl, rfl⟩) hHeld ?_
                    try simp only [Act.put, List.setIfInBounds_toArray, List.set_cons_zero, List.set_cons_succ]
                    refine wpAnyH_take (i := 20) (oi := { dst := some 118, op := Op.indexAddr 25 (Operand.tmp 116) (Operand.tmp 117), type := 0, pos := "ref.go:72", after := #[{ on := 18, ground := Ground.data }, { on := 19, ground := Ground.data }, { on := 10, ground := Ground.guard }], guard := some (10, true) }) (v := undef) rfl (by kernel_rfl) (by kernel_rfl) (by kernel_rfl) (fun _ _ _ h => h) (Or.inr ⟨by rfl, rfl⟩) hHeld ?_
                    try simp only [Act.put, List.setIfInBounds_toArray, List.set_cons_zero, List.set_cons_succ]
                    refine wpAnyH_take (i := 21) (oi := { dst := some 119, op := Op.load 93 (Operand.tmp 118), type := 93, pos := "ref.go:72", after := #[{ on := 20, ground := Ground.data }, { on := 10, ground := Ground.guard }], guard := some (10, true) }) (v := undef) rfl (by kernel_rfl) (by kernel_rfl) (by kernel_rfl) (fun _ _ _ h => h) (Or.inr ⟨by rfl, rfl⟩) hHeld ?_
                    try simp only [Act.put, List.setIfInBounds_toArray, List.set_cons_zero, List.set_cons_succ]
                    refine wpAnyH_take (i := 22) (oi := { dst := some 120, op := Op.call { callee := Callee.value (Operand.func 66), args := #[Operand.tmp 114, Operand.tmp 119], argTypes := #[93, 93] }, type := 4, pos := "ref.go:72", after := #[{ on := 16, ground := Ground.data }, { on := 21, ground := Ground.data }, { on := 10, ground := Ground.chain }, { on := 10, ground := Ground.guard }], guard := some (10, true) }) (v := undef) rfl (by kernel_rfl) (by kernel_rfl) (by kernel_rfl) (fun _ _ _ h => h) (Or.inr ⟨by rfl, rfl⟩) hHeld ?_
                    try simp only [Act.put, List.setIfInBounds_toArray, List.set_cons_zero, List.set_cons_succ]
                    refine wpAnyH_take (i := 23) (oi := { dst := some 121, op := Op.unOp UnOp.not 4 (Operand.tmp 120), type := 4, pos := "ref.go:72", after := #[{ on := 22, ground := Ground.data }, { on := 10, ground := Ground.guard }], guard := some (10, true) }) (v := undef) rfl (by kernel_rfl) (by kernel_rfl) (by kernel_rfl) (fun _ _ _ h => h) (Or.inr ⟨by rfl, rfl⟩) hHeld ?_
                    try simp only [Act.put, List.setIfInBounds_toArray, List.set_cons_zero, List.set_cons_succ]
                    refine wpAnyH_take (i := 24) (oi := { dst := some 122, op := Op.pick (Operand.tmp 108) (Operand.tmp 121) (Operand.const (Value.bool false)), type := 4, pos := "ref.go:72", after := #[{ on := 10, ground := Ground.data }, { on := 23, ground := Ground.data }, { on := 7, ground := Ground.guard }], guard := some (7, false) }) (v := undef) rfl (by kernel_rfl) (by kernel_rfl) (by kernel_rfl) (fun _ _ _ h => h) (Or.inr ⟨by rfl, rfl⟩) hHeld ?_
                    try simp only [Act.put, List.setIfInBounds_toArray, List.set_cons_zero, List.set_cons_succ]
                    refine wpAnyH_take (i := 25) (oi := { dst := some 123, op := Op.pick (Operand.tmp 105) (Operand.const (Value.bool true)) (Operand.tmp 122), type := 4, pos := "ref.go:72", after := #[{ on := 7, ground := Ground.data }, { on := 24, ground := Ground.data }], guard := none }) (v := ?_) rfl (by kernel_rfl) (by kernel_rfl) (by kernel_rfl) (fun _ _ _ h => h) (Or.inl ⟨by rfl, ?_⟩) hHeld ?_
                    rotate_left 1
                    · intro W hSw
                      (try dsimp only at hSw)
                      go_simp
                      try with_reducible rfl
                    try simp only [Act.put, List.setIfInBounds_toArray, List.set_cons_zero, List.set_cons_succ]
                    refine wpAnyH_done (by kernel_rfl) ?_ _
                    have HB9 := Lib.hid (HBr.out.trans (HB1.out.mono HBr.out.size))
                    clear hHeld
                    go_wp2
                    go_ret
                    exact ⟨by rw [HRf.out]; rfl, HBw2.out _ HB9.out⟩
                  exact AllReadyH.nil
                  --R17FE
                | true =>
                  have hst := HSt.out
                  rw [Bool.true_and] at hst
                  cases k with
                  | zero =>
                    have HN4 : Hid (okBansF m.bans 1 = true) := Lib.hid (by rw [hst]; rfl)
                    clear HRo hst
                    simp only [Nat.zero_mul, Nat.add_zero] at HCx
                    go_upto_region 17 with fail; clear c4
                    --R17Z
                    refine wp_region_held_drew (S := fun u => (u.cell? ⟨M, 4, none⟩ = some (.slice (some (⟨b1, o1, none⟩ : Addr)) k4 y4)) ∧ u.cell? ⟨b1, o1, none⟩ = some (.int .i64 xc) ∧ u.cell? ⟨b1, o1 + 1, none⟩ = some (.int .i64 xn)) (by kernel_rfl) (⟨HXu.out _ HD.out, HCx.out _ HD.out⟩) (fun hHeld => ?_)
                    refine wpAnyH_take (i := 0) (oi := { dst := some 98, op := Op.fieldAddr 27 (Operand.tmp 1) 4, type := 0, pos := "ref.go:72", after := #[], guard := none }) (v := ?_) rfl (by kernel_rfl) (by kernel_rfl) (by kernel_rfl) (fun _ _ _ h => h) (Or.inl ⟨by rfl, ?_⟩) hHeld ?_
                    rotate_left 1
                    · intro W hSw
                      (try dsimp only at hSw)
                      go_simp
                      try with_reducible rfl
                    try simp only [Act.put, List.setIfInBounds_toArray, List.set_cons_zero, List.set_cons_succ]
                    refine wpAnyH_take (i := 1) (oi := { dst := some 99, op := Op.load 25 (Operand.tmp 98), type := 25, pos := "ref.go:72", after := #[{ on := 0, ground := Ground.data }], guard := none }) (v := ?_) rfl (by kernel_rfl) (by kernel_rfl) (by kernel_rfl) (fun _ _ _ h => h) (Or.inl ⟨by rfl, ?_⟩) hHeld ?_
                    rotate_left 1
                    · intro W hSw
                      (try dsimp only at hSw)
                      go_simp
                      try with_reducible rfl
                    try simp only [Act.put, List.setIfInBounds_toArray, List.set_cons_zero, List.set_cons_succ]
                    refine wpAnyH_take (i := 2) (oi := { dst := some 100, op := Op.move (Operand.tmp 6), type := 3, pos := "ref.go:72", after := #[], guard := none }) (v := ?_) rfl (by kernel_rfl) (by kernel_rfl) (by kernel_rfl) (fun _ _ _ h => h) (Or.inl ⟨by rfl, ?_⟩) hHeld ?_
                    rotate_left 1
                    · intro W hSw
                      (try dsimp only at hSw)
                      go_simp
                      try with_reducible rfl
                    try simp only [Act.put, List.setIfInBounds_toArray, List.set_cons_zero, List.set_cons_succ]
                    refine wpAnyH_take (i := 3) (oi := { dst := some 101, op := Op.indexAddr 25 (Operand.tmp 99) (Operand.tmp 100), type := 0, pos := "ref.go:72", after := #[{ on := 1, ground := Ground.data }, { on := 2, ground := Ground.data }], guard := none }) (v := ?_) rfl (by kernel_rfl) (by kernel_rfl) (by kernel_rfl) (fun _ _ _ h => h) (Or.inl ⟨by rfl, ?_⟩) hHeld ?_
                    rotate_left 1
                    · intro W hSw
                      (try dsimp only at hSw)
                      go_simp
                      try with_reducible rfl
                    try simp only [Act.put, List.setIfInBounds_toArray, List.set_cons_zero, List.set_cons_succ]
                    refine wpAnyH_take (i := 4) (oi := { dst := some 102, op := Op.load 93 (Operand.tmp 101), type := 93, pos := "ref.go:72", after := #[{ on := 3, ground := Ground.data }], guard := none }) (v := ?_) rfl (by kernel_rfl) (by kernel_rfl) (by kernel_rfl) (fun _ _ _ h => h) (Or.inl ⟨by rfl, ?_⟩) hHeld ?_
                    rotate_left 1
                    · intro W hSw
                      (try dsimp only at hSw)
                      go_simp
                      try with_reducible rfl
                    try simp only [Act.put, List.setIfInBounds_toArray, List.set_cons_zero, List.set_cons_succ]
                    refine wpAnyH_ready (rs := [5]) (by kernel_rfl) (by simp) ?_
                    refine AllReadyH.cons (o := { dst := some 103, op := Op.call { callee := Callee.value (Operand.func 65), args := #[Operand.tmp 102], argTypes := #[93] }, type := 4, pos := "ref.go:72", after := #[{ on := 4, ground := Ground.data }], guard := none }) rfl (fun K7 hK7 => ?_) ?_
                    · go_simp
                      refine (HBa.out _).mono ?_
                      rintro e w1 ⟨rfl, hb⟩
                      have HB1 : Hid (Below wr.heap.size wr w1) := Lib.hid (HD.out.trans (hb.mono HD.out.size))
                      clear hb
                      try dsimp only
                      refine hK7.out _ _ (⟨HXu.out _ HB1.out, HCx.out _ HB1.out⟩) (fun hHeld => ?_)
                      clear hK7 K7
                      try simp only [Act.put, List.setIfInBounds_toArray, List.set_cons_zero, List.set_cons_succ]
                      refine wpAnyH_take (i := 6) (oi := { dst := some 104, op := Op.unOp UnOp.not 4 (Operand.tmp 103), type := 4, pos := "ref.go:72", after := #[{ on := 5, ground := Ground.data }], guard := none }) (v := ?_) rfl (by kernel_rfl) (by kernel_rfl) (by kernel_rfl) (fun _ _ _ h => h) (Or.inl ⟨by rfl, ?_⟩) hHeld ?_
                      rotate_left 1
                      · intro W hSw
                        (try dsimp only at hSw)
                        go_simp
                        try with_reducible rfl
                      try simp only [Act.put, List.setIfInBounds_toArray, List.set_cons_zero, List.set_cons_succ]
                      refine wpAnyH_take (i := 7) (oi := { dst := some 105, op := Op.move (Operand.tmp 104), type := 4, pos := "ref.go:72", after := #[{ on := 6, ground := Ground.data }, { on := 5, ground := Ground.chain }], guard := none }) (v := ?_) rfl (by kernel_rfl) (by kernel_rfl) (by kernel_rfl) (fun _ _ _ h => h) (Or.inl ⟨by rfl, ?_⟩) hHeld ?_
                      rotate_left 1
                      · intro W hSw
                        (try dsimp only at hSw)
                        go_simp
                        try with_reducible rfl
                      try simp only [Act.put, List.setIfInBounds_toArray, List.set_cons_zero, List.set_cons_succ]
                      refine wpAnyH_take (i := 8) (oi := { dst := some 106, op := Op.move (Operand.tmp 6), type := 3, pos := "ref.go:72", after := #[{ on := 7, ground := Ground.guard }], guard := some (7, false) }) (v := ?_) rfl (by kernel_rfl) (by kernel_rfl) (by kernel_rfl) (fun _ _ _ h => h) (Or.inl ⟨by rfl, ?_⟩) hHeld ?_
                      rotate_left 1
                      · intro W hSw
                        (try dsimp only at hSw)
                        go_simp
                        try with_reducible rfl
                      try simp only [Act.put, List.setIfInBounds_toArray, List.set_cons_zero, List.set_cons_succ]
                      refine wpAnyH_take (i := 9) (oi := { dst := some 107, op := Op.binOp BinOp.gtr 3 (Operand.tmp 106) (Operand.const (Value.int IntKind.i64 0)) 3, type := 4, pos := "ref.go:72", after := #[{ on := 8, ground := Ground.data }, { on := 7, ground := Ground.guard }], guard := some (7, false) }) (v := ?_) rfl (by kernel_rfl) (by kernel_rfl) (by kernel_rfl) (fun _ _ _ h => h) (Or.inl ⟨by rfl, ?_⟩) hHeld ?_
                      rotate_left 1
                      · intro W hSw
                        (try dsimp only at hSw)
                        go_simp
                        try with_reducible rfl
                      try simp only [Act.put, List.setIfInBounds_toArray, List.set_cons_zero, List.set_cons_succ]
                      refine wpAnyH_take (i := 10) (oi := { dst := some 108, op := Op.move (Operand.tmp 107), type := 4, pos := "ref.go:72", after := #[{ on := 9, ground := Ground.data }, { on := 7, ground := Ground.chain }, { on := 7, ground := Ground.guard }], guard := some (7, false) }) (v := ?_) rfl (by kernel_rfl) (by kernel_rfl) (by kernel_rfl) (fun _ _ _ h => h) (Or.inl ⟨by rfl, ?_⟩) hHeld ?_
                      rotate_left 1
                      · intro W hSw
                        (try dsimp only at hSw)
                        go_simp
                        try with_reducible rfl
                      try simp only [Act.put, List.setIfInBounds_toArray, List.set_cons_zero, List.set_cons_succ]
                      refine wpAnyH_take (i := 11) (oi := { dst := some 109, op := Op.fieldAddr 27 (Operand.tmp 1) 4, type := 0, pos := "ref.go:72", after := #[{ on := 10, ground := Ground.guard }], guard := some (10, true) }) (v := undef) rfl (by kernel_rfl) (by kernel_rfl) (by kernel_rfl) (fun _ _ _ h => h) (Or.inr ⟨by rfl, rfl⟩) hHeld ?_
                      try simp only [Act.put, List.setIfInBounds_toArray, List.set_cons_zero, List.set_cons_succ]
                      refine wpAnyH_take (i := 12) (oi := { dst := some 110, op := Op.load 25 (Operand.tmp 109), type := 25, pos := "ref.go:72", after := #[{ on := 11, ground := Ground.data }, { on := 10, ground := Ground.guard }], guard := some (10, true) }) (v := undef) rfl (by kernel_rfl) (by kernel_rfl) (by kernel_rfl) (fun _ _ _ h => h) (Or.inr ⟨by rfl, rfl⟩) hHeld ?_
                      try simp only [Act.put, List.setIfInBounds_toArray, List.set_cons_zero, List.set_cons_succ]
                      refine wpAnyH_take (i := 13) (oi := { dst := some 111, op := Op.move (Operand.tmp 6), type := 3, pos := "ref.go:72", after := #[{ on := 10, ground := Ground.guard }], guard := some (10, true) }) (v := undef) rfl (by kernel_rfl) (by kernel_rfl) (by kernel_rfl) (fun _ _ _ h => h) (Or.inr ⟨by rfl, rfl⟩) hHeld ?_
                      try simp only [Act.put, List.setIfInBounds_toArray, List.set_cons_zero, List.set_cons_succ]
                      refine wpAnyH_take (i := 14) (oi := { dst := some 112, op := Op.binOp BinOp.sub 3 (Operand.tmp 111) (Operand.const (Value.int IntKind.i64 1)) 3, type := 3, pos := "ref.go:72", after := #[{ on := 13, ground := Ground.data }, { on := 10, ground := Ground.guard }], guard := some (10, true) }) (v := undef) rfl (by kernel_rfl) (by kernel_rfl) (by kernel_rfl) (fun _ _ _ h => h) (Or.inr ⟨by rfl, rfl⟩) hHeld ?_
                      try simp only [Act.put, List.setIfInBounds_toArray, List.set_cons_zero, List.set_cons_succ]
                      refine wpAnyH_take (i := 15) (oi := { dst := some 113, op := Op.indexAddr 25 (Operand.tmp 110) (Operand.tmp 112), type := 0, pos := "ref.go:72", after := #[{ on := 12, ground := Ground.data }, { on := 14, ground := Ground.data }, { on := 10, ground := Ground.guard }], guard := some (10, true) }) (v := undef) rfl (by kernel_rfl) (by kernel_rfl) (by kernel_rfl) (fun _ _ _ h => h) (Or.inr ⟨by rfl, rfl⟩) hHeld ?_
                      try simp only [Act.put, List.setIfInBounds_toArray, List.set_cons_zero, List.set_cons_succ]
                      refine wpAnyH_take (i := 16) (oi := { dst := some 114, op := Op.load 93 (Operand.tmp 113), type := 93, pos := "ref.go:72", after := #[{ on := 15, ground := Ground.data }, { on := 10, ground := Ground.guard }], guard := some (10, true) }) (v := undef) rfl (by kernel_rfl) (by kernel_rfl) (by kernel_rfl) (fun _ _ _ h => h) (Or.inr ⟨by rfl, rfl⟩) hHeld ?_
                      try simp only [Act.put, List.setIfInBounds_toArray, List.set_cons_zero, List.set_cons_succ]
                      refine wpAnyH_take (i := 17) (oi := { dst := some 115, op := Op.fieldAddr 27 (Operand.tmp 1) 4, type := 0, pos := "ref.go:72", after := #[{ on := 10, ground := Ground.guard }], guard := some (10, true) }) (v := undef) rfl (by kernel_rfl) (by kernel_rfl) (by kernel_rfl) (fun _ _ _ h => h) (Or.inr ⟨by rfl, rfl⟩) hHeld ?_
                      try simp only [Act.put, List.setIfInBounds_toArray, List.set_cons_zero, List.set_cons_succ]
                      refine wpAnyH_take (i := 18) (oi := { dst := some 116, op := Op.load 25 (Operand.tmp 115), type := 25, pos := "ref.go:72", after := #[{ on := 17, ground := Ground.data }, { on := 10, ground := Ground.guard }], guard := some (10, true) }) (v := undef) rfl (by kernel_rfl) (by kernel_rfl) (by kernel_rfl) (fun _ _ _ h => h) (Or.inr ⟨by rfl, rfl⟩) hHeld ?_
                      try simp only [Act.put, List.setIfInBounds_toArray, List.set_cons_zero, List.set_cons_succ]
                      refine wpAnyH_take (i := 19) (oi := { dst := some 117, op := Op.move (Operand.tmp 6), type := 3, pos := "ref.go:72", after := #[{ on := 10, ground := Ground.guard }], guard := some (10, true) }) (v := undef) rfl (by kernel_rfl) (by kernel_rfl) (by kernel_rfl) (fun _ _ _ h => h) (Or.inr ⟨by rfl, rfl⟩) hHeld ?_
                      try simp only [Act.put, List.setIfInBounds_toArray, List.set_cons_zero, List.set_cons_succ]
                      refine wpAnyH_take (i := 20) (oi := { dst := some 118, op := Op.indexAddr 25 (Operand.tmp 116) (Operand.tmp 117), type := 0, pos := "ref.go:72", after := #[{ on := 18, ground := Ground.data }, { on := 19, ground := Ground.data }, { on := 10, ground := Ground.guard }], guard := some (10, true) }) (v := undef) rfl (by kernel_rfl) (by kernel_rfl) (by kernel_rfl) (fun _ _ _ h => h) (Or.inr ⟨by rfl, rfl⟩) hHeld ?_
                      try simp only [Act.put, List.setIfInBounds_toArray, List.set_cons_zero, List.set_cons_succ]
                      refine wpAnyH_take (i := 21) (oi := { dst := some 119, op := Op.load 93 (Operand.tmp 118), type := 93, pos := "ref.go:72", after := #[{ on := 20, ground := Ground.data }, { on := 10, ground := Ground.guard }], guard := some (10, true) }) (v := undef) rfl (by kernel_rfl) (by kernel_rfl) (by kernel_rfl) (fun _ _ _ h => h) (Or.inr ⟨by rfl, rfl⟩) hHeld ?_
                      try simp only [Act.put, List.setIfInBounds_toArray, List.set_cons_zero, List.set_cons_succ]
                      refine wpAnyH_take (i := 22) (oi := { dst := some 120, op := Op.call { callee := Callee.value (Operand.func 66), args := #[Operand.tmp 114, Operand.tmp 119], argTypes := #[93, 93] }, type := 4, pos := "ref.go:72", after := #[{ on := 16, ground := Ground.data }, { on := 21, ground := Ground.data }, { on := 10, ground := Ground.chain }, { on := 10, ground := Ground.guard }], guard := some (10, true) }) (v := undef) rfl (by kernel_rfl) (by kernel_rfl) (by kernel_rfl) (fun _ _ _ h => h) (Or.inr ⟨by rfl, rfl⟩) hHeld ?_
                      try simp only [Act.put, List.setIfInBounds_toArray, List.set_cons_zero, List.set_cons_succ]
                      refine wpAnyH_take (i := 23) (oi := { dst := some 121, op := Op.unOp UnOp.not 4 (Operand.tmp 120), type := 4, pos := "ref.go:72", after := #[{ on := 22, ground := Ground.data }, { on := 10, ground := Ground.guard }], guard := some (10, true) }) (v := undef) rfl (by kernel_rfl) (by kernel_rfl) (by kernel_rfl) (fun _ _ _ h => h) (Or.inr ⟨by rfl, rfl⟩) hHeld ?_
                      try simp only [Act.put, List.setIfInBounds_toArray, List.set_cons_zero, List.set_cons_succ]
                      refine wpAnyH_take (i := 24) (oi := { dst := some 122, op := Op.pick (Operand.tmp 108) (Operand.tmp 121) (Operand.const (Value.bool false)), type := 4, pos := "ref.go:72", after := #[{ on := 10, ground := Ground.data }, { on := 23, ground := Ground.data }, { on := 7, ground := Ground.guard }], guard := some (7, false) }) (v := ?_) rfl (by kernel_rfl) (by kernel_rfl) (by kernel_rfl) (fun _ _ _ h => h) (Or.inl ⟨by rfl, ?_⟩) hHeld ?_
                      rotate_left 1
                      · intro W hSw
                        (try dsimp only at hSw)
                        go_simp
                        try with_reducible rfl
                      try simp only [Act.put, List.setIfInBounds_toArray, List.set_cons_zero, List.set_cons_succ]
                      refine wpAnyH_take (i := 25) (oi := { dst := some 123, op := Op.pick (Operand.tmp 105) (Operand.const (Value.bool true)) (Operand.tmp 122), type := 4, pos := "ref.go:72", after := #[{ on := 7, ground := Ground.data }, { on := 24, ground := Ground.data }], guard := none }) (v := ?_) rfl (by kernel_rfl) (by kernel_rfl) (by kernel_rfl) (fun _ _ _ h => h) (Or.inl ⟨by rfl, ?_⟩) hHeld ?_
                      rotate_left 1
                      · intro W hSw
                        (try dsimp only at hSw)
                        go_simp
                        try with_reducible rfl
                      try simp only [Act.put, List.setIfInBounds_toArray, List.set_cons_zero, List.set_cons_succ]
                      refine wpAnyH_done (by kernel_rfl) ?_ _
                      have HB9 := Lib.hid (HBr.out.trans (HB1.out.mono HBr.out.size))
                      clear hHeld
                      go_wp2
                      go_roundw
                      case rel => exact ⟨1, by omega, by go_num, HN4, HB9.out⟩
                      case measure => simp [intOf]; omega
                    exact AllReadyH.nil
                    --R17ZE
                  | succ k =>
                    have hik : k < m.bans.length := by omega
                    obtain ⟨y, hy⟩ : ∃ y, m.bans[k] = y := ⟨_, rfl⟩
                    rw [show k + 1 - 1 = k by omega, List.getD_eq_getElem?_getD, List.getElem?_eq_getElem hik, Option.getD_some, hy] at hst
                    rw [decide_eq_false (by omega : ¬ k + 1 = 0), Bool.false_or, ordB_lt] at hst
                    have hro := fun u hu => HRo.out k hik u hu
                    rw [hy] at hro
                    obtain ⟨yc, yn⟩ := y
                    have HCy : Hid (∀ u, Below wr.heap.size wr u → u.cell? ⟨b1, o1 + k * 2, none⟩ = some (.int .i64 yc) ∧ u.cell? ⟨b1, o1 + k * 2 + 1, none⟩ = some (.int .i64 yn)) := Lib.hid (fun u hu => ⟨by have := hro u hu 0 _ rfl; simpa using this, hro u hu 1 _ rfl⟩)
                    have hbe := fun u => rBefore_any ⟨yc, yn⟩ ⟨xc, xn⟩ u
                    obtain ⟨z, hz⟩ : ∃ z, ltBan ⟨yc, yn⟩ ⟨xc, xn⟩ = z := ⟨_, rfl⟩
                    rw [hz] at hbe hst
                    simp only [bc] at hbe
                    have HBe := Lib.hid hbe; have HS2 := Lib.hid hst
                    clear hbe hst hro hy hz HRo HSt
                    cases z with
                    | true =>
                      have HN4 : Hid (okBansF m.bans (k + 1 + 1) = true) := Lib.hid HS2.out
                      obtain ⟨J, hJ⟩ : ∃ J, k + 1 = J := ⟨_, rfl⟩
                      have HJ := Lib.hid hJ
                      rw [hJ] at hlt hlt' hk0 HCx HN4 ⊢
                      have hkw : True → IntKind.i64.wrap ((J : Int) - 1) = (k : Int) := fun _ => by rw [← HJ.out, IntKind.wrap_i64]; omega
                      have hJ0 : (0 : Int) < (J : Int) := by omega
                      have hJ1 : 0 < J := by omega
                      have hkL : (k : Int) < (k4 : Int) := by omega
                      have hkk : (0 : Int) ≤ (k : Int) := by omega
                      clear hJ
                      go_upto_region 17 with fail; clear c4
                      --R17P
                      refine wp_region_held_drew (S := fun u => (u.cell? ⟨M, 4, none⟩ = some (.slice (some (⟨b1, o1, none⟩ : Addr)) k4 y4)) ∧ (u.cell? ⟨b1, o1 + J * 2, none⟩ = some (.int .i64 xc) ∧ u.cell? ⟨b1, o1 + J * 2 + 1, none⟩ = some (.int .i64 xn)) ∧ u.cell? ⟨b1, o1 + k * 2, none⟩ = some (.int .i64 yc) ∧ u.cell? ⟨b1, o1 + k * 2 + 1, none⟩ = some (.int .i64 yn)) (by kernel_rfl) (⟨HXu.out _ HD.out, HCx.out _ HD.out, HCy.out _ HD.out⟩) (fun hHeld => ?_)
                      refine wpAnyH_take (i := 0) (oi := { dst := some 98, op := Op.fieldAddr 27 (Operand.tmp 1) 4, type := 0, pos := "ref.go:72", after := #[], guard := none }) (v := ?_) rfl (by kernel_rfl) (by kernel_rfl) (by kernel_rfl) (fun _ _ _ h => h) (Or.inl ⟨by rfl, ?_⟩) hHeld ?_
                      rotate_left 1
                      · intro W hSw
                        (try dsimp only at hSw)
                        go_simp
                        try with_reducible rfl
                      try simp only [Act.put, List.setIfInBounds_toArray, List.set_cons_zero, List.set_cons_succ]
                      refine wpAnyH_take (i := 1) (oi := { dst := some 99, op := Op.load 25 (Operand.tmp 98), type := 25, pos := "ref.go:72", after := #[{ on := 0, ground := Ground.data }], guard := none }) (v := ?_) rfl (by kernel_rfl) (by kernel_rfl) (by kernel_rfl) (fun _ _ _ h => h) (Or.inl ⟨by rfl, ?_⟩) hHeld ?_
                      rotate_left 1
                      · intro W hSw
                        (try dsimp only at hSw)
                        go_simp
                        try with_reducible rfl
                      try simp only [Act.put, List.setIfInBounds_toArray, List.set_cons_zero, List.set_cons_succ]
                      refine wpAnyH_take (i := 2) (oi := { dst := some 100, op := Op.move (Operand.tmp 6), type := 3, pos := "ref.go:72", after := #[], guard := none }) (v := ?_) rfl (by kernel_rfl) (by kernel_rfl) (by kernel_rfl) (fun _ _ _ h => h) (Or.inl ⟨by rfl, ?_⟩) hHeld ?_
                      rotate_left 1
                      · intro W hSw
                        (try dsimp only at hSw)
                        go_simp
                        try with_reducible rfl
                      try simp only [Act.put, List.setIfInBounds_toArray, List.set_cons_zero, List.set_cons_succ]
                      refine wpAnyH_take (i := 3) (oi := { dst := some 101, op := Op.indexAddr 25 (Operand.tmp 99) (Operand.tmp 100), type := 0, pos := "ref.go:72", after := #[{ on := 1, ground := Ground.data }, { on := 2, ground := Ground.data }], guard := none }) (v := ?_) rfl (by kernel_rfl) (by kernel_rfl) (by kernel_rfl) (fun _ _ _ h => h) (Or.inl ⟨by rfl, ?_⟩) hHeld ?_
                      rotate_left 1
                      · intro W hSw
                        (try dsimp only at hSw)
                        go_simp
                        try with_reducible rfl
                      try simp only [Act.put, List.setIfInBounds_toArray, List.set_cons_zero, List.set_cons_succ]
                      refine wpAnyH_take (i := 4) (oi := { dst := some 102, op := Op.load 93 (Operand.tmp 101), type := 93, pos := "ref.go:72", after := #[{ on := 3, ground := Ground.data }], guard := none }) (v := ?_) rfl (by kernel_rfl) (by kernel_rfl) (by kernel_rfl) (fun _ _ _ h => h) (Or.inl ⟨by rfl, ?_⟩) hHeld ?_
                      rotate_left 1
                      · intro W hSw
                        (try dsimp only at hSw)
                        go_simp
                        try with_reducible rfl
                      try simp only [Act.put, List.setIfInBounds_toArray, List.set_cons_zero, List.set_cons_succ]
                      refine wpAnyH_ready (rs := [5]) (by kernel_rfl) (by simp) ?_
                      refine AllReadyH.cons (o := { dst := some 103, op := Op.call { callee := Callee.value (Operand.func 65), args := #[Operand.tmp 102], argTypes := #[93] }, type := 4, pos := "ref.go:72", after := #[{ on := 4, ground := Ground.data }], guard := none }) rfl (fun K7 hK7 => ?_) ?_
                      · go_simp
                        refine (HBa.out _).mono ?_
                        rintro e w1 ⟨rfl, hb⟩
                        have HB1 : Hid (Below wr.heap.size wr w1) := Lib.hid (HD.out.trans (hb.mono HD.out.size))
                        clear hb
                        try dsimp only
                        refine hK7.out _ _ (⟨HXu.out _ HB1.out, HCx.out _ HB1.out, HCy.out _ HB1.out⟩) (fun hHeld => ?_)
                        clear hK7 K7
                        try simp only [Act.put, List.setIfInBounds_toArray, List.set_cons_zero, List.set_cons_succ]
                        refine wpAnyH_take (i := 6) (oi := { dst := some 104, op := Op.unOp UnOp.not 4 (Operand.tmp 103), type := 4, pos := "ref.go:72", after := #[{ on := 5, ground := Ground.data }], guard := none }) (v := ?_) rfl (by kernel_rfl) (by kernel_rfl) (by kernel_rfl) (fun _ _ _ h => h) (Or.inl ⟨by rfl, ?_⟩) hHeld ?_
                        rotate_left 1
                        · intro W hSw
                          (try dsimp only at hSw)
                          go_simp
                          try with_reducible rfl
                        try simp only [Act.put, List.setIfInBounds_toArray, List.set_cons_zero, List.set_cons_succ]
                        refine wpAnyH_take (i := 7) (oi := { dst := some 105, op := Op.move (Operand.tmp 104), type := 4, pos := "ref.go:72", after := #[{ on := 6, ground := Ground.data }, { on := 5, ground := Ground.chain }], guard := none }) (v := ?_) rfl (by kernel_rfl) (by kernel_rfl) (by kernel_rfl) (fun _ _ _ h => h) (Or.inl ⟨by rfl, ?_⟩) hHeld ?_
                        rotate_left 1
                        · intro W hSw
                          (try dsimp only at hSw)
                          go_simp
                          try with_reducible rfl
                        try simp only [Act.put, List.setIfInBounds_toArray, List.set_cons_zero, List.set_cons_succ]
                        refine wpAnyH_take (i := 8) (oi := { dst := some 106, op := Op.move (Operand.tmp 6), type := 3, pos := "ref.go:72", after := #[{ on := 7, ground := Ground.guard }], guard := some (7, false) }) (v := ?_) rfl (by kernel_rfl) (by kernel_rfl) (by kernel_rfl) (fun _ _ _ h => h) (Or.inl ⟨by rfl, ?_⟩) hHeld ?_
                        rotate_left 1
                        · intro W hSw
                          (try dsimp only at hSw)
                          go_simp
                          try with_reducible rfl
                        try simp only [Act.put, List.setIfInBounds_toArray, List.set_cons_zero, List.set_cons_succ]
                        refine wpAnyH_take (i := 9) (oi := { dst := some 107, op := Op.binOp BinOp.gtr 3 (Operand.tmp 106) (Operand.const (Value.int IntKind.i64 0)) 3, type := 4, pos := "ref.go:72", after := #[{ on := 8, ground := Ground.data }, { on := 7, ground := Ground.guard }], guard := some (7, false) }) (v := ?_) rfl (by kernel_rfl) (by kernel_rfl) (by kernel_rfl) (fun _ _ _ h => h) (Or.inl ⟨by rfl, ?_⟩) hHeld ?_
                        rotate_left 1
                        · intro W hSw
                          (try dsimp only at hSw)
                          go_simp
                          try with_reducible rfl
                        try simp only [Act.put, List.setIfInBounds_toArray, List.set_cons_zero, List.set_cons_succ]
                        refine wpAnyH_take (i := 10) (oi := { dst := some 108, op := Op.move (Operand.tmp 107), type := 4, pos := "ref.go:72", after := #[{ on := 9, ground := Ground.data }, { on := 7, ground := Ground.chain }, { on := 7, ground := Ground.guard }], guard := some (7, false) }) (v := ?_) rfl (by kernel_rfl) (by kernel_rfl) (by kernel_rfl) (fun _ _ _ h => h) (Or.inl ⟨by rfl, ?_⟩) hHeld ?_
                        rotate_left 1
                        · intro W hSw
                          (try dsimp only at hSw)
                          go_simp
                          try with_reducible rfl
                        try simp only [Act.put, List.setIfInBounds_toArray, List.set_cons_zero, List.set_cons_succ]
                        refine wpAnyH_take (i := 11) (oi := { dst := some 109, op := Op.fieldAddr 27 (Operand.tmp 1) 4, type := 0, pos := "ref.go:72", after := #[{ on := 10, ground := Ground.guard }], guard := some (10, true) }) (v := ?_) rfl (by kernel_rfl) (by kernel_rfl) (by kernel_rfl) (fun _ _ _ h => h) (Or.inl ⟨by rfl, ?_⟩) hHeld ?_
                        rotate_left 1
                        · intro W hSw
                          (try dsimp only at hSw)
                          go_simp
                          try with_reducible rfl
                        try simp only [Act.put, List.setIfInBounds_toArray, List.set_cons_zero, List.set_cons_succ]
                        refine wpAnyH_take (i := 12) (oi := { dst := some 110, op := Op.load 25 (Operand.tmp 109), type := 25, pos := "ref.go:72", after := #[{ on := 11, ground := Ground.data }, { on := 10, ground := Ground.guard }], guard := some (10, true) }) (v := ?_) rfl (by kernel_rfl) (by kernel_rfl) (by kernel_rfl) (fun _ _ _ h => h) (Or.inl ⟨by rfl, ?_⟩) hHeld ?_
                        rotate_left 1
                        · intro W hSw
                          (try dsimp only at hSw)
                          go_simp
                          try with_reducible rfl
                        try simp only [Act.put, List.setIfInBounds_toArray, List.set_cons_zero, List.set_cons_succ]
                        refine wpAnyH_take (i := 13) (oi := { dst := some 111, op := Op.move (Operand.tmp 6), type := 3, pos := "ref.go:72", after := #[{ on := 10, ground := Ground.guard }], guard := some (10, true) }) (v := ?_) rfl (by kernel_rfl) (by kernel_rfl) (by kernel_rfl) (fun _ _ _ h => h) (Or.inl ⟨by rfl, ?_⟩) hHeld ?_
                        rotate_left 1
                        · intro W hSw
                          (try dsimp only at hSw)
                          go_simp
                          try with_reducible rfl
                        try simp only [Act.put, List.setIfInBounds_toArray, List.set_cons_zero, List.set_cons_succ]
                        refine wpAnyH_take (i := 14) (oi := { dst := some 112, op := Op.binOp BinOp.sub 3 (Operand.tmp 111) (Operand.const (Value.int IntKind.i64 1)) 3, type := 3, pos := "ref.go:72", after := #[{ on := 13, ground := Ground.data }, { on := 10, ground := Ground.guard }], guard := some (10, true) }) (v := ?_) rfl (by kernel_rfl) (by kernel_rfl) (by kernel_rfl) (fun _ _ _ h => h) (Or.inl ⟨by rfl, ?_⟩) hHeld ?_
                        rotate_left 1
                        · intro W hSw
                          (try dsimp only at hSw)
                          go_simp
                          try with_reducible rfl
                        try simp only [Act.put, List.setIfInBounds_toArray, List.set_cons_zero, List.set_cons_succ]
                        refine wpAnyH_take (i := 15) (oi := { dst := some 113, op := Op.indexAddr 25 (Operand.tmp 110) (Operand.tmp 112), type := 0, pos := "ref.go:72", after := #[{ on := 12, ground := Ground.data }, { on := 14, ground := Ground.data }, { on := 10, ground := Ground.guard }], guard := some (10, true) }) (v := ?_) rfl (by kernel_rfl) (by kernel_rfl) (by kernel_rfl) (fun _ _ _ h => h) (Or.inl ⟨by rfl, ?_⟩) hHeld ?_
                        rotate_left 1
                        · intro W hSw
                          (try dsimp only at hSw)
                          go_simp
                          try with_reducible rfl
                        try simp only [Act.put, List.setIfInBounds_toArray, List.set_cons_zero, List.set_cons_succ]
                        refine wpAnyH_take (i := 16) (oi := { dst := some 114, op := Op.load 93 (Operand.tmp 113), type := 93, pos := "ref.go:72", after := #[{ on := 15, ground := Ground.data }, { on := 10, ground := Ground.guard }], guard := some (10, true) }) (v := ?_) rfl (by kernel_rfl) (by kernel_rfl) (by kernel_rfl) (fun _ _ _ h => h) (Or.inl ⟨by rfl, ?_⟩) hHeld ?_
                        rotate_left 1
                        · intro W hSw
                          (try dsimp only at hSw)
                          go_simp
                          try with_reducible rfl
                        try simp only [Act.put, List.setIfInBounds_toArray, List.set_cons_zero, List.set_cons_succ]
                        refine wpAnyH_take (i := 17) (oi := { dst := some 115, op := Op.fieldAddr 27 (Operand.tmp 1) 4, type := 0, pos := "ref.go:72", after := #[{ on := 10, ground := Ground.guard }], guard := some (10, true) }) (v := ?_) rfl (by kernel_rfl) (by kernel_rfl) (by kernel_rfl) (fun _ _ _ h => h) (Or.inl ⟨by rfl, ?_⟩) hHeld ?_
                        rotate_left 1
                        · intro W hSw
                          (try dsimp only at hSw)
                          go_simp
                          try with_reducible rfl
                        try simp only [Act.put, List.setIfInBounds_toArray, List.set_cons_zero, List.set_cons_succ]
                        refine wpAnyH_take (i := 18) (oi := { dst := some 116, op := Op.load 25 (Operand.tmp 115), type := 25, pos := "ref.go:72", after := #[{ on := 17, ground := Ground.data }, { on := 10, ground := Ground.guard }], guard := some (10, true) }) (v := ?_) rfl (by kernel_rfl) (by kernel_rfl) (by kernel_rfl) (fun _ _ _ h => h) (Or.inl ⟨by rfl, ?_⟩) hHeld ?_
                        rotate_left 1
                        · intro W hSw
                          (try dsimp only at hSw)
                          go_simp
                          try with_reducible rfl
                        try simp only [Act.put, List.setIfInBounds_toArray, List.set_cons_zero, List.set_cons_succ]
                        refine wpAnyH_take (i := 19) (oi := { dst := some 117, op := Op.move (Operand.tmp 6), type := 3, pos := "ref.go:72", after := #[{ on := 10, ground := Ground.guard }], guard := some (10, true) }) (v := ?_) rfl (by kernel_rfl) (by kernel_rfl) (by kernel_rfl) (fun _ _ _ h => h) (Or.inl ⟨by rfl, ?_⟩) hHeld ?_
                        rotate_left 1
                        · intro W hSw
                          (try dsimp only at hSw)
                          go_simp
                          try with_reducible rfl
                        try simp only [Act.put, List.setIfInBounds_toArray, List.set_cons_zero, List.set_cons_succ]
                        refine wpAnyH_take (i := 20) (oi := { dst := some 118, op := Op.indexAddr 25 (Operand.tmp 116) (Operand.tmp 117), type := 0, pos := "ref.go:72", after := #[{ on := 18, ground := Ground.data }, { on := 19, ground := Ground.data }, { on := 10, ground := Ground.guard }], guard := some (10, true) }) (v := ?_) rfl (by kernel_rfl) (by kernel_rfl) (by kernel_rfl) (fun _ _ _ h => h) (Or.inl ⟨by rfl, ?_⟩) hHeld ?_
                        rotate_left 1
                        · intro W hSw
                          (try dsimp only at hSw)
                          go_simp
                          try with_reducible rfl
                        try simp only [Act.put, List.setIfInBounds_toArray, List.set_cons_zero, List.set_cons_succ]
                        refine wpAnyH_take (i := 21) (oi := { dst := some 119, op := Op.load 93 (Operand.tmp 118), type := 93, pos := "ref.go:72", after := #[{ on := 20, ground := Ground.data }, { on := 10, ground := Ground.guard }], guard := some (10, true) }) (v := ?_) rfl (by kernel_rfl) (by kernel_rfl) (by kernel_rfl) (fun _ _ _ h => h) (Or.inl ⟨by rfl, ?_⟩) hHeld ?_
                        rotate_left 1
                        · intro W hSw
                          (try dsimp only at hSw)
                          go_simp
                          try with_reducible rfl
                        try simp only [Act.put, List.setIfInBounds_toArray, List.set_cons_zero, List.set_cons_succ]
                        refine wpAnyH_ready (rs := [22]) (by kernel_rfl) (by simp) ?_
                        refine AllReadyH.cons (o := { dst := some 120, op := Op.call { callee := Callee.value (Operand.func 66), args := #[Operand.tmp 114, Operand.tmp 119], argTypes := #[93, 93] }, type := 4, pos := "ref.go:72", after := #[{ on := 16, ground := Ground.data }, { on := 21, ground := Ground.data }, { on := 10, ground := Ground.chain }, { on := 10, ground := Ground.guard }], guard := some (10, true) }) rfl (fun K7 hK7 => ?_) ?_
                        · go_simp
                          refine (HBe.out _).mono ?_
                          rintro e w2 ⟨rfl, hb⟩
                          have HB2 : Hid (Below wr.heap.size wr w2) := Lib.hid (HB1.out.trans (hb.mono HB1.out.size))
                          clear hb
                          try dsimp only
                          refine hK7.out _ _ (⟨HXu.out _ HB2.out, HCx.out _ HB2.out, HCy.out _ HB2.out⟩) (fun hHeld => ?_)
                          clear hK7 K7
                          try simp only [Act.put, List.setIfInBounds_toArray, List.set_cons_zero, List.set_cons_succ]
                          refine wpAnyH_take (i := 23) (oi := { dst := some 121, op := Op.unOp UnOp.not 4 (Operand.tmp 120), type := 4, pos := "ref.go:72", after := #[{ on := 22, ground := Ground.data }, { on := 10, ground := Ground.guard }], guard := some (10, true) }) (v := ?_) rfl (by kernel_rfl) (by kernel_rfl) (by kernel_rfl) (fun _ _ _ h => h) (Or.inl ⟨by rfl, ?_⟩) hHeld ?_
                          rotate_left 1
                          · intro W hSw
                            (try dsimp only at hSw)
                            go_simp
                            try with_reducible rfl
                          try simp only [Act.put, List.setIfInBounds_toArray, List.set_cons_zero, List.set_cons_succ]
                          refine wpAnyH_take (i := 24) (oi := { dst := some 122, op := Op.pick (Operand.tmp 108) (Operand.tmp 121) (Operand.const (Value.bool false)), type := 4, pos := "ref.go:72", after := #[{ on := 10, ground := Ground.data }, { on := 23, ground := Ground.data }, { on := 7, ground := Ground.guard }], guard := some (7, false) }) (v := ?_) rfl (by kernel_rfl) (by kernel_rfl) (by kernel_rfl) (fun _ _ _ h => h) (Or.inl ⟨by rfl, ?_⟩) hHeld ?_
                          rotate_left 1
                          · intro W hSw
                            (try dsimp only at hSw)
                            go_simp
                            try with_reducible rfl
                          try simp only [Act.put, List.setIfInBounds_toArray, List.set_cons_zero, List.set_cons_succ]
                          refine wpAnyH_take (i := 25) (oi := { dst := some 123, op := Op.pick (Operand.tmp 105) (Operand.const (Value.bool true)) (Operand.tmp 122), type := 4, pos := "ref.go:72", after := #[{ on := 7, ground := Ground.data }, { on := 24, ground := Ground.data }], guard := none }) (v := ?_) rfl (by kernel_rfl) (by kernel_rfl) (by kernel_rfl) (fun _ _ _ h => h) (Or.inl ⟨by rfl, ?_⟩) hHeld ?_
                          rotate_left 1
                          · intro W hSw
                            (try dsimp only at hSw)
                            go_simp
                            try with_reducible rfl
                          try simp only [Act.put, List.setIfInBounds_toArray, List.set_cons_zero, List.set_cons_succ]
                          refine wpAnyH_done (by kernel_rfl) ?_ _
                          have HB9 := Lib.hid (HBr.out.trans (HB2.out.mono HBr.out.size))
                          clear hHeld
                          clear hkw
                          go_wp2
                          go_roundw
                          case rel => exact ⟨J + 1, by omega, by go_num, HN4, HB9.out⟩
                          case measure => simp [intOf]; omega
                        exact AllReadyH.nil
                      exact AllReadyH.nil
                      --R17PE
                    | false =>
                      have HRf := Lib.hid (HBaS.out (k + 1 + 1) (by omega) HS2.out)
                      obtain ⟨J, hJ⟩ : ∃ J, k + 1 = J := ⟨_, rfl⟩
                      have HJ := Lib.hid hJ
                      rw [hJ] at hlt hlt' hk0 HCx ⊢
                      have hkw : True → IntKind.i64.wrap ((J : Int) - 1) = (k : Int) := fun _ => by rw [← HJ.out, IntKind.wrap_i64]; omega
                      have hJ0 : (0 : Int) < (J : Int) := by omega
                      have hJ1 : 0 < J := by omega
                      have hkL : (k : Int) < (k4 : Int) := by omega
                      have hkk : (0 : Int) ≤ (k : Int) := by omega
                      clear hJ
                      go_upto_region 17 with fail; clear c4
                      --R17Q
                      refine wp_region_held_drew (S := fun u => (u.cell? ⟨M, 4, none⟩ = some (.slice (some (⟨b1, o1, none⟩ : Addr)) k4 y4)) ∧ (u.cell? ⟨b1, o1 + J * 2, none⟩ = some (.int .i64 xc) ∧ u.cell? ⟨b1, o1 + J * 2 + 1, none⟩ = some (.int .i64 xn)) ∧ u.cell? ⟨b1, o1 + k * 2, none⟩ = some (.int .i64 yc) ∧ u.cell? ⟨b1, o1 + k * 2 + 1, none⟩ = some (.int .i64 yn)) (by kernel_rfl) (⟨HXu.out _ HD.out, HCx.out _ HD.out, HCy.out _ HD.out⟩) (fun hHeld => ?_)
                      refine wpAnyH_take (i := 0) (oi := { dst := some 98, op := Op.fieldAddr 27 (Operand.tmp 1) 4, type := 0, pos := "ref.go:72", after := #[], guard := none }) (v := ?_) rfl (by kernel_rfl) (by kernel_rfl) (by kernel_rfl) (fun _ _ _ h => h) (Or.inl ⟨by rfl, ?_⟩) hHeld ?_
                      rotate_left 1
                      · intro W hSw
                        (try dsimp only at hSw)
                        go_simp
                        try with_reducible rfl
                      try simp only [Act.put, List.setIfInBounds_toArray, List.set_cons_zero, List.set_cons_succ]
                      refine wpAnyH_take (i := 1) (oi := { dst := some 99, op := Op.load 25 (Operand.tmp 98), type := 25, pos := "ref.go:72", after := #[{ on := 0, ground := Ground.data }], guard := none }) (v := ?_) rfl (by kernel_rfl) (by kernel_rfl) (by kernel_rfl) (fun _ _ _ h => h) (Or.inl ⟨by rfl, ?_⟩) hHeld ?_
                      rotate_left 1
                      · intro W hSw
                        (try dsimp only at hSw)
                        go_simp
                        try with_reducible rfl
                      try simp only [Act.put, List.setIfInBounds_toArray, List.set_cons_zero, List.set_cons_succ]
                      refine wpAnyH_take (i := 2) (oi := { dst := some 100, op := Op.move (Operand.tmp 6), type := 3, pos := "ref.go:72", after := #[], guard := none }) (v := ?_) rfl (by kernel_rfl) (by kernel_rfl) (by kernel_rfl) (fun _ _ _ h => h) (Or.inl ⟨by rfl, ?_⟩) hHeld ?_
                      rotate_left 1
                      · intro W hSw
                        (try dsimp only at hSw)
                        go_simp
                        try with_reducible rfl
                      try simp only [Act.put, List.setIfInBounds_toArray, List.set_cons_zero, List.set_cons_succ]
                      refine wpAnyH_take (i := 3) (oi := { dst := some 101, op := Op.indexAddr 25 (Operand.tmp 99) (Operand.tmp 100), type := 0, pos := "ref.go:72", after := #[{ on := 1, ground := Ground.data }, { on := 2, ground := Ground.data }], guard := none }) (v := ?_) rfl (by kernel_rfl) (by kernel_rfl) (by kernel_rfl) (fun _ _ _ h => h) (Or.inl ⟨by rfl, ?_⟩) hHeld ?_
                      rotate_left 1
                      · intro W hSw
                        (try dsimp only at hSw)
                        go_simp
                        try with_reducible rfl
                      try simp only [Act.put, List.setIfInBounds_toArray, List.set_cons_zero, List.set_cons_succ]
                      refine wpAnyH_take (i := 4) (oi := { dst := some 102, op := Op.load 93 (Operand.tmp 101), type := 93, pos := "ref.go:72", after := #[{ on := 3, ground := Ground.data }], guard := none }) (v := ?_) rfl (by kernel_rfl) (by kernel_rfl) (by kernel_rfl) (fun _ _ _ h => h) (Or.inl ⟨by rfl, ?_⟩) hHeld ?_
                      rotate_left 1
                      · intro W hSw
                        (try dsimp only at hSw)
                        go_simp
                        try with_reducible rfl
                      try simp only [Act.put, List.setIfInBounds_toArray, List.set_cons_zero, List.set_cons_succ]
                      refine wpAnyH_ready (rs := [5]) (by kernel_rfl) (by simp) ?_
                      refine AllReadyH.cons (o := { dst := some 103, op := Op.call { callee := Callee.value (Operand.func 65), args := #[Operand.tmp 102], argTypes := #[93] }, type := 4, pos := "ref.go:72", after := #[{ on := 4, ground := Ground.data }], guard := none }) rfl (fun K7 hK7 => ?_) ?_
                      · go_simp
                        refine (HBa.out _).mono ?_
                        rintro e w1 ⟨rfl, hb⟩
                        have HB1 : Hid (Below wr.heap.size wr w1) := Lib.hid (HD.out.trans (hb.mono HD.out.size))
                        clear hb
                        try dsimp only
                        refine hK7.out _ _ (⟨HXu.out _ HB1.out, HCx.out _ HB1.out, HCy.out _ HB1.out⟩) (fun hHeld => ?_)
                        clear hK7 K7
                        try simp only [Act.put, List.setIfInBounds_toArray, List.set_cons_zero, List.set_cons_succ]
                        refine wpAnyH_take (i := 6) (oi := { dst := some 104, op := Op.unOp UnOp.not 4 (Operand.tmp 103), type := 4, pos := "ref.go:72", after := #[{ on := 5, ground := Ground.data }], guard := none }) (v := ?_) rfl (by kernel_rfl) (by kernel_rfl) (by kernel_rfl) (fun _ _ _ h => h) (Or.inl ⟨by rfl, ?_⟩) hHeld ?_
                        rotate_left 1
                        · intro W hSw
                          (try dsimp only at hSw)
                          go_simp
                          try with_reducible rfl
                        try simp only [Act.put, List.setIfInBounds_toArray, List.set_cons_zero, List.set_cons_succ]
                        refine wpAnyH_take (i := 7) (oi := { dst := some 105, op := Op.move (Operand.tmp 104), type := 4, pos := "ref.go:72", after := #[{ on := 6, ground := Ground.data }, { on := 5, ground := Ground.chain }], guard := none }) (v := ?_) rfl (by kernel_rfl) (by kernel_rfl) (by kernel_rfl) (fun _ _ _ h => h) (Or.inl ⟨by rfl, ?_⟩) hHeld ?_
                        rotate_left 1
                        · intro W hSw
                          (try dsimp only at hSw)
                          go_simp
                          try with_reducible rfl
                        try simp only [Act.put, List.setIfInBounds_toArray, List.set_cons_zero, List.set_cons_succ]
                        refine wpAnyH_take (i := 8) (oi := { dst := some 106, op := Op.move (Operand.tmp 6), type := 3, pos := "ref.go:72", after := #[{ on := 7, ground := Ground.guard }], guard := some (7, false) }) (v := ?_) rfl (by kernel_rfl) (by kernel_rfl) (by kernel_rfl) (fun _ _ _ h => h) (Or.inl ⟨by rfl, ?_⟩) hHeld ?_
                        rotate_left 1
                        · intro W hSw
                          (try dsimp only at hSw)
                          go_simp
                          try with_reducible rfl
                        try simp only [Act.put, List.setIfInBounds_toArray, List.set_cons_zero, List.set_cons_succ]
                        refine wpAnyH_take (i := 9) (oi := { dst := some 107, op := Op.binOp BinOp.gtr 3 (Operand.tmp 106) (Operand.const (Value.int IntKind.i64 0)) 3, type := 4, pos := "ref.go:72", after := #[{ on := 8, ground := Ground.data }, { on := 7, ground := Ground.guard }], guard := some (7, false) }) (v := ?_) rfl (by kernel_rfl) (by kernel_rfl) (by kernel_rfl) (fun _ _ _ h => h) (Or.inl ⟨by rfl, ?_⟩) hHeld ?_
                        rotate_left 1
                        · intro W hSw
                          (try dsimp only at hSw)
                          go_simp
                          try with_reducible rfl
                        try simp only [Act.put, List.setIfInBounds_toArray, List.set_cons_zero, List.set_cons_succ]
                        refine wpAnyH_take (i := 10) (oi := { dst := some 108, op := Op.move (Operand.tmp 107), type := 4, pos := "ref.go:72", after := #[{ on := 9, ground := Ground.data }, { on := 7, ground := Ground.chain }, { on := 7, ground := Ground.guard }], guard := some (7, false) }) (v := ?_) rfl (by kernel_rfl) (by kernel_rfl) (by kernel_rfl) (fun _ _ _ h => h) (Or.inl ⟨by rfl, ?_⟩) hHeld ?_
                        rotate_left 1
                        · intro W hSw
                          (try dsimp only at hSw)
                          go_simp
                          try with_reducible rfl
                        try simp only [Act.put, List.setIfInBounds_toArray, List.set_cons_zero, List.set_cons_succ]
                        refine wpAnyH_take (i := 11) (oi := { dst := some 109, op := Op.fieldAddr 27 (Operand.tmp 1) 4, type := 0, pos := "ref.go:72", after := #[{ on := 10, ground := Ground.guard }], guard := some (10, true) }) (v := ?_) rfl (by kernel_rfl) (by kernel_rfl) (by kernel_rfl) (fun _ _ _ h => h) (Or.inl ⟨by rfl, ?_⟩) hHeld ?_
                        rotate_left 1
                        · intro W hSw
                          (try dsimp only at hSw)
                          go_simp
                          try with_reducible rfl
                        try simp only [Act.put, List.setIfInBounds_toArray, List.set_cons_zero, List.set_cons_succ]
                        refine wpAnyH_take (i := 12) (oi := { dst := some 110, op := Op.load 25 (Operand.tmp 109), type := 25, pos := "ref.go:72", after := #[{ on := 11, ground := Ground.data }, { on := 10, ground := Ground.guard }], guard := some (10, true) }) (v := ?_) rfl (by kernel_rfl) (by kernel_rfl) (by kernel_rfl) (fun _ _ _ h => h) (Or.inl ⟨by rfl, ?_⟩) hHeld ?_
                        rotate_left 1
                        · intro W hSw
                          (try dsimp only at hSw)
                          go_simp
                          try with_reducible rfl
                        try simp only [Act.put, List.setIfInBounds_toArray, List.set_cons_zero, List.set_cons_succ]
                        refine wpAnyH_take (i := 13) (oi := { dst := some 111, op := Op.move (Operand.tmp 6), type := 3, pos := "ref.go:72", after := #[{ on := 10, ground := Ground.guard }], guard := some (10, true) }) (v := ?_) rfl (by kernel_rfl) (by kernel_rfl) (by kernel_rfl) (fun _ _ _ h => h) (Or.inl ⟨by rfl, ?_⟩) hHeld ?_
                        rotate_left 1
                        · intro W hSw
                          (try dsimp only at hSw)
                          go_simp
                          try with_reducible rfl
                        try simp only [Act.put, List.setIfInBounds_toArray, List.set_cons_zero, List.set_cons_succ]
                        refine wpAnyH_take (i := 14) (oi := { dst := some 112, op := Op.binOp BinOp.sub 3 (Operand.tmp 111) (Operand.const (Value.int IntKind.i64 1)) 3, type := 3, pos := "ref.go:72", after := #[{ on := 13, ground := Ground.data }, { on := 10, ground := Ground.guard }], guard := some (10, true) }) (v := ?_) rfl (by kernel_rfl) (by kernel_rfl) (by kernel_rfl) (fun _ _ _ h => h) (Or.inl ⟨by rfl, ?_⟩) hHeld ?_
                        rotate_left 1
                        · intro W hSw
                          (try dsimp only at hSw)
                          go_simp
                          try with_reducible rfl
                        try simp only [Act.put, List.setIfInBounds_toArray, List.set_cons_zero, List.set_cons_succ]
                        refine wpAnyH_take (i := 15) (oi := { dst := some 113, op := Op.indexAddr 25 (Operand.tmp 110) (Operand.tmp 112), type := 0, pos := "ref.go:72", after := #[{ on := 12, ground := Ground.data }, { on := 14, ground := Ground.data }, { on := 10, ground := Ground.guard }], guard := some (10, true) }) (v := ?_) rfl (by kernel_rfl) (by kernel_rfl) (by kernel_rfl) (fun _ _ _ h => h) (Or.inl ⟨by rfl, ?_⟩) hHeld ?_
                        rotate_left 1
                        · intro W hSw
                          (try dsimp only at hSw)
                          go_simp
                          try with_reducible rfl
                        try simp only [Act.put, List.setIfInBounds_toArray, List.set_cons_zero, List.set_cons_succ]
                        refine wpAnyH_take (i := 16) (oi := { dst := some 114, op := Op.load 93 (Operand.tmp 113), type := 93, pos := "ref.go:72", after := #[{ on := 15, ground := Ground.data }, { on := 10, ground := Ground.guard }], guard := some (10, true) }) (v := ?_) rfl (by kernel_rfl) (by kernel_rfl) (by kernel_rfl) (fun _ _ _ h => h) (Or.inl ⟨by rfl, ?_⟩) hHeld ?_
                        rotate_left 1
                        · intro W hSw
                          (try dsimp only at hSw)
                          go_simp
                          try with_reducible rfl
                        try simp only [Act.put, List.setIfInBounds_toArray, List.set_cons_zero, List.set_cons_succ]
                        refine wpAnyH_take (i := 17) (oi := { dst := some 115, op := Op.fieldAddr 27 (Operand.tmp 1) 4, type := 0, pos := "ref.go:72", after := #[{ on := 10, ground := Ground.guard }], guard := some (10, true) }) (v := ?_) rfl (by kernel_rfl) (by kernel_rfl) (by kernel_rfl) (fun _ _ _ h => h) (Or.inl ⟨by rfl, ?_⟩) hHeld ?_
                        rotate_left 1
                        · intro W hSw
                          (try dsimp only at hSw)
                          go_simp
                          try with_reducible rfl
                        try simp only [Act.put, List.setIfInBounds_toArray, List.set_cons_zero, List.set_cons_succ]
                        refine wpAnyH_take (i := 18) (oi := { dst := some 116, op := Op.load 25 (Operand.tmp 115), type := 25, pos := "ref.go:72", after := #[{ on := 17, ground := Ground.data }, { on := 10, ground := Ground.guard }], guard := some (10, true) }) (v := ?_) rfl (by kernel_rfl) (by kernel_rfl) (by kernel_rfl) (fun _ _ _ h => h) (Or.inl ⟨by rfl, ?_⟩) hHeld ?_
                        rotate_left 1
                        · intro W hSw
                          (try dsimp only at hSw)
                          go_simp
                          try with_reducible rfl
                        try simp only [Act.put, List.setIfInBounds_toArray, List.set_cons_zero, List.set_cons_succ]
                        refine wpAnyH_take (i := 19) (oi := { dst := some 117, op := Op.move (Operand.tmp 6), type := 3, pos := "ref.go:72", after := #[{ on := 10, ground := Ground.guard }], guard := some (10, true) }) (v := ?_) rfl (by kernel_rfl) (by kernel_rfl) (by kernel_rfl) (fun _ _ _ h => h) (Or.inl ⟨by rfl, ?_⟩) hHeld ?_
                        rotate_left 1
                        · intro W hSw
                          (try dsimp only at hSw)
                          go_simp
                          try with_reducible rfl
                        try simp only [Act.put, List.setIfInBounds_toArray, List.set_cons_zero, List.set_cons_succ]
                        refine wpAnyH_take (i := 20) (oi := { dst := some 118, op := Op.indexAddr 25 (Operand.tmp 116) (Operand.tmp 117), type := 0, pos := "ref.go:72", after := #[{ on := 18, ground := Ground.data }, { on := 19, ground := Ground.data }, { on := 10, ground := Ground.guard }], guard := some (10, true) }) (v := ?_) rfl (by kernel_rfl) (by kernel_rfl) (by kernel_rfl) (fun _ _ _ h => h) (Or.inl ⟨by rfl, ?_⟩) hHeld ?_
                        rotate_left 1
                        · intro W hSw
                          (try dsimp only at hSw)
                          go_simp
                          try with_reducible rfl
                        try simp only [Act.put, List.setIfInBounds_toArray, List.set_cons_zero, List.set_cons_succ]
                        refine wpAnyH_take (i := 21) (oi := { dst := some 119, op := Op.load 93 (Operand.tmp 118), type := 93, pos := "ref.go:72", after := #[{ on := 20, ground := Ground.data }, { on := 10, ground := Ground.guard }], guard := some (10, true) }) (v := ?_) rfl (by kernel_rfl) (by kernel_rfl) (by kernel_rfl) (fun _ _ _ h => h) (Or.inl ⟨by rfl, ?_⟩) hHeld ?_
                        rotate_left 1
                        · intro W hSw
                          (try dsimp only at hSw)
                          go_simp
                          try with_reducible rfl
                        try simp only [Act.put, List.setIfInBounds_toArray, List.set_cons_zero, List.set_cons_succ]
                        refine wpAnyH_ready (rs := [22]) (by kernel_rfl) (by simp) ?_
                        refine AllReadyH.cons (o := { dst := some 120, op := Op.call { callee := Callee.value (Operand.func 66), args := #[Operand.tmp 114, Operand.tmp 119], argTypes := #[93, 93] }, type := 4, pos := "ref.go:72", after := #[{ on := 16, ground := Ground.data }, { on := 21, ground := Ground.data }, { on := 10, ground := Ground.chain }, { on := 10, ground := Ground.guard }], guard := some (10, true) }) rfl (fun K7 hK7 => ?_) ?_
                        · go_simp
                          refine (HBe.out _).mono ?_
                          rintro e w2 ⟨rfl, hb⟩
                          have HB2 : Hid (Below wr.heap.size wr w2) := Lib.hid (HB1.out.trans (hb.mono HB1.out.size))
                          clear hb
                          try dsimp only
                          refine hK7.out _ _ (⟨HXu.out _ HB2.out, HCx.out _ HB2.out, HCy.out _ HB2.out⟩) (fun hHeld => ?_)
                          clear hK7 K7
                          try simp only [Act.put, List.setIfInBounds_toArray, List.set_cons_zero, List.set_cons_succ]
                          refine wpAnyH_take (i := 23) (oi := { dst := some 121, op := Op.unOp UnOp.not 4 (Operand.tmp 120), type := 4, pos := "ref.go:72", after := #[{ on := 22, ground := Ground.data }, { on := 10, ground := Ground.guard }], guard := some (10, true) }) (v := ?_) rfl (by kernel_rfl) (by kernel_rfl) (by kernel_rfl) (fun _ _ _ h => h) (Or.inl ⟨by rfl, ?_⟩) hHeld ?_
                          rotate_left 1
                          · intro W hSw
                            (try dsimp only at hSw)
                            go_simp
                            try with_reducible rfl
                          try simp only [Act.put, List.setIfInBounds_toArray, List.set_cons_zero, List.set_cons_succ]
                          refine wpAnyH_take (i := 24) (oi := { dst := some 122, op := Op.pick (Operand.tmp 108) (Operand.tmp 121) (Operand.const (Value.bool false)), type := 4, pos := "ref.go:72", after := #[{ on := 10, ground := Ground.data }, { on := 23, ground := Ground.data }, { on := 7, ground := Ground.guard }], guard := some (7, false) }) (v := ?_) rfl (by kernel_rfl) (by kernel_rfl) (by kernel_rfl) (fun _ _ _ h => h) (Or.inl ⟨by rfl, ?_⟩) hHeld ?_
                          rotate_left 1
                          · intro W hSw
                            (try dsimp only at hSw)
                            go_simp
                            try with_reducible rfl
                          try simp only [Act.put, List.setIfInBounds_toArray, List.set_cons_zero, List.set_cons_succ]
                          refine wpAnyH_take (i := 25) (oi := { dst := some 123, op := Op.pick (Operand.tmp 105) (Operand.const (Value.bool true)) (Operand.tmp 122), type := 4, pos := "ref.go:72", after := #[{ on := 7, ground := Ground.data }, { on := 24, ground := Ground.data }], guard := none }) (v := ?_) rfl (by kernel_rfl) (by kernel_rfl) (by kernel_rfl) (fun _ _ _ h => h) (Or.inl ⟨by rfl, ?_⟩) hHeld ?_
                          rotate_left 1
                          · intro W hSw
                            (try dsimp only at hSw)
                            go_simp
                            try with_reducible rfl
                          try simp only [Act.put, List.setIfInBounds_toArray, List.set_cons_zero, List.set_cons_succ]
                          refine wpAnyH_done (by kernel_rfl) ?_ _
                          have HB9 := Lib.hid (HBr.out.trans (HB2.out.mono HBr.out.size))
                          clear hHeld
                          go_wp2
                          go_ret
                          exact ⟨by rw [HRf.out]; rfl, HBw2.out _ HB9.out⟩
                        exact AllReadyH.nil
                      exact AllReadyH.nil
                      --R17QE
              · have hlt' : ¬ ((k : Int) < k4) := by omega
                have hBs : okBans m.bans = true := by
                  have h5 : m.bans.length = k := by have := HK4.out; omega
                  have h6 := HN3.out
                  have h7 := HK4.out
                  unfold okBans
                  rw [h5, h6, Bool.true_and, decide_eq_true_eq]
                  omega
                have hEp : 0 ≤ m.epoch ∧ m.epoch ≤ 4096 := by
                  have h5 := HTe.out
                  unfold inR at h5
                  rw [HEm.out]
                  simp only [Bool.and_eq_true, decide_eq_true_eq] at h5
                  exact h5
                have HRt : Hid (R = true) := Lib.hid (HT.out ⟨hEp, HTh.out, ⟨HTk.out, HOs.out⟩, HPs.out, hBs⟩)
                clear hBs hEp hbw
                go_wp2
                go_ret
                exact ⟨by rw [HRt.out]; rfl, HBw2.out _ HBr.out⟩
  all_goals
    have HR := Lib.hid hr
    clear hr
    obtain ⟨c0, c1, c2, c3, c4⟩ := HX.out.cells
    go_wp2_with (first
      | (go_at_call 63; refine (HHo.out _ HB.out).mono ?_; rintro e w5 ⟨rfl, rfl⟩)
      | (go_at_call 64; refine (HWe.out _).mono ?_; rintro e w5 ⟨rfl, rfl⟩))
    go_ret
    exact ⟨by rw [HR.out]; rfl, HB.out⟩
end Go.Proofs.YtoeklnmmnmmjeaaGreat.crush
