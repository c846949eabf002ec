/- All ways from one set of nodes to another. -/
import Derived.Test.YtalnmbfmfeaohaaGreatRows
import Derived.Test.YtalnmbfmfeaohaaGreatFlightLib
namespace Go.Proofs.YtalnmbfmfeaohaaGreat.flight
open Go.RowKit
open Go.Proofs.YtalnmbfmfeaohaaGreat.kit Go.Proofs.YtalnmbfmfeaohaaGreat.own
set_option linter.unusedVariables false

/-- The ways from one node to those. -/
def from1 (a : Int) (bs : List Int) : List Wy := (bs.filter fun b => !(a == b)).map fun b => (a, b)
/-- All ways. -/
def thereL (us bs : List Int) : List Wy := us.flatMap fun a => from1 a bs
theorem from1_snoc (a : Int) (bs : List Int) (b : Int) : from1 a (bs ++ [b]) = from1 a bs ++ (if a = b then [] else [(a, b)]) := by
  unfold from1
  rw [List.filter_append, List.map_append]
  by_cases h : a = b <;> simp [h]
theorem from1_len (a : Int) (bs : List Int) : (from1 a bs).length ≤ bs.length := by
  unfold from1
  rw [List.length_map]
  exact List.length_filter_le ..
theorem thereL_len (us bs : List Int) : (thereL us bs).length ≤ us.length * bs.length := by
  induction us with
  | nil => simp [thereL]
  | cons a us ih =>
    unfold thereL at ih ⊢
    rw [List.flatMap_cons, List.length_append, List.length_cons, Nat.succ_mul]
    have := from1_len a bs
    omega
theorem thereL_snoc (us bs : List Int) (a : Int) : thereL (us ++ [a]) bs = thereL us bs ++ from1 a bs := by simp [thereL]
theorem below_alloc1 (w : World) (o : Obj) : Below w.heap.size w (w.alloc o) := (Below.refl _ _).alloc (Nat.le_refl _) _
theorem icell_at {w : World} {b o : Nat} {x : Int} (h : w.rangeAt b o (ic x)) : w.cell? ⟨b, o, none⟩ = some (.int .i64 x) := h 0 _ rfl

set_option maxHeartbeats 8000000 in
set_option maxRecDepth 100000 in
theorem there_any (va vb : Value) (us bs : List Int) (w : World) (ha : Sl ic 1 w va us) (hb : Sl ic 1 w vb bs) (hlen : us.length * bs.length * 16 ≤ 140737488355328) :
    Calls Tryz.prog 40 #[va, vb] w (ClonW w (thereL us bs)) := by
  obtain ⟨hl1, a1, cap1, rfl, -, -⟩ := id ha
  obtain ⟨hl2, a2, cap2, rfl, -, -⟩ := id hb
  have HA := Lib.hid ha; have HBs := Lib.hid hb; have HLen := Lib.hid hlen
  obtain ⟨L1, hL1⟩ : ∃ L, us.length = L := ⟨_, rfl⟩
  obtain ⟨L2, hL2⟩ : ∃ L, bs.length = L := ⟨_, rfl⟩
  have HL1 := Lib.hid hL1; have HL2 := Lib.hid hL2
  rw [hL1] at hl1 HA ⊢
  rw [hL2] at hl2 HBs ⊢
  clear ha hb hL1 hL2 hlen
  go_enter Tryz.func40, Tryz.ntmps40
  go_wp2
  go_loopw [5, 12] (fun vl vi wr => ∃ (k : Nat), k ≤ L1 ∧ vi = .int .i64 k ∧ Own wc 2 40 wr w.heap.size vl (thereL (us.take k) bs) ∧ Below w.heap.size w wr) (fun _ vi _ => L1 - (intOf vi).toNat)
  case atStart => exact ⟨0, by omega, rfl, Own.nil _ _ _, Below.refl _ _⟩
  case round =>
    obtain ⟨k, hk, rfl, ho, hbw⟩ := hrel
    have HB := Lib.hid hbw; have HO := Lib.hid ho
    obtain ⟨xl, cl, rfl⟩ := ho.slice
    clear hbw ho
    by_cases hlt : k < L1
    · have hlt' : (k : Int) < L1 := by omega
      have hi : k < us.length := by rw [HL1.out]; exact hlt
      have hs2 : Sl ic 1 wr (.slice a1 L1 cap1) us := HA.out.keep HB.out
      obtain ⟨_, a', cap', he, -, hcell⟩ := hs2
      have he' : a1 = a' ∧ cap1 = cap' := by cases he; exact ⟨rfl, rfl⟩
      obtain ⟨rfl, rfl⟩ := he'
      clear he
      obtain ⟨b, off, rfl, hbl, hcell⟩ := hcell (by omega)
      have c1 := icell_at (hcell k hi)
      rw [Nat.mul_one] at c1
      clear hcell hbl
      have ht := List.take_succ_eq_append_getElem hi
      obtain ⟨x, hx⟩ : ∃ x, us[k] = x := ⟨_, rfl⟩
      rw [hx] at c1 ht
      have HT := Lib.hid ht
      clear ht hx
      obtain ⟨M, hM⟩ : ∃ M, (thereL (us.take k) bs).length = M := ⟨_, rfl⟩
      have HM := Lib.hid hM
      have HMl : Hid (M ≤ k * L2) := Lib.hid (by
        have := thereL_len (us.take k) bs
        rw [List.length_take, HL1.out, Nat.min_eq_left hk, HL2.out, hM] at this
        exact this)
      have HMb : Hid ((M + L2) * 16 ≤ 140737488355328) := Lib.hid (by
        have h1 := Nat.mul_le_mul_right L2 (show k + 1 ≤ L1 from hlt)
        rw [Nat.add_mul, Nat.one_mul] at h1
        have h2 := HLen.out
        rw [HL1.out, HL2.out] at h2
        have h3 := HMl.out
        omega)
      rw [hM] at HO ⊢
      clear hM
      go_wp2_with fail
      go_loopw [5, 18] (fun vl vi wr2 => ∃ (j : Nat), j ≤ L2 ∧ vi = .int .i64 j ∧ Own wc 2 40 wr2 w.heap.size vl (thereL (us.take k) bs ++ from1 x (bs.take j)) ∧ Below w.heap.size w wr2) (fun _ vi _ => L2 - (intOf vi).toNat)
      case atStart => exact ⟨0, by omega, rfl, by simpa [from1] using HO.out, HB.out⟩
      case round =>
        obtain ⟨j, hj, rfl, ho2, hbw2⟩ := hrel
        have HB2 := Lib.hid hbw2; have HO2 := Lib.hid ho2
        obtain ⟨xl2, cl2, rfl⟩ := ho2.slice
        clear hbw2 ho2 c1
        by_cases hlt2 : j < L2
        · have hlt2' : (j : Int) < L2 := by omega
          have hi2 : j < bs.length := by rw [HL2.out]; exact hlt2
          have hs3 := HBs.out.keep HB2.out
          obtain ⟨_, a', cap', he, -, hcell⟩ := hs3
          have he' : a2 = a' ∧ cap2 = cap' := by cases he; exact ⟨rfl, rfl⟩
          obtain ⟨rfl, rfl⟩ := he'
          clear he
          obtain ⟨b2, off2, rfl, hbl, hcell⟩ := hcell (by omega)
          have d1 := icell_at (hcell j hi2)
          rw [Nat.mul_one] at d1
          clear hcell hbl
          have ht := List.take_succ_eq_append_getElem hi2
          obtain ⟨y, hy⟩ : ∃ y, bs[j] = y := ⟨_, rfl⟩
          rw [hy] at d1 ht
          have HF : Hid (from1 x (bs.take (j + 1)) = from1 x (bs.take j) ++ (if x = y then [] else [(x, y)])) := Lib.hid (by rw [ht, from1_snoc])
          have HLn : Hid ((thereL (us.take k) bs ++ from1 x (bs.take j)).length ≤ M + j) := Lib.hid (by
            rw [List.length_append, HM.out]
            have := from1_len x (bs.take j)
            rw [List.length_take] at this
            omega)
          clear ht hy
          obtain ⟨M2, hM2⟩ : ∃ M, (thereL (us.take k) bs ++ from1 x (bs.take j)).length = M := ⟨_, rfl⟩
          have HM2 := Lib.hid hM2
          rw [hM2] at HO2 HLn ⊢
          clear hM2
          by_cases hxy : x = y
          · have hq : True → (x != y) = false := fun _ => by simp [hxy]
            have HQ := Lib.hid hxy
            clear hxy
            go_wp2
            go_roundw
            case rel => exact ⟨j + 1, by omega, by go_num, by rw [HF.out, if_pos HQ.out, List.append_nil]; exact HO2.out, HB2.out⟩
            case measure => simp [intOf]; omega
          · have hq : True → (x != y) = true := fun _ => by simp [hxy]
            have HQ := Lib.hid hxy
            have HSn := Lib.hid (sl_new wc_len wr (x, y) 40 _ rfl)
            have hbn := below_alloc1 wr (.cells (wc (x, y)).toArray 40)
            have HO3 := Lib.hid (HO2.out.below hbn)
            have HBn := Lib.hid (HB2.out.trans (hbn.mono HB2.out.size))
            clear hxy hbn
            go_wp2_with (at_builtin; refine appSl wc_len wc_one (by decide) rfl _ _ 23 rfl w.heap.size 40 _ (by rfl) 16 Tryz.underlying23 infoWay _ (thereL (us.take k) bs ++ from1 x (bs.take j)) rfl HO3.out _ [(x, y)] rfl HSn.out (by rw [HM2.out]; have := HLn.out; have := HMb.out; unfold maxLen; simp; omega) (by rw [HM2.out]; have := HLn.out; have := HMb.out; simp; omega) HBn.out.size ?_; intro v3 w3 ho3 hk3; obtain ⟨x3, y3, rfl⟩ := ho3.slice; have HO4 := Lib.hid ho3; have HB4 := Lib.hid (HBn.out.trans hk3.toBelow); clear ho3 hk3)
            clear d1
            go_wp2
            go_roundw
            case rel => exact ⟨j + 1, by omega, by go_num, by rw [HF.out, if_neg HQ.out, ← List.append_assoc]; have := HO4.out; simp only [List.length_append, List.length_cons, List.length_nil, Nat.add_assoc, Nat.zero_add] at this ⊢; exact this, HB4.out⟩
            case measure => simp [intOf]; omega
        · obtain rfl : j = L2 := by omega
          go_wp2
          go_roundw
          case rel =>
            refine ⟨k + 1, by omega, by go_num, ?_, HB2.out⟩
            have := HO2.out
            rw [show bs.take j = bs by rw [← HL2.out, List.take_length]] at this
            rw [HT.out, thereL_snoc]
            rw [show bs.take j = bs by rw [← HL2.out, List.take_length]]
            exact this
          case measure => simp [intOf]; omega
    · obtain rfl : k = L1 := by omega
      go_wp2
      go_ret
      refine ⟨_, rfl, ?_, HB.out⟩
      have := HO.out
      rw [show us.take k = us by rw [← HL1.out, List.take_length]] at this ⊢
      exact this

end Go.Proofs.YtalnmbfmfeaohaaGreat.flight
