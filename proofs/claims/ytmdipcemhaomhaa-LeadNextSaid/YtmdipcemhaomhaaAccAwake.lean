/- The chapter's examples. -/
import Derived.Test.YtmdipcemhaomhaaRows
import Derived.Test.YtmdipcemhaomhaaAccProm
namespace Go.Proofs.Ytmdipcemhaomhaa.crush
open Go.RowKit
open Go.Proofs.Ytmdipcemhaomhaa.kit Go.Proofs.Ytmdipcemhaomhaa.own
set_option linter.unusedVariables false
set_option linter.unusedSimpArgs false

def bA : ByteArray := { data := #[97] }
def bB : ByteArray := { data := #[98] }
def bC : ByteArray := { data := #[99] }
def awA0 : AccV := ⟨0, 0, false, 0, 0, { data := #[] }, []⟩
def awA1 : AccV := ⟨1, 2, false, 0, 0, { data := #[] }, []⟩
def awA2 : AccV := ⟨1, 2, true, 1, 2, bA, []⟩
def awA3 : AccV := ⟨2, 0, true, 1, 2, bA, []⟩
def awA4 : AccV := ⟨2, 0, false, 0, 0, { data := #[] }, [bA, bC]⟩
theorem aw_p1 : prepE awA0 ⟨1, 2⟩ = awA1 ∧ prepOk awA0 ⟨1, 2⟩ = true := ⟨rfl, by decide +kernel⟩
theorem aw_p2 : prepE awA1 ⟨1, 1⟩ = awA1 ∧ prepOk awA1 ⟨1, 1⟩ = false := ⟨rfl, by decide +kernel⟩
theorem aw_a3 : accE awA1 ⟨1, 2⟩ 1 bA = awA2 ∧ accN awA1 ⟨1, 2⟩ 1 bA = 1 := ⟨rfl, by decide +kernel⟩
theorem aw_a4 : accE awA2 ⟨1, 1⟩ 1 bB = awA2 ∧ accN awA2 ⟨1, 1⟩ 1 bB = 0 := ⟨rfl, by decide +kernel⟩
theorem aw_a5 : accE awA2 ⟨2, 0⟩ 2 bB = awA3 ∧ accN awA2 ⟨2, 0⟩ 2 bB = 3 := ⟨rfl, by decide +kernel⟩
theorem aw_l : learnL awA3 0 [bA, bC] = [bA, bC] := rfl
theorem aw_e : learnE awA3 0 [bA, bC] = awA4 := by unfold learnE; rw [aw_l]; rfl
theorem nil_row {w : World} {e B : Nat} {s : Value} (h : Own tx 1 e w B s []) : ∃ x y, s = .slice x 0 y ∧ (∀ u, Sl tx 1 u (.slice x 0 y) []) := by
  obtain ⟨x, y, rfl⟩ := h.slice
  obtain ⟨h1, a, c, he, h2, h3⟩ := h.read tx_len
  cases he
  exact ⟨x, y, rfl, fun u => ⟨h1, x, y, rfl, h2, fun h => absurd h (by simp)⟩⟩
theorem sl_two (w : World) (x y : ByteArray) : Sl tx 1 (w.alloc (.cells #[.string x, .string y] 9)) (.slice (some ⟨w.heap.size, 0, none⟩) 2 2) [x, y] := by
  refine ⟨by simp, _, _, rfl, fun h => (by cases h), fun _ => ⟨w.heap.size, 0, rfl, by simp, fun j hj i u hu => ?_⟩⟩
  have hj3 : j < 2 := hj
  rw [World.cell?_alloc_at _ _ _ _ rfl]
  rcases (show j = 0 ∨ j = 1 by omega) with rfl | rfl
  all_goals
    cases i with
    | zero => simpa [tx] using hu
    | succ i => simp [tx] at hu
theorem abox_in {W W' : World} {B : Nat} {N : Nat} {pr pm : Int} {has : Bool} {ar am : Int} {val : ByteArray} {s : Value} (h : ABox W N pr pm has ar am val s) (hb : Below W.heap.size W W') : ABox W' N pr pm has ar am val s := h.keep hb

set_option maxHeartbeats 16000000 in
set_option maxRecDepth 100000 in
theorem awake_any (w : World) : Calls Try.prog 8 #[] w fun e w' => e = .returned (.bool true) ∧ Below w.heap.size w w' := by
  have HP1 := Lib.hid (fun u => Prepare_any (awA0.agg (.slice none 0 0)) awA0 ⟨1, 2⟩ u (own_accR (Own.nil u 0 0)) (by decide))
  have HP2 := Lib.hid (fun x y (h : ∀ u, Sl tx 1 u (.slice x 0 y) []) u => Prepare_any (awA1.agg (.slice x 0 y)) awA1 ⟨1, 1⟩ u ⟨_, rfl, h u⟩ (by decide))
  have HA3 := Lib.hid (fun x y (h : ∀ u, Sl tx 1 u (.slice x 0 y) []) u => Accept_any (awA1.agg (.slice x 0 y)) awA1 ⟨1, 2⟩ 1 bA u ⟨_, rfl, h u⟩ (by decide))
  have HA4 := Lib.hid (fun x y (h : ∀ u, Sl tx 1 u (.slice x 0 y) []) u => Accept_any (awA2.agg (.slice x 0 y)) awA2 ⟨1, 1⟩ 1 bB u ⟨_, rfl, h u⟩ (by decide))
  have HA5 := Lib.hid (fun x y (h : ∀ u, Sl tx 1 u (.slice x 0 y) []) u => Accept_any (awA2.agg (.slice x 0 y)) awA2 ⟨2, 0⟩ 2 bB u ⟨_, rfl, h u⟩ (by decide))
  have HPr := Lib.hid (fun x y (h : ∀ u, Sl tx 1 u (.slice x 0 y) []) u => Promise_any (awA3.agg (.slice x 0 y)) awA3 4 0 u ⟨_, rfl, h u⟩ ⟨_, _, rfl, Nat.zero_le _⟩ (by decide))
  have HLe := Lib.hid (fun x y (h : ∀ u, Sl tx 1 u (.slice x 0 y) []) u => Learn_any (awA3.agg (.slice x 0 y)) awA3 0 (.slice (some ⟨u.heap.size, 0, none⟩) 2 2) [bA, bC] (u.alloc (.cells #[.string bA, .string bC] 9)) ⟨_, rfl, h _⟩ (by decide) (by unfold I64; omega) (sl_two u bA bC) ⟨_, _, rfl, Nat.le_refl _⟩)
  unfold PrepS at HP1 HP2
  unfold AcptS at HA3 HA4 HA5
  unfold PromS at HPr
  unfold LrnS at HLe
  rw [aw_p1.1, aw_p1.2] at HP1
  rw [aw_p2.1, aw_p2.2] at HP2
  rw [aw_a3.1, aw_a3.2] at HA3
  rw [aw_a4.1, aw_a4.2] at HA4
  rw [aw_a5.1, aw_a5.2] at HA5
  rw [aw_l, aw_e] at HLe
  unfold AccV.agg BalV.val at HP1 HP2 HA3 HA4 HA5
  unfold AccV.agg at HPr HLe
  unfold awA0 awA1 at HP1
  unfold awA1 at HP2
  unfold awA1 awA2 bA at HA3
  unfold awA2 bA bB at HA4
  unfold awA2 awA3 bA bB at HA5
  unfold awA3 bA at HPr
  unfold awA3 awA4 bA bC at HLe
  simp only [List.length_nil, List.length_cons] at HP1 HP2 HA3 HA4 HA5 HPr HLe
  go_enter Try.func8, Try.ntmps8
  go_upto_region 2 with (go_at_call 10; refine (HP1.out _).mono ?_; rintro e w1 ⟨s1, rfl, ho, hb⟩; obtain ⟨x1, y1, rfl, hn⟩ := nil_row ho; have HN1 := Lib.hid hn; have HB1 := Lib.hid hb; clear ho hb hn)
  have HXa := Lib.hid (abox_new w1 1 2 false 0 0 { data := #[] } (.slice x1 0 y1))
  have HBa := Lib.hid (HB1.out.trans ((below_new w1 (.cells #[.int .i64 1, .int .i64 2, .bool false, .int .i64 0, .int .i64 0, .string { data := #[] }, .slice x1 0 y1] 26)).mono HB1.out.size))
  have HAl := Lib.hid HB1.out.size
  generalize w1.alloc _ = W at HXa HBa ⊢
  generalize w1.heap.size = A at HXa HAl ⊢
  obtain ⟨c0, c1, c2, c3, c4, c5, c6⟩ := HXa.out.cells
  go_upto_region 3 with (go_at_call 10; refine (HP2.out _ _ HN1.out _).mono ?_; rintro e w2 ⟨s2, rfl, ho, hb⟩; obtain ⟨x2, y2, rfl, hn⟩ := nil_row ho; have HX2 := Lib.hid (HXa.out.keep hb); have HB2 := Lib.hid (HBa.out.trans (hb.mono HBa.out.size)); clear ho hb hn c0 c1 c2 c3 c4 c5 c6)
  have HX3 := Lib.hid (HX2.out.keep (below_new w2 (.cells #[.int .i64 1, .int .i64 2, .bool false, .int .i64 0, .int .i64 0, .string { data := #[] }, .slice x2 0 y2] 26)))
  have HB3 := Lib.hid (HB2.out.trans ((below_new w2 (.cells #[.int .i64 1, .int .i64 2, .bool false, .int .i64 0, .int .i64 0, .string { data := #[] }, .slice x2 0 y2] 26)).mono HB2.out.size))
  generalize w2.alloc _ = W3 at HX3 HB3 ⊢
  obtain ⟨c0, c1, c2, c3, c4, c5, c6⟩ := HX3.out.cells
  go_upto_region 4 with (first
    | (go_at_call 13; refine (HA3.out _ _ HN1.out _).mono ?_; rintro e w4 ⟨s4, rfl, ho, hb⟩; obtain ⟨x4, y4, rfl, hn⟩ := nil_row ho; have HN4 := Lib.hid hn; have HX4 := Lib.hid (HX3.out.keep hb); have HB4 := Lib.hid (HB3.out.trans (hb.mono HB3.out.size)); clear ho hb hn c0 c1 c2 c3 c4 c5 c6)
    | (refine wpList_store_mid rfl 26 _ _ rfl A 0 #[.int .i64 1, .int .i64 2, .bool true, .int .i64 1, .int .i64 2, .string { data := #[97] }, .slice x4 0 y4] rfl rfl HX4.out.there sizeAcc (acc_one _ _ _ _ _ _ _ _ _) ?_; have HX5 := Lib.hid (HX4.out.put 1 2 true 1 2 { data := #[97] } (.slice x4 0 y4)); have HB5 := Lib.hid (Below.setCells HB4.out HAl.out 0 [.int .i64 1, .int .i64 2, .bool true, .int .i64 1, .int .i64 2, .string { data := #[97] }, .slice x4 0 y4]); generalize (w4.setCells A 0 (#[.int .i64 1, .int .i64 2, .bool true, .int .i64 1, .int .i64 2, .string { data := #[97] }, .slice x4 0 y4] : Array Value).toList) = W5 at HX5 HB5 ⊢))
  obtain ⟨c0, c1, c2, c3, c4, c5, c6⟩ := HX5.out.cells
  go_upto_region 5 with (go_at_call 13; refine (HA4.out _ _ HN4.out _).mono ?_; rintro e w6 ⟨s6, rfl, ho, hb⟩; obtain ⟨x6, y6, rfl, hn⟩ := nil_row ho; have HX6 := Lib.hid (HX5.out.keep hb); have HB6 := Lib.hid (HB5.out.trans (hb.mono HB5.out.size)); clear ho hb hn c0 c1 c2 c3 c4 c5 c6)
  have HX7 := Lib.hid (HX6.out.keep (below_new w6 (.cells #[.int .i64 1, .int .i64 2, .bool true, .int .i64 1, .int .i64 2, .string { data := #[97] }, .slice x6 0 y6] 26)))
  have HB7 := Lib.hid (HB6.out.trans ((below_new w6 (.cells #[.int .i64 1, .int .i64 2, .bool true, .int .i64 1, .int .i64 2, .string { data := #[97] }, .slice x6 0 y6] 26)).mono HB6.out.size))
  generalize w6.alloc _ = W7 at HX7 HB7 ⊢
  obtain ⟨c0, c1, c2, c3, c4, c5, c6⟩ := HX7.out.cells
  go_upto_region 6 with (go_at_call 13; refine (HA5.out _ _ HN4.out _).mono ?_; rintro e w8 ⟨s8, rfl, ho, hb⟩; obtain ⟨x8, y8, rfl, hn⟩ := nil_row ho; have HN8 := Lib.hid hn; have HB8 := Lib.hid (HB7.out.trans (hb.mono HB7.out.size)); clear ho hb hn c0 c1 c2 c3 c4 c5 c6)
  have HXb := Lib.hid (abox_new w8 2 0 true 1 2 { data := #[97] } (.slice x8 0 y8))
  have HB9 := Lib.hid (HB8.out.trans ((below_new w8 (.cells #[.int .i64 2, .int .i64 0, .bool true, .int .i64 1, .int .i64 2, .string { data := #[97] }, .slice x8 0 y8] 26)).mono HB8.out.size))
  generalize w8.alloc _ = W9 at HXb HB9 ⊢
  generalize w8.heap.size = B at HXb ⊢
  obtain ⟨c0, c1, c2, c3, c4, c5, c6⟩ := HXb.out.cells
  go_upto_region 7 with (go_at_call 17; refine (HPr.out _ _ HN8.out _).mono ?_; rintro e w10 ⟨s10, rfl, ho, hb⟩; obtain ⟨x10, y10, rfl⟩ := ho.slice; have HX10 := Lib.hid (HXb.out.keep hb); have HB10 := Lib.hid (HB9.out.trans (hb.mono HB9.out.size)); clear ho hb c0 c1 c2 c3 c4 c5 c6)
  have HPx := Lib.hid (pbox_new w10 4 0 true 1 2 { data := #[97] })
  have HX11 := Lib.hid (HX10.out.keep (below_new w10 (.cells #[.int .i64 4, .int .i64 0, .bool true, .int .i64 1, .int .i64 2, .string { data := #[97] }] 37)))
  have HB11 := Lib.hid (HB10.out.trans ((below_new w10 (.cells #[.int .i64 4, .int .i64 0, .bool true, .int .i64 1, .int .i64 2, .string { data := #[97] }] 37)).mono HB10.out.size))
  generalize w10.alloc _ = W11 at HPx HX11 HB11 ⊢
  generalize w10.heap.size = P at HPx ⊢
  obtain ⟨c0, c1, c2, c3, c4, c5, c6⟩ := HX11.out.cells
  go_upto_region 8 with (go_at_call 15; refine (HLe.out _ _ HN8.out _).mono ?_; rintro e w12 ⟨s12, rfl, ho, hb⟩; obtain ⟨x12, y12, rfl⟩ := ho.slice; have hb2 := (below_new W11 (.cells #[.string { data := #[97] }, .string { data := #[99] }] 9)).trans (hb.mono (below_new W11 _).size); have HP12 := Lib.hid (HPx.out.keep hb2); have HB12 := Lib.hid (HB11.out.trans (hb2.mono HB11.out.size)); clear ho hb hb2 c0 c1 c2 c3 c4 c5 c6)
  have HXc := Lib.hid (abox_new w12 2 0 false 0 0 { data := #[] } (.slice x12 2 y12))
  have HP13 := Lib.hid (HP12.out.keep (below_new w12 (.cells #[.int .i64 2, .int .i64 0, .bool false, .int .i64 0, .int .i64 0, .string { data := #[] }, .slice x12 2 y12] 26)))
  have HB13 := Lib.hid (HB12.out.trans ((below_new w12 (.cells #[.int .i64 2, .int .i64 0, .bool false, .int .i64 0, .int .i64 0, .string { data := #[] }, .slice x12 2 y12] 26)).mono HB12.out.size))
  generalize w12.alloc _ = W13 at HXc HP13 HB13 ⊢
  generalize w12.heap.size = C at HXc ⊢
  obtain ⟨c0, c1, c2, c3, c4, c5, c6⟩ := HXc.out.cells
  obtain ⟨p0, p1, p2, p3, p4, p5⟩ := HP13.out.cells
  go_wp2
  go_ret
  exact ⟨rfl, HB13.out⟩
end Go.Proofs.Ytmdipcemhaomhaa.crush
