/- A row of fields against a row. -/
import Derived.Test.YtgjfijognplfpaaRows
import Derived.Test.YtgjfijognplfpaaCodeOrd2
import Derived.Test.YtgjfijognplfpaaCodeRPick
namespace Go.Proofs.Ytgjfijognplfpaa.code
open Go.RowKit
open Go.Proofs.Ytgjfijognplfpaa.kit Go.Proofs.Ytgjfijognplfpaa.cm
set_option linter.unusedVariables false

/-- How two rows compare, by the program's way. -/
def rowsF : List Fld → List Fld → Int
  | [], [] => 0
  | [], _ :: _ => -1
  | _ :: _, [] => 1
  | f :: l, g :: m => if ordF f g = 0 then rowsF l m else ordF f g

theorem set_one {W : World} {b : Nat} {c : Array Value} {T : TypeId} (h : W.heap[b]? = some (.cells c T (0, 0))) (o : Nat) (v : Value) : (W.setCell ⟨b, o, none⟩ v).heap[b]? = some (.cells (c.setIfInBounds o v) T (0, 0)) := by
  have hb := (Array.getElem?_eq_some_iff.1 h).1
  have hv := (Array.getElem?_eq_some_iff.1 h).2
  unfold World.setCell
  simp [Array.getElem?_modify, h]
theorem set_full {W : World} {b : Nat} {a0 a1 a2 a3 : Value} {T : TypeId} (h : W.heap[b]? = some (.cells #[a0, a1, a2, a3] T (0, 0))) (x y z u : Value) : (W.setCells b 0 [x, y, z, u]).heap[b]? = some (.cells #[x, y, z, u] T (0, 0)) := by
  rw [setCells4]
  exact set_one (set_one (set_one (set_one h 0 x) 1 y) 2 z) 3 u

theorem rowsF_step {fa fb : List Fld} {k : Nat} (ha : k < fa.length) (hb : k < fb.length) : rowsF (fa.drop k) (fb.drop k) = if ordF fa[k] fb[k] = 0 then rowsF (fa.drop (k + 1)) (fb.drop (k + 1)) else ordF fa[k] fb[k] := by
  rw [List.drop_eq_getElem_cons ha, List.drop_eq_getElem_cons hb, rowsF]

set_option maxHeartbeats 4000000 in
set_option maxRecDepth 100000 in
theorem compareF_any (s1 s2 : Value) (fa fb : List Fld) (w : World) (hs1 : SlF w s1 fa) (hs2 : SlF w s2 fb) :
    Calls Try.prog 34 #[s1, s2, .func (.func 35) #[] #[]] w fun e w' => e = .returned (.int .i64 (rowsF fa fb)) ∧ Below w.heap.size w w' := by
  obtain ⟨hl1, a1, cap1, rfl, _⟩ := id hs1
  obtain ⟨hl2, a2, cap2, rfl, _⟩ := id hs2
  have HS1 := Lib.hid hs1; have HS2 := Lib.hid hs2
  obtain ⟨L1, hL1⟩ : ∃ L, fa.length = L := ⟨_, rfl⟩
  obtain ⟨L2, hL2⟩ : ∃ L, fb.length = L := ⟨_, rfl⟩
  have HL1 := Lib.hid hL1; have HL2 := Lib.hid hL2
  rw [hL1] at hl1 ⊢
  rw [hL2] at hl2 ⊢
  clear hs1 hs2 hL1 hL2
  go_enter Try.func34, Try.ntmps34
  go_wp2
  go_loopw [13] (fun i wr => ∃ k : Nat, k ≤ L1 ∧ k ≤ L2 ∧ i = .int .i64 k ∧ rowsF fa fb = rowsF (fa.drop k) (fb.drop k) ∧ Below w.heap.size w wr) (fun i _ => L1 - (intOf i).toNat)
  case atStart => exact ⟨0, by omega, by omega, rfl, rfl, Below.refl _ _⟩
  case round =>
    obtain ⟨k, hk1, hk2, rfl, hrow, hb⟩ := hrel
    have HB := Lib.hid hb; have HR := Lib.hid hrow
    clear hb hrow
    by_cases hlt : k < L1
    · have hlt' : (k : Int) < L1 := by omega
      have hi : k < fa.length := by rw [HL1.out]; exact hlt
      have hsa : SlF wr (.slice a1 fa.length cap1) fa := HS1.out.below HB.out
      obtain ⟨_, a', cap', he, hcell⟩ := hsa
      cases he
      obtain ⟨b, off, rfl, hbl, hcell⟩ := hcell (by omega)
      obtain ⟨h1, h2, h3, h4⟩ := hcell k hi
      obtain ⟨f, hf⟩ : ∃ f, fa[k] = f := ⟨_, rfl⟩
      rw [hf] at h1 h2 h3 h4
      have HF := Lib.hid hf
      clear hcell hf
      by_cases hlt2 : k < L2
      · have hlt2' : (k : Int) < L2 := by omega
        have hlt2n : ¬ (L2 : Int) ≤ k := by omega
        have hi2 : k < fb.length := by rw [HL2.out]; exact hlt2
        have hsb : SlF (wr.alloc (.cells #[.int .i64 f.kind, .int .i64 f.num, .string f.text, .bool f.is] 25)) (.slice a2 fb.length cap2) fb := HS2.out.below (HB.out.trans ((Below.refl _ _).alloc HB.out.size _))
        obtain ⟨_, a', cap', he, hcell⟩ := hsb
        cases he
        obtain ⟨b2, off2, rfl, hbl2, hcell⟩ := hcell (by omega)
        obtain ⟨d1, d2, d3, d4⟩ := hcell k hi2
        obtain ⟨g, hg⟩ : ∃ g, fb[k] = g := ⟨_, rfl⟩
        rw [hg] at d1 d2 d3 d4
        have HG := Lib.hid hg
        have hst := rowsF_step hi hi2
        rw [HF.out, HG.out] at hst
        have HST := Lib.hid hst
        clear hcell hg hst
        go_wp2_with fail
        refine (order_any f g _).mono ?_
        rintro e w2 ⟨rfl, hb2⟩
        have HB2 := Lib.hid (show Below w.heap.size w w2 from (HB.out.trans (((Below.refl _ _).alloc (Nat.le_refl _) _).alloc (by simp) _ |>.mono HB.out.size)).trans (hb2.mono (by have := HB.out.size; simp; omega)))
        clear hb2 h1 h2 h3 h4 d1 d2 d3 d4
        by_cases hz : ordF f g = 0
        · have hst := HST.out
          rw [if_pos hz] at hst
          have hd : True → (ordF f g != 0) = false := fun _ => by simp [hz]
          have HST2 := Lib.hid hst
          have HZ := Lib.hid hz
          clear hst hz
          go_wp2
          go_roundw
          case rel => exact ⟨k + 1, by omega, by omega, by go_num, by rw [HR.out]; exact HST2.out, HB2.out⟩
          case measure => simp [intOf]; omega
        · have hst := HST.out
          rw [if_neg hz] at hst
          have hd : True → (ordF f g != 0) = true := fun _ => by simp [hz]
          have HE := Lib.hid (HR.out.trans hst)
          clear hst hz
          go_wp2
          go_ret
          exact ⟨by rw [HE.out]; rfl, HB2.out⟩
      · obtain rfl : k = L2 := by omega
        have hr : rowsF fa fb = 1 := by
          have e2 : fb.drop k = [] := List.drop_eq_nil_of_le (by rw [HL2.out]; exact Nat.le_refl _)
          rw [HR.out, List.drop_eq_getElem_cons hi, e2, rowsF]
        have HRR := Lib.hid hr
        clear hr
        have hle : (k : Int) ≤ k := Int.le_refl _
        have HB2 := Lib.hid (HB.out.trans ((Below.refl _ _).alloc HB.out.size (.cells #[.int .i64 f.kind, .int .i64 f.num, .string f.text, .bool f.is] 25)))
        go_wp2_with fail
        go_ret
        exact ⟨by rw [HRR.out]; rfl, HB2.out⟩
    · obtain rfl : k = L1 := by omega
      by_cases hlt2 : k < L2
      · have hlt2' : (k : Int) < L2 := by omega
        have hi2 : k < fb.length := by rw [HL2.out]; exact hlt2
        have hr : rowsF fa fb = -1 := by
          have e1 : fa.drop k = [] := List.drop_eq_nil_of_le (by rw [HL1.out]; exact Nat.le_refl _)
          rw [HR.out, List.drop_eq_getElem_cons hi2, e1, rowsF]
        have HRR := Lib.hid hr
        clear hr
        go_wp2
        go_ret
        exact ⟨by rw [HRR.out]; rfl, HB.out⟩
      · have hlt2' : ¬ (k : Int) < L2 := by omega
        have hr : rowsF fa fb = 0 := by
          have e1 : fa.drop k = [] := List.drop_eq_nil_of_le (by rw [HL1.out]; exact Nat.le_refl _)
          have e2 : fb.drop k = [] := List.drop_eq_nil_of_le (by rw [HL2.out]; omega)
          rw [HR.out, e1, e2, rowsF]
        have HRR := Lib.hid hr
        clear hr
        go_wp2
        go_ret
        exact ⟨by rw [HRR.out]; rfl, HB.out⟩

set_option maxHeartbeats 4000000 in
set_option maxRecDepth 100000 in
theorem Order_any (s1 s2 : Value) (fa fb : List Fld) (w : World) (hs1 : SlF w s1 fa) (hs2 : SlF w s2 fb) :
    Calls Try.prog 15 #[s1, s2] w fun e w' => e = .returned (.int .i64 (if fits fa && fits fb then rowsF fa fb else 0)) ∧ Below w.heap.size w w' := by
  have HS1 := Lib.hid hs1; have HS2 := Lib.hid hs2
  clear hs1 hs2
  by_cases h1 : fits fa = true
  · by_cases h2 : fits fb = true
    · rw [h1, h2]
      go_enter Try.func15, Try.ntmps15
      go_wp2_with fail
      refine (contains_any s1 fa w HS1.out).mono ?_
      rintro e w1 ⟨rfl, hb1⟩
      have HB1 := Lib.hid hb1
      rw [h1]
      clear hb1
      go_wp2_with fail
      refine (contains_any s2 fb w1 (HS2.out.below HB1.out)).mono ?_
      rintro e w2 ⟨rfl, hb2⟩
      have HB2 := Lib.hid (HB1.out.trans (hb2.mono HB1.out.size))
      rw [h2]
      clear hb2
      go_wp2_with fail
      refine (compareF_any s1 s2 fa fb w2 (HS1.out.below HB2.out) (HS2.out.below HB2.out)).mono ?_
      rintro e w3 ⟨rfl, hb3⟩
      have HB3 := Lib.hid (HB2.out.trans (hb3.mono HB2.out.size))
      clear hb3
      go_wp2
      go_ret
      exact ⟨rfl, HB3.out⟩
    · have h2' : fits fb = false := by simpa using h2
      rw [h1, h2']
      go_enter Try.func15, Try.ntmps15
      go_wp2_with fail
      refine (contains_any s1 fa w HS1.out).mono ?_
      rintro e w1 ⟨rfl, hb1⟩
      have HB1 := Lib.hid hb1
      rw [h1]
      clear hb1
      go_wp2_with fail
      refine (contains_any s2 fb w1 (HS2.out.below HB1.out)).mono ?_
      rintro e w2 ⟨rfl, hb2⟩
      have HB2 := Lib.hid (HB1.out.trans (hb2.mono HB1.out.size))
      rw [h2']
      clear hb2
      go_wp2
      go_ret
      exact ⟨rfl, HB2.out⟩
  · have h1' : fits fa = false := by simpa using h1
    rw [h1']
    go_enter Try.func15, Try.ntmps15
    go_wp2_with fail
    refine (contains_any s1 fa w HS1.out).mono ?_
    rintro e w1 ⟨rfl, hb1⟩
    have HB1 := Lib.hid hb1
    rw [h1']
    clear hb1
    go_wp2
    go_ret
    exact ⟨rfl, HB1.out⟩

end Go.Proofs.Ytgjfijognplfpaa.code
