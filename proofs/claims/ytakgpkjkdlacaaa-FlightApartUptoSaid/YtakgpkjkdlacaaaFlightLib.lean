/- slices.Clone and slices.Equal of frames and ways. -/
import Derived.Test.YtakgpkjkdlacaaaRows
import Derived.Test.YtakgpkjkdlacaaaFlightBase
import Derived.BigQuiet
import Derived.Lib.SliceRun
namespace Go.Proofs.Ytakgpkjkdlacaaa.flight
open Go.RowKit
open Go.Proofs.Ytakgpkjkdlacaaa.kit Go.Proofs.Ytakgpkjkdlacaaa.own
set_option linter.unusedVariables false

/-- What a copy is. -/
def ClonF (w : World) (xs : List Frm) (en : Ending) (w' : World) : Prop := ∃ v', en = .returned v' ∧ Own fc 4 44 w' w.heap.size v' xs ∧ Below w.heap.size w w'
def ClonW (w : World) (xs : List Wy) (en : Ending) (w' : World) : Prop := ∃ v', en = .returned v' ∧ Own wc 2 59 w' w.heap.size v' xs ∧ Below w.heap.size w w'
theorem own_none {α : Type} {enc : α → List Value} {k e : Nat} (w : World) (B : Nat) (hB : B ≤ w.heap.size) : Own enc k e (w.alloc (.cells #[] e)) B (.slice (some ⟨w.heap.size, 0, none⟩) 0 0) [] :=
  ⟨by simp, .inr ⟨w.heap.size, 0, #[], rfl, hB, alloc_at w _, by simp, by simp [maxLen], by simp, by simp⟩⟩
theorem Sl.empty_of_nil {α : Type} {enc : α → List Value} {k : Nat} {w : World} {n c : Nat} {xs : List α} (h : Sl enc k w (.slice none n c) xs) : xs = [] ∧ n = 0 ∧ c = 0 := by
  obtain ⟨_, a, cap, e, hn, hc⟩ := h
  cases e
  have h0 : xs.length = 0 := by
    rcases Nat.eq_zero_or_pos xs.length with h0 | h0
    · exact h0
    · obtain ⟨b, off, e', _⟩ := hc h0
      cases e'
  exact ⟨List.eq_nil_of_length_eq_zero h0, h0, hn rfl⟩

set_option maxHeartbeats 4000000 in
set_option maxRecDepth 100000 in
theorem cloneF_any (v : Value) (xs : List Frm) (w : World) (h : Sl fc 4 w v xs) (hl : xs.length * 40 ≤ 140737488355328) :
    Calls Try.prog 53 #[v] w (ClonF w xs) := by
  obtain ⟨a, c, rfl⟩ := h.slice
  cases a with
  | none =>
    obtain ⟨rfl, -, rfl⟩ := h.empty_of_nil
    have HR := Lib.hid (show ClonF w [] (.returned (.slice none 0 0)) w from ⟨_, rfl, Own.nil _ _ _, Below.refl _ _⟩)
    clear h
    rw [List.length_nil]
    have hnil := fun w => Lib.run_eql_slice_nil (P := Try.prog) w 22 44 none 0 0 0 0 Try.underlying22
    go_enter Try.func53, Try.ntmps53
    go_wp2
    go_ret
    exact HR.out
  | some a =>
    have hb : Below w.heap.size w (w.alloc (.cells #[] 44)) := (Below.refl _ _).alloc (Nat.le_refl _) _
    have HS := Lib.hid (h.keep hb); have HB := Lib.hid hb; have HL := Lib.hid hl
    have HO := Lib.hid (own_none (enc := fc) (k := 4) (e := 44) w w.heap.size (Nat.le_refl _))
    clear h hb hl
    obtain ⟨L, hL⟩ : ∃ L, xs.length = L := ⟨_, rfl⟩
    have HLe := Lib.hid hL
    rw [hL] at HS ⊢
    clear hL
    have hnil := fun w => Lib.run_eql_slice_nil (P := Try.prog) w 22 44 (some a) L c 0 0 Try.underlying22
    go_enter Try.func53, Try.ntmps53
    go_wp2_with (at_builtin; refine appSl fc_len fc_one (by decide) rfl _ _ 22 rfl w.heap.size 44 _ (by rfl) 40 Try.underlying22 infoFrm _ [] rfl HO.out _ xs rfl HS.out (by have := HL.out; unfold maxLen; simp; omega) (by have := HL.out; simpa using this) (by simp) ?_; intro v' w' ho hk; have HO2 := Lib.hid ho; have HK := Lib.hid hk; clear ho hk)
    go_ret
    exact ⟨_, rfl, by simpa using HO2.out, HB.out.trans HK.out.toBelow⟩

set_option maxHeartbeats 4000000 in
set_option maxRecDepth 100000 in
theorem cloneW_any (v : Value) (xs : List Wy) (w : World) (h : Sl wc 2 w v xs) (hl : xs.length * 16 ≤ 140737488355328) :
    Calls Try.prog 37 #[v] w (ClonW w xs) := by
  obtain ⟨a, c, rfl⟩ := h.slice
  cases a with
  | none =>
    obtain ⟨rfl, -, rfl⟩ := h.empty_of_nil
    have HR := Lib.hid (show ClonW w [] (.returned (.slice none 0 0)) w from ⟨_, rfl, Own.nil _ _ _, Below.refl _ _⟩)
    clear h
    rw [List.length_nil]
    have hnil := fun w => Lib.run_eql_slice_nil (P := Try.prog) w 23 59 none 0 0 0 0 Try.underlying23
    go_enter Try.func37, Try.ntmps37
    go_wp2
    go_ret
    exact HR.out
  | some a =>
    have hb : Below w.heap.size w (w.alloc (.cells #[] 59)) := (Below.refl _ _).alloc (Nat.le_refl _) _
    have HS := Lib.hid (h.keep hb); have HB := Lib.hid hb; have HL := Lib.hid hl
    have HO := Lib.hid (own_none (enc := wc) (k := 2) (e := 59) w w.heap.size (Nat.le_refl _))
    clear h hb hl
    obtain ⟨L, hL⟩ : ∃ L, xs.length = L := ⟨_, rfl⟩
    have HLe := Lib.hid hL
    rw [hL] at HS ⊢
    clear hL
    have hnil := fun w => Lib.run_eql_slice_nil (P := Try.prog) w 23 59 (some a) L c 0 0 Try.underlying23
    go_enter Try.func37, Try.ntmps37
    go_wp2_with (at_builtin; refine appSl wc_len wc_one (by decide) rfl _ _ 23 rfl w.heap.size 59 _ (by rfl) 16 Try.underlying23 infoWay _ [] rfl HO.out _ xs rfl HS.out (by have := HL.out; unfold maxLen; simp; omega) (by have := HL.out; simpa using this) (by simp) ?_; intro v' w' ho hk; have HO2 := Lib.hid ho; have HK := Lib.hid hk; clear ho hk)
    go_ret
    exact ⟨_, rfl, by simpa using HO2.out, HB.out.trans HK.out.toBelow⟩

/-- What 'slices.Equal' tells. -/
def EqS {α : Type} (W : World) (xs ys : List α) (en : Ending) (W' : World) : Prop := ∃ r : Bool, en = .returned (.bool r) ∧ (r = true ↔ xs = ys) ∧ Below W.heap.size W W'

theorem text_eq {c c' : ByteArray} (h : c.toList = c'.toList) : c = c' := by
  rw [Lib.toList_data, Lib.toList_data] at h
  obtain ⟨x⟩ := c
  obtain ⟨y⟩ := c'
  exact congrArg ByteArray.mk (Array.toList_inj.1 h)
theorem neq_frm (f g : Frm) (h : f ≠ g) (w : World) : (binOp .neq 44 (.agg #[.int .i64 f.num, .int .i64 f.src, .int .i64 f.dst, .string f.body]) (.agg #[.int .i64 g.num, .int .i64 g.src, .int .i64 g.dst, .string g.body])).run Try.prog w = .ok (.bool true) w := by
  obtain ⟨a, b, c, d⟩ := f
  obtain ⟨a', b', c', d'⟩ := g
  simp only
  go_simp
  intro h1 h2 h3 h4
  exact h (by rw [h1, h2, h3, text_eq h4])
theorem neq_way (f g : Wy) (h : f ≠ g) (w : World) : (binOp .neq 59 (.agg #[.int .i64 f.1, .int .i64 f.2]) (.agg #[.int .i64 g.1, .int .i64 g.2])).run Try.prog w = .ok (.bool true) w := by
  obtain ⟨a, b⟩ := f
  obtain ⟨a', b'⟩ := g
  simp only
  go_simp
  intro h1 h2
  exact h (by rw [h1, h2])

set_option maxHeartbeats 8000000 in
set_option maxRecDepth 100000 in
theorem equalF_any (s1 s2 : Value) (fa fb : List Frm) (w : World) (hs1 : Sl fc 4 w s1 fa) (hs2 : Sl fc 4 w s2 fb) :
    Calls Try.prog 27 #[s1, s2] w (EqS w fa fb) := by
  obtain ⟨hl1, a1, cap1, rfl, _, _⟩ := id hs1
  obtain ⟨hl2, a2, cap2, rfl, _, _⟩ := id hs2
  by_cases hlen : fa.length = fb.length
  · have HS1 := Lib.hid hs1; have HS2 := Lib.hid hs2
    have HLen := Lib.hid hlen
    obtain ⟨L, hL⟩ : ∃ L, fb.length = L := ⟨_, rfl⟩
    rw [hL] at hlen
    have HL1 := Lib.hid hlen; have HL2 := Lib.hid hL
    rw [hlen] at hl1 ⊢
    rw [hL] at hl2 ⊢
    clear hs1 hs2 hL hlen
    rename_i hx1 hx2 hx3 hx4
    clear hx1 hx2 hx3 hx4
    go_enter Try.func27, Try.ntmps27
    go_wp2
    go_loopw [13] (fun i wr => ∃ k : Nat, k ≤ L ∧ i = .int .i64 k ∧ fa.take k = fb.take k ∧ Below w.heap.size w wr) (fun i _ => L - (intOf i).toNat)
    case atStart => exact ⟨0, by omega, rfl, rfl, Below.refl _ _⟩
    case round =>
      obtain ⟨k, hk, rfl, heq, hb⟩ := hrel
      have HB := Lib.hid hb; have HE := Lib.hid heq
      clear hb heq
      by_cases hlt : k < L
      · have hlt' : (k : Int) < L := by omega
        have hk0 : (0 : Int) ≤ k := by omega
        have hi1 : k < fa.length := by rw [HL1.out]; exact hlt
        have hi2 : k < fb.length := by rw [HL2.out]; exact hlt
        have hsa : Sl fc 4 wr (.slice a1 fa.length cap1) fa := HS1.out.keep HB.out
        obtain ⟨_, a', cap', he, -, hcell⟩ := hsa
        cases he
        obtain ⟨b, off, rfl, hbl, hcell⟩ := hcell (by omega)
        obtain ⟨c1, c2, c3, c4⟩ := fcells_at (hcell k hi1)
        clear hcell
        have hsb : Sl fc 4 wr (.slice a2 fb.length cap2) fb := HS2.out.keep HB.out
        obtain ⟨_, a', cap', he, -, hcell⟩ := hsb
        cases he
        obtain ⟨b2, off2, rfl, hbl2, hcell⟩ := hcell (by omega)
        obtain ⟨d1, d2, d3, d4⟩ := fcells_at (hcell k hi2)
        have ht1 : fa.take (k + 1) = fa.take k ++ [fa[k]] := List.take_succ_eq_append_getElem hi1
        have ht2 : fb.take (k + 1) = fb.take k ++ [fb[k]] := List.take_succ_eq_append_getElem hi2
        have hne : fa[k] ≠ fb[k] → fa ≠ fb := fun h e => h (by subst e; rfl)
        obtain ⟨f, hf⟩ : ∃ f, fa[k] = f := ⟨_, rfl⟩
        obtain ⟨g, hg⟩ : ∃ g, fb[k] = g := ⟨_, rfl⟩
        rw [hf] at c1 c2 c3 c4 ht1 hne
        rw [hg] at d1 d2 d3 d4 ht2 hne
        have HT1 := Lib.hid ht1; have HT2 := Lib.hid ht2; have HNe := Lib.hid hne
        clear hcell hf hg ht1 ht2 hne hbl hbl2
        by_cases hfg : f = g
        · subst hfg
          go_upto_region 6 with fail
          go_quiet (fail)
          have HBn := Lib.hid (HB.out.drewN' nq)
          clear c1 c2 c3 c4 d1 d2 d3 d4
          go_wp2
          go_roundw
          case rel => exact ⟨k + 1, by omega, by go_num, by rw [HT1.out, HT2.out, HE.out], HBn.out⟩
          case measure => simp [intOf]; omega
        · have HNq := Lib.hid (HNe.out hfg)
          have hnf := neq_frm f g hfg
          go_upto_region 6 with fail
          go_quiet (fail)
          have HBn := Lib.hid (HB.out.drewN' nq)
          clear c1 c2 c3 c4 d1 d2 d3 d4 hnf
          go_wp2
          go_ret
          exact ⟨false, rfl, ⟨fun h => (by cases h), fun h => absurd h HNq.out⟩, HBn.out⟩
      · obtain rfl : k = L := by omega
        go_wp2
        go_ret
        refine ⟨true, rfl, ⟨fun _ => ?_, fun _ => rfl⟩, HB.out⟩
        have := HE.out
        rw [← HL1.out, List.take_length, HLen.out, List.take_length] at this
        exact this
  · have hne : ¬ (fa.length : Int) = fb.length := by omega
    have hnq : fa ≠ fb := fun e => hlen (by rw [e])
    have HNq := Lib.hid hnq
    clear hs1 hs2 hlen hnq
    rename_i hx1 hx2 hx3 hx4
    clear hx1 hx2 hx3 hx4
    go_enter Try.func27, Try.ntmps27
    go_wp2
    go_ret
    exact ⟨false, rfl, ⟨fun h => (by cases h), fun h => absurd h HNq.out⟩, Below.refl _ _⟩

set_option maxHeartbeats 8000000 in
set_option maxRecDepth 100000 in
theorem equalW_any (s1 s2 : Value) (fa fb : List Wy) (w : World) (hs1 : Sl wc 2 w s1 fa) (hs2 : Sl wc 2 w s2 fb) :
    Calls Try.prog 28 #[s1, s2] w (EqS w fa fb) := by
  obtain ⟨hl1, a1, cap1, rfl, _, _⟩ := id hs1
  obtain ⟨hl2, a2, cap2, rfl, _, _⟩ := id hs2
  by_cases hlen : fa.length = fb.length
  · have HS1 := Lib.hid hs1; have HS2 := Lib.hid hs2
    have HLen := Lib.hid hlen
    obtain ⟨L, hL⟩ : ∃ L, fb.length = L := ⟨_, rfl⟩
    rw [hL] at hlen
    have HL1 := Lib.hid hlen; have HL2 := Lib.hid hL
    rw [hlen] at hl1 ⊢
    rw [hL] at hl2 ⊢
    clear hs1 hs2 hL hlen
    rename_i hx1 hx2 hx3 hx4
    clear hx1 hx2 hx3 hx4
    go_enter Try.func28, Try.ntmps28
    go_wp2
    go_loopw [13] (fun i wr => ∃ k : Nat, k ≤ L ∧ i = .int .i64 k ∧ fa.take k = fb.take k ∧ Below w.heap.size w wr) (fun i _ => L - (intOf i).toNat)
    case atStart => exact ⟨0, by omega, rfl, rfl, Below.refl _ _⟩
    case round =>
      obtain ⟨k, hk, rfl, heq, hb⟩ := hrel
      have HB := Lib.hid hb; have HE := Lib.hid heq
      clear hb heq
      by_cases hlt : k < L
      · have hlt' : (k : Int) < L := by omega
        have hk0 : (0 : Int) ≤ k := by omega
        have hi1 : k < fa.length := by rw [HL1.out]; exact hlt
        have hi2 : k < fb.length := by rw [HL2.out]; exact hlt
        have hsa : Sl wc 2 wr (.slice a1 fa.length cap1) fa := HS1.out.keep HB.out
        obtain ⟨_, a', cap', he, -, hcell⟩ := hsa
        cases he
        obtain ⟨b, off, rfl, hbl, hcell⟩ := hcell (by omega)
        obtain ⟨c1, c2⟩ := wcells_at (hcell k hi1)
        clear hcell
        have hsb : Sl wc 2 wr (.slice a2 fb.length cap2) fb := HS2.out.keep HB.out
        obtain ⟨_, a', cap', he, -, hcell⟩ := hsb
        cases he
        obtain ⟨b2, off2, rfl, hbl2, hcell⟩ := hcell (by omega)
        obtain ⟨d1, d2⟩ := wcells_at (hcell k hi2)
        have ht1 : fa.take (k + 1) = fa.take k ++ [fa[k]] := List.take_succ_eq_append_getElem hi1
        have ht2 : fb.take (k + 1) = fb.take k ++ [fb[k]] := List.take_succ_eq_append_getElem hi2
        have hne : fa[k] ≠ fb[k] → fa ≠ fb := fun h e => h (by subst e; rfl)
        obtain ⟨f, hf⟩ : ∃ f, fa[k] = f := ⟨_, rfl⟩
        obtain ⟨g, hg⟩ : ∃ g, fb[k] = g := ⟨_, rfl⟩
        rw [hf] at c1 c2 ht1 hne
        rw [hg] at d1 d2 ht2 hne
        have HT1 := Lib.hid ht1; have HT2 := Lib.hid ht2; have HNe := Lib.hid hne
        clear hcell hf hg ht1 ht2 hne hbl hbl2
        by_cases hfg : f = g
        · subst hfg
          go_upto_region 6 with fail
          go_quiet (fail)
          have HBn := Lib.hid (HB.out.drewN' nq)
          clear c1 c2 d1 d2
          go_wp2
          go_roundw
          case rel => exact ⟨k + 1, by omega, by go_num, by rw [HT1.out, HT2.out, HE.out], HBn.out⟩
          case measure => simp [intOf]; omega
        · have HNq := Lib.hid (HNe.out hfg)
          have hnf := neq_way f g hfg
          go_upto_region 6 with fail
          go_quiet (fail)
          have HBn := Lib.hid (HB.out.drewN' nq)
          clear c1 c2 d1 d2 hnf
          go_wp2
          go_ret
          exact ⟨false, rfl, ⟨fun h => (by cases h), fun h => absurd h HNq.out⟩, HBn.out⟩
      · obtain rfl : k = L := by omega
        go_wp2
        go_ret
        refine ⟨true, rfl, ⟨fun _ => ?_, fun _ => rfl⟩, HB.out⟩
        have := HE.out
        rw [← HL1.out, List.take_length, HLen.out, List.take_length] at this
        exact this
  · have hne : ¬ (fa.length : Int) = fb.length := by omega
    have hnq : fa ≠ fb := fun e => hlen (by rw [e])
    have HNq := Lib.hid hnq
    clear hs1 hs2 hlen hnq
    rename_i hx1 hx2 hx3 hx4
    clear hx1 hx2 hx3 hx4
    go_enter Try.func28, Try.ntmps28
    go_wp2
    go_ret
    exact ⟨false, rfl, ⟨fun h => (by cases h), fun h => absurd h HNq.out⟩, Below.refl _ _⟩

end Go.Proofs.Ytakgpkjkdlacaaa.flight
