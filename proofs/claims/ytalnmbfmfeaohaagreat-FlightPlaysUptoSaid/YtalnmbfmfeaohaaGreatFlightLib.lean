/- slices.Clone and slices.Equal of frames and ways. -/
import Derived.Test.YtalnmbfmfeaohaaGreatRows
import Derived.Test.YtalnmbfmfeaohaaGreatFlightBase
import Derived.BigQuiet
import Derived.Lib.SliceRun
namespace Go.Proofs.YtalnmbfmfeaohaaGreat.flight
open Go.RowKit
open Go.Proofs.YtalnmbfmfeaohaaGreat.kit Go.Proofs.YtalnmbfmfeaohaaGreat.own
set_option linter.unusedVariables false

/-- What a copy is. -/
def ClonF (w : World) (xs : List Frm) (en : Ending) (w' : World) : Prop := ∃ v', en = .returned v' ∧ Own fc 4 38 w' w.heap.size v' xs ∧ Below w.heap.size w w'
def ClonW (w : World) (xs : List Wy) (en : Ending) (w' : World) : Prop := ∃ v', en = .returned v' ∧ Own wc 2 40 w' w.heap.size v' xs ∧ Below w.heap.size w w'
theorem own_none {α : Type} {enc : α → List Value} {k e : Nat} (w : World) (B : Nat) (hB : B ≤ w.heap.size) : Own enc k e (w.alloc (.cells #[] e)) B (.slice (some ⟨w.heap.size, 0, none⟩) 0 0) [] :=
  ⟨by simp, .inr ⟨w.heap.size, 0, #[], rfl, hB, alloc_at w _, by simp, by simp [maxLen], by simp, by simp⟩⟩
theorem Sl.empty_of_nil {α : Type} {enc : α → List Value} {k : Nat} {w : World} {n c : Nat} {xs : List α} (h : Sl enc k w (.slice none n c) xs) : xs = [] ∧ n = 0 ∧ c = 0 := by
  obtain ⟨_, a, cap, e, hn, hc⟩ := h
  cases e
  have h0 : xs.length = 0 := by
    rcases Nat.eq_zero_or_pos xs.length with h0 | h0
    · exact h0
    · obtain ⟨b, off, e', _⟩ := hc h0
      cases e'
  exact ⟨List.eq_nil_of_length_eq_zero h0, h0, hn rfl⟩

set_option maxHeartbeats 4000000 in
set_option maxRecDepth 100000 in
theorem cloneF_any (v : Value) (xs : List Frm) (w : World) (h : Sl fc 4 w v xs) (hl : xs.length * 40 ≤ 140737488355328) :
    Calls Tryz.prog 51 #[v] w (ClonF w xs) := by
  obtain ⟨a, c, rfl⟩ := h.slice
  cases a with
  | none =>
    obtain ⟨rfl, -, rfl⟩ := h.empty_of_nil
    have HR := Lib.hid (show ClonF w [] (.returned (.slice none 0 0)) w from ⟨_, rfl, Own.nil _ _ _, Below.refl _ _⟩)
    clear h
    rw [List.length_nil]
    have hnil := fun w => Lib.run_eql_slice_nil (P := Tryz.prog) w 22 38 none 0 0 0 0 Tryz.underlying22
    go_enter Tryz.func51, Tryz.ntmps51
    go_wp2
    go_ret
    exact HR.out
  | some a =>
    have hb : Below w.heap.size w (w.alloc (.cells #[] 38)) := (Below.refl _ _).alloc (Nat.le_refl _) _
    have HS := Lib.hid (h.keep hb); have HB := Lib.hid hb; have HL := Lib.hid hl
    have HO := Lib.hid (own_none (enc := fc) (k := 4) (e := 38) w w.heap.size (Nat.le_refl _))
    clear h hb hl
    obtain ⟨L, hL⟩ : ∃ L, xs.length = L := ⟨_, rfl⟩
    have HLe := Lib.hid hL
    rw [hL] at HS ⊢
    clear hL
    have hnil := fun w => Lib.run_eql_slice_nil (P := Tryz.prog) w 22 38 (some a) L c 0 0 Tryz.underlying22
    go_enter Tryz.func51, Tryz.ntmps51
    go_wp2_with (at_builtin; refine appSl fc_len fc_one (by decide) rfl _ _ 22 rfl w.heap.size 38 _ (by rfl) 40 Tryz.underlying22 infoFrm _ [] rfl HO.out _ xs rfl HS.out (by have := HL.out; unfold maxLen; simp; omega) (by have := HL.out; simpa using this) (by simp) ?_; intro v' w' ho hk; have HO2 := Lib.hid ho; have HK := Lib.hid hk; clear ho hk)
    go_ret
    exact ⟨_, rfl, by simpa using HO2.out, HB.out.trans HK.out.toBelow⟩

set_option maxHeartbeats 4000000 in
set_option maxRecDepth 100000 in
theorem cloneW_any (v : Value) (xs : List Wy) (w : World) (h : Sl wc 2 w v xs) (hl : xs.length * 16 ≤ 140737488355328) :
    Calls Tryz.prog 33 #[v] w (ClonW w xs) := by
  obtain ⟨a, c, rfl⟩ := h.slice
  cases a with
  | none =>
    obtain ⟨rfl, -, rfl⟩ := h.empty_of_nil
    have HR := Lib.hid (show ClonW w [] (.returned (.slice none 0 0)) w from ⟨_, rfl, Own.nil _ _ _, Below.refl _ _⟩)
    clear h
    rw [List.length_nil]
    have hnil := fun w => Lib.run_eql_slice_nil (P := Tryz.prog) w 23 40 none 0 0 0 0 Tryz.underlying23
    go_enter Tryz.func33, Tryz.ntmps33
    go_wp2
    go_ret
    exact HR.out
  | some a =>
    have hb : Below w.heap.size w (w.alloc (.cells #[] 40)) := (Below.refl _ _).alloc (Nat.le_refl _) _
    have HS := Lib.hid (h.keep hb); have HB := Lib.hid hb; have HL := Lib.hid hl
    have HO := Lib.hid (own_none (enc := wc) (k := 2) (e := 40) w w.heap.size (Nat.le_refl _))
    clear h hb hl
    obtain ⟨L, hL⟩ : ∃ L, xs.length = L := ⟨_, rfl⟩
    have HLe := Lib.hid hL
    rw [hL] at HS ⊢
    clear hL
    have hnil := fun w => Lib.run_eql_slice_nil (P := Tryz.prog) w 23 40 (some a) L c 0 0 Tryz.underlying23
    go_enter Tryz.func33, Tryz.ntmps33
    go_wp2_with (at_builtin; refine appSl wc_len wc_one (by decide) rfl _ _ 23 rfl w.heap.size 40 _ (by rfl) 16 Tryz.underlying23 infoWay _ [] rfl HO.out _ xs rfl HS.out (by have := HL.out; unfold maxLen; simp; omega) (by have := HL.out; simpa using this) (by simp) ?_; intro v' w' ho hk; have HO2 := Lib.hid ho; have HK := Lib.hid hk; clear ho hk)
    go_ret
    exact ⟨_, rfl, by simpa using HO2.out, HB.out.trans HK.out.toBelow⟩

/-- What 'slices.Equal' tells. -/
def EqS {α : Type} (W : World) (xs ys : List α) (en : Ending) (W' : World) : Prop := ∃ r : Bool, en = .returned (.bool r) ∧ (r = true ↔ xs = ys) ∧ Below W.heap.size W W'

theorem text_eq {c c' : ByteArray} (h : c.toList = c'.toList) : c = c' := by
  rw [Lib.toList_data, Lib.toList_data] at h
  obtain ⟨x⟩ := c
  obtain ⟨y⟩ := c'
  exact congrArg ByteArray.mk (Array.toList_inj.1 h)
theorem neq_frm (f g : Frm) (h : f ≠ g) (w : World) : (binOp .neq 38 (.agg #[.int .i64 f.num, .int .i64 f.src, .int .i64 f.dst, .string f.body]) (.agg #[.int .i64 g.num, .int .i64 g.src, .int .i64 g.dst, .string g.body])).run Tryz.prog w = .ok (.bool true) w := by
  obtain ⟨a, b, c, d⟩ := f
  obtain ⟨a', b', c', d'⟩ := g
  simp only
  go_simp
  intro h1 h2 h3 h4
  exact h (by rw [h1, h2, h3, text_eq h4])
theorem neq_way (f g : Wy) (h : f ≠ g) (w : World) : (binOp .neq 40 (.agg #[.int .i64 f.1, .int .i64 f.2]) (.agg #[.int .i64 g.1, .int .i64 g.2])).run Tryz.prog w = .ok (.bool true) w := by
  obtain ⟨a, b⟩ := f
  obtain ⟨a', b'⟩ := g
  simp only
  go_simp
  intro h1 h2
  exact h (by rw [h1, h2])

end Go.Proofs.YtalnmbfmfeaohaaGreat.flight
