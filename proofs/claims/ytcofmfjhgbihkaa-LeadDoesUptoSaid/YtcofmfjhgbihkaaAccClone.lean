/- Copies of rows of texts: slices.Clone. -/
import Derived.Test.YtcofmfjhgbihkaaRows
import Derived.Test.YtcofmfjhgbihkaaAccBase
namespace Go.Proofs.Ytcofmfjhgbihkaa.crush
open Go.RowKit
open Go.Proofs.Ytcofmfjhgbihkaa.kit Go.Proofs.Ytcofmfjhgbihkaa.own
set_option linter.unusedVariables false

/-- A row of the call's own is handed back. -/
def RowS {α : Type} (enc : α → List Value) (k e : Nat) (w : World) (xs : List α) (en : Ending) (w' : World) : Prop := ∃ v, en = .returned v ∧ Own enc k e w' w.heap.size v xs ∧ Below w.heap.size w w'

set_option maxHeartbeats 4000000 in
set_option maxRecDepth 100000 in
theorem cloneT (v : Value) (xs : List ByteArray ) (w : World) (h : Sl tx 1 w v xs) (hl : xs.length * 16 ≤ 140737488355328) :
    Calls Try.prog 101 #[v] w (RowS tx 1 9 w xs) := by
  obtain ⟨a, c, rfl⟩ := h.slice
  cases a with
  | none =>
    obtain ⟨rfl, -, rfl⟩ := h.empty_of_nil
    have HR := Lib.hid (show RowS tx 1 9 w [] (.returned (.slice none 0 0)) w from ⟨_, rfl, Own.nil _ _ _, Below.refl _ _⟩)
    clear h
    rw [List.length_nil]
    have hnil := fun w => Lib.run_eql_slice_nil (P := Try.prog) w 43 9 none 0 0 0 0 Try.underlying43
    go_enter Try.func101 , Try.ntmps101 
    go_wp2
    go_ret
    exact HR.out
  | some a =>
    have hb : Below w.heap.size w (w.alloc (.cells #[] 9 )) := (Below.refl _ _).alloc (Nat.le_refl _) _
    have HS := Lib.hid (h.keep hb); have HB := Lib.hid hb; have HL := Lib.hid hl
    have HO := Lib.hid (own_none (enc := tx ) (k := 1 ) (e := 9 ) w w.heap.size (Nat.le_refl _))
    clear h hb hl
    obtain ⟨L, hL⟩ : ∃ L, xs.length = L := ⟨_, rfl⟩
    have HLe := Lib.hid hL
    rw [hL] at HS ⊢
    clear hL
    have hnil := fun w => Lib.run_eql_slice_nil (P := Try.prog) w 43 9 (some a) L c 0 0 Try.underlying43
    go_enter Try.func101 , Try.ntmps101 
    go_wp2_with (at_builtin; refine appSl tx_len tx_one (by decide) rfl _ _ 43 rfl w.heap.size 9 _ (by rfl) 16 Try.underlying43 infoTxt _ [] rfl HO.out _ xs rfl HS.out (by have := HL.out; unfold maxLen; simp; omega) (by have := HL.out; simpa using this) (by simp) ?_; intro v2 w2 ho2 hk2; obtain ⟨x2, y2, rfl⟩ := ho2.slice; have HO2 := Lib.hid ho2; have HK := Lib.hid hk2; clear ho2 hk2)
    go_ret
    exact ⟨_, rfl, by simpa using HO2.out, HB.out.trans HK.out.toBelow⟩
end Go.Proofs.Ytcofmfjhgbihkaa.crush
