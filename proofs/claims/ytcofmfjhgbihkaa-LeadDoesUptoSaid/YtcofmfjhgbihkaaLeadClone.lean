/- Copies of rows of promises and of numbers: slices.Clone. -/
import Derived.Test.YtcofmfjhgbihkaaRows
import Derived.Test.YtcofmfjhgbihkaaLeadBase
import Derived.Test.YtcofmfjhgbihkaaAccClone
namespace Go.Proofs.Ytcofmfjhgbihkaa.crush
open Go.RowKit
open Go.Proofs.Ytcofmfjhgbihkaa.kit Go.Proofs.Ytcofmfjhgbihkaa.own
set_option linter.unusedVariables false


set_option maxHeartbeats 4000000 in
set_option maxRecDepth 100000 in
theorem cloneLP (v : Value) (xs : List PromV ) (w : World) (h : Sl prc 6 w v xs) (hl : xs.length * 56 ≤ 140737488355328) :
    Calls Try.prog 96 #[v] w (RowS prc 6 53 w xs) := by
  obtain ⟨a, c, rfl⟩ := h.slice
  cases a with
  | none =>
    obtain ⟨rfl, -, rfl⟩ := h.empty_of_nil
    have HR := Lib.hid (show RowS prc 6 53 w [] (.returned (.slice none 0 0)) w from ⟨_, rfl, Own.nil _ _ _, Below.refl _ _⟩)
    clear h
    rw [List.length_nil]
    have hnil := fun w => Lib.run_eql_slice_nil (P := Try.prog) w 24 53 none 0 0 0 0 Try.underlying24
    go_enter Try.func96 , Try.ntmps96 
    go_wp2
    go_ret
    exact HR.out
  | some a =>
    have hb : Below w.heap.size w (w.alloc (.cells #[] 53 )) := (Below.refl _ _).alloc (Nat.le_refl _) _
    have HS := Lib.hid (h.keep hb); have HB := Lib.hid hb; have HL := Lib.hid hl
    have HO := Lib.hid (own_none (enc := prc ) (k := 6 ) (e := 53 ) w w.heap.size (Nat.le_refl _))
    clear h hb hl
    obtain ⟨L, hL⟩ : ∃ L, xs.length = L := ⟨_, rfl⟩
    have HLe := Lib.hid hL
    rw [hL] at HS ⊢
    clear hL
    have hnil := fun w => Lib.run_eql_slice_nil (P := Try.prog) w 24 53 (some a) L c 0 0 Try.underlying24
    go_enter Try.func96 , Try.ntmps96 
    go_wp2_with (at_builtin; refine appSl prc_len prc_one (by decide) rfl _ _ 24 rfl w.heap.size 53 _ (by rfl) 56 Try.underlying24 infoProm _ [] rfl HO.out _ xs rfl HS.out (by have := HL.out; unfold maxLen; simp; omega) (by have := HL.out; simpa using this) (by simp) ?_; intro v2 w2 ho2 hk2; obtain ⟨x2, y2, rfl⟩ := ho2.slice; have HO2 := Lib.hid ho2; have HK := Lib.hid hk2; clear ho2 hk2)
    go_ret
    exact ⟨_, rfl, by simpa using HO2.out, HB.out.trans HK.out.toBelow⟩

set_option maxHeartbeats 4000000 in
set_option maxRecDepth 100000 in
theorem cloneLI (v : Value) (xs : List Int ) (w : World) (h : Sl ic 1 w v xs) (hl : xs.length * 8 ≤ 140737488355328) :
    Calls Try.prog 97 #[v] w (RowS ic 1 3 w xs) := by
  obtain ⟨a, c, rfl⟩ := h.slice
  cases a with
  | none =>
    obtain ⟨rfl, -, rfl⟩ := h.empty_of_nil
    have HR := Lib.hid (show RowS ic 1 3 w [] (.returned (.slice none 0 0)) w from ⟨_, rfl, Own.nil _ _ _, Below.refl _ _⟩)
    clear h
    rw [List.length_nil]
    have hnil := fun w => Lib.run_eql_slice_nil (P := Try.prog) w 25 3 none 0 0 0 0 Try.underlying25
    go_enter Try.func97 , Try.ntmps97 
    go_wp2
    go_ret
    exact HR.out
  | some a =>
    have hb : Below w.heap.size w (w.alloc (.cells #[] 3 )) := (Below.refl _ _).alloc (Nat.le_refl _) _
    have HS := Lib.hid (h.keep hb); have HB := Lib.hid hb; have HL := Lib.hid hl
    have HO := Lib.hid (own_none (enc := ic ) (k := 1 ) (e := 3 ) w w.heap.size (Nat.le_refl _))
    clear h hb hl
    obtain ⟨L, hL⟩ : ∃ L, xs.length = L := ⟨_, rfl⟩
    have HLe := Lib.hid hL
    rw [hL] at HS ⊢
    clear hL
    have hnil := fun w => Lib.run_eql_slice_nil (P := Try.prog) w 25 3 (some a) L c 0 0 Try.underlying25
    go_enter Try.func97 , Try.ntmps97 
    go_wp2_with (at_builtin; refine appSl ic_len ic_one (by decide) rfl _ _ 25 rfl w.heap.size 3 _ (by rfl) 8 Try.underlying25 infoInt _ [] rfl HO.out _ xs rfl HS.out (by have := HL.out; unfold maxLen; simp; omega) (by have := HL.out; simpa using this) (by simp) ?_; intro v2 w2 ho2 hk2; obtain ⟨x2, y2, rfl⟩ := ho2.slice; have HO2 := Lib.hid ho2; have HK := Lib.hid hk2; clear ho2 hk2)
    go_ret
    exact ⟨_, rfl, by simpa using HO2.out, HB.out.trans HK.out.toBelow⟩
end Go.Proofs.Ytcofmfjhgbihkaa.crush
