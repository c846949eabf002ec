/- Copies of rows: slices.Clone of numbers, storage nodes, pools and bans. -/
import Derived.Test.YtcofmfjhgbihkaaRows
import Derived.Test.YtcofmfjhgbihkaaMapsRow
namespace Go.Proofs.Ytcofmfjhgbihkaa.crush
open Go.RowKit
open Go.Proofs.Ytcofmfjhgbihkaa.kit Go.Proofs.Ytcofmfjhgbihkaa.own
set_option linter.unusedVariables false
set_option linter.unusedSimpArgs false

/-- A row of the call's own is handed back. -/
def RowS {α : Type} (enc : α → List Value) (k e : Nat) (w : World) (xs : List α) (en : Ending) (w' : World) : Prop := ∃ v, en = .returned v ∧ Own enc k e w' w.heap.size v xs ∧ Below w.heap.size w w'

set_option maxHeartbeats 4000000 in
set_option maxRecDepth 100000 in
theorem cloneI (v : Value) (xs : List Int ) (w : World) (h : Sl ic 1 w v xs) (hl : xs.length * 8 ≤ 140737488355328) :
    Calls Try.prog 97 #[v] w (RowS ic 1 3 w xs) := by
  obtain ⟨a, c, rfl⟩ := h.slice
  cases a with
  | none =>
    obtain ⟨rfl, -, rfl⟩ := h.empty_of_nil
    have HR := Lib.hid (show RowS ic 1 3 w [] (.returned (.slice none 0 0)) w from ⟨_, rfl, Own.nil _ _ _, Below.refl _ _⟩)
    clear h
    rw [List.length_nil]
    have hnil := fun w => Lib.run_eql_slice_nil (P := Try.prog) w 25 3 none 0 0 0 0 Try.underlying25
    go_enter Try.func97 , Try.ntmps97 
    go_wp2
    go_ret
    exact HR.out
  | some a =>
    have hb : Below w.heap.size w (w.alloc (.cells #[] 3 )) := (Below.refl _ _).alloc (Nat.le_refl _) _
    have HS := Lib.hid (h.keep hb); have HB := Lib.hid hb; have HL := Lib.hid hl
    have HO := Lib.hid (own_none (enc := ic ) (k := 1 ) (e := 3 ) w w.heap.size (Nat.le_refl _))
    clear h hb hl
    obtain ⟨L, hL⟩ : ∃ L, xs.length = L := ⟨_, rfl⟩
    have HLe := Lib.hid hL
    rw [hL] at HS ⊢
    clear hL
    have hnil := fun w => Lib.run_eql_slice_nil (P := Try.prog) w 25 3 (some a) L c 0 0 Try.underlying25
    go_enter Try.func97 , Try.ntmps97 
    go_wp2_with (at_builtin; refine appSl ic_len ic_one (by decide) rfl _ _ 25 rfl w.heap.size 3 _ (by rfl) 8 Try.underlying25 infoInt _ [] rfl HO.out _ xs rfl HS.out (by have := HL.out; unfold maxLen; simp; omega) (by have := HL.out; simpa using this) (by simp) ?_; intro v2 w2 ho2 hk2; obtain ⟨x2, y2, rfl⟩ := ho2.slice; have HO2 := Lib.hid ho2; have HK := Lib.hid hk2; clear ho2 hk2)
    go_ret
    exact ⟨_, rfl, by simpa using HO2.out, HB.out.trans HK.out.toBelow⟩

set_option maxHeartbeats 4000000 in
set_option maxRecDepth 100000 in
theorem cloneO (v : Value) (xs : List OsdV ) (w : World) (h : Sl oc 4 w v xs) (hl : xs.length * 32 ≤ 140737488355328) :
    Calls Try.prog 124 #[v] w (RowS oc 4 132 w xs) := by
  obtain ⟨a, c, rfl⟩ := h.slice
  cases a with
  | none =>
    obtain ⟨rfl, -, rfl⟩ := h.empty_of_nil
    have HR := Lib.hid (show RowS oc 4 132 w [] (.returned (.slice none 0 0)) w from ⟨_, rfl, Own.nil _ _ _, Below.refl _ _⟩)
    clear h
    rw [List.length_nil]
    have hnil := fun w => Lib.run_eql_slice_nil (P := Try.prog) w 79 132 none 0 0 0 0 Try.underlying79
    go_enter Try.func124 , Try.ntmps124 
    go_wp2
    go_ret
    exact HR.out
  | some a =>
    have hb : Below w.heap.size w (w.alloc (.cells #[] 132 )) := (Below.refl _ _).alloc (Nat.le_refl _) _
    have HS := Lib.hid (h.keep hb); have HB := Lib.hid hb; have HL := Lib.hid hl
    have HO := Lib.hid (own_none (enc := oc ) (k := 4 ) (e := 132 ) w w.heap.size (Nat.le_refl _))
    clear h hb hl
    obtain ⟨L, hL⟩ : ∃ L, xs.length = L := ⟨_, rfl⟩
    have HLe := Lib.hid hL
    rw [hL] at HS ⊢
    clear hL
    have hnil := fun w => Lib.run_eql_slice_nil (P := Try.prog) w 79 132 (some a) L c 0 0 Try.underlying79
    go_enter Try.func124 , Try.ntmps124 
    go_wp2_with (at_builtin; refine appSl oc_len oc_one (by decide) rfl _ _ 79 rfl w.heap.size 132 _ (by rfl) 32 Try.underlying79 infoOsd _ [] rfl HO.out _ xs rfl HS.out (by have := HL.out; unfold maxLen; simp; omega) (by have := HL.out; simpa using this) (by simp) ?_; intro v2 w2 ho2 hk2; obtain ⟨x2, y2, rfl⟩ := ho2.slice; have HO2 := Lib.hid ho2; have HK := Lib.hid hk2; clear ho2 hk2)
    go_ret
    exact ⟨_, rfl, by simpa using HO2.out, HB.out.trans HK.out.toBelow⟩

set_option maxHeartbeats 4000000 in
set_option maxRecDepth 100000 in
theorem cloneP (v : Value) (xs : List PoolV ) (w : World) (h : Sl pc 4 w v xs) (hl : xs.length * 32 ≤ 140737488355328) :
    Calls Try.prog 125 #[v] w (RowS pc 4 85 w xs) := by
  obtain ⟨a, c, rfl⟩ := h.slice
  cases a with
  | none =>
    obtain ⟨rfl, -, rfl⟩ := h.empty_of_nil
    have HR := Lib.hid (show RowS pc 4 85 w [] (.returned (.slice none 0 0)) w from ⟨_, rfl, Own.nil _ _ _, Below.refl _ _⟩)
    clear h
    rw [List.length_nil]
    have hnil := fun w => Lib.run_eql_slice_nil (P := Try.prog) w 80 85 none 0 0 0 0 Try.underlying80
    go_enter Try.func125 , Try.ntmps125 
    go_wp2
    go_ret
    exact HR.out
  | some a =>
    have hb : Below w.heap.size w (w.alloc (.cells #[] 85 )) := (Below.refl _ _).alloc (Nat.le_refl _) _
    have HS := Lib.hid (h.keep hb); have HB := Lib.hid hb; have HL := Lib.hid hl
    have HO := Lib.hid (own_none (enc := pc ) (k := 4 ) (e := 85 ) w w.heap.size (Nat.le_refl _))
    clear h hb hl
    obtain ⟨L, hL⟩ : ∃ L, xs.length = L := ⟨_, rfl⟩
    have HLe := Lib.hid hL
    rw [hL] at HS ⊢
    clear hL
    have hnil := fun w => Lib.run_eql_slice_nil (P := Try.prog) w 80 85 (some a) L c 0 0 Try.underlying80
    go_enter Try.func125 , Try.ntmps125 
    go_wp2_with (at_builtin; refine appSl pc_len pc_one (by decide) rfl _ _ 80 rfl w.heap.size 85 _ (by rfl) 32 Try.underlying80 infoPool _ [] rfl HO.out _ xs rfl HS.out (by have := HL.out; unfold maxLen; simp; omega) (by have := HL.out; simpa using this) (by simp) ?_; intro v2 w2 ho2 hk2; obtain ⟨x2, y2, rfl⟩ := ho2.slice; have HO2 := Lib.hid ho2; have HK := Lib.hid hk2; clear ho2 hk2)
    go_ret
    exact ⟨_, rfl, by simpa using HO2.out, HB.out.trans HK.out.toBelow⟩

set_option maxHeartbeats 4000000 in
set_option maxRecDepth 100000 in
theorem cloneB (v : Value) (xs : List BanV ) (w : World) (h : Sl bc 2 w v xs) (hl : xs.length * 16 ≤ 140737488355328) :
    Calls Try.prog 126 #[v] w (RowS bc 2 136 w xs) := by
  obtain ⟨a, c, rfl⟩ := h.slice
  cases a with
  | none =>
    obtain ⟨rfl, -, rfl⟩ := h.empty_of_nil
    have HR := Lib.hid (show RowS bc 2 136 w [] (.returned (.slice none 0 0)) w from ⟨_, rfl, Own.nil _ _ _, Below.refl _ _⟩)
    clear h
    rw [List.length_nil]
    have hnil := fun w => Lib.run_eql_slice_nil (P := Try.prog) w 81 136 none 0 0 0 0 Try.underlying81
    go_enter Try.func126 , Try.ntmps126 
    go_wp2
    go_ret
    exact HR.out
  | some a =>
    have hb : Below w.heap.size w (w.alloc (.cells #[] 136 )) := (Below.refl _ _).alloc (Nat.le_refl _) _
    have HS := Lib.hid (h.keep hb); have HB := Lib.hid hb; have HL := Lib.hid hl
    have HO := Lib.hid (own_none (enc := bc ) (k := 2 ) (e := 136 ) w w.heap.size (Nat.le_refl _))
    clear h hb hl
    obtain ⟨L, hL⟩ : ∃ L, xs.length = L := ⟨_, rfl⟩
    have HLe := Lib.hid hL
    rw [hL] at HS ⊢
    clear hL
    have hnil := fun w => Lib.run_eql_slice_nil (P := Try.prog) w 81 136 (some a) L c 0 0 Try.underlying81
    go_enter Try.func126 , Try.ntmps126 
    go_wp2_with (at_builtin; refine appSl bc_len bc_one (by decide) rfl _ _ 81 rfl w.heap.size 136 _ (by rfl) 16 Try.underlying81 infoBan _ [] rfl HO.out _ xs rfl HS.out (by have := HL.out; unfold maxLen; simp; omega) (by have := HL.out; simpa using this) (by simp) ?_; intro v2 w2 ho2 hk2; obtain ⟨x2, y2, rfl⟩ := ho2.slice; have HO2 := Lib.hid ho2; have HK := Lib.hid hk2; clear ho2 hk2)
    go_ret
    exact ⟨_, rfl, by simpa using HO2.out, HB.out.trans HK.out.toBelow⟩
end Go.Proofs.Ytcofmfjhgbihkaa.crush
