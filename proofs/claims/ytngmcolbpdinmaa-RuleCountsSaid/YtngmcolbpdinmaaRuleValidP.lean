/- The program's Valid. -/
import Derived.Test.YtngmcolbpdinmaaRows
import Derived.Test.YtngmcolbpdinmaaRulePl
namespace Go.Proofs.Ytngmcolbpdinmaa.crush
open Go.RowKit
open Go.Proofs.Ytngmcolbpdinmaa.kit Go.Proofs.Ytngmcolbpdinmaa.own
set_option linter.unusedVariables false

/-- A node that may be chosen. -/
def nodeOk (hs ws : List Int) (z : Int) : Prop := 0 ≤ z ∧ z < hs.length ∧ 0 < wtAt ws z.toNat
instance (hs ws : List Int) (z : Int) : Decidable (nodeOk hs ws z) := by unfold nodeOk; infer_instance
def domZ (hs : List Int) (d : Int) (l : List Int) : List Int := l.map fun z => (domsE d hs).getD z.toNat 0
/-- P12.4. -/
noncomputable def validB (hs ws l : List Int) (size d : Int) : Bool := @decide ((l.length : Int) ≤ max size 0 ∧ (∀ z ∈ l, nodeOk hs ws z) ∧ (domZ hs d l).Nodup) (Classical.propDecidable _)
theorem validB_iff (hs ws l : List Int) (size d : Int) : validB hs ws l size d = true ↔ ((l.length : Int) ≤ max size 0 ∧ (∀ z ∈ l, nodeOk hs ws z) ∧ (domZ hs d l).Nodup) := by unfold validB; exact @decide_eq_true_iff _ (Classical.propDecidable _)
theorem validB_not {hs ws l : List Int} {size d : Int} (h : ¬ ((l.length : Int) ≤ max size 0 ∧ (∀ z ∈ l, nodeOk hs ws z) ∧ (domZ hs d l).Nodup)) : validB hs ws l size d = false := by
  cases e : validB hs ws l size d with
  | false => rfl
  | true => exact absurd ((validB_iff _ _ _ _ _).1 e) h
theorem domZ_len (hs : List Int) (d : Int) (l : List Int) : (domZ hs d l).length = l.length := by simp [domZ]
theorem domZ_take (hs : List Int) (d : Int) (l : List Int) (i : Nat) (hi : i < l.length) : domZ hs d (l.take (i + 1)) = domZ hs d (l.take i) ++ [(domsE d hs).getD l[i].toNat 0] := by
  unfold domZ
  rw [List.take_succ_eq_append_getElem hi, List.map_append]
  rfl

end Go.Proofs.Ytngmcolbpdinmaa.crush
