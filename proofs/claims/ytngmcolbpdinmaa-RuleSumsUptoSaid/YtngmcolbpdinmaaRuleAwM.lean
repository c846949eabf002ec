/- The chapter's examples, in numbers. -/
import Derived.Test.YtngmcolbpdinmaaRuleMath
namespace Go.Proofs.Ytngmcolbpdinmaa.crush
set_option linter.unusedVariables false
theorem aw_h : onceL [3, 1, 3] = [1, 3] := (rising_once (by decide) (by intro z; simp; omega)).symm
theorem aw_h2 : onceL [0, 0] = [0] := (rising_once (by decide) (by intro z; simp)).symm
theorem aw_h3 : onceL [0, 1] = [0, 1] := (rising_once (by decide) (by intro z; simp)).symm
theorem aw_m : mostE [0, 0, 1, 1] [1, 0, 0, 0] 2 1 = 1 := by decide +kernel
theorem aw_0 : placeE [0] [] 1 1 1 = [] := by decide +kernel
theorem first_one {hs ws : List Int} {x : Nat} {size d : Int} (hs1 : 0 < size) (hm : mostE hs ws size d = 1) (ht : (tryE hs ws x 0).isSome = true) : (placeE hs ws x size d).length = 1 := by
  obtain ⟨v, hv⟩ := Option.isSome_iff_exists.1 ht
  have h1 : placeF (tryE hs ws x) (domsE d hs) size 1 = [v] := by
    rw [placeF, placeF, if_pos (by simpa using hs1), hv]
    rfl
  rw [placeE_full (r := 1) (by rw [h1, hm]; rfl) (by omega), h1]
  rfl
theorem aw_l : (placeE [0, 0] [65536, 65536] 7 2 2).length = 1 := by
  refine first_one (by decide) ?_ ?_
  · show min 2 (onceL (withD [0, 0] [65536, 65536] 2 2)).length = 1
    rw [show withD [0, 0] [65536, 65536] 2 2 = [0, 0] by decide +kernel, aw_h2]
    rfl
  · unfold tryE itemsE nodesE
    rw [aw_h2]
    decide +kernel
theorem aw_n : (placeE [0, 1] [65536, 65536] 7 1 1).length = 1 := by
  refine first_one (by decide) ?_ ?_
  · show min 1 (onceL (withD [0, 1] [65536, 65536] 1 2)).length = 1
    rw [show withD [0, 1] [65536, 65536] 1 2 = [0, 1] by decide +kernel, aw_h3]
    rfl
  · unfold tryE itemsE nodesE
    rw [aw_h3]
    decide +kernel
end Go.Proofs.Ytngmcolbpdinmaa.crush
