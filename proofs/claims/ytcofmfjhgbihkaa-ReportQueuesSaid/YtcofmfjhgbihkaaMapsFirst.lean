/- First. -/
import Derived.Test.YtcofmfjhgbihkaaRows
import Derived.Test.YtcofmfjhgbihkaaMapsApply
namespace Go.Proofs.Ytcofmfjhgbihkaa.crush
open Go.RowKit
open Go.Proofs.Ytcofmfjhgbihkaa.kit Go.Proofs.Ytcofmfjhgbihkaa.own
set_option linter.unusedVariables false
set_option linter.unusedSimpArgs false

def osd0 : OsdV := ⟨0, false, 65536, 0⟩
def firstE (hs : List Int) : MapV := if okHosts hs then ⟨0, hs, List.replicate hs.length osd0, [], []⟩ else ⟨0, [], [], [], []⟩
theorem okHosts_len {hs : List Int} (h : okHosts hs = true) : 1 ≤ hs.length ∧ hs.length ≤ 8 := by
  unfold okHosts at h
  rw [Bool.and_eq_true] at h
  have h1 := h.1
  unfold inR at h1
  simp only [Bool.and_eq_true, decide_eq_true_iff] at h1
  omega

end Go.Proofs.Ytcofmfjhgbihkaa.crush
