/- AcceptNever (P15.7, P15.9): whatever is asked of an acceptor, in whatever order, it stays fit, and takes nothing back that it has promised, accepted or committed: for every row of calls. -/
import Derived.Test.YtoeklnmmnmmjeaaRows
import Derived.Test.YtoeklnmmnmmjeaaAccLawN
import Derived.Test.YtoeklnmmnmmjeaaAccLift
namespace Go.Proofs.Ytoeklnmmnmmjeaa.crush
open Go.ChangeShapes Go.WideShapes Go.ChangeAt Go.RowKit
open Go.Proofs.Ytoeklnmmnmmjeaa.kit Go.Proofs.Ytoeklnmmnmmjeaa.own Go.Proofs.Ytoeklnmmnmmjeaa.lift
set_option linter.unusedVariables false

set_option maxRecDepth 100000 in
theorem liftedNever (os : Os) (started : os.Started) (H : Type) (enc : TypeId × Value → H) :
    ReturnsInHanded {} Try.checked os 4 .any (Rows.acceptNeverSpec.pre6 enc Try.prog Try.f4 Rows.acceptNeverRow.domain false) (Rows.acceptNeverSpec.post enc Try.prog Try.f4 false true false false) := by
  refine lift.law (C := Try.checked) ownKn started (by kernel_rfl) Try.func4
    (ChangeSpec.witness6 (enc := enc) (C := Try.checked) false ⟨#[], #[.slice none 0 0], []⟩ 8 (by kernel_rfl) (by kernel_rfl) (by kernel_rfl) (by kernel_rfl)) laidOutP (by kernel_rfl) 4 Try.underlying4 (by kernel_rfl) rfl ?_ ?_
  · intro ds hd
    match ds, hd with
    | [_], _ => rfl
  · intro W base args ds ps hg
    have hA : DataW.TrodAll enc Try.prog W 0 (fun _ => true) true Try.f4.params.toList args.toList ds ps := hg.read
    have hval : ∀ (j : Nat) t v, Try.f4.params[j]? = some t → args[j]? = some v → Value.okWide Try.prog W .any base t v := hg.ok
    rw [Try.params4] at hA hval
    obtain ⟨v0, vs0, d0, ds0, p0, q0, hargs, rfl, rfl, h0, r0⟩ := trodAll_cons hA
    obtain ⟨rfl, rfl, rfl⟩ := trodAll_nil r0
    obtain rfl : args = #[v0] := by cases args; simp_all
    obtain ⟨l, hs, hok⟩ := acts_open (hval 0 43 v0 rfl rfl) h0
    exact walkNever v0 l W hs hok

theorem never_holds : Rows.AcceptNeverSaid :=
  OpenClaim.holds_of_wide 4 Try.f4 rfl rfl rfl rfl rfl rfl rfl ⟨rfl, rfl, rfl, rfl, rfl⟩ rfl rfl rfl rfl rfl (by kernel_rfl) Try.func4 (by kernel_rfl)
    (of_decide_eq_true (by kernel_rfl)) (by unfold Func.isWrapper; first | (rw [if_pos (by decide +kernel)]; kernel_rfl) | (rw [if_neg (by decide +kernel)]; exact ⟨rfl, rfl⟩))
    (fun os started H enc _ => liftedNever os started H enc)

#print axioms never_holds
end Go.Proofs.Ytoeklnmmnmmjeaa.crush
