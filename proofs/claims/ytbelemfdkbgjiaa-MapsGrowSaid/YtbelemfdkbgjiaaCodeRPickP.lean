/- The closure that 'read' hands to its row, over the parts of a key. -/
import Derived.Test.YtbelemfdkbgjiaaRows
import Derived.Test.YtbelemfdkbgjiaaCodeRPart
import Derived.Test.YtbelemfdkbgjiaaCodeRPick
import Derived.Deep.RegionWith
namespace Go.Proofs.Ytbelemfdkbgjiaa.code
open Go.RowKit
open Go.Proofs.Ytbelemfdkbgjiaa.kit Go.Proofs.Ytbelemfdkbgjiaa.cm
set_option linter.unusedVariables false

theorem pick_endP {L : Nat} {W W1 W3 : World} {rb : Nat} {k : Int} {f : Fld} {er : Int} {R' : Except Int (Fld × List Nat)} (hb : Below W.heap.size W W1) (hg : W1.drew.grownBy W3 (some rb)) (hrl : rb < W.heap.size) (hL : L ≤ W.heap.size)
    (hr : (∃ r, R' = .ok (f, r) ∧ er = 0 ∧ Rest L W3 rb r) ∨ (R' = .error er ∧ f = zP k ∧ er ≠ 0)) (cs : List Value) :
    RdP L Fld.val (zP k) W rb R' (.returned (.tuple #[f.val, .int .i64 er])) (W3.setCells W.heap.size 0 cs) := by
  have g0 : W.grownBy W1.drew (some rb) := ⟨hb.os, hb.tape, hb.output, hb.size, fun k hk _ => hb.block k hk⟩
  have gA : W.grownBy W3 (some rb) := Lib.grownBy_trans g0 hg
  have g3 := grownBy_setCells W3 W.heap.size cs 0
  have gC := gA.andThen g3 (fun j e => .inl (by have : W.heap.size = j := by simpa using e
                                                omega))
  rcases hr with ⟨r, hR, h0, hrest⟩ | ⟨hR, hf, h0⟩
  · rw [hR, h0]
    exact ⟨rfl, hrest.far g3 hL (by omega), gC⟩
  · rw [hR, hf]
    exact ⟨rfl, h0, gC⟩

end Go.Proofs.Ytbelemfdkbgjiaa.code
