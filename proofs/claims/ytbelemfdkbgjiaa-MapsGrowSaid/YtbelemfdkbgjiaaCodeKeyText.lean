/- The reader takes a text of a key. -/
import Derived.Test.YtbelemfdkbgjiaaRows
import Derived.Test.YtbelemfdkbgjiaaCodeRField
import Derived.Test.YtbelemfdkbgjiaaCodeReadL
import Derived.Test.YtbelemfdkbgjiaaCodePut
import Derived.Deep.LoopGhost
import Derived.WalkMore
namespace Go.Proofs.Ytbelemfdkbgjiaa.code
open Go.RowKit
open Go.Proofs.Ytbelemfdkbgjiaa.kit Go.Proofs.Ytbelemfdkbgjiaa.cm
set_option linter.unusedVariables false

/-- A text of a key, up to its end. -/
def rKT : List Nat → List Nat → Except Int (List Nat × List Nat)
  | _, [] => .error 11
  | acc, [c] => .error 11
  | acc, c :: d :: r => if c = 0 then (if d = 1 then .ok (acc, r) else if d = 255 then rKT (acc ++ [0]) r else .error 10) else rKT (acc ++ [c]) (d :: r)
  termination_by _ bs => bs.length
def rKeyText (bs : List Nat) : Except Int (List Nat × List Nat) := rKT [] bs

theorem rKT_step (acc : List Nat) (c : Nat) (r : List Nat) (hc : c ≠ 0) : rKT acc (c :: r) = rKT (acc ++ [c]) r := by
  cases r with
  | nil => rw [rKT, rKT]
  | cons d r => rw [rKT, if_neg hc]

theorem grown_below {N rb : Nat} {W a b : World} (hN : W.heap.size = N) (hg : W.grownBy a (some rb)) (hb : Below N a b) : W.grownBy b (some rb) :=
  ⟨hb.os.trans hg.os, hb.tape.trans hg.tape, hb.output.trans hg.output, Nat.le_trans hg.size hb.size, fun k hk hne => (hb.block k (by omega)).trans (hg.block k hk hne)⟩
theorem own_over {N rb e : Nat} {kd : IntKind} {a b : World} {v : Value} {ns : List Nat} (h : OwnI a N e kd v ns) (hg : a.grownBy b (some rb)) (hrb : rb < N) : OwnI b N e kd v ns := by
  refine World.ownsRow.kept h hg ?_
  rcases h.2 with ⟨rfl, _⟩ | ⟨g, cap, cur, rfl, hB, _⟩
  · exact .inl rfl
  · refine .inr fun e => ?_
    have e' : g = rb := by simpa [Value.ownBlock] using e
    omega

end Go.Proofs.Ytbelemfdkbgjiaa.code
