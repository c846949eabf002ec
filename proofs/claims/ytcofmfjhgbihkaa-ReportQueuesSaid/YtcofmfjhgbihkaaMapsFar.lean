/- What a call keeps of the blocks that it may not touch; rows of its own outside of them. -/
import Derived.Test.YtcofmfjhgbihkaaRows
import Derived.Test.YtcofmfjhgbihkaaMapsSheet
import Derived.Test.YtcofmfjhgbihkaaRuleApp
namespace Go.Proofs.Ytcofmfjhgbihkaa.crush
open Go.RowKit
open Go.Proofs.Ytcofmfjhgbihkaa.kit Go.Proofs.Ytcofmfjhgbihkaa.own
set_option linter.unusedVariables false
set_option linter.unusedSimpArgs false

/-- The blocks that B speaks of stay as they are. -/
structure Far (B : Nat → Prop) (w w' : World) : Prop where
  os : w'.os = w.os
  tape : w'.tape = w.tape
  output : w'.output = w.output
  size : w.heap.size ≤ w'.heap.size
  block : ∀ k, B k → w'.heap[k]? = w.heap[k]?
/-- All that B speaks of lies in the world. -/
def In (B : Nat → Prop) (w : World) : Prop := ∀ k, B k → k < w.heap.size
theorem In.mono {B : Nat → Prop} {w w' : World} (h : In B w) (hs : w.heap.size ≤ w'.heap.size) : In B w' := fun k hk => Nat.lt_of_lt_of_le (h k hk) hs
theorem In.le {B : Nat} {w : World} (h : B ≤ w.heap.size) : In (fun k => k < B) w := fun k hk => Nat.lt_of_lt_of_le hk h
theorem Far.refl (B : Nat → Prop) (w : World) : Far B w w := ⟨rfl, rfl, rfl, Nat.le_refl _, fun _ _ => rfl⟩
theorem Far.trans {B : Nat → Prop} {a b c : World} (h : Far B a b) (k : Far B b c) : Far B a c :=
  ⟨k.os.trans h.os, k.tape.trans h.tape, k.output.trans h.output, Nat.le_trans h.size k.size, fun i hi => (k.block i hi).trans (h.block i hi)⟩
theorem Far.of {B : Nat → Prop} {N : Nat} {w w' : World} (h : Below N w w') (hB : ∀ k, B k → k < N) : Far B w w' := ⟨h.os, h.tape, h.output, h.size, fun k hk => h.block k (hB k hk)⟩
theorem Far.to {B : Nat} {w w' : World} (h : Far (fun k => k < B) w w') : Below B w w' := ⟨h.os, h.tape, h.output, h.size, h.block⟩
theorem Far.alloc {B : Nat → Prop} {w w' : World} (h : Far B w w') (hB : In B w) (o : Obj) : Far B w (w'.alloc o) :=
  h.trans (Far.of (below_new w' o) (hB.mono h.size))
theorem Far.drewN' {B : Nat → Prop} {w w' : World} (h : Far B w w') (n : Nat) : Far B w (w'.drewN n) := ⟨h.os, h.tape, h.output, h.size, h.block⟩
theorem Far.drew {B : Nat → Prop} {w w' : World} (h : Far B w w') : Far B w w'.drew := h.drewN' 1
theorem Far.setCell {B : Nat → Prop} {w w' : World} (h : Far B w w') {p : Addr} (hb : ¬ B p.block) (v : Value) : Far B w (w'.setCell p v) := by
  have h1 := (Below.refl 0 w').setCell (p := p) (Nat.zero_le _) v
  refine h.trans ⟨h1.os, h1.tape, h1.output, h1.size, fun k hk => ?_⟩
  obtain ⟨b, o, s⟩ := p
  exact heap_setCell_other _ _ _ _ (fun e => hb (by rw [← e]; exact hk))
theorem Far.setCells {B : Nat → Prop} {w w' : World} (h : Far B w w') {b : Nat} (hb : ¬ B b) (o : Nat) (vs : List Value) : Far B w (w'.setCells b o vs) := by
  have h1 := Below.setCells (Below.refl 0 w') (b := b) (Nat.zero_le _) o vs
  exact h.trans ⟨h1.os, h1.tape, h1.output, h1.size, fun k hk => heap_setCells_other b vs o w' k (fun e => hb (by rw [← e]; exact hk))⟩
/-- What an append to a row of the call's own turns: that row, or nothing that lay. -/
theorem Far.grown {B : Nat → Prop} {w w' : World} {r : Option Nat} (h : w.grownBy w' r) (hB : In B w) (hr : ∀ b, r = some b → ¬ B b) : Far B w w' :=
  ⟨h.os, h.tape, h.output, h.size, fun k hk => h.block k (hB k hk) (fun e => hr k e.symm hk)⟩

section
variable {α : Type} {enc : α → List Value} {k : Nat}
/-- The slice is the call's own, and none of the blocks that B speaks of. -/
def OwnP (enc : α → List Value) (k e : Nat) (w : World) (B : Nat → Prop) (v : Value) (xs : List α) : Prop := Own enc k e w 0 v xs ∧ ∀ b, v.ownBlock = some b → ¬ B b
theorem OwnP.below {e : Nat} {w w' : World} {B : Nat → Prop} {v : Value} {xs : List α} (h : OwnP enc k e w B v xs) (hb : Below w.heap.size w w') : OwnP enc k e w' B v xs := ⟨h.1.below hb, h.2⟩
theorem OwnP.slice {e : Nat} {w : World} {B : Nat → Prop} {v : Value} {xs : List α} (h : OwnP enc k e w B v xs) : ∃ a c, v = .slice a xs.length c := h.1.slice
theorem OwnP.read {e : Nat} {w : World} {B : Nat → Prop} {v : Value} {xs : List α} (hk : ∀ x, (enc x).length = k) (h : OwnP enc k e w B v xs) : Sl enc k w v xs := h.1.read hk
theorem OwnP.nil (w : World) (e : Nat) (B : Nat → Prop) : OwnP enc k e w B (.slice none 0 0) [] := ⟨Own.nil _ _ _, fun b h => by cases h⟩
theorem OwnP.of {e N : Nat} {w : World} {v : Value} {xs : List α} (h : Own enc k e w N v xs) : OwnP enc k e w (fun k => k < N) v xs :=
  ⟨h.mono (Nat.zero_le _), fun b hb => by have := (h.blk _ hb).1; omega⟩
theorem OwnP.mono {e : Nat} {w : World} {B B' : Nat → Prop} {v : Value} {xs : List α} (h : OwnP enc k e w B v xs) (hB : ∀ k, B' k → B k) : OwnP enc k e w B' v xs := ⟨h.1, fun b hb h2 => h.2 b hb (hB b h2)⟩
theorem OwnP.to {e N : Nat} {w : World} {v : Value} {xs : List α} (h : OwnP enc k e w (fun k => k < N) v xs) : Own enc k e w N v xs := by
  obtain ⟨⟨h1, h2⟩, h3⟩ := id h
  refine ⟨h1, ?_⟩
  rcases h2 with ⟨rfl, h0⟩ | ⟨g, cap, cur, rfl, hb, hr⟩
  · exact .inl ⟨rfl, h0⟩
  · exact .inr ⟨g, cap, cur, rfl, by have := h3 g rfl; omega, hr⟩
end
/-- 'v = append(v, x)' of a row outside of B. -/
theorem step_app1P {α : Type} {enc : α → List Value} {k : Nat} (hk : ∀ x, (enc x).length = k) (h1 : ∀ x, ∀ v ∈ enc x, v.oneCell' = true) (hk0 : 0 < k) {P : Program} {wr : World} {o : Oper} {a : Act} {Q : Exit → Act → World → Prop} {K : Act → World → Prop} (s x : Operand) (t : TypeId)
    (ho : o.op = .call { callee := .builtin .append, args := #[s, x], argTypes := #[t, t] })
    (B : Nat → Prop) (e : Nat) (z : Value) (hz : z.cells.size = k) (bytes : Nat) (ht : P.underlying t = some (.slice e)) (hi : (P.info? e).map (fun i => (i.zero, i.size, i.bytes)) = some (some z, k, bytes))
    (v : Value) (xs : List α) (hs : a.eval s = v) (hown : OwnP enc k e wr B v xs) (vx : Value) (y : α) (hx : a.eval x = vx) (hr : Sl enc k wr vx [y])
    (h63 : xs.length + 1 ≤ maxLen) (hb : (xs.length + 1) * bytes ≤ 140737488355328) (hB : In B wr)
    (h : ∀ v' w', OwnP enc k e w' B v' (xs ++ [y]) → Kept 0 e wr w' → Far B wr w' → K (a.put o.dst v') w') : o.wp P a wr K Q :=
  step_app1 hk h1 hk0 s x t ho 0 e z hz bytes ht hi v xs hs hown.1 vx y hx hr h63 hb (Nat.zero_le _) fun v' w' h2 h3 h4 h5 =>
    h v' w' ⟨h2, fun b hb2 hb3 => by
      rcases h5 with h5 | h5
      · exact hown.2 b (h5 ▸ hb2) hb3
      · have := h5 b hb2; have := hB b hb3; omega⟩ h3 (Far.grown h4 hB hown.2)
end Go.Proofs.Ytcofmfjhgbihkaa.crush
