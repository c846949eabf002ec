/- Rows of fields of the call's own: words for whoever gathers fields. -/
import Derived.Test.YtoeklnmmnmmjeaaGreatRows
import Derived.Test.YtoeklnmmnmmjeaaGreatCodeMath
import Derived.Shelf.Abstract
import Derived.OwnWalkIn
import Derived.TacticsInMore
namespace Go.Proofs.YtoeklnmmnmmjeaaGreat.code
open Go.RowKit
open Go.Proofs.YtoeklnmmnmmjeaaGreat.kit Go.Proofs.YtoeklnmmnmmjeaaGreat.cm
set_option linter.unusedVariables false

def fcells (f : Fld) : List Value := [.int .i64 f.kind, .int .i64 f.num, .string f.text, .bool f.is]
/-- A row of fields of the call's own. -/
def OwnF (W : World) (B : Nat) (v : Value) (fs : List Fld) : Prop := W.ownsRow B 86 4 v fs.length (fs.flatMap fcells)

theorem infoFz : (Tryz.prog.info? 86).map (fun i => (i.zero, i.size, i.bytes)) = some (some (.agg #[.int .i64 0, .int .i64 0, .string { data := #[] }, .bool false]), 4, 40) := by kernel_rfl

/-- 'l = append(l, f)' of a field onto a row of the call's own. -/
theorem appF_in {F : Fence} {n : Nat} {wr : World} {ops : Array Oper} {rest : List Oper} {o : Oper} {a : Act} {Q : Exit → Act → World → Prop} (hgd : o.guard = none) (s x : Operand)
    (ho : o.op = .call { callee := .builtin .append, args := #[s, x], argTypes := #[76, 76] })
    (N : Nat) (v : Value) (fs : List Fld) (hs : a.eval s = v) (hown : OwnF wr N v fs) (f : Fld) (hx : a.eval x = .slice (some ⟨wr.heap.size, 0, none⟩) 1 1)
    (h63 : fs.length ≤ 2000000000000) (hB : N ≤ wr.heap.size)
    (h : ∀ v' w', OwnF w' N v' (fs ++ [f]) → Kept N 86 wr w' → wpListIn F n Tryz.prog ops Q rest (a.put o.dst v') w') :
    wpListIn F n Tryz.prog ops Q (o :: rest) a (wr.alloc (.cells #[.int .i64 f.kind, .int .i64 f.num, .string f.text, .bool f.is] 86)) := by
  have hbel : Below wr.heap.size wr (wr.alloc (.cells #[.int .i64 f.kind, .int .i64 f.num, .string f.text, .bool f.is] 86)) := (Below.refl _ _).alloc (Nat.le_refl _) _
  obtain ⟨i0, hi, hz0, hz1, hz2⟩ := info_parts infoFz
  have hown2 : (wr.alloc (.cells #[.int .i64 f.kind, .int .i64 f.num, .string f.text, .bool f.is] 86)).ownsRow N 86 4 v fs.length (fs.flatMap fcells) := hown.alloc _
  refine wpListIn_append_own _ hgd s x 76 ho N 86 i0 _ 4 40 Tryz.underlying76 hi hz0 hz1 hz2 rfl (by decide) v fs.length (fs.flatMap fcells) hs hown2 ⟨wr.heap.size, 0, none⟩ 1 1 (fcells f) hx rfl ?_ ?_ (by unfold maxLen; omega) (by omega) (by rw [World.size_alloc]; omega) ?_
  · intro j u hu
    rw [add_plain', World.cell?_alloc_at _ _ _ _ rfl, Nat.zero_add, ← hu]
    have hj : j < 4 := (List.getElem?_eq_some_iff.1 hu).1
    match j, hj with
    | 0, _ => rfl
    | 1, _ => rfl
    | 2, _ => rfl
    | 3, _ => rfl
  · intro u hu
    simp [fcells] at hu
    rcases hu with rfl | rfl | rfl | rfl <;> rfl
  · intro v' w' hown' hg _
    refine h v' w' ?_ ((Kept.of_below hB hbel).trans (Kept.grown (by rw [World.size_alloc]; omega) hown2 hg))
    unfold OwnF
    rw [List.length_append, List.flatMap_append]
    simpa using hown'

theorem ownF_slice {W : World} {N : Nat} {v : Value} {fs : List Fld} (h : OwnF W N v fs) : ∃ (a : Option Addr) (n c : Nat), v = .slice a n c := by
  rcases h.2 with ⟨rfl, _⟩ | ⟨g, cap, cur, rfl, _⟩
  · exact ⟨_, _, _, rfl⟩
  · exact ⟨_, _, _, rfl⟩

end Go.Proofs.YtoeklnmmnmmjeaaGreat.code
