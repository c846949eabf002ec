/- Extents of a row: which are fit, what they cover. -/
import Derived.Test.YtijafehhhknamaaExtBase
namespace Go.Proofs.Ytijafehhhknamaa.ext
set_option linter.unusedVariables false

/-- A row may have so many sectors. -/
def rowE (t : Int) : Bool := decide (0 ≤ t ∧ t ≤ 65536)
/-- An extent has sectors, all of the row. -/
def lieE (t : Int) (x : Wy) : Bool := decide (1 ≤ x.2 ∧ 0 ≤ x.1 ∧ x.1 + x.2 ≤ t)
theorem lieE_iff (t : Int) (x : Wy) : lieE t x = true ↔ 1 ≤ x.2 ∧ 0 ≤ x.1 ∧ x.1 + x.2 ≤ t := by unfold lieE; simp
/-- One stands behind another, with a sector between. -/
def linkE (p : Option Wy) (x : Wy) : Bool := match p with | none => true | some q => decide (q.1 + q.2 < x.1)
def chainE : Option Wy → List Wy → Bool
  | _, [] => true
  | p, x :: r => linkE p x && chainE (some x) r
def fitE (t : Int) (xs : List Wy) : Bool := rowE t && (xs.all (lieE t) && chainE none xs)
def fitR (t : Int) : Option Wy → List Wy → Bool
  | _, [] => true
  | p, x :: r => lieE t x && (linkE p x && fitR t (some x) r)
theorem fitR_eq (t : Int) : ∀ (p : Option Wy) (xs : List Wy), fitR t p xs = (xs.all (lieE t) && chainE p xs)
  | _, [] => rfl
  | p, x :: r => by
    rw [fitR, fitR_eq t (some x) r, List.all_cons, chainE]
    cases lieE t x <;> cases linkE p x <;> cases r.all (lieE t) <;> rfl
/-- The one ahead of place k. -/
def prevE (xs : List Wy) (k : Nat) : Option Wy := if k = 0 then none else xs[k - 1]?
theorem prevE_succ (xs : List Wy) (k : Nat) (h : k < xs.length) : prevE xs (k + 1) = some xs[k] := by
  unfold prevE
  rw [if_neg (by omega), Nat.add_sub_cancel]
  simp [h]
/-- How many sectors. -/
def sumE : List Wy → Int
  | [] => 0
  | x :: r => x.2 + sumE r
theorem sumE_nonneg : ∀ (xs : List Wy), (∀ x ∈ xs, 0 ≤ x.2) → 0 ≤ sumE xs
  | [], _ => by simp [sumE]
  | x :: r, h => by
    rw [sumE]
    have := sumE_nonneg r (fun y hy => h y (List.mem_cons_of_mem _ hy))
    have := h x (List.mem_cons_self ..)
    omega
theorem sumE_append : ∀ (xs ys : List Wy), sumE (xs ++ ys) = sumE xs + sumE ys
  | [], ys => by simp [sumE]
  | x :: r, ys => by rw [List.cons_append, sumE, sumE, sumE_append r ys]; omega
end Go.Proofs.Ytijafehhhknamaa.ext
