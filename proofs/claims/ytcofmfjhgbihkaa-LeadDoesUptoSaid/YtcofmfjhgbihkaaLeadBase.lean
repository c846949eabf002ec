/- Promises and leaders as Lean data, their cells. -/
import Derived.Test.YtcofmfjhgbihkaaRows
import Derived.Test.YtcofmfjhgbihkaaCrushBase
import Derived.Test.YtcofmfjhgbihkaaAccLow
namespace Go.Proofs.Ytcofmfjhgbihkaa.crush
open Go.RowKit
open Go.Proofs.Ytcofmfjhgbihkaa.kit Go.Proofs.Ytcofmfjhgbihkaa.own
set_option linter.unusedVariables false

/-- A promise. -/
structure PromV where
  mon : Int
  n : Int
  has : Bool
  ar : Int
  am : Int
  val : ByteArray
deriving DecidableEq
def prc (p : PromV) : List Value := [.int .i64 p.mon, .int .i64 p.n, .bool p.has, .int .i64 p.ar, .int .i64 p.am, .string p.val]
theorem prc_len (p : PromV) : (prc p).length = 6 := rfl
theorem prc_one (p : PromV) : ∀ v ∈ prc p, v.oneCell' = true := by
  intro v hv
  simp [prc] at hv
  rcases hv with rfl | rfl | rfl | rfl | rfl | rfl <;> rfl
theorem infoProm : (Try.prog.info? 53).map (fun i => (i.zero, i.size, i.bytes)) = some (some (.agg #[.int .i64 0, .int .i64 0, .bool false, .int .i64 0, .int .i64 0, .string .empty]), 6, 56) := by kernel_rfl
/-- A leader. -/
structure LeadV where
  st : Int
  r : Int
  m : Int
  ps : List PromV
  has : Bool
  val : ByteArray
  ak : List Int
def LeadV.agg (l : LeadV) (s t : Value) : Value := .agg #[.int .i64 l.st, .int .i64 l.r, .int .i64 l.m, s, .bool l.has, .string l.val, t]
def LdR (w : World) (v : Value) (l : LeadV) : Prop := ∃ s t, v = l.agg s t ∧ Sl prc 6 w s l.ps ∧ Sl ic 1 w t l.ak
theorem LdR.keep {w w' : World} {v : Value} {l : LeadV} (h : LdR w v l) (hb : Below w.heap.size w w') : LdR w' v l := by
  obtain ⟨s, t, e, h1, h2⟩ := h
  exact ⟨s, t, e, h1.keep hb, h2.keep hb⟩
/-- The rows of a leader of the call's own. -/
def LdO (w : World) (B : Nat) (s t : Value) (l : LeadV) : Prop := Own prc 6 53 w B s l.ps ∧ Own ic 1 3 w B t l.ak
theorem LdO.keep {w w' : World} {B : Nat} {s t : Value} {l : LeadV} (h : LdO w B s t l) (hb : Below w.heap.size w w') : LdO w' B s t l := ⟨h.1.below hb, h.2.below hb⟩
theorem LdO.mono {w : World} {B C : Nat} {s t : Value} {l : LeadV} (h : LdO w B s t l) (hc : C ≤ B) : LdO w C s t l := ⟨h.1.mono hc, h.2.mono hc⟩
theorem LdO.read {w : World} {B : Nat} {s t : Value} {l : LeadV} (h : LdO w B s t l) : LdR w (l.agg s t) l := ⟨s, t, rfl, h.1.read prc_len, h.2.read ic_len⟩
/-- A leader of the call's own is handed back. -/
def LdS (w : World) (l : LeadV) (e : Ending) (w' : World) : Prop := ∃ s t, e = .returned (l.agg s t) ∧ LdO w' w.heap.size s t l ∧ Below w.heap.size w w'

/-- Rows that rise. -/
def Ris {α : Type} (f : α → Int) (xs : List α) : Prop := ∀ j k (hj : j < xs.length) (hk : k < xs.length), j < k → f xs[j] < f xs[k]
def posL {α : Type} (f : α → Int) (y : Int) : List α → Nat
  | [] => 0
  | x :: l => if f x < y then posL f y l + 1 else 0
theorem posL_le {α : Type} (f : α → Int) (y : Int) : ∀ xs : List α, posL f y xs ≤ xs.length
  | [] => Nat.le_refl _
  | x :: l => by
    unfold posL
    split
    · have := posL_le f y l; simp; omega
    · exact Nat.zero_le _
theorem posL_lt {α : Type} (f : α → Int) (y : Int) : ∀ (xs : List α) (k : Nat) (hk : k < xs.length), k < posL f y xs → f xs[k] < y
  | [], k, hk, _ => absurd hk (Nat.not_lt_zero _)
  | x :: l, k, hk, h => by
    unfold posL at h
    split at h
    case isTrue h1 =>
      cases k with
      | zero => exact h1
      | succ k => exact posL_lt f y l k (by simpa using hk) (by omega)
    case isFalse => omega
theorem posL_at {α : Type} (f : α → Int) (y : Int) : ∀ (xs : List α) (hk : posL f y xs < xs.length), ¬ f xs[posL f y xs] < y
  | [], hk => absurd hk (Nat.not_lt_zero _)
  | x :: l, hk => by
    by_cases h : f x < y
    · have e : posL f y (x :: l) = posL f y l + 1 := by rw [posL, if_pos h]
      simp only [e] at hk ⊢
      rw [List.getElem_cons_succ]
      exact posL_at f y l (by simpa using hk)
    · have e : posL f y (x :: l) = 0 := by rw [posL, if_neg h]
      simp only [e]
      exact h
theorem posL_iff {α : Type} {f : α → Int} {xs : List α} (hr : Ris f xs) (y : Int) (k : Nat) (hk : k < xs.length) : f xs[k] < y ↔ k < posL f y xs := by
  constructor
  · intro h
    rcases Nat.lt_or_ge k (posL f y xs) with h1 | h1
    · exact h1
    · have h2 := posL_at f y xs (by omega)
      rcases Nat.lt_or_ge (posL f y xs) k with h3 | h3
      · have := hr _ _ (by omega) hk h3
        omega
      · obtain rfl : k = posL f y xs := by omega
        exact absurd h h2
  · exact posL_lt f y xs k hk
/-- Does one with that number stand there? -/
def atL {α : Type} (f : α → Int) (y : Int) (xs : List α) (p : Nat) : Bool := match xs[p]? with
  | some x => decide (f x = y)
  | none => false
def hitL {α : Type} (f : α → Int) (y : Int) (xs : List α) : Bool := atL f y xs (posL f y xs)
theorem atL_in {α : Type} {f : α → Int} {y : Int} {xs : List α} {p : Nat} (h : p < xs.length) : atL f y xs p = decide (f xs[p] = y) := by unfold atL; rw [List.getElem?_eq_getElem h]
theorem atL_out {α : Type} {f : α → Int} {y : Int} {xs : List α} {p : Nat} (h : xs.length ≤ p) : atL f y xs p = false := by unfold atL; rw [List.getElem?_eq_none h]
/-- A row with one put in. -/
def putL {α : Type} (f : α → Int) (xs : List α) (x : α) : List α := xs.take (posL f (f x) xs) ++ x :: xs.drop (if hitL f (f x) xs then posL f (f x) xs + 1 else posL f (f x) xs)
theorem putL_len {α : Type} (f : α → Int) (xs : List α) (x : α) : (putL f xs x).length ≤ xs.length + 1 := by
  have := posL_le f (f x) xs
  unfold putL
  simp
  split <;> omega
/-- What a leader comes to. -/
def LeadV.hear (l : LeadV) (p : PromV) : LeadV := if l.st = 1 then { l with ps := putL PromV.mon l.ps p } else l
def LeadV.ack (l : LeadV) (n : Int) : LeadV := if l.has then { l with ak := putL (fun z => z) l.ak n } else l
def LeadV.propose (l : LeadV) (s : ByteArray) (n : Int) : LeadV := if l.st = 2 ∧ l.has = false then { l with has := true, val := s, ak := [n] } else l
def LeadV.lead (l : LeadV) : LeadV := ⟨2, l.r, l.m, [], false, .empty, []⟩
def LeadV.done (l : LeadV) : LeadV := { l with has := false, val := .empty, ak := [] }
def mostN (n : Int) : Int := if n < 1 then 0 else n / 2 + 1
def majB (k : Nat) (n : Int) : Bool := decide (0 < n) && decide (mostN n ≤ k)
def LeadV.enough (l : LeadV) (n : Int) : Bool := decide (l.st = 1) && majB l.ps.length n
def LeadV.chosen (l : LeadV) (n : Int) : Bool := l.has && majB l.ak.length n
/-- Of the promises that count, the one of the latest ballot. -/
def bestP (n : Int) : PromV → List PromV → PromV
  | b, [] => b
  | b, p :: l => bestP n (if p.n = n ∧ p.has = true ∧ (b.has = false ∨ laterB p.ar p.am b.ar b.am = true) then p else b) l
def noP : PromV := ⟨0, 0, false, 0, 0, .empty⟩
end Go.Proofs.Ytcofmfjhgbihkaa.crush
