/- Acceptors as Lean data, their cells, and rows of texts. -/
import Derived.Test.YtcofmfjhgbihkaaRows
import Derived.Test.YtcofmfjhgbihkaaCrushBase
namespace Go.Proofs.Ytcofmfjhgbihkaa.crush
open Go.RowKit
open Go.Proofs.Ytcofmfjhgbihkaa.kit Go.Proofs.Ytcofmfjhgbihkaa.own
set_option linter.unusedVariables false

def tx (x : ByteArray) : List Value := [.string x]
theorem tx_len (x : ByteArray) : (tx x).length = 1 := rfl
theorem tx_one (x : ByteArray) : ∀ v ∈ tx x, v.oneCell' = true := by
  intro v hv
  simp [tx] at hv
  subst hv; rfl
theorem infoTxt : (Try.prog.info? 9).map (fun i => (i.zero, i.size, i.bytes)) = some (some (.string .empty), 1, 16) := by kernel_rfl
theorem tcell_at {w : World} {b o : Nat} {x : ByteArray} (h : w.rangeAt b o (tx x)) : w.cell? ⟨b, o, none⟩ = some (.string x) := h 0 _ rfl

/-- A ballot. -/
structure BalV where
  r : Int
  m : Int
deriving DecidableEq
def BalV.cells (b : BalV) : List Value := [.int .i64 b.r, .int .i64 b.m]
def BalV.val (b : BalV) : Value := .agg #[.int .i64 b.r, .int .i64 b.m]
/-- An acceptor. -/
structure AccV where
  pr : Int
  pm : Int
  has : Bool
  ar : Int
  am : Int
  val : ByteArray
  com : List ByteArray
/-- The acceptor's value, with its row of commits. -/
def AccV.agg (a : AccV) (s : Value) : Value := .agg #[.int .i64 a.pr, .int .i64 a.pm, .bool a.has, .int .i64 a.ar, .int .i64 a.am, .string a.val, s]
def AccR (w : World) (v : Value) (a : AccV) : Prop := ∃ s, v = a.agg s ∧ Sl tx 1 w s a.com
theorem AccR.keep {w w' : World} {v : Value} {a : AccV} (h : AccR w v a) (hb : Below w.heap.size w w') : AccR w' v a := by
  obtain ⟨s, e, h⟩ := h
  exact ⟨s, e, h.keep hb⟩
/-- An acceptor of the call's own is handed back. -/
def AccS (w : World) (a : AccV) (e : Ending) (w' : World) : Prop := ∃ s, e = .returned (a.agg s) ∧ Own tx 1 9 w' w.heap.size s a.com ∧ Below w.heap.size w w'

/-- The mathematics of ballots and acceptors. -/
def okBal (r m : Int) : Bool := decide (1 ≤ r) && decide (r ≤ 1073741824) && decide (0 ≤ m) && decide (m < 5)
def laterB (r m r' m' : Int) : Bool := decide (r' < r) || (decide (r = r') && decide (m' < m))
def okTxt (s : ByteArray) : Bool := decide (1 ≤ s.size) && decide (s.size ≤ 256)
def prepOk (a : AccV) (b : BalV) : Bool := okBal b.r b.m && !laterB a.pr a.pm b.r b.m
def prepE (a : AccV) (b : BalV) : AccV := if prepOk a b then { a with pr := b.r, pm := b.m } else a
def accN (a : AccV) (b : BalV) (v : Int) (s : ByteArray) : Int :=
  if okTxt s && prepOk a b then (if v ≤ a.com.length then 2 else if ¬ v = a.com.length + 1 ∨ 4096 ≤ a.com.length then 3 else 1) else 0
def accE (a : AccV) (b : BalV) (v : Int) (s : ByteArray) : AccV :=
  if okTxt s then (if accN a b v s = 1 then { prepE a b with has := true, ar := b.r, am := b.m, val := s } else prepE a b) else a
/-- The texts from a place on. -/
def fromL (l : List ByteArray) (f : Int) : List ByteArray := if f < 0 then [] else l.drop f.toNat
/-- Of a row so many texts as are values and as there is room for. -/
def taken : List ByteArray → Nat → List ByteArray
  | [], _ => []
  | x :: l, n => if okTxt x = true ∧ 0 < n then x :: taken l (n - 1) else []
def learnL (a : AccV) (f : Int) (l : List ByteArray) : List ByteArray := if f < 0 ∨ (a.com.length : Int) < f then [] else taken (fromL l (a.com.length - f)) (4096 - a.com.length)
def learnE (a : AccV) (f : Int) (l : List ByteArray) : AccV :=
  if learnL a f l = [] then a else { a with has := false, ar := 0, am := 0, val := .empty, com := a.com ++ learnL a f l }
def okAcc (a : AccV) : Bool :=
  (okBal a.pr a.pm || (decide (a.pr = 0) && decide (a.pm = 0))) &&
  (if a.has then okBal a.ar a.am && !laterB a.ar a.am a.pr a.pm && okTxt a.val else decide (a.ar = 0) && decide (a.am = 0) && decide (a.val.size = 0)) &&
  (decide (a.com.length ≤ 4096) && a.com.all okTxt)
end Go.Proofs.Ytcofmfjhgbihkaa.crush
