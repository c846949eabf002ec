/- A range over a function whose iterator may keep a state of its own: the statement and one round, each by its own law. -/
import Derived.RangeFuncNested
import Derived.RangeFuncBound
import Derived.RangeFuncCalls
import Derived.RangeFuncLeaves
import Derived.WalkKit
import Derived.OwnWalkIn
import Derived.TacticsInMore
import Derived.LoopNIn
import Derived.LoopIn
namespace Go.Proofs.Ytcofmfjhgbihkaa.iter
open Go.RowKit

/-- The record of a loop. -/
def lrec (fn : FuncId) (tmps : Array Value) (ps : Array Tmp) (assign body : Code) (D : Nat) (st : LoopState) (pe : Option Code) : Loop :=
  { state := st, pending := pe, fn, tmps, params := ps, assign, body, defers := D }

/-- The two blocks of book-keeping. -/
def Book (W : World) (D : Nat) (r : Loop) : Prop := W.heap[D + 1]? = some (.loop r) ∧ W.heap[D]? = some (.deferred (some []))

/-- How the body of a round may be left: by its end (Rt) or by a return (Rf). -/
def bodyEnds (D : Nat) (r : LoopState → Option Code → Loop) (Rt Rf : World → Prop) : Exit → Act → World → Prop
  | .normal, _, W => W.heap[D + 1]? = some (.loop (r .busy none)) ∧ Rt (W.putObj (D + 1) (.loop (r .ready none)))
  | .ret, _, W => W.heap[D + 1]? = some (.loop (r .busy none)) ∧ Rf (W.putObj (D + 1) (.loop (r .done (some .ret))))
  | .exit _, _, _ => False
  | .goto _, _, _ => False
  | .panic _, _, _ => False
  | .outgrown, _, _ => False

/-- One round: a call of yield. -/
theorem yield_round {P : Program} {fn : FuncId} {tmps : Array Value} {ps : Array Tmp} {assign body : Code} {D m : Nat} {W : World} {args : Array Value} {Rt Rf : World → Prop} {rec : LoopState → Option Code → Loop} (hrec : rec = lrec fn tmps ps assign body D)
    (hb : Book W D (rec .ready none)) (hs : args.size = ps.size)
    (h : assign.wpIn (Fence.wide.inRound (D + 1)) m P (Exit.then (fun a1 W1 => W1.heap[D + 1]? = some (.loop (rec .ready none)) ∧
        body.wpIn (Fence.wide.inRound (D + 1)) m P (bodyEnds D rec Rt Rf) a1 (W1.putObj (D + 1) (.loop (rec .busy none)))) (fun _ _ _ => False))
      { tmps := (ps.zip args).foldl (fun t (p, v) => t.setIfInBounds p v) tmps, defers := [] } W) :
    YieldAt Fence.wide m P (D + 1) args W fun e W' => (e = .returned (.bool true) ∧ Rt W') ∨ (e = .returned (.bool false) ∧ Rf W') := by
  subst hrec
  have hy := run_yield (P := P) (args := args) hb.1 hs
  refine ⟨fn, _, assign, body, hy, roundIn_of_wpIn trivial ?_⟩
  refine wpIn_mono h ?_
  rintro e a1 W1 hp
  cases e with
  | normal =>
    obtain ⟨hl, hbody⟩ := hp
    refine ⟨_, run_beginRound hl rfl, ?_⟩
    refine wpIn_mono hbody ?_
    rintro e2 a2 W2 hq
    cases e2 with
    | normal => obtain ⟨h1, h2⟩ := hq; exact ⟨_, _, run_endRound none h1, .inl ⟨rfl, h2⟩⟩
    | ret => obtain ⟨h1, h2⟩ := hq; exact ⟨_, _, run_endRound (some .ret) h1, .inr ⟨rfl, h2⟩⟩
    | exit id => exact hq.elim
    | goto t => exact hq.elim
    | panic c => exact hq.elim
    | outgrown => exact hq.elim
  | exit id => exact hp.elim
  | goto t => exact hp.elim
  | ret => exact hp.elim
  | panic c => exact hp.elim
  | outgrown => exact hp.elim

/-- The statement. -/
theorem range_stmt {P : Program} {g : Operand} {ps : Array Tmp} {assign body : Code} {Q : Exit → Act → World → Prop} {a : Act} {w : World} {gf : Nat} {lb : Array Value} {n : Nat} {I X : World → Prop}
    (hg : a.eval g = .func (.func gf) #[] lb) (eg : ∀ args w, (callFunc gf args).run P w = .ok (.enter gf args) w)
    (hit : ∀ fn rec, rec = lrec fn a.tmps ps assign body w.heap.size → CallsIn Fence.wide (n - 1) P gf (#[.func (.yield (w.heap.size + 1)) #[] #[]] ++ lb) ((w.alloc (.deferred (some []))).alloc (.loop (rec .ready none))) fun e W => (∃ v, e = .returned v) ∧
      ((I W ∧ Book W w.heap.size (rec .ready none)) ∨ (X W ∧ Book W w.heap.size (rec .done (some .ret)))))
    (hdone : ∀ (W : World) (r r' : Loop), I W → Book W w.heap.size r → Q .normal { a with defers := { target := .collected w.heap.size, args := #[] } :: a.defers } (W.putObj (w.heap.size + 1) (.loop r')))
    (hstop : ∀ (W : World) (r r' : Loop), X W → Book W w.heap.size r → Code.ret.wpIn Fence.wide n P Q { a with defers := { target := .collected w.heap.size, args := #[] } :: a.defers } (W.putObj (w.heap.size + 1) (.loop r'))) :
    (Code.rangeFunc g ps assign body).wpIn Fence.wide n P Q a w := by
  refine wpIn_rangeFunc ?_
  intro fn hfn
  obtain ⟨W1, hW1⟩ : ∃ W1, (w.alloc (.deferred (some []))).alloc (.loop (lrec fn a.tmps ps assign body w.heap.size .ready none)) = W1 := ⟨_, rfl⟩
  have hit' := hit fn _ rfl
  rw [hW1] at hit'
  refine ⟨w.heap.size + 1, [{ target := .collected w.heap.size, args := #[] }], W1, { target := .fn (.func gf) lb, args := #[.func (.yield (w.heap.size + 1)) #[] #[]] }, W1, gf,
    #[.func (.yield (w.heap.size + 1)) #[] #[]] ++ lb, W1, ?_, ?_, fun _ _ => trivial, ?_, (fun h => by cases h), ?_⟩
  · rw [← hW1]; exact run_enterLoop_outer _ _ _ _ _
  · simp only [resolve, hg]
    simp [go_sem]
  · simp [invoke, go_sem, eg]
  · refine hit'.mono ?_
    rintro e W ⟨⟨v, rfl⟩, (⟨hi, hl, hk⟩ | ⟨hi, hl, hk⟩)⟩
    · exact ⟨none, _, run_endLoop hl (by simp [lrec]), hdone _ _ _ hi ⟨hl, hk⟩⟩
    · exact ⟨some .ret, _, run_endLoop hl (by simp [lrec]), hstop _ _ _ hi ⟨hl, hk⟩⟩

end Go.Proofs.Ytcofmfjhgbihkaa.iter
