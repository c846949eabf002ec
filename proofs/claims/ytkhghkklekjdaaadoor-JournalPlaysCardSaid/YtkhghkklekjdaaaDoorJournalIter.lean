/- A range over a function that may be left by a break; the iterator over the sectors of a row. -/
import Derived.Test.YtkhghkklekjdaaaDoorRows
import Derived.Test.YtkhghkklekjdaaaDoorIter
import Derived.Test.YtkhghkklekjdaaaDoorJournalPiece
import Derived.Test.YtkhghkklekjdaaaDoorSectorAll
import Derived.RangeFuncRecord
import Derived.Stop.RegionWithIn
import Derived.RegionIn
import Derived.Sort.CutIn
import Derived.BigRegionIn
namespace Go.Proofs.YtkhghkklekjdaaaDoor.journal
open Go.RowKit
open Go.Proofs.YtkhghkklekjdaaaDoor.kit Go.Proofs.YtkhghkklekjdaaaDoor.own Go.Proofs.YtkhghkklekjdaaaDoor.jm Go.Proofs.YtkhghkklekjdaaaDoor.iter
open Go.Proofs.YtkhghkklekjdaaaDoor.sector (bv ba Dev DevAt Read_ok range_of_block)
set_option linter.unusedVariables false
set_option linter.unusedSimpArgs false

theorem look_lt {m : Dev} (h : m.Ok) {k : Nat} (hk : k < m.n) : ∀ x ∈ sector.look m k, x < 256 := by
  unfold sector.look
  split
  · rename_i hj
    exact (h.cache _ (sector.nth_mem hj)).2.2
  · intro x hx
    exact h.laidLt x (List.mem_of_mem_drop (List.mem_of_mem_take hx))

/-- How the body of a round may be left: by its end (Rt), or by a jump (Rx). -/
def bodyEndsX (D : Nat) (r : LoopState → Option Code → Loop) (Rt : World → Prop) (Rx : Code → World → Prop) : Exit → Act → World → Prop
  | .normal, _, W => W.heap[D + 1]? = some (.loop (r .busy none)) ∧ Rt (W.putObj (D + 1) (.loop (r .ready none)))
  | .ret, _, W => W.heap[D + 1]? = some (.loop (r .busy none)) ∧ Rx .ret (W.putObj (D + 1) (.loop (r .done (some .ret))))
  | .exit id, _, W => W.heap[D + 1]? = some (.loop (r .busy none)) ∧ Rx (.exit id) (W.putObj (D + 1) (.loop (r .done (some (.exit id)))))
  | .goto _, _, _ => False
  | .panic _, _, _ => False
  | .outgrown, _, _ => False

theorem yield_roundX {P : Program} {fn : FuncId} {tmps : Array Value} {ps : Array Tmp} {assign body : Code} {D m : Nat} {W : World} {args : Array Value} {Rt : World → Prop} {Rx : Code → World → Prop} {rec : LoopState → Option Code → Loop} (hrec : rec = lrec fn tmps ps assign body D)
    (hb : Book W D (rec .ready none)) (hs : args.size = ps.size)
    (h : assign.wpIn (Fence.wide.inRound (D + 1)) m P (Exit.then (fun a1 W1 => W1.heap[D + 1]? = some (.loop (rec .ready none)) ∧
        body.wpIn (Fence.wide.inRound (D + 1)) m P (bodyEndsX D rec Rt Rx) a1 (W1.putObj (D + 1) (.loop (rec .busy none)))) (fun _ _ _ => False))
      { tmps := (ps.zip args).foldl (fun t (p, v) => t.setIfInBounds p v) tmps, defers := [] } W) :
    YieldAt Fence.wide m P (D + 1) args W fun e W' => (e = .returned (.bool true) ∧ Rt W') ∨ (e = .returned (.bool false) ∧ ∃ c, Rx c W') := by
  subst hrec
  have hy := run_yield (P := P) (args := args) hb.1 hs
  refine ⟨fn, _, assign, body, hy, roundIn_of_wpIn trivial ?_⟩
  refine wpIn_mono h ?_
  rintro e a1 W1 hp
  cases e with
  | normal =>
    obtain ⟨hl, hbody⟩ := hp
    refine ⟨_, run_beginRound hl rfl, ?_⟩
    refine wpIn_mono hbody ?_
    rintro e2 a2 W2 hq
    cases e2 with
    | normal => obtain ⟨h1, h2⟩ := hq; exact ⟨_, _, run_endRound none h1, .inl ⟨rfl, h2⟩⟩
    | ret => obtain ⟨h1, h2⟩ := hq; exact ⟨_, _, run_endRound (some .ret) h1, .inr ⟨rfl, _, h2⟩⟩
    | exit id => obtain ⟨h1, h2⟩ := hq; exact ⟨_, _, run_endRound (some (.exit id)) h1, .inr ⟨rfl, _, h2⟩⟩
    | goto t => exact hq.elim
    | panic c => exact hq.elim
    | outgrown => exact hq.elim
  | exit id => exact hp.elim
  | goto t => exact hp.elim
  | ret => exact hp.elim
  | panic c => exact hp.elim
  | outgrown => exact hp.elim

theorem range_stmtX {P : Program} {g : Operand} {ps : Array Tmp} {assign body : Code} {Q : Exit → Act → World → Prop} {a : Act} {w : World} {gf : Nat} {lb : Array Value} {n : Nat} {I : World → Prop} {X : Code → World → Prop}
    (hg : a.eval g = .func (.func gf) #[] lb) (eg : ∀ args w, (callFunc gf args).run P w = .ok (.enter gf args) w)
    (hit : ∀ fn rec, rec = lrec fn a.tmps ps assign body w.heap.size → CallsIn Fence.wide (n - 1) P gf (#[.func (.yield (w.heap.size + 1)) #[] #[]] ++ lb) ((w.alloc (.deferred (some []))).alloc (.loop (rec .ready none))) fun e W => (∃ v, e = .returned v) ∧
      ((I W ∧ Book W w.heap.size (rec .ready none)) ∨ (∃ c, X c W ∧ Book W w.heap.size (rec .done (some c)))))
    (hdone : ∀ (W : World) (r r' : Loop), I W → Book W w.heap.size r → Q .normal { a with defers := { target := .collected w.heap.size, args := #[] } :: a.defers } (W.putObj (w.heap.size + 1) (.loop r')))
    (hstop : ∀ (W : World) (c : Code) (r r' : Loop), X c W → Book W w.heap.size r → c.wpIn Fence.wide n P Q { a with defers := { target := .collected w.heap.size, args := #[] } :: a.defers } (W.putObj (w.heap.size + 1) (.loop r'))) :
    (Code.rangeFunc g ps assign body).wpIn Fence.wide n P Q a w := by
  refine wpIn_rangeFunc ?_
  intro fn hfn
  obtain ⟨W1, hW1⟩ : ∃ W1, (w.alloc (.deferred (some []))).alloc (.loop (lrec fn a.tmps ps assign body w.heap.size .ready none)) = W1 := ⟨_, rfl⟩
  have hit' := hit fn _ rfl
  rw [hW1] at hit'
  refine ⟨w.heap.size + 1, [{ target := .collected w.heap.size, args := #[] }], W1, { target := .fn (.func gf) lb, args := #[.func (.yield (w.heap.size + 1)) #[] #[]] }, W1, gf,
    #[.func (.yield (w.heap.size + 1)) #[] #[]] ++ lb, W1, ?_, ?_, fun _ _ => trivial, ?_, (fun h => by cases h), ?_⟩
  · rw [← hW1]; exact run_enterLoop_outer _ _ _ _ _
  · simp only [resolve, hg]
    simp [go_sem]
  · simp [invoke, go_sem, eg]
  · refine hit'.mono ?_
    rintro e W ⟨⟨v, rfl⟩, (⟨hi, hl, hk⟩ | ⟨c, hi, hl, hk⟩)⟩
    · exact ⟨none, _, run_endLoop hl (by simp [lrec]), hdone _ _ _ hi ⟨hl, hk⟩⟩
    · exact ⟨some c, _, run_endLoop hl (by simp [lrec]), hstop _ c _ _ hi ⟨hl, hk⟩⟩

attribute [local go_sem] Oper.semAt_some

set_option maxHeartbeats 4000000 in
set_option maxRecDepth 100000 in
/-- The iterator over the sectors of a row. -/
theorem pieces1_any (l bl bd : Nat) (Z : Nat → Prop) (d : Nat) (m : Dev) (from_ n : Nat) (I : Nat → World → Prop) (X : Nat → World → Prop)
    (hn : from_ + n ≤ m.n) (hm : m.n ≤ 4096) (hp : m.power = true)
    (hcells : ∀ i W, I i W → W.cell? ⟨bl, 0, none⟩ = some (.int .i64 (from_ : Int)) ∧ W.cell? ⟨bl, 1, none⟩ = some (.int .i64 ((from_ + n : Nat) : Int)) ∧ W.cell? ⟨bd, 0, none⟩ = some (.pointer (some ⟨d, 0, none⟩)) ∧ DevAt W Z d m)
    (hbelow : ∀ i W W', I i W → Below W.heap.size W W' → I i W')
    (hyield : ∀ i W g (h : i < n), I i W → W.rangeAt g 0 (bv (sector.look m (from_ + i))) → g < W.heap.size → YieldAt Fence.wide 0 Tryd.prog l #[PcV g (pcOf (sector.look m (from_ + i)))] W fun e W' => (e = .returned (.bool true) ∧ I (i + 1) W') ∨ (e = .returned (.bool false) ∧ X i W'))
    (W : World) (h0 : I 0 W) :
    CallsIn Fence.wide 0 Tryd.prog 50 #[.func (.yield l) #[] #[], .pointer (some ⟨bl, 0, none⟩), .pointer (some ⟨bd, 0, none⟩)] W fun e W' => (∃ v, e = .returned v) ∧ (I n W' ∨ ∃ i, i < n ∧ X i W') := by
  obtain ⟨c1, c2, c3, _⟩ := hcells 0 W h0
  have HC := Lib.hid hcells; have HBl := Lib.hid hbelow; have HY := Lib.hid hyield; have HI0 := Lib.hid h0; have HP := Lib.hid hp; have HNn := Lib.hid hn; have HM := Lib.hid hm
  clear hcells hbelow hyield h0 hp hn hm
  refine callsIn_of_wp Tryd.func50 rfl trivial ?_ rfl
  simp only [Tryd.ntmps50, List.size_toArray, List.length_cons, List.length_nil, Nat.reduceAdd, Nat.reduceSub, Array.replicate_succ, Array.replicate_zero, List.push_toArray, List.append_toArray, List.nil_append, List.cons_append]
  gi_wp2
  clear c1 c2 c3
  gi_loopw [4] (fun v wr => ∃ k : Nat, k ≤ n ∧ v = .int .i64 ((from_ + k : Nat) : Int) ∧ I k wr) (fun v _ => from_ + n - (intOf v).toNat)
  case atStart => exact ⟨0, by omega, rfl, HI0.out⟩
  case round =>
    obtain ⟨k, hk, rfl, hi⟩ := hrel
    obtain ⟨c1, c2, c3, hd⟩ := HC.out k wr hi
    by_cases hlt : k < n
    · have hlt' : ((from_ + k : Nat) : Int) < ((from_ + n : Nat) : Int) := by omega
      have hkn : from_ + k < m.n := by have := HNn.out; omega
      have HR := Lib.hid (Read_ok wr Z d m hd HP.out (from_ + k) hkn)
      have hkb : from_ + k ≤ 4096 := by have := HM.out; omega
      have hlk := sector.look_len hd.1 (k := from_ + k) hkn
      have HLk := Lib.hid hlk
      have HL8 := Lib.hid (look_lt hd.1 hkn)
      have HI := Lib.hid hi
      obtain ⟨K, hK⟩ : ∃ K, from_ + k = K := ⟨_, rfl⟩
      have HK := Lib.hid hK
      rw [hK] at hlt' HR hkb HLk HL8 ⊢
      clear hd hi hlk hkn hK
      gi_wp2_with (refine ⟨trivial, rfl, ?_⟩; gi_at_call 51; refine (callsIn_wide.2 HR.out).mono ?_; rintro e w1 ⟨g, rfl, hg, hge, hb1⟩)
      have HG := Lib.hid (range_of_block (cs := bv (sector.look m K)) hg)
      have HGl := Lib.hid (Array.getElem?_eq_some_iff.1 hg).1
      have HI1 := Lib.hid (HBl.out k wr _ HI.out hb1)
      clear hg hb1 c1 c2 c3
      gi_wp2_with (refine ⟨trivial, rfl, ?_⟩; gi_at_call 52; refine (callsIn_wide.2 (pieceOf_any g (sector.look m K) w1 HG.out HLk.out HL8.out)).mono ?_; rintro e w2 ⟨rfl, hb2⟩; have HI2 := Lib.hid (HBl.out k w1 _ HI1.out hb2); have hG2 : w2.rangeAt g 0 (bv (sector.look m (from_ + k))) := (by rw [HK.out]; exact fun j v hv => (hb2.cell (p := ⟨g, 0 + j, none⟩) HGl.out).trans (HG.out j v hv)); obtain ⟨fn, tmps, asg, bdy, hy, hYr⟩ := HY.out k w2 g hlt HI2.out hG2 (Nat.lt_of_lt_of_le HGl.out hb2.size); rw [HK.out] at hy; have HYr := Lib.hid hYr; clear hb2 hG2 hYr)
      refine ⟨rfl, HYr.out.mono ?_⟩
      rintro e W3 (⟨rfl, hI⟩ | ⟨rfl, hX⟩)
      · have HI3 := Lib.hid hI
        clear hI hy
        gi_wp2
        go_roundw
        case rel => exact ⟨k + 1, by omega, by have := HK.out; go_num, HI3.out⟩
        case measure => have := HK.out; simp [intOf]; omega
      · have HX3 := Lib.hid hX
        clear hX hy
        gi_wp2
        refine bodyPost_ret (results_none rfl _ _ _) rfl ?_
        exact ⟨⟨_, rfl⟩, .inr ⟨k, hlt, HX3.out⟩⟩
    · obtain rfl : k = n := by omega
      have HI := Lib.hid hi
      clear hi hd
      gi_wp2
      go_end0
      exact ⟨⟨_, rfl⟩, .inl HI.out⟩

end Go.Proofs.YtkhghkklekjdaaaDoor.journal
