/- Pick: the value of the latest of the promises that count. -/
import Derived.Test.YtcofmfjhgbihkaaRows
import Derived.Test.YtcofmfjhgbihkaaLeadIter
import Derived.Test.YtcofmfjhgbihkaaLeadRes
import Derived.BigFrameIn
import Derived.Sort.CutIn
import Derived.RegionIn
import Derived.Deep.MidRow
namespace Go.Proofs.Ytcofmfjhgbihkaa.crush
open Go.RowKit
open Go.Proofs.Ytcofmfjhgbihkaa.kit Go.Proofs.Ytcofmfjhgbihkaa.own Go.Proofs.Ytcofmfjhgbihkaa.iter
set_option linter.unusedVariables false
set_option linter.unusedSimpArgs false
attribute [local go_sem] Oper.semAt_some

/-- A struct stored into its box, inside a fence. -/
theorem wpListIn_store_mid {F : Fence} {n : Nat} {P : Program} {ops : Array Oper} {rest : List Oper} {op : Oper} {a : Act} {w : World} {Q : Exit → Act → World → Prop} (hgd : op.guard = none) (ty : TypeId) (x y : Operand) (ho : op.op = .store ty x y)
    (b o : Nat) (cells : Array Value) (hx : a.eval x = .pointer (some ⟨b, o, none⟩)) (hy : a.eval y = .agg cells)
    (ht : w.there b o cells.size) (hi : (P.info? ty).map (·.size) = some cells.size) (h1 : cells.all (·.oneCell') = true)
    (h : wpListIn F n P ops Q rest (a.put op.dst undef) (w.setCells b o cells.toList)) : wpListIn F n P ops Q (op :: rest) a w := by
  refine wpListIn_step fun K hK => ?_
  rw [if_pos (show Region.wanted op (yielded ops a.tmps) = true by simp [Region.wanted, hgd])]
  refine ⟨fun f hf => ?_, ?_⟩
  · simp [Oper.about, ho] at hf
  · rw [Oper.semAt_eq _ _ _ (fun c hc => by rw [ho] at hc; cases hc)]
    simp only [execOp, ho, hx, hy, Instr.storeAt, Instr.sureAddr, Sem.run_bind, Sem.run_pure, Result.andThen_ok, run_storeVar_mid w b o ty cells ht hi h1]
    exact hK _ _ h

/-- .. and loaded. -/
theorem wpListIn_load_mid {F : Fence} {n : Nat} {P : Program} {ops : Array Oper} {rest : List Oper} {op : Oper} {a : Act} {w : World} {Q : Exit → Act → World → Prop} (hgd : op.guard = none) (ty : TypeId) (x : Operand) (ho : op.op = .load ty x)
    (v : Value) (hrun : ((Instr.loadAt ty (a.eval x)) : Sem Value).run P w = .ok v w)
    (h : wpListIn F n P ops Q rest (a.put op.dst v) w) : wpListIn F n P ops Q (op :: rest) a w := by
  refine wpListIn_step fun K hK => ?_
  rw [if_pos (show Region.wanted op (yielded ops a.tmps) = true by simp [Region.wanted, hgd])]
  refine ⟨fun f hf => ?_, ?_⟩
  · simp [Oper.about, ho] at hf
  · rw [Oper.semAt_eq _ _ _ (fun c hc => by rw [ho] at hc; cases hc)]
    simp only [execOp, ho, Sem.run_bind, hrun, Result.andThen_ok, Sem.run_pure]
    exact hK _ _ h
/-- A struct read from its box. -/
theorem run_load_prom (w : World) (Z : Nat) (z : PromV) (h : w.rangeAt Z 0 [.int .i64 z.mon, .int .i64 z.n, .bool z.has, .int .i64 z.ar, .int .i64 z.am, .string z.val]) : (Instr.loadAt 53 (.pointer (some ⟨Z, 0, none⟩))).run Try.prog w = .ok (.agg #[.int .i64 z.mon, .int .i64 z.n, .bool z.has, .int .i64 z.ar, .int .i64 z.am, .string z.val]) w :=
  run_loadAt_mid w Z 0 53 _ _ h Try.underlying53 rfl sizePr

def stepP (n : Int) (b p : PromV) : PromV := if p.n = n ∧ p.has = true ∧ (b.has = false ∨ laterB p.ar p.am b.ar b.am = true) then p else b
theorem bestP_snoc (n : Int) (p : PromV) : ∀ (l : List PromV) (b : PromV), bestP n b (l ++ [p]) = stepP n (bestP n b l) p
  | [], b => rfl
  | q :: l, b => by rw [List.cons_append, bestP, bestP_snoc n p l, bestP]
theorem bestP_take {n : Int} {b : PromV} {xs : List PromV} {k : Nat} (h : k < xs.length) : bestP n b (xs.take (k + 1)) = stepP n (bestP n b (xs.take k)) xs[k] := by
  rw [List.take_succ_eq_append_getElem h, bestP_snoc]
/-- The box of a promise. -/
def PrBox (W : World) (M : Nat) (p : PromV) : Prop := W.heap[M]? = some (.cells #[.int .i64 p.mon, .int .i64 p.n, .bool p.has, .int .i64 p.ar, .int .i64 p.am, .string p.val] 53 (0, 0))
theorem PrBox.lt {W : World} {M : Nat} {p : PromV} (h : PrBox W M p) : M < W.heap.size := (Array.getElem?_eq_some_iff.1 h).1
theorem PrBox.cells {W : World} {M : Nat} {p : PromV} (h : PrBox W M p) : W.cell? ⟨M, 0, none⟩ = some (.int .i64 p.mon) ∧ W.cell? ⟨M, 1, none⟩ = some (.int .i64 p.n) ∧ W.cell? ⟨M, 2, none⟩ = some (.bool p.has) ∧ W.cell? ⟨M, 3, none⟩ = some (.int .i64 p.ar) ∧ W.cell? ⟨M, 4, none⟩ = some (.int .i64 p.am) ∧ W.cell? ⟨M, 5, none⟩ = some (.string p.val) := by
  unfold PrBox at h
  refine ⟨?_, ?_, ?_, ?_, ?_, ?_⟩ <;> simp [World.cell?, h]
theorem PrBox.there {W : World} {M : Nat} {p : PromV} (h : PrBox W M p) : W.there M 0 6 := by
  unfold PrBox at h
  intro j hj
  match j, hj with
  | 0, _ => simp [World.cell?, World.frozen?, h]
  | 1, _ => simp [World.cell?, World.frozen?, h]
  | 2, _ => simp [World.cell?, World.frozen?, h]
  | 3, _ => simp [World.cell?, World.frozen?, h]
  | 4, _ => simp [World.cell?, World.frozen?, h]
  | 5, _ => simp [World.cell?, World.frozen?, h]
theorem PrBox.range {W : World} {M : Nat} {p : PromV} (h : PrBox W M p) : W.rangeAt M 0 [.int .i64 p.mon, .int .i64 p.n, .bool p.has, .int .i64 p.ar, .int .i64 p.am, .string p.val] := cellsL (l := [.int .i64 p.mon, .int .i64 p.n, .bool p.has, .int .i64 p.ar, .int .i64 p.am, .string p.val]) h
theorem PrBox.put {W : World} {M : Nat} {p : PromV} (h : PrBox W M p) (q : PromV) : PrBox (W.setCells M 0 [.int .i64 q.mon, .int .i64 q.n, .bool q.has, .int .i64 q.ar, .int .i64 q.am, .string q.val]) M q := heap_setCells M 53 [.int .i64 q.mon, .int .i64 q.n, .bool q.has, .int .i64 q.ar, .int .i64 q.am, .string q.val] 0 W _ h
/-- The boxes of Pick's loop. -/
structure PkB (w : World) (N : Nat) (src : Value) (n : Int) (bl bc D : Nat) (best : PromV) (lp : Obj) (W : World) : Prop where
  hN : N = w.heap.size
  bel : Below w.heap.size w W
  bb : PrBox W (N + 1) best
  hl : Box W bl 24 src
  hc : Box W bc 2 (.int .i64 n)
  df : W.heap[D]? = some (.deferred (some []))
  lp : W.heap[D + 1]? = some lp
  hbl : N + 1 < bl
  hbc : N + 1 < bc
  hD : N + 1 < D
section
variable {w : World} {N : Nat} {src : Value} {n : Int} {bl bc D : Nat} {best : PromV} {lp : Obj} {lr : Loop} {W W' : World}
theorem PkB.lt (h : PkB w N src n bl bc D best lp W) : D + 1 < W.heap.size := (Array.getElem?_eq_some_iff.1 h.lp).1
theorem PkB.keep (h : PkB w N src n bl bc D best lp W) (hb : Below W.heap.size W W') : PkB w N src n bl bc D best lp W' := by
  have hl := h.lt
  exact ⟨h.hN, h.bel.trans (hb.mono h.bel.size), (hb.block _ h.bb.lt).trans h.bb, (hb.block _ (box_lt h.hl)).trans h.hl, (hb.block _ (box_lt h.hc)).trans h.hc, (hb.block _ (by omega)).trans h.df, (hb.block _ (by omega)).trans h.lp, h.hbl, h.hbc, h.hD⟩
theorem PkB.putLp (h : PkB w N src n bl bc D best (.loop lr) W) (o : Obj) : PkB w N src n bl bc D best o (W.putObj (D + 1) o) := by
  have hne : ∀ k c t fz, W.heap[k]? = some (Obj.cells c t fz) → k ≠ D + 1 := fun k c t fz e hk => by rw [hk, h.lp] at e; cases e
  exact ⟨h.hN, below_putObj h.bel _ _ (by have h1 := h.hD; have h2 := h.hN; omega), (World.putObj_heap_other (hne _ _ _ _ h.bb)).trans h.bb, (World.putObj_heap_other (hne _ _ _ _ h.hl)).trans h.hl, (World.putObj_heap_other (hne _ _ _ _ h.hc)).trans h.hc,
    (World.putObj_heap_other (by omega)).trans h.df, World.putObj_heap_same h.lt, h.hbl, h.hbc, h.hD⟩
theorem PkB.lay (h : PkB w N src n bl bc D best lp W) (q : PromV) : PkB w N src n bl bc D q lp (W.setCells (N + 1) 0 [.int .i64 q.mon, .int .i64 q.n, .bool q.has, .int .i64 q.ar, .int .i64 q.am, .string q.val]) := by
  have h1 := h.hbl; have h2 := h.hbc; have h3 := h.hD; have h4 := h.hN
  exact ⟨h.hN, Below.setCells h.bel (by omega) 0 _, h.bb.put q, (heap_setCells_other (N + 1) _ 0 W _ (by omega)).trans h.hl, (heap_setCells_other (N + 1) _ 0 W _ (by omega)).trans h.hc, (heap_setCells_other (N + 1) _ 0 W _ (by omega)).trans h.df, (heap_setCells_other (N + 1) _ 0 W _ (by omega)).trans h.lp, h1, h2, h3⟩
end
/-- What 'counting' hands back. -/
def CntS (w : World) (v : Value) (n : Int) (e : Ending) (w' : World) : Prop := ∃ bl bc, e = .returned (.func (.func 105) #[] #[.pointer (some ⟨bl, 0, none⟩), .pointer (some ⟨bc, 0, none⟩)]) ∧ Box w' bl 24 v ∧ Box w' bc 2 (.int .i64 n) ∧ w.heap.size ≤ bl ∧ w.heap.size ≤ bc ∧ Below w.heap.size w w'
set_option maxHeartbeats 8000000 in
theorem counting_any (a : Option Addr) (m c : Nat) (n : Int) (w : World) : Calls Try.prog 73 #[.slice a m c, .int .i64 n] w (CntS w (.slice a m c) n) := by
  have HB := Lib.hid ((below_new w (.cells #[.slice a m c] 24)).alloc (by simp) (.cells #[.int .i64 n] 2))
  have HC := Lib.hid (two_atL w (.cells #[.slice a m c] 24) (.cells #[.int .i64 n] 2))
  go_enter Try.func73, Try.ntmps73
  go_wp2
  go_ret
  exact ⟨_, _, rfl, HC.out.1, HC.out.2, Nat.le_refl _, Nat.le_succ _, HB.out⟩

set_option maxHeartbeats 16000000 in
set_option maxRecDepth 100000 in
theorem Pick_any (v : Value) (l : LeadV) (n : Int) (w : World) (h : LdR w v l) : Calls Try.prog 33 #[v, .int .i64 n] w fun e w' => e = .returned (.tuple #[.string (bestP n noP l.ps).val, .bool (bestP n noP l.ps).has]) ∧ Below w.heap.size w w' := by
  obtain ⟨s, t, rfl, hs, ht⟩ := h
  have HSl := Lib.hid (fun u (hu : Below w.heap.size w u) => hs.keep hu)
  obtain ⟨sa, sc, rfl⟩ := hs.slice
  obtain ⟨ta, tc, rfl⟩ := ht.slice
  obtain ⟨T, hT⟩ : ∃ T, bestP n noP l.ps = T := ⟨_, rfl⟩
  have HT := Lib.hid hT
  rw [hT]
  have HLt := Lib.hid (fun r m r' m' u => Later_any r m r' m' u)
  clear hs ht hT
  have h2 := two_atL w (.cells #[.int .i64 l.st, .int .i64 l.r, .int .i64 l.m, .slice sa l.ps.length sc, .bool l.has, .string l.val, .slice ta l.ak.length tc] 27) (.cells #[.int .i64 0, .int .i64 0, .bool false, .int .i64 0, .int .i64 0, .string { data := #[] }] 53)
  have hB : Below w.heap.size w ((w.alloc (.cells #[.int .i64 l.st, .int .i64 l.r, .int .i64 l.m, .slice sa l.ps.length sc, .bool l.has, .string l.val, .slice ta l.ak.length tc] 27)).alloc (.cells #[.int .i64 0, .int .i64 0, .bool false, .int .i64 0, .int .i64 0, .string { data := #[] }] 53)) := (below_new w _).alloc (by simp) _
  have H2 := Lib.hid h2; have HB := Lib.hid hB
  clear h2 hB
  unfold LeadV.agg
  refine (callsIn_wide (n := 0)).1 ?_
  refine callsIn_of_wp_marks Try.func33 rfl trivial ?_ rfl
  simp only [Try.ntmps33, List.size_toArray, List.length_cons, List.length_nil, Nat.reduceAdd, Nat.reduceSub, Array.replicate_succ, Array.replicate_zero, List.push_toArray, List.append_toArray, List.nil_append, List.cons_append]
  refine wpIn_wide.2 ?_
  go_upto_region 2 with fail
  generalize ((w.alloc _).alloc _) = W at H2 HB ⊢
  have c3 : W.cell? ⟨w.heap.size, 3, none⟩ = some (.slice sa l.ps.length sc) := by simp [World.cell?, H2.out.1]
  have HSz : Hid (w.heap.size + 1 < W.heap.size) := Lib.hid (Array.getElem?_eq_some_iff.1 H2.out.2).1
  have HPb : Hid (PrBox W (w.heap.size + 1) noP) := Lib.hid H2.out.2
  go_wp2_with (go_at_call 73; refine (counting_any _ _ _ _ _).mono ?_; rintro e w8 ⟨bl, bc, rfl, hbl, hbc, hll, hlc, hb⟩; have HX8 := Lib.hid hb; have HBl := Lib.hid hbl; have HBc := Lib.hid hbc; have HLl := Lib.hid (Nat.lt_of_lt_of_le HSz.out hll); have HLc := Lib.hid (Nat.lt_of_lt_of_le HSz.out hlc); clear hb hbl hbc hll hlc)
  obtain ⟨D, hD⟩ : ∃ D, w8.heap.size = D := ⟨_, rfl⟩
  have HSt : Hid (∀ lp W', Below w8.heap.size w8 W' → W'.heap[D]? = some (.deferred (some [])) → W'.heap[D + 1]? = some lp → PkB w w.heap.size (.slice sa l.ps.length sc) n bl bc D noP lp W') := Lib.hid (fun lp W' hb hd hl => by
    have hb2 : Below W.heap.size W W' := HX8.out.trans (hb.mono HX8.out.size)
    have hlt := HSz.out
    refine ⟨rfl, HB.out.trans (hb2.mono HB.out.size), (hb2.block _ hlt).trans HPb.out, (hb.block _ (box_lt HBl.out)).trans HBl.out, (hb.block _ (box_lt HBc.out)).trans HBc.out, hd, hl, HLl.out, HLc.out, ?_⟩
    have := HX8.out.size
    omega)
  clear c3
  refine (wpIn_wide (n := 0)).1 ?_
  refine range_stmtX (n := 0) (gf := 105) (lb := #[.pointer (some ⟨bl, 0, none⟩), .pointer (some ⟨bc, 0, none⟩)])
    (I := fun W => ∃ lr, PkB w w.heap.size (.slice sa l.ps.length sc) n bl bc D T (.loop lr) W) (X := fun c W => False)
    rfl (enters_of Try.func105 (by kernel_rfl) rfl) ?hit ?hdone ?hstop
  case hit =>
    intro fn rec hrec
    simp only [hD] at hrec ⊢
    refine (counting1_any (D + 1) bl bc l.ps (.slice sa l.ps.length sc) n (I := fun k W => PkB w w.heap.size (.slice sa l.ps.length sc) n bl bc D (bestP n noP (l.ps.take k)) (.loop (rec .ready none)) W) ?cells ?below ?skip ?yield _ ?start).mono ?post
    case cells => exact fun i W h => ⟨box_cell h.hl, box_cell h.hc, HSl.out W h.bel⟩
    case below => exact fun i W W' h hb => h.keep hb
    case skip =>
      intro i W h hn hp
      rw [bestP_take h, stepP, if_neg (fun hc => hn ⟨hc.1, hc.2.1⟩)]
      exact hp
    case start =>
      have b1 : Below w8.heap.size w8 ((w8.alloc (.deferred (some []))).alloc (.loop (rec .ready none))) := ((Below.refl _ w8).alloc (Nat.le_refl _) _).alloc (by simp) _
      have h2 := two_atL w8 (.deferred (some [])) (.loop (rec .ready none))
      rw [hD] at h2
      rw [List.take_zero]
      exact HSt.out _ _ b1 h2.1 h2.2
    case post =>
      rintro e W ⟨hv, h1⟩
      rw [List.take_length, HT.out] at h1
      exact ⟨hv, .inl ⟨⟨_, h1⟩, h1.lp, h1.df⟩⟩
    case yield =>
      intro k W hk hn hh hsb
      refine yield_roundX hrec (Rt := fun W' => PkB w w.heap.size (.slice sa l.ps.length sc) n bl bc D (bestP n noP (l.ps.take (k + 1))) (.loop (rec .ready none)) W') (Rx := fun c W' => False) ⟨hsb.lp, hsb.df⟩ rfl ?_ |>.mono ?_
      · rw [bestP_take hk]
        generalize bestP n noP (l.ps.take k) = b at hsb ⊢
        obtain ⟨z, hz⟩ : ∃ z, l.ps[k] = z := ⟨_, rfl⟩
        rw [hz] at hn hh ⊢
        obtain ⟨R, hR⟩ : ∃ R, stepP n b z = R := ⟨_, rfl⟩
        have HSy : Hid (b.has = false ∨ laterB z.ar z.am b.ar b.am = true → R = z) := Lib.hid (fun h => by rw [← hR]; unfold stepP; rw [if_pos ⟨hn, hh, h⟩])
        have HSn : Hid (¬ (b.has = false ∨ laterB z.ar z.am b.ar b.am = true) → R = b) := Lib.hid (fun h => by rw [← hR]; unfold stepP; rw [if_neg (fun hc => h hc.2.2)])
        rw [hR]
        have hb1 := below_new W (.cells #[.int .i64 z.mon, .int .i64 z.n, .bool z.has, .int .i64 z.ar, .int .i64 z.am, .string z.val] 53)
        have hs1 := hsb.keep hb1
        have hz1 : PrBox (W.alloc (.cells #[.int .i64 z.mon, .int .i64 z.n, .bool z.has, .int .i64 z.ar, .int .i64 z.am, .string z.val] 53)) W.heap.size z := alloc_at W _
        have hZ : D + 1 ≠ W.heap.size := by have := hsb.lt; omega
        have HS1 := Lib.hid hs1; have HZ1 := Lib.hid hz1; have HZn := Lib.hid hZ
        clear hrec hsb hk hz hn hh hR hb1 hs1 hz1 hZ
        unfold prc
        gi_wp2
        refine ⟨HS1.out.lp, ?_⟩
        have hg5 := HS1.out.putLp (.loop (rec .busy none))
        have hz5 : PrBox ((W.alloc (.cells #[.int .i64 z.mon, .int .i64 z.n, .bool z.has, .int .i64 z.ar, .int .i64 z.am, .string z.val] 53)).putObj (D + 1) (.loop (rec .busy none))) W.heap.size z := (World.putObj_heap_other HZn.out.symm).trans HZ1.out
        clear HS1 HZ1 HZn
        generalize (W.alloc _).putObj (D + 1) (.loop (rec .busy none)) = W5 at hg5 hz5 ⊢
        generalize W.heap.size = Z at hz5 ⊢
        obtain ⟨k0, k1, k2, k3, k4, k5⟩ := hg5.bb.cells
        obtain ⟨z0, z1, z2, z3, z4, z5⟩ := hz5.cells
        have HG5 := Lib.hid hg5; have HZ5 := Lib.hid hz5
        clear hg5 hz5
        obtain ⟨bq, hbq⟩ : ∃ q, b.has = q := ⟨_, rfl⟩
        rw [hbq] at k2
        cases bq with
        | false =>
          obtain rfl := HSy.out (.inl hbq)
          gi_wp2
          refine ⟨trivial, ?_⟩
          rename_i _ K1 hK1 K2 hK2
          refine hK2 _ _ ?_
          clear hK2
          gi_upto_region 5 with fail
          refine wpIn_region_list ?_
          refine wpListIn_load_mid rfl 53 _ rfl _ (run_load_prom _ Z R HZ5.out.range) ?_
          refine wpListIn_store_mid rfl 53 _ _ rfl (w.heap.size + 1) 0 #[.int .i64 R.mon, .int .i64 R.n, .bool R.has, .int .i64 R.ar, .int .i64 R.am, .string R.val] rfl rfl HG5.out.bb.there sizePr (by simp [Value.oneCell']) ?_
          refine wpListIn_nil ?_
          have HG7 := Lib.hid (HG5.out.lay R)
          exact ⟨HG7.out.lp, HG7.out.putLp _⟩
        | true =>
          have HLz := Lib.hid (fun u => HLt.out z.ar z.am b.ar b.am u)
          obtain ⟨lq, hlq⟩ : ∃ q, laterB z.ar z.am b.ar b.am = q := ⟨_, rfl⟩
          rw [hlq] at HLz HSy HSn
          cases lq with
          | false =>
            obtain rfl := HSn.out (by simp [hbq])
            gi_wp2_with (refine ⟨trivial, rfl, ?_⟩; gi_at_call 67; refine (callsIn_wide.2 (HLz.out _)).mono ?_; rintro e w6 ⟨rfl, hb⟩; have HG6 := Lib.hid (HG5.out.keep hb); clear hb k0 k1 k2 k3 k4 k5 z0 z1 z2 z3 z4 z5)
            exact ⟨HG6.out.lp, HG6.out.putLp _⟩
          | true =>
            obtain rfl := HSy.out (.inr rfl)
            gi_upto_region 5 with (refine ⟨trivial, rfl, ?_⟩; gi_at_call 67; refine (callsIn_wide.2 (HLz.out _)).mono ?_; rintro e w6 ⟨rfl, hb⟩; have HG6 := Lib.hid (HG5.out.keep hb); have HZ6 : Hid (PrBox w6 Z R) := Lib.hid ((hb.block _ HZ5.out.lt).trans HZ5.out); clear hb k0 k1 k2 k3 k4 k5 z0 z1 z2 z3 z4 z5)
            refine wpIn_region_list ?_
            refine wpListIn_load_mid rfl 53 _ rfl _ (run_load_prom _ Z R HZ6.out.range) ?_
            refine wpListIn_store_mid rfl 53 _ _ rfl (w.heap.size + 1) 0 #[.int .i64 R.mon, .int .i64 R.n, .bool R.has, .int .i64 R.ar, .int .i64 R.am, .string R.val] rfl rfl HG6.out.bb.there sizePr (by simp [Value.oneCell']) ?_
            refine wpListIn_nil ?_
            have HG7 := Lib.hid (HG6.out.lay R)
            exact ⟨HG7.out.lp, HG7.out.putLp _⟩
      · rintro e W' (⟨he, h⟩ | ⟨he, c, h⟩)
        · exact ⟨he, h⟩
        · exact h.elim
  case hdone =>
    rintro W r r' ⟨lr, hgb⟩ hb
    simp only [hD]
    have hg2 := hgb.putLp (.loop r')
    clear hgb hb
    generalize W.putObj (D + 1) (.loop r') = W3 at hg2 ⊢
    have HG3 := Lib.hid (hg2.keep (below_drew (Below.refl _ _)))
    clear hg2
    obtain ⟨k0, k1, k2, k3, k4, k5⟩ := HG3.out.bb.cells
    go_upto_region 6 with fail
    go_region
    go_wp2
    refine ⟨by simp, .inl ⟨_, _, rfl, run_takeDeferred HG3.out.df, ?_⟩⟩
    refine ⟨.tuple #[.string T.val, .bool T.has], (results_tmp2 (t := 4) (u := 5) rfl _ _ _).trans rfl, rfl, below_putObj HG3.out.bel D (.deferred none) (by have := HG3.out.hD; omega)⟩
  case hstop =>
    rintro W c r r' h hb
    exact h.elim
end Go.Proofs.Ytcofmfjhgbihkaa.crush
