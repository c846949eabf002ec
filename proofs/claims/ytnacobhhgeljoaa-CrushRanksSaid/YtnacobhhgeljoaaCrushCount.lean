/- How often each is chosen, by the program. -/
import Derived.Test.YtnacobhhgeljoaaRows
import Derived.Test.YtnacobhhgeljoaaCrushAsk
namespace Go.Proofs.Ytnacobhhgeljoaa.crush
open Go.RowKit
open Go.Proofs.Ytnacobhhgeljoaa.kit Go.Proofs.Ytnacobhhgeljoaa.own Go.Proofs.Ytnacobhhgeljoaa.iter Go.Proofs.Ytnacobhhgeljoaa.heldin
set_option linter.unusedVariables false
attribute [local go_sem] Oper.semAt_some

theorem flat_ic (xs : List Int) : xs.flatMap ic = xs.map (Value.int .i64) := by
  induction xs with
  | nil => rfl
  | cons x r ih => rw [List.flatMap_cons, ih]; rfl
theorem made_ints (w : World) (n : Nat) (hn : n ≤ 65536) : ∃ w1, (Instr.makeSlice 30 (.int .i64 (n : Nat)) (.int .i64 (n : Nat))).run Try.prog w = .ok (.slice (some ⟨w.heap.size, 0, none⟩) n n) w1 ∧
    OwnAt ic 1 3 w1 w.heap.size n (List.replicate n 0) ∧ Below w.heap.size w w1 := by
  obtain ⟨i0, hi, hz0, hz1, hz2⟩ := info_parts infoInt
  obtain ⟨w1, h1, h2, h3⟩ := run_makeSlice_full (P := Try.prog) w w.heap.size 30 3 i0 (.int .i64 0) 1 Try.underlying30 hi hz0 hz1 .i64 .i64 n (by omega) (by rw [hz2]; omega) (by unfold maxLen; omega) (Nat.le_refl _)
  have e : (Value.int .i64 0).cells = #[.int .i64 0] := rfl
  rw [e, toList_madeCells_one, Nat.mul_one] at h2
  refine ⟨w1, h1, ?_, ⟨h3.os, h3.tape, h3.output, h3.size, fun k hk => h3.block k hk (by simp)⟩⟩
  have ho : Own ic 1 3 w1 w.heap.size (.slice (some ⟨w.heap.size, 0, none⟩) n n) (List.replicate n 0) := by
    unfold Own
    rw [List.length_replicate, flat_ic, List.map_replicate]
    exact h2
  rcases ho.at with ⟨h, _⟩ | ⟨g, cap, h, _, hat⟩
  · cases h
  · simp at h
    obtain ⟨h1, h2⟩ := h
    rw [← h1, ← h2] at hat
    exact hat
theorem OwnAt.set1 {e g cap : Nat} {w : World} {xs : List Int} (h : OwnAt ic 1 e w g cap xs) (i : Nat) (hi : i < xs.length) (x : Int) : OwnAt ic 1 e (w.setCell ⟨g, i, none⟩ (.int .i64 x)) g cap (xs.set i x) := by
  have := h.set ic_len (by decide) i hi x
  rw [Nat.mul_one] at this
  exact this
theorem icells_at {e g cap : Nat} {w : World} {xs : List Int} (h : OwnAt ic 1 e w g cap xs) (i : Nat) (hi : i < xs.length) : w.cell? ⟨g, i, none⟩ = some (.int .i64 xs[i]) := by
  have := icell_at (h.row ic_len i hi)
  rwa [Nat.mul_one] at this

/-- Numbers from 0 on, as the program's. -/
def ints (ns : List Nat) : List Int := ns.map fun n : Nat => (n : Int)
theorem ints_len (ns : List Nat) : (ints ns).length = ns.length := by simp [ints]

/-- The state of 'Count' ahead of a round. -/
structure NBx (N g B : Nat) (w : World) (v : Value) (L : Nat) (x : Nat) (n : Int) (lp : Obj) (ns : List Nat) (W : World) : Prop where
  bel : Below N w W
  lst : W.heap[N]? = some (Obj.cells #[v] 22 (0, 0))
  row : OwnAt ic 1 3 W g L (ints ns)
  out : W.heap[B]? = some (Obj.cells #[.slice (some ⟨g, 0, none⟩) L L] 30 (0, 0))
  fr : W.heap[B + 1]? = some (Obj.cells #[.int .u32 x] 23 (0, 0))
  nn : W.heap[B + 2]? = some (Obj.cells #[.int .i64 n] 3 (0, 0))
  df : W.heap[B + 3]? = some (.deferred (some []))
  lp : W.heap[B + 3 + 1]? = some lp
  ng : N < g
  gb : g < B
theorem NBx.keep {N g B : Nat} {w : World} {v : Value} {L x : Nat} {n : Int} {lp : Obj} {ns : List Nat} {W W' : World} (h : NBx N g B w v L x n lp ns W) (hb : Below W.heap.size W W') : NBx N g B w v L x n lp ns W' := by
  have hl := (Array.getElem?_eq_some_iff.1 h.lp).1
  have h1 := h.ng
  have h2 := h.gb
  exact ⟨h.bel.trans (hb.mono (by omega)), (hb.block _ (by omega)).trans h.lst, h.row.block (hb.block _ (by omega)), (hb.block _ (by omega)).trans h.out, (hb.block _ (by omega)).trans h.fr, (hb.block _ (by omega)).trans h.nn, (hb.block _ (by omega)).trans h.df, (hb.block _ (by omega)).trans h.lp, h1, h2⟩
theorem NBx.putLp {N g B : Nat} {w : World} {v : Value} {L x : Nat} {n : Int} {lp : Obj} {ns : List Nat} {W : World} (h : NBx N g B w v L x n lp ns W) (o : Obj) : NBx N g B w v L x n o ns (W.putObj (B + 3 + 1) o) := by
  have h1 := h.ng
  have h2 := h.gb
  exact ⟨below_putObj' h.bel _ _ (by omega), (World.putObj_heap_other (by omega)).trans h.lst, h.row.block (World.putObj_heap_other (by omega)), (World.putObj_heap_other (by omega)).trans h.out, (World.putObj_heap_other (by omega)).trans h.fr, (World.putObj_heap_other (by omega)).trans h.nn, (World.putObj_heap_other (by omega)).trans h.df, World.putObj_heap_same (Array.getElem?_eq_some_iff.1 h.lp).1, h1, h2⟩
theorem NBx.set {N g B : Nat} {w : World} {v : Value} {L x : Nat} {n : Int} {lp : Obj} {ns : List Nat} {W : World} (h : NBx N g B w v L x n lp ns W) (p : Nat) (hp : p < ns.length) (c : Nat) : NBx N g B w v L x n lp (ns.set p c) (W.setCell ⟨g, p, none⟩ (.int .i64 (c : Int))) := by
  have h1 := h.ng
  have h2 := h.gb
  have e : ints (ns.set p c) = (ints ns).set p (c : Int) := by unfold ints; rw [List.map_set]
  refine ⟨h.bel.setCell (p := ⟨g, p, none⟩) (by show N ≤ g; omega) _, (heap_setCell_other _ _ _ _ (by show N ≠ g; omega)).trans h.lst, by rw [e]; exact h.row.set1 p (by rw [ints_len]; exact hp) _, (heap_setCell_other _ _ _ _ (by show B ≠ g; omega)).trans h.out, (heap_setCell_other _ _ _ _ (by show B + 1 ≠ g; omega)).trans h.fr, (heap_setCell_other _ _ _ _ (by show B + 2 ≠ g; omega)).trans h.nn, (heap_setCell_other _ _ _ _ (by show B + 3 ≠ g; omega)).trans h.df, (heap_setCell_other _ _ _ _ (by show B + 3 + 1 ≠ g; omega)).trans h.lp, h1, h2⟩

/-- A row of numbers is handed back. -/
def NumO (w : World) (ns : List Int) (e : Ending) (w' : World) : Prop := ∃ v, e = .returned v ∧ Sl ic 1 w' v ns ∧ Below w.heap.size w w'

set_option maxHeartbeats 8000000 in
set_option maxRecDepth 100000 in
theorem Count_any (v : Value) (xs : List It) (x : Nat) (n : Int) (hx : x < 4294967296) (hlx : xs.length ≤ 65536) (w : World) (h : Sl wc 2 w v xs) :
    Calls Try.prog 17 #[v, .int .u32 x, .int .i64 n] w (NumO w (ints (cntF xs x (askN n)))) := by
  obtain ⟨hl, a, cap, rfl, -, -⟩ := id h
  have HS := Lib.hid h; have HXl := Lib.hid hx; have HLn := Lib.hid hlx
  obtain ⟨L, hL⟩ : ∃ L, xs.length = L := ⟨_, rfl⟩
  have HL := Lib.hid hL
  rw [hL] at HS hl hlx ⊢
  obtain ⟨w1, hm1, hm2, hm3⟩ := made_ints (w.alloc (.cells #[.slice a L cap] 22)) L hlx
  have HM2 := Lib.hid hm2; have HM3 := Lib.hid hm3
  clear h hx hl hL hm2 hm3 hlx
  refine (callsIn_wide (n := 0)).1 ?_
  refine callsIn_of_wp_marks Try.func17 rfl trivial ?_ rfl
  simp only [Try.ntmps17, List.size_toArray, List.length_cons, List.length_nil, Nat.reduceAdd, Nat.reduceSub, Array.replicate_succ, Array.replicate_zero, List.push_toArray, List.append_toArray, List.nil_append, List.cons_append]
  gi_wp2_with (refine ⟨trivial, rfl, ?_⟩; gi_at_call 29; refine (callsIn_wide.2 (asked_any x n _)).mono ?_; rintro e w' ⟨rfl, rfl⟩)
  obtain ⟨W0, hW0⟩ : ∃ W0, (((w1.alloc (.cells #[.slice (some ⟨w.heap.size + 1, 0, none⟩) L L] 30)).alloc (.cells #[.int .u32 x] 23)).alloc (.cells #[.int .i64 n] 3)) = W0 := ⟨_, rfl⟩
  have hgt : w.heap.size + 1 < w1.heap.size := by have := HM2.out.lt; rwa [World.size_alloc] at this
  have hs0 : W0.heap.size = w1.heap.size + 3 := by rw [← hW0]; simp
  have hb0 : Below w1.heap.size w1 W0 := by rw [← hW0]; exact ((below_new w1 _).alloc (by simp) _).alloc (by simp; omega) _
  have hbw : Below w.heap.size w w1 := (below_new w _).trans (HM3.out.mono (by simp))
  have hlst : w1.heap[w.heap.size]? = some (Obj.cells #[.slice a L cap] 22 (0, 0)) := (HM3.out.block _ (by simp)).trans (alloc_at w _)
  have hrow : OwnAt ic 1 3 w1 (w.heap.size + 1) L (List.replicate L 0) := by have := HM2.out; rwa [World.size_alloc] at this
  have ho1 : W0.heap[w1.heap.size]? = some (Obj.cells #[.slice (some ⟨w.heap.size + 1, 0, none⟩) L L] 30 (0, 0)) := by
    rw [← hW0]; simp only [alloc_heap, Array.getElem?_push, Array.size_push]; first | (simp; done) | (simp; omega)
  have ho2 : W0.heap[w1.heap.size + 1]? = some (Obj.cells #[.int .u32 x] 23 (0, 0)) := by
    rw [← hW0]; simp only [alloc_heap, Array.getElem?_push, Array.size_push]; first | (simp; done) | (simp; omega)
  have ho3 : W0.heap[w1.heap.size + 2]? = some (Obj.cells #[.int .i64 n] 3 (0, 0)) := by
    rw [← hW0]; simp only [alloc_heap, Array.getElem?_push, Array.size_push]; first | (simp; done) | (simp; omega)
  rw [hW0]
  have hst : ∀ lp W, Below W0.heap.size W0 W → W.heap[w1.heap.size + 3]? = some (.deferred (some [])) → W.heap[w1.heap.size + 3 + 1]? = some lp → NBx w.heap.size (w.heap.size + 1) w1.heap.size w (.slice a L cap) L x n lp (cntF xs x 0) W := by
    intro lp W hb hd hl
    have e : ints (cntF xs x 0) = List.replicate L 0 := by unfold ints cntF; rw [HL.out, List.map_replicate]; rfl
    refine ⟨(hbw.trans (hb0.mono (by omega))).trans (hb.mono (by omega)), ?_, ?_, (hb.block _ (by omega)).trans ho1, (hb.block _ (by omega)).trans ho2, (hb.block _ (by omega)).trans ho3, hd, hl, by omega, hgt⟩
    · exact (hb.block _ (by omega)).trans ((hb0.block _ (by omega)).trans hlst)
    · rw [e]; exact (hrow.block (hb0.block _ (by omega))).block (hb.block _ (by omega))
  have HSt := Lib.hid hst
  obtain ⟨N, hN⟩ : ∃ N, w.heap.size = N := ⟨_, rfl⟩
  have HN := Lib.hid hN
  obtain ⟨B, hB⟩ : ∃ B, w1.heap.size = B := ⟨_, rfl⟩
  rw [hN, hB] at HSt ⊢
  rw [hB] at hs0
  simp only [Nat.add_assoc, Nat.reduceAdd]
  clear hm1 HM2 HM3 hW0 hgt hb0 hbw hlst hrow ho1 ho2 ho3 hst hN hB
  obtain ⟨m, hm⟩ : ∃ m, askN n = m := ⟨_, rfl⟩
  have HMn := Lib.hid hm
  rw [hm]
  have HMle : Hid (m ≤ 100000) := Lib.hid (by unfold askN at hm; omega)
  clear hm
  refine range_stmt (n := 0) (gf := 41) (lb := #[.pointer (some ⟨B + 2, 0, none⟩), .pointer (some ⟨B + 1, 0, none⟩)])
    (I := fun W => ∃ lp, NBx N (N + 1) B w (.slice a L cap) L x n lp (cntF xs x m) W) (X := fun _ => False)
    rfl (enters_of Try.func41 (by kernel_rfl) rfl) ?hit ?hdone ?hstop
  case hit =>
    intro fn rec hrec
    simp only [hs0] at hrec ⊢
    have hit1 := asked1_any (B + 3 + 1) (B + 2) (B + 1) x HXl.out n (I := fun k W => NBx N (N + 1) B w (.slice a L cap) L x n (.loop (rec .ready none)) (cntF xs x k) W)
    rw [HMn.out] at hit1
    refine (hit1 ?cells ?yield _ ?start).mono ?post
    case cells => exact fun i W h => ⟨box_cell h.nn, box_cell h.fr⟩
    case start =>
      have b1 : Below W0.heap.size W0 ((W0.alloc (.deferred (some []))).alloc (.loop (rec .ready none))) := ((Below.refl _ W0).alloc (Nat.le_refl _) _).alloc (by simp) _
      refine HSt.out _ _ b1 ?_ ?_
      · simp only [alloc_heap, Array.getElem?_push, Array.size_push, hs0]; simp
      · have := World.alloc_heap_new (W0.alloc (.deferred (some []))) (.loop (rec .ready none))
        rw [World.size_alloc, hs0] at this
        exact this
    case post =>
      rintro e W ⟨hv, h1⟩
      exact ⟨hv, .inl ⟨⟨_, h1⟩, h1.lp, h1.df⟩⟩
    case yield =>
      rintro i W hi hsb
      refine yield_round hrec (Rt := fun W' => NBx N (N + 1) B w (.slice a L cap) L x n (.loop (rec .ready none)) (cntF xs x (i + 1)) W') (Rf := fun _ => False) ⟨hsb.lp, hsb.df⟩ rfl ?_ |>.mono ?_
      · have HG := Lib.hid hsb
        clear hrec hsb hs0 HSt
        obtain ⟨z, hz⟩ : ∃ z, (x + i) % 4294967296 = z := ⟨_, rfl⟩
        have HSuc : Hid (cntF xs x (i + 1) = match pick (keys z 0 xs) with
          | none => cntF xs x i
          | some p => (cntF xs x i).set p ((cntF xs x i).getD p 0 + 1)) := Lib.hid (by rw [← hz]; rfl)
        have hzl : z < 4294967296 := by omega
        rw [hz]
        clear hz
        gi_wp2
        refine ⟨HG.out.lp, ?_⟩
        have hg3 := HG.out.putLp (.loop (rec .busy none))
        generalize W.putObj (B + 3 + 1) (.loop (rec .busy none)) = W3 at hg3 ⊢
        have HG3 := Lib.hid hg3
        have k0 := box_cell hg3.lst
        have hsl := HS.out.keep (by rw [HN.out]; exact hg3.bel)
        have hch := Choose_any (.slice a L cap) xs z 0 hzl (by have := HLn.out; omega) W3 hsl
        have hpl := fun p (h : pick (keys z 0 xs) = some p) => pick_lt h
        rw [keys_len, HL.out] at hpl
        have hcl := cntF_len xs x i
        rw [HL.out] at hcl
        have hce := fun p => cntF_le xs x i p
        unfold chosen at hch
        have HIl : Hid (i ≤ 100000) := Lib.hid (by have := HMle.out; omega)
        clear hg3 hsl hzl HG HMn HMle
        generalize cntF xs x (i + 1) = ns1 at HSuc ⊢
        generalize cntF xs x i = ns at HG3 HSuc hcl hce
        cases hpk : pick (keys z 0 xs) with
        | none =>
          rw [hpk] at HSuc hch
          have HCh := Lib.hid hch
          obtain rfl := HSuc.out
          clear HSuc hpk hch hpl hcl hce
          refine wpIn_mono (Q := fun e _ W' => e = .normal ∧ Hid (NBx N (N + 1) B w (.slice a L cap) L x n (.loop (rec .busy none)) ns1 W')) ?_ ?_
          · gi_wp2_with (refine ⟨trivial, rfl, ?_⟩; gi_at_call 10; refine (callsIn_wide.2 HCh.out).mono ?_; rintro e w' ⟨rfl, hb⟩; have HG4 := Lib.hid (HG3.out.keep hb); clear hb k0)
          · rintro e a8 W8 ⟨rfl, HZ2⟩
            exact ⟨HZ2.out.lp, HZ2.out.putLp _⟩
        | some p =>
          rw [hpk] at HSuc hch
          have HCh := Lib.hid hch
          have hp := hpl p hpk
          have hns : ns1 = ns.set p (ns.getD p 0 + 1) := HSuc.out
          have hlt : p < ns.length := by rw [hcl]; exact hp
          obtain ⟨c, hc⟩ : ∃ c, ns.getD p 0 = c := ⟨_, rfl⟩
          have hge : ns[p]? = some c := by rw [← hc]; simp [List.getD, hlt]
          have hle := hce p
          rw [hc] at hle hns
          subst hns
          have HCell : Hid (∀ W, NBx N (N + 1) B w (.slice a L cap) L x n (.loop (rec .busy none)) ns W → W.cell? ⟨N + 1, p, none⟩ = some (.int .i64 (c : Int)) ∧ W.frozen? ⟨N + 1, p, none⟩ = false) := Lib.hid (fun W h => by
            have h1 := icells_at h.row p (by rw [ints_len]; exact hlt)
            have h2 : (ints ns)[p]'(by rw [ints_len]; exact hlt) = (c : Int) := by
              rw [List.getElem?_eq_getElem hlt] at hge
              have := Option.some.inj hge
              simp [ints, this]
            refine ⟨by rw [h1, h2], ?_⟩
            obtain ⟨cur, c1, -⟩ := h.row.ex
            simp [World.frozen?, c1])
          have HPl := Lib.hid hlt
          have hp1 : (p : Int) < L := by omega
          have hp0 : (0 : Int) ≤ p := by omega
          have hc9 : c ≤ 100000 := by have := HIl.out; omega
          clear HSuc hpk hch hpl hcl hce hlt hge hc hle hp
          refine wpIn_mono (Q := fun e _ W' => e = .normal ∧ Hid (NBx N (N + 1) B w (.slice a L cap) L x n (.loop (rec .busy none)) (ns.set p (c + 1)) W')) ?_ ?_
          · gi_wp2_with (refine ⟨trivial, rfl, ?_⟩; gi_at_call 10; refine (callsIn_wide.2 HCh.out).mono ?_; rintro e w' ⟨rfl, hb⟩; have HG4 := Lib.hid (HG3.out.keep hb); clear hb k0; simp only [Option.getD_some, Option.isSome_some]; obtain ⟨q0, q1⟩ := HCell.out _ HG4.out; have k7 := box_cell HG4.out.out; have HG5 := Lib.hid (HG4.out.set p HPl.out (c + 1)))
            exact HG5
          · rintro e a8 W8 ⟨rfl, HZ2⟩
            exact ⟨HZ2.out.lp, HZ2.out.putLp _⟩
      · rintro e W' (⟨he, h⟩ | ⟨_, h⟩)
        · exact ⟨he, h⟩
        · exact h.elim
  case hdone =>
    rintro W r2 r' ⟨lp, hgb⟩ hb
    simp only [hs0]
    have hg2 := hgb.putLp (.loop r')
    clear hgb hb
    generalize W.putObj (B + 3 + 1) (.loop r') = W3 at hg2 ⊢
    have k7 := box_cell hg2.out
    have HG3 := Lib.hid hg2
    clear hg2
    gi_wp2
    have hg5 := HG3.out
    refine ⟨by simp, .inl ⟨_, _, rfl, run_takeDeferred hg5.df, ?_⟩⟩
    have hrw := (hg5.row.own (B := 0) ic_len (Nat.zero_le _)).read ic_len
    have hgn := hg5.gb
    have hrow := hg5.row.block (w' := W3.putObj (B + 3) (.deferred none)) (World.putObj_heap_other (by omega))
    have hbl := below_putObj' hg5.bel (B + 3) (.deferred none) (by have := hg5.ng; omega)
    refine ⟨_, results_tmp rfl _ _, _, rfl, ?_, by rw [HN.out]; exact hbl⟩
    have hh := (hrow.own (B := 0) ic_len (Nat.zero_le _)).read ic_len
    rw [ints_len, cntF_len, HL.out, ← HMn.out] at hh
    exact hh
  case hstop => exact fun _ _ _ h => h.elim
end Go.Proofs.Ytnacobhhgeljoaa.crush
