/- How often nodes are chosen, by the program. -/
import Derived.Test.YtngmcolbpdinmaaRows
import Derived.Test.YtngmcolbpdinmaaRuleAsk
import Derived.Test.YtngmcolbpdinmaaRuleLoadM
namespace Go.Proofs.Ytngmcolbpdinmaa.crush
open Go.RowKit
open Go.Proofs.Ytngmcolbpdinmaa.kit Go.Proofs.Ytngmcolbpdinmaa.own Go.Proofs.Ytngmcolbpdinmaa.iter Go.Proofs.Ytngmcolbpdinmaa.heldin
set_option linter.unusedVariables false
attribute [local go_sem] Oper.semAt_some

/-- The place that a plan gives. -/
theorem placeP_any (v : Value) (hs ws : List Int) (size d : Int) (x : Nat) (hx : x < 4294967296) (hl : hs.length ≤ 65536) (w' : World) (hr : PlanR w' v (itemsE hs ws) (nodesE hs ws) (domsE d hs) (mostE hs ws size d)) :
    Calls Try.prog 15 #[v, .int .u32 x] w' (NumI w' (ints (placeE hs ws x size d))) := by
  have HE : placeE hs ws x size d = placeF (fun r => tryP (itemsE hs ws) (nodesE hs ws) x (r : Nat)) (domsE d hs) (mostE hs ws size d : Nat) 64 := placeF_enough hs ws x size d 64
  rw [HE]
  exact place_any v (itemsE hs ws) (nodesE hs ws) (domsE d hs) (mostE hs ws size d) x hx w' hr
    (by rw [itemsE_len]; have := onceL_len hs; omega) (by rw [nodesE_len, itemsE_len])
    (fun i hi => by obtain ⟨z, e⟩ := nodesE_at hs ws i hi; rw [e]; have := nodesOf_len hs ws z hs.length; omega)
    (fun i hi y hy => by obtain ⟨z, e⟩ := nodesE_at hs ws i hi; rw [e] at hy; obtain ⟨k, _, e2, _⟩ := nodesOf_mem _ _ _ _ _ hy; rw [e2]; simp)
    (fun r v ht => by rw [domsE_len]; exact (tryE_some ht).1) (by rw [domsE_len]; exact hl) (by have := most_le hs ws size d; omega)

theorem SameFrom.putObj {B : Nat} {W W1 : World} (h : SameFrom B W W1) (l : Nat) (o : Obj) (hl : W.heap.size ≤ l) : SameFrom B W (W1.putObj l o) := by
  have e : (W1.putObj l o).heap.size = W1.heap.size := by simp [World.putObj]
  refine ⟨by rw [e]; exact h.1, fun b h2 h3 => (World.putObj_heap_other (by omega)).trans (h.2 b h2 h3)⟩

/-- The state of 'Load' ahead of a round. -/
structure LBx (N G B : Nat) (w w3 : World) (L x : Nat) (n : Int) (vi vn vd : Value) (m : Int) (lp : Obj) (ns : List Nat) (W : World) : Prop where
  bel : Below N w W
  same : SameFrom (G + 1) w3 W
  row : OwnAt ic 1 3 W N L (ints ns)
  out : W.heap[G]? = some (Obj.cells #[.slice (some ⟨N, 0, none⟩) L L] 22 (0, 0))
  pl : PBox W B vi vn vd m
  fr : W.heap[B + 1]? = some (Obj.cells #[.int .u32 x] 24 (0, 0))
  nn : W.heap[B + 2]? = some (Obj.cells #[.int .i64 n] 3 (0, 0))
  df : W.heap[B + 3]? = some (.deferred (some []))
  lp : W.heap[B + 3 + 1]? = some lp
  ng : N < G
  nb : G < B
  wb : w3.heap.size = B
section
variable {N G B : Nat} {w w3 : World} {L x : Nat} {n : Int} {vi vn vd : Value} {m : Int} {lp : Obj} {ns : List Nat} {W W' : World}
theorem LBx.lt (h : LBx N G B w w3 L x n vi vn vd m lp ns W) : B + 4 < W.heap.size := (Array.getElem?_eq_some_iff.1 h.lp).1
theorem LBx.keep (h : LBx N G B w w3 L x n vi vn vd m lp ns W) (hb : Below W.heap.size W W') : LBx N G B w w3 L x n vi vn vd m lp ns W' := by
  have hl := h.lt
  have h1 := h.nb
  have h0 := h.ng
  exact ⟨h.bel.trans (hb.mono (by omega)), h.same.below hb, h.row.block (hb.block _ (by omega)), (hb.block _ (by omega)).trans h.out, h.pl.keep hb, (hb.block _ (by omega)).trans h.fr, (hb.block _ (by omega)).trans h.nn, (hb.block _ (by omega)).trans h.df, (hb.block _ (by omega)).trans h.lp, h0, h1, h.wb⟩
theorem LBx.putLp (h : LBx N G B w w3 L x n vi vn vd m lp ns W) (o : Obj) : LBx N G B w w3 L x n vi vn vd m o ns (W.putObj (B + 3 + 1) o) := by
  have h1 := h.nb
  have h0 := h.ng
  exact ⟨below_putObj' h.bel _ _ (by omega), h.same.putObj _ _ (by rw [h.wb]; omega), h.row.block (World.putObj_heap_other (by omega)), (World.putObj_heap_other (by omega)).trans h.out, (World.putObj_heap_other (by omega)).trans h.pl, (World.putObj_heap_other (by omega)).trans h.fr, (World.putObj_heap_other (by omega)).trans h.nn, (World.putObj_heap_other (by omega)).trans h.df, World.putObj_heap_same (Array.getElem?_eq_some_iff.1 h.lp).1, h0, h1, h.wb⟩
theorem LBx.set (h : LBx N G B w w3 L x n vi vn vd m lp ns W) (p : Nat) (hp : p < ns.length) (c : Nat) : LBx N G B w w3 L x n vi vn vd m lp (ns.set p c) (W.setCell ⟨N, p, none⟩ (.int .i64 (c : Int))) := by
  have h1 := h.nb
  have h0 := h.ng
  have e : ints (ns.set p c) = (ints ns).set p (c : Int) := by unfold ints; rw [List.map_set]
  refine ⟨h.bel.setCell (p := ⟨N, p, none⟩) (Nat.le_refl _) _, h.same.set (by omega) _ _, by rw [e]; exact h.row.set1 p (by rw [ints_len]; exact hp) _, (heap_setCell_other _ _ _ _ (by show G ≠ N; omega)).trans h.out, (heap_setCell_other _ _ _ _ (by show B ≠ N; omega)).trans h.pl, (heap_setCell_other _ _ _ _ (by show B + 1 ≠ N; omega)).trans h.fr, (heap_setCell_other _ _ _ _ (by show B + 2 ≠ N; omega)).trans h.nn, (heap_setCell_other _ _ _ _ (by show B + 3 ≠ N; omega)).trans h.df, (heap_setCell_other _ _ _ _ (by show B + 3 + 1 ≠ N; omega)).trans h.lp, h0, h1, h.wb⟩
end
/-- A count in the row. -/
theorem ocell {e g cap : Nat} {w : World} {ns : List Nat} (h : OwnAt ic 1 e w g cap (ints ns)) {p c : Nat} (hp : p < ns.length) (hc : ns.getD p 0 = c) : w.cell? ⟨g, p, none⟩ = some (.int .i64 (c : Int)) ∧ w.frozen? ⟨g, p, none⟩ = false := by
  have h1 := icells_at h p (by rw [ints_len]; exact hp)
  have h2 : (ints ns)[p]'(by rw [ints_len]; exact hp) = (c : Int) := by
    rw [List.getD_eq_getElem?_getD, List.getElem?_eq_getElem hp] at hc
    simp at hc
    simp [ints, hc]
  refine ⟨by rw [h1, h2], ?_⟩
  obtain ⟨cur, c1, -⟩ := h.ex
  simp [World.frozen?, c1]

set_option maxHeartbeats 16000000 in
set_option maxRecDepth 100000 in
theorem Load_any (v vw : Value) (hs ws : List Int) (x : Nat) (n size d : Int) (hx : x < 4294967296) (w : World) (h : Sl ic 1 w v hs) (hw : Sl ic 1 w vw ws) (hl : hs.length ≤ 65536) (hsz : I64 size) :
    Calls Try.prog 7 #[v, vw, .int .u32 x, .int .i64 n, .int .i64 size, .int .i64 d] w (NumO w (ints (loadF hs ws x size d (askR n)))) := by
  obtain ⟨a, c, rfl⟩ := h.slice
  obtain ⟨aw, cw, rfl⟩ := hw.slice
  have HXl := Lib.hid hx; have HLn := Lib.hid hl
  have HD := Lib.hid (fun w' (hb : Below w.heap.size w w') => drawF_any _ _ hs ws size d w' (h.keep hb) (hw.keep hb) hl hsz)
  have HPl : Hid (∀ z : Nat, z < 4294967296 → ∀ (v : Value) (w' : World), PlanR w' v (itemsE hs ws) (nodesE hs ws) (domsE d hs) (mostE hs ws size d) → Calls Try.prog 15 #[v, .int .u32 z] w' (NumI w' (ints (placeE hs ws z size d)))) := Lib.hid (fun z hz v w' hr => placeP_any v hs ws size d z hz hl w' hr)
  obtain ⟨L, hL⟩ : ∃ L, hs.length = L := ⟨_, rfl⟩
  have HL := Lib.hid hL
  rw [hL] at HD hl ⊢
  generalize ws.length = Lw at HD ⊢
  obtain ⟨w1, hm1, hm2, hm3⟩ := made_ints w L hl
  have HM2 := Lib.hid hm2; have HM3 := Lib.hid hm3
  clear h hw hx hL hm2 hm3 hl hsz
  refine (callsIn_wide (n := 0)).1 ?_
  refine callsIn_of_wp_marks Try.func7 rfl trivial ?_ rfl
  simp only [Try.ntmps7, List.size_toArray, List.length_cons, List.length_nil, Nat.reduceAdd, Nat.reduceSub, Array.replicate_succ, Array.replicate_zero, List.push_toArray, List.append_toArray, List.nil_append, List.cons_append]
  gi_upto_region 2 with fail
  have hgt : w.heap.size < w1.heap.size := HM2.out.lt
  have hb2 : Below w1.heap.size w1 (w1.alloc (.cells #[.slice (some ⟨w.heap.size, 0, none⟩) L L] 22)) := below_new w1 _
  have hout : (w1.alloc (.cells #[.slice (some ⟨w.heap.size, 0, none⟩) L L] 22)).heap[w1.heap.size]? = some (Obj.cells #[.slice (some ⟨w.heap.size, 0, none⟩) L L] 22 (0, 0)) := alloc_at w1 _
  have hs2 : (w1.alloc (.cells #[.slice (some ⟨w.heap.size, 0, none⟩) L L] 22)).heap.size = w1.heap.size + 1 := by simp
  have HRow : Hid (OwnAt ic 1 3 (w1.alloc (.cells #[.slice (some ⟨w.heap.size, 0, none⟩) L L] 22)) w.heap.size L (ints (loadF hs ws x size d 0))) := Lib.hid (by
    have e : ints (loadF hs ws x size d 0) = List.replicate L 0 := by unfold ints loadF; rw [HL.out, List.map_replicate]; rfl
    rw [e]; exact HM2.out.block (hb2.block _ hgt))
  have HB2 : Hid (Below w.heap.size w (w1.alloc (.cells #[.slice (some ⟨w.heap.size, 0, none⟩) L L] 22))) := Lib.hid (HM3.out.trans (hb2.mono (by omega)))
  have HOut := Lib.hid hout; have HS2 := Lib.hid hs2; have HGt := Lib.hid hgt
  clear hm1 HM2 HM3 hgt hb2 hout hs2
  generalize (w1.alloc (.cells #[.slice (some ⟨w.heap.size, 0, none⟩) L L] 22)) = w2 at HRow HB2 HOut HS2 ⊢
  generalize w1.heap.size = G at HOut HS2 HGt ⊢
  gi_upto_region 3 with (refine ⟨trivial, rfl, ?_⟩; gi_at_call 13; refine (callsIn_wide.2 (HD.out w2 HB2.out)).mono ?_; rintro e w3 ⟨v3, rfl, hall, hb3⟩; obtain ⟨vi, vn, vd, rfl, hpl, hd⟩ := hall w3 (SameFrom.refl _ _); obtain ⟨⟨ai, ci, rfl⟩, svs0, hn, -, -⟩ := And.intro hpl.1.slice hpl.2; obtain ⟨an, cn, rfl⟩ := hn.slice; obtain ⟨ad, cd, rfl⟩ := hd.slice; have HAll := Lib.hid hall; have HB3 := Lib.hid hb3; clear hall hb3 hpl hd hn)
  obtain ⟨li, hli⟩ : ∃ l, (itemsE hs ws).length = l := ⟨_, rfl⟩
  obtain ⟨ld, hld⟩ : ∃ l, (domsE d hs).length = l := ⟨_, rfl⟩
  obtain ⟨mm, hmm⟩ : ∃ m : Int, ((mostE hs ws size d : Nat) : Int) = m := ⟨_, rfl⟩
  obtain ⟨ln, hln⟩ : ∃ l, svs0.length = l := ⟨_, rfl⟩
  rw [hli, hld, hmm, hln] at HAll
  rw [hli, hld, hmm, hln]
  clear hli hld hmm hln
  gi_wp2_with (refine ⟨trivial, rfl, ?_⟩; gi_at_call 14; refine (callsIn_wide.2 (askedR_any x n _)).mono ?_; rintro e w' ⟨rfl, rfl⟩)
  obtain ⟨W0, hW0⟩ : ∃ W0, (((w3.alloc (.cells #[.slice ai li ci, .slice an ln cn, .slice ad ld cd, .int .i64 mm] 36)).alloc (.cells #[.int .u32 x] 24)).alloc (.cells #[.int .i64 n] 3)) = W0 := ⟨_, rfl⟩
  have hs0 : W0.heap.size = w3.heap.size + 3 := by rw [← hW0]; simp
  have hb0 : Below w3.heap.size w3 W0 := by rw [← hW0]; exact ((below_new w3 _).alloc (by simp) _).alloc (by simp; omega) _
  have hpb : PBox W0 w3.heap.size (.slice ai li ci) (.slice an ln cn) (.slice ad ld cd) mm := by
    unfold PBox; rw [← hW0]; simp only [alloc_heap, Array.getElem?_push, Array.size_push]; first | (simp; done) | (simp; omega)
  have ho2 : W0.heap[w3.heap.size + 1]? = some (Obj.cells #[.int .u32 x] 24 (0, 0)) := by
    rw [← hW0]; simp only [alloc_heap, Array.getElem?_push, Array.size_push]; first | (simp; done) | (simp; omega)
  have ho3 : W0.heap[w3.heap.size + 2]? = some (Obj.cells #[.int .i64 n] 3 (0, 0)) := by
    rw [← hW0]; simp only [alloc_heap, Array.getElem?_push, Array.size_push]; first | (simp; done) | (simp; omega)
  rw [hW0]
  have hst : ∀ lp W, Below W0.heap.size W0 W → W.heap[w3.heap.size + 3]? = some (.deferred (some [])) → W.heap[w3.heap.size + 3 + 1]? = some lp → LBx w.heap.size G w3.heap.size w w3 L x n (.slice ai li ci) (.slice an ln cn) (.slice ad ld cd) mm lp (loadF hs ws x size d 0) W := by
    intro lp W hb hd hl
    have hg1 := HGt.out
    have hg2 := HS2.out
    have hb3 := HB3.out
    have hz := hb3.size
    have hb : Below w3.heap.size w3 W := hb0.trans (hb.mono (by omega))
    have hbb : Below W0.heap.size W0 W := by assumption
    refine ⟨HB2.out.trans ((hb3.trans (hb.mono hb3.size)).mono HB2.out.size), (SameFrom.refl _ _).below hb, ?_, ?_, hpb.keep hbb, (hbb.block _ (by omega)).trans ho2, (hbb.block _ (by omega)).trans ho3, hd, hl, hg1, by omega, rfl⟩
    · exact HRow.out.block ((hb.block _ (by omega)).trans (hb3.block _ (by omega)))
    · exact (hb.block _ (by omega)).trans ((hb3.block _ (by omega)).trans HOut.out)
  have HSt := Lib.hid hst
  have HAl2 : Hid (∀ W', SameFrom (G + 1) w3 W' → PlanR W' (.agg #[.slice ai li ci, .slice an ln cn, .slice ad ld cd, .int .i64 mm]) (itemsE hs ws) (nodesE hs ws) (domsE d hs) (mostE hs ws size d)) := Lib.hid (by rw [← HS2.out]; exact HAll.out)
  obtain ⟨N, hN⟩ : ∃ N, w.heap.size = N := ⟨_, rfl⟩
  have HN := Lib.hid hN
  obtain ⟨B, hB⟩ : ∃ B, w3.heap.size = B := ⟨_, rfl⟩
  rw [hN, hB] at HSt
  rw [hN, hB]
  rw [hB] at hs0
  simp only [Nat.add_assoc, Nat.reduceAdd]
  clear HRow HB2 HOut HS2 HGt HAll HB3 HD hW0 hb0 hpb ho2 ho3 hst hN hB
  obtain ⟨m, hm⟩ : ∃ m, askR n = m := ⟨_, rfl⟩
  have HMn := Lib.hid hm
  rw [hm]
  have HMle : Hid (m ≤ 2000) := Lib.hid (by unfold askR at hm; omega)
  clear hm
  refine range_stmt (n := 0) (gf := 23) (lb := #[.pointer (some ⟨B + 2, 0, none⟩), .pointer (some ⟨B + 1, 0, none⟩)])
    (I := fun W => ∃ lp, LBx N G B w w3 L x n (.slice ai li ci) (.slice an ln cn) (.slice ad ld cd) mm lp (loadF hs ws x size d m) W) (X := fun _ => False)
    rfl (enters_of Try.func23 (by kernel_rfl) rfl) ?hit ?hdone ?hstop
  case hit =>
    intro fn rec hrec
    simp only [hs0] at hrec ⊢
    have hit1 := askedR1_any (B + 3 + 1) (B + 2) (B + 1) x HXl.out n (I := fun k W => LBx N G B w w3 L x n (.slice ai li ci) (.slice an ln cn) (.slice ad ld cd) mm (.loop (rec .ready none)) (loadF hs ws x size d k) W)
    rw [HMn.out] at hit1
    refine (hit1 ?cells ?yield _ ?start).mono ?post
    case cells => exact fun i W h => ⟨box_cell h.nn, box_cell h.fr⟩
    case start =>
      have b1 : Below W0.heap.size W0 ((W0.alloc (.deferred (some []))).alloc (.loop (rec .ready none))) := ((Below.refl _ W0).alloc (Nat.le_refl _) _).alloc (by simp) _
      refine HSt.out _ _ b1 ?_ ?_
      · simp only [alloc_heap, Array.getElem?_push, Array.size_push, hs0]; simp
      · have := World.alloc_heap_new (W0.alloc (.deferred (some []))) (.loop (rec .ready none))
        rw [World.size_alloc, hs0] at this
        exact this
    case post =>
      rintro e W ⟨hv, h1⟩
      exact ⟨hv, .inl ⟨⟨_, h1⟩, h1.lp, h1.df⟩⟩
    case yield =>
      rintro i W hi hsb
      refine yield_round hrec (Rt := fun W' => LBx N G B w w3 L x n (.slice ai li ci) (.slice an ln cn) (.slice ad ld cd) mm (.loop (rec .ready none)) (loadF hs ws x size d (i + 1)) W') (Rf := fun _ => False) ⟨hsb.lp, hsb.df⟩ rfl ?_ |>.mono ?_
      · have HG := Lib.hid hsb
        clear hit1 hrec hsb hs0 HSt
        obtain ⟨z, hz⟩ : ∃ z, (x + i) % 4294967296 = z := ⟨_, rfl⟩
        have hzl : z < 4294967296 := by omega
        have hle := fun p => loadF_le hs ws x size d p i
        have hil : i ≤ 2000 := by have := HMle.out; omega
        obtain ⟨pl, hpl⟩ : ∃ pl, plAt hs ws x size d i = pl := ⟨_, rfl⟩
        have HSuc : Hid (loadF hs ws x size d (i + 1) = bumpN (loadF hs ws x size d i) pl pl.length) := Lib.hid (by rw [← hpl]; rfl)
        have HPlt : Hid (∀ v ∈ pl, v < L) := Lib.hid (by rw [← hpl, ← HL.out]; exact plAt_lt hs ws x size d i)
        have hpn : pl.length ≤ 64 := by rw [← hpl]; exact plAt_len hs ws x size d i
        have HP1 : Hid (∀ v w', PlanR w' v (itemsE hs ws) (nodesE hs ws) (domsE d hs) (mostE hs ws size d) → Calls Try.prog 15 #[v, .int .u32 z] w' (NumI w' (ints pl))) := Lib.hid (fun v w' h => by
          have := HPl.out z hzl v w' h
          rw [← hpl]
          show Calls _ _ _ _ (NumI w' (ints (placeE hs ws ((x + i) % 4294967296) size d)))
          rw [hz]; exact this)
        have hcl := loadF_len hs ws x size d i
        rw [HL.out] at hcl
        generalize loadF hs ws x size d (i + 1) = ns1 at HSuc ⊢
        generalize loadF hs ws x size d i = ns at HG HSuc hle hcl
        obtain ⟨P, hP⟩ : ∃ P, pl.length = P := ⟨_, rfl⟩
        have HPn := Lib.hid hP
        rw [hP] at hpn HSuc
        have HCl := Lib.hid hcl; have HPn64 := Lib.hid hpn
        have HLe : Hid (∀ p, ns.getD p 0 ≤ 128000) := Lib.hid (fun p => by have := hle p; omega)
        rw [hz]
        clear hz hzl hpl hle hil hP hcl HPl
        gi_wp2
        refine ⟨HG.out.lp, ?_⟩
        have hg3 := HG.out.putLp (.loop (rec .busy none))
        generalize W.putObj (B + 3 + 1) (.loop (rec .busy none)) = W3 at hg3 ⊢
        have HG3 := Lib.hid hg3
        obtain ⟨k1, k2, k3, k4⟩ := hg3.pl.cells
        clear hg3 HG HMn HMle HXl
        refine wpIn_mono (Q := fun e _ W' => e = .normal ∧ Hid (LBx N G B w w3 L x n (.slice ai li ci) (.slice an ln cn) (.slice ad ld cd) mm (.loop (rec .busy none)) ns1 W')) ?_ ?_
        · gi_wp2_with (refine ⟨trivial, rfl, ?_⟩; gi_at_call 15; refine (callsIn_wide.2 (HP1.out _ W3 (HAl2.out W3 HG3.out.same))).mono ?_; rintro e w5 ⟨v5, rfl, ho, hb⟩; obtain ⟨a5, c5, rfl⟩ := ho.slice; have HG5 := Lib.hid (HG3.out.keep hb); have HO5 := Lib.hid ho; clear hb ho k1 k2 k3 k4; rw [ints_len, HPn.out] at HO5; rw [ints_len, HPn.out])
          gi_loopw [34] (fun v34 wr => ∃ j : Nat, j ≤ P ∧ v34 = .int .i64 j ∧ LBx N G B w w3 L x n (.slice ai li ci) (.slice an ln cn) (.slice ad ld cd) mm (.loop (rec .busy none)) (bumpN ns pl j) wr ∧ Own ic 1 3 wr W3.heap.size (.slice a5 P c5) (ints pl)) (fun v _ => P - (intOf v).toNat)
          case atStart => exact ⟨0, by omega, rfl, HG5.out, HO5.out⟩
          case round =>
            obtain ⟨j, hj, rfl, hg6, ho6⟩ := hrel
            by_cases hjn : j < P
            · have hjn' : (j : Int) < P := by omega
              have hj0 : (0 : Int) ≤ j := by omega
              have hjl : j < pl.length := by rw [HPn.out]; exact hjn
              obtain ⟨b5, o5, c5', he5, hb5, hc5⟩ := int_at' (ho6.read ic_len) (L := P) (by rw [ints_len, HPn.out]) hjn
              obtain ⟨rfl, rfl⟩ : a5 = some ⟨b5, o5, none⟩ ∧ c5 = c5' := by cases he5; exact ⟨rfl, rfl⟩
              have d1 := hc5 j (by rw [ints_len]; exact hjl)
              have e1 : (ints pl)[j]'(by rw [ints_len]; exact hjl) = (pl[j] : Int) := by simp [ints]
              rw [e1] at d1
              have hpj := HPlt.out pl[j] (List.getElem_mem _)
              have hgd : pl.getD j 0 = pl[j] := by rw [List.getD_eq_getElem?_getD, List.getElem?_eq_getElem hjl]; rfl
              have HNx : Hid (bumpN ns pl (j + 1) = bump (bumpN ns pl j) pl[j]) := Lib.hid (by rw [bumpN, hgd])
              obtain ⟨p, hp⟩ : ∃ p, pl[j] = p := ⟨_, rfl⟩
              rw [hp] at d1 hpj HNx
              have hbl := bumpN_len ns pl j
              rw [HCl.out] at hbl
              have hbe := bumpN_le ns pl p j
              have hbe2 := HLe.out p
              generalize bumpN ns pl j = ns2 at HNx hg6 hbl hbe
              obtain ⟨c, hc⟩ : ∃ c, ns2.getD p 0 = c := ⟨_, rfl⟩
              have hpl2 : p < ns2.length := by omega
              obtain ⟨q0, q1⟩ := ocell hg6.row hpl2 hc
              have k7 := box_cell hg6.out
              have hp1 : (p : Int) < L := by omega
              have hp0 : (0 : Int) ≤ p := by omega
              have hcb : c ≤ 200000 := by have := HPn64.out; omega
              have HNx2 : Hid (bumpN ns pl (j + 1) = ns2.set p (c + 1)) := Lib.hid (by rw [HNx.out]; unfold bump; rw [hc])
              have HG7 := Lib.hid (hg6.set p hpl2 (c + 1))
              have hne : Value.ownBlock (.slice (some ⟨b5, o5, none⟩) P c5) ≠ some N := fun e => by have := (ho6.blk _ e).1; have := HG3.out.lt; have := HG3.out.nb; have := HG3.out.ng; omega
              have HO7 := Lib.hid (ho6.setOther hne p (.int .i64 ((c + 1 : Nat) : Int)))
              clear hg6 ho6 hpj hgd hjl hp HNx hbl hbe hbe2 hc hpl2 hne he5 hb5 hc5 e1
              gi_wp2
              clear d1 q0 q1 k7
              go_roundw
              case rel => exact ⟨j + 1, by omega, by go_num, by rw [HNx2.out]; exact HG7.out, HO7.out⟩
              case measure => simp [intOf]; omega
            · obtain rfl : j = P := by omega
              have HG8 : Hid (LBx N G B w w3 L x n (.slice ai li ci) (.slice an ln cn) (.slice ad ld cd) mm (.loop (rec .busy none)) ns1 wr) := Lib.hid (by rw [HSuc.out]; exact hg6)
              clear hg6 ho6
              gi_wp2
        · rintro e a8 W8 ⟨rfl, HZ2⟩
          exact ⟨HZ2.out.lp, HZ2.out.putLp _⟩
      · rintro e W' (⟨he, h⟩ | ⟨_, h⟩)
        · exact ⟨he, h⟩
        · exact h.elim
  case hdone =>
    rintro W r2 r' ⟨lp, hgb⟩ hb
    simp only [hs0]
    have hg2 := hgb.putLp (.loop r')
    clear hgb hb
    generalize W.putObj (B + 3 + 1) (.loop r') = W3 at hg2 ⊢
    have k7 := box_cell hg2.out
    have HG3 := Lib.hid hg2
    clear hg2
    gi_wp2
    have hg5 := HG3.out
    refine ⟨by simp, .inl ⟨_, _, rfl, run_takeDeferred hg5.df, ?_⟩⟩
    have hgn := hg5.nb
    have hgg := hg5.ng
    have hrow := hg5.row.block (w' := W3.putObj (B + 3) (.deferred none)) (World.putObj_heap_other (by omega))
    have hbl := below_putObj' hg5.bel (B + 3) (.deferred none) (by omega)
    refine ⟨_, results_tmp rfl _ _, _, rfl, ?_, by rw [HN.out]; exact hbl⟩
    have hh := (hrow.own (B := 0) ic_len (Nat.zero_le _)).read ic_len
    rw [ints_len, loadF_len, HL.out, ← HMn.out] at hh
    exact hh
  case hstop => exact fun _ _ _ h => h.elim
end Go.Proofs.Ytngmcolbpdinmaa.crush
