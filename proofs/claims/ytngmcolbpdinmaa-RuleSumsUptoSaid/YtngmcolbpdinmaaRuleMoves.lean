/- How many copies move, by the program. -/
import Derived.Test.YtngmcolbpdinmaaRows
import Derived.Test.YtngmcolbpdinmaaRuleLoad
import Derived.Test.YtngmcolbpdinmaaRuleHas
namespace Go.Proofs.Ytngmcolbpdinmaa.crush
open Go.RowKit
open Go.Proofs.Ytngmcolbpdinmaa.kit Go.Proofs.Ytngmcolbpdinmaa.own Go.Proofs.Ytngmcolbpdinmaa.iter Go.Proofs.Ytngmcolbpdinmaa.heldin
set_option linter.unusedVariables false
attribute [local go_sem] Oper.semAt_some

theorem SameFrom.weak {B B' : Nat} {W W1 : World} (h : SameFrom B W W1) (hB : B ≤ B') : SameFrom B' W W1 := ⟨h.1, fun b a c => h.2 b (by omega) c⟩
/-- The state of 'Moves' ahead of a round. -/
structure VBy (N B : Nat) (w w4 : World) (x : Nat) (n : Int) (p1 p2 : Value × Value × Value × Int) (lp : Obj) (c : Nat) (W : World) : Prop where
  bel : Below N w W
  same : SameFrom (N + 1) w4 W
  cnt : W.heap[N]? = some (Obj.cells #[.int .i64 (c : Int)] 3 (0, 0))
  pl1 : PBox W B p1.1 p1.2.1 p1.2.2.1 p1.2.2.2
  pl2 : PBox W (B + 1) p2.1 p2.2.1 p2.2.2.1 p2.2.2.2
  fr : W.heap[B + 2]? = some (Obj.cells #[.int .u32 x] 24 (0, 0))
  nn : W.heap[B + 3]? = some (Obj.cells #[.int .i64 n] 3 (0, 0))
  df : W.heap[B + 4]? = some (.deferred (some []))
  lp : W.heap[B + 4 + 1]? = some lp
  nb : N < B
  wb : w4.heap.size = B
section
variable {N B : Nat} {w w4 : World} {x : Nat} {n : Int} {p1 p2 : Value × Value × Value × Int} {lp : Obj} {c : Nat} {W W' : World}
theorem VBy.lt (h : VBy N B w w4 x n p1 p2 lp c W) : B + 5 < W.heap.size := (Array.getElem?_eq_some_iff.1 h.lp).1
theorem VBy.keep (h : VBy N B w w4 x n p1 p2 lp c W) (hb : Below W.heap.size W W') : VBy N B w w4 x n p1 p2 lp c W' := by
  have hl := h.lt
  have h1 := h.nb
  exact ⟨h.bel.trans (hb.mono (by omega)), h.same.below hb, (hb.block _ (by omega)).trans h.cnt, h.pl1.keep hb, h.pl2.keep hb, (hb.block _ (by omega)).trans h.fr, (hb.block _ (by omega)).trans h.nn, (hb.block _ (by omega)).trans h.df, (hb.block _ (by omega)).trans h.lp, h1, h.wb⟩
theorem VBy.putLp (h : VBy N B w w4 x n p1 p2 lp c W) (o : Obj) : VBy N B w w4 x n p1 p2 o c (W.putObj (B + 4 + 1) o) := by
  have h1 := h.nb
  exact ⟨below_putObj' h.bel _ _ (by omega), h.same.putObj _ _ (by rw [h.wb]; omega), (World.putObj_heap_other (by omega)).trans h.cnt, (World.putObj_heap_other (by omega)).trans h.pl1, (World.putObj_heap_other (by omega)).trans h.pl2, (World.putObj_heap_other (by omega)).trans h.fr, (World.putObj_heap_other (by omega)).trans h.nn, (World.putObj_heap_other (by omega)).trans h.df, World.putObj_heap_same (Array.getElem?_eq_some_iff.1 h.lp).1, h1, h.wb⟩
theorem VBy.up (h : VBy N B w w4 x n p1 p2 lp c W) : VBy N B w w4 x n p1 p2 lp (c + 1) (W.setCell ⟨N, 0, none⟩ (.int .i64 ((c : Int) + 1))) := by
  have h1 := h.nb
  refine ⟨h.bel.setCell (p := ⟨N, 0, none⟩) (Nat.le_refl _) _, h.same.set (by omega) _ _, ?_, (heap_setCell_other _ _ _ _ (by show B ≠ N; omega)).trans h.pl1, (heap_setCell_other _ _ _ _ (by show B + 1 ≠ N; omega)).trans h.pl2, (heap_setCell_other _ _ _ _ (by show B + 2 ≠ N; omega)).trans h.fr, (heap_setCell_other _ _ _ _ (by show B + 3 ≠ N; omega)).trans h.nn, (heap_setCell_other _ _ _ _ (by show B + 4 ≠ N; omega)).trans h.df, (heap_setCell_other _ _ _ _ (by show B + 4 + 1 ≠ N; omega)).trans h.lp, h1, h.wb⟩
  have := heap_setCell_same W N 0 _ _ (.int .i64 ((c : Int) + 1)) h.cnt
  simpa using this
end

set_option maxHeartbeats 16000000 in
set_option maxRecDepth 100000 in
theorem Moves_any (v vw vo : Value) (hs ws wo : List Int) (x : Nat) (n size d : Int) (hx : x < 4294967296) (w : World) (h : Sl ic 1 w v hs) (hw : Sl ic 1 w vw ws) (ho : Sl ic 1 w vo wo) (hl : hs.length ≤ 65536) (hsz : I64 size) :
    Calls Try.prog 9 #[v, vw, vo, .int .u32 x, .int .i64 n, .int .i64 size, .int .i64 d] w fun e w' => e = .returned (.int .i64 (movR hs ws wo x size d (askR n) : Nat)) ∧ Below w.heap.size w w' := by
  obtain ⟨a, c, rfl⟩ := h.slice
  obtain ⟨aw, cw, rfl⟩ := hw.slice
  obtain ⟨ao, co, rfl⟩ := ho.slice
  have HXl := Lib.hid hx
  have HD1 := Lib.hid (fun w' (hb : Below w.heap.size w w') => drawF_any _ _ hs ws size d w' (h.keep hb) (hw.keep hb) hl hsz)
  have HD2 := Lib.hid (fun w' (hb : Below w.heap.size w w') => drawF_any _ _ hs wo size d w' (h.keep hb) (ho.keep hb) hl hsz)
  have HPl : Hid (∀ (wx : List Int) (z : Nat), z < 4294967296 → ∀ (v : Value) (w' : World), PlanR w' v (itemsE hs wx) (nodesE hs wx) (domsE d hs) (mostE hs wx size d) → Calls Try.prog 15 #[v, .int .u32 z] w' (NumI w' (ints (placeE hs wx z size d)))) := Lib.hid (fun wx z hz v w' hr => placeP_any v hs wx size d z hz hl w' hr)
  generalize hs.length = L at HD1 HD2 ⊢
  generalize ws.length = Lw at HD1 ⊢
  generalize wo.length = Lo at HD2 ⊢
  have hb0 := below_new w (.cells #[.int .i64 0] 3)
  have hc0 := alloc_at w (.cells #[.int .i64 0] 3)
  have hs0 : (w.alloc (.cells #[.int .i64 0] 3)).heap.size = w.heap.size + 1 := by simp
  have HB2 := Lib.hid hb0; have HC2 := Lib.hid hc0; have HS2 := Lib.hid hs0
  clear h hw ho hx hl hsz hb0 hc0 hs0
  refine (callsIn_wide (n := 0)).1 ?_
  refine callsIn_of_wp_marks Try.func9 rfl trivial ?_ rfl
  simp only [Try.ntmps9, List.size_toArray, List.length_cons, List.length_nil, Nat.reduceAdd, Nat.reduceSub, Array.replicate_succ, Array.replicate_zero, List.push_toArray, List.append_toArray, List.nil_append, List.cons_append]
  gi_upto_region 2 with fail
  generalize (w.alloc (.cells #[.int .i64 0] 3)) = w2 at HB2 HC2 HS2 ⊢
  gi_upto_region 3 with (first
    | (refine ⟨trivial, rfl, ?_⟩; gi_at_call 13; refine (callsIn_wide.2 (HD1.out w2 HB2.out)).mono ?_; rintro e w3 ⟨v3, rfl, hall, hb3⟩; obtain ⟨vi, vn, vd, rfl, hpl, hd⟩ := hall w3 (SameFrom.refl _ _); obtain ⟨⟨ai, ci, rfl⟩, svs0, hn, -, -⟩ := And.intro hpl.1.slice hpl.2; obtain ⟨an, cn, rfl⟩ := hn.slice; obtain ⟨ad, cd, rfl⟩ := hd.slice; have HAll := Lib.hid hall; have HB3 := Lib.hid hb3; have HB3' := Lib.hid (HB2.out.trans (hb3.mono HB2.out.size)); clear hall hb3 hpl hd hn HD1)
    | (refine ⟨trivial, rfl, ?_⟩; gi_at_call 13; refine (callsIn_wide.2 (HD2.out w3 HB3'.out)).mono ?_; rintro e w4 ⟨v4, rfl, hall, hb4⟩; obtain ⟨vi4, vn4, vd4, rfl, hpl, hd⟩ := hall w4 (SameFrom.refl _ _); obtain ⟨⟨ai4, ci4, rfl⟩, svs4, hn, -, -⟩ := And.intro hpl.1.slice hpl.2; obtain ⟨an4, cn4, rfl⟩ := hn.slice; obtain ⟨ad4, cd4, rfl⟩ := hd.slice; have HAll4 := Lib.hid hall; have HB4 := Lib.hid hb4; clear hall hb4 hpl hd hn HD2))
  obtain ⟨li, hli⟩ : ∃ l, (itemsE hs ws).length = l := ⟨_, rfl⟩
  obtain ⟨ld, hld⟩ : ∃ l, (domsE d hs).length = l := ⟨_, rfl⟩
  obtain ⟨mm, hmm⟩ : ∃ m : Int, ((mostE hs ws size d : Nat) : Int) = m := ⟨_, rfl⟩
  obtain ⟨ln, hln⟩ : ∃ l, svs0.length = l := ⟨_, rfl⟩
  obtain ⟨li4, hli4⟩ : ∃ l, (itemsE hs wo).length = l := ⟨_, rfl⟩
  obtain ⟨mm4, hmm4⟩ : ∃ m : Int, ((mostE hs wo size d : Nat) : Int) = m := ⟨_, rfl⟩
  obtain ⟨ln4, hln4⟩ : ∃ l, svs4.length = l := ⟨_, rfl⟩
  rw [hli, hld, hmm, hln] at HAll
  rw [hli4, hld, hmm4, hln4] at HAll4
  rw [hli, hld, hmm, hln, hli4, hmm4, hln4]
  clear hli hld hmm hln hli4 hmm4 hln4
  gi_wp2_with (refine ⟨trivial, rfl, ?_⟩; gi_at_call 14; refine (callsIn_wide.2 (askedR_any x n _)).mono ?_; rintro e w' ⟨rfl, rfl⟩)
  obtain ⟨W0, hW0⟩ : ∃ W0, ((((w4.alloc (.cells #[.slice ai li ci, .slice an ln cn, .slice ad ld cd, .int .i64 mm] 36)).alloc (.cells #[.slice ai4 li4 ci4, .slice an4 ln4 cn4, .slice ad4 ld cd4, .int .i64 mm4] 36)).alloc (.cells #[.int .u32 x] 24)).alloc (.cells #[.int .i64 n] 3)) = W0 := ⟨_, rfl⟩
  have hs0 : W0.heap.size = w4.heap.size + 4 := by rw [← hW0]; simp
  have hb0 : Below w4.heap.size w4 W0 := by rw [← hW0]; exact (((below_new w4 _).alloc (by simp) _).alloc (by simp; omega) _).alloc (by simp; omega) _
  have hpb : PBox W0 w4.heap.size (.slice ai li ci) (.slice an ln cn) (.slice ad ld cd) mm := by
    unfold PBox; rw [← hW0]; simp only [alloc_heap, Array.getElem?_push, Array.size_push]
    repeat (first | rw [if_pos trivial] | rw [if_pos (by omega)] | rw [if_neg (by omega)])
  have hpb2 : PBox W0 (w4.heap.size + 1) (.slice ai4 li4 ci4) (.slice an4 ln4 cn4) (.slice ad4 ld cd4) mm4 := by
    unfold PBox; rw [← hW0]; simp only [alloc_heap, Array.getElem?_push, Array.size_push]
    repeat (first | rw [if_pos trivial] | rw [if_pos (by omega)] | rw [if_neg (by omega)])
  have ho2 : W0.heap[w4.heap.size + 2]? = some (Obj.cells #[.int .u32 x] 24 (0, 0)) := by
    rw [← hW0]; simp only [alloc_heap, Array.getElem?_push, Array.size_push]
    repeat (first | rw [if_pos trivial] | rw [if_pos (by omega)] | rw [if_neg (by omega)])
  have ho3 : W0.heap[w4.heap.size + 3]? = some (Obj.cells #[.int .i64 n] 3 (0, 0)) := by
    rw [← hW0]; simp only [alloc_heap, Array.getElem?_push, Array.size_push]
    repeat (first | rw [if_pos trivial] | rw [if_pos (by omega)] | rw [if_neg (by omega)])
  rw [hW0]
  obtain ⟨q1, hq1⟩ : ∃ q : Value × Value × Value × Int, q = (.slice ai li ci, .slice an ln cn, .slice ad ld cd, mm) := ⟨_, rfl⟩
  obtain ⟨q2, hq2⟩ : ∃ q : Value × Value × Value × Int, q = (.slice ai4 li4 ci4, .slice an4 ln4 cn4, .slice ad4 ld cd4, mm4) := ⟨_, rfl⟩
  have hst : ∀ lp W, Below W0.heap.size W0 W → W.heap[w4.heap.size + 4]? = some (.deferred (some [])) → W.heap[w4.heap.size + 4 + 1]? = some lp → VBy w.heap.size w4.heap.size w w4 x n q1 q2 lp (movR hs ws wo x size d 0) W := by
    intro lp W hb hd hl
    have hg2 := HS2.out
    have hb3 := HB3.out
    have hb4 := HB4.out
    have hz := hb3.size
    have hz4 := hb4.size
    have hb : Below w4.heap.size w4 W := hb0.trans (hb.mono (by omega))
    have hbb : Below W0.heap.size W0 W := by assumption
    subst hq1 hq2
    refine ⟨HB3'.out.trans ((hb4.trans (hb.mono hb4.size)).mono HB3'.out.size), (SameFrom.refl _ _).below hb, ?_, hpb.keep hbb, hpb2.keep hbb, (hbb.block _ (by omega)).trans ho2, (hbb.block _ (by omega)).trans ho3, hd, hl, by omega, rfl⟩
    exact (hb.block _ (by omega)).trans ((hb4.block _ (by omega)).trans ((hb3.block _ (by omega)).trans HC2.out))
  have HSt := Lib.hid hst
  have HAl1 : Hid (∀ W', SameFrom (w.heap.size + 1) w4 W' → PlanR W' (.agg #[q1.1, q1.2.1, q1.2.2.1, .int .i64 q1.2.2.2]) (itemsE hs ws) (nodesE hs ws) (domsE d hs) (mostE hs ws size d)) := Lib.hid (fun W' hW => by
    subst hq1
    refine HAll.out W' ?_
    rw [HS2.out]
    exact ((SameFrom.refl _ _).below HB4.out).trans hW (Nat.le_refl _))
  have HAl2 : Hid (∀ W', SameFrom (w.heap.size + 1) w4 W' → PlanR W' (.agg #[q2.1, q2.2.1, q2.2.2.1, .int .i64 q2.2.2.2]) (itemsE hs wo) (nodesE hs wo) (domsE d hs) (mostE hs wo size d)) := Lib.hid (fun W' hW => by
    subst hq2
    exact HAll4.out W' (hW.weak (by have := HS2.out; have := HB3.out.size; omega)))
  obtain ⟨N, hN⟩ : ∃ N, w.heap.size = N := ⟨_, rfl⟩
  have HN := Lib.hid hN
  obtain ⟨B, hB⟩ : ∃ B, w4.heap.size = B := ⟨_, rfl⟩
  rw [hN, hB] at HSt
  rw [hN] at HAl1 HAl2
  rw [hN, hB]
  rw [hB] at hs0
  simp only [Nat.add_assoc, Nat.reduceAdd]
  have HQ1 := Lib.hid hq1; have HQ2 := Lib.hid hq2
  clear HB2 HC2 HS2 HAll HAll4 HB3 HB3' HB4 hW0 hb0 hpb hpb2 ho2 ho3 hst hN hB hq1 hq2
  obtain ⟨m, hm⟩ : ∃ m, askR n = m := ⟨_, rfl⟩
  have HMn := Lib.hid hm
  have HMle : Hid (m ≤ 2000) := Lib.hid (by unfold askR at hm; omega)
  clear hm
  refine range_stmt (n := 0) (gf := 23) (lb := #[.pointer (some ⟨B + 3, 0, none⟩), .pointer (some ⟨B + 2, 0, none⟩)])
    (I := fun W => ∃ lp, VBy N B w w4 x n q1 q2 lp (movR hs ws wo x size d m) W) (X := fun _ => False)
    rfl (enters_of Try.func23 (by kernel_rfl) rfl) ?hit ?hdone ?hstop
  case hit =>
    intro fn rec hrec
    simp only [hs0] at hrec ⊢
    have hit1 := askedR1_any (B + 4 + 1) (B + 3) (B + 2) x HXl.out n (I := fun k W => VBy N B w w4 x n q1 q2 (.loop (rec .ready none)) (movR hs ws wo x size d k) W)
    rw [HMn.out] at hit1
    refine (hit1 ?cells ?yield _ ?start).mono ?post
    case cells => exact fun i W h => ⟨box_cell h.nn, box_cell h.fr⟩
    case start =>
      have b1 : Below W0.heap.size W0 ((W0.alloc (.deferred (some []))).alloc (.loop (rec .ready none))) := ((Below.refl _ W0).alloc (Nat.le_refl _) _).alloc (by simp) _
      refine HSt.out _ _ b1 ?_ ?_
      · simp only [alloc_heap, Array.getElem?_push, Array.size_push, hs0]; simp
      · have := World.alloc_heap_new (W0.alloc (.deferred (some []))) (.loop (rec .ready none))
        rw [World.size_alloc, hs0] at this
        exact this
    case post =>
      rintro e W ⟨hv, h1⟩
      exact ⟨hv, .inl ⟨⟨_, h1⟩, h1.lp, h1.df⟩⟩
    case yield =>
      rintro i W hi hsb
      refine yield_round hrec (Rt := fun W' => VBy N B w w4 x n q1 q2 (.loop (rec .ready none)) (movR hs ws wo x size d (i + 1)) W') (Rf := fun _ => False) ⟨hsb.lp, hsb.df⟩ rfl ?_ |>.mono ?_
      · have HG := Lib.hid hsb
        clear hit1 hrec hsb hs0 HSt
        obtain ⟨z, hz⟩ : ∃ z, (x + i) % 4294967296 = z := ⟨_, rfl⟩
        have hzl : z < 4294967296 := by omega
        have hle := movR_le hs ws wo x size d i
        have hil : i ≤ 2000 := by have := HMle.out; omega
        obtain ⟨pa, hpa⟩ : ∃ pl, plAt hs ws x size d i = pl := ⟨_, rfl⟩
        obtain ⟨pb, hpb⟩ : ∃ pl, plAt hs wo x size d i = pl := ⟨_, rfl⟩
        have HSuc : Hid (movR hs ws wo x size d (i + 1) = movR hs ws wo x size d i + missN pa pb pb.length) := Lib.hid (by rw [← hpa, ← hpb]; rfl)
        have hpn : pb.length ≤ 64 := by rw [← hpb]; exact plAt_len hs wo x size d i
        have HP1 : Hid (∀ v w', PlanR w' v (itemsE hs ws) (nodesE hs ws) (domsE d hs) (mostE hs ws size d) → Calls Try.prog 15 #[v, .int .u32 z] w' (NumI w' (ints pa))) := Lib.hid (fun v w' h => by
          have := HPl.out ws z hzl v w' h
          rw [← hpa]
          show Calls _ _ _ _ (NumI w' (ints (placeE hs ws ((x + i) % 4294967296) size d)))
          rw [hz]; exact this)
        have HP2 : Hid (∀ v w', PlanR w' v (itemsE hs wo) (nodesE hs wo) (domsE d hs) (mostE hs wo size d) → Calls Try.prog 15 #[v, .int .u32 z] w' (NumI w' (ints pb))) := Lib.hid (fun v w' h => by
          have := HPl.out wo z hzl v w' h
          rw [← hpb]
          show Calls _ _ _ _ (NumI w' (ints (placeE hs wo ((x + i) % 4294967296) size d)))
          rw [hz]; exact this)
        generalize movR hs ws wo x size d (i + 1) = mc1 at HSuc ⊢
        generalize movR hs ws wo x size d i = mc at HG HSuc hle
        obtain ⟨P, hP⟩ : ∃ P, pb.length = P := ⟨_, rfl⟩
        have HPn := Lib.hid hP
        rw [hP] at hpn HSuc
        have HMc : Hid (mc ≤ 128000) := Lib.hid (by omega)
        have HPn64 := Lib.hid hpn
        obtain ⟨A, hA⟩ : ∃ P, pa.length = P := ⟨_, rfl⟩
        have HAn := Lib.hid hA
        rw [hz]
        clear hz hzl hpa hpb hle hil hP hA HPl
        gi_wp2
        refine ⟨HG.out.lp, ?_⟩
        have hg3 := HG.out.putLp (.loop (rec .busy none))
        generalize W.putObj (B + 4 + 1) (.loop (rec .busy none)) = W3 at hg3 ⊢
        have HG3 := Lib.hid hg3
        have hq1 := HQ1.out; have hq2 := HQ2.out
        subst hq1 hq2
        obtain ⟨k1, k2, k3, k4⟩ := hg3.pl1.cells
        clear hg3 HG HMn HMle HXl HQ1 HQ2
        refine wpIn_mono (Q := fun e _ W' => e = .normal ∧ Hid (VBy N B w w4 x n (.slice ai li ci, .slice an ln cn, .slice ad ld cd, mm) (.slice ai4 li4 ci4, .slice an4 ln4 cn4, .slice ad4 ld cd4, mm4) (.loop (rec .busy none)) mc1 W')) ?_ ?_
        · gi_upto_region 6 with (refine ⟨trivial, rfl, ?_⟩; gi_at_call 15; refine (callsIn_wide.2 (HP1.out _ W3 (HAl1.out W3 HG3.out.same))).mono ?_; rintro e w5 ⟨v5, rfl, ho, hb⟩; obtain ⟨a5, c5, rfl⟩ := ho.slice; have HG5 := Lib.hid (HG3.out.keep hb); have HO5 := Lib.hid ho; clear hb ho k1 k2 k3 k4; rw [ints_len, HAn.out] at HO5; rw [ints_len, HAn.out])
          obtain ⟨k1, k2, k3, k4⟩ := HG5.out.pl2.cells
          gi_wp2_with (refine ⟨trivial, rfl, ?_⟩; gi_at_call 15; refine (callsIn_wide.2 (HP2.out _ w5 (HAl2.out w5 HG5.out.same))).mono ?_; rintro e w6 ⟨v6, rfl, ho, hb⟩; obtain ⟨a6, c6, rfl⟩ := ho.slice; have HG6 := Lib.hid (HG5.out.keep hb); have HO6 := Lib.hid ho; have HO56 := Lib.hid (HO5.out.below hb); clear hb ho k1 k2 k3 k4; rw [ints_len, HPn.out] at HO6; rw [ints_len, HPn.out])
          have hMN : N < w5.heap.size ∧ N < W3.heap.size ∧ N < w6.heap.size := by
            have h3 := HG3.out.lt; have h5 := HG5.out.lt; have h6 := HG6.out.lt; have hb := HG3.out.nb
            omega
          have HMN := Lib.hid hMN
          obtain ⟨M1, hM1⟩ : ∃ M, W3.heap.size = M := ⟨_, rfl⟩
          obtain ⟨M2, hM2⟩ : ∃ M, w5.heap.size = M := ⟨_, rfl⟩
          rw [hM1, hM2] at HMN
          rw [hM2] at HO6
          rw [hM1] at HO56
          clear hM1 hM2 hMN HO5
          gi_loopw [43] (fun v43 wr => ∃ j : Nat, j ≤ P ∧ v43 = .int .i64 j ∧ VBy N B w w4 x n (.slice ai li ci, .slice an ln cn, .slice ad ld cd, mm) (.slice ai4 li4 ci4, .slice an4 ln4 cn4, .slice ad4 ld cd4, mm4) (.loop (rec .busy none)) (mc + missN pa pb j) wr ∧ Own ic 1 3 wr M2 (.slice a6 P c6) (ints pb) ∧ Own ic 1 3 wr M1 (.slice a5 A c5) (ints pa)) (fun v _ => P - (intOf v).toNat)
          case atStart => exact ⟨0, by omega, rfl, HG6.out, HO6.out, HO56.out⟩
          case round =>
            obtain ⟨j, hj, rfl, hg7, ho7, hp7⟩ := hrel
            by_cases hjn : j < P
            · have hjn' : (j : Int) < P := by omega
              have hj0 : (0 : Int) ≤ j := by omega
              have hjl : j < pb.length := by rw [HPn.out]; exact hjn
              obtain ⟨b5, o5, c5', he5, hb5, hc5⟩ := int_at' (ho7.read ic_len) (L := P) (by rw [ints_len, HPn.out]) hjn
              obtain ⟨rfl, rfl⟩ : a6 = some ⟨b5, o5, none⟩ ∧ c6 = c5' := by cases he5; exact ⟨rfl, rfl⟩
              have d1 := hc5 j (by rw [ints_len]; exact hjl)
              have e1 : (ints pb)[j]'(by rw [ints_len]; exact hjl) = (pb[j] : Int) := by simp [ints]
              rw [e1] at d1
              have hgd : pb.getD j 0 = pb[j] := by rw [List.getD_eq_getElem?_getD, List.getElem?_eq_getElem hjl]; rfl
              have HNx : Hid (missN pa pb (j + 1) = missN pa pb j + if pa.contains pb[j] then 0 else 1) := Lib.hid (by rw [missN, hgd])
              have hml := missN_le pa pb j
              obtain ⟨p, hp⟩ : ∃ p, pb[j] = p := ⟨_, rfl⟩
              rw [hp] at d1 HNx
              have hci : (ints pa).contains (p : Int) = pa.contains p := by
                rw [Bool.eq_iff_iff, List.contains_iff_mem, List.contains_iff_mem]
                unfold ints
                rw [List.mem_map]
                constructor
                · rintro ⟨a, h, e⟩
                  obtain rfl : a = p := by omega
                  exact h
                · exact fun h => ⟨p, h, rfl⟩
              have HCo := Lib.hid (Contains_any (.slice a5 A c5) (ints pa) (p : Int) wr (hp7.read ic_len))
              rw [hci] at HCo
              have HG7 := Lib.hid hg7; have HO7 := Lib.hid ho7; have HP7 := Lib.hid hp7
              obtain ⟨u, hu⟩ : ∃ u, pa.contains p = u := ⟨_, rfl⟩
              rw [hu] at HNx HCo
              have hmc : mc + missN pa pb j ≤ 200000 := by have := HPn64.out; have := HMc.out; omega
              generalize missN pa pb j = mj at HNx HG7 hmc
              clear hg7 ho7 hp7 he5 hb5 hc5 e1 hgd hp hci hu hml hjl
              cases u with
              | true =>
                have HN2 : Hid (missN pa pb (j + 1) = mj) := Lib.hid (by rw [HNx.out]; rfl)
                gi_wp2_with (refine ⟨trivial, rfl, ?_⟩; gi_at_call 18; refine (callsIn_wide.2 HCo.out).mono ?_; rintro e w8 ⟨rfl, hb⟩; have HG8 := Lib.hid (HG7.out.keep hb); have HO8 := Lib.hid (HO7.out.below hb); have HP8 := Lib.hid (HP7.out.below hb); clear hb d1)
                go_roundw
                case rel => exact ⟨j + 1, by omega, by go_num, by rw [HN2.out]; exact HG8.out, HO8.out, HP8.out⟩
                case measure => simp [intOf]; omega
              | false =>
                have HN2 : Hid (mc + missN pa pb (j + 1) = mc + mj + 1) := Lib.hid (by rw [HNx.out]; rfl)
                gi_wp2_with (refine ⟨trivial, rfl, ?_⟩; gi_at_call 18; refine (callsIn_wide.2 HCo.out).mono ?_; rintro e w8 ⟨rfl, hb⟩; have HG8 := Lib.hid (HG7.out.keep hb); have HO8 := Lib.hid (HO7.out.below hb); have HP8 := Lib.hid (HP7.out.below hb); have kc := box_cell HG8.out.cnt; have kf := box_frozen HG8.out.cnt; clear hb d1)
                have HG9 := Lib.hid HG8.out.up
                have HO9 := Lib.hid (HO8.out.setOther (N := N) (fun e => by have := (HO8.out.blk _ e).1; have := HMN.out; omega) 0 (.int .i64 (((mc + mj : Nat) : Int) + 1)))
                have HP9 := Lib.hid (HP8.out.setOther (N := N) (fun e => by have := (HP8.out.blk _ e).1; have := HMN.out; omega) 0 (.int .i64 (((mc + mj : Nat) : Int) + 1)))
                clear kc kf
                go_roundw
                case rel => exact ⟨j + 1, by omega, by go_num, by rw [HN2.out]; exact HG9.out, HO9.out, HP9.out⟩
                case measure => simp [intOf]; omega
            · obtain rfl : j = P := by omega
              have HG8 : Hid (VBy N B w w4 x n (.slice ai li ci, .slice an ln cn, .slice ad ld cd, mm) (.slice ai4 li4 ci4, .slice an4 ln4 cn4, .slice ad4 ld cd4, mm4) (.loop (rec .busy none)) mc1 wr) := Lib.hid (by rw [HSuc.out]; exact hg7)
              clear hg7 ho7 hp7
              gi_wp2
        · rintro e a8 W8 ⟨rfl, HZ2⟩
          exact ⟨HZ2.out.lp, HZ2.out.putLp _⟩
      · rintro e W' (⟨he, h⟩ | ⟨_, h⟩)
        · exact ⟨he, h⟩
        · exact h.elim
  case hdone =>
    rintro W r2 r' ⟨lp, hgb⟩ hb
    simp only [hs0]
    have hg2 := hgb.putLp (.loop r')
    clear hgb hb
    generalize W.putObj (B + 4 + 1) (.loop r') = W3 at hg2 ⊢
    have k7 := box_cell hg2.cnt
    have HG3 := Lib.hid hg2
    clear hg2
    gi_wp2
    have hg5 := HG3.out
    refine ⟨by simp, .inl ⟨_, _, rfl, run_takeDeferred hg5.df, ?_⟩⟩
    refine ⟨_, results_tmp rfl _ _, ?_, by rw [HN.out]; exact below_putObj' hg5.bel (B + 4) (.deferred none) (by have := hg5.nb; omega)⟩
    rw [HMn.out]
    rfl
  case hstop => exact fun _ _ _ h => h.elim
end Go.Proofs.Ytngmcolbpdinmaa.crush
