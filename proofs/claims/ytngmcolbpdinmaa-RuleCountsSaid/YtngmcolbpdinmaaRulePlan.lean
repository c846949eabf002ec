/- The plan that places go by. -/
import Derived.Test.YtngmcolbpdinmaaRows
import Derived.Test.YtngmcolbpdinmaaRuleGrp
namespace Go.Proofs.Ytngmcolbpdinmaa.crush
open Go.RowKit
open Go.Proofs.Ytngmcolbpdinmaa.kit Go.Proofs.Ytngmcolbpdinmaa.own
set_option linter.unusedVariables false

theorem sizePlan : (Try.prog.info? 36).map (·.size) = some 4 := by kernel_rfl
/-- The box of a plan. -/
def PBox (W : World) (N : Nat) (a b c : Value) (m : Int) : Prop := W.heap[N]? = some (.cells #[a, b, c, .int .i64 m] 36 (0, 0))
theorem PBox.keep {W W' : World} {N : Nat} {a b c : Value} {m : Int} (h : PBox W N a b c m) (hb : Below W.heap.size W W') : PBox W' N a b c m := (hb.block N (Array.getElem?_eq_some_iff.1 h).1).trans h
theorem PBox.lt {W : World} {N : Nat} {a b c : Value} {m : Int} (h : PBox W N a b c m) : N < W.heap.size := (Array.getElem?_eq_some_iff.1 h).1
theorem PBox.cells {W : World} {N : Nat} {a b c : Value} {m : Int} (h : PBox W N a b c m) : W.cell? ⟨N, 0, none⟩ = some a ∧ W.cell? ⟨N, 1, none⟩ = some b ∧ W.cell? ⟨N, 2, none⟩ = some c ∧ W.cell? ⟨N, 3, none⟩ = some (.int .i64 m) := by
  unfold PBox at h
  refine ⟨?_, ?_, ?_, ?_⟩ <;> simp [World.cell?, h]
theorem PBox.thaw {W : World} {N : Nat} {a b c : Value} {m : Int} (h : PBox W N a b c m) : W.frozen? ⟨N, 0, none⟩ = false ∧ W.frozen? ⟨N, 1, none⟩ = false ∧ W.frozen? ⟨N, 2, none⟩ = false ∧ W.frozen? ⟨N, 3, none⟩ = false := by
  unfold PBox at h
  refine ⟨?_, ?_, ?_, ?_⟩ <;> simp [World.frozen?, h]
theorem PBox.range {W : World} {N : Nat} {a b c : Value} {m : Int} (h : PBox W N a b c m) : W.rangeAt N 0 [a, b, c, .int .i64 m] := fun j v hv => by
  unfold PBox at h
  simp only [World.cell?, h]
  simpa using hv
theorem PBox.set {W : World} {N : Nat} {a b c : Value} {m : Int} (h : PBox W N a b c m) (a' b' c' : Value) (m' : Int) : PBox ((((W.setCell ⟨N, 0, none⟩ a').setCell ⟨N, 1, none⟩ b').setCell ⟨N, 2, none⟩ c').setCell ⟨N, 3, none⟩ (.int .i64 m')) N a' b' c' m' := by
  have h1 := heap_setCell_same W N 0 _ _ a' h
  have h2 := heap_setCell_same _ N 1 _ _ b' h1
  have h3 := heap_setCell_same _ N 2 _ _ c' h2
  have h4 := heap_setCell_same _ N 3 _ _ (.int .i64 m') h3
  exact h4
theorem pbox_new (w : World) (a b c : Value) (m : Int) : PBox (w.alloc (.cells #[a, b, c, .int .i64 m] 36)) w.heap.size a b c m := alloc_at w _
theorem retP {fn : Func} {t : Tmp} {tmps : Array Value} {w : World} {N : Nat} {a b c : Value} {m : Int} (h : fn.results = #[.cell t 36]) (ht : tmps.getD t undef = .pointer (some ⟨N, 0, none⟩)) (hx : PBox w N a b c m) :
    (results fn tmps).run Try.prog w = .ok (.agg #[a, b, c, .int .i64 m]) w := ret_cell h ht hx.range Try.underlying36 rfl sizePlan

/-- A plan that is read. -/
def PlanR (w : World) (v : Value) (its : List It) (nds : List (List It)) (ds : List Int) (m : Nat) : Prop := ∃ vi vn vd, v = .agg #[vi, vn, vd, .int .i64 m] ∧ PlanRd w vi vn its nds ∧ Sl ic 1 w vd ds
theorem PlanR.keep {w w' : World} {v : Value} {its : List It} {nds : List (List It)} {ds : List Int} {m : Nat} (h : PlanR w v its nds ds m) (hb : Below w.heap.size w w') : PlanR w' v its nds ds m := by
  obtain ⟨vi, vn, vd, rfl, h1, h2⟩ := h
  exact ⟨vi, vn, vd, rfl, h1.keep hb, h2.keep hb⟩
def DrawF (w : World) (hs ws : List Int) (size d : Int) (e : Ending) (w' : World) : Prop := ∃ v, e = .returned v ∧ (∀ W', SameFrom w.heap.size w' W' → PlanR W' v (itemsE hs ws) (nodesE hs ws) (domsE d hs) (mostE hs ws size d)) ∧ Below w.heap.size w w'
theorem SameFrom.trans {B B' : Nat} {W W1 W2 : World} (h : SameFrom B W W1) (h2 : SameFrom B' W1 W2) (hB : B' ≤ B) : SameFrom B W W2 := ⟨Nat.le_trans h.1 h2.1, fun b a c => (h2.2 b (by omega) (Nat.lt_of_lt_of_le c h.1)).trans (h.2 b a c)⟩
def DrawS (w : World) (hs ws : List Int) (size d : Int) (e : Ending) (w' : World) : Prop := ∃ v, e = .returned v ∧ PlanR w' v (itemsE hs ws) (nodesE hs ws) (domsE d hs) (mostE hs ws size d) ∧ Below w.heap.size w w'

set_option maxHeartbeats 8000000 in
set_option maxRecDepth 100000 in
theorem drawF_any (v vw : Value) (hs ws : List Int) (size d : Int) (w : World) (h : Sl ic 1 w v hs) (hw : Sl ic 1 w vw ws) (hl : hs.length ≤ 65536) (hsz : I64 size) : Calls Try.prog 13 #[v, vw, .int .i64 size, .int .i64 d] w (DrawF w hs ws size d) := by
  obtain ⟨a, c, rfl⟩ := h.slice
  obtain ⟨aw, cw, rfl⟩ := hw.slice
  have hb0 := below_new w (.cells #[.slice none 0 0, .slice none 0 0, .slice none 0 0, .int .i64 0] 36)
  have HX0 := Lib.hid (pbox_new w (.slice none 0 0) (.slice none 0 0) (.slice none 0 0) 0)
  have HG := Lib.hid (group_any _ _ hs ws _ (h.keep hb0) (hw.keep hb0) hl)
  have HD := Lib.hid (fun w' (hb : Below w.heap.size w w') => domains_any _ hs d w' (h.keep hb) hl)
  have HMo := Lib.hid (fun w' (hb : Below w.heap.size w w') => Most_any _ _ hs ws size d w' (h.keep hb) (hw.keep hb) hl hsz)
  have HB0 := Lib.hid hb0
  generalize hs.length = L at HG HD HMo ⊢
  generalize ws.length = Lw at HG HMo ⊢
  clear h hw hb0 hsz
  go_enter Try.func13, Try.ntmps13
  go_upto_region 1 with fail
  go_wp2_with fail
  refine HG.out.mono ?_
  rintro e w1 ⟨vi, vn, rfl, hall, hb⟩
  have hpl := hall w1 (SameFrom.refl _ _)
  have HB1 := Lib.hid (HB0.out.trans (hb.mono HB0.out.size))
  have HX1 := Lib.hid (HX0.out.keep hb)
  obtain ⟨⟨ai, ci, rfl⟩, svs, hn, h3, h4⟩ := And.intro hpl.1.slice hpl.2
  obtain ⟨an, cn, rfl⟩ := hn.slice
  have HAll := Lib.hid hall
  have HSm := Lib.hid (SameFrom.refl (w.heap.size + 1) w1)
  rw [World.size_alloc] at HAll
  clear hb HX0 HG hpl hall hn h3 h4
  go_upto_region 2 with fail
  go_wp2_with fail
  refine (HD.out w1 HB1.out).mono ?_
  rintro e w2 ⟨vd, rfl, ho, hb⟩
  obtain ⟨ad, cd, rfl⟩ := ho.slice
  have HB2 := Lib.hid (HB1.out.trans (hb.mono HB1.out.size))
  have HX2 := Lib.hid (HX1.out.keep hb)
  have HS2 := Lib.hid (HSm.out.below hb)
  have HO2 := Lib.hid (ho.mono (show w.heap.size + 1 ≤ w1.heap.size from by have := HX1.out.lt; omega))
  clear hb ho HX1 HSm HD HB1
  go_wp2_with fail
  refine (HMo.out w2 HB2.out).mono ?_
  rintro e w3 ⟨rfl, hb⟩
  have HB3 := Lib.hid (HB2.out.trans (hb.mono HB2.out.size))
  have HX3 := Lib.hid (HX2.out.keep hb)
  have HS3 := Lib.hid (HS2.out.below hb)
  have HO3 := Lib.hid (HO2.out.below hb)
  clear hb HX2 HS2 HO2 HB2 HMo
  obtain ⟨e1, e2, e3, e4⟩ := HX3.out.cells
  obtain ⟨t1, t2, t3, t4⟩ := HX3.out.thaw
  have HF := Lib.hid (HX3.out.set (.slice ai (itemsE hs ws).length ci) (.slice an svs.length cn) (.slice ad (domsE d hs).length cd) (mostE hs ws size d))
  have HSf := Lib.hid ((((HS3.out.set (N := w.heap.size) (by omega) 0 (.slice ai (itemsE hs ws).length ci)).set (N := w.heap.size) (by omega) 1 (.slice an svs.length cn)).set (N := w.heap.size) (by omega) 2 (.slice ad (domsE d hs).length cd)).set (N := w.heap.size) (by omega) 3 (.int .i64 (mostE hs ws size d)))
  have HOf := Lib.hid (((((HO3.out.setOther (N := w.heap.size) (fun e => by have := (HO3.out.blk _ e).1; omega) 0 (.slice ai (itemsE hs ws).length ci))).setOther (N := w.heap.size) (fun e => by have := (HO3.out.blk _ e).1; omega) 1 (.slice an svs.length cn)).setOther (N := w.heap.size) (fun e => by have := (HO3.out.blk _ e).1; omega) 2 (.slice ad (domsE d hs).length cd)).setOther (N := w.heap.size) (fun e => by have := (HO3.out.blk _ e).1; omega) 3 (.int .i64 (mostE hs ws size d)))
  have HBf := Lib.hid ((((HB3.out.setCell (p := ⟨w.heap.size, 0, none⟩) (Nat.le_refl _) (.slice ai (itemsE hs ws).length ci)).setCell (p := ⟨w.heap.size, 1, none⟩) (Nat.le_refl _) (.slice an svs.length cn)).setCell (p := ⟨w.heap.size, 2, none⟩) (Nat.le_refl _) (.slice ad (domsE d hs).length cd)).setCell (p := ⟨w.heap.size, 3, none⟩) (Nat.le_refl _) (.int .i64 (mostE hs ws size d)))
  go_wp2
  refine bodyPost_ret (retP rfl rfl HF.out) rfl ?_
  exact ⟨_, rfl, fun W' hW => ⟨_, _, _, rfl, HAll.out _ (HSf.out.trans hW (by omega)), (HOf.out.same hW (by omega)).read ic_len⟩, HBf.out⟩
theorem draw_any (v vw : Value) (hs ws : List Int) (size d : Int) (w : World) (h : Sl ic 1 w v hs) (hw : Sl ic 1 w vw ws) (hl : hs.length ≤ 65536) (hsz : I64 size) : Calls Try.prog 13 #[v, vw, .int .i64 size, .int .i64 d] w (DrawS w hs ws size d) :=
  (drawF_any v vw hs ws size d w h hw hl hsz).mono (by
    rintro e w' ⟨v, rfl, h1, h2⟩
    exact ⟨v, rfl, h1 w' (SameFrom.refl _ _), h2⟩)
end Go.Proofs.Ytngmcolbpdinmaa.crush
