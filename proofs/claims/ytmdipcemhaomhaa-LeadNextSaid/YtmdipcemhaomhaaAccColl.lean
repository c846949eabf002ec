/- slices.Collect and AppendSeq of the texts from a place on. -/
import Derived.Test.YtmdipcemhaomhaaRows
import Derived.Test.YtmdipcemhaomhaaAccLrn
namespace Go.Proofs.Ytmdipcemhaomhaa.crush
open Go.RowKit
open Go.Proofs.Ytmdipcemhaomhaa.kit Go.Proofs.Ytmdipcemhaomhaa.own Go.Proofs.Ytmdipcemhaomhaa.iter
set_option linter.unusedVariables false
set_option linter.unusedSimpArgs false
attribute [local go_sem] Oper.semAt_some

/-- The boxes of AppendSeq. -/
structure SBx (w : World) (N : Nat) (out : List ByteArray) (lp : Obj) (vo : Value) (W : World) : Prop where
  hN : N = w.heap.size
  bel : Below w.heap.size w W
  box : Box W N 24 vo
  own : Own tx 1 9 W (N + 1) vo out
  df : W.heap[N + 1]? = some (.deferred (some []))
  lp : W.heap[N + 1 + 1]? = some lp
section
variable {w : World} {N : Nat} {out : List ByteArray} {lp : Obj} {lr : Loop} {vo : Value} {W W' : World}
theorem SBx.lt (h : SBx w N out lp vo W) : N + 1 + 1 < W.heap.size := (Array.getElem?_eq_some_iff.1 h.lp).1
theorem SBx.keep (h : SBx w N out lp vo W) (hb : Below W.heap.size W W') : SBx w N out lp vo W' := by
  have hl := h.lt
  exact ⟨h.hN, h.bel.trans (hb.mono h.bel.size), (hb.block _ (box_lt h.box)).trans h.box, h.own.below hb, (hb.block _ (by omega)).trans h.df, (hb.block _ (by omega)).trans h.lp⟩
theorem SBx.putLp (h : SBx w N out (.loop lr) vo W) (o : Obj) : SBx w N out o vo (W.putObj (N + 1 + 1) o) :=
  ⟨h.hN, below_putObj h.bel _ _ (by have := h.hN; omega), (World.putObj_heap_other (by omega)).trans h.box, h.own.putObj _ _ (fun c t f e => by rw [h.lp] at e; cases e), (World.putObj_heap_other (by omega)).trans h.df, World.putObj_heap_same h.lt⟩
theorem SBx.grow (h : SBx w N out (.loop lr) vo W) {w9 : World} {v9 : Value} {y : ByteArray} (ho : Own tx 1 9 w9 (N + 1) v9 (out ++ [y])) (hk : Kept (N + 1) 9 W w9) : SBx w N (out ++ [y]) (.loop lr) v9 (w9.setCell ⟨N, 0, none⟩ v9) := by
  have hb9 : Box w9 N 24 vo := (hk.below N (by omega)).trans h.box
  have hNw := h.hN
  exact ⟨h.hN, (h.bel.trans (hk.toBelow.mono (by omega))).setCell (p := ⟨N, 0, none⟩) (by rw [hNw]; exact Nat.le_refl _) _, box_set hb9 v9, ho.far6 (by omega) 0 v9,
    (heap_setCell_other _ _ _ _ (by show N + 1 ≠ N; omega)).trans ((hk.other _ (Array.getElem?_eq_some_iff.1 h.df).1 (fun c f e => by rw [h.df] at e; cases e)).trans h.df),
    (heap_setCell_other _ _ _ _ (by show N + 1 + 1 ≠ N; omega)).trans ((hk.other _ h.lt (fun c f e => by rw [h.lp] at e; cases e)).trans h.lp)⟩
end

set_option maxHeartbeats 8000000 in
set_option maxRecDepth 100000 in
theorem appendSeq_any (bf bl : Nat) (xs : List ByteArray) (v : Value) (f : Int) (w : World) (hbf : Box w bf 2 (.int .i64 f)) (hbl : Box w bl 24 v) (hs : Sl tx 1 w v xs) (hcp : ∃ x c, v = .slice x xs.length c ∧ xs.length ≤ c) (hlen : xs.length * 16 ≤ 140737488355328) :
    Calls Try.prog 61 #[.slice none 0 0, .func (.func 60) #[] #[.pointer (some ⟨bf, 0, none⟩), .pointer (some ⟨bl, 0, none⟩)]] w (RowS tx 1 9 w (fromL xs f)) := by
  have HCp := Lib.hid hcp
  have HS0 : Hid (∀ W', Below w.heap.size w W' → W'.cell? ⟨bf, 0, none⟩ = some (.int .i64 f) ∧ W'.cell? ⟨bl, 0, none⟩ = some v ∧ Sl tx 1 W' v xs) := Lib.hid (fun W' hW => ⟨box_cell ((hW.block _ (box_lt hbf)).trans hbf), box_cell ((hW.block _ (box_lt hbl)).trans hbl), hs.keep hW⟩)
  have HLn : Hid ((fromL xs f).length * 16 ≤ 140737488355328) := Lib.hid (by
    have : (fromL xs f).length ≤ xs.length := by unfold fromL; split <;> simp
    omega)
  clear hs hbf hbl hcp hlen
  refine (callsIn_wide (n := 0)).1 ?_
  refine callsIn_of_wp_marks Try.func61 rfl trivial ?_ rfl
  simp only [Try.ntmps61, List.size_toArray, List.length_cons, List.length_nil, Nat.reduceAdd, Nat.reduceSub, Array.replicate_succ, Array.replicate_zero, List.push_toArray, List.append_toArray, List.nil_append, List.cons_append]
  gi_wp2
  obtain ⟨W0, hW0⟩ : ∃ W0, w.alloc (.cells #[.slice none 0 0] 24) = W0 := ⟨_, rfl⟩
  have hs0 : W0.heap.size = w.heap.size + 1 := by rw [← hW0]; simp
  have HSt : Hid (∀ lp W, Below W0.heap.size W0 W → W.heap[w.heap.size + 1]? = some (.deferred (some [])) → W.heap[w.heap.size + 1 + 1]? = some lp → SBx w w.heap.size [] lp (.slice none 0 0) W) := Lib.hid (fun lp W hb hd hl => by
    have hbw : Below w.heap.size w W0 := by rw [← hW0]; exact below_new w _
    have hbx : Box W0 w.heap.size 24 (.slice none 0 0) := by rw [← hW0]; exact alloc_at w _
    exact ⟨rfl, hbw.trans (hb.mono (by omega)), (hb.block _ (by omega)).trans hbx, Own.nil _ _ _, hd, hl⟩)
  rw [hW0]
  clear hW0
  refine range_stmtX (n := 0) (gf := 60) (lb := #[.pointer (some ⟨bf, 0, none⟩), .pointer (some ⟨bl, 0, none⟩)])
    (I := fun W => ∃ vo lr, SBx w w.heap.size (fromL xs f) (.loop lr) vo W) (X := fun c W => False)
    rfl (enters_of Try.func60 (by kernel_rfl) rfl) ?hit ?hdone ?hstop
  case hit =>
    intro fn rec hrec
    simp only [hs0] at hrec ⊢
    refine (from1_any (w.heap.size + 1 + 1) bf bl xs v f (I := fun k W => ∃ vo, SBx w w.heap.size ((fromL xs f).take k) (.loop (rec .ready none)) vo W) (X := fun _ _ => False) ?cells ?yield HCp.out _ ?start).mono ?post
    case cells => exact fun i W ⟨vo, h⟩ => HS0.out W h.bel
    case start =>
      have b1 : Below W0.heap.size W0 ((W0.alloc (.deferred (some []))).alloc (.loop (rec .ready none))) := ((Below.refl _ W0).alloc (Nat.le_refl _) _).alloc (by simp) _
      have h2 := two_at W0 (.deferred (some [])) (.loop (rec .ready none))
      rw [hs0] at h2
      exact ⟨_, by rw [List.take_zero]; exact HSt.out _ _ b1 h2.1 h2.2⟩
    case post =>
      rintro e W ⟨hv, (⟨vo, h1⟩ | ⟨k, hk, h1⟩)⟩
      · rw [List.take_length] at h1
        exact ⟨hv, .inl ⟨⟨vo, _, h1⟩, h1.lp, h1.df⟩⟩
      · exact h1.elim
    case yield =>
      rintro k W hk ⟨vo, hsb⟩
      refine yield_roundX hrec (Rt := fun W' => ∃ vo, SBx w w.heap.size ((fromL xs f).take (k + 1)) (.loop (rec .ready none)) vo W') (Rx := fun c W' => False) ⟨hsb.lp, hsb.df⟩ rfl ?_ |>.mono ?_
      · obtain ⟨z, hz⟩ : ∃ z, (fromL xs f)[k] = z := ⟨_, rfl⟩
        rw [hz]
        have htk : (fromL xs f).take (k + 1) = (fromL xs f).take k ++ [z] := by rw [← hz]; exact List.take_succ_eq_append_getElem hk
        have hol : ((fromL xs f).take k).length + 1 ≤ (fromL xs f).length := by rw [List.length_take]; omega
        rw [htk]
        generalize (fromL xs f).take k = O at hsb hol ⊢
        have HOl : Hid ((O.length + 1) * 16 ≤ 140737488355328) := Lib.hid (by have := HLn.out; omega)
        obtain ⟨ax, cx, rfl⟩ := hsb.own.slice
        have HSb := Lib.hid hsb
        clear hrec hsb hk hz htk hs0 hol HSt
        obtain ⟨P, hPp⟩ : ∃ P, O.length = P := ⟨_, rfl⟩
        have HPp := Lib.hid hPp
        rw [hPp] at HSb
        clear hPp
        gi_wp2
        refine ⟨HSb.out.lp, ?_⟩
        have hg5 := HSb.out.putLp (.loop (rec .busy none))
        generalize W.putObj (w.heap.size + 1 + 1) (.loop (rec .busy none)) = W5 at hg5 ⊢
        have k0 := box_cell hg5.box
        have HG6 := Lib.hid hg5
        clear hg5
        gi_wp2_with (gi_at_builtin; refine app1G_in tx_len tx_one (by decide) rfl (.tmp 8) (.tmp 10) 24 rfl (w.heap.size + 1) 9 _ (by rfl) 16 Try.underlying24 infoTxt _ O rfl HG6.out.own z _ rfl _ rfl rfl (by have h1 := HOl.out; unfold maxLen; omega) HOl.out (by have := HG6.out.lt; omega) ?_; intro v9 w9 ho9 hk9; have hgr := HG6.out.grow ho9 hk9; have hb9 : Box w9 w.heap.size 24 (.slice ax P cx) := ((hk9.below w.heap.size (by omega)).trans HG6.out.box); obtain ⟨x9, y9, hv9⟩ := ho9.slice; subst hv9; have cN := box_cell hb9; have fN := box_frozen hb9; have HGr := Lib.hid hgr; clear hgr hb9 ho9 hk9 k0)
        have e9 : (O ++ [z]).length = O.length + 1 := by simp
        rw [e9] at HGr
        exact ⟨HGr.out.lp, _, HGr.out.putLp _⟩
      · rintro e W' (⟨he, h⟩ | ⟨he, c, h⟩)
        · exact .inl ⟨he, h⟩
        · exact h.elim
  case hdone =>
    rintro W r r' ⟨vo, lr, hgb⟩ hb
    simp only [hs0]
    have hg2 := hgb.putLp (.loop r')
    obtain ⟨ax, cx, rfl⟩ := hgb.own.slice
    clear hgb hb
    generalize W.putObj (w.heap.size + 1 + 1) (.loop r') = W3 at hg2 ⊢
    have k0 := box_cell hg2.box
    have HG3 := Lib.hid hg2
    clear hg2
    gi_wp2
    refine ⟨by simp, .inl ⟨_, _, rfl, run_takeDeferred HG3.out.df, ?_⟩⟩
    refine ⟨_, results_tmp rfl _ _, _, rfl, (HG3.out.own.putObj (w.heap.size + 1) (.deferred none) (fun c t f e => by rw [HG3.out.df] at e; cases e)).mono (by omega), below_putObj HG3.out.bel (w.heap.size + 1) (.deferred none) (by omega)⟩
  case hstop => exact fun _ _ _ _ h => h.elim

set_option maxHeartbeats 4000000 in
set_option maxRecDepth 100000 in
theorem collect_any (bf bl : Nat) (xs : List ByteArray) (v : Value) (f : Int) (w : World) (hbf : Box w bf 2 (.int .i64 f)) (hbl : Box w bl 24 v) (hs : Sl tx 1 w v xs) (hcp : ∃ x c, v = .slice x xs.length c ∧ xs.length ≤ c) (hlen : xs.length * 16 ≤ 140737488355328) :
    Calls Try.prog 51 #[.func (.func 60) #[] #[.pointer (some ⟨bf, 0, none⟩), .pointer (some ⟨bl, 0, none⟩)]] w (RowS tx 1 9 w (fromL xs f)) := by
  have HA := Lib.hid (appendSeq_any bf bl xs v f w hbf hbl hs hcp hlen)
  clear hbf hbl hs hcp hlen
  go_enter Try.func51, Try.ntmps51
  go_wp2_with fail
  refine HA.out.mono ?_
  rintro e w2 ⟨v2, rfl, ho, hb⟩
  obtain ⟨a2, c2, rfl⟩ := ho.slice
  have HO := Lib.hid ho; have HB := Lib.hid hb
  clear ho hb
  go_wp2
  go_ret
  exact ⟨_, rfl, HO.out, HB.out⟩
end Go.Proofs.Ytmdipcemhaomhaa.crush
