/- The document's First. -/
import Derived.Test.YtcofmfjhgbihkaaRows
import Derived.Test.YtcofmfjhgbihkaaMapsRApp
import Derived.Test.YtcofmfjhgbihkaaMapsOk
import Derived.Test.YtcofmfjhgbihkaaMapsHas
namespace Go.Proofs.Ytcofmfjhgbihkaa.crush
open Go.RowKit
open Go.Proofs.Ytcofmfjhgbihkaa.kit Go.Proofs.Ytcofmfjhgbihkaa.own
set_option linter.unusedVariables false
set_option linter.unusedSimpArgs false

/-- The boxes of First: the result, the map. -/
structure FbB (w : World) (hs : List Int) (k : Nat) (vh vo : Value) (W : World) : Prop where
  bel : Below w.heap.size w W
  res : MBox W w.heap.size 83 0 (.slice none 0 0) (.slice none 0 0) (.slice none 0 0) (.slice none 0 0)
  cp : MBox W (w.heap.size + 1) 83 0 vh vo (.slice none 0 0) (.slice none 0 0)
  h : Own ic 1 3 W (w.heap.size + 1 + 1) vh hs
  o : Own oc 4 132 W (w.heap.size + 1 + 1) vo (List.replicate k osd0)
theorem FbB.keep {w : World} {hs : List Int} {k : Nat} {vh vo : Value} {W W' : World} (h : FbB w hs k vh vo W) (hb : Below W.heap.size W W') : FbB w hs k vh vo W' :=
  ⟨h.bel.trans (hb.mono h.bel.size), h.res.keep hb, h.cp.keep hb, h.h.below hb, h.o.below hb⟩
theorem FbB.newO {w : World} {hs : List Int} {k : Nat} {vh vo : Value} {W W' : World} (h : FbB w hs k vh vo W) (hk : Kept (w.heap.size + 1 + 1) 132 W W') {v' : Value} (ho : Own oc 4 132 W' (w.heap.size + 1 + 1) v' (List.replicate k osd0 ++ [osd0])) :
    FbB w hs (k + 1) vh v' (W'.setCell ⟨w.heap.size + 1, 2, none⟩ v') := by
  have hb := hk.toBelow
  have hcp := hk.box (by decide) (show W.heap[w.heap.size + 1]? = some (.cells #[.int .i64 0, vh, vo, .slice none 0 0, .slice none 0 0] 83 (0, 0)) from h.cp)
  have e : List.replicate (k + 1) osd0 = List.replicate k osd0 ++ [osd0] := List.replicate_succ'
  refine ⟨(h.bel.trans (hb.mono (by omega))).setCell (p := ⟨w.heap.size + 1, 2, none⟩) (by show w.heap.size ≤ w.heap.size + 1; omega) _, ?_, MBox.at2 (show MBox W' (w.heap.size + 1) 83 0 vh vo (.slice none 0 0) (.slice none 0 0) from hcp) v', (h.h.keptM hk (by decide)).far hcp (by decide) _ _, ?_⟩
  · exact (heap_setCell_other _ _ _ _ (by show w.heap.size ≠ w.heap.size + 1; omega)).trans ((hb.block _ (by omega)).trans h.res)
  · rw [e]; exact ho.far hcp (by decide) _ _

set_option maxHeartbeats 16000000 in
set_option maxRecDepth 100000 in
theorem rFirst_any (v : Value) (hs : List Int) (w : World) (h : Sl ic 1 w v hs) : Calls Try.prog 81 #[v] w (AppS w (firstE hs)) := by
  have HF := Lib.hid (fun u (hu : Below w.heap.size w u) => rHosts_any v hs u (h.keep hu))
  have HS := Lib.hid (fun u (hu : Below w.heap.size w u) => h.keep hu)
  have HOk := Lib.hid (fun (e : okHosts hs = true) => okHosts_len e)
  obtain ⟨q, hq⟩ : ∃ q, okHosts hs = q := ⟨_, rfl⟩
  rw [hq] at HF
  have HE : Hid (firstE hs = if q then ⟨0, hs, List.replicate hs.length osd0, [], []⟩ else ⟨0, [], [], [], []⟩) := Lib.hid (by unfold firstE; rw [hq])
  have HQ := Lib.hid hq
  obtain ⟨a, c, rfl⟩ := h.slice
  generalize firstE hs = mr at HE ⊢
  obtain ⟨L, hL⟩ : ∃ L, hs.length = L := ⟨_, rfl⟩
  have HL := Lib.hid hL
  rw [hL] at HF HS HOk HE ⊢
  have b1 := below_new w (.cells #[.int .i64 0, .slice none 0 0, .slice none 0 0, .slice none 0 0, .slice none 0 0] 83)
  have b2 := below_new (w.alloc (.cells #[.int .i64 0, .slice none 0 0, .slice none 0 0, .slice none 0 0, .slice none 0 0] 83)) (.cells #[.int .i64 0, .slice none 0 0, .slice none 0 0, .slice none 0 0, .slice none 0 0] 83)
  have x1 := mbox_new w 83 0 (.slice none 0 0) (.slice none 0 0) (.slice none 0 0) (.slice none 0 0)
  have x2 := mbox_new (w.alloc (.cells #[.int .i64 0, .slice none 0 0, .slice none 0 0, .slice none 0 0, .slice none 0 0] 83)) 83 0 (.slice none 0 0) (.slice none 0 0) (.slice none 0 0) (.slice none 0 0)
  rw [World.size_alloc] at x2
  have HX : Hid (Below w.heap.size w ((w.alloc (.cells #[.int .i64 0, .slice none 0 0, .slice none 0 0, .slice none 0 0, .slice none 0 0] 83)).alloc (.cells #[.int .i64 0, .slice none 0 0, .slice none 0 0, .slice none 0 0, .slice none 0 0] 83)) ∧ MBox ((w.alloc (.cells #[.int .i64 0, .slice none 0 0, .slice none 0 0, .slice none 0 0, .slice none 0 0] 83)).alloc (.cells #[.int .i64 0, .slice none 0 0, .slice none 0 0, .slice none 0 0, .slice none 0 0] 83)) w.heap.size 83 0 (.slice none 0 0) (.slice none 0 0) (.slice none 0 0) (.slice none 0 0) ∧ MBox ((w.alloc (.cells #[.int .i64 0, .slice none 0 0, .slice none 0 0, .slice none 0 0, .slice none 0 0] 83)).alloc (.cells #[.int .i64 0, .slice none 0 0, .slice none 0 0, .slice none 0 0, .slice none 0 0] 83)) (w.heap.size + 1) 83 0 (.slice none 0 0) (.slice none 0 0) (.slice none 0 0) (.slice none 0 0)) :=
    Lib.hid ⟨b1.trans (b2.mono b1.size), x1.keep b2, x2⟩
  clear h hq hL b1 b2 x1 x2
  go_enter Try.func81, Try.ntmps81
  go_upto_region 2 with fail
  generalize ((w.alloc (.cells #[.int .i64 0, .slice none 0 0, .slice none 0 0, .slice none 0 0, .slice none 0 0] 83)).alloc (.cells #[.int .i64 0, .slice none 0 0, .slice none 0 0, .slice none 0 0, .slice none 0 0] 83)) = W at HX ⊢
  cases q with
  | false =>
    have HE : Hid (mr = ⟨0, [], [], [], []⟩) := Lib.hid HE.out
    go_upto_region 3 with (go_at_call 76; refine (HF.out _ HX.out.1).mono ?_; rintro e w5 ⟨rfl, rfl⟩)
    obtain ⟨z0, z1, z2, z3, z4⟩ := HX.out.2.2.cells
    go_wp2_with (refine wpList_store_mid rfl 83 _ _ rfl w.heap.size 0 #[.int .i64 0, .slice none 0 0, .slice none 0 0, .slice none 0 0, .slice none 0 0] rfl rfl HX.out.2.1.there sizeMap (map_one _ _ _ _ _ _ _ _ _ _ _ _ _) ?_)
    refine bodyPost_ret (ret_cell rfl rfl (HX.out.2.1.put 0 (.slice none 0 0) (.slice none 0 0) (.slice none 0 0) (.slice none 0 0)).range Try.underlying83 rfl sizeMap) rfl ?_
    rw [HE.out]
    exact ⟨_, _, _, _, rfl, ⟨Own.nil _ _ _, Own.nil _ _ _, Own.nil _ _ _, Own.nil _ _ _⟩, Below.setCells HX.out.1 (b := w.heap.size) (Nat.le_refl _) 0 _⟩
  | true =>
    have HE : Hid (mr = ⟨0, hs, List.replicate L osd0, [], []⟩) := Lib.hid HE.out
    have hl8 := HOk.out HQ.out
    have HL8 := Lib.hid hl8.2
    go_upto_region 4 with (go_at_call 76; refine (HF.out _ HX.out.1).mono ?_; rintro e w5 ⟨rfl, rfl⟩)
    obtain ⟨z0, z1, z2, z3, z4⟩ := HX.out.2.2.cells
    have HSz : Hid (w.heap.size + 1 + 1 ≤ w5.heap.size) := Lib.hid (by have := HX.out.2.2.lt; omega)
    go_upto_region 5 with (at_builtin; refine appSl ic_len ic_one (by decide) rfl _ _ 25 rfl (w.heap.size + 1 + 1) 3 _ (by rfl) 8 Try.underlying25 infoInt _ [] rfl (Own.nil _ _ _) _ hs rfl (HS.out _ HX.out.1) (by rw [HL.out]; have := HL8.out; unfold maxLen; simp; omega) (by rw [HL.out]; have := HL8.out; simp; omega) HSz.out ?_; intro v2 w2 ho2 hk2; obtain ⟨x2, y2, hv2⟩ := ho2.slice; rw [List.nil_append, HL.out] at hv2; rw [List.nil_append] at ho2; subst hv2; have HO2 := Lib.hid ho2; have hb2 := hk2.toBelow; have XR : Hid (MBox w2 w.heap.size 83 0 (.slice none 0 0) (.slice none 0 0) (.slice none 0 0) (.slice none 0 0)) := Lib.hid ((hb2.block _ (by omega)).trans HX.out.2.1); have XC : Hid (MBox w2 (w.heap.size + 1) 83 0 (.slice none 0 0) (.slice none 0 0) (.slice none 0 0) (.slice none 0 0)) := Lib.hid ((hb2.block _ (by omega)).trans HX.out.2.2); have BL := Lib.hid (HX.out.1.trans (hb2.mono (by omega))); clear hb2 ho2 hk2 z0 z1 z2 z3 z4; have c1 := XC.out.cells.2.1; have t1 := XC.out.thaw 1)
    have HFb : Hid (FbB w hs 0 (.slice x2 L y2) (.slice none 0 0) (w2.setCell ⟨w.heap.size + 1, 1, none⟩ (.slice x2 L y2))) := Lib.hid ⟨BL.out.setCell (p := ⟨w.heap.size + 1, 1, none⟩) (by show w.heap.size ≤ w.heap.size + 1; omega) _, (heap_setCell_other _ _ _ _ (by show w.heap.size ≠ w.heap.size + 1; omega)).trans XR.out, XC.out.at1 _, HO2.out.far XC.out (by decide) _ _, Own.nil _ _ _⟩
    clear c1 t1 HX HO2 XR XC BL HSz
    generalize w2.setCell _ _ = V at HFb ⊢
    go_upto_region 6 with fail
    go_loopw [4] (fun v4 wr => ∃ (k : Nat) (vo : Value), k ≤ L ∧ v4 = .int .i64 k ∧ FbB w hs k (.slice x2 L y2) vo wr) (fun i _ => L - (intOf i).toNat)
    case atStart => exact ⟨0, _, by omega, rfl, HFb.out⟩
    case round =>
      obtain ⟨k, vo, hk, rfl, hfb⟩ := hrel
      obtain ⟨xo, yo, hvo⟩ := hfb.o.slice
      rw [List.length_replicate] at hvo
      subst hvo
      have HFb := Lib.hid hfb
      clear hfb
      have hk0 : (0 : Int) ≤ k := by omega
      by_cases hlt : k < L
      · have hlt' : (k : Int) < L := by omega
        have hbo := below_new wr (.cells #[.int .i64 0, .bool false, .int .i64 65536, .int .i64 0] 132)
        have HSo := Lib.hid (sl_new oc_len wr osd0 132 wr.heap.size rfl)
        simp only [oc, osd0] at HSo
        have HF1 := Lib.hid (HFb.out.keep hbo)
        have HSz : Hid (w.heap.size + 1 + 1 ≤ (wr.alloc (.cells #[.int .i64 0, .bool false, .int .i64 65536, .int .i64 0] 132)).heap.size) := Lib.hid (by have := HF1.out.cp.lt; omega)
        clear hbo
        have c2 := HFb.out.cp.cells.2.2.1
        go_upto_region 7 with (at_builtin; refine appSl oc_len oc_one (by decide) rfl _ _ 79 rfl (w.heap.size + 1 + 1) 132 _ (by rfl) 32 Try.underlying79 infoOsd _ (List.replicate k osd0) rfl HF1.out.o _ [osd0] rfl HSo.out (by rw [List.length_replicate, List.length_singleton]; have := HL8.out; unfold maxLen; omega) (by rw [List.length_replicate, List.length_singleton]; have := HL8.out; omega) HSz.out ?_; intro v9 w9 ho9 hk9; obtain ⟨x9, y9, hv9⟩ := ho9.slice; simp only [List.length_append, List.length_replicate, List.length_singleton] at hv9; subst hv9; have HF2 := Lib.hid (HF1.out.newO hk9 ho9); have e2 := (MBox.cells (show MBox w9 (w.heap.size + 1) 83 _ _ _ _ _ from hk9.box (by decide) HF1.out.cp)).2.2.1; have t2 := (MBox.thaw (show MBox w9 (w.heap.size + 1) 83 _ _ _ _ _ from hk9.box (by decide) HF1.out.cp)) 2; clear ho9 hk9 c2)
        clear e2 t2 HF1 HSo HSz HFb
        generalize World.setCell _ ⟨w.heap.size + 1, 2, none⟩ _ = V3 at HF2 ⊢
        go_wp2
        go_roundw
        case rel => exact ⟨k + 1, _, by omega, by go_num, HF2.out⟩
        case measure => simp [intOf]; omega
      · obtain rfl : k = L := by omega
        go_upto_region 9 with fail
        obtain ⟨z0, z1, z2, z3, z4⟩ := HFb.out.cp.cells
        go_wp2_with (refine wpList_store_mid rfl 83 _ _ rfl w.heap.size 0 #[.int .i64 0, .slice x2 k y2, .slice xo k yo, .slice none 0 0, .slice none 0 0] rfl rfl HFb.out.res.there sizeMap (map_one _ _ _ _ _ _ _ _ _ _ _ _ _) ?_)
        refine bodyPost_ret (ret_cell rfl rfl (HFb.out.res.put 0 (.slice x2 k y2) (.slice xo k yo) (.slice none 0 0) (.slice none 0 0)).range Try.underlying83 rfl sizeMap) rfl ?_
        rw [HE.out]
        exact ⟨_, _, _, _, rfl, ⟨(HFb.out.h.setCells_far (by omega) 0 _).mono (by omega), (HFb.out.o.setCells_far (by omega) 0 _).mono (by omega), Own.nil _ _ _, Own.nil _ _ _⟩, Below.setCells HFb.out.bel (b := w.heap.size) (Nat.le_refl _) 0 _⟩
end Go.Proofs.Ytcofmfjhgbihkaa.crush
