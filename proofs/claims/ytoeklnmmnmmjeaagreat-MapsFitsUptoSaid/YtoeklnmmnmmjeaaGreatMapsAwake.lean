/- The chapter's examples. -/
import Derived.Test.YtoeklnmmnmmjeaaGreatRows
import Derived.Test.YtoeklnmmnmmjeaaGreatMMb
import Derived.Test.YtoeklnmmnmmjeaaGreatMMc
namespace Go.Proofs.YtoeklnmmnmmjeaaGreat.crush
open Go.RowKit
open Go.Proofs.YtoeklnmmnmmjeaaGreat.kit Go.Proofs.YtoeklnmmnmmjeaaGreat.own
set_option linter.unusedVariables false

theorem setO_epoch (f : Int → Int → OsdV → Option OsdV) (n : Int) (i : Nat) (m : MapV) : (setO f n i m).1.epoch = m.epoch := by
  unfold setO
  cases m.osds[i]? with
  | none => rfl
  | some o =>
    simp only
    cases f n m.epoch o <;> rfl
theorem apply1_any (v : Value) (c : IncV) (hk : c.kind = 1) (i : Nat) (hc : c.osd = i) (hok : okInc c = true) (m : MapV) (w : World) (h : MapR w v m) (hs : m.Small) (hn : m.osds ≠ []) (hI : I64 m.epoch) :
    Calls Tryz.prog 80 #[v, c.val] w (AppS w (if m.epoch < 4096 then (setO bootO c.num i m).1.tick else m)) :=
  Apply_any v c m _ w h hs hn hI (setO_epoch _ _ _ _) (fun B S g cap u h1 h2 h3 => (change1_any c hk i hc hok (fun k => k < B) S g cap m u h3 (In.le h2)).mono (by
    rintro e w' ⟨he, hg, hb⟩
    exact ⟨_, he, hg, hb⟩))
theorem apply2_any (v : Value) (c : IncV) (hk : c.kind = 2) (i : Nat) (hc : c.osd = i) (hok : okInc c = true) (m : MapV) (w : World) (h : MapR w v m) (hs : m.Small) (hn : m.osds ≠ []) (hI : I64 m.epoch) :
    Calls Tryz.prog 80 #[v, c.val] w (AppS w (if m.epoch < 4096 then (setO downO c.num i m).1.tick else m)) :=
  Apply_any v c m _ w h hs hn hI (setO_epoch _ _ _ _) (fun B S g cap u h1 h2 h3 => (change2_any c hk i hc hok (fun k => k < B) S g cap m u h3 (In.le h2)).mono (by
    rintro e w' ⟨he, hg, hb⟩
    exact ⟨_, he, hg, hb⟩))

def awM0 : MapV := ⟨0, [0, 0, 1], [osd0, osd0, osd0], [], []⟩
def awM1 : MapV := ⟨1, [0, 0, 1], [osd0, ⟨3, true, 65536, 0⟩, osd0], [], []⟩
def awM2 : MapV := ⟨2, [0, 0, 1], [osd0, ⟨3, true, 65536, 0⟩, osd0], [], []⟩
def awM3 : MapV := ⟨3, [0, 0, 1], [osd0, ⟨3, false, 65536, 0⟩, osd0], [], []⟩
def awC1 : IncV := ⟨1, 1, 0, 3, ⟨0, 0, 0, 0⟩⟩
def awC2 : IncV := ⟨2, 1, 0, 2, ⟨0, 0, 0, 0⟩⟩
def awC3 : IncV := ⟨2, 1, 0, 3, ⟨0, 0, 0, 0⟩⟩
theorem aw_ok1 : okInc awC1 = true := by decide +kernel
theorem aw_ok2 : okInc awC2 = true := by decide +kernel
theorem aw_ok3 : okInc awC3 = true := by decide +kernel
theorem aw_first : firstE [0, 0, 1] = awM0 := by rfl
theorem aw_s1 : (if awM0.epoch < 4096 then (setO bootO awC1.num 1 awM0).1.tick else awM0) = awM1 := by rfl
theorem aw_s2 : (if awM1.epoch < 4096 then (setO downO awC2.num 1 awM1).1.tick else awM1) = awM2 := by rfl
theorem aw_s3 : (if awM2.epoch < 4096 then (setO downO awC3.num 1 awM2).1.tick else awM2) = awM3 := by rfl
theorem aw_fit : okMap awM3 = true := by decide +kernel
theorem aw_enc : encE awC1 = { data := #[1, 1, 0, 3, 0, 0, 0, 0] } := by decide +kernel
theorem aw_dec : decB [] = (10, incZ) := by rfl
theorem aw_sm0 : awM0.Small := by unfold MapV.Small awM0; decide
theorem aw_sm1 : awM1.Small := by unfold MapV.Small awM1; decide
theorem aw_sm2 : awM2.Small := by unfold MapV.Small awM2; decide
theorem sl_three (w : World) : Sl ic 1 (w.alloc (.cells #[.int .i64 0, .int .i64 0, .int .i64 1] 3)) (.slice (some ⟨w.heap.size, 0, none⟩) 3 3) [0, 0, 1] := by
  refine ⟨by simp, _, _, rfl, fun h => (by cases h), fun _ => ⟨w.heap.size, 0, rfl, by simp, fun j hj i u hu => ?_⟩⟩
  have hj3 : j < 3 := hj
  rw [World.cell?_alloc_at _ _ _ _ rfl]
  rcases (show j = 0 ∨ j = 1 ∨ j = 2 by omega) with rfl | rfl | rfl
  all_goals
    cases i with
    | zero => simpa [ic] using hu
    | succ i => simp [ic] at hu

theorem osds_at {w : World} {B : Nat} {v : Value} {xs : List OsdV} {L : Nat} (h : Own oc 4 74 w B v xs) (hL : xs.length = L) (h0 : 0 < L) : ∃ b off c, v = .slice (some (⟨b, off, none⟩ : Addr)) L c ∧ b < w.heap.size ∧ ∀ j (hj : j < xs.length), w.rangeAt b (off + j * 4) (oc xs[j]) := by
  subst hL
  obtain ⟨_, a, c, rfl, -, hc⟩ := h.read oc_len
  obtain ⟨b, off, rfl, hlt, hcell⟩ := hc (by omega)
  exact ⟨b, off, c, rfl, hlt, hcell⟩
theorem aw_put {W w2 : World} {M : Nat} {t : TypeId} {ep : Int} {a1 a2 a3 a4 : Value} (hM : MBox W M t ep a1 a2 a3 a4) (hb : Below W.heap.size W w2) {vh vo vp vb : Value} {m' : MapV} (ho : MapO w2 W.heap.size vh vo vp vb m') :
    MBox (w2.setCells M 0 [.int .i64 m'.epoch, vh, vo, vp, vb]) M t m'.epoch vh vo vp vb ∧ MapO (w2.setCells M 0 [.int .i64 m'.epoch, vh, vo, vp, vb]) (M + 1) vh vo vp vb m' :=
  ⟨(hM.keep hb).put _ _ _ _ _, (ho.far hM.lt 0 _).mono hM.lt⟩

set_option maxHeartbeats 16000000 in
set_option maxRecDepth 100000 in
theorem awake_any (w : World) : Calls Tryz.prog 24 #[] w fun e w' => e = .returned (.bool true) ∧ Below w.heap.size w w' := by
  have HB0 := Lib.hid (below_new w (.cells #[.int .i64 0, .int .i64 0, .int .i64 1] 3))
  have HFi := Lib.hid (First_any _ [0, 0, 1] _ (sl_three w))
  rw [aw_first] at HFi
  have HA1 := Lib.hid (fun v u (h : MapR u v awM0) => apply1_any v awC1 rfl 1 rfl aw_ok1 awM0 u h aw_sm0 (by decide) (by unfold I64; decide))
  have HA2 := Lib.hid (fun v u (h : MapR u v awM1) => apply2_any v awC2 rfl 1 rfl aw_ok2 awM1 u h aw_sm1 (by decide) (by unfold I64; decide))
  have HA3 := Lib.hid (fun v u (h : MapR u v awM2) => apply2_any v awC3 rfl 1 rfl aw_ok3 awM2 u h aw_sm2 (by decide) (by unfold I64; decide))
  rw [aw_s1] at HA1
  rw [aw_s2] at HA2
  rw [aw_s3] at HA3
  have HEn := Lib.hid (fun u => Encode_any awC1 u)
  rw [aw_enc] at HEn
  have HDe := Lib.hid (fun u => Decode_any { data := #[] } (by decide) u)
  have HFt := Lib.hid (fun v u (h : MapR u v awM3) => Fit_any v awM3 u h (fun vb u h => fitBans_nil vb u h))
  rw [aw_fit] at HFt
  have hdt : decB (Go.Proofs.YtoeklnmmnmmjeaaGreat.cm.txtN { data := #[] }) = (10, incZ) := aw_dec
  rw [hdt] at HDe
  unfold DecS at HDe
  unfold awC1 IncV.val at HA1 HEn
  unfold awC2 IncV.val at HA2
  unfold awC3 IncV.val at HA3
  unfold incZ IncV.val at HDe
  simp only at HA1 HA2 HA3 HEn HDe
  clear hdt
  go_enter Tryz.func24, Tryz.ntmps24
  go_upto_region 2 with (go_at_call 27; refine HFi.out.mono ?_; rintro e w1 ⟨vh1, vo1, vp1, vb1, rfl, ho, hb⟩; obtain ⟨b1, d1, rfl⟩ := ho.1.slice; obtain ⟨b2, d2, rfl⟩ := ho.2.1.slice; obtain ⟨b3, d3, rfl⟩ := ho.2.2.1.slice; obtain ⟨b4, d4, rfl⟩ := ho.2.2.2.slice; have HO1 := Lib.hid ho.read; have HB1 := Lib.hid (HB0.out.trans (hb.mono HB0.out.size)); clear hb ho)
  have hbn := below_new w1 (.cells #[.int .i64 awM0.epoch, .slice b1 awM0.hosts.length d1, .slice b2 awM0.osds.length d2, .slice b3 awM0.pools.length d3, .slice b4 awM0.bans.length d4] 27)
  have HXx1 := Lib.hid (mbox_new w1 27 awM0.epoch (.slice b1 awM0.hosts.length d1) (.slice b2 awM0.osds.length d2) (.slice b3 awM0.pools.length d3) (.slice b4 awM0.bans.length d4))
  have HRd1 := Lib.hid (HO1.out.keep hbn)
  have HBx1 := Lib.hid (HB1.out.trans (hbn.mono HB1.out.size))
  have HMw := Lib.hid HB1.out.size
  clear hbn
  generalize (w1.alloc (.cells #[.int .i64 awM0.epoch, .slice b1 awM0.hosts.length d1, .slice b2 awM0.osds.length d2, .slice b3 awM0.pools.length d3, .slice b4 awM0.bans.length d4] 27)) = U1 at HXx1 HRd1 HBx1 ⊢
  obtain ⟨l0, l1, l2, l3, l4⟩ := HXx1.out.cells
  go_upto_region 3 with (first
    | (go_at_call 80; refine (HA1.out _ _ HRd1.out).mono ?_; rintro e w2 ⟨vh2, vo2, vp2, vb2, rfl, ho, hb⟩; obtain ⟨x1, y1, rfl⟩ := ho.1.slice; obtain ⟨x2, y2, rfl⟩ := ho.2.1.slice; obtain ⟨x3, y3, rfl⟩ := ho.2.2.1.slice; obtain ⟨x4, y4, rfl⟩ := ho.2.2.2.slice; have HPt2 := Lib.hid (aw_put HXx1.out hb ho); have HT2 := Lib.hid (HXx1.out.keep hb).there; have HBl2 := Lib.hid (Below.setCells (HBx1.out.trans (hb.mono HBx1.out.size)) HMw.out 0 [.int .i64 awM1.epoch, .slice x1 awM1.hosts.length y1, .slice x2 awM1.osds.length y2, .slice x3 awM1.pools.length y3, .slice x4 awM1.bans.length y4]); clear ho hb)
    | (refine wpList_store_mid rfl 27 _ _ rfl w1.heap.size 0 #[.int .i64 awM1.epoch, .slice x1 awM1.hosts.length y1, .slice x2 awM1.osds.length y2, .slice x3 awM1.pools.length y3, .slice x4 awM1.bans.length y4] rfl rfl HT2.out sizeMap (map_one _ _ _ _ _ _ _ _ _ _ _ _ _) ?_))
  have HXx2 := Lib.hid HPt2.out.1
  have HOx2 := Lib.hid HPt2.out.2
  have HBx2 := Lib.hid HBl2.out
  generalize w2.setCells w1.heap.size 0 _ = U2 at HXx2 HOx2 HBx2 ⊢
  have HRd2 := Lib.hid HOx2.out.read
  clear HPt2 HT2 HBl2
  clear l0 l1 l2 l3 l4
  obtain ⟨l0, l1, l2, l3, l4⟩ := HXx2.out.cells
  go_upto_region 4 with (first
    | (go_at_call 80; refine (HA2.out _ _ HRd2.out).mono ?_; rintro e w3 ⟨vh3, vo3, vp3, vb3, rfl, ho, hb⟩; obtain ⟨x1, y1, rfl⟩ := ho.1.slice; obtain ⟨x2, y2, rfl⟩ := ho.2.1.slice; obtain ⟨x3, y3, rfl⟩ := ho.2.2.1.slice; obtain ⟨x4, y4, rfl⟩ := ho.2.2.2.slice; have HPt3 := Lib.hid (aw_put HXx2.out hb ho); have HT3 := Lib.hid (HXx2.out.keep hb).there; have HBl3 := Lib.hid (Below.setCells (HBx2.out.trans (hb.mono HBx2.out.size)) HMw.out 0 [.int .i64 awM2.epoch, .slice x1 awM2.hosts.length y1, .slice x2 awM2.osds.length y2, .slice x3 awM2.pools.length y3, .slice x4 awM2.bans.length y4]); clear ho hb)
    | (refine wpList_store_mid rfl 27 _ _ rfl w1.heap.size 0 #[.int .i64 awM2.epoch, .slice x1 awM2.hosts.length y1, .slice x2 awM2.osds.length y2, .slice x3 awM2.pools.length y3, .slice x4 awM2.bans.length y4] rfl rfl HT3.out sizeMap (map_one _ _ _ _ _ _ _ _ _ _ _ _ _) ?_))
  have HXx3 := Lib.hid HPt3.out.1
  have HOx3 := Lib.hid HPt3.out.2
  have HBx3 := Lib.hid HBl3.out
  generalize w3.setCells w1.heap.size 0 _ = U3 at HXx3 HOx3 HBx3 ⊢
  have HRd3 := Lib.hid HOx3.out.read
  clear HPt3 HT3 HBl3
  clear l0 l1 l2 l3 l4
  obtain ⟨l0, l1, l2, l3, l4⟩ := HXx3.out.cells
  have HLd := Lib.hid (⟨l0, l1, l2, l3, l4⟩ : _ ∧ _ ∧ _ ∧ _ ∧ _)
  obtain ⟨bb, off, cc, he, hlt, hcl⟩ := osds_at HOx3.out.2.1 rfl (L := 3) (by omega)
  cases he
  obtain ⟨d1, d2, d3, d4⟩ := ocells4 (hcl 1 (by decide))
  have e1 : awM2.osds[1]'(by decide) = ⟨3, true, 65536, 0⟩ := rfl
  rw [e1] at d1 d2 d3 d4
  simp only at d1 d2 d3 d4
  rw [show awM2.epoch = 2 from rfl] at l0
  rw [show awM2.osds.length = 3 from rfl] at l2
  clear e1 hcl
  go_upto_region 6 with fail
  clear d1 d2 d3 d4 l0 l1 l2 l3 l4 hlt
  obtain ⟨l0, l1, l2, l3, l4⟩ := HLd.out
  clear HLd
  go_upto_region 7 with (first
    | (go_at_call 80; refine (HA3.out _ _ HRd3.out).mono ?_; rintro e w4 ⟨vh4, vo4, vp4, vb4, rfl, ho, hb⟩; obtain ⟨x1, y1, rfl⟩ := ho.1.slice; obtain ⟨x2, y2, rfl⟩ := ho.2.1.slice; obtain ⟨x3, y3, rfl⟩ := ho.2.2.1.slice; obtain ⟨x4, y4, rfl⟩ := ho.2.2.2.slice; have HPt4 := Lib.hid (aw_put HXx3.out hb ho); have HT4 := Lib.hid (HXx3.out.keep hb).there; have HBl4 := Lib.hid (Below.setCells (HBx3.out.trans (hb.mono HBx3.out.size)) HMw.out 0 [.int .i64 awM3.epoch, .slice x1 awM3.hosts.length y1, .slice x2 awM3.osds.length y2, .slice x3 awM3.pools.length y3, .slice x4 awM3.bans.length y4]); clear ho hb)
    | (refine wpList_store_mid rfl 27 _ _ rfl w1.heap.size 0 #[.int .i64 awM3.epoch, .slice x1 awM3.hosts.length y1, .slice x2 awM3.osds.length y2, .slice x3 awM3.pools.length y3, .slice x4 awM3.bans.length y4] rfl rfl HT4.out sizeMap (map_one _ _ _ _ _ _ _ _ _ _ _ _ _) ?_))
  have HXx4 := Lib.hid HPt4.out.1
  have HOx4 := Lib.hid HPt4.out.2
  have HBx4 := Lib.hid HBl4.out
  generalize w4.setCells w1.heap.size 0 _ = U4 at HXx4 HOx4 HBx4 ⊢
  have HRd4 := Lib.hid HOx4.out.read
  clear HPt4 HT4 HBl4
  clear l0 l1 l2 l3 l4
  obtain ⟨l0, l1, l2, l3, l4⟩ := HXx4.out.cells
  have HLd := Lib.hid (⟨l0, l1, l2, l3, l4⟩ : _ ∧ _ ∧ _ ∧ _ ∧ _)
  obtain ⟨bb, off, cc, he, hlt, hcl⟩ := osds_at HOx4.out.2.1 rfl (L := 3) (by omega)
  cases he
  obtain ⟨d1, d2, d3, d4⟩ := ocells4 (hcl 1 (by decide))
  have e1 : awM3.osds[1]'(by decide) = ⟨3, false, 65536, 0⟩ := rfl
  rw [e1] at d1 d2 d3 d4
  simp only at d1 d2 d3 d4
  rw [show awM3.epoch = 3 from rfl] at l0
  rw [show awM3.osds.length = 3 from rfl] at l2
  clear e1 hcl
  go_upto_region 8 with (go_at_call 12; refine (HDe.out _).mono ?_; rintro e w5 ⟨rfl, hb⟩; have HX5 := Lib.hid (HXx4.out.keep hb); have HR5 := Lib.hid (HRd4.out.keep hb); have HO5 := Lib.hid (HOx4.out.below hb); have HB5 := Lib.hid (HBx4.out.trans (hb.mono HBx4.out.size)); clear hb d1 d2 d3 d4 l0 l1 l2 l3 l4 hlt HLd)
  have hbn := below_new w5 (.cells #[.int .i64 0, .int .i64 0, .int .i64 0, .int .i64 0, .int .i64 0, .int .i64 0, .int .i64 0, .int .i64 0] 31)
  have HX6 := Lib.hid (HX5.out.keep hbn); have HR6 := Lib.hid (HR5.out.keep hbn); have HO6 := Lib.hid (HO5.out.below hbn); have HB6 := Lib.hid (HB5.out.trans (hbn.mono HB5.out.size))
  clear hbn
  generalize w5.alloc (.cells #[.int .i64 0, .int .i64 0, .int .i64 0, .int .i64 0, .int .i64 0, .int .i64 0, .int .i64 0, .int .i64 0] 31) = U6 at HX6 HR6 HO6 HB6 ⊢
  obtain ⟨l0, l1, l2, l3, l4⟩ := HX6.out.cells
  obtain ⟨bb5, off5, cc5, he, hlt, hcl⟩ := osds_at HO6.out.2.1 rfl (L := 3) (by omega)
  cases he
  obtain ⟨d1, d2, d3, d4⟩ := ocells4 (hcl 1 (by decide))
  rw [show awM3.osds[1]'(by decide) = ⟨3, false, 65536, 0⟩ from rfl] at d1 d2 d3 d4
  simp only at d1 d2 d3 d4
  rw [show awM3.osds.length = 3 from rfl] at l2
  clear hcl
  go_wp2_with (first
    | (go_at_call 22; refine (HEn.out _).mono ?_; rintro e w7 ⟨rfl, hb⟩; have HX7 := Lib.hid (HX6.out.keep hb); have HR7 := Lib.hid (HR6.out.keep hb); have HB7 := Lib.hid (HB6.out.trans (hb.mono HB6.out.size)); clear hb d1 d2 d3 d4 l0 l1 l2 l3 l4 hlt; obtain ⟨l0, l1, l2, l3, l4⟩ := HX7.out.cells)
    | (go_at_call 14; refine (HFt.out _ _ HR7.out).mono ?_; rintro e w8 ⟨rfl, hb⟩; have HB8 := Lib.hid (HB7.out.trans (hb.mono HB7.out.size)); clear hb))
  go_ret
  exact ⟨rfl, HB8.out⟩
end Go.Proofs.YtoeklnmmnmmjeaaGreat.crush
