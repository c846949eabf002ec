/- Texts laid together: MapsApply, MapsFirst, MapsAwake, MapsBackM, MapsLift, MapsLawB. -/
import Derived.Test.YtlghbfgkhdnaoaaRows
import Derived.Test.YtlghbfgkhdnaoaaMapsChg
import Derived.Test.YtlghbfgkhdnaoaaMapsRep
import Derived.Test.YtlghbfgkhdnaoaaMapsDec
import Derived.Test.YtlghbfgkhdnaoaaCodeForth
import Derived.Test.YtlghbfgkhdnaoaaLift
import Derived.Test.YtlghbfgkhdnaoaaMapsInc
import Derived.Deep.Slices
import Derived.Deep.Fields
namespace Go.Proofs.Ytlghbfgkhdnaoaa.crush
open Go.RowKit
open Go.Proofs.Ytlghbfgkhdnaoaa.kit Go.Proofs.Ytlghbfgkhdnaoaa.own
set_option linter.unusedVariables false

def MapV.tick (m : MapV) : MapV := ⟨m.epoch + 1, m.hosts, m.osds, m.pools, m.bans⟩
theorem SheetG.tick {w : World} {B S g cap : Nat} {m : MapV} (h : SheetG w B S g cap m) : SheetG (w.setCell ⟨S, 0, none⟩ (.int .i64 (m.epoch + 1))) B S g cap m.tick := by
  obtain ⟨h0, hg, vh, vp, vb, h1, h2, h3, h4, h5⟩ := h
  obtain ⟨cur, hc, -⟩ := h3.ex
  have hne : g ≠ S := fun e => by subst e; unfold MBox at h1; rw [h1] at hc; cases hc
  have hS : w.heap[S]? = some (.cells #[.int .i64 m.epoch, vh, .slice (some ⟨g, 0, none⟩) m.osds.length cap, vp, vb] 57 (0, 0)) := h1
  refine ⟨h0, hg, vh, vp, vb, ?_, h2.far hS (by decide) _ _, h3.block (heap_setCell_other _ _ _ _ hne), h4.far hS (by decide) _ _, h5.far hS (by decide) _ _⟩
  have := heap_setCell_same w S 0 _ _ (.int .i64 (m.epoch + 1)) hS
  exact this
/-- What 'change' comes to. -/
def ChS (B S g cap : Nat) (m : MapV) (w : World) (e : Ending) (w' : World) : Prop := ∃ b, e = .returned (.bool b) ∧ SheetG w' B S g cap m ∧ Below B w w'
def NextS (B S g cap : Nat) (m : MapV) (w : World) (e : Ending) (w' : World) : Prop := (∃ v, e = .returned v) ∧ SheetG w' B S g cap m ∧ Below B w w'

set_option maxHeartbeats 16000000 in
set_option maxRecDepth 100000 in
theorem next_any (c : IncV) (B S g cap : Nat) (m m' : MapV) (w : World) (h : SheetG w B S g cap m) (hB : B ≤ w.heap.size) (hI : I64 m.epoch) (hm : m'.epoch = m.epoch)
    (HCh : ∀ u, Below w.heap.size w u → Calls Try.prog 25 #[.pointer (some ⟨S, 0, none⟩), c.val] u (ChS B S g cap m' u)) :
    Calls Try.prog 19 #[.pointer (some ⟨S, 0, none⟩), c.val] w (NextS B S g cap (if m.epoch < 4096 then m'.tick else m) w) := by
  obtain ⟨k, o, cl, n, a, b, p, d⟩ := c
  unfold IncV.val at HCh ⊢
  simp only at HCh ⊢
  have hb := below_new w (.cells #[.int .i64 k, .int .i64 o, .int .i64 cl, .int .i64 n, .int .i64 a, .int .i64 b, .int .i64 p, .int .i64 d] 35)
  have HB := Lib.hid hb; have HG := Lib.hid (h.keep hb); have HC := Lib.hid HCh; have HBB := Lib.hid hB; have HM := Lib.hid hm
  have HX := Lib.hid (ibx_new w ⟨k, o, cl, n, ⟨a, b, p, d⟩⟩)
  clear h hb HCh hB hm
  obtain ⟨-, -, vh, vp, vb, hmb, -⟩ := id HG.out
  obtain ⟨e0, -, -, -, -⟩ := hmb.cells
  clear hmb
  go_enter Try.func19, Try.ntmps19
  by_cases he : m.epoch < 4096
  · rw [if_pos he]
    unfold I64 at hI
    obtain ⟨ep, hep⟩ : ∃ ep, m.epoch = ep := ⟨_, rfl⟩
    have HEp := Lib.hid hep
    rw [hep] at e0 he hI
    have hI1 := hI.1
    clear hI hep
    go_wp2_with (go_at_call 25; refine (HC.out _ HB.out).mono ?_; rintro e w5 ⟨b5, rfl, hg, hb⟩; have HG5 := Lib.hid hg; have HB5 := Lib.hid ((HB.out.mono HBB.out).trans hb); clear hb e0; obtain ⟨-, -, vh5, vp5, vb5, hmb, -⟩ := id hg; obtain ⟨e0, -, -, -, -⟩ := hmb.cells; have t0 := hmb.thaw 0; rw [HM.out, HEp.out] at e0; have HTk := Lib.hid HG5.out.tick; have HBt := Lib.hid (HB5.out.setCell (p := ⟨S, 0, none⟩) HG5.out.1 (.int .i64 (ep + 1))); rw [HM.out, HEp.out] at HTk; clear hmb hg)
    go_end0
    exact ⟨⟨_, rfl⟩, HTk.out, HBt.out⟩
  · rw [if_neg he]
    go_wp2
    go_end0
    exact ⟨⟨_, rfl⟩, HG.out, HB.out.mono HBB.out⟩

theorem Own.setCells_far {α : Type} {enc : α → List Value} {k e B : Nat} {W : World} {v : Value} {xs : List α} (h : Own enc k e W B v xs) {N : Nat} (hN : N < B) (o : Nat) (vs : List Value) : Own enc k e (W.setCells N o vs) B v xs := by
  induction vs generalizing W o with
  | nil => exact h
  | cons u r ih => exact ih (h.setOther (fun e => by have := (h.blk _ e).1; omega) o u) (o + 1)
/-- A map is handed back, in rows of the call's own. -/
def AppS (w : World) (m : MapV) (e : Ending) (w' : World) : Prop := ∃ vh vo vp vb, e = .returned (.agg #[.int .i64 m.epoch, vh, vo, vp, vb]) ∧ MapO w' w.heap.size vh vo vp vb m ∧ Below w.heap.size w w'
theorem MapO.read {w : World} {B : Nat} {vh vo vp vb : Value} {m : MapV} (h : MapO w B vh vo vp vb m) : MapR w (.agg #[.int .i64 m.epoch, vh, vo, vp, vb]) m := ⟨_, _, _, _, rfl, h.1.read ic_len, h.2.1.read oc_len, h.2.2.1.read pc_len, h.2.2.2.read bc_len⟩
theorem MapO.below {w w' : World} {B : Nat} {vh vo vp vb : Value} {m : MapV} (h : MapO w B vh vo vp vb m) (hb : Below w.heap.size w w') : MapO w' B vh vo vp vb m := ⟨h.1.below hb, h.2.1.below hb, h.2.2.1.below hb, h.2.2.2.below hb⟩
theorem MapO.mono {w : World} {B B' : Nat} {vh vo vp vb : Value} {m : MapV} (h : MapO w B vh vo vp vb m) (hB : B' ≤ B) : MapO w B' vh vo vp vb m := ⟨h.1.mono hB, h.2.1.mono hB, h.2.2.1.mono hB, h.2.2.2.mono hB⟩
theorem MapO.far {w : World} {B : Nat} {vh vo vp vb : Value} {m : MapV} (h : MapO w B vh vo vp vb m) {N : Nat} (hN : N < B) (o : Nat) (vs : List Value) : MapO (w.setCells N o vs) B vh vo vp vb m := ⟨h.1.setCells_far hN o vs, h.2.1.setCells_far hN o vs, h.2.2.1.setCells_far hN o vs, h.2.2.2.setCells_far hN o vs⟩
theorem map_one (ep : Int) (a1 a2 a3 a4 : Option Addr) (n1 n2 n3 n4 c1 c2 c3 c4 : Nat) : (#[Value.int .i64 ep, .slice a1 n1 c1, .slice a2 n2 c2, .slice a3 n3 c3, .slice a4 n4 c4] : Array Value).all (·.oneCell') = true := by simp [Value.oneCell']

set_option maxHeartbeats 16000000 in
set_option maxRecDepth 100000 in
theorem Apply_any (v : Value) (c : IncV) (m m' : MapV) (w : World) (h : MapR w v m) (hs : m.Small) (hn : m.osds ≠ []) (hI : I64 m.epoch) (hm : m'.epoch = m.epoch)
    (HCh : ∀ B S g cap u, w.heap.size ≤ B → B ≤ u.heap.size → SheetG u B S g cap m → Calls Try.prog 25 #[.pointer (some ⟨S, 0, none⟩), c.val] u (ChS B S g cap m' u)) :
    Calls Try.prog 8 #[v, c.val] w (AppS w (if m.epoch < 4096 then m'.tick else m)) := by
  have hr := h
  obtain ⟨vh, vo, vp, vb, rfl, h1, h2, h3, h4⟩ := h
  obtain ⟨ah, ch, rfl⟩ := h1.slice
  obtain ⟨ao, co, rfl⟩ := h2.slice
  obtain ⟨ap, cp, rfl⟩ := h3.slice
  obtain ⟨ab, cb, rfl⟩ := h4.slice
  have HCp := Lib.hid (fun u (hu : Below w.heap.size w u) => copied_any _ m u (hr.keep hu) hs)
  have HNx := Lib.hid (fun B S g cap u (h1 : w.heap.size ≤ B) (h2 : B ≤ u.heap.size) (h3 : SheetG u B S g cap m) => next_any c B S g cap m m' u h3 h2 hI hm (fun u' hu => HCh B S g cap u' h1 (Nat.le_trans h2 hu.size) (h3.keep hu)))
  have HOp := Lib.hid (fun u B S (h : SheetAt u B S m) => h.open hn)
  obtain ⟨k, o, cl, n, a, b, p, d⟩ := c
  unfold IncV.val at HNx ⊢
  simp only at HNx ⊢
  clear hr hs hn hI hm HCh h1 h2 h3 h4
  generalize (if m.epoch < 4096 then m'.tick else m) = mr at HNx ⊢
  generalize m.hosts.length = Lh at HCp ⊢
  generalize m.osds.length = Lo at HCp ⊢
  generalize m.pools.length = Lp at HCp ⊢
  generalize m.bans.length = Lb at HCp ⊢
  generalize m.epoch = ep at HCp ⊢
  obtain ⟨W3, hW3⟩ : ∃ W3, (((w.alloc (.cells #[.int .i64 ep, .slice ah Lh ch, .slice ao Lo co, .slice ap Lp cp, .slice ab Lb cb] 28)).alloc (.cells #[.int .i64 k, .int .i64 o, .int .i64 cl, .int .i64 n, .int .i64 a, .int .i64 b, .int .i64 p, .int .i64 d] 35)).alloc (.cells #[.int .i64 0, .slice none 0 0, .slice none 0 0, .slice none 0 0, .slice none 0 0] 28)) = W3 := ⟨_, rfl⟩
  have hB3 : Below w.heap.size w W3 := by rw [← hW3]; exact ((below_new w _).alloc (by simp) _).alloc (by simp; omega) _
  have hX0 : MBox W3 w.heap.size 28 ep (.slice ah Lh ch) (.slice ao Lo co) (.slice ap Lp cp) (.slice ab Lb cb) := by
    unfold MBox; rw [← hW3]; simp only [alloc_heap, Array.getElem?_push, Array.size_push]
    repeat (first | rw [if_pos trivial] | rw [if_pos (by omega)] | rw [if_neg (by omega)])
  have hX1 : IBx W3 (w.heap.size + 1) ⟨k, o, cl, n, ⟨a, b, p, d⟩⟩ := by
    unfold IBx; rw [← hW3]; simp only [alloc_heap, Array.getElem?_push, Array.size_push]
    repeat (first | rw [if_pos trivial] | rw [if_pos (by omega)] | rw [if_neg (by omega)])
  have hX2 : MBox W3 (w.heap.size + 1 + 1) 28 0 (.slice none 0 0) (.slice none 0 0) (.slice none 0 0) (.slice none 0 0) := by
    unfold MBox; rw [← hW3]; simp only [alloc_heap, Array.getElem?_push, Array.size_push]
    repeat (first | rw [if_pos trivial] | rw [if_pos (by omega)] | rw [if_neg (by omega)])
  have HB3 := Lib.hid hB3; have HX0 := Lib.hid hX0; have HX1 := Lib.hid hX1; have HX2 := Lib.hid hX2
  clear hB3 hX0 hX1 hX2
  go_enter Try.func8, Try.ntmps8
  go_upto_region 1 with fail
  clear hW3
  obtain ⟨l0, l1, l2, l3, l4⟩ := HX0.out.cells
  go_upto_region 2 with (go_at_call 18; refine (HCp.out _ HB3.out).mono ?_; rintro e w4 ⟨S, rfl, hsh, hb⟩; obtain ⟨g, cap, hg⟩ := HOp.out _ _ _ hsh; have HG4 := Lib.hid hg; have HB34 := Lib.hid hb; have HX14 := Lib.hid (HX1.out.keep hb); have HX24 := Lib.hid (HX2.out.keep hb); clear hb hsh hg l0 l1 l2 l3 l4)
  obtain ⟨c0, c1, c2, c3, c4, c5, c6, c7⟩ := HX14.out.cells
  simp only at c0 c1 c2 c3 c4 c5 c6 c7
  have HSz := Lib.hid HB3.out.size; have HLt := Lib.hid HX2.out.lt
  go_upto_region 3 with (go_at_call 19; refine (HNx.out _ S g cap w4 HSz.out HB34.out.size HG4.out).mono ?_; rintro e w5 ⟨⟨v5, rfl⟩, hg, hb⟩; have HG5 := Lib.hid hg; have HX25 := Lib.hid (show MBox w5 (w.heap.size + 1 + 1) 28 0 (.slice none 0 0) (.slice none 0 0) (.slice none 0 0) (.slice none 0 0) from (hb.block _ HLt.out).trans HX24.out); have HB5 := Lib.hid (HB3.out.trans ((HB34.out.trans hb).mono HSz.out)); clear hb hg c0 c1 c2 c3 c4 c5 c6 c7)
  obtain ⟨hS, hgB, vh5, vp5, vb5, hmb, r1, r2, r3, r4⟩ := id HG5.out
  obtain ⟨xh, yh, rfl⟩ := r1.slice
  obtain ⟨xp, yp, rfl⟩ := r3.slice
  obtain ⟨xb, yb, rfl⟩ := r4.slice
  obtain ⟨l0, l1, l2, l3, l4⟩ := hmb.cells
  have HR1 := Lib.hid r1; have HR2 := Lib.hid (r2.own oc_len hgB); have HR3 := Lib.hid r3; have HR4 := Lib.hid r4
  have HT := Lib.hid HX25.out.there
  have HP := Lib.hid (HX25.out.put mr.epoch (.slice xh mr.hosts.length yh) (.slice (some ⟨g, 0, none⟩) mr.osds.length cap) (.slice xp mr.pools.length yp) (.slice xb mr.bans.length yb))
  have HF1 := Lib.hid (HR1.out.setCells_far (N := w.heap.size + 1 + 1) HLt.out 0 [.int .i64 mr.epoch, .slice xh mr.hosts.length yh, .slice (some ⟨g, 0, none⟩) mr.osds.length cap, .slice xp mr.pools.length yp, .slice xb mr.bans.length yb])
  have HF2 := Lib.hid (HR2.out.setCells_far (N := w.heap.size + 1 + 1) HLt.out 0 [.int .i64 mr.epoch, .slice xh mr.hosts.length yh, .slice (some ⟨g, 0, none⟩) mr.osds.length cap, .slice xp mr.pools.length yp, .slice xb mr.bans.length yb])
  have HF3 := Lib.hid (HR3.out.setCells_far (N := w.heap.size + 1 + 1) HLt.out 0 [.int .i64 mr.epoch, .slice xh mr.hosts.length yh, .slice (some ⟨g, 0, none⟩) mr.osds.length cap, .slice xp mr.pools.length yp, .slice xb mr.bans.length yb])
  have HF4 := Lib.hid (HR4.out.setCells_far (N := w.heap.size + 1 + 1) HLt.out 0 [.int .i64 mr.epoch, .slice xh mr.hosts.length yh, .slice (some ⟨g, 0, none⟩) mr.osds.length cap, .slice xp mr.pools.length yp, .slice xb mr.bans.length yb])
  have HBf := Lib.hid (Below.setCells HB5.out (b := w.heap.size + 1 + 1) (by omega) 0 [.int .i64 mr.epoch, .slice xh mr.hosts.length yh, .slice (some ⟨g, 0, none⟩) mr.osds.length cap, .slice xp mr.pools.length yp, .slice xb mr.bans.length yb])
  clear hmb r1 r2 r3 r4 HG5 HG4 HX14 HX24 HB34 HNx HCp HOp
  go_wp2_with (refine wpList_store_mid rfl 28 _ _ rfl (w.heap.size + 1 + 1) 0 #[.int .i64 mr.epoch, .slice xh mr.hosts.length yh, .slice (some ⟨g, 0, none⟩) mr.osds.length cap, .slice xp mr.pools.length yp, .slice xb mr.bans.length yb] rfl rfl HT.out sizeMap (map_one _ _ _ _ _ _ _ _ _ _ _ _ _) ?_)
  refine bodyPost_ret (ret_cell rfl rfl HP.out.range Try.underlying28 rfl sizeMap) rfl ?_
  exact ⟨_, _, _, _, rfl, ⟨HF1.out.mono HSz.out, HF2.out.mono HSz.out, HF3.out.mono HSz.out, HF4.out.mono HSz.out⟩, HBf.out⟩
end Go.Proofs.Ytlghbfgkhdnaoaa.crush

namespace Go.Proofs.Ytlghbfgkhdnaoaa.crush
open Go.RowKit
open Go.Proofs.Ytlghbfgkhdnaoaa.kit Go.Proofs.Ytlghbfgkhdnaoaa.own
set_option linter.unusedVariables false

def osd0 : OsdV := ⟨0, false, 65536, 0⟩
def firstE (hs : List Int) : MapV := if okHosts hs then ⟨0, hs, List.replicate hs.length osd0, [], []⟩ else ⟨0, [], [], [], []⟩
theorem okHosts_len {hs : List Int} (h : okHosts hs = true) : 1 ≤ hs.length ∧ hs.length ≤ 8 := by
  unfold okHosts at h
  rw [Bool.and_eq_true] at h
  have h1 := h.1
  unfold inR at h1
  simp only [Bool.and_eq_true, decide_eq_true_iff] at h1
  omega

set_option maxHeartbeats 16000000 in
set_option maxRecDepth 100000 in
theorem First_any (v : Value) (hs : List Int) (w : World) (h : Sl ic 1 w v hs) : Calls Try.prog 5 #[v] w (AppS w (firstE hs)) := by
  have hb := below_new w (.cells #[.int .i64 0, .slice none 0 0, .slice none 0 0, .slice none 0 0, .slice none 0 0] 28)
  have hx := mbox_new w 28 0 (.slice none 0 0) (.slice none 0 0) (.slice none 0 0) (.slice none 0 0)
  have HF := Lib.hid (fun u (hu : Below w.heap.size w u) => fitHosts_any v hs u (h.keep hu))
  have HOk := Lib.hid (fun (e : okHosts hs = true) => okHosts_len e)
  obtain ⟨q, hq⟩ : ∃ q, okHosts hs = q := ⟨_, rfl⟩
  rw [hq] at HF
  have HE : Hid (firstE hs = if q then ⟨0, hs, List.replicate hs.length osd0, [], []⟩ else ⟨0, [], [], [], []⟩) := Lib.hid (by unfold firstE; rw [hq])
  have HQ := Lib.hid hq
  have HCl := Lib.hid (fun (hl : hs.length ≤ 8) u (hu : Below w.heap.size w u) => cloneI v hs u (h.keep hu) (by omega))
  have HRp := Lib.hid (fun (hl : 1 ≤ hs.length ∧ hs.length ≤ 8) v u (hv : Sl oc 4 u v [osd0]) => repeatO v osd0 hs.length hl.1 hl.2 u hv)
  have HNw := Lib.hid (fun (u : World) => sl_new oc_len u osd0 39 u.heap.size rfl)
  have HBn := Lib.hid (fun (u : World) => below_new u (.cells (oc osd0).toArray 39))
  obtain ⟨a, c, rfl⟩ := h.slice
  have HB := Lib.hid hb; have HX := Lib.hid hx
  obtain ⟨L, hL⟩ : ∃ L, hs.length = L := ⟨_, rfl⟩
  have HL := Lib.hid hL
  rw [hL] at HF HCl HRp HOk ⊢
  clear h hb hx hq hL
  go_enter Try.func5, Try.ntmps5
  go_upto_region 1 with fail
  generalize (w.alloc (.cells #[.int .i64 0, .slice none 0 0, .slice none 0 0, .slice none 0 0, .slice none 0 0] 28)) = W at HB HX ⊢
  cases q with
  | false =>
    go_wp2_with (first
      | (go_at_call 15; refine (HF.out _ HB.out).mono ?_; rintro e w5 ⟨rfl, hb⟩; have HB5 := Lib.hid (HB.out.trans (hb.mono HB.out.size)); have HX5 := Lib.hid (HX.out.keep hb); clear hb)
      | (refine wpList_store_mid rfl 28 _ _ rfl w.heap.size 0 #[.int .i64 0, .slice none 0 0, .slice none 0 0, .slice none 0 0, .slice none 0 0] rfl rfl HX5.out.there sizeMap (map_one _ _ _ _ _ _ _ _ _ _ _ _ _) ?_))
    refine bodyPost_ret (ret_cell rfl rfl (HX5.out.put 0 (.slice none 0 0) (.slice none 0 0) (.slice none 0 0) (.slice none 0 0)).range Try.underlying28 rfl sizeMap) rfl ?_
    rw [HE.out]
    exact ⟨_, _, _, _, rfl, ⟨Own.nil _ _ _, Own.nil _ _ _, Own.nil _ _ _, Own.nil _ _ _⟩, Below.setCells HB5.out (b := w.heap.size) (Nat.le_refl _) 0 _⟩
  | true =>
    have hl8 := HOk.out HQ.out
    go_upto_region 3 with (go_at_call 15; refine (HF.out _ HB.out).mono ?_; rintro e w5 ⟨rfl, hb⟩; have HB5 := Lib.hid (HB.out.trans (hb.mono HB.out.size)); have HX5 := Lib.hid (HX.out.keep hb); clear hb)
    go_wp2_with (first
      | (go_at_call 16; refine (HCl.out hl8.2 _ HB5.out).mono ?_; rintro e w6 ⟨v6, rfl, ho, hb⟩; obtain ⟨a6, c6, rfl⟩ := ho.slice; have HB6 := Lib.hid (HB5.out.trans (hb.mono HB5.out.size)); have HX6 := Lib.hid (HX5.out.keep hb); have HO6 := Lib.hid (ho.mono (show w.heap.size + 1 ≤ _ from HX5.out.lt)); have HS6 := Lib.hid (HNw.out w6); have HB7 := Lib.hid (HB6.out.trans ((HBn.out w6).mono HB6.out.size)); have HX7 := Lib.hid (HX6.out.keep (HBn.out w6)); have HO7 := Lib.hid (HO6.out.below (HBn.out w6)); clear ho hb)
      | (go_at_call 17; refine (HRp.out hl8 _ _ HS6.out).mono ?_; rintro e w8 ⟨v8, rfl, ho, hb⟩; obtain ⟨a8, c8, rfl⟩ := ho.slice; rw [List.length_replicate] at ho; have HB8 := Lib.hid (HB7.out.trans (hb.mono HB7.out.size)); have HX8 := Lib.hid (HX7.out.keep hb); have HO8 := Lib.hid (ho.mono (show w.heap.size + 1 ≤ _ from HX7.out.lt)); have HO78 := Lib.hid (HO7.out.below hb); clear ho hb)
      | (refine wpList_store_mid rfl 28 _ _ rfl w.heap.size 0 #[.int .i64 0, .slice a6 hs.length c6, .slice a8 L c8, .slice none 0 0, .slice none 0 0] rfl rfl HX8.out.there sizeMap (map_one _ _ _ _ _ _ _ _ _ _ _ _ _) ?_))
    refine bodyPost_ret (ret_cell rfl rfl (HX8.out.put 0 (.slice a6 hs.length c6) (.slice a8 L c8) (.slice none 0 0) (.slice none 0 0)).range Try.underlying28 rfl sizeMap) rfl ?_
    rw [HE.out, if_pos trivial]
    exact ⟨_, _, _, _, rfl, ⟨(HO78.out.setCells_far (Nat.lt_succ_self _) 0 _).mono (Nat.le_succ _), by rw [HL.out]; exact (HO8.out.setCells_far (Nat.lt_succ_self _) 0 _).mono (Nat.le_succ _), Own.nil _ _ _, Own.nil _ _ _⟩, Below.setCells HB8.out (b := w.heap.size) (Nat.le_refl _) 0 _⟩
end Go.Proofs.Ytlghbfgkhdnaoaa.crush

namespace Go.Proofs.Ytlghbfgkhdnaoaa.crush
open Go.RowKit
open Go.Proofs.Ytlghbfgkhdnaoaa.kit Go.Proofs.Ytlghbfgkhdnaoaa.own
set_option linter.unusedVariables false

theorem setO_epoch (f : Int → Int → OsdV → Option OsdV) (n : Int) (i : Nat) (m : MapV) : (setO f n i m).1.epoch = m.epoch := by
  unfold setO
  cases m.osds[i]? with
  | none => rfl
  | some o =>
    simp only
    cases f n m.epoch o <;> rfl
theorem apply1_any (v : Value) (c : IncV) (hk : c.kind = 1) (i : Nat) (hc : c.osd = i) (hok : okInc c = true) (m : MapV) (w : World) (h : MapR w v m) (hs : m.Small) (hn : m.osds ≠ []) (hI : I64 m.epoch) :
    Calls Try.prog 8 #[v, c.val] w (AppS w (if m.epoch < 4096 then (setO bootO c.num i m).1.tick else m)) :=
  Apply_any v c m _ w h hs hn hI (setO_epoch _ _ _ _) (fun B S g cap u h1 h2 h3 => (change1_any c hk i hc hok B S g cap m u h3 h2).mono (by
    rintro e w' ⟨he, hg, hb⟩
    exact ⟨_, he, hg, hb⟩))
theorem apply2_any (v : Value) (c : IncV) (hk : c.kind = 2) (i : Nat) (hc : c.osd = i) (hok : okInc c = true) (m : MapV) (w : World) (h : MapR w v m) (hs : m.Small) (hn : m.osds ≠ []) (hI : I64 m.epoch) :
    Calls Try.prog 8 #[v, c.val] w (AppS w (if m.epoch < 4096 then (setO downO c.num i m).1.tick else m)) :=
  Apply_any v c m _ w h hs hn hI (setO_epoch _ _ _ _) (fun B S g cap u h1 h2 h3 => (change2_any c hk i hc hok B S g cap m u h3 h2).mono (by
    rintro e w' ⟨he, hg, hb⟩
    exact ⟨_, he, hg, hb⟩))

def awM0 : MapV := ⟨0, [0, 0, 1], [osd0, osd0, osd0], [], []⟩
def awM1 : MapV := ⟨1, [0, 0, 1], [osd0, ⟨3, true, 65536, 0⟩, osd0], [], []⟩
def awM2 : MapV := ⟨2, [0, 0, 1], [osd0, ⟨3, true, 65536, 0⟩, osd0], [], []⟩
def awM3 : MapV := ⟨3, [0, 0, 1], [osd0, ⟨3, false, 65536, 0⟩, osd0], [], []⟩
def awC1 : IncV := ⟨1, 1, 0, 3, ⟨0, 0, 0, 0⟩⟩
def awC2 : IncV := ⟨2, 1, 0, 2, ⟨0, 0, 0, 0⟩⟩
def awC3 : IncV := ⟨2, 1, 0, 3, ⟨0, 0, 0, 0⟩⟩
theorem aw_ok1 : okInc awC1 = true := by decide +kernel
theorem aw_ok2 : okInc awC2 = true := by decide +kernel
theorem aw_ok3 : okInc awC3 = true := by decide +kernel
theorem aw_first : firstE [0, 0, 1] = awM0 := by rfl
theorem aw_s1 : (if awM0.epoch < 4096 then (setO bootO awC1.num 1 awM0).1.tick else awM0) = awM1 := by rfl
theorem aw_s2 : (if awM1.epoch < 4096 then (setO downO awC2.num 1 awM1).1.tick else awM1) = awM2 := by rfl
theorem aw_s3 : (if awM2.epoch < 4096 then (setO downO awC3.num 1 awM2).1.tick else awM2) = awM3 := by rfl
theorem aw_fit : okMap awM3 = true := by decide +kernel
theorem aw_enc : encE awC1 = { data := #[1, 1, 0, 3, 0, 0, 0, 0] } := by decide +kernel
theorem aw_dec : decB [] = (10, incZ) := by rfl
theorem aw_sm0 : awM0.Small := by unfold MapV.Small awM0; decide
theorem aw_sm1 : awM1.Small := by unfold MapV.Small awM1; decide
theorem aw_sm2 : awM2.Small := by unfold MapV.Small awM2; decide
theorem sl_three (w : World) : Sl ic 1 (w.alloc (.cells #[.int .i64 0, .int .i64 0, .int .i64 1] 3)) (.slice (some ⟨w.heap.size, 0, none⟩) 3 3) [0, 0, 1] := by
  refine ⟨by simp, _, _, rfl, fun h => (by cases h), fun _ => ⟨w.heap.size, 0, rfl, by simp, fun j hj i u hu => ?_⟩⟩
  have hj3 : j < 3 := hj
  rw [World.cell?_alloc_at _ _ _ _ rfl]
  rcases (show j = 0 ∨ j = 1 ∨ j = 2 by omega) with rfl | rfl | rfl
  all_goals
    cases i with
    | zero => simpa [ic] using hu
    | succ i => simp [ic] at hu

theorem osds_at {w : World} {B : Nat} {v : Value} {xs : List OsdV} {L : Nat} (h : Own oc 4 39 w B v xs) (hL : xs.length = L) (h0 : 0 < L) : ∃ b off c, v = .slice (some (⟨b, off, none⟩ : Addr)) L c ∧ b < w.heap.size ∧ ∀ j (hj : j < xs.length), w.rangeAt b (off + j * 4) (oc xs[j]) := by
  subst hL
  obtain ⟨_, a, c, rfl, -, hc⟩ := h.read oc_len
  obtain ⟨b, off, rfl, hlt, hcell⟩ := hc (by omega)
  exact ⟨b, off, c, rfl, hlt, hcell⟩
theorem aw_put {W w2 : World} {M : Nat} {t : TypeId} {ep : Int} {a1 a2 a3 a4 : Value} (hM : MBox W M t ep a1 a2 a3 a4) (hb : Below W.heap.size W w2) {vh vo vp vb : Value} {m' : MapV} (ho : MapO w2 W.heap.size vh vo vp vb m') :
    MBox (w2.setCells M 0 [.int .i64 m'.epoch, vh, vo, vp, vb]) M t m'.epoch vh vo vp vb ∧ MapO (w2.setCells M 0 [.int .i64 m'.epoch, vh, vo, vp, vb]) (M + 1) vh vo vp vb m' :=
  ⟨(hM.keep hb).put _ _ _ _ _, (ho.far hM.lt 0 _).mono hM.lt⟩

set_option maxHeartbeats 16000000 in
set_option maxRecDepth 100000 in
theorem awake_any (w : World) : Calls Try.prog 7 #[] w fun e w' => e = .returned (.bool true) ∧ Below w.heap.size w w' := by
  have HB0 := Lib.hid (below_new w (.cells #[.int .i64 0, .int .i64 0, .int .i64 1] 3))
  have HFi := Lib.hid (First_any _ [0, 0, 1] _ (sl_three w))
  rw [aw_first] at HFi
  have HA1 := Lib.hid (fun v u (h : MapR u v awM0) => apply1_any v awC1 rfl 1 rfl aw_ok1 awM0 u h aw_sm0 (by decide) (by unfold I64; decide))
  have HA2 := Lib.hid (fun v u (h : MapR u v awM1) => apply2_any v awC2 rfl 1 rfl aw_ok2 awM1 u h aw_sm1 (by decide) (by unfold I64; decide))
  have HA3 := Lib.hid (fun v u (h : MapR u v awM2) => apply2_any v awC3 rfl 1 rfl aw_ok3 awM2 u h aw_sm2 (by decide) (by unfold I64; decide))
  rw [aw_s1] at HA1
  rw [aw_s2] at HA2
  rw [aw_s3] at HA3
  have HEn := Lib.hid (fun u => Encode_any awC1 u)
  rw [aw_enc] at HEn
  have HDe := Lib.hid (fun u => Decode_any { data := #[] } (by decide) u)
  have HFt := Lib.hid (fun v u (h : MapR u v awM3) => Fit_any v awM3 u h (fun vb u h => fitBans_nil vb u h))
  rw [aw_fit] at HFt
  have hdt : decB (Go.Proofs.Ytlghbfgkhdnaoaa.cm.txtN { data := #[] }) = (10, incZ) := aw_dec
  rw [hdt] at HDe
  unfold DecS at HDe
  unfold awC1 IncV.val at HA1 HEn
  unfold awC2 IncV.val at HA2
  unfold awC3 IncV.val at HA3
  unfold incZ IncV.val at HDe
  simp only at HA1 HA2 HA3 HEn HDe
  clear hdt
  go_enter Try.func7, Try.ntmps7
  go_upto_region 2 with (go_at_call 5; refine HFi.out.mono ?_; rintro e w1 ⟨vh1, vo1, vp1, vb1, rfl, ho, hb⟩; obtain ⟨b1, d1, rfl⟩ := ho.1.slice; obtain ⟨b2, d2, rfl⟩ := ho.2.1.slice; obtain ⟨b3, d3, rfl⟩ := ho.2.2.1.slice; obtain ⟨b4, d4, rfl⟩ := ho.2.2.2.slice; have HO1 := Lib.hid ho.read; have HB1 := Lib.hid (HB0.out.trans (hb.mono HB0.out.size)); clear hb ho)
  have hbn := below_new w1 (.cells #[.int .i64 awM0.epoch, .slice b1 awM0.hosts.length d1, .slice b2 awM0.osds.length d2, .slice b3 awM0.pools.length d3, .slice b4 awM0.bans.length d4] 28)
  have HXx1 := Lib.hid (mbox_new w1 28 awM0.epoch (.slice b1 awM0.hosts.length d1) (.slice b2 awM0.osds.length d2) (.slice b3 awM0.pools.length d3) (.slice b4 awM0.bans.length d4))
  have HRd1 := Lib.hid (HO1.out.keep hbn)
  have HBx1 := Lib.hid (HB1.out.trans (hbn.mono HB1.out.size))
  have HMw := Lib.hid HB1.out.size
  clear hbn
  generalize (w1.alloc (.cells #[.int .i64 awM0.epoch, .slice b1 awM0.hosts.length d1, .slice b2 awM0.osds.length d2, .slice b3 awM0.pools.length d3, .slice b4 awM0.bans.length d4] 28)) = U1 at HXx1 HRd1 HBx1 ⊢
  obtain ⟨l0, l1, l2, l3, l4⟩ := HXx1.out.cells
  go_upto_region 3 with (first
    | (go_at_call 8; refine (HA1.out _ _ HRd1.out).mono ?_; rintro e w2 ⟨vh2, vo2, vp2, vb2, rfl, ho, hb⟩; obtain ⟨x1, y1, rfl⟩ := ho.1.slice; obtain ⟨x2, y2, rfl⟩ := ho.2.1.slice; obtain ⟨x3, y3, rfl⟩ := ho.2.2.1.slice; obtain ⟨x4, y4, rfl⟩ := ho.2.2.2.slice; have HPt2 := Lib.hid (aw_put HXx1.out hb ho); have HT2 := Lib.hid (HXx1.out.keep hb).there; have HBl2 := Lib.hid (Below.setCells (HBx1.out.trans (hb.mono HBx1.out.size)) HMw.out 0 [.int .i64 awM1.epoch, .slice x1 awM1.hosts.length y1, .slice x2 awM1.osds.length y2, .slice x3 awM1.pools.length y3, .slice x4 awM1.bans.length y4]); clear ho hb)
    | (refine wpList_store_mid rfl 28 _ _ rfl w1.heap.size 0 #[.int .i64 awM1.epoch, .slice x1 awM1.hosts.length y1, .slice x2 awM1.osds.length y2, .slice x3 awM1.pools.length y3, .slice x4 awM1.bans.length y4] rfl rfl HT2.out sizeMap (map_one _ _ _ _ _ _ _ _ _ _ _ _ _) ?_))
  have HXx2 := Lib.hid HPt2.out.1
  have HOx2 := Lib.hid HPt2.out.2
  have HBx2 := Lib.hid HBl2.out
  generalize w2.setCells w1.heap.size 0 _ = U2 at HXx2 HOx2 HBx2 ⊢
  have HRd2 := Lib.hid HOx2.out.read
  clear HPt2 HT2 HBl2
  clear l0 l1 l2 l3 l4
  obtain ⟨l0, l1, l2, l3, l4⟩ := HXx2.out.cells
  go_upto_region 4 with (first
    | (go_at_call 8; refine (HA2.out _ _ HRd2.out).mono ?_; rintro e w3 ⟨vh3, vo3, vp3, vb3, rfl, ho, hb⟩; obtain ⟨x1, y1, rfl⟩ := ho.1.slice; obtain ⟨x2, y2, rfl⟩ := ho.2.1.slice; obtain ⟨x3, y3, rfl⟩ := ho.2.2.1.slice; obtain ⟨x4, y4, rfl⟩ := ho.2.2.2.slice; have HPt3 := Lib.hid (aw_put HXx2.out hb ho); have HT3 := Lib.hid (HXx2.out.keep hb).there; have HBl3 := Lib.hid (Below.setCells (HBx2.out.trans (hb.mono HBx2.out.size)) HMw.out 0 [.int .i64 awM2.epoch, .slice x1 awM2.hosts.length y1, .slice x2 awM2.osds.length y2, .slice x3 awM2.pools.length y3, .slice x4 awM2.bans.length y4]); clear ho hb)
    | (refine wpList_store_mid rfl 28 _ _ rfl w1.heap.size 0 #[.int .i64 awM2.epoch, .slice x1 awM2.hosts.length y1, .slice x2 awM2.osds.length y2, .slice x3 awM2.pools.length y3, .slice x4 awM2.bans.length y4] rfl rfl HT3.out sizeMap (map_one _ _ _ _ _ _ _ _ _ _ _ _ _) ?_))
  have HXx3 := Lib.hid HPt3.out.1
  have HOx3 := Lib.hid HPt3.out.2
  have HBx3 := Lib.hid HBl3.out
  generalize w3.setCells w1.heap.size 0 _ = U3 at HXx3 HOx3 HBx3 ⊢
  have HRd3 := Lib.hid HOx3.out.read
  clear HPt3 HT3 HBl3
  clear l0 l1 l2 l3 l4
  obtain ⟨l0, l1, l2, l3, l4⟩ := HXx3.out.cells
  have HLd := Lib.hid (⟨l0, l1, l2, l3, l4⟩ : _ ∧ _ ∧ _ ∧ _ ∧ _)
  obtain ⟨bb, off, cc, he, hlt, hcl⟩ := osds_at HOx3.out.2.1 rfl (L := 3) (by omega)
  cases he
  obtain ⟨d1, d2, d3, d4⟩ := ocells4 (hcl 1 (by decide))
  have e1 : awM2.osds[1]'(by decide) = ⟨3, true, 65536, 0⟩ := rfl
  rw [e1] at d1 d2 d3 d4
  simp only at d1 d2 d3 d4
  rw [show awM2.epoch = 2 from rfl] at l0
  rw [show awM2.osds.length = 3 from rfl] at l2
  clear e1 hcl
  go_upto_region 6 with fail
  clear d1 d2 d3 d4 l0 l1 l2 l3 l4 hlt
  obtain ⟨l0, l1, l2, l3, l4⟩ := HLd.out
  clear HLd
  go_upto_region 7 with (first
    | (go_at_call 8; refine (HA3.out _ _ HRd3.out).mono ?_; rintro e w4 ⟨vh4, vo4, vp4, vb4, rfl, ho, hb⟩; obtain ⟨x1, y1, rfl⟩ := ho.1.slice; obtain ⟨x2, y2, rfl⟩ := ho.2.1.slice; obtain ⟨x3, y3, rfl⟩ := ho.2.2.1.slice; obtain ⟨x4, y4, rfl⟩ := ho.2.2.2.slice; have HPt4 := Lib.hid (aw_put HXx3.out hb ho); have HT4 := Lib.hid (HXx3.out.keep hb).there; have HBl4 := Lib.hid (Below.setCells (HBx3.out.trans (hb.mono HBx3.out.size)) HMw.out 0 [.int .i64 awM3.epoch, .slice x1 awM3.hosts.length y1, .slice x2 awM3.osds.length y2, .slice x3 awM3.pools.length y3, .slice x4 awM3.bans.length y4]); clear ho hb)
    | (refine wpList_store_mid rfl 28 _ _ rfl w1.heap.size 0 #[.int .i64 awM3.epoch, .slice x1 awM3.hosts.length y1, .slice x2 awM3.osds.length y2, .slice x3 awM3.pools.length y3, .slice x4 awM3.bans.length y4] rfl rfl HT4.out sizeMap (map_one _ _ _ _ _ _ _ _ _ _ _ _ _) ?_))
  have HXx4 := Lib.hid HPt4.out.1
  have HOx4 := Lib.hid HPt4.out.2
  have HBx4 := Lib.hid HBl4.out
  generalize w4.setCells w1.heap.size 0 _ = U4 at HXx4 HOx4 HBx4 ⊢
  have HRd4 := Lib.hid HOx4.out.read
  clear HPt4 HT4 HBl4
  clear l0 l1 l2 l3 l4
  obtain ⟨l0, l1, l2, l3, l4⟩ := HXx4.out.cells
  have HLd := Lib.hid (⟨l0, l1, l2, l3, l4⟩ : _ ∧ _ ∧ _ ∧ _ ∧ _)
  obtain ⟨bb, off, cc, he, hlt, hcl⟩ := osds_at HOx4.out.2.1 rfl (L := 3) (by omega)
  cases he
  obtain ⟨d1, d2, d3, d4⟩ := ocells4 (hcl 1 (by decide))
  have e1 : awM3.osds[1]'(by decide) = ⟨3, false, 65536, 0⟩ := rfl
  rw [e1] at d1 d2 d3 d4
  simp only at d1 d2 d3 d4
  rw [show awM3.epoch = 3 from rfl] at l0
  rw [show awM3.osds.length = 3 from rfl] at l2
  clear e1 hcl
  go_upto_region 8 with (go_at_call 14; refine (HDe.out _).mono ?_; rintro e w5 ⟨rfl, hb⟩; have HX5 := Lib.hid (HXx4.out.keep hb); have HR5 := Lib.hid (HRd4.out.keep hb); have HO5 := Lib.hid (HOx4.out.below hb); have HB5 := Lib.hid (HBx4.out.trans (hb.mono HBx4.out.size)); clear hb d1 d2 d3 d4 l0 l1 l2 l3 l4 hlt HLd)
  have hbn := below_new w5 (.cells #[.int .i64 0, .int .i64 0, .int .i64 0, .int .i64 0, .int .i64 0, .int .i64 0, .int .i64 0, .int .i64 0] 35)
  have HX6 := Lib.hid (HX5.out.keep hbn); have HR6 := Lib.hid (HR5.out.keep hbn); have HO6 := Lib.hid (HO5.out.below hbn); have HB6 := Lib.hid (HB5.out.trans (hbn.mono HB5.out.size))
  clear hbn
  generalize w5.alloc (.cells #[.int .i64 0, .int .i64 0, .int .i64 0, .int .i64 0, .int .i64 0, .int .i64 0, .int .i64 0, .int .i64 0] 35) = U6 at HX6 HR6 HO6 HB6 ⊢
  obtain ⟨l0, l1, l2, l3, l4⟩ := HX6.out.cells
  obtain ⟨bb5, off5, cc5, he, hlt, hcl⟩ := osds_at HO6.out.2.1 rfl (L := 3) (by omega)
  cases he
  obtain ⟨d1, d2, d3, d4⟩ := ocells4 (hcl 1 (by decide))
  rw [show awM3.osds[1]'(by decide) = ⟨3, false, 65536, 0⟩ from rfl] at d1 d2 d3 d4
  simp only at d1 d2 d3 d4
  rw [show awM3.osds.length = 3 from rfl] at l2
  clear hcl
  go_wp2_with (first
    | (go_at_call 12; refine (HEn.out _).mono ?_; rintro e w7 ⟨rfl, hb⟩; have HX7 := Lib.hid (HX6.out.keep hb); have HR7 := Lib.hid (HR6.out.keep hb); have HB7 := Lib.hid (HB6.out.trans (hb.mono HB6.out.size)); clear hb d1 d2 d3 d4 l0 l1 l2 l3 l4 hlt; obtain ⟨l0, l1, l2, l3, l4⟩ := HX7.out.cells)
    | (go_at_call 9; refine (HFt.out _ _ HR7.out).mono ?_; rintro e w8 ⟨rfl, hb⟩; have HB8 := Lib.hid (HB7.out.trans (hb.mono HB7.out.size)); clear hb))
  go_ret
  exact ⟨rfl, HB8.out⟩
end Go.Proofs.Ytlghbfgkhdnaoaa.crush

namespace Go.Proofs.Ytlghbfgkhdnaoaa.crush
open Go.RowKit
open Go.Proofs.Ytlghbfgkhdnaoaa.kit Go.Proofs.Ytlghbfgkhdnaoaa.own Go.Proofs.Ytlghbfgkhdnaoaa.cm Go.Proofs.Ytlghbfgkhdnaoaa.code
set_option linter.unusedVariables false

theorem txtN_strOf (l : List Nat) (h : ∀ c ∈ l, c < 256) : txtN (strOfNums (l.map fun n : Nat => (n : Int))) = l := by
  unfold txtN
  rw [strOfNums_data, List.map_map, List.map_map]
  conv => rhs; rw [← List.map_id l]
  apply List.map_congr_left
  intro c hc
  have := h c hc
  simp
  omega
theorem numF_8 : ∀ (k d : Nat), ∀ c ∈ numF k d, c < 256 := by
  intro k
  induction k with
  | zero => intro d c hc; simp [numF] at hc
  | succ k ih =>
    intro d c hc
    unfold numF at hc
    split at hc
    · simp at hc; omega
    · rcases List.mem_cons.1 hc with rfl | hc
      · omega
      · exact ih _ c hc
theorem flds_8 (c : IncV) : ∀ x ∈ (flds c).flatMap Fld.bytes, x < 256 := by
  intro x hx
  obtain ⟨f, hf, hx⟩ := List.mem_flatMap.1 hx
  obtain ⟨n, hn, rfl⟩ := List.mem_map.1 hf
  rw [fldN_bytes] at hx
  exact numF_8 _ _ x hx
theorem incOf_flds (c : IncV) : incOfL (flds c) = c := rfl
theorem dec_enc {c : IncV} (h : okInc c = true) : decB (txtN (encE c)) = (0, c) := by
  have h1 := row_forth (flds c) (flds_ok h)
  unfold encE incT
  rw [if_pos h, txtN_strOf _ (flds_8 c)]
  unfold decB
  rw [show ((flds c).map fun g => g.kind) = [1, 1, 1, 1, 1, 1, 1, 1] from rfl] at h1
  rw [h1]
  unfold decR
  simp only
  rw [incOf_flds, if_pos h]
theorem enc_not {c : IncV} (h : okInc c = false) : encE c = { data := #[] } := by unfold encE; rw [h]; rfl
theorem enc_inj {c d : IncV} (h : okInc c = true) (he : encE d = encE c) : d = c := by
  have h1 := dec_enc h
  cases hd : okInc d with
  | true =>
    have h2 := dec_enc hd
    rw [he, h1] at h2
    exact (Prod.mk.inj h2).2.symm
  | false =>
    rw [← he, enc_not hd] at h1
    rw [show decB (txtN { data := #[] }) = (10, incZ) from rfl] at h1
    exact absurd (Prod.mk.inj h1).1 (by decide)
theorem enc_size (c : IncV) : (encE c).size ≤ 80 := by
  unfold encE
  split
  · unfold incT
    rw [strOfNums_size, List.length_map]
    exact flds_len c
  · exact Nat.zero_le _
theorem bytes_ne {x y : ByteArray} (h : ¬ x = y) : (x.toList == y.toList) = false := by
  rw [beq_eq_false_iff_ne]
  intro e
  rw [ByteArray.toList_eq, ByteArray.toList_eq] at e
  exact h (ByteArray.ext (Array.toList_inj.1 e))
end Go.Proofs.Ytlghbfgkhdnaoaa.crush

namespace Go.Proofs.Ytlghbfgkhdnaoaa.crush
open Go.ChangeShapes Go.WideShapes Go.ChangeAt Go.RowKit
open Go.Proofs.Ytlghbfgkhdnaoaa.kit Go.Proofs.Ytlghbfgkhdnaoaa.own Go.Proofs.Ytlghbfgkhdnaoaa.lift
set_option linter.unusedVariables false

theorem own : ownKnob Try.prog.godebug = none := by kernel_rfl
theorem laidOut : laidOutB Try.prog = true := by kernel_rfl
theorem incCells : Try.prog.cellsOf 35 = 8 ∧ Try.prog.cellsOf 33 = 4 ∧ Try.prog.cellsOf 3 = 1 ∧ Try.prog.cellsOf 2 = 1 := ⟨by kernel_rfl, by kernel_rfl, by kernel_rfl, by kernel_rfl⟩
theorem list8 {α : Type} : ∀ (l : List α), l.length = 8 → ∃ a b c d e f g h, l = [a, b, c, d, e, f, g, h]
  | [a, b, c, d, e, f, g, h], _ => ⟨a, b, c, d, e, f, g, h, rfl⟩
theorem list5 {α : Type} : ∀ (l : List α), l.length = 5 → ∃ a b c d e, l = [a, b, c, d, e]
  | [a, b, c, d, e], _ => ⟨a, b, c, d, e, rfl⟩
theorem list4' {α : Type} : ∀ (l : List α), l.length = 4 → ∃ a b c d, l = [a, b, c, d]
  | [a, b, c, d], _ => ⟨a, b, c, d, rfl⟩

set_option maxRecDepth 100000 in
theorem inc_cells {H : Type} {enc : TypeId × Value → H} {W : World} {base n : Nat} {sp : Nat → Bool} {held : Bool} {cs : List Value} {d : DataW H} {p : List MemPlace}
    (h : DataW.trod enc Try.prog W base sp held n 35 cs = some (d, p)) :
    ∃ c : IncV, cs = [.int .i64 c.kind, .int .i64 c.osd, .int .i64 c.client, .int .i64 c.num, .int .i64 c.pool.size, .int .i64 c.pool.min, .int .i64 c.pool.pgs, .int .i64 c.pool.dom] ∧ (Lit.int .i64 c.kind).wf = true ∧ (Lit.int .i64 c.osd).wf = true ∧ (Lit.int .i64 c.client).wf = true ∧ (Lit.int .i64 c.num).wf = true := by
  obtain ⟨xs, n', hn, hx, hlen, hxs, hg⟩ := DataW.trod_struct Try.underlying35 h
  obtain ⟨e8, e4, e1, e2⟩ := incCells
  rw [e8] at hlen
  have hxs' : xs.length = 5 := hxs
  obtain ⟨c0, c1, c2, c3, c4, c5, c6, c7, rfl⟩ := list8 cs hlen
  obtain ⟨y0, y1, y2, y3, y4, rfl⟩ := list5 xs hxs'
  have q0 : DataW.trod enc Try.prog W base sp held n' 3 (List.take (Try.prog.cellsOf 3) (List.drop 0 [c0, c1, c2, c3, c4, c5, c6, c7])) = some y0 := hg 0 _ rfl
  have q1 : DataW.trod enc Try.prog W base sp held n' 3 (List.take (Try.prog.cellsOf 3) (List.drop 1 [c0, c1, c2, c3, c4, c5, c6, c7])) = some y1 := hg 1 _ rfl
  have q2 : DataW.trod enc Try.prog W base sp held n' 3 (List.take (Try.prog.cellsOf 3) (List.drop 2 [c0, c1, c2, c3, c4, c5, c6, c7])) = some y2 := hg 2 _ rfl
  have q3 : DataW.trod enc Try.prog W base sp held n' 2 (List.take (Try.prog.cellsOf 2) (List.drop 3 [c0, c1, c2, c3, c4, c5, c6, c7])) = some y3 := hg 3 _ rfl
  have q4 : DataW.trod enc Try.prog W base sp held n' 33 (List.take (Try.prog.cellsOf 33) (List.drop 4 [c0, c1, c2, c3, c4, c5, c6, c7])) = some y4 := hg 4 _ rfl
  rw [e1] at q0 q1 q2
  rw [e2] at q3
  rw [e4] at q4
  have g0 : DataW.trod enc Try.prog W base sp held n' 3 [c0] = some y0 := q0
  have g1 : DataW.trod enc Try.prog W base sp held n' 3 [c1] = some y1 := q1
  have g2 : DataW.trod enc Try.prog W base sp held n' 3 [c2] = some y2 := q2
  have g3 : DataW.trod enc Try.prog W base sp held n' 2 [c3] = some y3 := q3
  have g4 : DataW.trod enc Try.prog W base sp held n' 33 [c4, c5, c6, c7] = some y4 := q4
  clear hg hxs hxs' hlen q0 q1 q2 q3 q4
  obtain ⟨xs, m, hm, hx2, hlen, hxs, hg⟩ := DataW.trod_struct Try.underlying33 g4
  have hxs' : xs.length = 4 := hxs
  obtain ⟨z4, z5, z6, z7, rfl⟩ := list4' xs hxs'
  have q4 : DataW.trod enc Try.prog W base sp held m 3 (List.take (Try.prog.cellsOf 3) (List.drop 0 [c4, c5, c6, c7])) = some z4 := hg 0 _ rfl
  have q5 : DataW.trod enc Try.prog W base sp held m 3 (List.take (Try.prog.cellsOf 3) (List.drop 1 [c4, c5, c6, c7])) = some z5 := hg 1 _ rfl
  have q6 : DataW.trod enc Try.prog W base sp held m 3 (List.take (Try.prog.cellsOf 3) (List.drop 2 [c4, c5, c6, c7])) = some z6 := hg 2 _ rfl
  have q7 : DataW.trod enc Try.prog W base sp held m 3 (List.take (Try.prog.cellsOf 3) (List.drop 3 [c4, c5, c6, c7])) = some z7 := hg 3 _ rfl
  rw [e1] at q4 q5 q6 q7
  have k4 : DataW.trod enc Try.prog W base sp held m 3 [c4] = some z4 := q4
  have k5 : DataW.trod enc Try.prog W base sp held m 3 [c5] = some z5 := q5
  have k6 : DataW.trod enc Try.prog W base sp held m 3 [c6] = some z6 := q6
  have k7 : DataW.trod enc Try.prog W base sp held m 3 [c7] = some z7 := q7
  clear hg hxs hxs' hlen q4 q5 q6 q7
  obtain ⟨a0, ha0, rfl, hw0⟩ := DataW.trod_int Try.underlying3 g0
  obtain ⟨a1, ha1, rfl, hw1⟩ := DataW.trod_int Try.underlying3 g1
  obtain ⟨a2, ha2, rfl, hw2⟩ := DataW.trod_int Try.underlying3 g2
  obtain ⟨a3, ha3, rfl, hw3⟩ := DataW.trod_int Try.underlying2 g3
  obtain ⟨a4, ha4, rfl, hw4⟩ := DataW.trod_int Try.underlying3 k4
  obtain ⟨a5, ha5, rfl, hw5⟩ := DataW.trod_int Try.underlying3 k5
  obtain ⟨a6, ha6, rfl, hw6⟩ := DataW.trod_int Try.underlying3 k6
  obtain ⟨a7, ha7, rfl, hw7⟩ := DataW.trod_int Try.underlying3 k7
  cases ha0; cases ha1; cases ha2; cases ha3; cases ha4; cases ha5; cases ha6; cases ha7
  exact ⟨⟨a0, a1, a2, a3, ⟨a4, a5, a6, a7⟩⟩, rfl, hw0, hw1, hw2, hw3⟩

set_option maxRecDepth 100000 in
theorem inc_open {H : Type} {enc : TypeId × Value → H} {W : World} {r : Reach} {base : Nat} {v : Value} {d : DataW H} {p : List MemPlace}
    (hval : Value.okWide Try.prog W r base 35 v) (h : DataW.Trod enc Try.prog W 0 (fun _ => true) true 35 v d p) :
    ∃ c : IncV, v = c.val ∧ (Lit.int .i64 c.kind).wf = true ∧ (Lit.int .i64 c.osd).wf = true ∧ (Lit.int .i64 c.client).wf = true ∧ (Lit.int .i64 c.num).wf = true := by
  obtain ⟨cs, rfl, hs⟩ := okWide_struct Try.underlying35 hval
  obtain ⟨fuel, hf⟩ := h
  obtain ⟨c, hc, h0⟩ := inc_cells hf
  refine ⟨c, ?_, h0⟩
  unfold IncV.val
  simp only [Value.cells] at hc
  congr 1
  exact Array.ext' hc
end Go.Proofs.Ytlghbfgkhdnaoaa.crush

namespace Go.Proofs.Ytlghbfgkhdnaoaa.crush
open Go.ChangeShapes Go.WideShapes Go.ChangeAt Go.RowKit
open Go.Proofs.Ytlghbfgkhdnaoaa.kit Go.Proofs.Ytlghbfgkhdnaoaa.own Go.Proofs.Ytlghbfgkhdnaoaa.lift
set_option linter.unusedVariables false

set_option maxHeartbeats 32000000 in
set_option maxRecDepth 100000 in
theorem walkBack (c d : IncV) (w : World) :
    Calls Try.prog 4 #[c.val, d.val] w fun e w' => e = .returned (.bool true) ∧ Below w.heap.size w w' := by
  have HE1 := Lib.hid (fun u => Encode_any c u)
  have HE2 := Lib.hid (fun u => Encode_any d u)
  have HI := Lib.hid (fun u => Inc_any c u)
  have HD := Lib.hid (fun u => Decode_any (encE c) (by have := enc_size c; omega) u)
  have HQ1 := fun u => eql_inc c c u
  have HQ2 := fun u => eql_inc c d u
  have HN := Lib.hid (fun (h : okInc c = false) => enc_not h)
  have HDe := Lib.hid (fun (h : okInc c = true) => dec_enc h)
  have HJ := Lib.hid (fun (h : okInc c = true) (hn : decide (c = d) = false) (he : encE d = encE c) => (of_decide_eq_false hn) (enc_inj h he).symm)
  rw [decide_eq_true (rfl : c = c)] at HQ1
  obtain ⟨q, hq⟩ : ∃ q, okInc c = q := ⟨_, rfl⟩
  obtain ⟨q2, hq2⟩ : ∃ q, decide (c = d) = q := ⟨_, rfl⟩
  rw [hq] at HI HN HDe HJ
  rw [hq2] at HQ2 HJ
  generalize encE c = ee at HE1 HD HN HDe HJ
  generalize encE d = ed at HE2 HJ
  clear hq hq2
  obtain ⟨k, o, cl, n, a, b, p, dd⟩ := c
  obtain ⟨k', o', cl', n', a', b', p', dd'⟩ := d
  unfold IncV.val at HE1 HE2 HI HQ1 HQ2 ⊢
  simp only at HE1 HE2 HI HQ1 HQ2 ⊢
  obtain ⟨W, hW⟩ : ∃ W, ((w.alloc (.cells #[.int .i64 k, .int .i64 o, .int .i64 cl, .int .i64 n, .int .i64 a, .int .i64 b, .int .i64 p, .int .i64 dd] 35)).alloc (.cells #[.int .i64 k', .int .i64 o', .int .i64 cl', .int .i64 n', .int .i64 a', .int .i64 b', .int .i64 p', .int .i64 dd'] 35)) = W := ⟨_, rfl⟩
  have hB3 : Below w.heap.size w W := by rw [← hW]; exact (below_new w _).alloc (by simp) _
  have hX0 : IBx W w.heap.size ⟨k, o, cl, n, ⟨a, b, p, dd⟩⟩ := by
    unfold IBx; rw [← hW]; simp only [alloc_heap, Array.getElem?_push, Array.size_push]
    repeat (first | rw [if_pos trivial] | rw [if_pos (by omega)] | rw [if_neg (by omega)])
  have hX1 : IBx W (w.heap.size + 1) ⟨k', o', cl', n', ⟨a', b', p', dd'⟩⟩ := by
    unfold IBx; rw [← hW]; simp only [alloc_heap, Array.getElem?_push, Array.size_push]
    repeat (first | rw [if_pos trivial] | rw [if_pos (by omega)] | rw [if_neg (by omega)])
  have HB1 := Lib.hid hB3; have HC1 := Lib.hid hX0; have HX1 := Lib.hid hX1
  clear hB3 hX0 hX1
  go_enter Try.func4, Try.ntmps4
  go_upto_region 1 with fail
  clear hW
  obtain ⟨c0, c1, c2, c3, c4, c5, c6, c7⟩ := HC1.out.cells
  obtain ⟨d0, d1, d2, d3, d4, d5, d6, d7⟩ := HX1.out.cells
  cases q with
  | false =>
    have he := HN.out rfl
    subst he
    go_wp2_with (first
      | (go_at_call 12; refine (HE1.out _).mono ?_; rintro e w1 ⟨rfl, hb⟩; have HC2 := Lib.hid (HC1.out.keep hb); have HX2 := Lib.hid (HX1.out.keep hb); have HB2 := Lib.hid (HB1.out.trans (hb.mono HB1.out.size)); clear hb c0 c1 c2 c3 c4 c5 c6 c7 d0 d1 d2 d3 d4 d5 d6 d7; obtain ⟨c0, c1, c2, c3, c4, c5, c6, c7⟩ := HC2.out.cells; obtain ⟨d0, d1, d2, d3, d4, d5, d6, d7⟩ := HX2.out.cells)
      | (go_at_call 13; refine (HI.out _).mono ?_; rintro e w2 ⟨rfl, hb⟩; have HC3 := Lib.hid (HC2.out.keep hb); have HX3 := Lib.hid (HX2.out.keep hb); have HB3 := Lib.hid (HB2.out.trans (hb.mono HB2.out.size)); clear hb c0 c1 c2 c3 c4 c5 c6 c7 d0 d1 d2 d3 d4 d5 d6 d7; obtain ⟨c0, c1, c2, c3, c4, c5, c6, c7⟩ := HC3.out.cells; obtain ⟨d0, d1, d2, d3, d4, d5, d6, d7⟩ := HX3.out.cells)
      | (go_at_call 7; refine (awake_any _).mono ?_; rintro e w7 ⟨rfl, hb⟩; have HB7 := Lib.hid (HB3.out.trans (hb.mono HB3.out.size)); clear hb))
    go_ret
    exact ⟨rfl, HB7.out⟩
  | true =>
    rw [HDe.out rfl] at HD
    unfold DecS IncV.val at HD
    simp only at HD
    have HJ' := HJ.out rfl
    clear HJ
    cases q2 with
    | true =>
      go_wp2_with (first
        | (go_at_call 12; refine (HE1.out _).mono ?_; rintro e w1 ⟨rfl, hb⟩; have HC2 := Lib.hid (HC1.out.keep hb); have HX2 := Lib.hid (HX1.out.keep hb); have HB2 := Lib.hid (HB1.out.trans (hb.mono HB1.out.size)); clear hb c0 c1 c2 c3 c4 c5 c6 c7 d0 d1 d2 d3 d4 d5 d6 d7; obtain ⟨c0, c1, c2, c3, c4, c5, c6, c7⟩ := HC2.out.cells; obtain ⟨d0, d1, d2, d3, d4, d5, d6, d7⟩ := HX2.out.cells)
        | (go_at_call 13; refine (HI.out _).mono ?_; rintro e w2 ⟨rfl, hb⟩; have HC3 := Lib.hid (HC2.out.keep hb); have HX3 := Lib.hid (HX2.out.keep hb); have HB3 := Lib.hid (HB2.out.trans (hb.mono HB2.out.size)); clear hb c0 c1 c2 c3 c4 c5 c6 c7 d0 d1 d2 d3 d4 d5 d6 d7; obtain ⟨c0, c1, c2, c3, c4, c5, c6, c7⟩ := HC3.out.cells; obtain ⟨d0, d1, d2, d3, d4, d5, d6, d7⟩ := HX3.out.cells)
        | (go_at_call 14; refine (HD.out _).mono ?_; rintro e w3 ⟨rfl, hb⟩; replace hb := hb.alloc hb.size (.cells #[.int .i64 k, .int .i64 o, .int .i64 cl, .int .i64 n, .int .i64 a, .int .i64 b, .int .i64 p, .int .i64 dd] 35); have HC4 := Lib.hid (HC3.out.keep hb); have HX4 := Lib.hid (HX3.out.keep hb); have HB4 := Lib.hid (HB3.out.trans (hb.mono HB3.out.size)); clear hb c0 c1 c2 c3 c4 c5 c6 c7 d0 d1 d2 d3 d4 d5 d6 d7; obtain ⟨c0, c1, c2, c3, c4, c5, c6, c7⟩ := HC4.out.cells; obtain ⟨d0, d1, d2, d3, d4, d5, d6, d7⟩ := HX4.out.cells)
        | (go_at_call 7; refine (awake_any _).mono ?_; rintro e w7 ⟨rfl, hb⟩; have HB7 := Lib.hid (HB4.out.trans (hb.mono HB4.out.size)); clear hb))
      go_ret
      exact ⟨rfl, HB7.out⟩
    | false =>
      have HJ2 := Lib.hid (bytes_ne (HJ' rfl))
      clear HJ'
      go_upto_region 4 with (first
        | (go_at_call 12; refine (HE1.out _).mono ?_; rintro e w1 ⟨rfl, hb⟩; have HC2 := Lib.hid (HC1.out.keep hb); have HX2 := Lib.hid (HX1.out.keep hb); have HB2 := Lib.hid (HB1.out.trans (hb.mono HB1.out.size)); clear hb c0 c1 c2 c3 c4 c5 c6 c7 d0 d1 d2 d3 d4 d5 d6 d7; obtain ⟨c0, c1, c2, c3, c4, c5, c6, c7⟩ := HC2.out.cells; obtain ⟨d0, d1, d2, d3, d4, d5, d6, d7⟩ := HX2.out.cells)
        | (go_at_call 13; refine (HI.out _).mono ?_; rintro e w2 ⟨rfl, hb⟩; have HC3 := Lib.hid (HC2.out.keep hb); have HX3 := Lib.hid (HX2.out.keep hb); have HB3 := Lib.hid (HB2.out.trans (hb.mono HB2.out.size)); clear hb c0 c1 c2 c3 c4 c5 c6 c7 d0 d1 d2 d3 d4 d5 d6 d7; obtain ⟨c0, c1, c2, c3, c4, c5, c6, c7⟩ := HC3.out.cells; obtain ⟨d0, d1, d2, d3, d4, d5, d6, d7⟩ := HX3.out.cells)
        | (go_at_call 14; refine (HD.out _).mono ?_; rintro e w3 ⟨rfl, hb⟩; replace hb := hb.alloc hb.size (.cells #[.int .i64 k, .int .i64 o, .int .i64 cl, .int .i64 n, .int .i64 a, .int .i64 b, .int .i64 p, .int .i64 dd] 35); have HC4 := Lib.hid (HC3.out.keep hb); have HX4 := Lib.hid (HX3.out.keep hb); have HB4 := Lib.hid (HB3.out.trans (hb.mono HB3.out.size)); clear hb c0 c1 c2 c3 c4 c5 c6 c7 d0 d1 d2 d3 d4 d5 d6 d7; obtain ⟨c0, c1, c2, c3, c4, c5, c6, c7⟩ := HC4.out.cells; obtain ⟨d0, d1, d2, d3, d4, d5, d6, d7⟩ := HX4.out.cells))
      clear HE1
      have hne : True → (ed.toList == ee.toList) = false := fun _ => HJ2.out
      go_wp2_with (first
        | (go_at_call 14; refine (HD.out _).mono ?_; rintro e w3 ⟨rfl, hb⟩; replace hb := hb.alloc hb.size (.cells #[.int .i64 k, .int .i64 o, .int .i64 cl, .int .i64 n, .int .i64 a, .int .i64 b, .int .i64 p, .int .i64 dd] 35); have HC4 := Lib.hid (HC3.out.keep hb); have HX4 := Lib.hid (HX3.out.keep hb); have HB4 := Lib.hid (HB3.out.trans (hb.mono HB3.out.size)); clear hb c0 c1 c2 c3 c4 c5 c6 c7 d0 d1 d2 d3 d4 d5 d6 d7; obtain ⟨c0, c1, c2, c3, c4, c5, c6, c7⟩ := HC4.out.cells; obtain ⟨d0, d1, d2, d3, d4, d5, d6, d7⟩ := HX4.out.cells)
        | (go_at_call 12; refine (HE2.out _).mono ?_; rintro e w5 ⟨rfl, hb⟩; have HC5 := Lib.hid (HC4.out.keep hb); have HX5 := Lib.hid (HX4.out.keep hb); have HB5 := Lib.hid (HB4.out.trans (hb.mono HB4.out.size)); clear hb c0 c1 c2 c3 c4 c5 c6 c7 d0 d1 d2 d3 d4 d5 d6 d7; obtain ⟨c0, c1, c2, c3, c4, c5, c6, c7⟩ := HC5.out.cells; obtain ⟨d0, d1, d2, d3, d4, d5, d6, d7⟩ := HX5.out.cells)
        | (go_at_call 7; refine (awake_any _).mono ?_; rintro e w7 ⟨rfl, hb⟩; have HB7 := Lib.hid (HB5.out.trans (hb.mono HB5.out.size)); clear hb))
      go_ret
      exact ⟨rfl, HB7.out⟩

--LIFT
set_option maxRecDepth 100000 in
theorem liftedBack (os : Os) (started : os.Started) (H : Type) (enc : TypeId × Value → H) :
    ReturnsInHanded {} Try.checked os 4 .any (Rows.mapsBackSpec.pre6 enc Try.prog Try.f4 Rows.mapsBackRow.domain false) (Rows.mapsBackSpec.post enc Try.prog Try.f4 false true false false) := by
  refine lift.law (C := Try.checked) own started (by kernel_rfl) Try.func4
    (ChangeSpec.witness6 (enc := enc) (C := Try.checked) false ⟨#[], #[.agg #[.int .i64 0, .int .i64 0, .int .i64 0, .int .i64 0, .int .i64 0, .int .i64 0, .int .i64 0, .int .i64 0], .agg #[.int .i64 0, .int .i64 0, .int .i64 0, .int .i64 0, .int .i64 0, .int .i64 0, .int .i64 0, .int .i64 0]], []⟩ 8 (by kernel_rfl) (by kernel_rfl) (by kernel_rfl) (by kernel_rfl)) laidOut (by kernel_rfl) 4 Try.underlying4 (by kernel_rfl) rfl ?_ ?_
  · intro ds hd
    match ds, hd with
    | [_, _], _ => rfl
  · intro W base args ds ps hg
    have hA : DataW.TrodAll enc Try.prog W 0 (fun _ => true) true Try.f4.params.toList args.toList ds ps := hg.read
    have hval : ∀ (j : Nat) t v, Try.f4.params[j]? = some t → args[j]? = some v → Value.okWide Try.prog W .any base t v := hg.ok
    rw [Try.params4] at hA hval
    obtain ⟨v0, vs0, d0, ds0, p0, q0, hargs, rfl, rfl, h0, r0⟩ := trodAll_cons hA
    obtain ⟨v1, vs1, d1, ds1, p1, q1, rfl, rfl, rfl, h1, r1⟩ := trodAll_cons r0
    obtain ⟨rfl, rfl, rfl⟩ := trodAll_nil r1
    obtain rfl : args = #[v0, v1] := by cases args; simp_all
    obtain ⟨c, rfl, -⟩ := inc_open (hval 0 35 v0 rfl rfl) h0
    obtain ⟨d, rfl, -⟩ := inc_open (hval 1 35 v1 rfl rfl) h1
    exact walkBack c d W

theorem back_holds : Rows.MapsBackSaid :=
  OpenClaim.holds_of_wide 4 Try.f4 rfl rfl rfl rfl rfl rfl rfl ⟨rfl, rfl, rfl, rfl, rfl⟩ rfl rfl rfl rfl rfl (by kernel_rfl) Try.func4 (by kernel_rfl)
    (of_decide_eq_true (by kernel_rfl)) (by unfold Func.isWrapper; first | (rw [if_pos (by decide +kernel)]; kernel_rfl) | (rw [if_neg (by decide +kernel)]; exact ⟨rfl, rfl⟩))
    (fun os started H enc _ => liftedBack os started H enc)

#print axioms back_holds
end Go.Proofs.Ytlghbfgkhdnaoaa.crush
