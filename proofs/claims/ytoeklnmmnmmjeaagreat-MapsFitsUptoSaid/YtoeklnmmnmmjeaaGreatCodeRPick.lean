/- The closure that 'read' hands to its row. -/
import Derived.Test.YtoeklnmmnmmjeaaGreatRows
import Derived.Test.YtoeklnmmnmmjeaaGreatCodeRField
import Derived.Deep.RegionWith
namespace Go.Proofs.YtoeklnmmnmmjeaaGreat.code
open Go.RowKit
open Go.Proofs.YtoeklnmmnmmjeaaGreat.kit Go.Proofs.YtoeklnmmnmmjeaaGreat.cm
set_option linter.unusedVariables false

/-- The slice value v reads, in the world w, as the kinds ks. -/
def SlK (w : World) (v : Value) (ks : List Int) : Prop :=
  ks.length ≤ 9223372036854775807 ∧ ∃ (a : Option Addr) (cap : Nat), v = .slice a ks.length cap ∧
    (0 < ks.length → ∃ b off, a = some ⟨b, off, none⟩ ∧ ∀ j, j < ks.length → w.cell? ⟨b, off + j, none⟩ = some (.int .i64 (ks.getD j 0)))

theorem SlK.keep {W W' : World} {v : Value} {ks : List Int} (h : SlK W v ks) (hs : ∀ a, W.cell? a ≠ none → W'.cell? a = W.cell? a) : SlK W' v ks := by
  obtain ⟨hl, a, cap, rfl, hc⟩ := h
  refine ⟨hl, a, cap, rfl, fun h0 => ?_⟩
  obtain ⟨b, off, ha, hcell⟩ := hc h0
  exact ⟨b, off, ha, fun j hj => by rw [hs _ (by rw [hcell j hj]; simp), hcell j hj]⟩
theorem cell_lt {W : World} {a : Addr} (h : W.cell? a ≠ none) : a.block < W.heap.size := by
  rcases Nat.lt_or_ge a.block W.heap.size with g | g
  · exact g
  · have : W.heap[a.block]? = none := by simp [g]
    simp [World.cell?, this] at h
theorem SlK.below {W W' : World} {v : Value} {ks : List Int} (h : SlK W v ks) (hb : Below W.heap.size W W') : SlK W' v ks := h.keep (fun a ha => hb.cell (cell_lt ha))

theorem pick_keep {W W1 W3 : World} {rb : Nat} {o : Obj} (hsz : W1.heap.size = W.heap.size + 1) (hrl : rb < W.heap.size) (hR1 : W1.heap[W.heap.size]? = some o) (hg : W1.drew.grownBy W3 (some rb)) : W3.heap[W.heap.size]? = some o :=
  (hg.block W.heap.size (by show W.heap.size < W1.heap.size; omega) (by simp; omega)).trans hR1

theorem pick_end {L : Nat} {W W1 W3 : World} {rb : Nat} {k : Int} {f : Fld} {er : Int} {R' : Except Int (Fld × List Nat)} (hb : Below W.heap.size W W1) (hg : W1.drew.grownBy W3 (some rb)) (hrl : rb < W.heap.size) (hL : L ≤ W.heap.size)
    (hr : (∃ r, R' = .ok (f, r) ∧ er = 0 ∧ Rest L W3 rb r) ∨ (R' = .error er ∧ f = noF k ∧ er ≠ 0)) (cs : List Value) :
    RdP L Fld.val (noF k) W rb R' (.returned (.tuple #[f.val, .int .i64 er])) (W3.setCells W.heap.size 0 cs) := by
  have g0 : W.grownBy W1.drew (some rb) := ⟨hb.os, hb.tape, hb.output, hb.size, fun k hk _ => hb.block k hk⟩
  have gA : W.grownBy W3 (some rb) := Lib.grownBy_trans g0 hg
  have g3 := grownBy_setCells W3 W.heap.size cs 0
  have gC := gA.andThen g3 (fun j e => .inl (by have : W.heap.size = j := by simpa using e
                                                omega))
  rcases hr with ⟨r, hR, h0, hrest⟩ | ⟨hR, hf, h0⟩
  · rw [hR, h0]
    exact ⟨rfl, hrest.far g3 hL (by omega), gC⟩
  · rw [hR, hf]
    exact ⟨rfl, h0, gC⟩

theorem setCells4 (W : World) (b : Nat) (x y z u : Value) : W.setCells b 0 [x, y, z, u] = (((W.setCell ⟨b, 0, none⟩ x).setCell ⟨b, 1, none⟩ y).setCell ⟨b, 2, none⟩ z).setCell ⟨b, 3, none⟩ u := rfl

set_option maxHeartbeats 4000000 in
set_option maxRecDepth 100000 in
theorem pickF_any {L : Nat} (rb T K : Nat) (ks : List Int) (kv : Value) (i : Nat) (hi : i < ks.length) (bs : List Nat) (W : World) (hT : Box W T 185 (.func (.func 143) #[.pointer (some ⟨rb, 0, none⟩)] #[])) (hK : Box W K 22 kv) (hs : SlK W kv ks)
    (h : Rest L W rb bs) (hL : L ≤ W.heap.size) :
    Calls Tryz.prog 182 #[.int .i64 i, .pointer (some ⟨T, 0, none⟩), .pointer (some ⟨K, 0, none⟩)] W (RdP L Fld.val (noF ks[i]) W rb (rField ks[i] bs)) := by
  have HL := Lib.hid hL
  have hrl : rb < W.heap.size := by obtain ⟨_, v, hv, _⟩ := h; exact box_lt hv
  have hb1 : Below W.heap.size W (W.alloc (.cells #[.int .i64 0, .int .i64 0, .string { data := #[] }, .bool false] 86)) := (Below.refl _ W).alloc (Nat.le_refl _) _
  have hR1 := heap_alloc_last W (.cells #[.int .i64 0, .int .i64 0, .string { data := #[] }, .bool false] 86)
  have hT1 := box_cell ((hb1.block T (box_lt hT)).trans hT)
  have hK1 := box_cell ((hb1.block K (box_lt hK)).trans hK)
  have hs1 := hs.below hb1
  have h1 := h.grow hb1
  obtain ⟨hkl, a, cap, rfl, hc⟩ := hs1
  obtain ⟨b, off, rfl, hcell⟩ := hc (by omega)
  have hci := hcell i hi
  have hki : ks.getD i 0 = ks[i] := by simp [List.getD, hi]
  rw [hki] at hci
  have hlt' : (i : Int) < ks.length := by omega
  have hsz1 : (W.alloc (.cells #[.int .i64 0, .int .i64 0, .string { data := #[] }, .bool false] 86)).heap.size = W.heap.size + 1 := by simp
  have HB1 := Lib.hid hb1; have HR1 := Lib.hid hR1; have H1 := Lib.hid h1; have HRL := Lib.hid hrl; have HSZ := Lib.hid hsz1
  clear hb1 hR1 hs h1 hT hK h hL hrl hc hcell hki hsz1
  go_enter Tryz.func182, Tryz.ntmps182
  go_upto_region 1 with fail
  generalize W.alloc (.cells #[.int .i64 0, .int .i64 0, .string { data := #[] }, .bool false] 86) = W1 at HB1 HR1 H1 HSZ hT1 hK1 hci ⊢
  go_region_with (go_at_call 143; refine (field_any (L := L) rb ks[i] bs _ ?_ ?_).mono ?_; exact H1.out; exact Nat.le_trans HL.out HB1.out.size; intro e W3 hp; obtain ⟨⟨yk, yn, yt, yb⟩, er, rfl, hg, hr⟩ := hp.any; have hR3 := pick_keep HSZ.out HRL.out HR1.out hg; have HG := Lib.hid hg; have HR := Lib.hid hr; obtain ⟨q0, q1, q2, q3⟩ := fbox hR3; have z0 := fbox_frozen hR3 0; have z1 := fbox_frozen hR3 1; have z2 := fbox_frozen hR3 2; have z3 := fbox_frozen hR3 3; have HT4 := Lib.hid (fbox_there hR3); have HR3 := Lib.hid hR3; clear hg hr hR3 hp; simp only [Fld.val])
  all_goals
    rw [← setCells4]
    have HRA := Lib.hid (World.rangeAt_setCells_same W3 W.heap.size 0 [.int .i64 yk, .int .i64 yn, .string yt, .bool yb] HT4.out)
    have HEnd := Lib.hid (pick_end (f := ⟨yk, yn, yt, yb⟩) HB1.out HG.out HRL.out HL.out HR.out [.int .i64 yk, .int .i64 yn, .string yt, .bool yb])
    generalize W3.setCells W.heap.size 0 [.int .i64 yk, .int .i64 yn, .string yt, .bool yb] = W4 at HRA HEnd ⊢
    clear q0 q1 q2 q3 z0 z1 z2 z3 HT4 HR3 hT1 hK1 hci
    go_wp2
    refine bodyPost_ret (by exact ret_cell_tmp (cs := [.int .i64 yk, .int .i64 yn, .string yt, .bool yb]) rfl rfl HRA.out Tryz.underlying86 rfl infoF) rfl ?_
    exact HEnd.out


end Go.Proofs.YtoeklnmmnmmjeaaGreat.code
