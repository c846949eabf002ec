/- The closure that 'read' hands to its row, over the parts of a key. -/
import Derived.Test.YtfpfgckakppllaaRows
import Derived.Test.YtfpfgckakppllaaCodeRPart
import Derived.Test.YtfpfgckakppllaaCodeRPick
import Derived.Deep.RegionWith
namespace Go.Proofs.Ytfpfgckakppllaa.code
open Go.RowKit
open Go.Proofs.Ytfpfgckakppllaa.kit Go.Proofs.Ytfpfgckakppllaa.cm
set_option linter.unusedVariables false

theorem pick_endP {L : Nat} {W W1 W3 : World} {rb : Nat} {k : Int} {f : Fld} {er : Int} {R' : Except Int (Fld × List Nat)} (hb : Below W.heap.size W W1) (hg : W1.drew.grownBy W3 (some rb)) (hrl : rb < W.heap.size) (hL : L ≤ W.heap.size)
    (hr : (∃ r, R' = .ok (f, r) ∧ er = 0 ∧ Rest L W3 rb r) ∨ (R' = .error er ∧ f = zP k ∧ er ≠ 0)) (cs : List Value) :
    RdP L Fld.val (zP k) W rb R' (.returned (.tuple #[f.val, .int .i64 er])) (W3.setCells W.heap.size 0 cs) := by
  have g0 : W.grownBy W1.drew (some rb) := ⟨hb.os, hb.tape, hb.output, hb.size, fun k hk _ => hb.block k hk⟩
  have gA : W.grownBy W3 (some rb) := Lib.grownBy_trans g0 hg
  have g3 := grownBy_setCells W3 W.heap.size cs 0
  have gC := gA.andThen g3 (fun j e => .inl (by have : W.heap.size = j := by simpa using e
                                                omega))
  rcases hr with ⟨r, hR, h0, hrest⟩ | ⟨hR, hf, h0⟩
  · rw [hR, h0]
    exact ⟨rfl, hrest.far g3 hL (by omega), gC⟩
  · rw [hR, hf]
    exact ⟨rfl, h0, gC⟩

set_option maxHeartbeats 4000000 in
set_option maxRecDepth 100000 in
theorem pickP_any {L : Nat} (rb T K : Nat) (ks : List Int) (kv : Value) (i : Nat) (hi : i < ks.length) (bs : List Nat) (W : World) (hT : Box W T 50 (.func (.func 20) #[.pointer (some ⟨rb, 0, none⟩)] #[])) (hK : Box W K 31 kv) (hs : SlK W kv ks)
    (h : Rest L W rb bs) (hL : L ≤ W.heap.size) :
    Calls Try.prog 32 #[.int .i64 i, .pointer (some ⟨T, 0, none⟩), .pointer (some ⟨K, 0, none⟩)] W (RdP L Fld.val (zP ks[i]) W rb (rPart ks[i] bs)) := by
  have HL := Lib.hid hL
  have hrl : rb < W.heap.size := by obtain ⟨_, v, hv, _⟩ := h; exact box_lt hv
  have hb1 : Below W.heap.size W (W.alloc (.cells #[.int .i64 0, .int .i64 0, .string { data := #[] }, .bool false] 37)) := (Below.refl _ W).alloc (Nat.le_refl _) _
  have hR1 := heap_alloc_last W (.cells #[.int .i64 0, .int .i64 0, .string { data := #[] }, .bool false] 37)
  have hT1 := box_cell ((hb1.block T (box_lt hT)).trans hT)
  have hK1 := box_cell ((hb1.block K (box_lt hK)).trans hK)
  have hs1 := hs.below hb1
  have h1 := h.grow hb1
  obtain ⟨hkl, a, cap, rfl, hc⟩ := hs1
  obtain ⟨b, off, rfl, hcell⟩ := hc (by omega)
  have hci := hcell i hi
  have hki : ks.getD i 0 = ks[i] := by simp [List.getD, hi]
  rw [hki] at hci
  have hlt' : (i : Int) < ks.length := by omega
  have hsz1 : (W.alloc (.cells #[.int .i64 0, .int .i64 0, .string { data := #[] }, .bool false] 37)).heap.size = W.heap.size + 1 := by simp
  have HB1 := Lib.hid hb1; have HR1 := Lib.hid hR1; have H1 := Lib.hid h1; have HRL := Lib.hid hrl; have HSZ := Lib.hid hsz1
  clear hb1 hR1 hs h1 hT hK h hL hrl hc hcell hki hsz1
  go_enter Try.func32, Try.ntmps32
  go_upto_region 1 with fail
  generalize W.alloc (.cells #[.int .i64 0, .int .i64 0, .string { data := #[] }, .bool false] 37) = W1 at HB1 HR1 H1 HSZ hT1 hK1 hci ⊢
  go_region_with (go_at_call 20; refine (part_any (L := L) rb ks[i] bs _ ?_ ?_).mono ?_; exact H1.out; exact Nat.le_trans HL.out HB1.out.size; intro e W3 hp; obtain ⟨⟨yk, yn, yt, yb⟩, er, rfl, hg, hr⟩ := hp.any; have hR3 := pick_keep HSZ.out HRL.out HR1.out hg; have HG := Lib.hid hg; have HR := Lib.hid hr; obtain ⟨q0, q1, q2, q3⟩ := fbox hR3; have z0 := fbox_frozen hR3 0; have z1 := fbox_frozen hR3 1; have z2 := fbox_frozen hR3 2; have z3 := fbox_frozen hR3 3; have HT4 := Lib.hid (fbox_there hR3); have HR3 := Lib.hid hR3; clear hg hr hR3 hp; simp only [Fld.val])
  all_goals
    rw [← setCells4]
    have HRA := Lib.hid (World.rangeAt_setCells_same W3 W.heap.size 0 [.int .i64 yk, .int .i64 yn, .string yt, .bool yb] HT4.out)
    have HEnd := Lib.hid (pick_endP (f := ⟨yk, yn, yt, yb⟩) HB1.out HG.out HRL.out HL.out HR.out [.int .i64 yk, .int .i64 yn, .string yt, .bool yb])
    generalize W3.setCells W.heap.size 0 [.int .i64 yk, .int .i64 yn, .string yt, .bool yb] = W4 at HRA HEnd ⊢
    clear q0 q1 q2 q3 z0 z1 z2 z3 HT4 HR3 hT1 hK1 hci
    go_wp2
    refine bodyPost_ret (by exact ret_cell_tmp (cs := [.int .i64 yk, .int .i64 yn, .string yt, .bool yb]) rfl rfl HRA.out Try.underlying37 rfl infoF) rfl ?_
    exact HEnd.out


end Go.Proofs.Ytfpfgckakppllaa.code
