/- The program's Place, and Hosts. -/
import Derived.Test.YtngmcolbpdinmaaRows
import Derived.Test.YtngmcolbpdinmaaRulePlace
namespace Go.Proofs.Ytngmcolbpdinmaa.crush
open Go.RowKit
open Go.Proofs.Ytngmcolbpdinmaa.kit Go.Proofs.Ytngmcolbpdinmaa.own
set_option linter.unusedVariables false

theorem nodesE_at (hs ws : List Int) (i : Nat) (h : i < (nodesE hs ws).length) : ∃ z, (nodesE hs ws)[i] = nodesOf hs ws z hs.length := ⟨_, by simp [nodesE]; rfl⟩
theorem most_le (hs ws : List Int) (size d : Int) : mostE hs ws size d ≤ hs.length := by
  unfold mostE
  have h1 := onceL_len (withD hs ws d hs.length)
  have h2 := withD_len hs ws d hs.length
  omega

set_option maxHeartbeats 8000000 in
set_option maxRecDepth 100000 in
theorem Place_any (v vw : Value) (hs ws : List Int) (x : Nat) (size d : Int) (hx : x < 4294967296) (w : World) (h : Sl ic 1 w v hs) (hw : Sl ic 1 w vw ws) (hl : hs.length ≤ 65536) (hsz : I64 size) :
    Calls Try.prog 12 #[v, vw, .int .u32 x, .int .i64 size, .int .i64 d] w (NumI w (ints (placeE hs ws x size d))) := by
  obtain ⟨a, c, rfl⟩ := h.slice
  obtain ⟨aw, cw, rfl⟩ := hw.slice
  have HD := Lib.hid (draw_any _ _ hs ws size d w h hw hl hsz)
  have HE : Hid (placeE hs ws x size d = placeF (fun r => tryP (itemsE hs ws) (nodesE hs ws) x (r : Nat)) (domsE d hs) (mostE hs ws size d : Nat) 64) := Lib.hid (placeF_enough hs ws x size d 64)
  have HP := Lib.hid (fun v w' (hr : PlanR w' v (itemsE hs ws) (nodesE hs ws) (domsE d hs) (mostE hs ws size d)) => place_any v (itemsE hs ws) (nodesE hs ws) (domsE d hs) (mostE hs ws size d) x hx w' hr
    (by rw [itemsE_len]; have := onceL_len hs; omega) (by rw [nodesE_len, itemsE_len])
    (fun i hi => by obtain ⟨z, e⟩ := nodesE_at hs ws i hi; rw [e]; have := nodesOf_len hs ws z hs.length; omega)
    (fun i hi y hy => by obtain ⟨z, e⟩ := nodesE_at hs ws i hi; rw [e] at hy; obtain ⟨k, _, e2, _⟩ := nodesOf_mem _ _ _ _ _ hy; rw [e2]; simp)
    (fun r v ht => by rw [domsE_len]; exact (tryE_some ht).1) (by rw [domsE_len]; exact hl) (by have := most_le hs ws size d; omega))
  generalize hs.length = L at HD ⊢
  generalize ws.length = Lw at HD ⊢
  clear h hw hsz hx
  go_enter Try.func12, Try.ntmps12
  go_wp2_with fail
  refine HD.out.mono ?_
  rintro e w1 ⟨v1, rfl, hpl, hb⟩
  have HPl := Lib.hid (HP.out v1 w1 hpl)
  obtain ⟨vi, vn, vd, rfl, -⟩ := hpl
  have HB1 := Lib.hid hb
  clear hb HD HP
  go_wp2_with fail
  refine HPl.out.mono ?_
  rintro e w2 ⟨v2, rfl, ho, hb⟩
  obtain ⟨a2, c2, rfl⟩ := ho.slice
  have HO := Lib.hid ho; have HB2 := Lib.hid (HB1.out.trans (hb.mono HB1.out.size))
  clear ho hb
  go_wp2
  go_ret
  rw [HE.out]
  exact ⟨_, rfl, HO.out.mono HB1.out.size, HB2.out⟩

set_option maxHeartbeats 4000000 in
theorem Hosts_any (v : Value) (hs : List Int) (w : World) (h : Sl ic 1 w v hs) (hl : hs.length ≤ 65536) : Calls Try.prog 20 #[v] w (NumI w (onceL hs)) := by
  have HU := Lib.hid (unlike_any v hs w h (by omega))
  obtain ⟨a, c, rfl⟩ := h.slice
  clear h
  go_enter Try.func20, Try.ntmps20
  go_wp2_with fail
  refine HU.out.mono ?_
  rintro e w2 ⟨v2, rfl, ho, hb⟩
  obtain ⟨a2, c2, rfl⟩ := ho.slice
  have HO := Lib.hid ho; have HB := Lib.hid hb
  clear ho hb
  go_wp2
  go_ret
  exact ⟨_, rfl, HO.out, HB.out⟩
end Go.Proofs.Ytngmcolbpdinmaa.crush
