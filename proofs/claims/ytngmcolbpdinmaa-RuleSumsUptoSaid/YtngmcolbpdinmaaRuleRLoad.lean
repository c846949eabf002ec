/- How often nodes are chosen, by the document. -/
import Derived.Test.YtngmcolbpdinmaaRows
import Derived.Test.YtngmcolbpdinmaaRuleLoad
import Derived.Test.YtngmcolbpdinmaaRuleRPl
namespace Go.Proofs.Ytngmcolbpdinmaa.crush
open Go.RowKit
open Go.Proofs.Ytngmcolbpdinmaa.kit Go.Proofs.Ytngmcolbpdinmaa.own
set_option linter.unusedVariables false

set_option maxHeartbeats 4000000 in
theorem many_any (n : Int) (w : World) : Calls Try.prog 16 #[.int .i64 n] w fun e w' => e = .returned (.int .i64 (askR n : Nat)) ∧ w = w' := by
  have e : ((askR n : Nat) : Int) = min (max n 0) 2000 := by unfold askR; omega
  rw [e]
  clear e
  go_enter Try.func16, Try.ntmps16
  go_wp2
  go_ret
  exact ⟨rfl, rfl⟩

set_option maxHeartbeats 16000000 in
set_option maxRecDepth 100000 in
theorem rLoad_any (v vw : Value) (hs ws : List Int) (x : Nat) (n size d : Int) (hx : x < 4294967296) (w : World) (h : Sl ic 1 w v hs) (hw : Sl ic 1 w vw ws) (hl : hs.length ≤ 65536) :
    Calls Try.prog 8 #[v, vw, .int .u32 x, .int .i64 n, .int .i64 size, .int .i64 d] w (NumO w (ints (loadF hs ws x size d (askR n)))) := by
  obtain ⟨a, c, rfl⟩ := h.slice
  obtain ⟨aw, cw, rfl⟩ := hw.slice
  have HXl := Lib.hid hx
  have HP := Lib.hid (fun (z : Nat) (hz : z < 4294967296) w' (hb : Below w.heap.size w w') => rPlace_any _ _ hs ws z size d hz w' (h.keep hb) (hw.keep hb) hl)
  obtain ⟨L, hL⟩ : ∃ L, hs.length = L := ⟨_, rfl⟩
  have HL := Lib.hid hL
  rw [hL] at HP hl ⊢
  generalize ws.length = Lw at HP ⊢
  obtain ⟨w1, hm1, hm2, hm3⟩ := made_ints w L hl
  have HM3 := Lib.hid hm3
  have e0 : ints (loadF hs ws x size d 0) = List.replicate L 0 := by unfold ints loadF; rw [hL, List.map_replicate]; rfl
  have HM2 : Hid (OwnAt ic 1 3 w1 w.heap.size L (ints (loadF hs ws x size d 0))) := Lib.hid (by rw [e0]; exact hm2)
  obtain ⟨m, hm⟩ : ∃ m, askR n = m := ⟨_, rfl⟩
  have HMa := Lib.hid (fun w => many_any n w)
  rw [hm] at HMa ⊢
  have hmle : m ≤ 2000 := by unfold askR at hm; omega
  clear h hw hx hL hm2 hm3 hl e0 hm
  go_enter Try.func8, Try.ntmps8
  go_wp2
  clear hm1
  go_loopw [14] (fun vi wr => ∃ k : Nat, k ≤ m ∧ vi = .int .i64 k ∧ OwnAt ic 1 3 wr w.heap.size L (ints (loadF hs ws x size d k)) ∧ Below w.heap.size w wr) (fun i _ => m - (intOf i).toNat)
  case atStart => exact ⟨0, by omega, rfl, HM2.out, HM3.out⟩
  case round =>
    obtain ⟨k, hk, rfl, hrow, hbw⟩ := hrel
    have HR := Lib.hid hrow; have HB := Lib.hid hbw
    clear hrow hbw
    by_cases hlt : k < m
    · have hlt' : (k : Int) < m := by omega
      obtain ⟨z, hz⟩ : ∃ z, (x + k) % 4294967296 = z := ⟨_, rfl⟩
      have hzl : z < 4294967296 := by omega
      have e1 : True → (k : Int) % 4294967296 = k := fun _ => by omega
      have e2 : True → ((x : Int) + (k : Int)) % 4294967296 = (z : Int) := fun _ => by omega
      have hle := fun p => loadF_le hs ws x size d p k
      obtain ⟨pl, hpl⟩ : ∃ pl, plAt hs ws x size d k = pl := ⟨_, rfl⟩
      have HSuc : Hid (loadF hs ws x size d (k + 1) = bumpN (loadF hs ws x size d k) pl pl.length) := Lib.hid (by rw [← hpl]; rfl)
      have HPlt : Hid (∀ v ∈ pl, v < L) := Lib.hid (by rw [← hpl, ← HL.out]; exact plAt_lt hs ws x size d k)
      have hpn : pl.length ≤ 64 := by rw [← hpl]; exact plAt_len hs ws x size d k
      have HP1 : Hid (∀ w', Below w.heap.size w w' → Calls Try.prog 17 #[.slice a L c, .slice aw Lw cw, .int .u32 z, .int .i64 size, .int .i64 d] w' (NumI w' (ints pl))) := Lib.hid (fun w' h => by
        have := HP.out z hzl w' h
        rw [← hpl]
        show Calls _ _ _ _ (NumI w' (ints (placeE hs ws ((x + k) % 4294967296) size d)))
        rw [hz]; exact this)
      have hcl := loadF_len hs ws x size d k
      rw [HL.out] at hcl
      generalize loadF hs ws x size d k = ns at HR HSuc hle hcl
      obtain ⟨P, hP⟩ : ∃ P, pl.length = P := ⟨_, rfl⟩
      have HPn := Lib.hid hP
      rw [hP] at hpn HSuc
      have HCl := Lib.hid hcl; have HPn64 := Lib.hid hpn
      have HLe : Hid (∀ p, ns.getD p 0 ≤ 128000) := Lib.hid (fun p => by have := hle p; omega)
      clear hz hzl hpl hle hP hcl
      go_wp2_with (first
        | (go_at_call 16; refine (HMa.out _).mono ?_; rintro e w5 ⟨rfl, rfl⟩)
        | (go_at_call 17; refine (HP1.out _ HB.out).mono ?_; rintro e w5 ⟨v5, rfl, ho, hb⟩; obtain ⟨a5, c5, rfl⟩ := ho.slice; have HR5 := Lib.hid (HR.out.block (hb.block _ HR.out.lt)); have HB5 := Lib.hid (HB.out.trans (hb.mono HB.out.size)); have HO5 := Lib.hid ho; clear hb ho e1 e2; rw [ints_len, HPn.out] at HO5; rw [ints_len, HPn.out]))
      obtain ⟨M, hM⟩ : ∃ M, wr.heap.size = M := ⟨_, rfl⟩
      have hNM : w.heap.size < M := by rw [← hM]; exact HR.out.lt
      rw [hM] at HO5
      have HNM := Lib.hid hNM
      clear hM hNM
      go_loopw [16] (fun v16 wq => ∃ j : Nat, j ≤ P ∧ v16 = .int .i64 j ∧ OwnAt ic 1 3 wq w.heap.size L (ints (bumpN ns pl j)) ∧ Own ic 1 3 wq M (.slice a5 P c5) (ints pl) ∧ Below w.heap.size w wq) (fun v _ => P - (intOf v).toNat)
      case atStart => exact ⟨0, by omega, rfl, HR5.out, HO5.out, HB5.out⟩
      case round =>
        obtain ⟨j, hj, rfl, hr6, ho6, hb6⟩ := hrel
        by_cases hjn : j < P
        · have hjn' : (j : Int) < P := by omega
          have hj0 : (0 : Int) ≤ j := by omega
          have hjl : j < pl.length := by rw [HPn.out]; exact hjn
          obtain ⟨b5, o5, c5', he5, hb5, hc5⟩ := int_at' (ho6.read ic_len) (L := P) (by rw [ints_len, HPn.out]) hjn
          obtain ⟨rfl, rfl⟩ : a5 = some ⟨b5, o5, none⟩ ∧ c5 = c5' := by cases he5; exact ⟨rfl, rfl⟩
          have d1 := hc5 j (by rw [ints_len]; exact hjl)
          have e1 : (ints pl)[j]'(by rw [ints_len]; exact hjl) = (pl[j] : Int) := by simp [ints]
          rw [e1] at d1
          have hpj := HPlt.out pl[j] (List.getElem_mem _)
          have hgd : pl.getD j 0 = pl[j] := by rw [List.getD_eq_getElem?_getD, List.getElem?_eq_getElem hjl]; rfl
          have HNx : Hid (bumpN ns pl (j + 1) = bump (bumpN ns pl j) pl[j]) := Lib.hid (by rw [bumpN, hgd])
          obtain ⟨p, hp⟩ : ∃ p, pl[j] = p := ⟨_, rfl⟩
          rw [hp] at d1 hpj HNx
          have hbl := bumpN_len ns pl j
          rw [HCl.out] at hbl
          have hbe := bumpN_le ns pl p j
          have hbe2 := HLe.out p
          generalize bumpN ns pl j = ns2 at HNx hr6 hbl hbe
          obtain ⟨c, hc⟩ : ∃ c, ns2.getD p 0 = c := ⟨_, rfl⟩
          have hpl2 : p < ns2.length := by omega
          obtain ⟨q0, q1⟩ := ocell hr6 hpl2 hc
          have hp1 : (p : Int) < L := by omega
          have hp0 : (0 : Int) ≤ p := by omega
          have hcb : c ≤ 200000 := by have := HPn64.out; omega
          have e9 : ints (ns2.set p (c + 1)) = (ints ns2).set p ((c : Int) + 1) := by unfold ints; rw [List.map_set]; rfl
          have HNx2 : Hid (ints (bumpN ns pl (j + 1)) = (ints ns2).set p ((c : Int) + 1)) := Lib.hid (by rw [HNx.out]; unfold bump; rw [hc, e9])
          have HR7 := Lib.hid (hr6.set1 p (by rw [ints_len]; exact hpl2) ((c : Int) + 1))
          have hne : Value.ownBlock (.slice (some ⟨b5, o5, none⟩) P c5) ≠ some w.heap.size := fun e => by have := (ho6.blk _ e).1; have := HNM.out; omega
          have HO7 := Lib.hid (ho6.setOther hne p (.int .i64 ((c : Int) + 1)))
          have HB7 := Lib.hid (hb6.setCell (p := ⟨w.heap.size, p, none⟩) (Nat.le_refl _) (.int .i64 ((c : Int) + 1)))
          clear hr6 ho6 hb6 hpj hgd hjl hp HNx hbl hbe hbe2 hc hpl2 hne he5 hb5 hc5 e1 e9
          go_wp2
          clear d1 q0 q1
          go_roundw
          case rel => exact ⟨j + 1, by omega, by go_num, by rw [HNx2.out]; exact HR7.out, HO7.out, HB7.out⟩
          case measure => simp [intOf]; omega
        · obtain rfl : j = P := by omega
          have HR8 : Hid (OwnAt ic 1 3 wr w.heap.size L (ints (loadF hs ws x size d (k + 1)))) := Lib.hid (by rw [HSuc.out]; exact hr6)
          have HB8 := Lib.hid hb6
          clear hr6 ho6 hb6
          go_wp2
          go_roundw
          case rel => exact ⟨k + 1, by omega, by go_num, HR8.out, HB8.out⟩
          case measure => simp [intOf]; omega
    · obtain rfl : k = m := by omega
      have HSl : Hid (Sl ic 1 wr (.slice (some ⟨w.heap.size, 0, none⟩) L L) (ints (loadF hs ws x size d k))) := Lib.hid (by
        have hh := (HR.out.own (B := 0) ic_len (Nat.zero_le _)).read ic_len
        rw [ints_len, loadF_len, HL.out] at hh
        exact hh)
      go_wp2_with (go_at_call 16; refine (HMa.out _).mono ?_; rintro e w5 ⟨rfl, rfl⟩)
      go_ret
      exact ⟨_, rfl, HSl.out, HB.out⟩
end Go.Proofs.Ytngmcolbpdinmaa.crush
