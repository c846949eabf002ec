/- How often each is chosen, by the document; two rows of numbers side by side. -/
import Derived.Test.YtnacobhhgeljoaaRows
import Derived.Test.YtnacobhhgeljoaaCrushCount
import Derived.BigQuiet
namespace Go.Proofs.Ytnacobhhgeljoaa.crush
open Go.RowKit
open Go.Proofs.Ytnacobhhgeljoaa.kit Go.Proofs.Ytnacobhhgeljoaa.own
set_option linter.unusedVariables false

theorem askN_no {n : Int} {k : Nat} (h : ¬ k < askN n) (h1 : (k : Int) < n) : ¬ (k : Int) < 100000 := by unfold askN at h; omega
theorem askN_yes {n : Int} {k : Nat} (h : k < askN n) : (k : Int) < n ∧ (k : Int) < 100000 := by unfold askN at h; omega
theorem askN_le (n : Int) : askN n ≤ 100000 := by unfold askN; omega

set_option maxHeartbeats 8000000 in
set_option maxRecDepth 100000 in
theorem rCount_any (v : Value) (xs : List It) (x : Nat) (n : Int) (hx : x < 4294967296) (hlx : xs.length ≤ 65536) (w : World) (h : Sl wc 2 w v xs) :
    Calls Try.prog 18 #[v, .int .u32 x, .int .i64 n] w (NumO w (ints (cntF xs x (askN n)))) := by
  obtain ⟨hl, a, cap, rfl, -, -⟩ := id h
  have HS := Lib.hid h; have HLn := Lib.hid hlx
  obtain ⟨L, hL⟩ : ∃ L, xs.length = L := ⟨_, rfl⟩
  have HL := Lib.hid hL
  rw [hL] at HS hl hlx ⊢
  obtain ⟨w1, hm1, hm2, hm3⟩ := made_ints w L hlx
  have HM3 := Lib.hid hm3
  have e0 : ints (cntF xs x 0) = List.replicate L 0 := by unfold ints cntF; rw [hL, List.map_replicate]; rfl
  have HM2 : Hid (OwnAt ic 1 3 w1 w.heap.size L (ints (cntF xs x 0))) := Lib.hid (by rw [e0]; exact hm2)
  clear h hL hm2 hm3 hlx e0
  go_enter Try.func18, Try.ntmps18
  go_wp2
  clear hm1
  go_loopw [8] (fun vi wr => ∃ k : Nat, k ≤ askN n ∧ vi = .int .i64 k ∧ OwnAt ic 1 3 wr w.heap.size L (ints (cntF xs x k)) ∧ Below w.heap.size w wr) (fun i _ => askN n - (intOf i).toNat)
  case atStart => exact ⟨0, by omega, rfl, HM2.out, HM3.out⟩
  case round =>
    obtain ⟨k, hk, rfl, hrow, hbw⟩ := hrel
    have HR := Lib.hid hrow; have HB := Lib.hid hbw
    clear hrow hbw
    by_cases hlt : k < askN n
    · obtain ⟨c1, c2⟩ := askN_yes hlt
      obtain ⟨z, hz⟩ : ∃ z, (x + k) % 4294967296 = z := ⟨_, rfl⟩
      have hzl : z < 4294967296 := by omega
      have e1 : True → (k : Int) % 4294967296 = k := fun _ => by omega
      have e2 : True → ((x : Int) + (k : Int)) % 4294967296 = (z : Int) := fun _ => by omega
      have hch := rChoose_any (.slice a L cap) xs z 0 hzl (by have := HLn.out; omega) wr (HS.out.keep HB.out)
      have hpl := fun p (h : pick (keys z 0 xs) = some p) => pick_lt h
      rw [keys_len, HL.out] at hpl
      have hcl := cntF_len xs x k
      rw [HL.out] at hcl
      have hce := fun p => cntF_le xs x k p
      have HSuc : Hid (cntF xs x (k + 1) = match pick (keys z 0 xs) with
        | none => cntF xs x k
        | some p => (cntF xs x k).set p ((cntF xs x k).getD p 0 + 1)) := Lib.hid (by rw [← hz]; rfl)
      unfold chosen at hch
      have hk5 : k ≤ 100000 := by omega
      clear hz hzl
      cases hpk : pick (keys z 0 xs) with
      | none =>
        rw [hpk] at HSuc hch
        have hns : cntF xs x (k + 1) = cntF xs x k := HSuc.out
        have HNs := Lib.hid hns
        have HCh := Lib.hid hch
        simp only [Option.getD_none, Option.isSome_none] at HCh
        clear HSuc hch hpk hpl hcl hce hns
        go_wp2_with (go_at_call 11; refine HCh.out.mono ?_; rintro e w5 ⟨rfl, hb⟩; have HR5 := Lib.hid (HR.out.block (hb.block _ HR.out.lt)); have HB5 := Lib.hid (HB.out.trans (hb.mono HB.out.size)); clear hb e1 e2)
        go_roundw
        case rel => exact ⟨k + 1, by omega, by go_num, by rw [HNs.out]; exact HR5.out, HB5.out⟩
        case measure => simp [intOf]; omega
      | some p =>
        rw [hpk] at HSuc hch
        have hp := hpl p hpk
        have hns : cntF xs x (k + 1) = (cntF xs x k).set p ((cntF xs x k).getD p 0 + 1) := HSuc.out
        have HCh := Lib.hid hch
        simp only [Option.getD_some, Option.isSome_some] at HCh
        generalize cntF xs x k = ns at HR hns hcl hce
        have hlp : p < ns.length := by rw [hcl]; exact hp
        obtain ⟨c, hc⟩ : ∃ c, ns.getD p 0 = c := ⟨_, rfl⟩
        have hge : ns[p]? = some c := by rw [← hc]; simp [List.getD, hlp]
        have hle := hce p
        rw [hc] at hle hns
        have HCell : Hid (∀ W, OwnAt ic 1 3 W w.heap.size L (ints ns) → W.cell? ⟨w.heap.size, p, none⟩ = some (.int .i64 (c : Int)) ∧ W.frozen? ⟨w.heap.size, p, none⟩ = false) := Lib.hid (fun W h => by
          have h1 := icells_at h p (by rw [ints_len]; exact hlp)
          have h2 : (ints ns)[p]'(by rw [ints_len]; exact hlp) = (c : Int) := by
            rw [List.getElem?_eq_getElem hlp] at hge
            have := Option.some.inj hge
            simp [ints, this]
          refine ⟨by rw [h1, h2], ?_⟩
          obtain ⟨cur, c1, -⟩ := h.ex
          simp [World.frozen?, c1])
        have hset : ints (ns.set p (c + 1)) = (ints ns).set p ((c : Int) + 1) := by unfold ints; rw [List.map_set]; rfl
        have HNs : Hid (ints (cntF xs x (k + 1)) = (ints ns).set p ((c : Int) + 1)) := Lib.hid (by rw [hns, hset])
        have HPl : Hid (p < (ints ns).length) := Lib.hid (by rw [ints_len]; exact hlp)
        have hp1 : (p : Int) < L := by omega
        have hp0 : (0 : Int) ≤ p := by omega
        have hc9 : c ≤ 100000 := by omega
        clear HSuc hch hpk hpl hcl hce hns hlp hge hc hle hp hset
        go_wp2_with (go_at_call 11; refine HCh.out.mono ?_; rintro e w5 ⟨rfl, hb⟩; have HR5 := Lib.hid (HR.out.block (hb.block _ HR.out.lt)); have HB5 := Lib.hid (HB.out.trans (hb.mono HB.out.size)); clear hb e1 e2; obtain ⟨q0, q1⟩ := HCell.out _ HR5.out; have HR6 := Lib.hid (HR5.out.set1 p HPl.out ((c : Int) + 1)); have HB6 := Lib.hid (HB5.out.setCell (p := ⟨w.heap.size, p, none⟩) (Nat.le_refl _) (.int .i64 ((c : Int) + 1))))
        go_roundw
        case rel => exact ⟨k + 1, by omega, by go_num, by rw [HNs.out]; exact HR6.out, HB6.out⟩
        case measure => simp [intOf]; omega
    · obtain rfl : k = askN n := by omega
      have HSl : Hid (Sl ic 1 wr (.slice (some ⟨w.heap.size, 0, none⟩) L L) (ints (cntF xs x (askN n)))) := Lib.hid (by
        have hh := (HR.out.own (B := 0) ic_len (Nat.zero_le _)).read ic_len
        rw [ints_len, cntF_len, HL.out] at hh
        exact hh)
      by_cases h1 : ((askN n : Nat) : Int) < n
      · have h2 := askN_no hlt h1
        clear hk hlt
        obtain ⟨m, hm⟩ : ∃ m, askN n = m := ⟨_, rfl⟩
        have HMm := Lib.hid hm
        rw [hm] at h1 h2 HSl ⊢
        clear hm
        go_wp2
        go_ret
        exact ⟨_, rfl, by rw [HMm.out]; exact HSl.out, HB.out⟩
      · clear hk hlt
        obtain ⟨m, hm⟩ : ∃ m, askN n = m := ⟨_, rfl⟩
        have HMm := Lib.hid hm
        rw [hm] at h1 HSl ⊢
        clear hm
        go_wp2
        go_ret
        exact ⟨_, rfl, by rw [HMm.out]; exact HSl.out, HB.out⟩

set_option maxHeartbeats 8000000 in
set_option maxRecDepth 100000 in
theorem lints_any (va vb : Value) (ns : List Int) (w : World) (ha : Sl ic 1 w va ns) (hb : Sl ic 1 w vb ns) :
    Calls Try.prog 14 #[va, vb] w fun e w' => e = .returned (.bool true) ∧ Below w.heap.size w w' := by
  obtain ⟨hl, a1, c1, rfl, -, ha⟩ := ha
  obtain ⟨-, a2, c2, rfl, -, hb⟩ := hb
  obtain ⟨L, hL⟩ : ∃ L, ns.length = L := ⟨_, rfl⟩
  have HL := Lib.hid hL
  have HA := Lib.hid ha; have HBb := Lib.hid hb
  rw [hL] at hl ⊢
  have mixed : Try.prog.follows .mixedOrders = true := by kernel_rfl
  clear hL ha hb
  go_enter Try.func14, Try.ntmps14
  go_wp2
  go_loopw [13] (fun vi wr => ∃ k : Nat, k ≤ L ∧ vi = .int .i64 k ∧ Below w.heap.size w wr) (fun i _ => L - (intOf i).toNat)
  case atStart => exact ⟨0, by omega, rfl, Below.refl _ _⟩
  case round =>
    obtain ⟨k, hk, rfl, hbw⟩ := hrel
    have HB := Lib.hid hbw
    clear hbw
    by_cases hlt : k < L
    · have hlt' : (k : Int) < L := by omega
      have hk0 : (0 : Int) ≤ k := by omega
      have hi : k < ns.length := by rw [HL.out]; exact hlt
      obtain ⟨b1, o1, rfl, hbl1, h1⟩ := HA.out (by omega)
      obtain ⟨b2, o2, rfl, hbl2, h2⟩ := HBb.out (by omega)
      have d1 := icell_at (range_keep (h1 k hi) hbl1 HB.out)
      have d2 := icell_at (range_keep (h2 k hi) hbl2 HB.out)
      rw [Nat.mul_one] at d1 d2
      generalize ns[k] = z at d1 d2
      clear h1 h2 hbl1 hbl2
      go_upto_region 6 with fail
      go_quiet (fail)
      have HB2 := Lib.hid (HB.out.drewN' nq)
      clear d1 d2
      go_wp2
      go_roundw
      case rel => exact ⟨k + 1, by omega, by go_num, HB2.out⟩
      case measure => simp [intOf]; omega
    · obtain rfl : k = L := by omega
      go_wp2
      go_ret
      exact ⟨rfl, HB.out⟩
end Go.Proofs.Ytnacobhhgeljoaa.crush
