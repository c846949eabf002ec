/- RuleSums in its second form: the statement is proved as it is given, for every input whose bulk is within the bound. -/
import Derived.Test.YtngmcolbpdinmaaRows
import Derived.Test.YtngmcolbpdinmaaRuleLawC
import Derived.Test.YtngmcolbpdinmaaRulePl
namespace Go.Proofs.Ytngmcolbpdinmaa.crush
open Go.ChangeShapes Go.WideShapes Go.ChangeAt Go.RowKit
open Go.Proofs.Ytngmcolbpdinmaa.kit Go.Proofs.Ytngmcolbpdinmaa.own Go.Proofs.Ytngmcolbpdinmaa.lift
set_option linter.unusedVariables false

/-- The sum of the first k. -/
def sumT (ns : List Nat) : Nat → Nat
  | 0 => 0
  | k + 1 => sumT ns k + ns.getD k 0
theorem sumT_cons (a : Nat) (r : List Nat) : ∀ k, sumT (a :: r) (k + 1) = a + sumT r k
  | 0 => by simp [sumT]
  | k + 1 => by
    rw [sumT, sumT_cons a r k, sumT, List.getD_cons_succ]
    omega
theorem sumT_all : ∀ ns : List Nat, sumT ns ns.length = ns.sum
  | [] => rfl
  | a :: r => by rw [List.length_cons, sumT_cons, sumT_all r, List.sum_cons]
theorem sumT_le (ns : List Nat) (b : Nat) (h : ∀ i, ns.getD i 0 ≤ b) : ∀ k, sumT ns k ≤ b * k
  | 0 => Nat.le_refl _
  | k + 1 => by
    have h1 := sumT_le ns b h k
    have h2 := h k
    rw [sumT, Nat.mul_succ]; omega
theorem lensF_le (hs ws : List Int) (x : Nat) (size d : Int) : ∀ k, lensF hs ws x size d k ≤ 64 * k
  | 0 => Nat.le_refl _
  | k + 1 => by
    have h1 := lensF_le hs ws x size d k
    have h2 := plAt_len hs ws x size d k
    rw [lensF]; omega

set_option maxHeartbeats 32000000 in
set_option maxRecDepth 100000 in
theorem walkSums (v vw : Value) (hs0 ws : List Int) (x : Nat) (n size d : Int) (hx : x < 4294967296) (w : World) (h : Sl ic 1 w v hs0) (hw : Sl ic 1 w vw ws) (hc : CapOk v hs0.length) (hsz : I64 size) :
    Calls Try.prog 4 #[v, vw, .int .u32 x, .int .i64 n, .int .i64 size, .int .i64 d] w fun e w' => e = .returned (.bool true) ∧ Below w.heap.size w w' := by
  have HFw := Lib.hid (few_any v hs0 6 (by decide) w h hc)
  obtain ⟨a0, c0, rfl⟩ := h.slice
  obtain ⟨aw, cw, rfl⟩ := hw.slice
  have hlh : (hs0.take 6).length ≤ 6 := by rw [List.length_take]; omega
  generalize hs0.take 6 = hs at HFw hlh
  have hlh2 : hs.length ≤ 65536 := by omega
  have hsz2 : I64 (min size 4) := by unfold I64 at hsz ⊢; omega
  have HL1 := Lib.hid (fun (nn : Int) va u (h1 : Sl ic 1 u va hs) (h2 : Sl ic 1 u (.slice aw ws.length cw) ws) => Load_any va _ hs ws x nn (min size 4) d hx u h1 h2 hlh2 hsz2)
  have HP1 := Lib.hid (fun (z : Nat) (hz : z < 4294967296) va u (h1 : Sl ic 1 u va hs) (h2 : Sl ic 1 u (.slice aw ws.length cw) ws) => Place_any va _ hs ws z (min size 4) d hz u h1 h2 hlh2 hsz2)
  have HM1 := Lib.hid (fun (nn : Int) va u (h1 : Sl ic 1 u va hs) (h2 : Sl ic 1 u (.slice aw ws.length cw) ws) => Moves_any va _ _ hs ws ws x nn (min size 4) d hx u h1 h2 h2 hlh2 hsz2)
  have HW := Lib.hid hw
  obtain ⟨Lw, hLw⟩ : ∃ L, ws.length = L := ⟨_, rfl⟩
  obtain ⟨L, hL⟩ : ∃ L, hs.length = L := ⟨_, rfl⟩
  rw [hLw] at HW HL1 HP1 HM1 ⊢
  rw [hL] at hlh
  generalize hs0.length = L0 at HFw ⊢
  have HLh := Lib.hid hL; have HL6 := Lib.hid hlh; have HX := Lib.hid hx
  obtain ⟨m, hm⟩ : ∃ m, askR (min (max n 0) 20) = m := ⟨_, rfl⟩
  have hmn : ((m : Nat) : Int) = min (max n 0) 20 := by rw [← hm]; unfold askR; omega
  have hm20 : m ≤ 20 := by omega
  have mixed : Try.prog.follows .mixedOrders = true := by kernel_rfl
  have HMn := Lib.hid hmn; have HMk := Lib.hid hm
  clear h hw hc hsz hx hlh hlh2 hsz2 hLw hL hmn hm
  go_enter Try.func4, Try.ntmps4
  go_upto_region 4 with (go_at_call 5; refine HFw.out.mono ?_; rintro e w1 ⟨⟨v1, rfl, hs1⟩, hw1⟩; obtain rfl : w1 = w := hw1; obtain ⟨a1, c1, rfl⟩ := hs1.slice; have HS := Lib.hid hs1; clear hs1)
  rw [HLh.out] at HS
  try rw [HLh.out]
  obtain ⟨sz, hss⟩ : ∃ z, min size 4 = z := ⟨_, rfl⟩
  rw [hss] at HL1 HP1 HM1
  have hmn := HMn.out
  simp only [← hmn, hss]
  clear hss hmn HFw
  have HK := Lib.hid (fun u (hu : Below w1.heap.size w1 u) => (⟨HS.out.keep hu, HW.out.keep hu⟩ : Sl ic 1 u (.slice a1 L c1) hs ∧ Sl ic 1 u (.slice aw Lw cw) ws))
  have HMm : Hid (askR (m : Int) = m) := Lib.hid (by rw [HMn.out]; exact HMk.out)
  have HLd1 := Lib.hid (fun u hu => HL1.out (m : Int) _ u (HK.out u hu).1 (HK.out u hu).2)
  have HPl1 := Lib.hid (fun (z : Nat) (hz : z < 4294967296) u hu => HP1.out z hz _ u (HK.out u hu).1 (HK.out u hu).2)
  have HMv1 := Lib.hid (fun u hu => HM1.out (m : Int) _ u (HK.out u hu).1 (HK.out u hu).2)
  rw [HMm.out] at HLd1 HMv1
  rw [movR_same] at HMv1
  have hll := loadF_len hs ws x sz d m
  rw [HLh.out] at hll
  have hls := loadF_sum hs ws x sz d m
  have hle := fun i => loadF_le hs ws x sz d i m
  have HLs := Lib.hid hls; have HLl := Lib.hid hll
  have HLe : Hid (∀ k, k ≤ L → sumT (loadF hs ws x sz d m) k ≤ 10000) := Lib.hid (fun k hk => by
    have h1 := sumT_le (loadF hs ws x sz d m) 1280 (fun i => by have := hle i; omega) k
    have := HL6.out
    have : 1280 * k ≤ 1280 * 6 := Nat.mul_le_mul_left _ (by omega)
    omega)
  generalize loadF hs ws x sz d m = lo at HLd1 HLs HLl HLe
  clear HL1 HP1 HM1 HK HS HW hll hls hle
  go_upto_region 7 with (go_at_call 7; refine (HLd1.out w1 (Below.refl _ _)).mono ?_; rintro e w2 ⟨v2, rfl, ho, hb⟩; obtain ⟨a2, c2, rfl⟩ := ho.slice; have HO2 := Lib.hid ho; have HB2 := Lib.hid hb; clear ho hb HLd1)
  have hil : (ints lo).length = L := by rw [ints_len, HLl.out]
  rw [hil] at HO2
  rw [hil]
  clear hil
  have HT : Hid (sumT lo L = lensF hs ws x sz d m) := Lib.hid (by rw [← HLs.out, ← HLl.out]; exact sumT_all lo)
  go_loopw [15, 16] (fun vc vi wr => ∃ k : Nat, k ≤ L ∧ vi = .int .i64 k ∧ vc = .int .i64 (sumT lo k : Nat) ∧ Below w1.heap.size w1 wr ∧ Below w2.heap.size w2 wr) (fun _ i _ => L - (intOf i).toNat)
  case atStart => exact ⟨0, by omega, rfl, rfl, HB2.out, Below.refl _ _⟩
  case round =>
    obtain ⟨k, hk, rfl, rfl, hb1, hb2⟩ := hrel
    by_cases hlt : k < L
    · have hL6 := HL6.out
      have hlt' : (k : Int) < L := by omega
      have hk0 : (0 : Int) ≤ k := by omega
      have hkl : k < lo.length := by rw [HLl.out]; exact hlt
      obtain ⟨b4, o4, c4', he4, hb4, hc4⟩ := int_at' HO2.out (L := L) (by rw [ints_len, HLl.out]) hlt
      obtain ⟨rfl, rfl⟩ : a2 = some ⟨b4, o4, none⟩ ∧ c2 = c4' := by cases he4; exact ⟨rfl, rfl⟩
      have d2 := hc4 k (by rw [ints_len]; exact hkl)
      have e1 : (ints lo)[k]'(by rw [ints_len]; exact hkl) = (lo[k] : Int) := by simp [ints]
      rw [e1] at d2
      have d3 := (hb2.cell (p := ⟨b4, o4 + k, none⟩) hb4).trans d2
      have hgd : lo.getD k 0 = lo[k] := by rw [List.getD_eq_getElem?_getD, List.getElem?_eq_getElem hkl]; rfl
      have HNx : Hid (sumT lo (k + 1) = sumT lo k + lo[k]) := Lib.hid (by rw [sumT, hgd])
      have hbd := HLe.out (k + 1) hlt
      rw [HNx.out] at hbd
      obtain ⟨y, hy⟩ : ∃ y, lo[k] = y := ⟨_, rfl⟩
      rw [hy] at d3 HNx hbd
      generalize sumT lo k = sk at HNx hbd ⊢
      have H1 := Lib.hid hb1; have H2 := Lib.hid hb2
      clear he4 hb4 hc4 d2 e1 hgd hy hb1 hb2 hkl
      go_wp2
      clear d3
      go_roundw
      case rel => exact ⟨k + 1, by omega, by go_num, by rw [HNx.out]; go_num, H1.out, H2.out⟩
      case measure => simp [intOf]; omega
    · obtain rfl : k = L := by omega
      have hT0 : lensF hs ws x sz d m ≤ 64 * m := lensF_le hs ws x sz d m
      rw [HT.out]
      have HB3 := Lib.hid hb1
      have HLf : Hid (∀ k, k ≤ m → lensF hs ws x sz d k ≤ lensF hs ws x sz d m) := Lib.hid (fun k hk => by
        have : ∀ j, lensF hs ws x sz d k ≤ lensF hs ws x sz d (k + j) := fun j => by
          induction j with
          | zero => exact Nat.le_refl _
          | succ j ih => rw [← Nat.add_assoc, lensF]; omega
        have := this (m - k)
        rwa [show k + (m - k) = m by omega] at this)
      obtain ⟨T, hT⟩ : ∃ T, lensF hs ws x sz d m = T := ⟨_, rfl⟩
      have HTe := Lib.hid hT
      rw [hT] at HLf hT0 ⊢
      have hT1 : T ≤ 10000 := by omega
      clear hb1 hb2 hT hT0 hk hlt HO2
      go_wp2
      go_loopw [15, 17] (fun vc vi wr => ∃ k : Nat, k ≤ m ∧ vi = .int .i64 k ∧ vc = .int .i64 ((T : Int) - (lensF hs ws x sz d k : Nat)) ∧ Below w1.heap.size w1 wr) (fun _ i _ => m - (intOf i).toNat)
      case atStart => exact ⟨0, by omega, rfl, by simp [lensF], HB3.out⟩
      case round =>
        obtain ⟨j, hj, rfl, rfl, hb4⟩ := hrel
        have HB4 := Lib.hid hb4
        clear hb4
        by_cases hjm : j < m
        · have hjm' : (j : Int) < m := by omega
          obtain ⟨z, hz⟩ : ∃ z, (x + j) % 4294967296 = z := ⟨_, rfl⟩
          have hzl : z < 4294967296 := by omega
          have e1 : True → (j : Int) % 4294967296 = j := fun _ => by omega
          have e2 : True → ((x : Int) + (j : Int)) % 4294967296 = (z : Int) := fun _ => by omega
          have HSu : Hid (lensF hs ws x sz d (j + 1) = lensF hs ws x sz d j + (placeE hs ws z sz d).length) := Lib.hid (by rw [lensF, ← hz]; rfl)
          have HPc := Lib.hid (HPl1.out z hzl wr HB4.out)
          have hl1 := HLf.out (j + 1) (by omega)
          rw [HSu.out] at hl1
          generalize placeE hs ws z sz d = pl at HSu HPc hl1
          generalize lensF hs ws x sz d j = lj at HSu hl1 ⊢
          obtain ⟨P, hP⟩ : ∃ P, pl.length = P := ⟨_, rfl⟩
          have HPn := Lib.hid hP
          rw [hP] at hl1 HSu
          clear hz hzl hP
          go_wp2_with (go_at_call 12; refine HPc.out.mono ?_; rintro e w6 ⟨v6, rfl, ho, hb⟩; obtain ⟨a6, c6, rfl⟩ := ho.slice; have HB6 := Lib.hid (HB4.out.trans (hb.mono HB4.out.size)); clear hb ho e1 e2; rw [ints_len, HPn.out])
          go_roundw
          case rel => exact ⟨j + 1, by omega, by go_num, by rw [HSu.out]; go_num, HB6.out⟩
          case measure => simp [intOf]; omega
        · obtain rfl : j = m := by omega
          have hz0 : ((T : Int) - ((lensF hs ws x sz d j : Nat) : Int)) = 0 := by rw [HTe.out]; omega
          rw [hz0]
          clear hz0
          go_wp2_with (first
            | (go_at_call 9; refine (HMv1.out _ HB4.out).mono ?_; rintro e w7 ⟨rfl, hb⟩; have HB7 := Lib.hid (HB4.out.trans (hb.mono HB4.out.size)); clear hb)
            | (go_at_call 11; refine (awake_any _).mono ?_; rintro e w8 ⟨rfl, hb⟩; have HB8 := Lib.hid (HB7.out.trans (hb.mono HB7.out.size)); clear hb))
          go_ret
          exact ⟨rfl, HB8.out⟩

--LIFT
set_option maxRecDepth 100000 in
theorem liftedSums (os : Os) (started : os.Started) (H : Type) (enc : TypeId × Value → H) (F : Stop.Interp) :
    ReturnsInHanded {} Try.checked os 4 .any ((Rows.OpenSpec.upto Rows.ruleSumsSpec).pre6 enc Try.prog Try.f4 Rows.ruleSumsUptoRow.domain false) (((Rows.OpenSpec.upto Rows.ruleSumsSpec).at F).post enc Try.prog Try.f4 false true false false) := by
  refine lawUpto (C := Try.checked) (s := Rows.ruleSumsSpec) own started (by kernel_rfl) Try.func4
    (OpenSpec.witness (enc := enc) (C := Try.checked) (s := Rows.OpenSpec.upto Rows.ruleSumsSpec) (k := Rows.uptoSmall) rfl false ⟨#[], #[.slice none 0 0, .slice none 0 0, .int .u32 0, .int .i64 0, .int .i64 0, .int .i64 0], []⟩ 8 (by kernel_rfl) (by kernel_rfl) (by kernel_rfl)
      (x := ([.nil, .nil, .lit (.int .u32 0), .lit (.int .i64 0), .lit (.int .i64 0), .lit (.int .i64 0)], [], [])) (by kernel_rfl) rfl (by kernel_rfl)) laidOut (by kernel_rfl) 4 Try.underlying4 (by kernel_rfl) rfl ?_ ?_
  · intro ds hd
    match ds, hd with
    | [_, _, _, _, _, _], _ => rfl
  · intro W base args ds ps hg hb
    have hA : DataW.TrodAll enc Try.prog W 0 (fun _ => true) true Try.f4.params.toList args.toList ds ps := hg.read
    have hval : ∀ (j : Nat) t v, Try.f4.params[j]? = some t → args[j]? = some v → Value.okWide Try.prog W .any base t v := hg.ok
    rw [Try.params4] at hA hval
    obtain ⟨v0, vs0, d0, ds0, p0, q0, hargs, rfl, rfl, h0, r0⟩ := trodAll_cons hA
    obtain ⟨v1, vs1, d1, ds1, p1, q1, rfl, rfl, rfl, h1, r1⟩ := trodAll_cons r0
    obtain ⟨v2, vs2, d2, ds2, p2, q2, rfl, rfl, rfl, h2, r2⟩ := trodAll_cons r1
    obtain ⟨v3, vs3, d3, ds3, p3, q3, rfl, rfl, rfl, h3, r3⟩ := trodAll_cons r2
    obtain ⟨v4, vs4, d4, ds4, p4, q4, rfl, rfl, rfl, h4, r4⟩ := trodAll_cons r3
    obtain ⟨v5, vs5, d5, ds5, p5, q5, rfl, rfl, rfl, h5, r5⟩ := trodAll_cons r4
    obtain ⟨rfl, rfl, rfl⟩ := trodAll_nil r5
    obtain rfl : args = #[v0, v1, v2, v3, v4, v5] := by cases args; simp_all
    obtain ⟨fs0, hs0, hok0, hcap0⟩ := ints_open (hval 0 22 v0 rfl rfl) h0
    obtain ⟨fs1, hs1, hok1, hcap1⟩ := i64s_open (hval 1 23 v1 rfl rfl) h1
    obtain ⟨z2, rfl, rfl, rfl, w2⟩ := open_int Try.underlying24 (hval 2 24 v2 rfl rfl) h2
    have u2 := u32_pos z2 w2
    obtain ⟨n2, rfl⟩ : ∃ n : Nat, z2 = n := ⟨z2.toNat, by omega⟩
    obtain ⟨z3, rfl, rfl, rfl, w3⟩ := open_int Try.underlying3 (hval 3 3 v3 rfl rfl) h3
    obtain ⟨z4, rfl, rfl, rfl, w4⟩ := open_int Try.underlying3 (hval 4 3 v4 rfl rfl) h4
    obtain ⟨z5, rfl, rfl, rfl, w5⟩ := open_int Try.underlying3 (hval 5 3 v5 rfl rfl) h5
    exact walkSums v0 v1 fs0 fs1 n2 z3 z4 z5 (by omega) W hs0 hs1 hcap0 (i64_of' w4)

theorem sums_holds : Rows.RuleSumsUptoSaid :=
  OpenClaim.holds_of_cond 4 Try.f4 rfl rfl rfl rfl rfl rfl rfl ⟨rfl, rfl, rfl, rfl, rfl⟩ rfl rfl rfl rfl rfl (by kernel_rfl) Try.func4 (by kernel_rfl)
    (of_decide_eq_true (by kernel_rfl)) (by unfold Func.isWrapper; first | (rw [if_pos (by decide +kernel)]; kernel_rfl) | (rw [if_neg (by decide +kernel)]; exact ⟨rfl, rfl⟩))
    (fun os started H enc _ F => liftedSums os started H enc F)

#print axioms sums_holds
end Go.Proofs.Ytngmcolbpdinmaa.crush
