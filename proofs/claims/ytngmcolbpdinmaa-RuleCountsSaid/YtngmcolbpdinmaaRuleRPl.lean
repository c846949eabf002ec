/- The document's Place. -/
import Derived.Test.YtngmcolbpdinmaaRows
import Derived.Test.YtngmcolbpdinmaaRuleRTry
import Derived.Test.YtngmcolbpdinmaaRuleRMost
namespace Go.Proofs.Ytngmcolbpdinmaa.crush
open Go.RowKit
open Go.Proofs.Ytngmcolbpdinmaa.kit Go.Proofs.Ytngmcolbpdinmaa.own
set_option linter.unusedVariables false

theorem tryZ_cases (hs ws : List Int) (x r : Nat) : (tryE hs ws x r = none ∧ tryZ (tryE hs ws x r) = -1) ∨ ∃ v : Nat, tryE hs ws x r = some v ∧ tryZ (tryE hs ws x r) = v ∧ v < hs.length := by
  cases h : tryE hs ws x r with
  | none => exact .inl ⟨rfl, rfl⟩
  | some v => exact .inr ⟨v, rfl, rfl, (tryE_some h).1⟩

set_option maxHeartbeats 16000000 in
set_option maxRecDepth 100000 in
theorem rPlace_any (v vw : Value) (hs ws : List Int) (x : Nat) (size d : Int) (hx : x < 4294967296) (w : World) (h : Sl ic 1 w v hs) (hw : Sl ic 1 w vw ws) (hl : hs.length ≤ 65536) : Calls Try.prog 17 #[v, vw, .int .u32 x, .int .i64 size, .int .i64 d] w (NumI w (ints (placeE hs ws x size d))) := by
  obtain ⟨a, c, rfl⟩ := h.slice
  obtain ⟨aw, cw, rfl⟩ := hw.slice
  have HT := Lib.hid (fun (r : Nat) (hr : r < 64) wr (hb : Below w.heap.size w wr) => rtry_any _ _ hs ws x r hx hr wr (h.keep hb) (hw.keep hb) hl)
  have HH := Lib.hid h; have HLe := Lib.hid hl
  have HFe : Hid (∀ r, r ≤ 64 → size ≤ ((placeF (tryE hs ws x) (domsE d hs) size r).length : Int) → placeE hs ws x size d = placeF (tryE hs ws x) (domsE d hs) size r) := Lib.hid (fun r hr h => placeF_end _ _ _ r hr (.inl h))
  have mixed : Try.prog.follows .mixedOrders = true := by kernel_rfl
  obtain ⟨L, hL⟩ : ∃ L, hs.length = L := ⟨_, rfl⟩
  have HL := Lib.hid hL
  rw [hL] at HH hl ⊢
  simp only [hL] at HT
  generalize ws.length = Lw at HT ⊢
  clear h hw hL hx
  go_enter Try.func17, Try.ntmps17
  go_wp2
  go_loopw [11, 12] (fun v11 vr wr => ∃ r : Nat, r ≤ 64 ∧ vr = .int .i64 r ∧ Own ic 1 3 wr w.heap.size v11 (ints (placeF (tryE hs ws x) (domsE d hs) size r)) ∧ Below w.heap.size w wr) (fun _ r _ => 64 - (intOf r).toNat)
  case atStart => exact ⟨0, by omega, rfl, Own.nil _ _ _, Below.refl _ _⟩
  case round =>
    obtain ⟨r, hr, rfl, ho, hb⟩ := hrel
    obtain ⟨a9, c9, rfl⟩ := ho.slice
    have hfl := (placeF_len (tryE hs ws x) (domsE d hs) size r).1
    have hflt : ∀ j ∈ placeF (tryE hs ws x) (domsE d hs) size r, j < hs.length := placeF_mem _ _ _ (fun v => v < hs.length) (fun r v h => (tryE_some h).1) r
    have HStep : Hid (placeF (tryE hs ws x) (domsE d hs) size (r + 1) = if ((placeF (tryE hs ws x) (domsE d hs) size r).length : Int) < size then putO (domsE d hs) (placeF (tryE hs ws x) (domsE d hs) size r) (tryE hs ws x r) else placeF (tryE hs ws x) (domsE d hs) size r) := Lib.hid rfl
    have HEnd : Hid (r ≤ 64 → size ≤ ((placeF (tryE hs ws x) (domsE d hs) size r).length : Int) → placeE hs ws x size d = placeF (tryE hs ws x) (domsE d hs) size r) := Lib.hid (HFe.out r)
    have HEnd2 : Hid (64 = r → placeE hs ws x size d = placeF (tryE hs ws x) (domsE d hs) size r) := Lib.hid (fun h => by rw [← h]; rfl)
    generalize placeF (tryE hs ws x) (domsE d hs) size r = fl at ho hfl hflt HStep HEnd HEnd2 ⊢
    obtain ⟨f1, hf1⟩ : ∃ f, placeF (tryE hs ws x) (domsE d hs) size (r + 1) = f := ⟨_, rfl⟩
    have HF0 := Lib.hid hf1
    rw [hf1] at HStep
    clear hf1
    rw [ints_len] at ho ⊢
    obtain ⟨n, hn⟩ : ∃ n, fl.length = n := ⟨_, rfl⟩
    have HN := Lib.hid hn; have HFl := Lib.hid hflt
    rw [hn] at ho hfl HStep HEnd ⊢
    have HO := Lib.hid ho; have HB := Lib.hid hb
    clear ho hb hn hflt
    by_cases hr64 : r < 64
    · have hr' : (r : Int) < 64 := by omega
      by_cases hsz : (n : Int) < size
      · have HS2 := HStep.out
        rw [if_pos hsz] at HS2
        have HSt := Lib.hid HS2
        have HTr := Lib.hid (HT.out r hr64 wr HB.out)
        have HCs := Lib.hid (tryZ_cases hs ws x r)
        generalize tryE hs ws x r = t at HTr HCs HSt
        generalize tryZ t = z at HTr HCs
        clear HS2 HStep HEnd HEnd2
        go_upto_region 5 with fail
        obtain ⟨ok0, hok0⟩ : ∃ b, decide (0 ≤ z) = b := ⟨_, rfl⟩
        have HOk0 := Lib.hid hok0
        clear hok0
        go_upto_region 6 with (go_at_call 25; refine HTr.out.mono ?_; rintro e w5 ⟨rfl, hb⟩; have HB5 := Lib.hid (HB.out.trans (hb.mono HB.out.size)); have HO5 := Lib.hid (HO.out.below hb); clear hb)
        obtain ⟨i, HZi, HSt2⟩ : ∃ i : Nat, Hid (0 ≤ z → (i : Int) = z ∧ i < hs.length) ∧ Hid (f1 = if 0 ≤ z ∧ hasD (domsE d hs) fl i = false then fl ++ [i] else fl) := by
          rcases HCs.out with ⟨rfl, rfl⟩ | ⟨v, rfl, rfl, hv⟩
          · exact ⟨0, Lib.hid (fun h => absurd h (by decide)), Lib.hid (by rw [HSt.out, if_neg (fun h => absurd h.1 (by decide))]; rfl)⟩
          · refine ⟨v, Lib.hid (fun _ => ⟨rfl, hv⟩), Lib.hid ?_⟩
            rw [HSt.out]
            show put1 (domsE d hs) fl v = _
            unfold put1
            cases hasD (domsE d hs) fl v <;> simp
        obtain ⟨W, rfl⟩ : ∃ W, W = w5 := ⟨_, rfl⟩
        have hob : (0 ≤ z) ↔ ok0 = true := by rw [← HOk0.out]; exact decide_eq_true_iff.symm
        clear HCs HSt HTr
        go_wp2
        try simp only [HOk0.out]
        have HOb := Lib.hid hob
        clear hob
        go_loopw [14, 15] (fun v14 vk wr => ∃ (k : Nat) (b : Bool), k ≤ n ∧ vk = .int .i64 k ∧ v14 = .bool b ∧ (b = true → 0 ≤ z ∧ ∀ j (h : j < fl.length), j < k → (domsE d hs).getD fl[j] 0 ≠ (domsE d hs).getD i 0) ∧ (b = false → ¬ (0 ≤ z ∧ hasD (domsE d hs) fl i = false)) ∧ Below W.heap.size W wr) (fun _ k _ => n - (intOf k).toNat)
        case atStart => exact ⟨0, ok0, by omega, rfl, rfl, fun h => ⟨HOb.out.2 h, fun j _ h2 => by omega⟩, fun h h2 => (by rw [HOb.out.1 h2.1] at h; cases h), Below.refl _ _⟩
        case round =>
          obtain ⟨k, b, hk, rfl, rfl, hb1, hb0, hbi⟩ := hrel
          have HB1 := Lib.hid hb1; have HB0 := Lib.hid hb0; have HBi := Lib.hid hbi
          clear hb1 hb0 hbi
          have HOf := Lib.hid (HO5.out.below HBi.out); have HBf := Lib.hid (HB5.out.trans (HBi.out.mono HB5.out.size))
          by_cases hkn : k < n
          · have hkn' : (k : Int) < n := by omega
            have hk0 : (0 : Int) ≤ k := by omega
            cases b with
            | true =>
              have hkf : k < fl.length := by rw [HN.out]; exact hkn
              have hki : k < (ints fl).length := by rw [ints_len]; exact hkf
              obtain ⟨b3, off3, c3', he, hbl, hcell⟩ := int_at' (HOf.out.read ic_len) (by rw [ints_len]; exact HN.out) hkn
              obtain ⟨rfl, rfl⟩ : a9 = some ⟨b3, off3, none⟩ ∧ c9 = c3' := by cases he; exact ⟨rfl, rfl⟩
              have d1 := hcell k hki
              have hke : (ints fl)[k] = (fl[k] : Int) := by simp [ints]
              rw [hke] at d1
              have hfL : fl[k] < hs.length := HFl.out fl[k] (List.getElem_mem hkf)
              obtain ⟨hzi, hil⟩ := HZi.out (HB1.out (by simp)).1
              have HCl := Lib.hid (clash_any (.slice a L c) hs fl[k] i d hfL hil HLe.out wr (HH.out.keep HBf.out))
              obtain ⟨cb, hcb⟩ : ∃ b, clashB hs d fl[k] i = b := ⟨_, rfl⟩
              have HCb := Lib.hid (show ∃ h : k < fl.length, clashB hs d fl[k] i = cb from ⟨hkf, hcb⟩)
              rw [hcb] at HCl
              obtain ⟨q, hq⟩ : ∃ q : Int, (fl[k] : Int) = q := ⟨_, rfl⟩
              rw [hq] at d1 HCl
              rw [hzi] at HCl
              clear he hbl hcell hki hke hfL hcb hq hkf hzi hil
              go_upto_region 10 with fail
              go_wp2_with (go_at_call 26; refine HCl.out.mono ?_; rintro e w5 ⟨rfl, hb⟩; have HBj := Lib.hid (HBi.out.trans (hb.mono HBi.out.size)); clear hb)
              clear d1
              go_roundw
              case rel =>
                refine ⟨k + 1, !cb, by omega, by go_num, rfl, fun h => ⟨(HB1.out (by simp)).1, fun j hj hj2 => ?_⟩, fun h h2 => ?_, HBj.out⟩
                · rcases Nat.lt_or_ge j k with h3 | h3
                  · exact (HB1.out (by simp)).2 j hj h3
                  · obtain rfl : j = k := by omega
                    obtain ⟨h4, h5⟩ := HCb.out
                    cases cb with
                    | true => cases h
                    | false => intro e; unfold clashB at h5; rw [e] at h5; simp at h5
                · obtain ⟨h4, h5⟩ := HCb.out
                  cases cb with
                  | false => cases h
                  | true =>
                    have := (hasD_iff (domsE d hs) fl i).2 ⟨k, h4, by unfold clashB at h5; simpa using h5⟩
                    rw [this] at h2; cases h2.2
              case measure => simp [intOf]; omega
            | false =>
              have HF1 : Hid (f1 = fl) := Lib.hid (by rw [HSt2.out, if_neg (HB0.out (by simp))])
              go_wp2
              go_roundw
              case rel => exact ⟨r + 1, by omega, by go_num, by rw [HF0.out, HF1.out]; exact HOf.out, HBf.out⟩
              case measure => simp [intOf]; omega
          · obtain rfl : k = n := by omega
            cases b with
            | true =>
              have hno : hasD (domsE d hs) fl i = false := by
                cases h : hasD (domsE d hs) fl i with
                | false => rfl
                | true =>
                  obtain ⟨j, h1, h2⟩ := (hasD_iff _ _ _).1 h
                  exact absurd h2 ((HB1.out (by simp)).2 j h1 (by rw [← HN.out]; exact h1))
              have HF1 : Hid (f1 = fl ++ [i]) := Lib.hid (by rw [HSt2.out, if_pos ⟨(HB1.out (by simp)).1, hno⟩])
              have hzi := (HZi.out (HB1.out (by simp)).1).1
              have HI9 : Hid (ints (fl ++ [i]) = ints fl ++ [z]) := Lib.hid (by rw [← hzi]; simp [ints])
              have HNew : Hid (Sl ic 1 (wr.alloc (.cells #[.int .i64 z] 3)) (.slice (some ⟨wr.heap.size, 0, none⟩) 1 1) [z]) := Lib.hid (sl_new ic_len wr z _ _ rfl)
              have hba := below_new wr (.cells #[.int .i64 z] 3)
              have HOa := Lib.hid (HOf.out.below hba)
              have HBa := Lib.hid (HBf.out.trans (hba.mono HBf.out.size))
              clear hba hno hzi
              go_wp2_with (at_builtin; go_loud (refine app1Q ic_len ic_one (by decide) rfl _ _ 22 rfl w.heap.size 3 _ (by rfl) 8 Try.underlying22 infoInt _ (ints fl) rfl HOa.out _ z rfl HNew.out (by rw [ints_len, HN.out]; unfold maxLen; omega) (by rw [ints_len, HN.out]; omega) HBa.out.size ?_); intro v9 w9 ho9 hk9 _ _; obtain ⟨x9, y9, rfl⟩ := ho9.slice; have HO10 := Lib.hid ho9; have HB10 := Lib.hid (HBa.out.trans (hk9.toBelow.mono (Nat.le_refl _))); clear ho9 hk9)
              rw [show (ints fl ++ [z]).length = (ints fl).length + 1 from by simp] at HO10
              go_roundw
              case rel => exact ⟨r + 1, by omega, by go_num, by rw [HF0.out, HF1.out, HI9.out]; exact HO10.out, HB10.out⟩
              case measure => simp [intOf]; omega
            | false =>
              have HF1 : Hid (f1 = fl) := Lib.hid (by rw [HSt2.out, if_neg (HB0.out (by simp))])
              go_wp2
              go_roundw
              case rel => exact ⟨r + 1, by omega, by go_num, by rw [HF0.out, HF1.out]; exact HOf.out, HBf.out⟩
              case measure => simp [intOf]; omega
      · have HE := Lib.hid (HEnd.out hr (by omega))
        go_wp2
        go_ret
        rw [HE.out]
        exact ⟨_, rfl, HO.out, HB.out⟩
    · have HE := Lib.hid (HEnd2.out (by omega))
      go_wp2
      go_ret
      rw [HE.out]
      exact ⟨_, rfl, HO.out, HB.out⟩
end Go.Proofs.Ytngmcolbpdinmaa.crush
