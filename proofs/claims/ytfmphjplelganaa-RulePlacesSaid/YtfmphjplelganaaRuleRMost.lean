/- The document's Most and Valid. -/
import Derived.Test.YtfmphjplelganaaRows
import Derived.Test.YtfmphjplelganaaRuleClash
import Derived.Test.YtfmphjplelganaaRuleRHosts
import Derived.Test.YtfmphjplelganaaRuleValidP
namespace Go.Proofs.Ytfmphjplelganaa.crush
open Go.RowKit
open Go.Proofs.Ytfmphjplelganaa.kit Go.Proofs.Ytfmphjplelganaa.own
set_option linter.unusedVariables false

/-- One of each domain, of the first n nodes. -/
def firstL (hs ws : List Int) (d : Int) : Nat → List Nat
  | 0 => []
  | n + 1 => if 0 < wtAt ws n ∧ hasD (domsE d hs) (firstL hs ws d n) n = false then firstL hs ws d n ++ [n] else firstL hs ws d n
theorem firstL_len (hs ws : List Int) (d : Int) : ∀ n, (firstL hs ws d n).length ≤ n
  | 0 => by simp [firstL]
  | n + 1 => by
    have := firstL_len hs ws d n
    rw [firstL]
    split
    · simp; omega
    · omega
theorem firstL_lt (hs ws : List Int) (d : Int) : ∀ n, ∀ a ∈ firstL hs ws d n, a < n
  | 0, a, h => by simp [firstL] at h
  | n + 1, a, h => by
    have ih := firstL_lt hs ws d n
    rw [firstL] at h
    split at h
    · rcases List.mem_append.1 h with h | h
      · have := ih a h; omega
      · rw [List.mem_singleton.1 h]; omega
    · have := ih a h; omega
theorem firstL_dom (hs ws : List Int) (d : Int) : ∀ n, ((firstL hs ws d n).map fun a => (domsE d hs).getD a 0).Nodup ∧ ∀ z, z ∈ (firstL hs ws d n).map (fun a => (domsE d hs).getD a 0) ↔ z ∈ withD hs ws d n
  | 0 => by simp [firstL, withD]
  | n + 1 => by
    obtain ⟨h1, h2⟩ := firstL_dom hs ws d n
    rw [firstL, withD]
    by_cases hw : 0 < wtAt ws n
    · rw [if_pos hw]
      cases hh : hasD (domsE d hs) (firstL hs ws d n) n with
      | true =>
        rw [if_neg (by simp)]
        refine ⟨h1, fun z => ?_⟩
        rw [List.mem_append, ← h2 z, List.mem_singleton]
        constructor
        · exact .inl
        · rintro (h | h)
          · exact h
          · obtain ⟨j, hj, he⟩ := (hasD_iff _ _ _).1 hh
            rw [h, ← he]
            exact List.mem_map.2 ⟨_, List.getElem_mem hj, rfl⟩
      | false =>
        rw [if_pos ⟨hw, rfl⟩]
        have hno : ∀ a ∈ firstL hs ws d n, (domsE d hs).getD a 0 ≠ (domsE d hs).getD n 0 := fun a ha he => by
          obtain ⟨j, hj, rfl⟩ := List.getElem_of_mem ha
          have := (hasD_iff (domsE d hs) (firstL hs ws d n) n).2 ⟨j, hj, he⟩
          rw [hh] at this; cases this
        refine ⟨?_, fun z => ?_⟩
        · rw [List.map_append, List.nodup_append]
          refine ⟨h1, by simp, ?_⟩
          intro a ha b hb hab
          simp at hb
          subst hb
          obtain ⟨c, hc, rfl⟩ := List.mem_map.1 ha
          exact hno c hc hab
        · rw [List.map_append, List.mem_append, List.mem_append, h2 z]
          simp
    · rw [if_neg hw, if_neg (fun h => hw h.1)]
      exact ⟨h1, h2⟩
theorem firstL_most (hs ws : List Int) (size d : Int) : mostE hs ws size d = min (firstL hs ws d hs.length).length (max size 0).toNat := by
  obtain ⟨h1, h2⟩ := firstL_dom hs ws d hs.length
  have h3 := nodup_len_eq h1 (onceL_nodup (withD hs ws d hs.length)) (fun z => by rw [h2 z, onceL_mem])
  rw [List.length_map] at h3
  unfold mostE
  rw [← h3]
  omega

set_option maxHeartbeats 16000000 in
set_option maxRecDepth 100000 in
theorem rMost_any (v vw : Value) (hs ws : List Int) (size d : Int) (w : World) (h : Sl ic 1 w v hs) (hw : Sl ic 1 w vw ws) (hl : hs.length ≤ 65536) : Calls Try.prog 21 #[v, vw, .int .i64 size, .int .i64 d] w fun e w' => e = .returned (.int .i64 (mostE hs ws size d)) ∧ Below w.heap.size w w' := by
  obtain ⟨a, c, rfl⟩ := h.slice
  obtain ⟨aw, cw, rfl⟩ := hw.slice
  have HH := Lib.hid h; have HW := Lib.hid hw; have HLe := Lib.hid hl
  have HM := Lib.hid (firstL_most hs ws size d)
  have mixed : Try.prog.follows .mixedOrders = true := by kernel_rfl
  obtain ⟨L, hL⟩ : ∃ L, hs.length = L := ⟨_, rfl⟩
  have HL := Lib.hid hL
  rw [hL] at HH hl ⊢
  generalize ws.length = Lw at HW ⊢
  clear h hw hL
  go_enter Try.func21, Try.ntmps21
  go_wp2
  go_loopw [9, 10] (fun v9 vi wr => ∃ i : Nat, i ≤ L ∧ vi = .int .i64 i ∧ Own ic 1 3 wr w.heap.size v9 (ints (firstL hs ws d i)) ∧ Below w.heap.size w wr) (fun _ i _ => L - (intOf i).toNat)
  case atStart => exact ⟨0, by omega, rfl, Own.nil _ _ _, Below.refl _ _⟩
  case round =>
    obtain ⟨i, hi, rfl, ho, hb⟩ := hrel
    obtain ⟨a9, c9, rfl⟩ := ho.slice
    have hfl := firstL_len hs ws d i
    have hflt := firstL_lt hs ws d i
    by_cases hlt : i < L
    · have hlt' : (i : Int) < L := by omega
      have hi0 : (0 : Int) ≤ i := by omega
      have HStep : Hid (firstL hs ws d (i + 1) = if 0 < wtAt ws i ∧ hasD (domsE d hs) (firstL hs ws d i) i = false then firstL hs ws d i ++ [i] else firstL hs ws d i) := Lib.hid rfl
      have HWt := Lib.hid (nrweight_any _ ws i (by omega) wr (HW.out.keep hb))
      generalize wtAt ws i = wt at HWt HStep
      generalize firstL hs ws d i = fl at ho hfl hflt HStep ⊢
      obtain ⟨f1, hf1⟩ : ∃ f, firstL hs ws d (i + 1) = f := ⟨_, rfl⟩
      have HF0 := Lib.hid hf1
      rw [hf1] at HStep
      clear hf1
      rw [ints_len] at ho ⊢
      obtain ⟨n, hn⟩ : ∃ n, fl.length = n := ⟨_, rfl⟩
      have HN := Lib.hid hn; have HFl := Lib.hid hflt
      rw [hn] at ho hfl ⊢
      have HO := Lib.hid ho; have HB := Lib.hid hb
      clear ho hb hn hflt
      go_upto_region 5 with fail
      obtain ⟨ok0, hok0⟩ : ∃ b, decide (0 < wt) = b := ⟨_, rfl⟩
      have HOk0 := Lib.hid hok0
      go_upto_region 6 with (go_at_call 27; refine HWt.out.mono ?_; rintro e w5 ⟨rfl, rfl⟩)
      obtain ⟨W, rfl⟩ : ∃ W, W = w5 := ⟨_, rfl⟩
      have hob : (0 < wt) ↔ ok0 = true := by rw [← HOk0.out]; exact decide_eq_true_iff.symm
      go_wp2
      try simp only [HOk0.out]
      have HOb := Lib.hid hob
      clear hob
      go_loopw [11, 12] (fun v11 vk wr => ∃ (k : Nat) (b : Bool), k ≤ n ∧ vk = .int .i64 k ∧ v11 = .bool b ∧ (b = true → 0 < wt ∧ ∀ j (h : j < fl.length), j < k → (domsE d hs).getD fl[j] 0 ≠ (domsE d hs).getD i 0) ∧ (b = false → ¬ (0 < wt ∧ hasD (domsE d hs) fl i = false)) ∧ Below W.heap.size W wr) (fun _ k _ => n - (intOf k).toNat)
      case atStart => exact ⟨0, ok0, by omega, rfl, rfl, fun h => ⟨HOb.out.2 h, fun j _ h2 => by omega⟩, fun h h2 => (by rw [HOb.out.1 h2.1] at h; cases h), Below.refl _ _⟩
      case round =>
        obtain ⟨k, b, hk, rfl, rfl, hb1, hb0, hbi⟩ := hrel
        have HB1 := Lib.hid hb1; have HB0 := Lib.hid hb0; have HBi := Lib.hid hbi
        clear hb1 hb0 hbi
        by_cases hkn : k < n
        · have hkn' : (k : Int) < n := by omega
          have hk0 : (0 : Int) ≤ k := by omega
          cases b with
          | true =>
            have hkf : k < fl.length := by rw [HN.out]; exact hkn
            have hki : k < (ints fl).length := by rw [ints_len]; exact hkf
            obtain ⟨b3, off3, c3', he, hbl, hcell⟩ := int_at' ((HO.out.read ic_len).keep HBi.out) (by rw [ints_len]; exact HN.out) hkn
            obtain ⟨rfl, rfl⟩ : a9 = some ⟨b3, off3, none⟩ ∧ c9 = c3' := by cases he; exact ⟨rfl, rfl⟩
            have d1 := hcell k hki
            have hke : (ints fl)[k] = (fl[k] : Int) := by simp [ints]
            rw [hke] at d1
            have hfL : fl[k] < hs.length := by have := HFl.out fl[k] (List.getElem_mem hkf); rw [HL.out]; omega
            have hBe := HB.out.trans (HBi.out.mono HB.out.size)
            have HCl := Lib.hid (clash_any (.slice a L c) hs fl[k] i d hfL (by rw [HL.out]; exact hlt) HLe.out wr (HH.out.keep hBe))
            obtain ⟨cb, hcb⟩ : ∃ b, clashB hs d fl[k] i = b := ⟨_, rfl⟩
            have HCb := Lib.hid (show ∃ h : k < fl.length, clashB hs d fl[k] i = cb from ⟨hkf, hcb⟩)
            rw [hcb] at HCl
            obtain ⟨q, hq⟩ : ∃ q : Int, (fl[k] : Int) = q := ⟨_, rfl⟩
            rw [hq] at d1 HCl
            clear he hbl hcell hki hke hfL hBe hcb hq hkf
            go_upto_region 9 with fail
            go_wp2_with (go_at_call 32; refine HCl.out.mono ?_; rintro e w5 ⟨rfl, hb⟩; have HBj := Lib.hid (HBi.out.trans (hb.mono HBi.out.size)); clear hb)
            clear d1
            go_roundw
            case rel =>
              refine ⟨k + 1, !cb, by omega, by go_num, rfl, fun h => ⟨(HB1.out (by simp)).1, fun j hj hj2 => ?_⟩, fun h h2 => ?_, HBj.out⟩
              · rcases Nat.lt_or_ge j k with h3 | h3
                · exact (HB1.out (by simp)).2 j hj h3
                · obtain rfl : j = k := by omega
                  obtain ⟨h4, h5⟩ := HCb.out
                  cases cb with
                  | true => cases h
                  | false => intro e; unfold clashB at h5; rw [e] at h5; simp at h5
              · obtain ⟨h4, h5⟩ := HCb.out
                cases cb with
                | false => cases h
                | true =>
                  have := (hasD_iff (domsE d hs) fl i).2 ⟨k, h4, by unfold clashB at h5; simpa using h5⟩
                  rw [this] at h2; cases h2.2
            case measure => simp [intOf]; omega
          | false =>
            have HF1 : Hid (f1 = fl) := Lib.hid (by rw [HStep.out, if_neg (HB0.out (by simp))])
            have HOf := Lib.hid (HO.out.below HBi.out); have HBf := Lib.hid (HB.out.trans (HBi.out.mono HB.out.size))
            go_wp2
            go_roundw
            case rel => exact ⟨i + 1, by omega, by go_num, by rw [HF0.out, HF1.out]; exact HOf.out, HBf.out⟩
            case measure => simp [intOf]; omega
        · obtain rfl : k = n := by omega
          have HOf := Lib.hid (HO.out.below HBi.out); have HBf := Lib.hid (HB.out.trans (HBi.out.mono HB.out.size))
          cases b with
          | true =>
            have hno : hasD (domsE d hs) fl i = false := by
              cases h : hasD (domsE d hs) fl i with
              | false => rfl
              | true =>
                obtain ⟨j, h1, h2⟩ := (hasD_iff _ _ _).1 h
                exact absurd h2 ((HB1.out (by simp)).2 j h1 (by rw [← HN.out]; exact h1))
            have HF1 : Hid (f1 = fl ++ [i]) := Lib.hid (by rw [HStep.out, if_pos ⟨(HB1.out (by simp)).1, hno⟩])
            have HI9 : Hid (ints (fl ++ [i]) = ints fl ++ [(i : Int)]) := Lib.hid (by simp [ints])
            have HNew : Hid (Sl ic 1 (wr.alloc (.cells #[.int .i64 i] 3)) (.slice (some ⟨wr.heap.size, 0, none⟩) 1 1) [(i : Int)]) := Lib.hid (sl_new ic_len wr (i : Int) _ _ rfl)
            have hba := below_new wr (.cells #[.int .i64 i] 3)
            have HOa := Lib.hid (HOf.out.below hba)
            have HBa := Lib.hid (HBf.out.trans (hba.mono HBf.out.size))
            clear hba hno
            go_wp2_with (at_builtin; go_loud (refine app1Q ic_len ic_one (by decide) rfl _ _ 22 rfl w.heap.size 3 _ (by rfl) 8 Try.underlying22 infoInt _ (ints fl) rfl HOa.out _ (i : Int) rfl HNew.out (by rw [ints_len, HN.out]; unfold maxLen; omega) (by rw [ints_len, HN.out]; omega) HBa.out.size ?_); intro v9 w9 ho9 hk9 _ _; obtain ⟨x9, y9, rfl⟩ := ho9.slice; have HO10 := Lib.hid ho9; have HB10 := Lib.hid (HBa.out.trans (hk9.toBelow.mono (Nat.le_refl _))); clear ho9 hk9)
            rw [show (ints fl ++ [(i : Int)]).length = (ints fl).length + 1 from by simp] at HO10
            go_roundw
            case rel => exact ⟨i + 1, by omega, by go_num, by rw [HF0.out, HF1.out, HI9.out]; exact HO10.out, HB10.out⟩
            case measure => simp [intOf]; omega
          | false =>
            have HF1 : Hid (f1 = fl) := Lib.hid (by rw [HStep.out, if_neg (HB0.out (by simp))])
            go_wp2
            go_roundw
            case rel => exact ⟨i + 1, by omega, by go_num, by rw [HF0.out, HF1.out]; exact HOf.out, HBf.out⟩
            case measure => simp [intOf]; omega
    · obtain rfl : i = L := by omega
      have hms : mostE hs ws size d = min (firstL hs ws d i).length (max size 0).toNat := by rw [HM.out, HL.out]
      have HMs := Lib.hid hms
      have HB := Lib.hid hb
      rw [ints_len]
      generalize (firstL hs ws d i).length = n at HMs hfl ⊢
      clear ho hb hms hflt
      go_wp2
      go_ret
      refine ⟨?_, HB.out⟩
      rw [HMs.out]
      exact congrArg (fun z : Int => Ending.returned (.int .i64 z)) (by omega)

set_option maxHeartbeats 16000000 in
set_option maxRecDepth 100000 in
theorem rValid_any (v vw vl : Value) (hs ws l : List Int) (size d : Int) (w : World) (h : Sl ic 1 w v hs) (hw : Sl ic 1 w vw ws) (hl : Sl ic 1 w vl l) (hh : hs.length ≤ 65536) (hll : l.length ≤ 65536) : Calls Try.prog 19 #[v, vw, vl, .int .i64 size, .int .i64 d] w fun e w' => e = .returned (.bool (validB hs ws l size d)) ∧ Below w.heap.size w w' := by
  obtain ⟨a, c, rfl⟩ := h.slice
  obtain ⟨aw, cw, rfl⟩ := hw.slice
  obtain ⟨al, cl, rfl⟩ := hl.slice
  have HH := Lib.hid h; have HW := Lib.hid hw; have HLs := Lib.hid hl; have HNot := Lib.hid (@validB_not hs ws l size d); have HYes := Lib.hid (fun h => (validB_iff hs ws l size d).2 h)
  have HLe := Lib.hid hh
  have mixed : Try.prog.follows .mixedOrders = true := by kernel_rfl
  obtain ⟨L, hL⟩ : ∃ L, hs.length = L := ⟨_, rfl⟩
  obtain ⟨n, hn⟩ : ∃ n, l.length = n := ⟨_, rfl⟩
  have HL := Lib.hid hL; have HN := Lib.hid hn
  rw [hL] at HH hh ⊢
  rw [hn] at hll HLs ⊢
  have hlw := hw.1
  generalize ws.length = Lw at HW hlw ⊢
  obtain ⟨vb, hvb⟩ : ∃ b, validB hs ws l size d = b := ⟨_, rfl⟩
  rw [hvb] at HNot HYes ⊢
  clear h hw hl hL hn hvb
  go_enter Try.func19, Try.ntmps19
  go_wp2
  go_loopw [11] (fun vi wr => ∃ i : Nat, i ≤ n ∧ vi = .int .i64 i ∧ (∀ z ∈ l.take i, nodeOk hs ws z) ∧ (domZ hs d (l.take i)).Nodup ∧ Below w.heap.size w wr) (fun i _ => n - (intOf i).toNat)
  case atStart => exact ⟨0, by omega, rfl, by simp, by simp [domZ], Below.refl _ _⟩
  case round =>
    obtain ⟨i, hi, rfl, hok, hnd, hb⟩ := hrel
    have HOk := Lib.hid hok; have HNd := Lib.hid hnd; have HB := Lib.hid hb
    by_cases hlt : i < n
    · have hlt' : (i : Int) < n := by omega
      have hi0 : (0 : Int) ≤ i := by omega
      have hil : i < l.length := by rw [HN.out]; exact hlt
      obtain ⟨b3, off3, c3', he, hbl, hcell⟩ := int_at' (HLs.out.keep hb) HN.out hlt
      obtain ⟨rfl, rfl⟩ : al = some ⟨b3, off3, none⟩ ∧ cl = c3' := by cases he; exact ⟨rfl, rfl⟩
      have HCell : Hid (∀ u, Below wr.heap.size wr u → ∀ j (h : j < l.length), u.cell? ⟨b3, off3 + j, none⟩ = some (.int .i64 l[j])) := Lib.hid (fun u hu j hj => by
        rw [← hcell j hj]
        simp only [World.cell?, hu.block b3 hbl])
      have k0 := hcell i hil
      have HIn := Lib.hid (List.getElem_mem hil)
      have HTk := Lib.hid (domZ_take hs d l i hil)
      have HTk2 : Hid (l.take (i + 1) = l.take i ++ [l[i]]) := Lib.hid (List.take_succ_eq_append_getElem hil)
      have HZ : Hid (∃ h : i < l.length, l[i] = l[i]) := Lib.hid ⟨hil, rfl⟩
      obtain ⟨z, hz⟩ : ∃ z, l[i] = z := ⟨_, rfl⟩
      have HZe := Lib.hid (show ∃ h : i < l.length, l[i] = z from ⟨hil, hz⟩)
      rw [hz] at k0 HIn HTk HTk2
      clear he hbl hcell hil hok hnd HZ hz
      have HBad : Hid (¬ nodeOk hs ws z → vb = false) := Lib.hid (fun hz => HNot.out (fun h => hz (h.2.1 z HIn.out)))
      by_cases hz0 : z < 0
      · have hvb := HBad.out (fun h => by have := h.1; omega)
        subst hvb
        clear hb
        go_wp2
        go_ret
        exact ⟨rfl, HB.out⟩
      · obtain ⟨q, rfl⟩ : ∃ q : Nat, z = q := ⟨z.toNat, by omega⟩
        by_cases hqL : L ≤ q
        · have hqL' : (q : Int) ≥ L := by omega
          have hvb := HBad.out (fun h => by have := h.2.1; rw [HL.out] at this; omega)
          subst hvb
          clear hb
          go_wp2
          go_ret
          exact ⟨rfl, HB.out⟩
        · have hqL' : ¬ (q : Int) ≥ L := by omega
          have hq0 : (0 : Int) ≤ q := by omega
          have HWt := Lib.hid (nrweight_any _ ws q (by omega) wr (HW.out.keep hb))
          have HGood : Hid (nodeOk hs ws q ↔ 0 < wtAt ws q) := Lib.hid ⟨fun h => by simpa using h.2.2, fun h => ⟨by omega, by rw [HL.out]; omega, by simpa using h⟩⟩
          have hwr := wtAt_range ws q
          generalize wtAt ws q = wt at HWt HGood hwr
          by_cases hwt : wt = 0
          · have hvb := HBad.out (fun h => by have := HGood.out.1 h; omega)
            subst hvb
            clear hb
            go_wp2_with (go_at_call 27; refine HWt.out.mono ?_; rintro e w5 ⟨rfl, rfl⟩)
            go_ret
            exact ⟨rfl, HB.out⟩
          · have HNx : Hid (∀ z ∈ l.take (i + 1), nodeOk hs ws z) := Lib.hid (fun y hy => by
              rw [HTk2.out] at hy
              rcases List.mem_append.1 hy with hy | hy
              · exact HOk.out y hy
              · rw [List.mem_singleton.1 hy]; exact HGood.out.2 (by omega))
            have hwt' : ¬ wt = 0 := hwt
            go_upto_region 6 with (go_at_call 27; refine HWt.out.mono ?_; rintro e w5 ⟨rfl, rfl⟩)
            obtain ⟨W, rfl⟩ : ∃ W, W = w5 := ⟨_, rfl⟩
            have hwf : (wt == (0 : Int)) = false := by simpa using hwt
            try simp only [hwf]
            clear hb k0 hwf hwt hwt'
            go_wp2
            go_loopw [12] (fun vk wr => ∃ k : Nat, k ≤ i ∧ vk = .int .i64 k ∧ (∀ j (h : j < l.length), j < k → (domsE d hs).getD l[j].toNat 0 ≠ (domsE d hs).getD q 0) ∧ Below W.heap.size W wr) (fun k _ => i - (intOf k).toNat)
            case atStart => exact ⟨0, by omega, rfl, fun j _ h => by omega, Below.refl _ _⟩
            case round =>
              obtain ⟨k, hk, rfl, hall, hbi⟩ := hrel
              have HAll := Lib.hid hall; have HBi := Lib.hid hbi
              clear hall hbi
              by_cases hki : k < i
              · have hki' : (k : Int) < i := by omega
                have hk0 : (0 : Int) ≤ k := by omega
                have hkn' : (k : Int) < n := by omega
                have hkl : k < l.length := by rw [HN.out]; omega
                have hkm : l[k] ∈ l.take i := List.mem_iff_getElem.2 ⟨k, by rw [List.length_take]; omega, by rw [List.getElem_take]⟩
                obtain ⟨hp1, hp2, -⟩ := HOk.out _ hkm
                obtain ⟨p, hpe⟩ : ∃ p : Nat, l[k] = p := ⟨l[k].toNat, by omega⟩
                have hpL : p < hs.length := by rw [hpe] at hp2; omega
                have HKe := Lib.hid (show ∃ h : k < l.length, l[k] = (p : Int) from ⟨hkl, hpe⟩)
                have HS9 : Hid (∀ u, Below wr.heap.size wr u → u.cell? ⟨b3, off3 + k, none⟩ = some (.int .i64 p) ∧ u.cell? ⟨b3, off3 + i, none⟩ = some (.int .i64 q)) := Lib.hid (fun u hu => by
                  have h1 := HBi.out.trans (hu.mono HBi.out.size)
                  obtain ⟨h2, h3⟩ := HZe.out
                  exact ⟨by rw [← hpe]; exact HCell.out u h1 k hkl, by rw [← h3]; exact HCell.out u h1 i h2⟩)
                have HD0 := Lib.hid (below_drew (Below.refl wr.heap.size wr))
                have hBe := HB.out.trans (HBi.out.mono HB.out.size)
                have HCl := Lib.hid (clash_any (.slice a L c) hs p q d hpL (by rw [HL.out]; omega) HLe.out wr.drew ((HH.out.keep hBe).keep HD0.out))
                obtain ⟨cb, hcb⟩ : ∃ b, clashB hs d p q = b := ⟨_, rfl⟩
                have HCb := Lib.hid hcb
                rw [hcb] at HCl
                clear hkl hkm hp1 hp2 hpe hpL hBe hcb
                go_upto_region 9 with fail
                go_region_held3 (fun u => u.cell? ⟨b3, off3 + k, none⟩ = some (.int .i64 p) ∧ u.cell? ⟨b3, off3 + i, none⟩ = some (.int .i64 q))
                  (first | exact HS9.out _ HD0.out | exact HS9.out _ HB5.out)
                  (first | (go_at_call 32; refine HCl.out.mono ?_; rintro e w5 ⟨rfl, hb⟩; have HB5 := Lib.hid (HD0.out.trans (hb.mono HD0.out.size)); clear hb))
                all_goals
                  have HBj := Lib.hid (HBi.out.trans (HB5.out.mono HBi.out.size))
                  cases cb with
                  | true =>
                    have hdup : ¬ (domZ hs d l).Nodup := by
                      obtain ⟨h1, h2⟩ := HKe.out
                      obtain ⟨h3, h4⟩ := HZe.out
                      have h5 := HCb.out
                      unfold clashB at h5
                      intro hnd
                      unfold List.Nodup at hnd
                      rw [List.pairwise_iff_getElem] at hnd
                      have := hnd k i (by rw [domZ_len]; exact h1) (by rw [domZ_len]; exact h3) hki
                      apply this
                      simp only [domZ, List.getElem_map, h2, h4, Int.toNat_natCast]
                      simpa using h5
                    have hvb := HNot.out (fun h => hdup h.2.2)
                    subst hvb
                    have HBe := Lib.hid (HB.out.trans (HBj.out.mono HB.out.size))
                    go_wp2
                    go_ret
                    exact ⟨rfl, HBe.out⟩
                  | false =>
                    go_wp2
                    go_roundw
                    case rel =>
                      refine ⟨k + 1, by omega, by go_num, fun j hj hj2 => ?_, HBj.out⟩
                      rcases Nat.lt_or_ge j k with h3 | h3
                      · exact HAll.out j hj h3
                      · obtain rfl : j = k := by omega
                        obtain ⟨h4, h5⟩ := HKe.out
                        have h6 := HCb.out
                        unfold clashB at h6
                        rw [h5, Int.toNat_natCast]
                        intro e
                        rw [e] at h6
                        simp at h6
                    case measure => simp [intOf]; omega
              · obtain rfl : k = i := by omega
                have HNd2 : Hid ((domZ hs d (l.take (k + 1))).Nodup) := Lib.hid (by
                  rw [HTk.out, Int.toNat_natCast, List.nodup_append]
                  refine ⟨HNd.out, by simp, fun y hy y2 hy2 e => ?_⟩
                  rw [List.mem_singleton.1 hy2] at e
                  unfold domZ at hy
                  obtain ⟨u, hu, rfl⟩ := List.mem_map.1 hy
                  obtain ⟨j, hj, rfl⟩ := List.getElem_of_mem hu
                  rw [List.length_take] at hj
                  rw [List.getElem_take] at e
                  exact HAll.out j (by omega) (by omega) e)
                have HBe := Lib.hid (HB.out.trans (HBi.out.mono HB.out.size))
                go_wp2
                go_roundw
                case rel => exact ⟨k + 1, by omega, by go_num, HNx.out, HNd2.out, HBe.out⟩
                case measure => simp [intOf]; omega
    · obtain rfl : i = n := by omega
      have e : l.take i = l := List.take_of_length_le (by rw [HN.out]; omega)
      rw [e] at hok hnd
      by_cases hsz : (i : Int) ≤ max size 0
      · have hvb := HYes.out ⟨by rw [HN.out]; exact hsz, hok, hnd⟩
        subst hvb
        clear hok hnd e hb
        go_wp2
        go_ret
        exact ⟨rfl, HB.out⟩
      · have hvb := HNot.out (fun h => hsz (by have := h.1; rw [HN.out] at this; exact this))
        subst hvb
        clear hok hnd e hb
        go_wp2
        go_ret
        exact ⟨rfl, HB.out⟩
end Go.Proofs.Ytfmphjplelganaa.crush
