/- The document's try. -/
import Derived.Test.YtngmcolbpdinmaaRows
import Derived.Test.YtngmcolbpdinmaaRuleRItems
namespace Go.Proofs.Ytngmcolbpdinmaa.crush
open Go.RowKit
open Go.Proofs.Ytngmcolbpdinmaa.kit Go.Proofs.Ytngmcolbpdinmaa.own
set_option linter.unusedVariables false

def tryZ : Option Nat → Int
  | some v => v
  | none => -1
theorem tryE_cases (hs ws : List Int) (x r : Nat) : (pick (keys x r (itemsE hs ws)) = none ∧ tryE hs ws x r = none) ∨ ∃ i z, pick (keys x r (itemsE hs ws)) = some i ∧ i < (itemsE hs ws).length ∧ (itemsE hs ws)[i]? = some (z, hostW hs ws z hs.length) ∧
    ((pick (keys x ((r : Int) + 64) (nodesOf hs ws z hs.length)) = none ∧ tryE hs ws x r = none) ∨ ∃ k, pick (keys x ((r : Int) + 64) (nodesOf hs ws z hs.length)) = some k ∧ ∃ h : k < (nodesOf hs ws z hs.length).length, tryE hs ws x r = some (nodesOf hs ws z hs.length)[k].1.toNat ∧ 0 ≤ (nodesOf hs ws z hs.length)[k].1) := by
  unfold tryE tryP
  cases hp : pick (keys x r (itemsE hs ws)) with
  | none => exact .inl ⟨rfl, rfl⟩
  | some i =>
    right
    have hi : i < (itemsE hs ws).length := by have := pick_lt hp; rwa [keys_len] at this
    have ho : i < (onceL hs).length := by rw [itemsE_len] at hi; exact hi
    refine ⟨i, (onceL hs)[i], rfl, hi, ?_, ?_⟩
    · simp [itemsE, ho]
    · have e1 : (nodesE hs ws).getD i [] = nodesOf hs ws (onceL hs)[i] hs.length := by
        rw [List.getD_eq_getElem?_getD, List.getElem?_eq_getElem (by rw [nodesE_len]; exact ho)]
        simp [nodesE]
      simp only [e1]
      cases hq : pick (keys x ((r : Int) + 64) (nodesOf hs ws (onceL hs)[i] hs.length)) with
      | none => exact .inl ⟨rfl, rfl⟩
      | some k =>
        have hk : k < (nodesOf hs ws (onceL hs)[i] hs.length).length := by have := pick_lt hq; rwa [keys_len] at this
        refine .inr ⟨k, rfl, hk, ?_, ?_⟩
        · simp only
          rw [List.getD_eq_getElem?_getD, List.getElem?_eq_getElem hk]; rfl
        · obtain ⟨m, _, e, _⟩ := nodesOf_mem _ _ _ _ _ (List.getElem_mem hk)
          rw [e]; simp

set_option maxHeartbeats 16000000 in
set_option maxRecDepth 100000 in
theorem rtry_any (v vw : Value) (hs ws : List Int) (x r : Nat) (hx : x < 4294967296) (hr : r < 64) (w : World) (h : Sl ic 1 w v hs) (hw : Sl ic 1 w vw ws) (hl : hs.length ≤ 65536) : Calls Try.prog 25 #[v, vw, .int .u32 x, .int .i64 r] w fun e w' => e = .returned (.int .i64 (tryZ (tryE hs ws x r))) ∧ Below w.heap.size w w' := by
  obtain ⟨a, c, rfl⟩ := h.slice
  obtain ⟨aw, cw, rfl⟩ := hw.slice
  have HI := Lib.hid (rItems_any _ _ hs ws w h hw hl)
  have HH := Lib.hid h; have HW := Lib.hid hw
  have HX := Lib.hid hx
  have HCs := Lib.hid (tryE_cases hs ws x r)
  have hil : (itemsE hs ws).length ≤ 65536 := by rw [itemsE_len]; have := onceL_len hs; omega
  have HNl := Lib.hid (fun z n => nodesOf_len hs ws z n)
  have mixed : Try.prog.follows .mixedOrders = true := by kernel_rfl
  have hr0 : (0 : Int) ≤ r := by omega
  have hr64 : (r : Int) < 64 := by omega
  obtain ⟨tz, htz⟩ : ∃ t, tryE hs ws x r = t := ⟨_, rfl⟩
  rw [htz] at HCs ⊢
  obtain ⟨L, hL⟩ : ∃ L, hs.length = L := ⟨_, rfl⟩
  have HL := Lib.hid hL
  rw [hL] at HH HI hl HCs ⊢
  generalize ws.length = Lw at HW HI ⊢
  generalize itemsE hs ws = its at HI HCs hil
  clear h hw hL htz hx hr
  go_enter Try.func25, Try.ntmps25
  go_wp2_with fail
  refine HI.out.mono ?_
  rintro en w2 ⟨v2, rfl, ho, hb⟩
  obtain ⟨a2, c2, rfl⟩ := ho.slice
  have HO := Lib.hid (ho.read wc_len); have HB := Lib.hid hb
  have HCh := Lib.hid (rChoose_any (.slice a2 its.length c2) its x r HX.out (by omega) w2 HO.out)
  unfold chosen at HCh
  clear ho hb HI
  rcases HCs.out with ⟨hp, rfl⟩ | ⟨i, z, hp, hii, hget, hrest⟩
  · rw [hp] at HCh
    simp only [Option.getD_none, Option.isSome_none] at HCh
    go_upto_region 2 with fail
    go_wp2_with fail
    refine HCh.out.mono ?_
    rintro en w3 ⟨rfl, hb⟩
    have HB3 := Lib.hid (HB.out.trans (hb.mono HB.out.size))
    clear hb HCs
    go_wp2
    go_ret
    exact ⟨rfl, HB3.out⟩
  · rw [hp] at HCh
    simp only [Option.getD_some, Option.isSome_some] at HCh
    have HRest := Lib.hid hrest
    have hge : its[i] = (z, hostW hs ws z L) := by rw [List.getElem?_eq_getElem hii] at hget; exact Option.some.inj hget
    have hi0 : (0 : Int) ≤ i := by omega
    clear hrest HCs
    go_upto_region 2 with fail
    go_wp2_with fail
    refine HCh.out.mono ?_
    rintro en w3 ⟨rfl, hb⟩
    have HO3 := Lib.hid (HO.out.keep hb)
    have HB3 := Lib.hid (HB.out.trans (hb.mono HB.out.size))
    obtain ⟨_, a9, c9, he9, -, hc9⟩ := HO3.out
    obtain ⟨b9, o9, e9, hb9, hr9⟩ := hc9 (by omega)
    obtain ⟨rfl, rfl⟩ : a2 = some ⟨b9, o9, none⟩ ∧ c2 = c9 := by cases he9; exact ⟨e9, rfl⟩
    have HId : Hid (∀ u, Below w3.heap.size w3 u → u.cell? ⟨b9, o9 + i * 2, none⟩ = some (.int .i64 z)) := Lib.hid (fun u hu => by
      have h1 := (wcells_at (range_keep (hr9 i hii) hb9 hu)).1
      rw [hge] at h1
      exact h1)
    have hii' : (i : Int) < its.length := by omega
    obtain ⟨n, hn⟩ : ∃ n, its.length = n := ⟨_, rfl⟩
    have HN := Lib.hid hn
    rw [hn] at hii' ⊢
    clear hb he9 e9 hb9 hr9 hc9 HCh hget hge hp hn
    go_wp2
    go_loopw [12, 13] (fun v12 vi wr => ∃ k : Nat, k ≤ L ∧ vi = .int .i64 k ∧ Own wc 2 58 wr w3.heap.size v12 (nodesOf hs ws z k) ∧ Below w3.heap.size w3 wr) (fun _ i _ => L - (intOf i).toNat)
    case atStart => exact ⟨0, by omega, rfl, Own.nil _ _ _, Below.refl _ _⟩
    case round =>
      obtain ⟨k, hk, rfl, ho, hb⟩ := hrel
      obtain ⟨a4, c4, rfl⟩ := ho.slice
      have hnl := HNl.out z k
      by_cases hkL : k < L
      · have hkL' : (k : Int) < L := by omega
        have hk0 : (0 : Int) ≤ k := by omega
        have hkl : k < hs.length := by rw [HL.out]; exact hkL
        have hbw := HB3.out.trans (hb.mono HB3.out.size)
        obtain ⟨b3, off3, c3', he, hbl, hcell⟩ := int_at' (HH.out.keep hbw) HL.out hkL
        obtain ⟨rfl, rfl⟩ : a = some ⟨b3, off3, none⟩ ∧ c = c3' := by cases he; exact ⟨rfl, rfl⟩
        have d1 := hcell k hkl
        have d2 := HId.out _ hb
        have hgd : hs.getD k 0 = hs[k] := by rw [List.getD_eq_getElem?_getD, List.getElem?_eq_getElem hkl]; rfl
        have HSt : Hid (nodesOf hs ws z (k + 1) = if hs[k] = z then nodesOf hs ws z k ++ [((k : Int), wtAt ws k)] else nodesOf hs ws z k) := Lib.hid (by rw [nodesOf, hgd])
        have HWt := Lib.hid (fun u (hu : Below wr.heap.size wr u) => nrweight_any _ ws k (by omega) u ((HW.out.keep hbw).keep hu))
        obtain ⟨nd1, h1⟩ : ∃ q, nodesOf hs ws z (k + 1) = q := ⟨_, rfl⟩
        have H1 := Lib.hid h1
        rw [h1] at HSt
        generalize nodesOf hs ws z k = nd at HSt ho hnl ⊢
        generalize wtAt ws k = wt at HSt HWt
        generalize hs[k] = y at d1 HSt
        obtain ⟨n4, hn4⟩ : ∃ n, nd.length = n := ⟨_, rfl⟩
        have HN4 := Lib.hid hn4
        rw [hn4] at ho hnl ⊢
        have HO4 := Lib.hid ho; have HBk := Lib.hid hb
        clear he hbl hcell hgd hkl hbw h1 ho hb hn4
        by_cases hyz : y = z
        · rw [if_pos hyz] at HSt
          have heq : True → (y == z) = true := fun _ => by rw [hyz]; simp
          go_upto_region 9 with fail
          go_quiet (fail)
          have HD := Lib.hid ((Below.refl wr.heap.size wr).drewN' nq)
          have HBj := Lib.hid (HBk.out.drewN' nq)
          have HO5 := Lib.hid (HO4.out.below HD.out)
          clear d1 d2 heq hyz
          generalize wr.drewN nq = W5 at HD HBj HO5 ⊢
          have hba := below_new W5 (.cells #[.int .i64 k, .int .i64 wt] 58)
          have HOa := Lib.hid (HO5.out.below hba)
          have HBa := Lib.hid (HBj.out.trans (hba.mono HBj.out.size))
          have HNew : Hid (Sl wc 2 (W5.alloc (.cells #[.int .i64 k, .int .i64 wt] 58)) (.slice (some ⟨W5.heap.size, 0, none⟩) 1 1) [((k : Int), wt)]) := Lib.hid (sl_new wc_len W5 ((k : Int), wt) _ _ rfl)
          clear hba
          go_wp2_with (first | (go_at_call 36; refine (HWt.out _ HD.out).mono ?_; rintro e w5 ⟨rfl, rfl⟩) | (at_builtin; go_loud (refine app1Q wc_len wc_one (by decide) rfl _ _ 33 rfl w3.heap.size 58 _ (by rfl) 16 Try.underlying33 infoItm _ nd rfl HOa.out _ ((k : Int), wt) rfl HNew.out (by rw [HN4.out]; unfold maxLen; omega) (by rw [HN4.out]; omega) HBa.out.size ?_); intro v9 w9 ho9 hk9 _ _; obtain ⟨x9, y9, rfl⟩ := ho9.slice; rw [← HSt.out] at ho9 ⊢; have HO10 := Lib.hid ho9; have HB10 := Lib.hid (HBa.out.trans (hk9.toBelow.mono (Nat.le_refl _))); clear ho9 hk9))
          go_roundw
          case rel => exact ⟨k + 1, by omega, by go_num, by rw [H1.out]; exact HO10.out, HB10.out⟩
          case measure => simp [intOf]; omega
        · rw [if_neg hyz] at HSt
          have heq : True → (y == z) = false := fun _ => by simp [hyz]
          have HN5 : Hid (nd1.length = n4) := Lib.hid (by rw [HSt.out]; exact HN4.out)
          go_upto_region 9 with fail
          go_quiet (fail)
          have HD := Lib.hid (HBk.out.drewN' nq)
          have HO5 := Lib.hid (HO4.out.below ((Below.refl wr.heap.size wr).drewN' nq))
          clear d1 d2 heq hyz
          go_wp2
          go_roundw
          case rel => exact ⟨k + 1, by omega, by go_num, by rw [H1.out, HSt.out]; exact HO5.out, HD.out⟩
          case measure => simp [intOf]; omega
      · obtain rfl : k = L := by omega
        have hk2 : k ≤ 65536 := hl
        have HO4 := Lib.hid (ho.read wc_len)
        have HBk := Lib.hid (HB3.out.trans (hb.mono HB3.out.size))
        have HC2 := Lib.hid (rChoose_any (.slice a4 (nodesOf hs ws z k).length c4) (nodesOf hs ws z k) x ((r : Int) + 64) HX.out (by omega) wr HO4.out)
        unfold chosen at HC2
        rcases HRest.out with ⟨hp2, rfl⟩ | ⟨q, hp2, hq, rfl, hq0⟩
        · rw [hp2] at HC2
          simp only [Option.getD_none, Option.isSome_none] at HC2
          clear ho hb HRest
          go_wp2_with fail
          refine HC2.out.mono ?_
          rintro en w6 ⟨rfl, hb⟩
          have HBe := Lib.hid (HBk.out.trans (hb.mono HBk.out.size))
          clear hb
          go_wp2
          go_ret
          exact ⟨rfl, HBe.out⟩
        · rw [hp2] at HC2
          simp only [Option.getD_some, Option.isSome_some] at HC2
          clear ho hb HRest
          go_wp2_with fail
          refine HC2.out.mono ?_
          rintro en w6 ⟨rfl, hb⟩
          have HBe := Lib.hid (HBk.out.trans (hb.mono HBk.out.size))
          obtain ⟨_, a7, c7, he7, -, hc7⟩ := HO4.out.keep hb
          obtain ⟨b7, o7, e7, hb7, hr7⟩ := hc7 (by omega)
          obtain ⟨rfl, rfl⟩ : a4 = some ⟨b7, o7, none⟩ ∧ c4 = c7 := by cases he7; exact ⟨e7, rfl⟩
          have d3 := (wcells_at (hr7 q hq)).1
          have hql : (q : Int) < (nodesOf hs ws z k).length := by omega
          have hq00 : (0 : Int) ≤ q := by omega
          have hez : tryZ (some (nodesOf hs ws z k)[q].1.toNat) = (nodesOf hs ws z k)[q].1 := by unfold tryZ; simp only; omega
          have HEz := Lib.hid hez
          obtain ⟨zz, hzz⟩ : ∃ y, y = (nodesOf hs ws z k)[q].1 := ⟨_, rfl⟩
          rw [← hzz] at d3
          have HZz := Lib.hid hzz
          clear hb he7 e7 hb7 hr7 hc7 hez hzz
          go_wp2
          go_ret
          rw [HEz.out, ← HZz.out]
          exact ⟨rfl, HBe.out⟩
end Go.Proofs.Ytngmcolbpdinmaa.crush
