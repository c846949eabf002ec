/- The program's Valid. -/
import Derived.Test.YtfmphjplelganaaRows
import Derived.Test.YtfmphjplelganaaRulePl
namespace Go.Proofs.Ytfmphjplelganaa.crush
open Go.RowKit
open Go.Proofs.Ytfmphjplelganaa.kit Go.Proofs.Ytfmphjplelganaa.own
set_option linter.unusedVariables false

/-- A node that may be chosen. -/
def nodeOk (hs ws : List Int) (z : Int) : Prop := 0 ≤ z ∧ z < hs.length ∧ 0 < wtAt ws z.toNat
instance (hs ws : List Int) (z : Int) : Decidable (nodeOk hs ws z) := by unfold nodeOk; infer_instance
def domZ (hs : List Int) (d : Int) (l : List Int) : List Int := l.map fun z => (domsE d hs).getD z.toNat 0
/-- P12.4. -/
noncomputable def validB (hs ws l : List Int) (size d : Int) : Bool := @decide ((l.length : Int) ≤ max size 0 ∧ (∀ z ∈ l, nodeOk hs ws z) ∧ (domZ hs d l).Nodup) (Classical.propDecidable _)
theorem validB_iff (hs ws l : List Int) (size d : Int) : validB hs ws l size d = true ↔ ((l.length : Int) ≤ max size 0 ∧ (∀ z ∈ l, nodeOk hs ws z) ∧ (domZ hs d l).Nodup) := by unfold validB; exact @decide_eq_true_iff _ (Classical.propDecidable _)
theorem validB_not {hs ws l : List Int} {size d : Int} (h : ¬ ((l.length : Int) ≤ max size 0 ∧ (∀ z ∈ l, nodeOk hs ws z) ∧ (domZ hs d l).Nodup)) : validB hs ws l size d = false := by
  cases e : validB hs ws l size d with
  | false => rfl
  | true => exact absurd ((validB_iff _ _ _ _ _).1 e) h
theorem domZ_len (hs : List Int) (d : Int) (l : List Int) : (domZ hs d l).length = l.length := by simp [domZ]
theorem domZ_take (hs : List Int) (d : Int) (l : List Int) (i : Nat) (hi : i < l.length) : domZ hs d (l.take (i + 1)) = domZ hs d (l.take i) ++ [(domsE d hs).getD l[i].toNat 0] := by
  unfold domZ
  rw [List.take_succ_eq_append_getElem hi, List.map_append]
  rfl

set_option maxHeartbeats 16000000 in
set_option maxRecDepth 100000 in
theorem Valid_any (v vw vl : Value) (hs ws l : List Int) (size d : Int) (w : World) (h : Sl ic 1 w v hs) (hw : Sl ic 1 w vw ws) (hl : Sl ic 1 w vl l) (hh : hs.length ≤ 65536) (hll : l.length ≤ 65536) : Calls Try.prog 18 #[v, vw, vl, .int .i64 size, .int .i64 d] w fun e w' => e = .returned (.bool (validB hs ws l size d)) ∧ Below w.heap.size w w' := by
  obtain ⟨a, c, rfl⟩ := h.slice
  obtain ⟨aw, cw, rfl⟩ := hw.slice
  obtain ⟨al, cl, rfl⟩ := hl.slice
  have HD := Lib.hid (domains_any _ hs d w h hh)
  have HW := Lib.hid hw; have HLs := Lib.hid hl; have HNot := Lib.hid (@validB_not hs ws l size d); have HYes := Lib.hid (fun h => (validB_iff hs ws l size d).2 h)
  obtain ⟨L, hL⟩ : ∃ L, hs.length = L := ⟨_, rfl⟩
  obtain ⟨n, hn⟩ : ∃ n, l.length = n := ⟨_, rfl⟩
  have HL := Lib.hid hL; have HN := Lib.hid hn
  rw [hL] at hh HD ⊢
  rw [hn] at hll HLs ⊢
  have hlw := hw.1
  generalize ws.length = Lw at HW hlw ⊢
  obtain ⟨vb, hvb⟩ : ∃ b, validB hs ws l size d = b := ⟨_, rfl⟩
  rw [hvb] at HNot HYes ⊢
  clear h hw hl hL hn hvb
  by_cases hsz : (n : Int) ≤ max size 0
  · have HSz := Lib.hid hsz
    have hsz' : ¬ (n : Int) > max size 0 := by omega
    go_enter Try.func18, Try.ntmps18
    go_wp2_with fail
    refine HD.out.mono ?_
    rintro en w2 ⟨v2, rfl, ho, hb⟩
    obtain ⟨a2, c2, rfl⟩ := ho.slice
    have hdl : (domsE d hs).length = L := by rw [domsE_len]; exact HL.out
    rw [hdl] at ho ⊢
    have HO := Lib.hid (ho.read ic_len); have HB := Lib.hid hb; have HDl := Lib.hid hdl
    have HW2 := Lib.hid (HW.out.keep hb); have HL2 := Lib.hid (HLs.out.keep hb)
    clear ho hb HD HW HLs hdl hsz'
    go_wp2
    go_loopw [12, 25] (fun v12 vi wr => ∃ (i : Nat), i ≤ n ∧ vi = .int .i64 i ∧ Own ic 1 3 wr w2.heap.size v12 (domZ hs d (l.take i)) ∧ (∀ z ∈ l.take i, nodeOk hs ws z) ∧ Below w2.heap.size w2 wr) (fun _ i _ => n - (intOf i).toNat)
    case atStart => exact ⟨0, by omega, rfl, by rw [List.take_zero]; exact Own.nil _ _ _, by simp, Below.refl _ _⟩
    case round =>
      obtain ⟨i, hi, rfl, ho9, hok, hb⟩ := hrel
      obtain ⟨a9, c9, rfl⟩ := ho9.slice
      have hle : (domZ hs d (l.take i)).length = i := by rw [domZ_len, List.length_take, HN.out]; omega
      rw [hle] at ho9 ⊢
      have HO9 := Lib.hid ho9; have HBr := Lib.hid hb; have HOk := Lib.hid hok; have HLe := Lib.hid hle
      by_cases hlt : i < n
      · have hlt' : (i : Int) < n := by omega
        have hi0 : (0 : Int) ≤ i := by omega
        have hil : i < l.length := by rw [HN.out]; exact hlt
        obtain ⟨b3, off3, c3', he, hbl, hcell⟩ := int_at' (HL2.out.keep hb) HN.out hlt
        obtain ⟨rfl, rfl⟩ : al = some ⟨b3, off3, none⟩ ∧ cl = c3' := by cases he; exact ⟨rfl, rfl⟩
        have k0 := hcell i hil
        have HIn := Lib.hid (List.getElem_mem hil)
        have HTk := Lib.hid (domZ_take hs d l i hil)
        have HTk2 : Hid (l.take (i + 1) = l.take i ++ [l[i]]) := Lib.hid (List.take_succ_eq_append_getElem hil)
        generalize l[i] = z at k0 HIn HTk HTk2
        clear he hbl hcell hil hok hle ho9
        have HBad : Hid (¬ nodeOk hs ws z → vb = false) := Lib.hid (fun hz => HNot.out (fun h => hz (h.2.1 z HIn.out)))
        by_cases hz0 : z < 0
        · have hvb := HBad.out (fun h => by have := h.1; omega)
          subst hvb
          have HBe := Lib.hid (HB.out.trans (hb.mono HB.out.size))
          clear hb
          go_wp2
          go_ret
          exact ⟨rfl, HBe.out⟩
        · obtain ⟨q, rfl⟩ : ∃ q : Nat, z = q := ⟨z.toNat, by omega⟩
          by_cases hqL : L ≤ q
          · have hqL' : (q : Int) ≥ L := by omega
            have hvb := HBad.out (fun h => by have := h.2.1; rw [HL.out] at this; omega)
            subst hvb
            have HBe := Lib.hid (HB.out.trans (hb.mono HB.out.size))
            clear hb
            go_wp2
            go_ret
            exact ⟨rfl, HBe.out⟩
          · have hqL' : ¬ (q : Int) ≥ L := by omega
            have hqL2 : (q : Int) < L := by omega
            have hq0 : (0 : Int) ≤ q := by omega
            have HWt := Lib.hid (nweight_any _ ws q (by omega) wr (HW2.out.keep hb))
            have HGood : Hid (nodeOk hs ws q ↔ 0 < wtAt ws q) := Lib.hid ⟨fun h => by simpa using h.2.2, fun h => ⟨by omega, by rw [HL.out]; omega, by simpa using h⟩⟩
            generalize wtAt ws q = wt at HWt HGood
            by_cases hwt : wt < 1
            · have hvb := HBad.out (fun h => by have := HGood.out.1 h; omega)
              subst hvb
              have HBe := Lib.hid (HB.out.trans (hb.mono HB.out.size))
              clear hb
              go_wp2_with (go_at_call 34; refine HWt.out.mono ?_; rintro e w5 ⟨rfl, rfl⟩)
              go_ret
              exact ⟨rfl, HBe.out⟩
            · have HNx : Hid (∀ z ∈ l.take (i + 1), nodeOk hs ws z) := Lib.hid (fun y hy => by
                rw [HTk2.out] at hy
                rcases List.mem_append.1 hy with hy | hy
                · exact HOk.out y hy
                · rw [List.mem_singleton.1 hy]; exact HGood.out.2 (by omega))
              have hqd : q < (domsE d hs).length := by rw [HDl.out]; omega
              obtain ⟨b4, off4, c4', he4, hbl4, hcell4⟩ := int_at' (HO.out.keep hb) HDl.out (show q < L by omega)
              obtain ⟨rfl, rfl⟩ : a2 = some ⟨b4, off4, none⟩ ∧ c2 = c4' := by cases he4; exact ⟨rfl, rfl⟩
              have d4 := hcell4 q hqd
              have hgd : (domsE d hs).getD ((q : Int)).toNat 0 = (domsE d hs)[q] := by rw [Int.toNat_natCast, List.getD_eq_getElem?_getD, List.getElem?_eq_getElem hqd]; rfl
              rw [hgd] at HTk
              generalize (domsE d hs)[q] = dz at d4 HTk
              have HNew : Hid (Sl ic 1 (wr.alloc (.cells #[.int .i64 dz] 3)) (.slice (some ⟨wr.heap.size, 0, none⟩) 1 1) [dz]) := Lib.hid (sl_new ic_len wr dz _ _ rfl)
              have hba := below_new wr (.cells #[.int .i64 dz] 3)
              have HOa := Lib.hid (HO9.out.below hba)
              have HBa := Lib.hid (hb.trans (hba.mono hb.size))
              clear hb hba he4 hbl4 hcell4 hqd hgd
              go_upto_region 11 with (first | (go_at_call 34; refine HWt.out.mono ?_; rintro e w5 ⟨rfl, rfl⟩) | (at_builtin; go_loud (refine app1Q ic_len ic_one (by decide) rfl _ _ 22 rfl w2.heap.size 3 _ (by rfl) 8 Try.underlying22 infoInt _ (domZ hs d (l.take i)) rfl HOa.out _ dz rfl HNew.out (by rw [HLe.out]; unfold maxLen; omega) (by rw [HLe.out]; omega) HBa.out.size ?_); intro v9 w9 ho9 hk9 _ _; obtain ⟨x9, y9, rfl⟩ := ho9.slice; rw [← HTk.out] at ho9 ⊢; have HO10 := Lib.hid ho9; have HB10 := Lib.hid (HBa.out.trans (hk9.toBelow.mono (Nat.le_refl _))); clear ho9 hk9))
              clear k0 d4
              go_wp2
              go_roundw
              case rel => exact ⟨i + 1, by omega, by go_num, HO10.out, HNx.out, HB10.out⟩
              case measure => simp [intOf]; omega
      · obtain rfl : i = n := by omega
        have e : l.take i = l := List.take_of_length_le (by rw [HN.out]; omega)
        rw [e] at ho9 hok
        have HUn := Lib.hid (unlike_any _ (domZ hs d l) wr (ho9.read ic_len) (by rw [domZ_len, HN.out]; omega))
        have hiff := once_len_nodup (domZ hs d l)
        have hol := onceL_len (domZ hs d l)
        rw [domZ_len, HN.out] at hiff hol
        have HV1 : Hid ((onceL (domZ hs d l)).length = i → vb = true) := Lib.hid (fun h => HYes.out ⟨by rw [HN.out]; exact HSz.out, hok, hiff.1 h⟩)
        have HV0 : Hid ((onceL (domZ hs d l)).length ≠ i → vb = false) := Lib.hid (fun h => HNot.out (fun hh => h (hiff.2 hh.2.2)))
        generalize onceL (domZ hs d l) = un at HUn HV1 HV0 hol
        clear hiff e hok ho9 hb
        go_wp2_with fail
        refine HUn.out.mono ?_
        rintro en w5 ⟨v5, rfl, ho5, hb5⟩
        obtain ⟨a5, c5, rfl⟩ := ho5.slice
        have HB5 := Lib.hid (HB.out.trans ((HBr.out.trans (hb5.mono HBr.out.size)).mono HB.out.size))
        clear ho5 hb5
        generalize un.length = m at HV1 HV0 hol ⊢
        by_cases hm : m = i
        · have hvb := HV1.out hm
          subst hvb
          have heq : True → ((m : Int) == (i : Int)) = true := fun _ => by rw [hm]; simp
          clear hm
          go_wp2
          go_ret
          exact ⟨rfl, HB5.out⟩
        · have hvb := HV0.out hm
          subst hvb
          have heq : True → ((m : Int) == (i : Int)) = false := fun _ => by simp; omega
          clear hm
          go_wp2
          go_ret
          exact ⟨rfl, HB5.out⟩
  · have hsz' : (n : Int) > max size 0 := by omega
    have hvb := HNot.out (fun h => hsz (by have := h.1; rw [HN.out] at this; exact this))
    subst hvb
    go_enter Try.func18, Try.ntmps18
    go_wp2_with fail
    go_ret
    exact ⟨rfl, Below.refl _ _⟩
end Go.Proofs.Ytfmphjplelganaa.crush
