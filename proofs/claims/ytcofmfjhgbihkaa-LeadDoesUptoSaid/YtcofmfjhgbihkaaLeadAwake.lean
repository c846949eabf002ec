/- The chapter's examples. -/
import Derived.Test.YtcofmfjhgbihkaaRows
import Derived.Test.YtcofmfjhgbihkaaLeadPick
import Derived.Test.YtcofmfjhgbihkaaLeadHear
import Derived.Test.YtcofmfjhgbihkaaLeadMaj
namespace Go.Proofs.Ytcofmfjhgbihkaa.crush
open Go.RowKit
open Go.Proofs.Ytcofmfjhgbihkaa.kit Go.Proofs.Ytcofmfjhgbihkaa.own
set_option linter.unusedVariables false
set_option linter.unusedSimpArgs false

def lwB : BalV := ⟨6, 2⟩
def lwP0 : PromV := ⟨0, 4, true, 1, 0, { data := #[97] }⟩
def lwP1 : PromV := ⟨1, 4, true, 2, 1, { data := #[98] }⟩
def lwP2 : PromV := ⟨2, 5, true, 9, 2, { data := #[99] }⟩
def lwL0 : LeadV := beginE lwB lwP0
def lwL1 : LeadV := ⟨1, 6, 2, [lwP0, lwP1], false, { data := #[] }, []⟩
def lwL2 : LeadV := ⟨1, 6, 2, [lwP0, lwP1, lwP2], false, { data := #[] }, []⟩
theorem lw_h1 : lwL0.hear lwP1 = lwL1 := rfl
theorem lw_h2 : lwL1.hear lwP2 = lwL2 := rfl
theorem lw_next : NextE (max 3 5) 2 = .tuple #[.agg #[.int .i64 6, .int .i64 2], .bool true] := rfl
theorem lw_pick : (bestP 4 noP lwL2.ps).val = { data := #[98] } ∧ (bestP 4 noP lwL2.ps).has = true := by decide +kernel
theorem lw_most : mostN 5 = 3 ∧ mostN 4 = 3 := by decide +kernel
theorem lw_enough : lwL2.enough 5 = true := by decide +kernel
theorem ris_two {α : Type} {f : α → Int} {a : α} : Ris f [a] := fun j k hj hk h => by simp at hj hk; omega
theorem lw_r0 : Ris PromV.mon lwL0.ps := ris_two
theorem lw_r1 : Ris PromV.mon lwL1.ps := fun j k hj hk h => by
  have h1 : j = 0 := by simp [lwL1] at hj hk; omega
  have h2 : k = 1 := by simp [lwL1] at hj hk; omega
  subst h1; subst h2
  show (0 : Int) < 1
  decide
theorem sm0 : lwL0.Small := ⟨by decide, by decide⟩
theorem sm1 : lwL1.Small := ⟨by decide, by decide⟩

set_option maxHeartbeats 16000000 in
set_option maxRecDepth 100000 in
theorem awakeL_any (w : World) : Calls Try.prog 13 #[] w fun e w' => e = .returned (.bool true) ∧ Below w.heap.size w w' := by
  have HN := Lib.hid (fun u => Next_any 3 1 5 2 u)
  rw [lw_next] at HN
  have HBg := Lib.hid (fun u => Begin_any lwB lwP0 u)
  have HH1 := Lib.hid (fun B s t u (h : LdO u B s t lwL0) => Hear_any (lwL0.agg s t) lwL0 lwP1 u h.read sm0 (fun _ => lw_r0))
  have HH2 := Lib.hid (fun B s t u (h : LdO u B s t lwL1) => Hear_any (lwL1.agg s t) lwL1 lwP2 u h.read sm1 (fun _ => lw_r1))
  have HPk := Lib.hid (fun B s t u (h : LdO u B s t lwL2) => Pick_any (lwL2.agg s t) lwL2 4 u h.read)
  have HEn := Lib.hid (fun B s t u (h : LdO u B s t lwL2) => Enough_any (lwL2.agg s t) lwL2 5 u h.read (by unfold I64; omega))
  have HM5 := Lib.hid (fun u => Most_any 5 (by unfold I64; omega) u)
  have HM4 := Lib.hid (fun u => Most_any 4 (by unfold I64; omega) u)
  rw [lw_most.1] at HM5
  rw [lw_most.2] at HM4
  rw [lw_h1] at HH1
  rw [lw_h2] at HH2
  simp only [lw_pick.1, lw_pick.2] at HPk
  simp only [lw_enough] at HEn
  unfold LdS at HBg HH1 HH2
  unfold LeadV.agg at HBg HH1 HH2 HPk HEn
  unfold beginE lwB lwP0 at HBg
  unfold lwL0 beginE lwB lwP0 lwP1 lwL1 at HH1
  unfold lwL1 lwP0 lwP1 lwP2 lwL2 at HH2
  unfold lwL2 lwP0 lwP1 lwP2 at HPk HEn
  unfold BalV.val prc at HBg
  unfold prc at HH1 HH2
  simp only [List.length_nil, List.length_cons] at HBg HH1 HH2 HPk HEn
  go_enter Try.func13, Try.ntmps13
  go_upto_region 2 with (go_at_call 27; refine (HN.out _).mono ?_; rintro e w1 ⟨rfl, hb⟩; have HB1 := Lib.hid hb; clear hb)
  have HB2 := Lib.hid (HB1.out.trans ((below_new w1 (.cells #[.int .i64 6, .int .i64 2] 23)).mono HB1.out.size))
  have HA2 := Lib.hid (alloc_at w1 (.cells #[.int .i64 6, .int .i64 2] 23))
  have HAl := Lib.hid HB1.out.size
  generalize w1.alloc _ = W2 at HB2 HA2 ⊢
  generalize w1.heap.size = A at HA2 HAl ⊢
  have HAc : Hid (∀ u, Below W2.heap.size W2 u → u.cell? ⟨A, 0, none⟩ = some (.int .i64 6) ∧ u.cell? ⟨A, 1, none⟩ = some (.int .i64 2)) := Lib.hid (fun u hu => by
    have h2 := (hu.block A (Array.getElem?_eq_some_iff.1 HA2.out).1).trans HA2.out
    refine ⟨?_, ?_⟩ <;> simp [World.cell?, h2])
  have hr2 := Below.refl W2.heap.size W2
  obtain ⟨a0, a1⟩ := HAc.out _ hr2
  clear hr2
  go_upto_region 3 with (go_at_call 30; refine (HBg.out _).mono ?_; rintro e w3 ⟨s3, t3, rfl, ho, hb⟩; obtain ⟨p3, k3, rfl⟩ := ho.1.slice; obtain ⟨q3, m3, rfl⟩ := ho.2.slice; have HO3 := Lib.hid ho; have HB3 := Lib.hid hb; clear ho hb a0 a1)
  have hb4 := below_new w3 (.cells #[.int .i64 1, .int .i64 6, .int .i64 2, .slice p3 1 k3, .bool false, .string { data := #[] }, .slice q3 0 m3] 27)
  have HX4 := Lib.hid (lbox_new w3 1 6 2 (.slice p3 1 k3) false { data := #[] } (.slice q3 0 m3))
  have HO4 := Lib.hid (HO3.out.keep hb4)
  have HB4 := Lib.hid (HB3.out.trans (hb4.mono HB3.out.size))
  have HNl := Lib.hid HB3.out.size
  clear hb4 HO3
  generalize w3.alloc _ = W4 at HX4 HO4 HB4 ⊢
  generalize w3.heap.size = N at HX4 HNl ⊢
  obtain ⟨c0, c1, c2, c3, c4, c5, c6⟩ := HX4.out.cells
  go_upto_region 4 with (first
    | (go_at_call 31; refine (HH1.out _ _ _ _ HO4.out).mono ?_; rintro e w5 ⟨s5, t5, rfl, ho, hb⟩; obtain ⟨p5, k5, rfl⟩ := ho.1.slice; obtain ⟨q5, m5, rfl⟩ := ho.2.slice; have HO5 := Lib.hid (ho.mono (show N + 1 ≤ _ from HX4.out.lt)); have HB5 := Lib.hid (HB4.out.trans (hb.mono HB4.out.size)); have HX5 := Lib.hid (HX4.out.keep hb); clear ho hb c0 c1 c2 c3 c4 c5 c6)
    | (refine wpList_store_mid rfl 27 _ _ rfl N 0 #[.int .i64 1, .int .i64 6, .int .i64 2, .slice p5 2 k5, .bool false, .string { data := #[] }, .slice q5 0 m5] rfl rfl HX5.out.there sizeLead (lead_one _ _ _ _ _ _ _ _ _ _ _) ?_))
  have HX6 := Lib.hid (HX5.out.put 1 6 2 (.slice p5 2 k5) false { data := #[] } (.slice q5 0 m5))
  have HO6 := Lib.hid (HO5.out.farC (N := N) (by omega) [.int .i64 1, .int .i64 6, .int .i64 2, .slice p5 2 k5, .bool false, .string { data := #[] }, .slice q5 0 m5] 0)
  have HB6 := Lib.hid (Below.setCells HB5.out (b := N) HNl.out 0 [.int .i64 1, .int .i64 6, .int .i64 2, .slice p5 2 k5, .bool false, .string { data := #[] }, .slice q5 0 m5])
  clear HX5 HO5 HB5
  generalize w5.setCells N 0 _ = W6 at HX6 HO6 HB6 ⊢
  obtain ⟨c0, c1, c2, c3, c4, c5, c6⟩ := HX6.out.cells
  go_upto_region 5 with (first
    | (go_at_call 31; refine (HH2.out _ _ _ _ HO6.out).mono ?_; rintro e w7 ⟨s7, t7, rfl, ho, hb⟩; obtain ⟨p7, k7, rfl⟩ := ho.1.slice; obtain ⟨q7, m7, rfl⟩ := ho.2.slice; have HO7 := Lib.hid (ho.mono (show N + 1 ≤ _ from HX6.out.lt)); have HB7 := Lib.hid (HB6.out.trans (hb.mono HB6.out.size)); have HX7 := Lib.hid (HX6.out.keep hb); clear ho hb c0 c1 c2 c3 c4 c5 c6)
    | (refine wpList_store_mid rfl 27 _ _ rfl N 0 #[.int .i64 1, .int .i64 6, .int .i64 2, .slice p7 3 k7, .bool false, .string { data := #[] }, .slice q7 0 m7] rfl rfl HX7.out.there sizeLead (lead_one _ _ _ _ _ _ _ _ _ _ _) ?_))
  have HX8 := Lib.hid (HX7.out.put 1 6 2 (.slice p7 3 k7) false { data := #[] } (.slice q7 0 m7))
  have HO8 := Lib.hid (HO7.out.farC (N := N) (by omega) [.int .i64 1, .int .i64 6, .int .i64 2, .slice p7 3 k7, .bool false, .string { data := #[] }, .slice q7 0 m7] 0)
  have HB8 := Lib.hid (Below.setCells HB7.out (b := N) HNl.out 0 [.int .i64 1, .int .i64 6, .int .i64 2, .slice p7 3 k7, .bool false, .string { data := #[] }, .slice q7 0 m7])
  clear HX7 HO7 HB7
  generalize w7.setCells N 0 _ = W8 at HX8 HO8 HB8 ⊢
  obtain ⟨c0, c1, c2, c3, c4, c5, c6⟩ := HX8.out.cells
  go_upto_region 6 with (go_at_call 33; refine (HPk.out _ _ _ _ HO8.out).mono ?_; rintro e w9 ⟨rfl, hb⟩; have HO9 := Lib.hid (HO8.out.keep hb); have HB9 := Lib.hid (HB8.out.trans (hb.mono HB8.out.size)); have HX9 := Lib.hid (HX8.out.keep hb); clear hb c0 c1 c2 c3 c4 c5 c6)
  obtain ⟨c0, c1, c2, c3, c4, c5, c6⟩ := HX9.out.cells
  obtain ⟨a0, a1⟩ := HAc.out _ HB9.out
  go_wp2_with (first
    | (go_at_call 26; refine (HM5.out _).mono ?_; rintro e wx ⟨rfl, rfl⟩)
    | (go_at_call 26; refine (HM4.out _).mono ?_; rintro e wx ⟨rfl, rfl⟩)
    | (go_at_call 32; refine (HEn.out _ _ _ _ HO9.out).mono ?_; rintro e wy ⟨rfl, hb⟩; have HB10 := Lib.hid (HB9.out.trans (hb.mono HB9.out.size)); clear hb))
  go_ret
  exact ⟨rfl, HB2.out.trans (HB10.out.mono HB2.out.size)⟩
end Go.Proofs.Ytcofmfjhgbihkaa.crush
