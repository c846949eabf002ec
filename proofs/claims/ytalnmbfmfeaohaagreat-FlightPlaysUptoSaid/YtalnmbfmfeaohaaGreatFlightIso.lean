/- Isolate: all ways between two sets of nodes are cut. -/
import Derived.Test.YtalnmbfmfeaohaaGreatRows
import Derived.Test.YtalnmbfmfeaohaaGreatFlightOnce
import Derived.Test.YtalnmbfmfeaohaaGreatFlightSev
namespace Go.Proofs.YtalnmbfmfeaohaaGreat.flight
open Go.RowKit
open Go.Proofs.YtalnmbfmfeaohaaGreat.kit Go.Proofs.YtalnmbfmfeaohaaGreat.own
set_option linter.unusedVariables false

/-- The ways between two sets. -/
def betweenL (a b : List Int) : List Wy := thereL (onceL a) (onceL b) ++ thereL (onceL b) (onceL a)
theorem thereL_mem (a b : List Int) (y : Wy) : y ∈ thereL a b ↔ y.1 ∈ a ∧ y.2 ∈ b ∧ y.1 ≠ y.2 := by
  unfold thereL from1
  simp only [List.mem_flatMap, List.mem_map, List.mem_filter, Bool.not_eq_true', beq_eq_false_iff_ne]
  constructor
  · rintro ⟨p, hp, q, ⟨hq, hne⟩, rfl⟩
    exact ⟨hp, hq, hne⟩
  · rintro ⟨h1, h2, h3⟩
    exact ⟨y.1, h1, y.2, ⟨h2, h3⟩, rfl⟩
theorem betweenL_mem (a b : List Int) (y : Wy) : y ∈ betweenL a b ↔ y.1 ≠ y.2 ∧ (y.1 ∈ a ∧ y.2 ∈ b ∨ y.1 ∈ b ∧ y.2 ∈ a) := by
  unfold betweenL
  rw [List.mem_append, thereL_mem, thereL_mem, onceL_mem, onceL_mem, onceL_mem, onceL_mem]
  constructor
  · rintro (⟨h1, h2, h3⟩ | ⟨h1, h2, h3⟩)
    · exact ⟨h3, .inl ⟨h1, h2⟩⟩
    · exact ⟨h3, .inr ⟨h1, h2⟩⟩
  · rintro ⟨h3, (⟨h1, h2⟩ | ⟨h1, h2⟩)⟩
    · exact .inl ⟨h1, h2, h3⟩
    · exact .inr ⟨h1, h2, h3⟩
theorem once_prod (a b : List Int) : (onceL a).length * (onceL b).length ≤ a.length * b.length := Nat.mul_le_mul (onceL_len a) (onceL_len b)
theorem betweenL_len (a b : List Int) : (betweenL a b).length ≤ 2 * (a.length * b.length) := by
  unfold betweenL
  rw [List.length_append]
  have h1 := thereL_len (onceL a) (onceL b)
  have h2 := thereL_len (onceL b) (onceL a)
  have h3 := once_prod a b
  rw [Nat.mul_comm (onceL b).length] at h2
  omega
/-- What Isolate comes to. -/
def isoE (f : Flt) (a b : List Int) : Flt := ⟨f.next, f.list.filter (fun x => !inWays (betweenL a b) x), setW (f.cut ++ betweenL a b)⟩

set_option maxHeartbeats 16000000 in
set_option maxRecDepth 100000 in
theorem Isolate_any (v va vb : Value) (f : Flt) (a b : List Int) (w : World) (h : FlR w v f) (hf : f.Fits) (ha : Sl ic 1 w va a) (hb' : Sl ic 1 w vb b) (hoa : ∀ z ∈ a, I64 z) (hob : ∀ z ∈ b, I64 z)
    (hla : a.length * 8 ≤ 140737488355328) (hlb : b.length * 8 ≤ 140737488355328) (hl : (f.cut.length + 2 * (a.length * b.length)) * 16 ≤ 140737488355328) :
    Calls Tryz.prog 26 #[v, va, vb] w (TwoS w (isoE f a b) ((f.list.length : Int) - ((isoE f a b).list.length : Nat))) := by
  obtain ⟨vl, vc, rfl, hll, hc⟩ := id h
  have hb1 := below_new w (.cells #[.int .i64 f.next, vl, vc] 25)
  have hb2 := below_new (w.alloc (.cells #[.int .i64 f.next, vl, vc] 25)) (.cells #[.int .i64 0, .slice none 0 0, .slice none 0 0] 25)
  have hx1 := (fbox_new w f.next vl vc).keep hb2
  have hx2 := fbox_new (w.alloc (.cells #[.int .i64 f.next, vl, vc] 25)) 0 (.slice none 0 0) (.slice none 0 0)
  rw [World.size_alloc] at hx2
  have hb := hb1.trans (hb2.mono (by simp))
  have HFl := Lib.hid (h.keep hb); have HSa := Lib.hid (ha.keep hb); have HSb := Lib.hid (hb'.keep hb)
  have HX1 := Lib.hid hx1; have HX2 := Lib.hid hx2; have HB := Lib.hid hb; have HFt := Lib.hid hf; have HLn := Lib.hid hl; have HLa := Lib.hid hla; have HLb := Lib.hid hlb
  have HOk : Hid (∀ y ∈ betweenL a b, Wy.Ok y) := Lib.hid (fun y hy => by
    obtain ⟨-, h2⟩ := (betweenL_mem a b y).1 hy
    rcases h2 with ⟨h3, h4⟩ | ⟨h3, h4⟩
    · exact ⟨hoa _ h3, hob _ h4⟩
    · exact ⟨hob _ h3, hoa _ h4⟩)
  have HPr := Lib.hid (once_prod a b)
  have HBl := Lib.hid (betweenL_len a b)
  obtain ⟨aa, ca, rfl⟩ := ha.slice
  obtain ⟨ab, cb, rfl⟩ := hb'.slice
  obtain ⟨n, l, c⟩ := f
  simp only at HX1 HX2 HB HFl HFt HLn ⊢
  clear hll hc hb1 hb2 hx1 hx2 hb h hf ha hb' hoa hob hla hlb hl
  obtain ⟨g, hg⟩ : ∃ g, isoE ⟨n, l, c⟩ a b = g := ⟨_, rfl⟩
  have HG := Lib.hid hg
  rw [hg]
  clear hg
  go_enter Tryz.func26, Tryz.ntmps26
  go_upto_region 1 with fail
  generalize (w.alloc (.cells #[.int .i64 n, _, _] 25)).alloc _ = W at HFl HSa HSb HX1 HX2 HB ⊢
  generalize hN2 : w.heap.size + 1 = N2 at HX2 ⊢
  obtain ⟨N, hN⟩ : ∃ N, w.heap.size = N := ⟨_, rfl⟩
  rw [hN] at HX1 ⊢
  have HN := Lib.hid (And.intro hN hN2)
  clear hN hN2
  go_wp2_with fail
  refine (once_any _ a _ HSa.out HLa.out).mono ?_
  rintro e w1 ⟨v1, rfl, ho1, hb1⟩
  obtain ⟨p1, q1, rfl⟩ := ho1.slice
  have HU := Lib.hid (ho1.read ic_len); have HSb1 := Lib.hid (HSb.out.keep hb1); have HB1 := Lib.hid hb1
  clear ho1 hb1
  go_wp2_with fail
  refine (once_any _ b _ HSb1.out HLb.out).mono ?_
  rintro e w2 ⟨v2, rfl, ho2, hb2⟩
  obtain ⟨p2, q2, rfl⟩ := ho2.slice
  have HU2 := Lib.hid (HU.out.keep hb2); have HV2 := Lib.hid (ho2.read ic_len)
  have hbW : Below W.heap.size W w2 := HB1.out.trans (hb2.mono HB1.out.size)
  have HFl2 := Lib.hid (HFl.out.keep hbW); have HX12 := Lib.hid (HX1.out.keep hbW); have HX22 := Lib.hid (HX2.out.keep hbW); have HB2 := Lib.hid (HB.out.trans (hbW.mono HB.out.size))
  clear ho2 hb2 hbW HX1 HX2 HFl HSa HSb HSb1 HU
  go_upto_region 2 with fail
  obtain ⟨U, hU⟩ : ∃ U, onceL a = U := ⟨_, rfl⟩
  obtain ⟨V, hV⟩ : ∃ V, onceL b = V := ⟨_, rfl⟩
  have HWs : Hid (betweenL a b = thereL U V ++ thereL V U) := Lib.hid (by unfold betweenL; rw [hU, hV])
  rw [hU] at HU2 HPr ⊢
  rw [hV] at HV2 HPr ⊢
  clear hU hV
  have hd : Below w2.heap.size w2 w2.drew := ⟨rfl, rfl, rfl, Nat.le_refl _, fun _ _ => rfl⟩
  have HD := Lib.hid hd
  clear hd
  have HSs : Hid (∀ u, Below w2.heap.size w2 u → u.cell? ⟨N, 0, none⟩ = some (.int .i64 n) ∧ u.cell? ⟨N, 1, none⟩ = some vl ∧ u.cell? ⟨N, 2, none⟩ = some vc) := Lib.hid (fun u hu => (HX12.out.keep hu).cells)
  have HNe2 := Lib.hid (show N ≠ N2 by have := HN.out; omega)
  go_region_held3 (fun u => u.cell? ⟨N, 0, none⟩ = some (.int .i64 n) ∧ u.cell? ⟨N, 1, none⟩ = some vl ∧ u.cell? ⟨N, 2, none⟩ = some vc)
    (first | exact HSs.out _ HD.out | exact HSs.out _ HB3.out | exact HSs.out _ HB4.out | exact HSs.out _ HB5.out | exact HSs.out _ HB6.out | exact HSs.out _ HB7.out | exact (HX17.out.other HNe2.out _ _ _).cells)
    (first
      | ((go_at_call 40; with_reducible refine (there_any _ _ U V w2.drew (HU2.out.keep HD.out) (HV2.out.keep HD.out) (by have := HPr.out; have := HLn.out; omega)).mono ?_); (rintro e w3 ⟨v3, rfl, ho3, hb3⟩; obtain ⟨x3, y3, rfl⟩ := ho3.slice; have HB3 := Lib.hid (HD.out.trans (hb3.mono HD.out.size)); have HO3 := Lib.hid ho3; clear ho3 hb3))
      | ((go_at_call 40; with_reducible refine (there_any _ _ V U w3 (HV2.out.keep HB3.out) (HU2.out.keep HB3.out) (by have := HPr.out; have := HLn.out; rw [Nat.mul_comm V.length]; omega)).mono ?_); (rintro e w4 ⟨v4, rfl, ho4, hb4⟩; obtain ⟨x4, y4, rfl⟩ := ho4.slice; have HB4 := Lib.hid (HB3.out.trans (hb4.mono HB3.out.size)); have HO34 := Lib.hid (HO3.out.below hb4); have HO4 := Lib.hid ho4; clear ho4 hb4; have HB5 := Lib.hid (HB4.out.alloc HB4.out.size (.cells #[.slice x3 (thereL U V).length y3, .slice x4 (thereL V U).length y4] 23)); have hn5 := below_new w4 (.cells #[.slice x3 (thereL U V).length y3, .slice x4 (thereL V U).length y4] 23); have HS3 := Lib.hid ((HO34.out.below hn5).read wc_len); have HS4 := Lib.hid ((HO4.out.below hn5).read wc_len); have HAl := Lib.hid (alloc_at w4 (.cells #[.slice x3 (thereL U V).length y3, .slice x4 (thereL V U).length y4] 23)); clear hn5))
      | ((go_at_call 48; refine (concatW_any w4.heap.size _ _ (thereL U V) (thereL V U) _ HS3.out HS4.out (by simp only [World.cell?, HAl.out]; rfl) (by simp only [World.cell?, HAl.out]; rfl) (by have h1 := HBl.out; rw [HWs.out, List.length_append] at h1; have := HLn.out; omega)).mono ?_); (rintro e w6 ⟨v6, rfl, ho6, hb6⟩; rw [← HWs.out] at ho6; obtain ⟨x6, y6, rfl⟩ := ho6.slice; have HB6 := Lib.hid (HB5.out.trans (hb6.mono HB5.out.size)); have HO6 := Lib.hid ho6; clear ho6 hb6))
      | ((go_at_call 39; refine (sever_any _ _ ⟨n, l, c⟩ (betweenL a b) w6 (HFl2.out.keep HB6.out) HFt.out (HO6.out.read wc_len) HOk.out (by have := HLn.out; have := HBl.out; simp only; omega)).mono ?_); (rintro e w7 ⟨vl7, vc7, he, ho7, ho8, hb7⟩; have he' : e = .returned (.tuple #[.agg #[.int .i64 (isoE ⟨n, l, c⟩ a b).next, vl7, vc7], .int .i64 ((l.length : Int) - ((isoE ⟨n, l, c⟩ a b).list.length : Nat))]) := he; have ho7 : Own fc 4 38 w7 w6.heap.size vl7 (isoE ⟨n, l, c⟩ a b).list := ho7; have ho8 : Own wc 2 40 w7 w6.heap.size vc7 (isoE ⟨n, l, c⟩ a b).cut := ho8; rw [HG.out] at he' ho7 ho8; subst he'; obtain ⟨x7, y7, rfl⟩ := ho7.slice; obtain ⟨x8, y8, rfl⟩ := ho8.slice; have HB7 := Lib.hid (HB6.out.trans (hb7.mono HB6.out.size)); have HX17 := Lib.hid (HX12.out.keep HB7.out); have HX27 := Lib.hid (HX22.out.keep HB7.out); have HO7 := Lib.hid ho7; have HO8 := Lib.hid ho8; clear ho7 ho8 hb7 he; obtain ⟨k1, k2, k3⟩ := HX27.out.cells; obtain ⟨f1, f2, f3⟩ := HX27.out.thaw)))
  all_goals
    have hlt : N2 < w6.heap.size := Nat.lt_of_lt_of_le HX22.out.lt HB6.out.size
    have hle : w.heap.size ≤ w6.heap.size := Nat.le_trans HB2.out.size HB6.out.size
    have hF := HX27.out.set g.next (.slice x7 g.list.length y7) (.slice x8 g.cut.length y8)
    have hO1 := (HO7.out.set3 hlt (.int .i64 g.next) (.slice x7 g.list.length y7) (.slice x8 g.cut.length y8)).mono hle
    have hO2 := (HO8.out.set3 hlt (.int .i64 g.next) (.slice x7 g.list.length y7) (.slice x8 g.cut.length y8)).mono hle
    have hB := below_set3 (HB2.out.trans (HB7.out.mono HB2.out.size)) (show w.heap.size ≤ N2 by have := HN.out; omega) (.int .i64 g.next) (.slice x7 g.list.length y7) (.slice x8 g.cut.length y8)
    have HF := Lib.hid hF; have HO1 := Lib.hid hO1; have HO2 := Lib.hid hO2; have HBf := Lib.hid hB
    clear hF hO1 hO2 hB k1 k2 k3 f1 f2 f3
    generalize (((w7.setCell ⟨N2, 0, none⟩ (.int .i64 g.next)).setCell ⟨N2, 1, none⟩ (.slice x7 g.list.length y7)).setCell ⟨N2, 2, none⟩ (.slice x8 g.cut.length y8)) = W9 at HF HO1 HO2 HBf ⊢
    go_wp2
    refine bodyPost_ret (retF2 rfl rfl HF.out) rfl ?_
    exact ⟨_, _, rfl, HO1.out, HO2.out, HBf.out⟩

end Go.Proofs.YtalnmbfmfeaohaaGreat.flight
