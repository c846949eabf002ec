/- The law's act: the same act on both sides. -/
import Derived.Test.YtalnmbfmfeaohaaGreatRows
import Derived.Test.YtalnmbfmfeaohaaGreatFlightRIso
import Derived.Test.YtalnmbfmfeaohaaGreatFlightIso
import Derived.Test.YtalnmbfmfeaohaaGreatFlightActs
import Derived.Test.YtalnmbfmfeaohaaGreatFlightApartM
import Derived.Test.YtalnmbfmfeaohaaGreatFlightRDbl
import Derived.Test.YtalnmbfmfeaohaaGreatFlightRLost
import Derived.Test.YtalnmbfmfeaohaaGreatFlightRJoin
namespace Go.Proofs.YtalnmbfmfeaohaaGreat.flight
open Go.RowKit
open Go.Proofs.YtalnmbfmfeaohaaGreat.kit Go.Proofs.YtalnmbfmfeaohaaGreat.own
set_option linter.unusedVariables false
set_option linter.unusedSimpArgs false

/-- A box of an act. -/
def AcBox (W : World) (R : Nat) (x : ActV) : Prop := W.heap[R]? = some (.cells #[.int .i64 x.kind, .int .i64 x.num, .int .i64 x.src, .int .i64 x.dst, .string x.body, .slice x.va x.vn x.vc, .slice x.ua x.un x.uc] 34 (0, 0))
theorem AcBox.keep {W W' : World} {R : Nat} {x : ActV} (h : AcBox W R x) (hb : Below W.heap.size W W') : AcBox W' R x := (hb.block R (Array.getElem?_eq_some_iff.1 h).1).trans h
theorem AcBox.cells {W : World} {R : Nat} {x : ActV} (h : AcBox W R x) : W.cell? ⟨R, 0, none⟩ = some (.int .i64 x.kind) ∧ W.cell? ⟨R, 1, none⟩ = some (.int .i64 x.num) ∧ W.cell? ⟨R, 2, none⟩ = some (.int .i64 x.src) ∧ W.cell? ⟨R, 3, none⟩ = some (.int .i64 x.dst) ∧ W.cell? ⟨R, 4, none⟩ = some (.string x.body) ∧ W.cell? ⟨R, 5, none⟩ = some (.slice x.va x.vn x.vc) ∧ W.cell? ⟨R, 6, none⟩ = some (.slice x.ua x.un x.uc) := by
  unfold AcBox at h
  refine ⟨?_, ?_, ?_, ?_, ?_, ?_, ?_⟩ <;> simp [World.cell?, h]
/-- Both sides come to the same flight. -/
def ActS (w : World) (B K : Nat) (e : Ending) (w' : World) : Prop := ∃ (f : Flt) (vl1 vc1 vl2 vc2 : Value), e = .returned (.tuple #[.agg #[.int .i64 f.next, vl1, vc1], .agg #[.int .i64 f.next, vl2, vc2], .bool true]) ∧
  Own fc 4 38 w' B vl1 f.list ∧ Own wc 2 40 w' B vc1 f.cut ∧ Own fc 4 38 w' B vl2 f.list ∧ Own wc 2 40 w' B vc2 f.cut ∧ Good f K ∧ Below w.heap.size w w'
theorem retAct {fn : Func} {t u x : Tmp} {tmps : Array Value} {w : World} {N M : Nat} {n m : Int} {vl vc ul uc : Value} (h : fn.results = #[.cell t 25, .cell u 25, .tmp x]) (ht : tmps.getD t undef = .pointer (some ⟨N, 0, none⟩)) (hu : tmps.getD u undef = .pointer (some ⟨M, 0, none⟩)) (hx : FBox w N n vl vc) (hy : FBox w M m ul uc) :
    (results fn tmps).run Tryz.prog w = .ok (.tuple #[.agg #[.int .i64 n, vl, vc], .agg #[.int .i64 m, ul, uc], tmps.getD x undef]) w := by
  have hr := run_loadVar_mid (P := Tryz.prog) w N 0 25 [.int .i64 n, vl, vc] _ hx.range Tryz.underlying25 rfl sizeFlt
  have hr2 := run_loadVar_mid (P := Tryz.prog) w M 0 25 [.int .i64 m, ul, uc] _ hy.range Tryz.underlying25 rfl sizeFlt
  have ht' : tmps[t]?.getD undef = .pointer (some ⟨N, 0, none⟩) := by simpa using ht
  have hu' : tmps[u]?.getD undef = .pointer (some ⟨M, 0, none⟩) := by simpa using hu
  simp [results, h, ht', hu', asAddr, hr, hr2, fval, fc]

theorem FBox.drew' {W : World} {N : Nat} {n : Int} {vl vc : Value} (h : FBox W N n vl vc) : FBox W.drew N n vl vc := h
/-- The five boxes at the call's head. -/
theorem head_any (w : World) (n : Int) (a b c d : Value) (x : ActV) (W : World) (hW : W = ((((w.alloc (.cells #[.int .i64 n, a, b] 25)).alloc (.cells #[.int .i64 n, c, d] 25)).alloc (.cells #[.int .i64 x.kind, .int .i64 x.num, .int .i64 x.src, .int .i64 x.dst, .string x.body, .slice x.va x.vn x.vc, .slice x.ua x.un x.uc] 34)).alloc (.cells #[.int .i64 0, .slice none 0 0, .slice none 0 0] 25)).alloc (.cells #[.int .i64 0, .slice none 0 0, .slice none 0 0] 25)) :
    Below w.heap.size w W ∧ FBox W w.heap.size n a b ∧ FBox W (w.heap.size + 1) n c d ∧ AcBox W (w.heap.size + 2) x ∧ FBox W (w.heap.size + 3) 0 (.slice none 0 0) (.slice none 0 0) ∧ FBox W (w.heap.size + 4) 0 (.slice none 0 0) (.slice none 0 0) := by
  subst hW
  have b0 := below_new w (.cells #[.int .i64 n, a, b] 25)
  generalize hw1 : w.alloc (.cells #[.int .i64 n, a, b] 25) = w1 at b0 ⊢
  have x1 : FBox w1 w.heap.size n a b := hw1 ▸ fbox_new w n a b
  have s1 : w1.heap.size = w.heap.size + 1 := by rw [← hw1]; simp
  have b1 := below_new w1 (.cells #[.int .i64 n, c, d] 25)
  generalize hw2 : w1.alloc (.cells #[.int .i64 n, c, d] 25) = w2 at b1 ⊢
  have x2 : FBox w2 (w.heap.size + 1) n c d := s1 ▸ hw2 ▸ fbox_new w1 n c d
  have s2 : w2.heap.size = w.heap.size + 2 := by rw [← hw2]; simp [s1]
  have b2 := below_new w2 (.cells #[.int .i64 x.kind, .int .i64 x.num, .int .i64 x.src, .int .i64 x.dst, .string x.body, .slice x.va x.vn x.vc, .slice x.ua x.un x.uc] 34)
  generalize hw3 : w2.alloc (.cells #[.int .i64 x.kind, .int .i64 x.num, .int .i64 x.src, .int .i64 x.dst, .string x.body, .slice x.va x.vn x.vc, .slice x.ua x.un x.uc] 34) = w3 at b2 ⊢
  have x3 : AcBox w3 (w.heap.size + 2) x := s2 ▸ hw3 ▸ alloc_at w2 _
  have s3 : w3.heap.size = w.heap.size + 3 := by rw [← hw3]; simp [s2]
  have b3 := below_new w3 (.cells #[.int .i64 0, .slice none 0 0, .slice none 0 0] 25)
  generalize hw4 : w3.alloc (.cells #[.int .i64 0, .slice none 0 0, .slice none 0 0] 25) = w4 at b3 ⊢
  have x4 : FBox w4 (w.heap.size + 3) 0 (.slice none 0 0) (.slice none 0 0) := s3 ▸ hw4 ▸ fbox_new w3 0 _ _
  have s4 : w4.heap.size = w.heap.size + 4 := by rw [← hw4]; simp [s3]
  have b4 := below_new w4 (.cells #[.int .i64 0, .slice none 0 0, .slice none 0 0] 25)
  have x5 : FBox (w4.alloc (.cells #[.int .i64 0, .slice none 0 0, .slice none 0 0] 25)) (w.heap.size + 4) 0 (.slice none 0 0) (.slice none 0 0) := s4 ▸ fbox_new w4 0 _ _
  have c3 := b3.trans (b4.mono b3.size)
  have c2 := b2.trans (c3.mono b2.size)
  have c1 := b1.trans (c2.mono b1.size)
  exact ⟨b0.trans (c1.mono b0.size), x1.keep c1, x2.keep c2, x3.keep c3, x4.keep b4, x5⟩

theorem good_dbl {f : Flt} {k : Nat} (h : Good f k) (n : Int) : Good (dblE f n).1 k := by
  unfold dblE
  cases hf : f.list.find? (fun x => x.num == n) with
  | none => exact h
  | some x => exact (good_put h x.src x.dst x.body ⟨(h.ok x (List.mem_of_find?_eq_some hf)).2.1, (h.ok x (List.mem_of_find?_eq_some hf)).2.2⟩).1
theorem rcell4 {W : World} {N : Nat} {y : Frm} (h : W.heap[N]? = some (.cells #[.int .i64 y.num, .int .i64 y.src, .int .i64 y.dst, .string y.body] 38 (0, 0))) : W.cell? ⟨N, 0, none⟩ = some (.int .i64 y.num) ∧ W.cell? ⟨N, 1, none⟩ = some (.int .i64 y.src) ∧ W.cell? ⟨N, 2, none⟩ = some (.int .i64 y.dst) ∧ W.cell? ⟨N, 3, none⟩ = some (.string y.body) := by
  refine ⟨?_, ?_, ?_, ?_⟩ <;> simp [World.cell?, h]
theorem frm_drew {W : World} {M : Nat} {o : Obj} (h : W.heap[M]? = some o) : W.drew.heap[M]? = some o := h
theorem frm_other {W : World} {N M : Nat} {o : Obj} (hne : ¬ M = N) (a b c : Value) (h : W.heap[M]? = some o) : (((W.setCell ⟨N, 0, none⟩ a).setCell ⟨N, 1, none⟩ b).setCell ⟨N, 2, none⟩ c).heap[M]? = some o := by
  rw [heap_setCell_other _ _ _ _ hne, heap_setCell_other _ _ _ _ hne, heap_setCell_other _ _ _ _ hne]
  exact h

theorem ownB {B : Nat} {W : World} {v : Value} {xs : List Frm} {N : Nat} {n : Int} {vl vc : Value} (h : Own fc 4 38 W B v xs) (hx : FBox W N n vl vc) (a b c : Value) : Own fc 4 38 (((W.setCell ⟨N, 0, none⟩ a).setCell ⟨N, 1, none⟩ b).setCell ⟨N, 2, none⟩ c) B v xs := by
  have hne := h.neBox hx (by decide)
  exact ((h.setOther hne 0 a).setOther hne 1 b).setOther hne 2 c
theorem ownC {B : Nat} {W : World} {v : Value} {xs : List Wy} {N : Nat} {n : Int} {vl vc : Value} (h : Own wc 2 40 W B v xs) (hx : FBox W N n vl vc) (a b c : Value) : Own wc 2 40 (((W.setCell ⟨N, 0, none⟩ a).setCell ⟨N, 1, none⟩ b).setCell ⟨N, 2, none⟩ c) B v xs := by
  have hne := h.neBox hx (by decide)
  exact ((h.setOther hne 0 a).setOther hne 1 b).setOther hne 2 c

set_option maxHeartbeats 16000000 in
set_option maxRecDepth 100000 in
theorem act_put (vl1 vc1 vl2 vc2 : Value) (f : Flt) (B K : Nat) (x : ActV) (w : World) (h1 : Own fc 4 38 w B vl1 f.list) (h2 : Own wc 2 40 w B vc1 f.cut) (h3 : Own fc 4 38 w B vl2 f.list) (h4 : Own wc 2 40 w B vc2 f.cut) (hG : Good f K) (hok : x.Ok) (hk : x.kind = 1) (hK : (K + 2) * 16 ≤ 140737488355328) (hB : B ≤ w.heap.size) :
    Calls Tryz.prog 7 #[.agg #[.int .i64 f.next, vl1, vc1], .agg #[.int .i64 f.next, vl2, vc2], .agg #[.int .i64 x.kind, .int .i64 x.num, .int .i64 x.src, .int .i64 x.dst, .string x.body, .slice x.va x.vn x.vc, .slice x.ua x.un x.uc]] w (ActS w B (K)) := by
  obtain ⟨p1, q1, rfl⟩ := h1.slice
  obtain ⟨p2, q2, rfl⟩ := h2.slice
  obtain ⟨p3, q3, rfl⟩ := h3.slice
  obtain ⟨p4, q4, rfl⟩ := h4.slice
  have HO1 := Lib.hid h1; have HO2 := Lib.hid h2; have HO3 := Lib.hid h3; have HO4 := Lib.hid h4; have HG := Lib.hid hG; have HOk := Lib.hid hok; have HK := Lib.hid hK; have HBl := Lib.hid hB
  have HF1 := Lib.hid (show FlR w (.agg #[.int .i64 f.next, .slice p1 f.list.length q1, .slice p2 f.cut.length q2]) f from ⟨_, _, rfl, h1.read fc_len, h2.read wc_len⟩)
  have HF2 := Lib.hid (show FlR w (.agg #[.int .i64 f.next, .slice p3 f.list.length q3, .slice p4 f.cut.length q4]) f from ⟨_, _, rfl, h3.read fc_len, h4.read wc_len⟩)
  obtain ⟨kd, nm, sr, ds, bo, va, vn, vcp, ua, un, ucp⟩ := x
  simp only at hk
  subst hk
  obtain ⟨W, hW⟩ : ∃ W, W = ((((w.alloc (.cells #[.int .i64 f.next, .slice p1 f.list.length q1, .slice p2 f.cut.length q2] 25)).alloc (.cells #[.int .i64 f.next, .slice p3 f.list.length q3, .slice p4 f.cut.length q4] 25)).alloc (.cells #[.int .i64 1, .int .i64 nm, .int .i64 sr, .int .i64 ds, .string bo, .slice va vn vcp, .slice ua un ucp] 34)).alloc (.cells #[.int .i64 0, .slice none 0 0, .slice none 0 0] 25)).alloc (.cells #[.int .i64 0, .slice none 0 0, .slice none 0 0] 25) := ⟨_, rfl⟩
  have HS := Lib.hid (head_any w f.next (.slice p1 f.list.length q1) (.slice p2 f.cut.length q2) (.slice p3 f.list.length q3) (.slice p4 f.cut.length q4) ⟨1, nm, sr, ds, bo, va, vn, vcp, ua, un, ucp⟩ W hW)
  clear h1 h2 h3 h4 hG hok hK hB
  go_enter Tryz.func7, Tryz.ntmps7
  go_upto_region 1 with fail
  rw [← hW]
  obtain ⟨hb, hx1, hx2, hxa, hx6, hx7⟩ := HS.out
  have HB := Lib.hid hb; have HX1 := Lib.hid hx1; have HX2 := Lib.hid hx2; have HXa := Lib.hid hxa; have HX6 := Lib.hid hx6; have HX7 := Lib.hid hx7
  clear hb hx1 hx2 hxa hx6 hx7 HS hW
  obtain ⟨N, hN⟩ : ∃ N, w.heap.size = N := ⟨_, rfl⟩
  have HN := Lib.hid hN
  rw [hN] at HX1 HX2 HXa HX6 HX7 ⊢
  clear hN
  have HF1 := Lib.hid (HF1.out.keep HB.out); have HF2 := Lib.hid (HF2.out.keep HB.out)
  obtain ⟨b0, b1, b2, b3, b4, b5, b6⟩ := HXa.out.cells
  simp only at b0 b1 b2 b3 b4 b5 b6
  obtain ⟨e1, e2, e3⟩ := HX1.out.cells
  obtain ⟨⟨g, q, r⟩, hr⟩ : ∃ r, putE f sr ds bo = r := ⟨_, rfl⟩
  have HR := Lib.hid hr
  have HGr := Lib.hid (show Good g (K) from by have := (good_put HG.out sr ds bo HOk.out.1).1; rw [hr] at this; exact this)
  clear hr
  have hl1 : Hid ((f.list.length + 1) * 40 ≤ 140737488355328) := Lib.hid (by have := HG.out.len; omega)
  have hl2 : Hid ((f.cut.length + 1) * 16 ≤ 140737488355328) := Lib.hid (by have := HG.out.cl; have := HK.out; omega)
  have HFt := Lib.hid (HG.out.fits (by have := HK.out; omega))
  go_wp2_with fail
  refine (Put_any _ f sr ds bo _ HF1.out HG.out.way HOk.out.1 (by have := hl1.out; omega) (by have := hl2.out; omega) HG.out.i64).mono ?_
  rintro e w1 h1
  rw [HR.out] at h1
  obtain ⟨ul, uc, rfl, ho1, ho2, hb⟩ := h1
  simp only at ho1 ho2 ⊢
  obtain ⟨a1, c1, rfl⟩ := ho1.slice
  obtain ⟨a2, c2, rfl⟩ := ho2.slice
  have hn := below_new w1 (.cells #[.int .i64 g.next, .slice a1 g.list.length c1, .slice a2 g.cut.length c2] 25)
  have HY1 := Lib.hid (fbox_new w1 g.next (.slice a1 g.list.length c1) (.slice a2 g.cut.length c2))
  have hbb := hb.trans (hn.mono hb.size)
  have HP1 := Lib.hid (ho1.below hn); have HP2 := Lib.hid (ho2.below hn); have HB1 := Lib.hid hbb
  have hsz1 := hb.size
  clear ho1 ho2 hb hn hbb e1 e2 e3 b0 b1 b2 b3 b4 b5 b6
  go_upto_region 4 with fail
  generalize (w1.alloc (.cells #[.int .i64 g.next, .slice a1 g.list.length c1, .slice a2 g.cut.length c2] 25)) = W1 at HY1 HP1 HP2 HB1 ⊢
  have hq9 : N + 5 ≤ w1.heap.size := by have := HX7.out.lt; have := hsz1; omega
  generalize w1.heap.size = N9 at HY1 hq9 ⊢
  obtain ⟨b0, b1, b2, b3, b4, b5, b6⟩ := (HXa.out.keep HB1.out).cells
  simp only at b0 b1 b2 b3 b4 b5 b6
  obtain ⟨e1, e2, e3⟩ := (HX2.out.keep HB1.out).cells
  go_wp2_with fail
  refine (rPut_any _ f sr ds bo _ (HF2.out.keep HB1.out) hl1.out (by have := hl2.out; omega) HG.out.i64).mono ?_
  rintro e w2 h1
  rw [HR.out] at h1
  obtain ⟨ul, uc, rfl, ho1, ho2, hb⟩ := h1
  simp only at ho1 ho2 ⊢
  obtain ⟨a3, c3, rfl⟩ := ho1.slice
  obtain ⟨a4, c4, rfl⟩ := ho2.slice
  have hn := below_new w2 (.cells #[.int .i64 g.next, .slice a3 g.list.length c3, .slice a4 g.cut.length c4] 25)
  have HY2 := Lib.hid (fbox_new w2 g.next (.slice a3 g.list.length c3) (.slice a4 g.cut.length c4))
  have hbb := hb.trans (hn.mono hb.size)
  have HY1 := Lib.hid (HY1.out.keep hbb)
  have HP1 := Lib.hid (HP1.out.below hbb); have HP2 := Lib.hid (HP2.out.below hbb); have HP3 := Lib.hid (ho1.below hn); have HP4 := Lib.hid (ho2.below hn)
  have HB2 := Lib.hid (HB1.out.trans (hbb.mono HB1.out.size))
  have hsz2 := hb.size
  have hsz3 := HB1.out.size
  have hsz4 := HX7.out.lt
  clear ho1 ho2 hb hn hbb e1 e2 e3 b0 b1 b2 b3 b4 b5 b6
  go_upto_region 5 with fail
  generalize (w2.alloc (.cells #[.int .i64 g.next, .slice a3 g.list.length c3, .slice a4 g.cut.length c4] 25)) = W2 at HY1 HY2 HP1 HP2 HP3 HP4 HB2 ⊢
  have hq12 : N + 5 ≤ w2.heap.size := by omega
  generalize w2.heap.size = N12 at HY2 hq12 ⊢
  have HNe : Hid (N9 ≠ N + 1 + 1 + 1 ∧ N9 ≠ N + 1 + 1 + 1 + 1 ∧ N12 ≠ N + 1 + 1 + 1 ∧ N12 ≠ N + 1 + 1 + 1 + 1 ∧ N9 + 1 ≠ N + 1 + 1 + 1 ∧ N9 + 1 ≠ N + 1 + 1 + 1 + 1 ∧ N12 + 1 ≠ N + 1 + 1 + 1 ∧ N12 + 1 ≠ N + 1 + 1 + 1 + 1) := Lib.hid (by omega)
  clear hq9 hq12 hsz1 hsz2 hsz3 hsz4
  have HX62 := Lib.hid (HX6.out.keep HB2.out); have HX72 := Lib.hid (HX7.out.keep HB2.out)
  obtain ⟨e1, e2, e3⟩ := HY1.out.cells
  obtain ⟨k1, k2, k3⟩ := HY2.out.cells
  obtain ⟨s1, s2, s3⟩ := HX62.out.cells
  obtain ⟨t1, t2, t3⟩ := HX62.out.thaw
  obtain ⟨s4, s5, s6⟩ := HX72.out.cells
  obtain ⟨t4, t5, t6⟩ := HX72.out.thaw
  have hn6 : N9 ≠ N + 1 + 1 + 1 := HNe.out.1
  have hn7 : N9 ≠ N + 1 + 1 + 1 + 1 := HNe.out.2.1
  have hm6 : N12 ≠ N + 1 + 1 + 1 := HNe.out.2.2.1
  have hm7 : N12 ≠ N + 1 + 1 + 1 + 1 := HNe.out.2.2.2.1
  have h67 : N + 1 + 1 + 1 ≠ N + 1 + 1 + 1 + 1 := by omega
  have h76 : N + 1 + 1 + 1 + 1 ≠ N + 1 + 1 + 1 := by omega
  have HSs : Hid (∀ u : World, FBox u N9 g.next (.slice a1 g.list.length c1) (.slice a2 g.cut.length c2) → FBox u N12 g.next (.slice a3 g.list.length c3) (.slice a4 g.cut.length c4) → ((u.cell? ⟨N9, 0, none⟩ = some (.int .i64 g.next) ∧ u.cell? ⟨N9, 1, none⟩ = some (.slice a1 g.list.length c1) ∧ u.cell? ⟨N9, 2, none⟩ = some (.slice a2 g.cut.length c2)) ∧ (u.cell? ⟨N12, 0, none⟩ = some (.int .i64 g.next) ∧ u.cell? ⟨N12, 1, none⟩ = some (.slice a3 g.list.length c3) ∧ u.cell? ⟨N12, 2, none⟩ = some (.slice a4 g.cut.length c4)))) := Lib.hid (fun u x1 x2 => ⟨x1.cells, x2.cells⟩)
  refine wp_region_held_drew (S := fun u => (u.cell? ⟨N9, 0, none⟩ = some (.int .i64 g.next) ∧ u.cell? ⟨N9, 1, none⟩ = some (.slice a1 g.list.length c1) ∧ u.cell? ⟨N9, 2, none⟩ = some (.slice a2 g.cut.length c2)) ∧ (u.cell? ⟨N12, 0, none⟩ = some (.int .i64 g.next) ∧ u.cell? ⟨N12, 1, none⟩ = some (.slice a3 g.list.length c3) ∧ u.cell? ⟨N12, 2, none⟩ = some (.slice a4 g.cut.length c4))) (by kernel_rfl) (HSs.out _ HY1.out HY2.out) (fun hHeld => ?_)
  refine wpAnyH_take (i := 0) (oi := { dst := some 71, op := Op.load 25 (Operand.tmp 9), type := 25, pos := "law.go:50", after := #[], guard := none }) (v := ?_) rfl (by kernel_rfl) (by kernel_rfl) (by kernel_rfl) (fun _ _ _ h => h) (Or.inl ⟨by rfl, ?_⟩) hHeld ?_
  rotate_left 1
  · intro W hSw
    (try dsimp only at hSw)
    go_simp
    try with_reducible rfl
  try simp only [Act.put, List.setIfInBounds_toArray, List.set_cons_zero, List.set_cons_succ]
  refine wpAnyH_take (i := 1) (oi := { dst := some 72, op := Op.load 25 (Operand.tmp 12), type := 25, pos := "law.go:50", after := #[{ on := 10, ground := Ground.gcOnly Departure.lateStores }], guard := none }) (v := ?_) rfl (by kernel_rfl) (by kernel_rfl) (by kernel_rfl) (fun _ _ _ h => h) (Or.inl ⟨by rfl, ?_⟩) hHeld ?_
  rotate_left 1
  · intro W hSw
    (try dsimp only at hSw)
    go_simp
    try with_reducible rfl
  try simp only [Act.put, List.setIfInBounds_toArray, List.set_cons_zero, List.set_cons_succ]
  refine wpAnyH_take (i := 2) (oi := { dst := some 73, op := Op.move (Operand.tmp 10), type := 2, pos := "law.go:50", after := #[], guard := none }) (v := ?_) rfl (by kernel_rfl) (by kernel_rfl) (by kernel_rfl) (fun _ _ _ h => h) (Or.inl ⟨by rfl, ?_⟩) hHeld ?_
  rotate_left 1
  · intro W hSw
    (try dsimp only at hSw)
    go_simp
    try with_reducible rfl
  try simp only [Act.put, List.setIfInBounds_toArray, List.set_cons_zero, List.set_cons_succ]
  refine wpAnyH_take (i := 3) (oi := { dst := some 74, op := Op.move (Operand.tmp 13), type := 2, pos := "law.go:50", after := #[], guard := none }) (v := ?_) rfl (by kernel_rfl) (by kernel_rfl) (by kernel_rfl) (fun _ _ _ h => h) (Or.inl ⟨by rfl, ?_⟩) hHeld ?_
  rotate_left 1
  · intro W hSw
    (try dsimp only at hSw)
    go_simp
    try with_reducible rfl
  try simp only [Act.put, List.setIfInBounds_toArray, List.set_cons_zero, List.set_cons_succ]
  refine wpAnyH_take (i := 4) (oi := { dst := some 75, op := Op.binOp BinOp.eql 2 (Operand.tmp 73) (Operand.tmp 74) 2, type := 4, pos := "law.go:50", after := #[{ on := 2, ground := Ground.data }, { on := 3, ground := Ground.data }], guard := none }) (v := ?_) rfl (by kernel_rfl) (by kernel_rfl) (by kernel_rfl) (fun _ _ _ h => h) (Or.inl ⟨by rfl, ?_⟩) hHeld ?_
  rotate_left 1
  · intro W hSw
    (try dsimp only at hSw)
    go_simp
    try with_reducible rfl
  try simp only [Act.put, List.setIfInBounds_toArray, List.set_cons_zero, List.set_cons_succ]
  refine wpAnyH_take (i := 5) (oi := { dst := some 76, op := Op.move (Operand.tmp 75), type := 4, pos := "law.go:50", after := #[{ on := 4, ground := Ground.data }], guard := none }) (v := ?_) rfl (by kernel_rfl) (by kernel_rfl) (by kernel_rfl) (fun _ _ _ h => h) (Or.inl ⟨by rfl, ?_⟩) hHeld ?_
  rotate_left 1
  · intro W hSw
    (try dsimp only at hSw)
    go_simp
    try with_reducible rfl
  try simp only [Act.put, List.setIfInBounds_toArray, List.set_cons_zero, List.set_cons_succ]
  refine wpAnyH_take (i := 6) (oi := { dst := some 77, op := Op.move (Operand.tmp 11), type := 42, pos := "law.go:50", after := #[{ on := 5, ground := Ground.guard }, { on := 11, ground := Ground.gcOnly Departure.lateStores }], guard := some (5, true) }) (v := ?_) rfl (by kernel_rfl) (by kernel_rfl) (by kernel_rfl) (fun _ _ _ h => h) (Or.inl ⟨by rfl, ?_⟩) hHeld ?_
  rotate_left 1
  · intro W hSw
    (try dsimp only at hSw)
    go_simp
    try with_reducible rfl
  try simp only [Act.put, List.setIfInBounds_toArray, List.set_cons_zero, List.set_cons_succ]
  refine wpAnyH_take (i := 7) (oi := { dst := some 78, op := Op.move (Operand.tmp 14), type := 3, pos := "law.go:50", after := #[{ on := 5, ground := Ground.guard }, { on := 11, ground := Ground.gcOnly Departure.lateStores }], guard := some (5, true) }) (v := ?_) rfl (by kernel_rfl) (by kernel_rfl) (by kernel_rfl) (fun _ _ _ h => h) (Or.inl ⟨by rfl, ?_⟩) hHeld ?_
  rotate_left 1
  · intro W hSw
    (try dsimp only at hSw)
    go_simp
    try with_reducible rfl
  try simp only [Act.put, List.setIfInBounds_toArray, List.set_cons_zero, List.set_cons_succ]
  refine wpAnyH_take (i := 8) (oi := { dst := some 79, op := Op.binOp BinOp.eql 3 (Operand.tmp 77) (Operand.tmp 78) 3, type := 4, pos := "law.go:50", after := #[{ on := 6, ground := Ground.data }, { on := 7, ground := Ground.data }, { on := 5, ground := Ground.guard }, { on := 11, ground := Ground.gcOnly Departure.lateStores }], guard := some (5, true) }) (v := ?_) rfl (by kernel_rfl) (by kernel_rfl) (by kernel_rfl) (fun _ _ _ h => h) (Or.inl ⟨by rfl, ?_⟩) hHeld ?_
  rotate_left 1
  · intro W hSw
    (try dsimp only at hSw)
    go_simp
    try with_reducible rfl
  try simp only [Act.put, List.setIfInBounds_toArray, List.set_cons_zero, List.set_cons_succ]
  refine wpAnyH_take (i := 9) (oi := { dst := some 80, op := Op.pick (Operand.tmp 76) (Operand.tmp 79) (Operand.const (Value.bool false)), type := 4, pos := "law.go:50", after := #[{ on := 5, ground := Ground.data }, { on := 8, ground := Ground.data }, { on := 11, ground := Ground.gcOnly Departure.lateStores }], guard := none }) (v := ?_) rfl (by kernel_rfl) (by kernel_rfl) (by kernel_rfl) (fun _ _ _ h => h) (Or.inl ⟨by rfl, ?_⟩) hHeld ?_
  rotate_left 1
  · intro W hSw
    (try dsimp only at hSw)
    go_simp
    try with_reducible rfl
  try simp only [Act.put, List.setIfInBounds_toArray, List.set_cons_zero, List.set_cons_succ]
  refine wpAnyH_ready (rs := [10]) (by kernel_rfl) (by simp) ?_
  refine AllReadyH.cons (o := { dst := none, op := Op.store 25 (Operand.tmp 6) (Operand.tmp 71), type := 0, pos := "law.go:50", after := #[{ on := 0, ground := Ground.data }, { on := 5, ground := Ground.chain }, { on := 0, ground := Ground.phase }, { on := 1, ground := Ground.textOnly Departure.lateStores }, { on := 2, ground := Ground.textOnly Departure.lateStores }, { on := 3, ground := Ground.textOnly Departure.lateStores }, { on := 4, ground := Ground.textOnly Departure.lateStores }, { on := 5, ground := Ground.textOnly Departure.lateStores }, { on := 6, ground := Ground.textOnly Departure.lateStores }, { on := 7, ground := Ground.textOnly Departure.lateStores }, { on := 8, ground := Ground.textOnly Departure.lateStores }, { on := 9, ground := Ground.textOnly Departure.lateStores }], guard := none }) rfl (fun K7 hK7 => ?_) ?_
  · go_simp
    refine hK7.out _ _ (HSs.out _ (FBox.drew' (HY1.out.other hn6 _ _ _)) (FBox.drew' (HY2.out.other hm6 _ _ _))) (fun hHeld => ?_)
    clear hK7 K7
    try simp only [Act.put, List.setIfInBounds_toArray, List.set_cons_zero, List.set_cons_succ]
    refine wpAnyH_ready (rs := [11]) (by kernel_rfl) (by simp) ?_
    refine AllReadyH.cons (o := { dst := none, op := Op.store 25 (Operand.tmp 7) (Operand.tmp 72), type := 0, pos := "law.go:50", after := #[{ on := 1, ground := Ground.data }, { on := 10, ground := Ground.chain }, { on := 0, ground := Ground.phase }, { on := 1, ground := Ground.phase }, { on := 2, ground := Ground.textOnly Departure.lateStores }, { on := 3, ground := Ground.textOnly Departure.lateStores }, { on := 4, ground := Ground.textOnly Departure.lateStores }, { on := 5, ground := Ground.textOnly Departure.lateStores }, { on := 6, ground := Ground.textOnly Departure.lateStores }, { on := 7, ground := Ground.textOnly Departure.lateStores }, { on := 8, ground := Ground.textOnly Departure.lateStores }, { on := 9, ground := Ground.textOnly Departure.lateStores }, { on := 10, ground := Ground.phase }], guard := none }) rfl (fun K7 hK7 => ?_) ?_
    · go_simp
      refine hK7.out _ _ (HSs.out _ (FBox.drew' ((HY1.out.other hn6 _ _ _).other hn7 _ _ _)) (FBox.drew' ((HY2.out.other hm6 _ _ _).other hm7 _ _ _))) (fun hHeld => ?_)
      clear hK7 K7
      try simp only [Act.put, List.setIfInBounds_toArray, List.set_cons_zero, List.set_cons_succ]
      refine wpAnyH_take (i := 12) (oi := { dst := some 8, op := Op.assign (Operand.tmp 80), type := 4, pos := "law.go:50", after := #[{ on := 9, ground := Ground.data }, { on := 11, ground := Ground.chain }, { on := 0, ground := Ground.phase }, { on := 1, ground := Ground.phase }, { on := 2, ground := Ground.phase }, { on := 3, ground := Ground.phase }, { on := 4, ground := Ground.phase }, { on := 5, ground := Ground.phase }, { on := 6, ground := Ground.phase }, { on := 7, ground := Ground.phase }, { on := 8, ground := Ground.phase }, { on := 9, ground := Ground.phase }, { on := 10, ground := Ground.phase }, { on := 11, ground := Ground.phase }], guard := none }) (v := ?_) rfl (by kernel_rfl) (by kernel_rfl) (by kernel_rfl) (fun _ _ _ h => h) (Or.inl ⟨by rfl, ?_⟩) hHeld ?_
      rotate_left 1
      · intro W hSw
        (try dsimp only at hSw)
        go_simp
        try with_reducible rfl
      try simp only [Act.put, List.setIfInBounds_toArray, List.set_cons_zero, List.set_cons_succ]
      refine wpAnyH_done (by kernel_rfl) ?_ _
      clear hHeld e1 e2 e3 k1 k2 k3 s1 s2 s3 s4 s5 s6 t1 t2 t3 t4 t5 t6
      have hN6 : N + 1 + 1 + 1 < W.heap.size := HX6.out.lt
      have hN7 : N + 1 + 1 + 1 + 1 < W.heap.size := HX7.out.lt
      have hNw : w.heap.size ≤ N + 1 + 1 + 1 := by have := HN.out; omega
      have hNv : w.heap.size ≤ N + 1 + 1 + 1 + 1 := by have := HN.out; omega
      have hBW : B ≤ W.heap.size := Nat.le_trans HBl.out HB.out.size
      have HZ6 := Lib.hid ((HX62.out.set g.next (.slice a1 g.list.length c1) (.slice a2 g.cut.length c2)).other h67 (.int .i64 g.next) (.slice a3 g.list.length c3) (.slice a4 g.cut.length c4))
      have HZ7 := Lib.hid ((HX72.out.other h76 (.int .i64 g.next) (.slice a1 g.list.length c1) (.slice a2 g.cut.length c2)).set g.next (.slice a3 g.list.length c3) (.slice a4 g.cut.length c4))
      have HZ1 := Lib.hid (((HP1.out.set3 hN6 (.int .i64 g.next) (.slice a1 g.list.length c1) (.slice a2 g.cut.length c2)).set3 hN7 (.int .i64 g.next) (.slice a3 g.list.length c3) (.slice a4 g.cut.length c4)).mono hBW)
      have HZ2 := Lib.hid (((HP2.out.set3 hN6 (.int .i64 g.next) (.slice a1 g.list.length c1) (.slice a2 g.cut.length c2)).set3 hN7 (.int .i64 g.next) (.slice a3 g.list.length c3) (.slice a4 g.cut.length c4)).mono hBW)
      have HZ3 := Lib.hid ((((HP3.out.mono HB1.out.size).set3 hN6 (.int .i64 g.next) (.slice a1 g.list.length c1) (.slice a2 g.cut.length c2)).set3 hN7 (.int .i64 g.next) (.slice a3 g.list.length c3) (.slice a4 g.cut.length c4)).mono hBW)
      have HZ4 := Lib.hid ((((HP4.out.mono HB1.out.size).set3 hN6 (.int .i64 g.next) (.slice a1 g.list.length c1) (.slice a2 g.cut.length c2)).set3 hN7 (.int .i64 g.next) (.slice a3 g.list.length c3) (.slice a4 g.cut.length c4)).mono hBW)
      have HZb := Lib.hid (below_set3 (below_set3 (HB.out.trans (HB2.out.mono HB.out.size)) hNw (.int .i64 g.next) (.slice a1 g.list.length c1) (.slice a2 g.cut.length c2)) hNv (.int .i64 g.next) (.slice a3 g.list.length c3) (.slice a4 g.cut.length c4))
      generalize ((((((W2.setCell ⟨N + 1 + 1 + 1, 0, none⟩ (.int .i64 g.next)).setCell ⟨N + 1 + 1 + 1, 1, none⟩ (.slice a1 g.list.length c1)).setCell ⟨N + 1 + 1 + 1, 2, none⟩ (.slice a2 g.cut.length c2)).setCell ⟨N + 1 + 1 + 1 + 1, 0, none⟩ (.int .i64 g.next)).setCell ⟨N + 1 + 1 + 1 + 1, 1, none⟩ (.slice a3 g.list.length c3)).setCell ⟨N + 1 + 1 + 1 + 1, 2, none⟩ (.slice a4 g.cut.length c4)) = W3 at HZ6 HZ7 HZ1 HZ2 HZ3 HZ4 HZb ⊢
      have HZ6 := Lib.hid (FBox.drew' HZ6.out); have HZ7 := Lib.hid (FBox.drew' HZ7.out)
      have HZd := Lib.hid (below_drew (Below.refl W3.heap.size W3))
      generalize hWd : W3.drew = W4 at HZ6 HZ7 HZd ⊢
      clear hWd
      go_wp2
      refine bodyPost_ret (retAct rfl rfl rfl HZ6.out HZ7.out) rfl ?_
      exact ⟨g, _, _, _, _, rfl, HZ1.out.below HZd.out, HZ2.out.below HZd.out, HZ3.out.below HZd.out, HZ4.out.below HZd.out, HGr.out, HZb.out.trans (HZd.out.mono HZb.out.size)⟩
    exact AllReadyH.nil
  exact AllReadyH.nil

set_option maxHeartbeats 16000000 in
set_option maxRecDepth 100000 in
theorem act_dbl (vl1 vc1 vl2 vc2 : Value) (f : Flt) (B K : Nat) (x : ActV) (w : World) (h1 : Own fc 4 38 w B vl1 f.list) (h2 : Own wc 2 40 w B vc1 f.cut) (h3 : Own fc 4 38 w B vl2 f.list) (h4 : Own wc 2 40 w B vc2 f.cut) (hG : Good f K) (hok : x.Ok) (hk : x.kind = 3) (hK : (K + 2) * 16 ≤ 140737488355328) (hB : B ≤ w.heap.size) :
    Calls Tryz.prog 7 #[.agg #[.int .i64 f.next, vl1, vc1], .agg #[.int .i64 f.next, vl2, vc2], .agg #[.int .i64 x.kind, .int .i64 x.num, .int .i64 x.src, .int .i64 x.dst, .string x.body, .slice x.va x.vn x.vc, .slice x.ua x.un x.uc]] w (ActS w B (K)) := by
  obtain ⟨p1, q1, rfl⟩ := h1.slice
  obtain ⟨p2, q2, rfl⟩ := h2.slice
  obtain ⟨p3, q3, rfl⟩ := h3.slice
  obtain ⟨p4, q4, rfl⟩ := h4.slice
  have HO1 := Lib.hid h1; have HO2 := Lib.hid h2; have HO3 := Lib.hid h3; have HO4 := Lib.hid h4; have HG := Lib.hid hG; have HOk := Lib.hid hok; have HK := Lib.hid hK; have HBl := Lib.hid hB
  have HF1 := Lib.hid (show FlR w (.agg #[.int .i64 f.next, .slice p1 f.list.length q1, .slice p2 f.cut.length q2]) f from ⟨_, _, rfl, h1.read fc_len, h2.read wc_len⟩)
  have HF2 := Lib.hid (show FlR w (.agg #[.int .i64 f.next, .slice p3 f.list.length q3, .slice p4 f.cut.length q4]) f from ⟨_, _, rfl, h3.read fc_len, h4.read wc_len⟩)
  obtain ⟨kd, nm, sr, ds, bo, va, vn, vcp, ua, un, ucp⟩ := x
  simp only at hk
  subst hk
  obtain ⟨W, hW⟩ : ∃ W, W = ((((w.alloc (.cells #[.int .i64 f.next, .slice p1 f.list.length q1, .slice p2 f.cut.length q2] 25)).alloc (.cells #[.int .i64 f.next, .slice p3 f.list.length q3, .slice p4 f.cut.length q4] 25)).alloc (.cells #[.int .i64 3, .int .i64 nm, .int .i64 sr, .int .i64 ds, .string bo, .slice va vn vcp, .slice ua un ucp] 34)).alloc (.cells #[.int .i64 0, .slice none 0 0, .slice none 0 0] 25)).alloc (.cells #[.int .i64 0, .slice none 0 0, .slice none 0 0] 25) := ⟨_, rfl⟩
  have HS := Lib.hid (head_any w f.next (.slice p1 f.list.length q1) (.slice p2 f.cut.length q2) (.slice p3 f.list.length q3) (.slice p4 f.cut.length q4) ⟨3, nm, sr, ds, bo, va, vn, vcp, ua, un, ucp⟩ W hW)
  clear h1 h2 h3 h4 hG hok hK hB
  go_enter Tryz.func7, Tryz.ntmps7
  go_upto_region 1 with fail
  rw [← hW]
  obtain ⟨hb, hx1, hx2, hxa, hx6, hx7⟩ := HS.out
  have HB := Lib.hid hb; have HX1 := Lib.hid hx1; have HX2 := Lib.hid hx2; have HXa := Lib.hid hxa; have HX6 := Lib.hid hx6; have HX7 := Lib.hid hx7
  clear hb hx1 hx2 hxa hx6 hx7 HS hW
  obtain ⟨N, hN⟩ : ∃ N, w.heap.size = N := ⟨_, rfl⟩
  have HN := Lib.hid hN
  rw [hN] at HX1 HX2 HXa HX6 HX7 ⊢
  clear hN
  have HF1 := Lib.hid (HF1.out.keep HB.out); have HF2 := Lib.hid (HF2.out.keep HB.out)
  obtain ⟨b0, b1, b2, b3, b4, b5, b6⟩ := HXa.out.cells
  simp only at b0 b1 b2 b3 b4 b5 b6
  obtain ⟨e1, e2, e3⟩ := HX1.out.cells
  obtain ⟨⟨g, q, r⟩, hr⟩ : ∃ r, dblE f nm = r := ⟨_, rfl⟩
  have HR := Lib.hid hr
  have HGr := Lib.hid (show Good g (K) from by have := good_dbl HG.out nm; rw [hr] at this; exact this)
  clear hr
  have hl1 : Hid ((f.list.length + 1) * 40 ≤ 140737488355328) := Lib.hid (by have := HG.out.len; omega)
  have hl2 : Hid ((f.cut.length + 1) * 16 ≤ 140737488355328) := Lib.hid (by have := HG.out.cl; have := HK.out; omega)
  have HFt := Lib.hid (HG.out.fits (by have := HK.out; omega))
  go_wp2_with fail
  refine (Double_any _ f nm _ HF1.out HG.out.ok HG.out.way (by have := hl1.out; omega) (by have := hl2.out; omega) HG.out.i64).mono ?_
  rintro e w1 h1
  rw [HR.out] at h1
  obtain ⟨ul, uc, rfl, ho1, ho2, hb⟩ := h1
  simp only at ho1 ho2 ⊢
  obtain ⟨a1, c1, rfl⟩ := ho1.slice
  obtain ⟨a2, c2, rfl⟩ := ho2.slice
  have hn := below_new w1 (.cells #[.int .i64 g.next, .slice a1 g.list.length c1, .slice a2 g.cut.length c2] 25)
  have HY1 := Lib.hid (fbox_new w1 g.next (.slice a1 g.list.length c1) (.slice a2 g.cut.length c2))
  have hbb := hb.trans (hn.mono hb.size)
  have HP1 := Lib.hid (ho1.below hn); have HP2 := Lib.hid (ho2.below hn); have HB1 := Lib.hid hbb
  have hsz1 := hb.size
  clear ho1 ho2 hb hn hbb e1 e2 e3 b0 b1 b2 b3 b4 b5 b6
  go_upto_region 12 with fail
  generalize (w1.alloc (.cells #[.int .i64 g.next, .slice a1 g.list.length c1, .slice a2 g.cut.length c2] 25)) = W1 at HY1 HP1 HP2 HB1 ⊢
  have hq9 : N + 5 ≤ w1.heap.size := by have := HX7.out.lt; have := hsz1; omega
  generalize w1.heap.size = N9 at HY1 hq9 ⊢
  obtain ⟨b0, b1, b2, b3, b4, b5, b6⟩ := (HXa.out.keep HB1.out).cells
  simp only at b0 b1 b2 b3 b4 b5 b6
  obtain ⟨e1, e2, e3⟩ := (HX2.out.keep HB1.out).cells
  go_wp2_with fail
  refine (rDouble_any _ f nm _ (HF2.out.keep HB1.out) hl1.out (by have := hl2.out; omega) HG.out.i64).mono ?_
  rintro e w2 h1
  rw [rdbl_eq HG.out, HR.out] at h1
  obtain ⟨ul, uc, rfl, ho1, ho2, hb⟩ := h1
  simp only at ho1 ho2 ⊢
  obtain ⟨a3, c3, rfl⟩ := ho1.slice
  obtain ⟨a4, c4, rfl⟩ := ho2.slice
  have hn := below_new w2 (.cells #[.int .i64 g.next, .slice a3 g.list.length c3, .slice a4 g.cut.length c4] 25)
  have HY2 := Lib.hid (fbox_new w2 g.next (.slice a3 g.list.length c3) (.slice a4 g.cut.length c4))
  have hbb := hb.trans (hn.mono hb.size)
  have HY1 := Lib.hid (HY1.out.keep hbb)
  have HP1 := Lib.hid (HP1.out.below hbb); have HP2 := Lib.hid (HP2.out.below hbb); have HP3 := Lib.hid (ho1.below hn); have HP4 := Lib.hid (ho2.below hn)
  have HB2 := Lib.hid (HB1.out.trans (hbb.mono HB1.out.size))
  have hsz2 := hb.size
  have hsz3 := HB1.out.size
  have hsz4 := HX7.out.lt
  clear ho1 ho2 hb hn hbb e1 e2 e3 b0 b1 b2 b3 b4 b5 b6
  go_upto_region 13 with fail
  generalize (w2.alloc (.cells #[.int .i64 g.next, .slice a3 g.list.length c3, .slice a4 g.cut.length c4] 25)) = W2 at HY1 HY2 HP1 HP2 HP3 HP4 HB2 ⊢
  have hq12 : N + 5 ≤ w2.heap.size := by omega
  generalize w2.heap.size = N12 at HY2 hq12 ⊢
  have HNe : Hid (N9 ≠ N + 1 + 1 + 1 ∧ N9 ≠ N + 1 + 1 + 1 + 1 ∧ N12 ≠ N + 1 + 1 + 1 ∧ N12 ≠ N + 1 + 1 + 1 + 1 ∧ N9 + 1 ≠ N + 1 + 1 + 1 ∧ N9 + 1 ≠ N + 1 + 1 + 1 + 1 ∧ N12 + 1 ≠ N + 1 + 1 + 1 ∧ N12 + 1 ≠ N + 1 + 1 + 1 + 1) := Lib.hid (by omega)
  clear hq9 hq12 hsz1 hsz2 hsz3 hsz4
  have HX62 := Lib.hid (HX6.out.keep HB2.out); have HX72 := Lib.hid (HX7.out.keep HB2.out)
  obtain ⟨e1, e2, e3⟩ := HY1.out.cells
  obtain ⟨k1, k2, k3⟩ := HY2.out.cells
  obtain ⟨s1, s2, s3⟩ := HX62.out.cells
  obtain ⟨t1, t2, t3⟩ := HX62.out.thaw
  obtain ⟨s4, s5, s6⟩ := HX72.out.cells
  obtain ⟨t4, t5, t6⟩ := HX72.out.thaw
  have hn6 : N9 ≠ N + 1 + 1 + 1 := HNe.out.1
  have hn7 : N9 ≠ N + 1 + 1 + 1 + 1 := HNe.out.2.1
  have hm6 : N12 ≠ N + 1 + 1 + 1 := HNe.out.2.2.1
  have hm7 : N12 ≠ N + 1 + 1 + 1 + 1 := HNe.out.2.2.2.1
  have h67 : N + 1 + 1 + 1 ≠ N + 1 + 1 + 1 + 1 := by omega
  have h76 : N + 1 + 1 + 1 + 1 ≠ N + 1 + 1 + 1 := by omega
  have HSs : Hid (∀ u : World, FBox u N9 g.next (.slice a1 g.list.length c1) (.slice a2 g.cut.length c2) → FBox u N12 g.next (.slice a3 g.list.length c3) (.slice a4 g.cut.length c4) → ((u.cell? ⟨N9, 0, none⟩ = some (.int .i64 g.next) ∧ u.cell? ⟨N9, 1, none⟩ = some (.slice a1 g.list.length c1) ∧ u.cell? ⟨N9, 2, none⟩ = some (.slice a2 g.cut.length c2)) ∧ (u.cell? ⟨N12, 0, none⟩ = some (.int .i64 g.next) ∧ u.cell? ⟨N12, 1, none⟩ = some (.slice a3 g.list.length c3) ∧ u.cell? ⟨N12, 2, none⟩ = some (.slice a4 g.cut.length c4)))) := Lib.hid (fun u x1 x2 => ⟨x1.cells, x2.cells⟩)
  refine wp_region_held_drew (S := fun u => (u.cell? ⟨N9, 0, none⟩ = some (.int .i64 g.next) ∧ u.cell? ⟨N9, 1, none⟩ = some (.slice a1 g.list.length c1) ∧ u.cell? ⟨N9, 2, none⟩ = some (.slice a2 g.cut.length c2)) ∧ (u.cell? ⟨N12, 0, none⟩ = some (.int .i64 g.next) ∧ u.cell? ⟨N12, 1, none⟩ = some (.slice a3 g.list.length c3) ∧ u.cell? ⟨N12, 2, none⟩ = some (.slice a4 g.cut.length c4))) (by kernel_rfl) (HSs.out _ HY1.out HY2.out) (fun hHeld => ?_)
  refine wpAnyH_take (i := 0) (oi := { dst := some 127, op := Op.load 25 (Operand.tmp 21), type := 25, pos := "law.go:58", after := #[], guard := none }) (v := ?_) rfl (by kernel_rfl) (by kernel_rfl) (by kernel_rfl) (fun _ _ _ h => h) (Or.inl ⟨by rfl, ?_⟩) hHeld ?_
  rotate_left 1
  · intro W hSw
    (try dsimp only at hSw)
    go_simp
    try with_reducible rfl
  try simp only [Act.put, List.setIfInBounds_toArray, List.set_cons_zero, List.set_cons_succ]
  refine wpAnyH_take (i := 1) (oi := { dst := some 128, op := Op.load 25 (Operand.tmp 24), type := 25, pos := "law.go:58", after := #[{ on := 10, ground := Ground.gcOnly Departure.lateStores }], guard := none }) (v := ?_) rfl (by kernel_rfl) (by kernel_rfl) (by kernel_rfl) (fun _ _ _ h => h) (Or.inl ⟨by rfl, ?_⟩) hHeld ?_
  rotate_left 1
  · intro W hSw
    (try dsimp only at hSw)
    go_simp
    try with_reducible rfl
  try simp only [Act.put, List.setIfInBounds_toArray, List.set_cons_zero, List.set_cons_succ]
  refine wpAnyH_take (i := 2) (oi := { dst := some 129, op := Op.move (Operand.tmp 22), type := 2, pos := "law.go:58", after := #[], guard := none }) (v := ?_) rfl (by kernel_rfl) (by kernel_rfl) (by kernel_rfl) (fun _ _ _ h => h) (Or.inl ⟨by rfl, ?_⟩) hHeld ?_
  rotate_left 1
  · intro W hSw
    (try dsimp only at hSw)
    go_simp
    try with_reducible rfl
  try simp only [Act.put, List.setIfInBounds_toArray, List.set_cons_zero, List.set_cons_succ]
  refine wpAnyH_take (i := 3) (oi := { dst := some 130, op := Op.move (Operand.tmp 25), type := 2, pos := "law.go:58", after := #[], guard := none }) (v := ?_) rfl (by kernel_rfl) (by kernel_rfl) (by kernel_rfl) (fun _ _ _ h => h) (Or.inl ⟨by rfl, ?_⟩) hHeld ?_
  rotate_left 1
  · intro W hSw
    (try dsimp only at hSw)
    go_simp
    try with_reducible rfl
  try simp only [Act.put, List.setIfInBounds_toArray, List.set_cons_zero, List.set_cons_succ]
  refine wpAnyH_take (i := 4) (oi := { dst := some 131, op := Op.binOp BinOp.eql 2 (Operand.tmp 129) (Operand.tmp 130) 2, type := 4, pos := "law.go:58", after := #[{ on := 2, ground := Ground.data }, { on := 3, ground := Ground.data }], guard := none }) (v := ?_) rfl (by kernel_rfl) (by kernel_rfl) (by kernel_rfl) (fun _ _ _ h => h) (Or.inl ⟨by rfl, ?_⟩) hHeld ?_
  rotate_left 1
  · intro W hSw
    (try dsimp only at hSw)
    go_simp
    try with_reducible rfl
  try simp only [Act.put, List.setIfInBounds_toArray, List.set_cons_zero, List.set_cons_succ]
  refine wpAnyH_take (i := 5) (oi := { dst := some 132, op := Op.move (Operand.tmp 131), type := 4, pos := "law.go:58", after := #[{ on := 4, ground := Ground.data }], guard := none }) (v := ?_) rfl (by kernel_rfl) (by kernel_rfl) (by kernel_rfl) (fun _ _ _ h => h) (Or.inl ⟨by rfl, ?_⟩) hHeld ?_
  rotate_left 1
  · intro W hSw
    (try dsimp only at hSw)
    go_simp
    try with_reducible rfl
  try simp only [Act.put, List.setIfInBounds_toArray, List.set_cons_zero, List.set_cons_succ]
  refine wpAnyH_take (i := 6) (oi := { dst := some 133, op := Op.move (Operand.tmp 23), type := 42, pos := "law.go:58", after := #[{ on := 5, ground := Ground.guard }, { on := 11, ground := Ground.gcOnly Departure.lateStores }], guard := some (5, true) }) (v := ?_) rfl (by kernel_rfl) (by kernel_rfl) (by kernel_rfl) (fun _ _ _ h => h) (Or.inl ⟨by rfl, ?_⟩) hHeld ?_
  rotate_left 1
  · intro W hSw
    (try dsimp only at hSw)
    go_simp
    try with_reducible rfl
  try simp only [Act.put, List.setIfInBounds_toArray, List.set_cons_zero, List.set_cons_succ]
  refine wpAnyH_take (i := 7) (oi := { dst := some 134, op := Op.move (Operand.tmp 26), type := 3, pos := "law.go:58", after := #[{ on := 5, ground := Ground.guard }, { on := 11, ground := Ground.gcOnly Departure.lateStores }], guard := some (5, true) }) (v := ?_) rfl (by kernel_rfl) (by kernel_rfl) (by kernel_rfl) (fun _ _ _ h => h) (Or.inl ⟨by rfl, ?_⟩) hHeld ?_
  rotate_left 1
  · intro W hSw
    (try dsimp only at hSw)
    go_simp
    try with_reducible rfl
  try simp only [Act.put, List.setIfInBounds_toArray, List.set_cons_zero, List.set_cons_succ]
  refine wpAnyH_take (i := 8) (oi := { dst := some 135, op := Op.binOp BinOp.eql 3 (Operand.tmp 133) (Operand.tmp 134) 3, type := 4, pos := "law.go:58", after := #[{ on := 6, ground := Ground.data }, { on := 7, ground := Ground.data }, { on := 5, ground := Ground.guard }, { on := 11, ground := Ground.gcOnly Departure.lateStores }], guard := some (5, true) }) (v := ?_) rfl (by kernel_rfl) (by kernel_rfl) (by kernel_rfl) (fun _ _ _ h => h) (Or.inl ⟨by rfl, ?_⟩) hHeld ?_
  rotate_left 1
  · intro W hSw
    (try dsimp only at hSw)
    go_simp
    try with_reducible rfl
  try simp only [Act.put, List.setIfInBounds_toArray, List.set_cons_zero, List.set_cons_succ]
  refine wpAnyH_take (i := 9) (oi := { dst := some 136, op := Op.pick (Operand.tmp 132) (Operand.tmp 135) (Operand.const (Value.bool false)), type := 4, pos := "law.go:58", after := #[{ on := 5, ground := Ground.data }, { on := 8, ground := Ground.data }, { on := 11, ground := Ground.gcOnly Departure.lateStores }], guard := none }) (v := ?_) rfl (by kernel_rfl) (by kernel_rfl) (by kernel_rfl) (fun _ _ _ h => h) (Or.inl ⟨by rfl, ?_⟩) hHeld ?_
  rotate_left 1
  · intro W hSw
    (try dsimp only at hSw)
    go_simp
    try with_reducible rfl
  try simp only [Act.put, List.setIfInBounds_toArray, List.set_cons_zero, List.set_cons_succ]
  refine wpAnyH_ready (rs := [10]) (by kernel_rfl) (by simp) ?_
  refine AllReadyH.cons (o := { dst := none, op := Op.store 25 (Operand.tmp 6) (Operand.tmp 127), type := 0, pos := "law.go:58", after := #[{ on := 0, ground := Ground.data }, { on := 5, ground := Ground.chain }, { on := 0, ground := Ground.phase }, { on := 1, ground := Ground.textOnly Departure.lateStores }, { on := 2, ground := Ground.textOnly Departure.lateStores }, { on := 3, ground := Ground.textOnly Departure.lateStores }, { on := 4, ground := Ground.textOnly Departure.lateStores }, { on := 5, ground := Ground.textOnly Departure.lateStores }, { on := 6, ground := Ground.textOnly Departure.lateStores }, { on := 7, ground := Ground.textOnly Departure.lateStores }, { on := 8, ground := Ground.textOnly Departure.lateStores }, { on := 9, ground := Ground.textOnly Departure.lateStores }], guard := none }) rfl (fun K7 hK7 => ?_) ?_
  · go_simp
    refine hK7.out _ _ (HSs.out _ (FBox.drew' (HY1.out.other hn6 _ _ _)) (FBox.drew' (HY2.out.other hm6 _ _ _))) (fun hHeld => ?_)
    clear hK7 K7
    try simp only [Act.put, List.setIfInBounds_toArray, List.set_cons_zero, List.set_cons_succ]
    refine wpAnyH_ready (rs := [11]) (by kernel_rfl) (by simp) ?_
    refine AllReadyH.cons (o := { dst := none, op := Op.store 25 (Operand.tmp 7) (Operand.tmp 128), type := 0, pos := "law.go:58", after := #[{ on := 1, ground := Ground.data }, { on := 10, ground := Ground.chain }, { on := 0, ground := Ground.phase }, { on := 1, ground := Ground.phase }, { on := 2, ground := Ground.textOnly Departure.lateStores }, { on := 3, ground := Ground.textOnly Departure.lateStores }, { on := 4, ground := Ground.textOnly Departure.lateStores }, { on := 5, ground := Ground.textOnly Departure.lateStores }, { on := 6, ground := Ground.textOnly Departure.lateStores }, { on := 7, ground := Ground.textOnly Departure.lateStores }, { on := 8, ground := Ground.textOnly Departure.lateStores }, { on := 9, ground := Ground.textOnly Departure.lateStores }, { on := 10, ground := Ground.phase }], guard := none }) rfl (fun K7 hK7 => ?_) ?_
    · go_simp
      refine hK7.out _ _ (HSs.out _ (FBox.drew' ((HY1.out.other hn6 _ _ _).other hn7 _ _ _)) (FBox.drew' ((HY2.out.other hm6 _ _ _).other hm7 _ _ _))) (fun hHeld => ?_)
      clear hK7 K7
      try simp only [Act.put, List.setIfInBounds_toArray, List.set_cons_zero, List.set_cons_succ]
      refine wpAnyH_take (i := 12) (oi := { dst := some 8, op := Op.assign (Operand.tmp 136), type := 4, pos := "law.go:58", after := #[{ on := 9, ground := Ground.data }, { on := 11, ground := Ground.chain }, { on := 0, ground := Ground.phase }, { on := 1, ground := Ground.phase }, { on := 2, ground := Ground.phase }, { on := 3, ground := Ground.phase }, { on := 4, ground := Ground.phase }, { on := 5, ground := Ground.phase }, { on := 6, ground := Ground.phase }, { on := 7, ground := Ground.phase }, { on := 8, ground := Ground.phase }, { on := 9, ground := Ground.phase }, { on := 10, ground := Ground.phase }, { on := 11, ground := Ground.phase }], guard := none }) (v := ?_) rfl (by kernel_rfl) (by kernel_rfl) (by kernel_rfl) (fun _ _ _ h => h) (Or.inl ⟨by rfl, ?_⟩) hHeld ?_
      rotate_left 1
      · intro W hSw
        (try dsimp only at hSw)
        go_simp
        try with_reducible rfl
      try simp only [Act.put, List.setIfInBounds_toArray, List.set_cons_zero, List.set_cons_succ]
      refine wpAnyH_done (by kernel_rfl) ?_ _
      clear hHeld e1 e2 e3 k1 k2 k3 s1 s2 s3 s4 s5 s6 t1 t2 t3 t4 t5 t6
      have hN6 : N + 1 + 1 + 1 < W.heap.size := HX6.out.lt
      have hN7 : N + 1 + 1 + 1 + 1 < W.heap.size := HX7.out.lt
      have hNw : w.heap.size ≤ N + 1 + 1 + 1 := by have := HN.out; omega
      have hNv : w.heap.size ≤ N + 1 + 1 + 1 + 1 := by have := HN.out; omega
      have hBW : B ≤ W.heap.size := Nat.le_trans HBl.out HB.out.size
      have HZ6 := Lib.hid ((HX62.out.set g.next (.slice a1 g.list.length c1) (.slice a2 g.cut.length c2)).other h67 (.int .i64 g.next) (.slice a3 g.list.length c3) (.slice a4 g.cut.length c4))
      have HZ7 := Lib.hid ((HX72.out.other h76 (.int .i64 g.next) (.slice a1 g.list.length c1) (.slice a2 g.cut.length c2)).set g.next (.slice a3 g.list.length c3) (.slice a4 g.cut.length c4))
      have HZ1 := Lib.hid (((HP1.out.set3 hN6 (.int .i64 g.next) (.slice a1 g.list.length c1) (.slice a2 g.cut.length c2)).set3 hN7 (.int .i64 g.next) (.slice a3 g.list.length c3) (.slice a4 g.cut.length c4)).mono hBW)
      have HZ2 := Lib.hid (((HP2.out.set3 hN6 (.int .i64 g.next) (.slice a1 g.list.length c1) (.slice a2 g.cut.length c2)).set3 hN7 (.int .i64 g.next) (.slice a3 g.list.length c3) (.slice a4 g.cut.length c4)).mono hBW)
      have HZ3 := Lib.hid ((((HP3.out.mono HB1.out.size).set3 hN6 (.int .i64 g.next) (.slice a1 g.list.length c1) (.slice a2 g.cut.length c2)).set3 hN7 (.int .i64 g.next) (.slice a3 g.list.length c3) (.slice a4 g.cut.length c4)).mono hBW)
      have HZ4 := Lib.hid ((((HP4.out.mono HB1.out.size).set3 hN6 (.int .i64 g.next) (.slice a1 g.list.length c1) (.slice a2 g.cut.length c2)).set3 hN7 (.int .i64 g.next) (.slice a3 g.list.length c3) (.slice a4 g.cut.length c4)).mono hBW)
      have HZb := Lib.hid (below_set3 (below_set3 (HB.out.trans (HB2.out.mono HB.out.size)) hNw (.int .i64 g.next) (.slice a1 g.list.length c1) (.slice a2 g.cut.length c2)) hNv (.int .i64 g.next) (.slice a3 g.list.length c3) (.slice a4 g.cut.length c4))
      generalize ((((((W2.setCell ⟨N + 1 + 1 + 1, 0, none⟩ (.int .i64 g.next)).setCell ⟨N + 1 + 1 + 1, 1, none⟩ (.slice a1 g.list.length c1)).setCell ⟨N + 1 + 1 + 1, 2, none⟩ (.slice a2 g.cut.length c2)).setCell ⟨N + 1 + 1 + 1 + 1, 0, none⟩ (.int .i64 g.next)).setCell ⟨N + 1 + 1 + 1 + 1, 1, none⟩ (.slice a3 g.list.length c3)).setCell ⟨N + 1 + 1 + 1 + 1, 2, none⟩ (.slice a4 g.cut.length c4)) = W3 at HZ6 HZ7 HZ1 HZ2 HZ3 HZ4 HZb ⊢
      have HZ6 := Lib.hid (FBox.drew' HZ6.out); have HZ7 := Lib.hid (FBox.drew' HZ7.out)
      have HZd := Lib.hid (below_drew (Below.refl W3.heap.size W3))
      generalize hWd : W3.drew = W4 at HZ6 HZ7 HZd ⊢
      clear hWd
      go_wp2
      refine bodyPost_ret (retAct rfl rfl rfl HZ6.out HZ7.out) rfl ?_
      exact ⟨g, _, _, _, _, rfl, HZ1.out.below HZd.out, HZ2.out.below HZd.out, HZ3.out.below HZd.out, HZ4.out.below HZd.out, HGr.out, HZb.out.trans (HZd.out.mono HZb.out.size)⟩
    exact AllReadyH.nil
  exact AllReadyH.nil

set_option maxHeartbeats 16000000 in
set_option maxRecDepth 100000 in
theorem act_take (vl1 vc1 vl2 vc2 : Value) (f : Flt) (B K : Nat) (x : ActV) (w : World) (h1 : Own fc 4 38 w B vl1 f.list) (h2 : Own wc 2 40 w B vc1 f.cut) (h3 : Own fc 4 38 w B vl2 f.list) (h4 : Own wc 2 40 w B vc2 f.cut) (hG : Good f K) (hok : x.Ok) (hk : x.kind = 2) (hK : (K + 2) * 16 ≤ 140737488355328) (hB : B ≤ w.heap.size) :
    Calls Tryz.prog 7 #[.agg #[.int .i64 f.next, vl1, vc1], .agg #[.int .i64 f.next, vl2, vc2], .agg #[.int .i64 x.kind, .int .i64 x.num, .int .i64 x.src, .int .i64 x.dst, .string x.body, .slice x.va x.vn x.vc, .slice x.ua x.un x.uc]] w (ActS w B (K)) := by
  obtain ⟨p1, q1, rfl⟩ := h1.slice
  obtain ⟨p2, q2, rfl⟩ := h2.slice
  obtain ⟨p3, q3, rfl⟩ := h3.slice
  obtain ⟨p4, q4, rfl⟩ := h4.slice
  have HO1 := Lib.hid h1; have HO2 := Lib.hid h2; have HO3 := Lib.hid h3; have HO4 := Lib.hid h4; have HG := Lib.hid hG; have HOk := Lib.hid hok; have HK := Lib.hid hK; have HBl := Lib.hid hB
  have HF1 := Lib.hid (show FlR w (.agg #[.int .i64 f.next, .slice p1 f.list.length q1, .slice p2 f.cut.length q2]) f from ⟨_, _, rfl, h1.read fc_len, h2.read wc_len⟩)
  have HF2 := Lib.hid (show FlR w (.agg #[.int .i64 f.next, .slice p3 f.list.length q3, .slice p4 f.cut.length q4]) f from ⟨_, _, rfl, h3.read fc_len, h4.read wc_len⟩)
  obtain ⟨kd, nm, sr, ds, bo, va, vn, vcp, ua, un, ucp⟩ := x
  simp only at hk
  subst hk
  obtain ⟨W, hW⟩ : ∃ W, W = ((((w.alloc (.cells #[.int .i64 f.next, .slice p1 f.list.length q1, .slice p2 f.cut.length q2] 25)).alloc (.cells #[.int .i64 f.next, .slice p3 f.list.length q3, .slice p4 f.cut.length q4] 25)).alloc (.cells #[.int .i64 2, .int .i64 nm, .int .i64 sr, .int .i64 ds, .string bo, .slice va vn vcp, .slice ua un ucp] 34)).alloc (.cells #[.int .i64 0, .slice none 0 0, .slice none 0 0] 25)).alloc (.cells #[.int .i64 0, .slice none 0 0, .slice none 0 0] 25) := ⟨_, rfl⟩
  have HS := Lib.hid (head_any w f.next (.slice p1 f.list.length q1) (.slice p2 f.cut.length q2) (.slice p3 f.list.length q3) (.slice p4 f.cut.length q4) ⟨2, nm, sr, ds, bo, va, vn, vcp, ua, un, ucp⟩ W hW)
  clear h1 h2 h3 h4 hG hok hK hB
  go_enter Tryz.func7, Tryz.ntmps7
  go_upto_region 1 with fail
  rw [← hW]
  obtain ⟨hb, hx1, hx2, hxa, hx6, hx7⟩ := HS.out
  have HB := Lib.hid hb; have HX1 := Lib.hid hx1; have HX2 := Lib.hid hx2; have HXa := Lib.hid hxa; have HX6 := Lib.hid hx6; have HX7 := Lib.hid hx7
  clear hb hx1 hx2 hxa hx6 hx7 HS hW
  obtain ⟨N, hN⟩ : ∃ N, w.heap.size = N := ⟨_, rfl⟩
  have HN := Lib.hid hN
  rw [hN] at HX1 HX2 HXa HX6 HX7 ⊢
  clear hN
  have HF1 := Lib.hid (HF1.out.keep HB.out); have HF2 := Lib.hid (HF2.out.keep HB.out)
  obtain ⟨b0, b1, b2, b3, b4, b5, b6⟩ := HXa.out.cells
  simp only at b0 b1 b2 b3 b4 b5 b6
  obtain ⟨e1, e2, e3⟩ := HX1.out.cells
  obtain ⟨⟨g, ⟨yn, ys, yd, yb⟩, r⟩, hr⟩ : ∃ r, takeE f nm = r := ⟨_, rfl⟩
  have HR := Lib.hid hr
  have HGr := Lib.hid (show Good g (K) from by have := (good_take HG.out nm).1; rw [hr] at this; exact this)
  clear hr
  have hl1 : Hid ((f.list.length + 1) * 40 ≤ 140737488355328) := Lib.hid (by have := HG.out.len; omega)
  have hl2 : Hid ((f.cut.length + 1) * 16 ≤ 140737488355328) := Lib.hid (by have := HG.out.cl; have := HK.out; omega)
  have HFt := Lib.hid (HG.out.fits (by have := HK.out; omega))
  go_wp2_with fail
  refine (Take_any _ f nm _ HF1.out HFt.out).mono ?_
  rintro e w1 h1
  rw [HR.out] at h1
  obtain ⟨ul, uc, rfl, ho1, ho2, hb⟩ := h1
  simp only at ho1 ho2 ⊢
  obtain ⟨a1, c1, rfl⟩ := ho1.slice
  obtain ⟨a2, c2, rfl⟩ := ho2.slice
  unfold fval
  try simp only
  have hn := below_new w1 (.cells #[.int .i64 g.next, .slice a1 g.list.length c1, .slice a2 g.cut.length c2] 25)
  have hn2 := below_new (w1.alloc (.cells #[.int .i64 g.next, .slice a1 g.list.length c1, .slice a2 g.cut.length c2] 25)) (.cells #[.int .i64 yn, .int .i64 ys, .int .i64 yd, .string yb] 38)
  have hn := hn.trans (hn2.mono hn.size)
  have HZf1 := Lib.hid (show ((w1.alloc (.cells #[.int .i64 g.next, .slice a1 g.list.length c1, .slice a2 g.cut.length c2] 25)).alloc (.cells #[.int .i64 yn, .int .i64 ys, .int .i64 yd, .string yb] 38)).heap[w1.heap.size + 1]? = some (.cells #[.int .i64 yn, .int .i64 ys, .int .i64 yd, .string yb] 38 (0, 0)) from by have := alloc_at (w1.alloc (.cells #[.int .i64 g.next, .slice a1 g.list.length c1, .slice a2 g.cut.length c2] 25)) (.cells #[.int .i64 yn, .int .i64 ys, .int .i64 yd, .string yb] 38); rwa [World.size_alloc] at this)
  have HY1 := Lib.hid ((fbox_new w1 g.next (.slice a1 g.list.length c1) (.slice a2 g.cut.length c2)).keep hn2)
  clear hn2
  have hbb := hb.trans (hn.mono hb.size)
  have HP1 := Lib.hid (ho1.below hn); have HP2 := Lib.hid (ho2.below hn); have HB1 := Lib.hid hbb
  have hsz1 := hb.size
  clear ho1 ho2 hb hn hbb e1 e2 e3 b0 b1 b2 b3 b4 b5 b6
  go_upto_region 8 with fail
  generalize ((w1.alloc (.cells #[.int .i64 g.next, .slice a1 g.list.length c1, .slice a2 g.cut.length c2] 25)).alloc (.cells #[.int .i64 yn, .int .i64 ys, .int .i64 yd, .string yb] 38)) = W1 at HY1 HZf1 HP1 HP2 HB1 ⊢
  have hq9 : N + 5 ≤ w1.heap.size := by have := HX7.out.lt; have := hsz1; omega
  generalize w1.heap.size = N9 at HY1 HZf1 hq9 ⊢
  obtain ⟨b0, b1, b2, b3, b4, b5, b6⟩ := (HXa.out.keep HB1.out).cells
  simp only at b0 b1 b2 b3 b4 b5 b6
  obtain ⟨e1, e2, e3⟩ := (HX2.out.keep HB1.out).cells
  go_wp2_with fail
  refine (rTake_any _ f nm _ (HF2.out.keep HB1.out) (by have := hl1.out; omega) (by have := hl2.out; omega)).mono ?_
  rintro e w2 h1
  rw [rtake_eq HG.out, HR.out] at h1
  obtain ⟨ul, uc, rfl, ho1, ho2, hb⟩ := h1
  simp only at ho1 ho2 ⊢
  obtain ⟨a3, c3, rfl⟩ := ho1.slice
  obtain ⟨a4, c4, rfl⟩ := ho2.slice
  unfold fval
  try simp only
  have hn := below_new w2 (.cells #[.int .i64 g.next, .slice a3 g.list.length c3, .slice a4 g.cut.length c4] 25)
  have hn2 := below_new (w2.alloc (.cells #[.int .i64 g.next, .slice a3 g.list.length c3, .slice a4 g.cut.length c4] 25)) (.cells #[.int .i64 yn, .int .i64 ys, .int .i64 yd, .string yb] 38)
  have hn := hn.trans (hn2.mono hn.size)
  have HZf2 := Lib.hid (show ((w2.alloc (.cells #[.int .i64 g.next, .slice a3 g.list.length c3, .slice a4 g.cut.length c4] 25)).alloc (.cells #[.int .i64 yn, .int .i64 ys, .int .i64 yd, .string yb] 38)).heap[w2.heap.size + 1]? = some (.cells #[.int .i64 yn, .int .i64 ys, .int .i64 yd, .string yb] 38 (0, 0)) from by have := alloc_at (w2.alloc (.cells #[.int .i64 g.next, .slice a3 g.list.length c3, .slice a4 g.cut.length c4] 25)) (.cells #[.int .i64 yn, .int .i64 ys, .int .i64 yd, .string yb] 38); rwa [World.size_alloc] at this)
  have HY2 := Lib.hid ((fbox_new w2 g.next (.slice a3 g.list.length c3) (.slice a4 g.cut.length c4)).keep hn2)
  clear hn2
  have hbb := hb.trans (hn.mono hb.size)
  have HZf1 := Lib.hid ((hbb.block (N9 + 1) (Array.getElem?_eq_some_iff.1 HZf1.out).1).trans HZf1.out)
  have HY1 := Lib.hid (HY1.out.keep hbb)
  have HP1 := Lib.hid (HP1.out.below hbb); have HP2 := Lib.hid (HP2.out.below hbb); have HP3 := Lib.hid (ho1.below hn); have HP4 := Lib.hid (ho2.below hn)
  have HB2 := Lib.hid (HB1.out.trans (hbb.mono HB1.out.size))
  have hsz2 := hb.size
  have hsz3 := HB1.out.size
  have hsz4 := HX7.out.lt
  clear ho1 ho2 hb hn hbb e1 e2 e3 b0 b1 b2 b3 b4 b5 b6
  go_upto_region 9 with fail
  generalize ((w2.alloc (.cells #[.int .i64 g.next, .slice a3 g.list.length c3, .slice a4 g.cut.length c4] 25)).alloc (.cells #[.int .i64 yn, .int .i64 ys, .int .i64 yd, .string yb] 38)) = W2 at HY1 HY2 HZf1 HZf2 HP1 HP2 HP3 HP4 HB2 ⊢
  have hq12 : N + 5 ≤ w2.heap.size := by omega
  generalize w2.heap.size = N12 at HY2 HZf2 hq12 ⊢
  have HNe : Hid (N9 ≠ N + 1 + 1 + 1 ∧ N9 ≠ N + 1 + 1 + 1 + 1 ∧ N12 ≠ N + 1 + 1 + 1 ∧ N12 ≠ N + 1 + 1 + 1 + 1 ∧ N9 + 1 ≠ N + 1 + 1 + 1 ∧ N9 + 1 ≠ N + 1 + 1 + 1 + 1 ∧ N12 + 1 ≠ N + 1 + 1 + 1 ∧ N12 + 1 ≠ N + 1 + 1 + 1 + 1) := Lib.hid (by omega)
  clear hq9 hq12 hsz1 hsz2 hsz3 hsz4
  have HX62 := Lib.hid (HX6.out.keep HB2.out); have HX72 := Lib.hid (HX7.out.keep HB2.out)
  obtain ⟨e1, e2, e3⟩ := HY1.out.cells
  obtain ⟨k1, k2, k3⟩ := HY2.out.cells
  obtain ⟨s1, s2, s3⟩ := HX62.out.cells
  obtain ⟨t1, t2, t3⟩ := HX62.out.thaw
  obtain ⟨s4, s5, s6⟩ := HX72.out.cells
  obtain ⟨t4, t5, t6⟩ := HX72.out.thaw
  obtain ⟨y1, y2, y3, y4⟩ := rcell4 (y := ⟨yn, ys, yd, yb⟩) HZf1.out
  obtain ⟨z1, z2, z3, z4⟩ := rcell4 (y := ⟨yn, ys, yd, yb⟩) HZf2.out
  simp only at y1 y2 y3 y4 z1 z2 z3 z4
  have hn6 : N9 ≠ N + 1 + 1 + 1 := HNe.out.1
  have hn7 : N9 ≠ N + 1 + 1 + 1 + 1 := HNe.out.2.1
  have hm6 : N12 ≠ N + 1 + 1 + 1 := HNe.out.2.2.1
  have hm7 : N12 ≠ N + 1 + 1 + 1 + 1 := HNe.out.2.2.2.1
  have h67 : N + 1 + 1 + 1 ≠ N + 1 + 1 + 1 + 1 := by omega
  have h76 : N + 1 + 1 + 1 + 1 ≠ N + 1 + 1 + 1 := by omega
  have HSs : Hid (∀ u : World, FBox u N9 g.next (.slice a1 g.list.length c1) (.slice a2 g.cut.length c2) → FBox u N12 g.next (.slice a3 g.list.length c3) (.slice a4 g.cut.length c4) → u.heap[N9 + 1]? = some (.cells #[.int .i64 yn, .int .i64 ys, .int .i64 yd, .string yb] 38 (0, 0)) → u.heap[N12 + 1]? = some (.cells #[.int .i64 yn, .int .i64 ys, .int .i64 yd, .string yb] 38 (0, 0)) → ((u.cell? ⟨N9, 0, none⟩ = some (.int .i64 g.next) ∧ u.cell? ⟨N9, 1, none⟩ = some (.slice a1 g.list.length c1) ∧ u.cell? ⟨N9, 2, none⟩ = some (.slice a2 g.cut.length c2)) ∧ (u.cell? ⟨N12, 0, none⟩ = some (.int .i64 g.next) ∧ u.cell? ⟨N12, 1, none⟩ = some (.slice a3 g.list.length c3) ∧ u.cell? ⟨N12, 2, none⟩ = some (.slice a4 g.cut.length c4)) ∧ (u.cell? ⟨N9 + 1, 0, none⟩ = some (.int .i64 yn) ∧ u.cell? ⟨N9 + 1, 1, none⟩ = some (.int .i64 ys) ∧ u.cell? ⟨N9 + 1, 2, none⟩ = some (.int .i64 yd) ∧ u.cell? ⟨N9 + 1, 3, none⟩ = some (.string yb)) ∧ (u.cell? ⟨N12 + 1, 0, none⟩ = some (.int .i64 yn) ∧ u.cell? ⟨N12 + 1, 1, none⟩ = some (.int .i64 ys) ∧ u.cell? ⟨N12 + 1, 2, none⟩ = some (.int .i64 yd) ∧ u.cell? ⟨N12 + 1, 3, none⟩ = some (.string yb)))) := Lib.hid (fun u x1 x2 x3 x4 => ⟨x1.cells, x2.cells, rcell4 (y := ⟨yn, ys, yd, yb⟩) x3, rcell4 (y := ⟨yn, ys, yd, yb⟩) x4⟩)
  have hf6 : ¬ N9 + 1 = N + 1 + 1 + 1 := HNe.out.2.2.2.2.1
  have hf7 : ¬ N9 + 1 = N + 1 + 1 + 1 + 1 := HNe.out.2.2.2.2.2.1
  have hg6 : ¬ N12 + 1 = N + 1 + 1 + 1 := HNe.out.2.2.2.2.2.2.1
  have hg7 : ¬ N12 + 1 = N + 1 + 1 + 1 + 1 := HNe.out.2.2.2.2.2.2.2
  refine wp_region_held_drew (S := fun u => (u.cell? ⟨N9, 0, none⟩ = some (.int .i64 g.next) ∧ u.cell? ⟨N9, 1, none⟩ = some (.slice a1 g.list.length c1) ∧ u.cell? ⟨N9, 2, none⟩ = some (.slice a2 g.cut.length c2)) ∧ (u.cell? ⟨N12, 0, none⟩ = some (.int .i64 g.next) ∧ u.cell? ⟨N12, 1, none⟩ = some (.slice a3 g.list.length c3) ∧ u.cell? ⟨N12, 2, none⟩ = some (.slice a4 g.cut.length c4)) ∧ (u.cell? ⟨N9 + 1, 0, none⟩ = some (.int .i64 yn) ∧ u.cell? ⟨N9 + 1, 1, none⟩ = some (.int .i64 ys) ∧ u.cell? ⟨N9 + 1, 2, none⟩ = some (.int .i64 yd) ∧ u.cell? ⟨N9 + 1, 3, none⟩ = some (.string yb)) ∧ (u.cell? ⟨N12 + 1, 0, none⟩ = some (.int .i64 yn) ∧ u.cell? ⟨N12 + 1, 1, none⟩ = some (.int .i64 ys) ∧ u.cell? ⟨N12 + 1, 2, none⟩ = some (.int .i64 yd) ∧ u.cell? ⟨N12 + 1, 3, none⟩ = some (.string yb))) (by kernel_rfl) (HSs.out _ HY1.out HY2.out HZf1.out HZf2.out) (fun hHeld => ?_)
  refine wpAnyH_take (i := 0) (oi := { dst := some 99, op := Op.load 25 (Operand.tmp 15), type := 25, pos := "law.go:54", after := #[], guard := none }) (v := ?_) rfl (by kernel_rfl) (by kernel_rfl) (by kernel_rfl) (fun _ _ _ h => h) (Or.inl ⟨by rfl, ?_⟩) hHeld ?_
  rotate_left 1
  · intro W hSw
    (try dsimp only at hSw)
    go_simp
    try with_reducible rfl
  try simp only [Act.put, List.setIfInBounds_toArray, List.set_cons_zero, List.set_cons_succ]
  refine wpAnyH_take (i := 1) (oi := { dst := some 100, op := Op.load 25 (Operand.tmp 18), type := 25, pos := "law.go:54", after := #[{ on := 10, ground := Ground.gcOnly Departure.lateStores }], guard := none }) (v := ?_) rfl (by kernel_rfl) (by kernel_rfl) (by kernel_rfl) (fun _ _ _ h => h) (Or.inl ⟨by rfl, ?_⟩) hHeld ?_
  rotate_left 1
  · intro W hSw
    (try dsimp only at hSw)
    go_simp
    try with_reducible rfl
  try simp only [Act.put, List.setIfInBounds_toArray, List.set_cons_zero, List.set_cons_succ]
  refine wpAnyH_take (i := 2) (oi := { dst := some 101, op := Op.load 38 (Operand.tmp 16), type := 38, pos := "law.go:54", after := #[], guard := none }) (v := ?_) rfl (by kernel_rfl) (by kernel_rfl) (by kernel_rfl) (fun _ _ _ h => h) (Or.inl ⟨by rfl, ?_⟩) hHeld ?_
  rotate_left 1
  · intro W hSw
    (try dsimp only at hSw)
    go_simp
    try with_reducible rfl
  try simp only [Act.put, List.setIfInBounds_toArray, List.set_cons_zero, List.set_cons_succ]
  refine wpAnyH_take (i := 3) (oi := { dst := some 102, op := Op.load 38 (Operand.tmp 19), type := 38, pos := "law.go:54", after := #[], guard := none }) (v := ?_) rfl (by kernel_rfl) (by kernel_rfl) (by kernel_rfl) (fun _ _ _ h => h) (Or.inl ⟨by rfl, ?_⟩) hHeld ?_
  rotate_left 1
  · intro W hSw
    (try dsimp only at hSw)
    go_simp
    try with_reducible rfl
  try simp only [Act.put, List.setIfInBounds_toArray, List.set_cons_zero, List.set_cons_succ]
  refine wpAnyH_take (i := 4) (oi := { dst := some 103, op := Op.binOp BinOp.eql 38 (Operand.tmp 101) (Operand.tmp 102) 38, type := 4, pos := "law.go:54", after := #[{ on := 2, ground := Ground.data }, { on := 3, ground := Ground.data }], guard := none }) (v := ?_) rfl (by kernel_rfl) (by kernel_rfl) (by kernel_rfl) (fun _ _ _ h => h) (Or.inl ⟨by rfl, ?_⟩) hHeld ?_
  rotate_left 1
  · intro W hSw
    (try dsimp only at hSw)
    go_simp
    try with_reducible rfl
  try simp only [Act.put, List.setIfInBounds_toArray, List.set_cons_zero, List.set_cons_succ]
  refine wpAnyH_take (i := 5) (oi := { dst := some 104, op := Op.move (Operand.tmp 103), type := 4, pos := "law.go:54", after := #[{ on := 4, ground := Ground.data }], guard := none }) (v := ?_) rfl (by kernel_rfl) (by kernel_rfl) (by kernel_rfl) (fun _ _ _ h => h) (Or.inl ⟨by rfl, ?_⟩) hHeld ?_
  rotate_left 1
  · intro W hSw
    (try dsimp only at hSw)
    go_simp
    try with_reducible rfl
  try simp only [Act.put, List.setIfInBounds_toArray, List.set_cons_zero, List.set_cons_succ]
  refine wpAnyH_take (i := 6) (oi := { dst := some 105, op := Op.move (Operand.tmp 17), type := 42, pos := "law.go:54", after := #[{ on := 5, ground := Ground.guard }, { on := 11, ground := Ground.gcOnly Departure.lateStores }], guard := some (5, true) }) (v := ?_) rfl (by kernel_rfl) (by kernel_rfl) (by kernel_rfl) (fun _ _ _ h => h) (Or.inl ⟨by rfl, ?_⟩) hHeld ?_
  rotate_left 1
  · intro W hSw
    (try dsimp only at hSw)
    go_simp
    try with_reducible rfl
  try simp only [Act.put, List.setIfInBounds_toArray, List.set_cons_zero, List.set_cons_succ]
  refine wpAnyH_take (i := 7) (oi := { dst := some 106, op := Op.move (Operand.tmp 20), type := 3, pos := "law.go:54", after := #[{ on := 5, ground := Ground.guard }, { on := 11, ground := Ground.gcOnly Departure.lateStores }], guard := some (5, true) }) (v := ?_) rfl (by kernel_rfl) (by kernel_rfl) (by kernel_rfl) (fun _ _ _ h => h) (Or.inl ⟨by rfl, ?_⟩) hHeld ?_
  rotate_left 1
  · intro W hSw
    (try dsimp only at hSw)
    go_simp
    try with_reducible rfl
  try simp only [Act.put, List.setIfInBounds_toArray, List.set_cons_zero, List.set_cons_succ]
  refine wpAnyH_take (i := 8) (oi := { dst := some 107, op := Op.binOp BinOp.eql 3 (Operand.tmp 105) (Operand.tmp 106) 3, type := 4, pos := "law.go:54", after := #[{ on := 6, ground := Ground.data }, { on := 7, ground := Ground.data }, { on := 5, ground := Ground.guard }, { on := 11, ground := Ground.gcOnly Departure.lateStores }], guard := some (5, true) }) (v := ?_) rfl (by kernel_rfl) (by kernel_rfl) (by kernel_rfl) (fun _ _ _ h => h) (Or.inl ⟨by rfl, ?_⟩) hHeld ?_
  rotate_left 1
  · intro W hSw
    (try dsimp only at hSw)
    go_simp
    try with_reducible rfl
  try simp only [Act.put, List.setIfInBounds_toArray, List.set_cons_zero, List.set_cons_succ]
  refine wpAnyH_take (i := 9) (oi := { dst := some 108, op := Op.pick (Operand.tmp 104) (Operand.tmp 107) (Operand.const (Value.bool false)), type := 4, pos := "law.go:54", after := #[{ on := 5, ground := Ground.data }, { on := 8, ground := Ground.data }, { on := 11, ground := Ground.gcOnly Departure.lateStores }], guard := none }) (v := ?_) rfl (by kernel_rfl) (by kernel_rfl) (by kernel_rfl) (fun _ _ _ h => h) (Or.inl ⟨by rfl, ?_⟩) hHeld ?_
  rotate_left 1
  · intro W hSw
    (try dsimp only at hSw)
    go_simp
    try with_reducible rfl
  try simp only [Act.put, List.setIfInBounds_toArray, List.set_cons_zero, List.set_cons_succ]
  refine wpAnyH_ready (rs := [10]) (by kernel_rfl) (by simp) ?_
  refine AllReadyH.cons (o := { dst := none, op := Op.store 25 (Operand.tmp 6) (Operand.tmp 99), type := 0, pos := "law.go:54", after := #[{ on := 0, ground := Ground.data }, { on := 5, ground := Ground.chain }, { on := 0, ground := Ground.phase }, { on := 1, ground := Ground.textOnly Departure.lateStores }, { on := 2, ground := Ground.textOnly Departure.lateStores }, { on := 3, ground := Ground.textOnly Departure.lateStores }, { on := 4, ground := Ground.textOnly Departure.lateStores }, { on := 5, ground := Ground.textOnly Departure.lateStores }, { on := 6, ground := Ground.textOnly Departure.lateStores }, { on := 7, ground := Ground.textOnly Departure.lateStores }, { on := 8, ground := Ground.textOnly Departure.lateStores }, { on := 9, ground := Ground.textOnly Departure.lateStores }], guard := none }) rfl (fun K7 hK7 => ?_) ?_
  · go_simp
    refine hK7.out _ _ (HSs.out _ (FBox.drew' (HY1.out.other hn6 _ _ _)) (FBox.drew' (HY2.out.other hm6 _ _ _)) (frm_drew <| frm_other hf6 _ _ _ HZf1.out) (frm_drew <| frm_other hg6 _ _ _ HZf2.out)) (fun hHeld => ?_)
    clear hK7 K7
    try simp only [Act.put, List.setIfInBounds_toArray, List.set_cons_zero, List.set_cons_succ]
    refine wpAnyH_ready (rs := [11]) (by kernel_rfl) (by simp) ?_
    refine AllReadyH.cons (o := { dst := none, op := Op.store 25 (Operand.tmp 7) (Operand.tmp 100), type := 0, pos := "law.go:54", after := #[{ on := 1, ground := Ground.data }, { on := 10, ground := Ground.chain }, { on := 0, ground := Ground.phase }, { on := 1, ground := Ground.phase }, { on := 2, ground := Ground.textOnly Departure.lateStores }, { on := 3, ground := Ground.textOnly Departure.lateStores }, { on := 4, ground := Ground.textOnly Departure.lateStores }, { on := 5, ground := Ground.textOnly Departure.lateStores }, { on := 6, ground := Ground.textOnly Departure.lateStores }, { on := 7, ground := Ground.textOnly Departure.lateStores }, { on := 8, ground := Ground.textOnly Departure.lateStores }, { on := 9, ground := Ground.textOnly Departure.lateStores }, { on := 10, ground := Ground.phase }], guard := none }) rfl (fun K7 hK7 => ?_) ?_
    · go_simp
      refine hK7.out _ _ (HSs.out _ (FBox.drew' ((HY1.out.other hn6 _ _ _).other hn7 _ _ _)) (FBox.drew' ((HY2.out.other hm6 _ _ _).other hm7 _ _ _)) (frm_drew <| frm_other hf7 _ _ _ (frm_other hf6 _ _ _ HZf1.out)) (frm_drew <| frm_other hg7 _ _ _ (frm_other hg6 _ _ _ HZf2.out))) (fun hHeld => ?_)
      clear hK7 K7
      try simp only [Act.put, List.setIfInBounds_toArray, List.set_cons_zero, List.set_cons_succ]
      refine wpAnyH_take (i := 12) (oi := { dst := some 8, op := Op.assign (Operand.tmp 108), type := 4, pos := "law.go:54", after := #[{ on := 9, ground := Ground.data }, { on := 11, ground := Ground.chain }, { on := 0, ground := Ground.phase }, { on := 1, ground := Ground.phase }, { on := 2, ground := Ground.phase }, { on := 3, ground := Ground.phase }, { on := 4, ground := Ground.phase }, { on := 5, ground := Ground.phase }, { on := 6, ground := Ground.phase }, { on := 7, ground := Ground.phase }, { on := 8, ground := Ground.phase }, { on := 9, ground := Ground.phase }, { on := 10, ground := Ground.phase }, { on := 11, ground := Ground.phase }], guard := none }) (v := ?_) rfl (by kernel_rfl) (by kernel_rfl) (by kernel_rfl) (fun _ _ _ h => h) (Or.inl ⟨by rfl, ?_⟩) hHeld ?_
      rotate_left 1
      · intro W hSw
        (try dsimp only at hSw)
        go_simp
        try with_reducible rfl
      try simp only [Act.put, List.setIfInBounds_toArray, List.set_cons_zero, List.set_cons_succ]
      refine wpAnyH_done (by kernel_rfl) ?_ _
      clear hHeld y1 y2 y3 y4 z1 z2 z3 z4 e1 e2 e3 k1 k2 k3 s1 s2 s3 s4 s5 s6 t1 t2 t3 t4 t5 t6
      have hN6 : N + 1 + 1 + 1 < W.heap.size := HX6.out.lt
      have hN7 : N + 1 + 1 + 1 + 1 < W.heap.size := HX7.out.lt
      have hNw : w.heap.size ≤ N + 1 + 1 + 1 := by have := HN.out; omega
      have hNv : w.heap.size ≤ N + 1 + 1 + 1 + 1 := by have := HN.out; omega
      have hBW : B ≤ W.heap.size := Nat.le_trans HBl.out HB.out.size
      have HZ6 := Lib.hid ((HX62.out.set g.next (.slice a1 g.list.length c1) (.slice a2 g.cut.length c2)).other h67 (.int .i64 g.next) (.slice a3 g.list.length c3) (.slice a4 g.cut.length c4))
      have HZ7 := Lib.hid ((HX72.out.other h76 (.int .i64 g.next) (.slice a1 g.list.length c1) (.slice a2 g.cut.length c2)).set g.next (.slice a3 g.list.length c3) (.slice a4 g.cut.length c4))
      have HZ1 := Lib.hid (((HP1.out.set3 hN6 (.int .i64 g.next) (.slice a1 g.list.length c1) (.slice a2 g.cut.length c2)).set3 hN7 (.int .i64 g.next) (.slice a3 g.list.length c3) (.slice a4 g.cut.length c4)).mono hBW)
      have HZ2 := Lib.hid (((HP2.out.set3 hN6 (.int .i64 g.next) (.slice a1 g.list.length c1) (.slice a2 g.cut.length c2)).set3 hN7 (.int .i64 g.next) (.slice a3 g.list.length c3) (.slice a4 g.cut.length c4)).mono hBW)
      have HZ3 := Lib.hid ((((HP3.out.mono HB1.out.size).set3 hN6 (.int .i64 g.next) (.slice a1 g.list.length c1) (.slice a2 g.cut.length c2)).set3 hN7 (.int .i64 g.next) (.slice a3 g.list.length c3) (.slice a4 g.cut.length c4)).mono hBW)
      have HZ4 := Lib.hid ((((HP4.out.mono HB1.out.size).set3 hN6 (.int .i64 g.next) (.slice a1 g.list.length c1) (.slice a2 g.cut.length c2)).set3 hN7 (.int .i64 g.next) (.slice a3 g.list.length c3) (.slice a4 g.cut.length c4)).mono hBW)
      have HZb := Lib.hid (below_set3 (below_set3 (HB.out.trans (HB2.out.mono HB.out.size)) hNw (.int .i64 g.next) (.slice a1 g.list.length c1) (.slice a2 g.cut.length c2)) hNv (.int .i64 g.next) (.slice a3 g.list.length c3) (.slice a4 g.cut.length c4))
      generalize ((((((W2.setCell ⟨N + 1 + 1 + 1, 0, none⟩ (.int .i64 g.next)).setCell ⟨N + 1 + 1 + 1, 1, none⟩ (.slice a1 g.list.length c1)).setCell ⟨N + 1 + 1 + 1, 2, none⟩ (.slice a2 g.cut.length c2)).setCell ⟨N + 1 + 1 + 1 + 1, 0, none⟩ (.int .i64 g.next)).setCell ⟨N + 1 + 1 + 1 + 1, 1, none⟩ (.slice a3 g.list.length c3)).setCell ⟨N + 1 + 1 + 1 + 1, 2, none⟩ (.slice a4 g.cut.length c4)) = W3 at HZ6 HZ7 HZ1 HZ2 HZ3 HZ4 HZb ⊢
      have HZ6 := Lib.hid (FBox.drew' HZ6.out); have HZ7 := Lib.hid (FBox.drew' HZ7.out)
      have HZd := Lib.hid (below_drew (Below.refl W3.heap.size W3))
      generalize hWd : W3.drew = W4 at HZ6 HZ7 HZd ⊢
      clear hWd
      go_wp2
      refine bodyPost_ret (retAct rfl rfl rfl HZ6.out HZ7.out) rfl ?_
      exact ⟨g, _, _, _, _, rfl, HZ1.out.below HZd.out, HZ2.out.below HZd.out, HZ3.out.below HZd.out, HZ4.out.below HZd.out, HGr.out, HZb.out.trans (HZd.out.mono HZb.out.size)⟩
    exact AllReadyH.nil
  exact AllReadyH.nil

set_option maxHeartbeats 16000000 in
set_option maxRecDepth 100000 in
theorem act_cut (vl1 vc1 vl2 vc2 : Value) (f : Flt) (B K : Nat) (x : ActV) (w : World) (h1 : Own fc 4 38 w B vl1 f.list) (h2 : Own wc 2 40 w B vc1 f.cut) (h3 : Own fc 4 38 w B vl2 f.list) (h4 : Own wc 2 40 w B vc2 f.cut) (hG : Good f K) (hok : x.Ok) (hk : x.kind = 4) (hK : (K + 2) * 16 ≤ 140737488355328) (hB : B ≤ w.heap.size) :
    Calls Tryz.prog 7 #[.agg #[.int .i64 f.next, vl1, vc1], .agg #[.int .i64 f.next, vl2, vc2], .agg #[.int .i64 x.kind, .int .i64 x.num, .int .i64 x.src, .int .i64 x.dst, .string x.body, .slice x.va x.vn x.vc, .slice x.ua x.un x.uc]] w (ActS w B (K + 1)) := by
  obtain ⟨p1, q1, rfl⟩ := h1.slice
  obtain ⟨p2, q2, rfl⟩ := h2.slice
  obtain ⟨p3, q3, rfl⟩ := h3.slice
  obtain ⟨p4, q4, rfl⟩ := h4.slice
  have HO1 := Lib.hid h1; have HO2 := Lib.hid h2; have HO3 := Lib.hid h3; have HO4 := Lib.hid h4; have HG := Lib.hid hG; have HOk := Lib.hid hok; have HK := Lib.hid hK; have HBl := Lib.hid hB
  have HF1 := Lib.hid (show FlR w (.agg #[.int .i64 f.next, .slice p1 f.list.length q1, .slice p2 f.cut.length q2]) f from ⟨_, _, rfl, h1.read fc_len, h2.read wc_len⟩)
  have HF2 := Lib.hid (show FlR w (.agg #[.int .i64 f.next, .slice p3 f.list.length q3, .slice p4 f.cut.length q4]) f from ⟨_, _, rfl, h3.read fc_len, h4.read wc_len⟩)
  obtain ⟨kd, nm, sr, ds, bo, va, vn, vcp, ua, un, ucp⟩ := x
  simp only at hk
  subst hk
  obtain ⟨W, hW⟩ : ∃ W, W = ((((w.alloc (.cells #[.int .i64 f.next, .slice p1 f.list.length q1, .slice p2 f.cut.length q2] 25)).alloc (.cells #[.int .i64 f.next, .slice p3 f.list.length q3, .slice p4 f.cut.length q4] 25)).alloc (.cells #[.int .i64 4, .int .i64 nm, .int .i64 sr, .int .i64 ds, .string bo, .slice va vn vcp, .slice ua un ucp] 34)).alloc (.cells #[.int .i64 0, .slice none 0 0, .slice none 0 0] 25)).alloc (.cells #[.int .i64 0, .slice none 0 0, .slice none 0 0] 25) := ⟨_, rfl⟩
  have HS := Lib.hid (head_any w f.next (.slice p1 f.list.length q1) (.slice p2 f.cut.length q2) (.slice p3 f.list.length q3) (.slice p4 f.cut.length q4) ⟨4, nm, sr, ds, bo, va, vn, vcp, ua, un, ucp⟩ W hW)
  clear h1 h2 h3 h4 hG hok hK hB
  go_enter Tryz.func7, Tryz.ntmps7
  go_upto_region 1 with fail
  rw [← hW]
  obtain ⟨hb, hx1, hx2, hxa, hx6, hx7⟩ := HS.out
  have HB := Lib.hid hb; have HX1 := Lib.hid hx1; have HX2 := Lib.hid hx2; have HXa := Lib.hid hxa; have HX6 := Lib.hid hx6; have HX7 := Lib.hid hx7
  clear hb hx1 hx2 hxa hx6 hx7 HS hW
  obtain ⟨N, hN⟩ : ∃ N, w.heap.size = N := ⟨_, rfl⟩
  have HN := Lib.hid hN
  rw [hN] at HX1 HX2 HXa HX6 HX7 ⊢
  clear hN
  have HF1 := Lib.hid (HF1.out.keep HB.out); have HF2 := Lib.hid (HF2.out.keep HB.out)
  obtain ⟨b0, b1, b2, b3, b4, b5, b6⟩ := HXa.out.cells
  simp only at b0 b1 b2 b3 b4 b5 b6
  obtain ⟨e1, e2, e3⟩ := HX1.out.cells
  obtain ⟨g, hr⟩ : ∃ g, cutE f sr ds = g := ⟨_, rfl⟩
  have HR := Lib.hid hr
  have HGr := Lib.hid (show Good g (K + 1) from by have := (good_cut HG.out sr ds HOk.out.1).1; rw [hr] at this; exact this)
  clear hr
  obtain ⟨q, hq⟩ : ∃ q : Int, (f.list.length : Int) - (g.list.length : Nat) = q := ⟨_, rfl⟩
  have HQ := Lib.hid hq
  clear hq
  have hl1 : Hid ((f.list.length + 1) * 40 ≤ 140737488355328) := Lib.hid (by have := HG.out.len; omega)
  have hl2 : Hid ((f.cut.length + 1) * 16 ≤ 140737488355328) := Lib.hid (by have := HG.out.cl; have := HK.out; omega)
  have HFt := Lib.hid (HG.out.fits (by have := HK.out; omega))
  go_wp2_with fail
  refine (Cut_any _ f sr ds _ HF1.out HFt.out HOk.out.1 hl2.out).mono ?_
  rintro e w1 h1
  have h1 : TwoS _ (cutE f sr ds) ((f.list.length : Int) - ((cutE f sr ds).list.length : Nat)) _ _ := h1
  rw [HR.out, HQ.out] at h1
  obtain ⟨ul, uc, rfl, ho1, ho2, hb⟩ := h1
  simp only at ho1 ho2 ⊢
  obtain ⟨a1, c1, rfl⟩ := ho1.slice
  obtain ⟨a2, c2, rfl⟩ := ho2.slice
  have hn := below_new w1 (.cells #[.int .i64 g.next, .slice a1 g.list.length c1, .slice a2 g.cut.length c2] 25)
  have HY1 := Lib.hid (fbox_new w1 g.next (.slice a1 g.list.length c1) (.slice a2 g.cut.length c2))
  have hbb := hb.trans (hn.mono hb.size)
  have HP1 := Lib.hid (ho1.below hn); have HP2 := Lib.hid (ho2.below hn); have HB1 := Lib.hid hbb
  have hsz1 := hb.size
  clear ho1 ho2 hb hn hbb e1 e2 e3 b0 b1 b2 b3 b4 b5 b6
  go_upto_region 16 with fail
  generalize (w1.alloc (.cells #[.int .i64 g.next, .slice a1 g.list.length c1, .slice a2 g.cut.length c2] 25)) = W1 at HY1 HP1 HP2 HB1 ⊢
  have hq9 : N + 5 ≤ w1.heap.size := by have := HX7.out.lt; have := hsz1; omega
  generalize w1.heap.size = N9 at HY1 hq9 ⊢
  obtain ⟨b0, b1, b2, b3, b4, b5, b6⟩ := (HXa.out.keep HB1.out).cells
  simp only at b0 b1 b2 b3 b4 b5 b6
  obtain ⟨e1, e2, e3⟩ := (HX2.out.keep HB1.out).cells
  go_wp2_with fail
  refine (rCut_good _ _ sr ds _ B ((HO3.out.below HB.out).below HB1.out) ((HO4.out.below HB.out).below HB1.out) HG.out (by have := HK.out; omega)).mono ?_
  rintro e w2 h1
  have h1 : TwoS _ (cutE f sr ds) ((f.list.length : Int) - ((cutE f sr ds).list.length : Nat)) _ _ := h1
  rw [HR.out, HQ.out] at h1
  obtain ⟨ul, uc, rfl, ho1, ho2, hb⟩ := h1
  simp only at ho1 ho2 ⊢
  obtain ⟨a3, c3, rfl⟩ := ho1.slice
  obtain ⟨a4, c4, rfl⟩ := ho2.slice
  have hn := below_new w2 (.cells #[.int .i64 g.next, .slice a3 g.list.length c3, .slice a4 g.cut.length c4] 25)
  have HY2 := Lib.hid (fbox_new w2 g.next (.slice a3 g.list.length c3) (.slice a4 g.cut.length c4))
  have hbb := hb.trans (hn.mono hb.size)
  have HY1 := Lib.hid (HY1.out.keep hbb)
  have HP1 := Lib.hid (HP1.out.below hbb); have HP2 := Lib.hid (HP2.out.below hbb); have HP3 := Lib.hid (ho1.below hn); have HP4 := Lib.hid (ho2.below hn)
  have HB2 := Lib.hid (HB1.out.trans (hbb.mono HB1.out.size))
  have hsz2 := hb.size
  have hsz3 := HB1.out.size
  have hsz4 := HX7.out.lt
  clear ho1 ho2 hb hn hbb e1 e2 e3 b0 b1 b2 b3 b4 b5 b6
  go_upto_region 17 with fail
  generalize (w2.alloc (.cells #[.int .i64 g.next, .slice a3 g.list.length c3, .slice a4 g.cut.length c4] 25)) = W2 at HY1 HY2 HP1 HP2 HP3 HP4 HB2 ⊢
  have hq12 : N + 5 ≤ w2.heap.size := by omega
  generalize w2.heap.size = N12 at HY2 hq12 ⊢
  have HNe : Hid (N9 ≠ N + 1 + 1 + 1 ∧ N9 ≠ N + 1 + 1 + 1 + 1 ∧ N12 ≠ N + 1 + 1 + 1 ∧ N12 ≠ N + 1 + 1 + 1 + 1 ∧ N9 + 1 ≠ N + 1 + 1 + 1 ∧ N9 + 1 ≠ N + 1 + 1 + 1 + 1 ∧ N12 + 1 ≠ N + 1 + 1 + 1 ∧ N12 + 1 ≠ N + 1 + 1 + 1 + 1) := Lib.hid (by omega)
  clear hq9 hq12 hsz1 hsz2 hsz3 hsz4
  have HX62 := Lib.hid (HX6.out.keep HB2.out); have HX72 := Lib.hid (HX7.out.keep HB2.out)
  obtain ⟨e1, e2, e3⟩ := HY1.out.cells
  obtain ⟨k1, k2, k3⟩ := HY2.out.cells
  obtain ⟨s1, s2, s3⟩ := HX62.out.cells
  obtain ⟨t1, t2, t3⟩ := HX62.out.thaw
  obtain ⟨s4, s5, s6⟩ := HX72.out.cells
  obtain ⟨t4, t5, t6⟩ := HX72.out.thaw
  have hn6 : N9 ≠ N + 1 + 1 + 1 := HNe.out.1
  have hn7 : N9 ≠ N + 1 + 1 + 1 + 1 := HNe.out.2.1
  have hm6 : N12 ≠ N + 1 + 1 + 1 := HNe.out.2.2.1
  have hm7 : N12 ≠ N + 1 + 1 + 1 + 1 := HNe.out.2.2.2.1
  have h67 : N + 1 + 1 + 1 ≠ N + 1 + 1 + 1 + 1 := by omega
  have h76 : N + 1 + 1 + 1 + 1 ≠ N + 1 + 1 + 1 := by omega
  have HSs : Hid (∀ u : World, FBox u N9 g.next (.slice a1 g.list.length c1) (.slice a2 g.cut.length c2) → FBox u N12 g.next (.slice a3 g.list.length c3) (.slice a4 g.cut.length c4) → ((u.cell? ⟨N9, 0, none⟩ = some (.int .i64 g.next) ∧ u.cell? ⟨N9, 1, none⟩ = some (.slice a1 g.list.length c1) ∧ u.cell? ⟨N9, 2, none⟩ = some (.slice a2 g.cut.length c2)) ∧ (u.cell? ⟨N12, 0, none⟩ = some (.int .i64 g.next) ∧ u.cell? ⟨N12, 1, none⟩ = some (.slice a3 g.list.length c3) ∧ u.cell? ⟨N12, 2, none⟩ = some (.slice a4 g.cut.length c4)))) := Lib.hid (fun u x1 x2 => ⟨x1.cells, x2.cells⟩)
  refine wp_region_held_drew (S := fun u => (u.cell? ⟨N9, 0, none⟩ = some (.int .i64 g.next) ∧ u.cell? ⟨N9, 1, none⟩ = some (.slice a1 g.list.length c1) ∧ u.cell? ⟨N9, 2, none⟩ = some (.slice a2 g.cut.length c2)) ∧ (u.cell? ⟨N12, 0, none⟩ = some (.int .i64 g.next) ∧ u.cell? ⟨N12, 1, none⟩ = some (.slice a3 g.list.length c3) ∧ u.cell? ⟨N12, 2, none⟩ = some (.slice a4 g.cut.length c4))) (by kernel_rfl) (HSs.out _ HY1.out HY2.out) (fun hHeld => ?_)
  refine wpAnyH_take (i := 0) (oi := { dst := some 157, op := Op.load 25 (Operand.tmp 27), type := 25, pos := "law.go:62", after := #[], guard := none }) (v := ?_) rfl (by kernel_rfl) (by kernel_rfl) (by kernel_rfl) (fun _ _ _ h => h) (Or.inl ⟨by rfl, ?_⟩) hHeld ?_
  rotate_left 1
  · intro W hSw
    (try dsimp only at hSw)
    go_simp
    try with_reducible rfl
  try simp only [Act.put, List.setIfInBounds_toArray, List.set_cons_zero, List.set_cons_succ]
  refine wpAnyH_take (i := 1) (oi := { dst := some 158, op := Op.load 25 (Operand.tmp 29), type := 25, pos := "law.go:62", after := #[{ on := 5, ground := Ground.gcOnly Departure.lateStores }], guard := none }) (v := ?_) rfl (by kernel_rfl) (by kernel_rfl) (by kernel_rfl) (fun _ _ _ h => h) (Or.inl ⟨by rfl, ?_⟩) hHeld ?_
  rotate_left 1
  · intro W hSw
    (try dsimp only at hSw)
    go_simp
    try with_reducible rfl
  try simp only [Act.put, List.setIfInBounds_toArray, List.set_cons_zero, List.set_cons_succ]
  refine wpAnyH_take (i := 2) (oi := { dst := some 159, op := Op.move (Operand.tmp 28), type := 3, pos := "law.go:62", after := #[{ on := 6, ground := Ground.gcOnly Departure.lateStores }], guard := none }) (v := ?_) rfl (by kernel_rfl) (by kernel_rfl) (by kernel_rfl) (fun _ _ _ h => h) (Or.inl ⟨by rfl, ?_⟩) hHeld ?_
  rotate_left 1
  · intro W hSw
    (try dsimp only at hSw)
    go_simp
    try with_reducible rfl
  try simp only [Act.put, List.setIfInBounds_toArray, List.set_cons_zero, List.set_cons_succ]
  refine wpAnyH_take (i := 3) (oi := { dst := some 160, op := Op.move (Operand.tmp 30), type := 3, pos := "law.go:62", after := #[{ on := 6, ground := Ground.gcOnly Departure.lateStores }], guard := none }) (v := ?_) rfl (by kernel_rfl) (by kernel_rfl) (by kernel_rfl) (fun _ _ _ h => h) (Or.inl ⟨by rfl, ?_⟩) hHeld ?_
  rotate_left 1
  · intro W hSw
    (try dsimp only at hSw)
    go_simp
    try with_reducible rfl
  try simp only [Act.put, List.setIfInBounds_toArray, List.set_cons_zero, List.set_cons_succ]
  refine wpAnyH_take (i := 4) (oi := { dst := some 161, op := Op.binOp BinOp.eql 3 (Operand.tmp 159) (Operand.tmp 160) 3, type := 4, pos := "law.go:62", after := #[{ on := 2, ground := Ground.data }, { on := 3, ground := Ground.data }, { on := 6, ground := Ground.gcOnly Departure.lateStores }], guard := none }) (v := ?_) rfl (by kernel_rfl) (by kernel_rfl) (by kernel_rfl) (fun _ _ _ h => h) (Or.inl ⟨by rfl, ?_⟩) hHeld ?_
  rotate_left 1
  · intro W hSw
    (try dsimp only at hSw)
    go_simp
    try with_reducible rfl
  try simp only [Act.put, List.setIfInBounds_toArray, List.set_cons_zero, List.set_cons_succ]
  refine wpAnyH_ready (rs := [5]) (by kernel_rfl) (by simp) ?_
  refine AllReadyH.cons (o := { dst := none, op := Op.store 25 (Operand.tmp 6) (Operand.tmp 157), type := 0, pos := "law.go:62", after := #[{ on := 0, ground := Ground.data }, { on := 0, ground := Ground.phase }, { on := 1, ground := Ground.textOnly Departure.lateStores }, { on := 2, ground := Ground.textOnly Departure.lateStores }, { on := 3, ground := Ground.textOnly Departure.lateStores }, { on := 4, ground := Ground.textOnly Departure.lateStores }], guard := none }) rfl (fun K7 hK7 => ?_) ?_
  · go_simp
    refine hK7.out _ _ (HSs.out _ (FBox.drew' (HY1.out.other hn6 _ _ _)) (FBox.drew' (HY2.out.other hm6 _ _ _))) (fun hHeld => ?_)
    clear hK7 K7
    try simp only [Act.put, List.setIfInBounds_toArray, List.set_cons_zero, List.set_cons_succ]
    refine wpAnyH_ready (rs := [6]) (by kernel_rfl) (by simp) ?_
    refine AllReadyH.cons (o := { dst := none, op := Op.store 25 (Operand.tmp 7) (Operand.tmp 158), type := 0, pos := "law.go:62", after := #[{ on := 1, ground := Ground.data }, { on := 5, ground := Ground.chain }, { on := 0, ground := Ground.phase }, { on := 1, ground := Ground.phase }, { on := 2, ground := Ground.textOnly Departure.lateStores }, { on := 3, ground := Ground.textOnly Departure.lateStores }, { on := 4, ground := Ground.textOnly Departure.lateStores }, { on := 5, ground := Ground.phase }], guard := none }) rfl (fun K7 hK7 => ?_) ?_
    · go_simp
      refine hK7.out _ _ (HSs.out _ (FBox.drew' ((HY1.out.other hn6 _ _ _).other hn7 _ _ _)) (FBox.drew' ((HY2.out.other hm6 _ _ _).other hm7 _ _ _))) (fun hHeld => ?_)
      clear hK7 K7
      try simp only [Act.put, List.setIfInBounds_toArray, List.set_cons_zero, List.set_cons_succ]
      refine wpAnyH_take (i := 7) (oi := { dst := some 8, op := Op.assign (Operand.tmp 161), type := 4, pos := "law.go:62", after := #[{ on := 4, ground := Ground.data }, { on := 6, ground := Ground.chain }, { on := 0, ground := Ground.phase }, { on := 1, ground := Ground.phase }, { on := 2, ground := Ground.phase }, { on := 3, ground := Ground.phase }, { on := 4, ground := Ground.phase }, { on := 5, ground := Ground.phase }, { on := 6, ground := Ground.phase }], guard := none }) (v := ?_) rfl (by kernel_rfl) (by kernel_rfl) (by kernel_rfl) (fun _ _ _ h => h) (Or.inl ⟨by rfl, ?_⟩) hHeld ?_
      rotate_left 1
      · intro W hSw
        (try dsimp only at hSw)
        go_simp
        try with_reducible rfl
      try simp only [Act.put, List.setIfInBounds_toArray, List.set_cons_zero, List.set_cons_succ]
      refine wpAnyH_done (by kernel_rfl) ?_ _
      clear hHeld e1 e2 e3 k1 k2 k3 s1 s2 s3 s4 s5 s6 t1 t2 t3 t4 t5 t6
      have hN6 : N + 1 + 1 + 1 < W.heap.size := HX6.out.lt
      have hN7 : N + 1 + 1 + 1 + 1 < W.heap.size := HX7.out.lt
      have hNw : w.heap.size ≤ N + 1 + 1 + 1 := by have := HN.out; omega
      have hNv : w.heap.size ≤ N + 1 + 1 + 1 + 1 := by have := HN.out; omega
      have hBW : B ≤ W.heap.size := Nat.le_trans HBl.out HB.out.size
      have HZ6 := Lib.hid ((HX62.out.set g.next (.slice a1 g.list.length c1) (.slice a2 g.cut.length c2)).other h67 (.int .i64 g.next) (.slice a3 g.list.length c3) (.slice a4 g.cut.length c4))
      have HZ7 := Lib.hid ((HX72.out.other h76 (.int .i64 g.next) (.slice a1 g.list.length c1) (.slice a2 g.cut.length c2)).set g.next (.slice a3 g.list.length c3) (.slice a4 g.cut.length c4))
      have HZ1 := Lib.hid (((HP1.out.set3 hN6 (.int .i64 g.next) (.slice a1 g.list.length c1) (.slice a2 g.cut.length c2)).set3 hN7 (.int .i64 g.next) (.slice a3 g.list.length c3) (.slice a4 g.cut.length c4)).mono hBW)
      have HZ2 := Lib.hid (((HP2.out.set3 hN6 (.int .i64 g.next) (.slice a1 g.list.length c1) (.slice a2 g.cut.length c2)).set3 hN7 (.int .i64 g.next) (.slice a3 g.list.length c3) (.slice a4 g.cut.length c4)).mono hBW)
      have HZ3 := Lib.hid ((((HP3.out.mono HB1.out.size).set3 hN6 (.int .i64 g.next) (.slice a1 g.list.length c1) (.slice a2 g.cut.length c2)).set3 hN7 (.int .i64 g.next) (.slice a3 g.list.length c3) (.slice a4 g.cut.length c4)).mono hBW)
      have HZ4 := Lib.hid ((((HP4.out.mono HB1.out.size).set3 hN6 (.int .i64 g.next) (.slice a1 g.list.length c1) (.slice a2 g.cut.length c2)).set3 hN7 (.int .i64 g.next) (.slice a3 g.list.length c3) (.slice a4 g.cut.length c4)).mono hBW)
      have HZb := Lib.hid (below_set3 (below_set3 (HB.out.trans (HB2.out.mono HB.out.size)) hNw (.int .i64 g.next) (.slice a1 g.list.length c1) (.slice a2 g.cut.length c2)) hNv (.int .i64 g.next) (.slice a3 g.list.length c3) (.slice a4 g.cut.length c4))
      generalize ((((((W2.setCell ⟨N + 1 + 1 + 1, 0, none⟩ (.int .i64 g.next)).setCell ⟨N + 1 + 1 + 1, 1, none⟩ (.slice a1 g.list.length c1)).setCell ⟨N + 1 + 1 + 1, 2, none⟩ (.slice a2 g.cut.length c2)).setCell ⟨N + 1 + 1 + 1 + 1, 0, none⟩ (.int .i64 g.next)).setCell ⟨N + 1 + 1 + 1 + 1, 1, none⟩ (.slice a3 g.list.length c3)).setCell ⟨N + 1 + 1 + 1 + 1, 2, none⟩ (.slice a4 g.cut.length c4)) = W3 at HZ6 HZ7 HZ1 HZ2 HZ3 HZ4 HZb ⊢
      have HZ6 := Lib.hid (FBox.drew' HZ6.out); have HZ7 := Lib.hid (FBox.drew' HZ7.out)
      have HZd := Lib.hid (below_drew (Below.refl W3.heap.size W3))
      generalize hWd : W3.drew = W4 at HZ6 HZ7 HZd ⊢
      clear hWd
      go_wp2
      refine bodyPost_ret (retAct rfl rfl rfl HZ6.out HZ7.out) rfl ?_
      exact ⟨g, _, _, _, _, rfl, HZ1.out.below HZd.out, HZ2.out.below HZd.out, HZ3.out.below HZd.out, HZ4.out.below HZd.out, HGr.out, HZb.out.trans (HZd.out.mono HZb.out.size)⟩
    exact AllReadyH.nil
  exact AllReadyH.nil

set_option maxHeartbeats 16000000 in
set_option maxRecDepth 100000 in
theorem act_join (vl1 vc1 vl2 vc2 : Value) (f : Flt) (B K : Nat) (x : ActV) (w : World) (h1 : Own fc 4 38 w B vl1 f.list) (h2 : Own wc 2 40 w B vc1 f.cut) (h3 : Own fc 4 38 w B vl2 f.list) (h4 : Own wc 2 40 w B vc2 f.cut) (hG : Good f K) (hok : x.Ok) (hk : x.kind = 5) (hK : (K + 2) * 16 ≤ 140737488355328) (hB : B ≤ w.heap.size) :
    Calls Tryz.prog 7 #[.agg #[.int .i64 f.next, vl1, vc1], .agg #[.int .i64 f.next, vl2, vc2], .agg #[.int .i64 x.kind, .int .i64 x.num, .int .i64 x.src, .int .i64 x.dst, .string x.body, .slice x.va x.vn x.vc, .slice x.ua x.un x.uc]] w (ActS w B (K)) := by
  obtain ⟨p1, q1, rfl⟩ := h1.slice
  obtain ⟨p2, q2, rfl⟩ := h2.slice
  obtain ⟨p3, q3, rfl⟩ := h3.slice
  obtain ⟨p4, q4, rfl⟩ := h4.slice
  have HO1 := Lib.hid h1; have HO2 := Lib.hid h2; have HO3 := Lib.hid h3; have HO4 := Lib.hid h4; have HG := Lib.hid hG; have HOk := Lib.hid hok; have HK := Lib.hid hK; have HBl := Lib.hid hB
  have HF1 := Lib.hid (show FlR w (.agg #[.int .i64 f.next, .slice p1 f.list.length q1, .slice p2 f.cut.length q2]) f from ⟨_, _, rfl, h1.read fc_len, h2.read wc_len⟩)
  have HF2 := Lib.hid (show FlR w (.agg #[.int .i64 f.next, .slice p3 f.list.length q3, .slice p4 f.cut.length q4]) f from ⟨_, _, rfl, h3.read fc_len, h4.read wc_len⟩)
  obtain ⟨kd, nm, sr, ds, bo, va, vn, vcp, ua, un, ucp⟩ := x
  simp only at hk
  subst hk
  obtain ⟨W, hW⟩ : ∃ W, W = ((((w.alloc (.cells #[.int .i64 f.next, .slice p1 f.list.length q1, .slice p2 f.cut.length q2] 25)).alloc (.cells #[.int .i64 f.next, .slice p3 f.list.length q3, .slice p4 f.cut.length q4] 25)).alloc (.cells #[.int .i64 5, .int .i64 nm, .int .i64 sr, .int .i64 ds, .string bo, .slice va vn vcp, .slice ua un ucp] 34)).alloc (.cells #[.int .i64 0, .slice none 0 0, .slice none 0 0] 25)).alloc (.cells #[.int .i64 0, .slice none 0 0, .slice none 0 0] 25) := ⟨_, rfl⟩
  have HS := Lib.hid (head_any w f.next (.slice p1 f.list.length q1) (.slice p2 f.cut.length q2) (.slice p3 f.list.length q3) (.slice p4 f.cut.length q4) ⟨5, nm, sr, ds, bo, va, vn, vcp, ua, un, ucp⟩ W hW)
  clear h1 h2 h3 h4 hG hok hK hB
  go_enter Tryz.func7, Tryz.ntmps7
  go_upto_region 1 with fail
  rw [← hW]
  obtain ⟨hb, hx1, hx2, hxa, hx6, hx7⟩ := HS.out
  have HB := Lib.hid hb; have HX1 := Lib.hid hx1; have HX2 := Lib.hid hx2; have HXa := Lib.hid hxa; have HX6 := Lib.hid hx6; have HX7 := Lib.hid hx7
  clear hb hx1 hx2 hxa hx6 hx7 HS hW
  obtain ⟨N, hN⟩ : ∃ N, w.heap.size = N := ⟨_, rfl⟩
  have HN := Lib.hid hN
  rw [hN] at HX1 HX2 HXa HX6 HX7 ⊢
  clear hN
  have HF1 := Lib.hid (HF1.out.keep HB.out); have HF2 := Lib.hid (HF2.out.keep HB.out)
  obtain ⟨b0, b1, b2, b3, b4, b5, b6⟩ := HXa.out.cells
  simp only at b0 b1 b2 b3 b4 b5 b6
  obtain ⟨e1, e2, e3⟩ := HX1.out.cells
  obtain ⟨g, hr⟩ : ∃ g, joinE f (sr, ds) = g := ⟨_, rfl⟩
  have HR := Lib.hid hr
  have HGr := Lib.hid (show Good g (K) from by have := good_join HG.out (sr, ds); rw [hr] at this; exact this)
  clear hr
  obtain ⟨q, hq⟩ : ∃ q : Bool, decide ((sr, ds) ∈ f.cut) = q := ⟨_, rfl⟩
  have HQ := Lib.hid hq
  clear hq
  have hl1 : Hid ((f.list.length + 1) * 40 ≤ 140737488355328) := Lib.hid (by have := HG.out.len; omega)
  have hl2 : Hid ((f.cut.length + 1) * 16 ≤ 140737488355328) := Lib.hid (by have := HG.out.cl; have := HK.out; omega)
  have HFt := Lib.hid (HG.out.fits (by have := HK.out; omega))
  go_wp2_with fail
  refine (Join_any _ f sr ds _ HF1.out HFt.out HOk.out.1 HG.out.nodup).mono ?_
  rintro e w1 h1
  rw [HR.out, HQ.out] at h1
  obtain ⟨ul, uc, rfl, ho1, ho2, hb⟩ := h1
  simp only at ho1 ho2 ⊢
  obtain ⟨a1, c1, rfl⟩ := ho1.slice
  obtain ⟨a2, c2, rfl⟩ := ho2.slice
  have hn := below_new w1 (.cells #[.int .i64 g.next, .slice a1 g.list.length c1, .slice a2 g.cut.length c2] 25)
  have HY1 := Lib.hid (fbox_new w1 g.next (.slice a1 g.list.length c1) (.slice a2 g.cut.length c2))
  have hbb := hb.trans (hn.mono hb.size)
  have HP1 := Lib.hid (ho1.below hn); have HP2 := Lib.hid (ho2.below hn); have HB1 := Lib.hid hbb
  have hsz1 := hb.size
  clear ho1 ho2 hb hn hbb e1 e2 e3 b0 b1 b2 b3 b4 b5 b6
  go_upto_region 20 with fail
  generalize (w1.alloc (.cells #[.int .i64 g.next, .slice a1 g.list.length c1, .slice a2 g.cut.length c2] 25)) = W1 at HY1 HP1 HP2 HB1 ⊢
  have hq9 : N + 5 ≤ w1.heap.size := by have := HX7.out.lt; have := hsz1; omega
  generalize w1.heap.size = N9 at HY1 hq9 ⊢
  obtain ⟨b0, b1, b2, b3, b4, b5, b6⟩ := (HXa.out.keep HB1.out).cells
  simp only at b0 b1 b2 b3 b4 b5 b6
  obtain ⟨e1, e2, e3⟩ := (HX2.out.keep HB1.out).cells
  go_wp2_with fail
  refine (rJoin_any _ f sr ds _ (HF2.out.keep HB1.out) (by have := hl1.out; omega) (by have := hl2.out; omega) (fun vn vl ax m cx he => by simp at he; obtain ⟨_, _, rfl, rfl, rfl⟩ := he; exact own_cap HO4.out)).mono ?_
  rintro e w2 h1
  have h1 : TwoB W1 g q e w2 := by
    rcases h1 with ⟨hno, h1⟩ | ⟨i, hi, hci, h1⟩
    · rw [← HR.out, join_no hno]
      have hq : q = false := by rw [← HQ.out]; simp [hno]
      rw [hq]; exact h1
    · rw [join_yes HG.out hi hci] at h1
      have hq : q = true := by rw [← HQ.out]; simp only [decide_eq_true_eq]; rw [← hci]; exact List.getElem_mem hi
      rw [hq, ← HR.out]; exact h1
  obtain ⟨ul, uc, rfl, ho1, ho2, hb⟩ := h1
  simp only at ho1 ho2 ⊢
  obtain ⟨a3, c3, rfl⟩ := ho1.slice
  obtain ⟨a4, c4, rfl⟩ := ho2.slice
  have hn := below_new w2 (.cells #[.int .i64 g.next, .slice a3 g.list.length c3, .slice a4 g.cut.length c4] 25)
  have HY2 := Lib.hid (fbox_new w2 g.next (.slice a3 g.list.length c3) (.slice a4 g.cut.length c4))
  have hbb := hb.trans (hn.mono hb.size)
  have HY1 := Lib.hid (HY1.out.keep hbb)
  have HP1 := Lib.hid (HP1.out.below hbb); have HP2 := Lib.hid (HP2.out.below hbb); have HP3 := Lib.hid (ho1.below hn); have HP4 := Lib.hid (ho2.below hn)
  have HB2 := Lib.hid (HB1.out.trans (hbb.mono HB1.out.size))
  have hsz2 := hb.size
  have hsz3 := HB1.out.size
  have hsz4 := HX7.out.lt
  clear ho1 ho2 hb hn hbb e1 e2 e3 b0 b1 b2 b3 b4 b5 b6
  go_upto_region 21 with fail
  generalize (w2.alloc (.cells #[.int .i64 g.next, .slice a3 g.list.length c3, .slice a4 g.cut.length c4] 25)) = W2 at HY1 HY2 HP1 HP2 HP3 HP4 HB2 ⊢
  have hq12 : N + 5 ≤ w2.heap.size := by omega
  generalize w2.heap.size = N12 at HY2 hq12 ⊢
  have HNe : Hid (N9 ≠ N + 1 + 1 + 1 ∧ N9 ≠ N + 1 + 1 + 1 + 1 ∧ N12 ≠ N + 1 + 1 + 1 ∧ N12 ≠ N + 1 + 1 + 1 + 1 ∧ N9 + 1 ≠ N + 1 + 1 + 1 ∧ N9 + 1 ≠ N + 1 + 1 + 1 + 1 ∧ N12 + 1 ≠ N + 1 + 1 + 1 ∧ N12 + 1 ≠ N + 1 + 1 + 1 + 1) := Lib.hid (by omega)
  clear hq9 hq12 hsz1 hsz2 hsz3 hsz4
  have HX62 := Lib.hid (HX6.out.keep HB2.out); have HX72 := Lib.hid (HX7.out.keep HB2.out)
  obtain ⟨e1, e2, e3⟩ := HY1.out.cells
  obtain ⟨k1, k2, k3⟩ := HY2.out.cells
  obtain ⟨s1, s2, s3⟩ := HX62.out.cells
  obtain ⟨t1, t2, t3⟩ := HX62.out.thaw
  obtain ⟨s4, s5, s6⟩ := HX72.out.cells
  obtain ⟨t4, t5, t6⟩ := HX72.out.thaw
  have hn6 : N9 ≠ N + 1 + 1 + 1 := HNe.out.1
  have hn7 : N9 ≠ N + 1 + 1 + 1 + 1 := HNe.out.2.1
  have hm6 : N12 ≠ N + 1 + 1 + 1 := HNe.out.2.2.1
  have hm7 : N12 ≠ N + 1 + 1 + 1 + 1 := HNe.out.2.2.2.1
  have h67 : N + 1 + 1 + 1 ≠ N + 1 + 1 + 1 + 1 := by omega
  have h76 : N + 1 + 1 + 1 + 1 ≠ N + 1 + 1 + 1 := by omega
  have HSs : Hid (∀ u : World, FBox u N9 g.next (.slice a1 g.list.length c1) (.slice a2 g.cut.length c2) → FBox u N12 g.next (.slice a3 g.list.length c3) (.slice a4 g.cut.length c4) → ((u.cell? ⟨N9, 0, none⟩ = some (.int .i64 g.next) ∧ u.cell? ⟨N9, 1, none⟩ = some (.slice a1 g.list.length c1) ∧ u.cell? ⟨N9, 2, none⟩ = some (.slice a2 g.cut.length c2)) ∧ (u.cell? ⟨N12, 0, none⟩ = some (.int .i64 g.next) ∧ u.cell? ⟨N12, 1, none⟩ = some (.slice a3 g.list.length c3) ∧ u.cell? ⟨N12, 2, none⟩ = some (.slice a4 g.cut.length c4)))) := Lib.hid (fun u x1 x2 => ⟨x1.cells, x2.cells⟩)
  refine wp_region_held_drew (S := fun u => (u.cell? ⟨N9, 0, none⟩ = some (.int .i64 g.next) ∧ u.cell? ⟨N9, 1, none⟩ = some (.slice a1 g.list.length c1) ∧ u.cell? ⟨N9, 2, none⟩ = some (.slice a2 g.cut.length c2)) ∧ (u.cell? ⟨N12, 0, none⟩ = some (.int .i64 g.next) ∧ u.cell? ⟨N12, 1, none⟩ = some (.slice a3 g.list.length c3) ∧ u.cell? ⟨N12, 2, none⟩ = some (.slice a4 g.cut.length c4))) (by kernel_rfl) (HSs.out _ HY1.out HY2.out) (fun hHeld => ?_)
  refine wpAnyH_take (i := 0) (oi := { dst := some 182, op := Op.load 25 (Operand.tmp 31), type := 25, pos := "law.go:66", after := #[], guard := none }) (v := ?_) rfl (by kernel_rfl) (by kernel_rfl) (by kernel_rfl) (fun _ _ _ h => h) (Or.inl ⟨by rfl, ?_⟩) hHeld ?_
  rotate_left 1
  · intro W hSw
    (try dsimp only at hSw)
    go_simp
    try with_reducible rfl
  try simp only [Act.put, List.setIfInBounds_toArray, List.set_cons_zero, List.set_cons_succ]
  refine wpAnyH_take (i := 1) (oi := { dst := some 183, op := Op.load 25 (Operand.tmp 33), type := 25, pos := "law.go:66", after := #[{ on := 5, ground := Ground.gcOnly Departure.lateStores }], guard := none }) (v := ?_) rfl (by kernel_rfl) (by kernel_rfl) (by kernel_rfl) (fun _ _ _ h => h) (Or.inl ⟨by rfl, ?_⟩) hHeld ?_
  rotate_left 1
  · intro W hSw
    (try dsimp only at hSw)
    go_simp
    try with_reducible rfl
  try simp only [Act.put, List.setIfInBounds_toArray, List.set_cons_zero, List.set_cons_succ]
  refine wpAnyH_take (i := 2) (oi := { dst := some 184, op := Op.move (Operand.tmp 32), type := 4, pos := "law.go:66", after := #[{ on := 6, ground := Ground.gcOnly Departure.lateStores }], guard := none }) (v := ?_) rfl (by kernel_rfl) (by kernel_rfl) (by kernel_rfl) (fun _ _ _ h => h) (Or.inl ⟨by rfl, ?_⟩) hHeld ?_
  rotate_left 1
  · intro W hSw
    (try dsimp only at hSw)
    go_simp
    try with_reducible rfl
  try simp only [Act.put, List.setIfInBounds_toArray, List.set_cons_zero, List.set_cons_succ]
  refine wpAnyH_take (i := 3) (oi := { dst := some 185, op := Op.move (Operand.tmp 34), type := 4, pos := "law.go:66", after := #[{ on := 6, ground := Ground.gcOnly Departure.lateStores }], guard := none }) (v := ?_) rfl (by kernel_rfl) (by kernel_rfl) (by kernel_rfl) (fun _ _ _ h => h) (Or.inl ⟨by rfl, ?_⟩) hHeld ?_
  rotate_left 1
  · intro W hSw
    (try dsimp only at hSw)
    go_simp
    try with_reducible rfl
  try simp only [Act.put, List.setIfInBounds_toArray, List.set_cons_zero, List.set_cons_succ]
  refine wpAnyH_take (i := 4) (oi := { dst := some 186, op := Op.binOp BinOp.eql 4 (Operand.tmp 184) (Operand.tmp 185) 4, type := 4, pos := "law.go:66", after := #[{ on := 2, ground := Ground.data }, { on := 3, ground := Ground.data }, { on := 6, ground := Ground.gcOnly Departure.lateStores }], guard := none }) (v := ?_) rfl (by kernel_rfl) (by kernel_rfl) (by kernel_rfl) (fun _ _ _ h => h) (Or.inl ⟨by rfl, ?_⟩) hHeld ?_
  rotate_left 1
  · intro W hSw
    (try dsimp only at hSw)
    go_simp
    try with_reducible rfl
  try simp only [Act.put, List.setIfInBounds_toArray, List.set_cons_zero, List.set_cons_succ]
  refine wpAnyH_ready (rs := [5]) (by kernel_rfl) (by simp) ?_
  refine AllReadyH.cons (o := { dst := none, op := Op.store 25 (Operand.tmp 6) (Operand.tmp 182), type := 0, pos := "law.go:66", after := #[{ on := 0, ground := Ground.data }, { on := 0, ground := Ground.phase }, { on := 1, ground := Ground.textOnly Departure.lateStores }, { on := 2, ground := Ground.textOnly Departure.lateStores }, { on := 3, ground := Ground.textOnly Departure.lateStores }, { on := 4, ground := Ground.textOnly Departure.lateStores }], guard := none }) rfl (fun K7 hK7 => ?_) ?_
  · go_simp
    refine hK7.out _ _ (HSs.out _ (FBox.drew' (HY1.out.other hn6 _ _ _)) (FBox.drew' (HY2.out.other hm6 _ _ _))) (fun hHeld => ?_)
    clear hK7 K7
    try simp only [Act.put, List.setIfInBounds_toArray, List.set_cons_zero, List.set_cons_succ]
    refine wpAnyH_ready (rs := [6]) (by kernel_rfl) (by simp) ?_
    refine AllReadyH.cons (o := { dst := none, op := Op.store 25 (Operand.tmp 7) (Operand.tmp 183), type := 0, pos := "law.go:66", after := #[{ on := 1, ground := Ground.data }, { on := 5, ground := Ground.chain }, { on := 0, ground := Ground.phase }, { on := 1, ground := Ground.phase }, { on := 2, ground := Ground.textOnly Departure.lateStores }, { on := 3, ground := Ground.textOnly Departure.lateStores }, { on := 4, ground := Ground.textOnly Departure.lateStores }, { on := 5, ground := Ground.phase }], guard := none }) rfl (fun K7 hK7 => ?_) ?_
    · go_simp
      refine hK7.out _ _ (HSs.out _ (FBox.drew' ((HY1.out.other hn6 _ _ _).other hn7 _ _ _)) (FBox.drew' ((HY2.out.other hm6 _ _ _).other hm7 _ _ _))) (fun hHeld => ?_)
      clear hK7 K7
      try simp only [Act.put, List.setIfInBounds_toArray, List.set_cons_zero, List.set_cons_succ]
      refine wpAnyH_take (i := 7) (oi := { dst := some 8, op := Op.assign (Operand.tmp 186), type := 4, pos := "law.go:66", after := #[{ on := 4, ground := Ground.data }, { on := 6, ground := Ground.chain }, { on := 0, ground := Ground.phase }, { on := 1, ground := Ground.phase }, { on := 2, ground := Ground.phase }, { on := 3, ground := Ground.phase }, { on := 4, ground := Ground.phase }, { on := 5, ground := Ground.phase }, { on := 6, ground := Ground.phase }], guard := none }) (v := ?_) rfl (by kernel_rfl) (by kernel_rfl) (by kernel_rfl) (fun _ _ _ h => h) (Or.inl ⟨by rfl, ?_⟩) hHeld ?_
      rotate_left 1
      · intro W hSw
        (try dsimp only at hSw)
        go_simp
        try with_reducible rfl
      try simp only [Act.put, List.setIfInBounds_toArray, List.set_cons_zero, List.set_cons_succ]
      refine wpAnyH_done (by kernel_rfl) ?_ _
      clear hHeld e1 e2 e3 k1 k2 k3 s1 s2 s3 s4 s5 s6 t1 t2 t3 t4 t5 t6
      have hN6 : N + 1 + 1 + 1 < W.heap.size := HX6.out.lt
      have hN7 : N + 1 + 1 + 1 + 1 < W.heap.size := HX7.out.lt
      have hNw : w.heap.size ≤ N + 1 + 1 + 1 := by have := HN.out; omega
      have hNv : w.heap.size ≤ N + 1 + 1 + 1 + 1 := by have := HN.out; omega
      have hBW : B ≤ W.heap.size := Nat.le_trans HBl.out HB.out.size
      have HZ6 := Lib.hid ((HX62.out.set g.next (.slice a1 g.list.length c1) (.slice a2 g.cut.length c2)).other h67 (.int .i64 g.next) (.slice a3 g.list.length c3) (.slice a4 g.cut.length c4))
      have HZ7 := Lib.hid ((HX72.out.other h76 (.int .i64 g.next) (.slice a1 g.list.length c1) (.slice a2 g.cut.length c2)).set g.next (.slice a3 g.list.length c3) (.slice a4 g.cut.length c4))
      have HZ1 := Lib.hid (((HP1.out.set3 hN6 (.int .i64 g.next) (.slice a1 g.list.length c1) (.slice a2 g.cut.length c2)).set3 hN7 (.int .i64 g.next) (.slice a3 g.list.length c3) (.slice a4 g.cut.length c4)).mono hBW)
      have HZ2 := Lib.hid (((HP2.out.set3 hN6 (.int .i64 g.next) (.slice a1 g.list.length c1) (.slice a2 g.cut.length c2)).set3 hN7 (.int .i64 g.next) (.slice a3 g.list.length c3) (.slice a4 g.cut.length c4)).mono hBW)
      have HZ3 := Lib.hid ((((HP3.out.mono HB1.out.size).set3 hN6 (.int .i64 g.next) (.slice a1 g.list.length c1) (.slice a2 g.cut.length c2)).set3 hN7 (.int .i64 g.next) (.slice a3 g.list.length c3) (.slice a4 g.cut.length c4)).mono hBW)
      have HZ4 := Lib.hid ((((HP4.out.mono HB1.out.size).set3 hN6 (.int .i64 g.next) (.slice a1 g.list.length c1) (.slice a2 g.cut.length c2)).set3 hN7 (.int .i64 g.next) (.slice a3 g.list.length c3) (.slice a4 g.cut.length c4)).mono hBW)
      have HZb := Lib.hid (below_set3 (below_set3 (HB.out.trans (HB2.out.mono HB.out.size)) hNw (.int .i64 g.next) (.slice a1 g.list.length c1) (.slice a2 g.cut.length c2)) hNv (.int .i64 g.next) (.slice a3 g.list.length c3) (.slice a4 g.cut.length c4))
      generalize ((((((W2.setCell ⟨N + 1 + 1 + 1, 0, none⟩ (.int .i64 g.next)).setCell ⟨N + 1 + 1 + 1, 1, none⟩ (.slice a1 g.list.length c1)).setCell ⟨N + 1 + 1 + 1, 2, none⟩ (.slice a2 g.cut.length c2)).setCell ⟨N + 1 + 1 + 1 + 1, 0, none⟩ (.int .i64 g.next)).setCell ⟨N + 1 + 1 + 1 + 1, 1, none⟩ (.slice a3 g.list.length c3)).setCell ⟨N + 1 + 1 + 1 + 1, 2, none⟩ (.slice a4 g.cut.length c4)) = W3 at HZ6 HZ7 HZ1 HZ2 HZ3 HZ4 HZb ⊢
      have HZ6 := Lib.hid (FBox.drew' HZ6.out); have HZ7 := Lib.hid (FBox.drew' HZ7.out)
      have HZd := Lib.hid (below_drew (Below.refl W3.heap.size W3))
      generalize hWd : W3.drew = W4 at HZ6 HZ7 HZd ⊢
      clear hWd
      go_wp2
      refine bodyPost_ret (retAct rfl rfl rfl HZ6.out HZ7.out) rfl ?_
      exact ⟨g, _, _, _, _, rfl, HZ1.out.below HZd.out, HZ2.out.below HZd.out, HZ3.out.below HZd.out, HZ4.out.below HZd.out, HGr.out, HZb.out.trans (HZd.out.mono HZb.out.size)⟩
    exact AllReadyH.nil
  exact AllReadyH.nil

set_option maxHeartbeats 16000000 in
set_option maxRecDepth 100000 in
theorem act_lose (vl1 vc1 vl2 vc2 : Value) (f : Flt) (B K : Nat) (x : ActV) (w : World) (h1 : Own fc 4 38 w B vl1 f.list) (h2 : Own wc 2 40 w B vc1 f.cut) (h3 : Own fc 4 38 w B vl2 f.list) (h4 : Own wc 2 40 w B vc2 f.cut) (hG : Good f K) (hok : x.Ok) (hk : x.kind = 6) (hK : (K + 2) * 16 ≤ 140737488355328) (hB : B ≤ w.heap.size) :
    Calls Tryz.prog 7 #[.agg #[.int .i64 f.next, vl1, vc1], .agg #[.int .i64 f.next, vl2, vc2], .agg #[.int .i64 x.kind, .int .i64 x.num, .int .i64 x.src, .int .i64 x.dst, .string x.body, .slice x.va x.vn x.vc, .slice x.ua x.un x.uc]] w (ActS w B (K)) := by
  obtain ⟨p1, q1, rfl⟩ := h1.slice
  obtain ⟨p2, q2, rfl⟩ := h2.slice
  obtain ⟨p3, q3, rfl⟩ := h3.slice
  obtain ⟨p4, q4, rfl⟩ := h4.slice
  have HO1 := Lib.hid h1; have HO2 := Lib.hid h2; have HO3 := Lib.hid h3; have HO4 := Lib.hid h4; have HG := Lib.hid hG; have HOk := Lib.hid hok; have HK := Lib.hid hK; have HBl := Lib.hid hB
  have HF1 := Lib.hid (show FlR w (.agg #[.int .i64 f.next, .slice p1 f.list.length q1, .slice p2 f.cut.length q2]) f from ⟨_, _, rfl, h1.read fc_len, h2.read wc_len⟩)
  have HF2 := Lib.hid (show FlR w (.agg #[.int .i64 f.next, .slice p3 f.list.length q3, .slice p4 f.cut.length q4]) f from ⟨_, _, rfl, h3.read fc_len, h4.read wc_len⟩)
  obtain ⟨kd, nm, sr, ds, bo, va, vn, vcp, ua, un, ucp⟩ := x
  simp only at hk
  subst hk
  obtain ⟨W, hW⟩ : ∃ W, W = ((((w.alloc (.cells #[.int .i64 f.next, .slice p1 f.list.length q1, .slice p2 f.cut.length q2] 25)).alloc (.cells #[.int .i64 f.next, .slice p3 f.list.length q3, .slice p4 f.cut.length q4] 25)).alloc (.cells #[.int .i64 6, .int .i64 nm, .int .i64 sr, .int .i64 ds, .string bo, .slice va vn vcp, .slice ua un ucp] 34)).alloc (.cells #[.int .i64 0, .slice none 0 0, .slice none 0 0] 25)).alloc (.cells #[.int .i64 0, .slice none 0 0, .slice none 0 0] 25) := ⟨_, rfl⟩
  have HS := Lib.hid (head_any w f.next (.slice p1 f.list.length q1) (.slice p2 f.cut.length q2) (.slice p3 f.list.length q3) (.slice p4 f.cut.length q4) ⟨6, nm, sr, ds, bo, va, vn, vcp, ua, un, ucp⟩ W hW)
  clear h1 h2 h3 h4 hG hok hK hB
  go_enter Tryz.func7, Tryz.ntmps7
  go_upto_region 1 with fail
  rw [← hW]
  obtain ⟨hb, hx1, hx2, hxa, hx6, hx7⟩ := HS.out
  have HB := Lib.hid hb; have HX1 := Lib.hid hx1; have HX2 := Lib.hid hx2; have HXa := Lib.hid hxa; have HX6 := Lib.hid hx6; have HX7 := Lib.hid hx7
  clear hb hx1 hx2 hxa hx6 hx7 HS hW
  obtain ⟨N, hN⟩ : ∃ N, w.heap.size = N := ⟨_, rfl⟩
  have HN := Lib.hid hN
  rw [hN] at HX1 HX2 HXa HX6 HX7 ⊢
  clear hN
  have HF1 := Lib.hid (HF1.out.keep HB.out); have HF2 := Lib.hid (HF2.out.keep HB.out)
  obtain ⟨b0, b1, b2, b3, b4, b5, b6⟩ := HXa.out.cells
  simp only at b0 b1 b2 b3 b4 b5 b6
  obtain ⟨e1, e2, e3⟩ := HX1.out.cells
  obtain ⟨g, hr⟩ : ∃ g, loseE f ds = g := ⟨_, rfl⟩
  have HR := Lib.hid hr
  have HGr := Lib.hid (show Good g (K) from by have := (good_lose HG.out ds).1; rw [hr] at this; exact this)
  clear hr
  obtain ⟨q, hq⟩ : ∃ q : Int, (f.list.length : Int) - (g.list.length : Nat) = q := ⟨_, rfl⟩
  have HQ := Lib.hid hq
  clear hq
  have hl1 : Hid ((f.list.length + 1) * 40 ≤ 140737488355328) := Lib.hid (by have := HG.out.len; omega)
  have hl2 : Hid ((f.cut.length + 1) * 16 ≤ 140737488355328) := Lib.hid (by have := HG.out.cl; have := HK.out; omega)
  have HFt := Lib.hid (HG.out.fits (by have := HK.out; omega))
  go_wp2_with fail
  refine (Lose_any _ f ds _ HF1.out HFt.out).mono ?_
  rintro e w1 h1
  have h1 : TwoS _ (loseE f ds) ((f.list.length : Int) - ((loseE f ds).list.length : Nat)) _ _ := h1
  rw [HR.out, HQ.out] at h1
  obtain ⟨ul, uc, rfl, ho1, ho2, hb⟩ := h1
  simp only at ho1 ho2 ⊢
  obtain ⟨a1, c1, rfl⟩ := ho1.slice
  obtain ⟨a2, c2, rfl⟩ := ho2.slice
  have hn := below_new w1 (.cells #[.int .i64 g.next, .slice a1 g.list.length c1, .slice a2 g.cut.length c2] 25)
  have HY1 := Lib.hid (fbox_new w1 g.next (.slice a1 g.list.length c1) (.slice a2 g.cut.length c2))
  have hbb := hb.trans (hn.mono hb.size)
  have HP1 := Lib.hid (ho1.below hn); have HP2 := Lib.hid (ho2.below hn); have HB1 := Lib.hid hbb
  have hsz1 := hb.size
  clear ho1 ho2 hb hn hbb e1 e2 e3 b0 b1 b2 b3 b4 b5 b6
  go_upto_region 24 with fail
  generalize (w1.alloc (.cells #[.int .i64 g.next, .slice a1 g.list.length c1, .slice a2 g.cut.length c2] 25)) = W1 at HY1 HP1 HP2 HB1 ⊢
  have hq9 : N + 5 ≤ w1.heap.size := by have := HX7.out.lt; have := hsz1; omega
  generalize w1.heap.size = N9 at HY1 hq9 ⊢
  obtain ⟨b0, b1, b2, b3, b4, b5, b6⟩ := (HXa.out.keep HB1.out).cells
  simp only at b0 b1 b2 b3 b4 b5 b6
  obtain ⟨e1, e2, e3⟩ := (HX2.out.keep HB1.out).cells
  go_wp2_with fail
  refine (rLose_any _ f ds _ (HF2.out.keep HB1.out) (by have := hl1.out; omega) (by have := hl2.out; omega)).mono ?_
  rintro e w2 h1
  rw [rlose_eq] at h1
  have h1 : TwoS _ (loseE f ds) ((f.list.length : Int) - ((loseE f ds).list.length : Nat)) _ _ := h1
  rw [HR.out, HQ.out] at h1
  obtain ⟨ul, uc, rfl, ho1, ho2, hb⟩ := h1
  simp only at ho1 ho2 ⊢
  obtain ⟨a3, c3, rfl⟩ := ho1.slice
  obtain ⟨a4, c4, rfl⟩ := ho2.slice
  have hn := below_new w2 (.cells #[.int .i64 g.next, .slice a3 g.list.length c3, .slice a4 g.cut.length c4] 25)
  have HY2 := Lib.hid (fbox_new w2 g.next (.slice a3 g.list.length c3) (.slice a4 g.cut.length c4))
  have hbb := hb.trans (hn.mono hb.size)
  have HY1 := Lib.hid (HY1.out.keep hbb)
  have HP1 := Lib.hid (HP1.out.below hbb); have HP2 := Lib.hid (HP2.out.below hbb); have HP3 := Lib.hid (ho1.below hn); have HP4 := Lib.hid (ho2.below hn)
  have HB2 := Lib.hid (HB1.out.trans (hbb.mono HB1.out.size))
  have hsz2 := hb.size
  have hsz3 := HB1.out.size
  have hsz4 := HX7.out.lt
  clear ho1 ho2 hb hn hbb e1 e2 e3 b0 b1 b2 b3 b4 b5 b6
  go_upto_region 25 with fail
  generalize (w2.alloc (.cells #[.int .i64 g.next, .slice a3 g.list.length c3, .slice a4 g.cut.length c4] 25)) = W2 at HY1 HY2 HP1 HP2 HP3 HP4 HB2 ⊢
  have hq12 : N + 5 ≤ w2.heap.size := by omega
  generalize w2.heap.size = N12 at HY2 hq12 ⊢
  have HNe : Hid (N9 ≠ N + 1 + 1 + 1 ∧ N9 ≠ N + 1 + 1 + 1 + 1 ∧ N12 ≠ N + 1 + 1 + 1 ∧ N12 ≠ N + 1 + 1 + 1 + 1 ∧ N9 + 1 ≠ N + 1 + 1 + 1 ∧ N9 + 1 ≠ N + 1 + 1 + 1 + 1 ∧ N12 + 1 ≠ N + 1 + 1 + 1 ∧ N12 + 1 ≠ N + 1 + 1 + 1 + 1) := Lib.hid (by omega)
  clear hq9 hq12 hsz1 hsz2 hsz3 hsz4
  have HX62 := Lib.hid (HX6.out.keep HB2.out); have HX72 := Lib.hid (HX7.out.keep HB2.out)
  obtain ⟨e1, e2, e3⟩ := HY1.out.cells
  obtain ⟨k1, k2, k3⟩ := HY2.out.cells
  obtain ⟨s1, s2, s3⟩ := HX62.out.cells
  obtain ⟨t1, t2, t3⟩ := HX62.out.thaw
  obtain ⟨s4, s5, s6⟩ := HX72.out.cells
  obtain ⟨t4, t5, t6⟩ := HX72.out.thaw
  have hn6 : N9 ≠ N + 1 + 1 + 1 := HNe.out.1
  have hn7 : N9 ≠ N + 1 + 1 + 1 + 1 := HNe.out.2.1
  have hm6 : N12 ≠ N + 1 + 1 + 1 := HNe.out.2.2.1
  have hm7 : N12 ≠ N + 1 + 1 + 1 + 1 := HNe.out.2.2.2.1
  have h67 : N + 1 + 1 + 1 ≠ N + 1 + 1 + 1 + 1 := by omega
  have h76 : N + 1 + 1 + 1 + 1 ≠ N + 1 + 1 + 1 := by omega
  have HSs : Hid (∀ u : World, FBox u N9 g.next (.slice a1 g.list.length c1) (.slice a2 g.cut.length c2) → FBox u N12 g.next (.slice a3 g.list.length c3) (.slice a4 g.cut.length c4) → ((u.cell? ⟨N9, 0, none⟩ = some (.int .i64 g.next) ∧ u.cell? ⟨N9, 1, none⟩ = some (.slice a1 g.list.length c1) ∧ u.cell? ⟨N9, 2, none⟩ = some (.slice a2 g.cut.length c2)) ∧ (u.cell? ⟨N12, 0, none⟩ = some (.int .i64 g.next) ∧ u.cell? ⟨N12, 1, none⟩ = some (.slice a3 g.list.length c3) ∧ u.cell? ⟨N12, 2, none⟩ = some (.slice a4 g.cut.length c4)))) := Lib.hid (fun u x1 x2 => ⟨x1.cells, x2.cells⟩)
  refine wp_region_held_drew (S := fun u => (u.cell? ⟨N9, 0, none⟩ = some (.int .i64 g.next) ∧ u.cell? ⟨N9, 1, none⟩ = some (.slice a1 g.list.length c1) ∧ u.cell? ⟨N9, 2, none⟩ = some (.slice a2 g.cut.length c2)) ∧ (u.cell? ⟨N12, 0, none⟩ = some (.int .i64 g.next) ∧ u.cell? ⟨N12, 1, none⟩ = some (.slice a3 g.list.length c3) ∧ u.cell? ⟨N12, 2, none⟩ = some (.slice a4 g.cut.length c4))) (by kernel_rfl) (HSs.out _ HY1.out HY2.out) (fun hHeld => ?_)
  refine wpAnyH_take (i := 0) (oi := { dst := some 203, op := Op.load 25 (Operand.tmp 35), type := 25, pos := "law.go:70", after := #[], guard := none }) (v := ?_) rfl (by kernel_rfl) (by kernel_rfl) (by kernel_rfl) (fun _ _ _ h => h) (Or.inl ⟨by rfl, ?_⟩) hHeld ?_
  rotate_left 1
  · intro W hSw
    (try dsimp only at hSw)
    go_simp
    try with_reducible rfl
  try simp only [Act.put, List.setIfInBounds_toArray, List.set_cons_zero, List.set_cons_succ]
  refine wpAnyH_take (i := 1) (oi := { dst := some 204, op := Op.load 25 (Operand.tmp 37), type := 25, pos := "law.go:70", after := #[{ on := 5, ground := Ground.gcOnly Departure.lateStores }], guard := none }) (v := ?_) rfl (by kernel_rfl) (by kernel_rfl) (by kernel_rfl) (fun _ _ _ h => h) (Or.inl ⟨by rfl, ?_⟩) hHeld ?_
  rotate_left 1
  · intro W hSw
    (try dsimp only at hSw)
    go_simp
    try with_reducible rfl
  try simp only [Act.put, List.setIfInBounds_toArray, List.set_cons_zero, List.set_cons_succ]
  refine wpAnyH_take (i := 2) (oi := { dst := some 205, op := Op.move (Operand.tmp 36), type := 3, pos := "law.go:70", after := #[{ on := 6, ground := Ground.gcOnly Departure.lateStores }], guard := none }) (v := ?_) rfl (by kernel_rfl) (by kernel_rfl) (by kernel_rfl) (fun _ _ _ h => h) (Or.inl ⟨by rfl, ?_⟩) hHeld ?_
  rotate_left 1
  · intro W hSw
    (try dsimp only at hSw)
    go_simp
    try with_reducible rfl
  try simp only [Act.put, List.setIfInBounds_toArray, List.set_cons_zero, List.set_cons_succ]
  refine wpAnyH_take (i := 3) (oi := { dst := some 206, op := Op.move (Operand.tmp 38), type := 3, pos := "law.go:70", after := #[{ on := 6, ground := Ground.gcOnly Departure.lateStores }], guard := none }) (v := ?_) rfl (by kernel_rfl) (by kernel_rfl) (by kernel_rfl) (fun _ _ _ h => h) (Or.inl ⟨by rfl, ?_⟩) hHeld ?_
  rotate_left 1
  · intro W hSw
    (try dsimp only at hSw)
    go_simp
    try with_reducible rfl
  try simp only [Act.put, List.setIfInBounds_toArray, List.set_cons_zero, List.set_cons_succ]
  refine wpAnyH_take (i := 4) (oi := { dst := some 207, op := Op.binOp BinOp.eql 3 (Operand.tmp 205) (Operand.tmp 206) 3, type := 4, pos := "law.go:70", after := #[{ on := 2, ground := Ground.data }, { on := 3, ground := Ground.data }, { on := 6, ground := Ground.gcOnly Departure.lateStores }], guard := none }) (v := ?_) rfl (by kernel_rfl) (by kernel_rfl) (by kernel_rfl) (fun _ _ _ h => h) (Or.inl ⟨by rfl, ?_⟩) hHeld ?_
  rotate_left 1
  · intro W hSw
    (try dsimp only at hSw)
    go_simp
    try with_reducible rfl
  try simp only [Act.put, List.setIfInBounds_toArray, List.set_cons_zero, List.set_cons_succ]
  refine wpAnyH_ready (rs := [5]) (by kernel_rfl) (by simp) ?_
  refine AllReadyH.cons (o := { dst := none, op := Op.store 25 (Operand.tmp 6) (Operand.tmp 203), type := 0, pos := "law.go:70", after := #[{ on := 0, ground := Ground.data }, { on := 0, ground := Ground.phase }, { on := 1, ground := Ground.textOnly Departure.lateStores }, { on := 2, ground := Ground.textOnly Departure.lateStores }, { on := 3, ground := Ground.textOnly Departure.lateStores }, { on := 4, ground := Ground.textOnly Departure.lateStores }], guard := none }) rfl (fun K7 hK7 => ?_) ?_
  · go_simp
    refine hK7.out _ _ (HSs.out _ (FBox.drew' (HY1.out.other hn6 _ _ _)) (FBox.drew' (HY2.out.other hm6 _ _ _))) (fun hHeld => ?_)
    clear hK7 K7
    try simp only [Act.put, List.setIfInBounds_toArray, List.set_cons_zero, List.set_cons_succ]
    refine wpAnyH_ready (rs := [6]) (by kernel_rfl) (by simp) ?_
    refine AllReadyH.cons (o := { dst := none, op := Op.store 25 (Operand.tmp 7) (Operand.tmp 204), type := 0, pos := "law.go:70", after := #[{ on := 1, ground := Ground.data }, { on := 5, ground := Ground.chain }, { on := 0, ground := Ground.phase }, { on := 1, ground := Ground.phase }, { on := 2, ground := Ground.textOnly Departure.lateStores }, { on := 3, ground := Ground.textOnly Departure.lateStores }, { on := 4, ground := Ground.textOnly Departure.lateStores }, { on := 5, ground := Ground.phase }], guard := none }) rfl (fun K7 hK7 => ?_) ?_
    · go_simp
      refine hK7.out _ _ (HSs.out _ (FBox.drew' ((HY1.out.other hn6 _ _ _).other hn7 _ _ _)) (FBox.drew' ((HY2.out.other hm6 _ _ _).other hm7 _ _ _))) (fun hHeld => ?_)
      clear hK7 K7
      try simp only [Act.put, List.setIfInBounds_toArray, List.set_cons_zero, List.set_cons_succ]
      refine wpAnyH_take (i := 7) (oi := { dst := some 8, op := Op.assign (Operand.tmp 207), type := 4, pos := "law.go:70", after := #[{ on := 4, ground := Ground.data }, { on := 6, ground := Ground.chain }, { on := 0, ground := Ground.phase }, { on := 1, ground := Ground.phase }, { on := 2, ground := Ground.phase }, { on := 3, ground := Ground.phase }, { on := 4, ground := Ground.phase }, { on := 5, ground := Ground.phase }, { on := 6, ground := Ground.phase }], guard := none }) (v := ?_) rfl (by kernel_rfl) (by kernel_rfl) (by kernel_rfl) (fun _ _ _ h => h) (Or.inl ⟨by rfl, ?_⟩) hHeld ?_
      rotate_left 1
      · intro W hSw
        (try dsimp only at hSw)
        go_simp
        try with_reducible rfl
      try simp only [Act.put, List.setIfInBounds_toArray, List.set_cons_zero, List.set_cons_succ]
      refine wpAnyH_done (by kernel_rfl) ?_ _
      clear hHeld e1 e2 e3 k1 k2 k3 s1 s2 s3 s4 s5 s6 t1 t2 t3 t4 t5 t6
      have hN6 : N + 1 + 1 + 1 < W.heap.size := HX6.out.lt
      have hN7 : N + 1 + 1 + 1 + 1 < W.heap.size := HX7.out.lt
      have hNw : w.heap.size ≤ N + 1 + 1 + 1 := by have := HN.out; omega
      have hNv : w.heap.size ≤ N + 1 + 1 + 1 + 1 := by have := HN.out; omega
      have hBW : B ≤ W.heap.size := Nat.le_trans HBl.out HB.out.size
      have HZ6 := Lib.hid ((HX62.out.set g.next (.slice a1 g.list.length c1) (.slice a2 g.cut.length c2)).other h67 (.int .i64 g.next) (.slice a3 g.list.length c3) (.slice a4 g.cut.length c4))
      have HZ7 := Lib.hid ((HX72.out.other h76 (.int .i64 g.next) (.slice a1 g.list.length c1) (.slice a2 g.cut.length c2)).set g.next (.slice a3 g.list.length c3) (.slice a4 g.cut.length c4))
      have HZ1 := Lib.hid (((HP1.out.set3 hN6 (.int .i64 g.next) (.slice a1 g.list.length c1) (.slice a2 g.cut.length c2)).set3 hN7 (.int .i64 g.next) (.slice a3 g.list.length c3) (.slice a4 g.cut.length c4)).mono hBW)
      have HZ2 := Lib.hid (((HP2.out.set3 hN6 (.int .i64 g.next) (.slice a1 g.list.length c1) (.slice a2 g.cut.length c2)).set3 hN7 (.int .i64 g.next) (.slice a3 g.list.length c3) (.slice a4 g.cut.length c4)).mono hBW)
      have HZ3 := Lib.hid ((((HP3.out.mono HB1.out.size).set3 hN6 (.int .i64 g.next) (.slice a1 g.list.length c1) (.slice a2 g.cut.length c2)).set3 hN7 (.int .i64 g.next) (.slice a3 g.list.length c3) (.slice a4 g.cut.length c4)).mono hBW)
      have HZ4 := Lib.hid ((((HP4.out.mono HB1.out.size).set3 hN6 (.int .i64 g.next) (.slice a1 g.list.length c1) (.slice a2 g.cut.length c2)).set3 hN7 (.int .i64 g.next) (.slice a3 g.list.length c3) (.slice a4 g.cut.length c4)).mono hBW)
      have HZb := Lib.hid (below_set3 (below_set3 (HB.out.trans (HB2.out.mono HB.out.size)) hNw (.int .i64 g.next) (.slice a1 g.list.length c1) (.slice a2 g.cut.length c2)) hNv (.int .i64 g.next) (.slice a3 g.list.length c3) (.slice a4 g.cut.length c4))
      generalize ((((((W2.setCell ⟨N + 1 + 1 + 1, 0, none⟩ (.int .i64 g.next)).setCell ⟨N + 1 + 1 + 1, 1, none⟩ (.slice a1 g.list.length c1)).setCell ⟨N + 1 + 1 + 1, 2, none⟩ (.slice a2 g.cut.length c2)).setCell ⟨N + 1 + 1 + 1 + 1, 0, none⟩ (.int .i64 g.next)).setCell ⟨N + 1 + 1 + 1 + 1, 1, none⟩ (.slice a3 g.list.length c3)).setCell ⟨N + 1 + 1 + 1 + 1, 2, none⟩ (.slice a4 g.cut.length c4)) = W3 at HZ6 HZ7 HZ1 HZ2 HZ3 HZ4 HZb ⊢
      have HZ6 := Lib.hid (FBox.drew' HZ6.out); have HZ7 := Lib.hid (FBox.drew' HZ7.out)
      have HZd := Lib.hid (below_drew (Below.refl W3.heap.size W3))
      generalize hWd : W3.drew = W4 at HZ6 HZ7 HZd ⊢
      clear hWd
      go_wp2
      refine bodyPost_ret (retAct rfl rfl rfl HZ6.out HZ7.out) rfl ?_
      exact ⟨g, _, _, _, _, rfl, HZ1.out.below HZd.out, HZ2.out.below HZd.out, HZ3.out.below HZd.out, HZ4.out.below HZd.out, HGr.out, HZb.out.trans (HZd.out.mono HZb.out.size)⟩
    exact AllReadyH.nil
  exact AllReadyH.nil

set_option maxHeartbeats 16000000 in
set_option maxRecDepth 100000 in
theorem act_iso (vl1 vc1 vl2 vc2 : Value) (f : Flt) (B K : Nat) (x : ActV) (w : World) (h1 : Own fc 4 38 w B vl1 f.list) (h2 : Own wc 2 40 w B vc1 f.cut) (h3 : Own fc 4 38 w B vl2 f.list) (h4 : Own wc 2 40 w B vc2 f.cut) (hG : Good f K) (hok : x.Ok) (hk : x.kind = 7) (hK : (K + 2) * 16 ≤ 140737488355328) (hB : B ≤ w.heap.size) (xa xb : List Int) (ha : Sl ic 1 w (.slice x.va x.vn x.vc) xa) (hb0 : Sl ic 1 w (.slice x.ua x.un x.uc) xb) (hoa : ∀ z ∈ xa, I64 z) (hob : ∀ z ∈ xb, I64 z) (hla : xa.length * 8 ≤ 140737488355328) (hlb : xb.length * 8 ≤ 140737488355328) (hli : (K + 2 * (xa.length * xb.length) + 2) * 16 ≤ 140737488355328) :
    Calls Tryz.prog 7 #[.agg #[.int .i64 f.next, vl1, vc1], .agg #[.int .i64 f.next, vl2, vc2], .agg #[.int .i64 x.kind, .int .i64 x.num, .int .i64 x.src, .int .i64 x.dst, .string x.body, .slice x.va x.vn x.vc, .slice x.ua x.un x.uc]] w (ActS w B (K + 2 * (xa.length * xb.length))) := by
  obtain ⟨p1, q1, rfl⟩ := h1.slice
  obtain ⟨p2, q2, rfl⟩ := h2.slice
  obtain ⟨p3, q3, rfl⟩ := h3.slice
  obtain ⟨p4, q4, rfl⟩ := h4.slice
  have HO1 := Lib.hid h1; have HO2 := Lib.hid h2; have HO3 := Lib.hid h3; have HO4 := Lib.hid h4; have HG := Lib.hid hG; have HOk := Lib.hid hok; have HK := Lib.hid hK; have HBl := Lib.hid hB
  have HF1 := Lib.hid (show FlR w (.agg #[.int .i64 f.next, .slice p1 f.list.length q1, .slice p2 f.cut.length q2]) f from ⟨_, _, rfl, h1.read fc_len, h2.read wc_len⟩)
  have HF2 := Lib.hid (show FlR w (.agg #[.int .i64 f.next, .slice p3 f.list.length q3, .slice p4 f.cut.length q4]) f from ⟨_, _, rfl, h3.read fc_len, h4.read wc_len⟩)
  obtain ⟨kd, nm, sr, ds, bo, va, vn, vcp, ua, un, ucp⟩ := x
  simp only at hk ha hb0
  subst hk
  obtain ⟨W, hW⟩ : ∃ W, W = ((((w.alloc (.cells #[.int .i64 f.next, .slice p1 f.list.length q1, .slice p2 f.cut.length q2] 25)).alloc (.cells #[.int .i64 f.next, .slice p3 f.list.length q3, .slice p4 f.cut.length q4] 25)).alloc (.cells #[.int .i64 7, .int .i64 nm, .int .i64 sr, .int .i64 ds, .string bo, .slice va vn vcp, .slice ua un ucp] 34)).alloc (.cells #[.int .i64 0, .slice none 0 0, .slice none 0 0] 25)).alloc (.cells #[.int .i64 0, .slice none 0 0, .slice none 0 0] 25) := ⟨_, rfl⟩
  have HS := Lib.hid (head_any w f.next (.slice p1 f.list.length q1) (.slice p2 f.cut.length q2) (.slice p3 f.list.length q3) (.slice p4 f.cut.length q4) ⟨7, nm, sr, ds, bo, va, vn, vcp, ua, un, ucp⟩ W hW)
  clear h1 h2 h3 h4 hG hok hK hB
  go_enter Tryz.func7, Tryz.ntmps7
  go_upto_region 1 with fail
  rw [← hW]
  obtain ⟨hb, hx1, hx2, hxa, hx6, hx7⟩ := HS.out
  have HB := Lib.hid hb; have HX1 := Lib.hid hx1; have HX2 := Lib.hid hx2; have HXa := Lib.hid hxa; have HX6 := Lib.hid hx6; have HX7 := Lib.hid hx7
  clear hb hx1 hx2 hxa hx6 hx7 HS hW
  obtain ⟨N, hN⟩ : ∃ N, w.heap.size = N := ⟨_, rfl⟩
  have HN := Lib.hid hN
  rw [hN] at HX1 HX2 HXa HX6 HX7 ⊢
  clear hN
  have HF1 := Lib.hid (HF1.out.keep HB.out); have HF2 := Lib.hid (HF2.out.keep HB.out)
  obtain ⟨b0, b1, b2, b3, b4, b5, b6⟩ := HXa.out.cells
  simp only at b0 b1 b2 b3 b4 b5 b6
  obtain ⟨e1, e2, e3⟩ := HX1.out.cells
  have HSa := Lib.hid (ha.keep HB.out); have HSb := Lib.hid (hb0.keep HB.out); have HOa := Lib.hid hoa; have HOb := Lib.hid hob; have HLa := Lib.hid hla; have HLb := Lib.hid hlb; have HLi := Lib.hid hli
  clear ha hb0 hoa hob hla hlb hli
  obtain ⟨g, hr⟩ : ∃ g, isoE f xa xb = g := ⟨_, rfl⟩
  have HR := Lib.hid hr
  have HGr := Lib.hid (show Good g (K + 2 * (xa.length * xb.length)) from by have := good_iso HG.out xa xb HOa.out HOb.out; rw [hr] at this; exact this)
  clear hr
  obtain ⟨q, hq⟩ : ∃ q : Int, (f.list.length : Int) - (g.list.length : Nat) = q := ⟨_, rfl⟩
  have HQ := Lib.hid hq
  clear hq
  have hl1 : Hid ((f.list.length + 1) * 40 ≤ 140737488355328) := Lib.hid (by have := HG.out.len; omega)
  have hl2 : Hid ((f.cut.length + 1) * 16 ≤ 140737488355328) := Lib.hid (by have := HG.out.cl; have := HK.out; omega)
  have HFt := Lib.hid (HG.out.fits (by have := HK.out; omega))
  go_wp2_with fail
  refine (Isolate_any _ _ _ f xa xb _ HF1.out HFt.out HSa.out HSb.out HOa.out HOb.out HLa.out HLb.out (by have := HG.out.cl; have := HLi.out; omega)).mono ?_
  rintro e w1 h1
  have h1 : TwoS _ (isoE f xa xb) ((f.list.length : Int) - ((isoE f xa xb).list.length : Nat)) _ _ := h1
  rw [HR.out, HQ.out] at h1
  obtain ⟨ul, uc, rfl, ho1, ho2, hb⟩ := h1
  simp only at ho1 ho2 ⊢
  obtain ⟨a1, c1, rfl⟩ := ho1.slice
  obtain ⟨a2, c2, rfl⟩ := ho2.slice
  have hn := below_new w1 (.cells #[.int .i64 g.next, .slice a1 g.list.length c1, .slice a2 g.cut.length c2] 25)
  have HY1 := Lib.hid (fbox_new w1 g.next (.slice a1 g.list.length c1) (.slice a2 g.cut.length c2))
  have hbb := hb.trans (hn.mono hb.size)
  have HP1 := Lib.hid (ho1.below hn); have HP2 := Lib.hid (ho2.below hn); have HB1 := Lib.hid hbb
  have hsz1 := hb.size
  clear ho1 ho2 hb hn hbb e1 e2 e3 b0 b1 b2 b3 b4 b5 b6
  go_upto_region 28 with fail
  generalize (w1.alloc (.cells #[.int .i64 g.next, .slice a1 g.list.length c1, .slice a2 g.cut.length c2] 25)) = W1 at HY1 HP1 HP2 HB1 ⊢
  have hq9 : N + 5 ≤ w1.heap.size := by have := HX7.out.lt; have := hsz1; omega
  generalize w1.heap.size = N9 at HY1 hq9 ⊢
  obtain ⟨b0, b1, b2, b3, b4, b5, b6⟩ := (HXa.out.keep HB1.out).cells
  simp only at b0 b1 b2 b3 b4 b5 b6
  obtain ⟨e1, e2, e3⟩ := (HX2.out.keep HB1.out).cells
  go_wp2_with fail
  refine (rIsolate_any _ _ _ f K xa xb _ (HF2.out.keep HB1.out) HG.out (HSa.out.keep HB1.out) (HSb.out.keep HB1.out) HOa.out HOb.out HLa.out HLb.out HLi.out).mono ?_
  rintro e w2 h1
  have h1 : TwoS _ (isoE f xa xb) ((f.list.length : Int) - ((isoE f xa xb).list.length : Nat)) _ _ := h1
  rw [HR.out, HQ.out] at h1
  obtain ⟨ul, uc, rfl, ho1, ho2, hb⟩ := h1
  simp only at ho1 ho2 ⊢
  obtain ⟨a3, c3, rfl⟩ := ho1.slice
  obtain ⟨a4, c4, rfl⟩ := ho2.slice
  have hn := below_new w2 (.cells #[.int .i64 g.next, .slice a3 g.list.length c3, .slice a4 g.cut.length c4] 25)
  have HY2 := Lib.hid (fbox_new w2 g.next (.slice a3 g.list.length c3) (.slice a4 g.cut.length c4))
  have hbb := hb.trans (hn.mono hb.size)
  have HY1 := Lib.hid (HY1.out.keep hbb)
  have HP1 := Lib.hid (HP1.out.below hbb); have HP2 := Lib.hid (HP2.out.below hbb); have HP3 := Lib.hid (ho1.below hn); have HP4 := Lib.hid (ho2.below hn)
  have HB2 := Lib.hid (HB1.out.trans (hbb.mono HB1.out.size))
  have hsz2 := hb.size
  have hsz3 := HB1.out.size
  have hsz4 := HX7.out.lt
  clear ho1 ho2 hb hn hbb e1 e2 e3 b0 b1 b2 b3 b4 b5 b6
  go_upto_region 29 with fail
  generalize (w2.alloc (.cells #[.int .i64 g.next, .slice a3 g.list.length c3, .slice a4 g.cut.length c4] 25)) = W2 at HY1 HY2 HP1 HP2 HP3 HP4 HB2 ⊢
  have hq12 : N + 5 ≤ w2.heap.size := by omega
  generalize w2.heap.size = N12 at HY2 hq12 ⊢
  have HNe : Hid (N9 ≠ N + 1 + 1 + 1 ∧ N9 ≠ N + 1 + 1 + 1 + 1 ∧ N12 ≠ N + 1 + 1 + 1 ∧ N12 ≠ N + 1 + 1 + 1 + 1 ∧ N9 + 1 ≠ N + 1 + 1 + 1 ∧ N9 + 1 ≠ N + 1 + 1 + 1 + 1 ∧ N12 + 1 ≠ N + 1 + 1 + 1 ∧ N12 + 1 ≠ N + 1 + 1 + 1 + 1) := Lib.hid (by omega)
  clear hq9 hq12 hsz1 hsz2 hsz3 hsz4
  have HX62 := Lib.hid (HX6.out.keep HB2.out); have HX72 := Lib.hid (HX7.out.keep HB2.out)
  obtain ⟨e1, e2, e3⟩ := HY1.out.cells
  obtain ⟨k1, k2, k3⟩ := HY2.out.cells
  obtain ⟨s1, s2, s3⟩ := HX62.out.cells
  obtain ⟨t1, t2, t3⟩ := HX62.out.thaw
  obtain ⟨s4, s5, s6⟩ := HX72.out.cells
  obtain ⟨t4, t5, t6⟩ := HX72.out.thaw
  have hn6 : N9 ≠ N + 1 + 1 + 1 := HNe.out.1
  have hn7 : N9 ≠ N + 1 + 1 + 1 + 1 := HNe.out.2.1
  have hm6 : N12 ≠ N + 1 + 1 + 1 := HNe.out.2.2.1
  have hm7 : N12 ≠ N + 1 + 1 + 1 + 1 := HNe.out.2.2.2.1
  have h67 : N + 1 + 1 + 1 ≠ N + 1 + 1 + 1 + 1 := by omega
  have h76 : N + 1 + 1 + 1 + 1 ≠ N + 1 + 1 + 1 := by omega
  have HSs : Hid (∀ u : World, FBox u N9 g.next (.slice a1 g.list.length c1) (.slice a2 g.cut.length c2) → FBox u N12 g.next (.slice a3 g.list.length c3) (.slice a4 g.cut.length c4) → ((u.cell? ⟨N9, 0, none⟩ = some (.int .i64 g.next) ∧ u.cell? ⟨N9, 1, none⟩ = some (.slice a1 g.list.length c1) ∧ u.cell? ⟨N9, 2, none⟩ = some (.slice a2 g.cut.length c2)) ∧ (u.cell? ⟨N12, 0, none⟩ = some (.int .i64 g.next) ∧ u.cell? ⟨N12, 1, none⟩ = some (.slice a3 g.list.length c3) ∧ u.cell? ⟨N12, 2, none⟩ = some (.slice a4 g.cut.length c4)))) := Lib.hid (fun u x1 x2 => ⟨x1.cells, x2.cells⟩)
  refine wp_region_held_drew (S := fun u => (u.cell? ⟨N9, 0, none⟩ = some (.int .i64 g.next) ∧ u.cell? ⟨N9, 1, none⟩ = some (.slice a1 g.list.length c1) ∧ u.cell? ⟨N9, 2, none⟩ = some (.slice a2 g.cut.length c2)) ∧ (u.cell? ⟨N12, 0, none⟩ = some (.int .i64 g.next) ∧ u.cell? ⟨N12, 1, none⟩ = some (.slice a3 g.list.length c3) ∧ u.cell? ⟨N12, 2, none⟩ = some (.slice a4 g.cut.length c4))) (by kernel_rfl) (HSs.out _ HY1.out HY2.out) (fun hHeld => ?_)
  refine wpAnyH_take (i := 0) (oi := { dst := some 228, op := Op.load 25 (Operand.tmp 39), type := 25, pos := "law.go:74", after := #[], guard := none }) (v := ?_) rfl (by kernel_rfl) (by kernel_rfl) (by kernel_rfl) (fun _ _ _ h => h) (Or.inl ⟨by rfl, ?_⟩) hHeld ?_
  rotate_left 1
  · intro W hSw
    (try dsimp only at hSw)
    go_simp
    try with_reducible rfl
  try simp only [Act.put, List.setIfInBounds_toArray, List.set_cons_zero, List.set_cons_succ]
  refine wpAnyH_take (i := 1) (oi := { dst := some 229, op := Op.load 25 (Operand.tmp 41), type := 25, pos := "law.go:74", after := #[{ on := 5, ground := Ground.gcOnly Departure.lateStores }], guard := none }) (v := ?_) rfl (by kernel_rfl) (by kernel_rfl) (by kernel_rfl) (fun _ _ _ h => h) (Or.inl ⟨by rfl, ?_⟩) hHeld ?_
  rotate_left 1
  · intro W hSw
    (try dsimp only at hSw)
    go_simp
    try with_reducible rfl
  try simp only [Act.put, List.setIfInBounds_toArray, List.set_cons_zero, List.set_cons_succ]
  refine wpAnyH_take (i := 2) (oi := { dst := some 230, op := Op.move (Operand.tmp 40), type := 3, pos := "law.go:74", after := #[{ on := 6, ground := Ground.gcOnly Departure.lateStores }], guard := none }) (v := ?_) rfl (by kernel_rfl) (by kernel_rfl) (by kernel_rfl) (fun _ _ _ h => h) (Or.inl ⟨by rfl, ?_⟩) hHeld ?_
  rotate_left 1
  · intro W hSw
    (try dsimp only at hSw)
    go_simp
    try with_reducible rfl
  try simp only [Act.put, List.setIfInBounds_toArray, List.set_cons_zero, List.set_cons_succ]
  refine wpAnyH_take (i := 3) (oi := { dst := some 231, op := Op.move (Operand.tmp 42), type := 3, pos := "law.go:74", after := #[{ on := 6, ground := Ground.gcOnly Departure.lateStores }], guard := none }) (v := ?_) rfl (by kernel_rfl) (by kernel_rfl) (by kernel_rfl) (fun _ _ _ h => h) (Or.inl ⟨by rfl, ?_⟩) hHeld ?_
  rotate_left 1
  · intro W hSw
    (try dsimp only at hSw)
    go_simp
    try with_reducible rfl
  try simp only [Act.put, List.setIfInBounds_toArray, List.set_cons_zero, List.set_cons_succ]
  refine wpAnyH_take (i := 4) (oi := { dst := some 232, op := Op.binOp BinOp.eql 3 (Operand.tmp 230) (Operand.tmp 231) 3, type := 4, pos := "law.go:74", after := #[{ on := 2, ground := Ground.data }, { on := 3, ground := Ground.data }, { on := 6, ground := Ground.gcOnly Departure.lateStores }], guard := none }) (v := ?_) rfl (by kernel_rfl) (by kernel_rfl) (by kernel_rfl) (fun _ _ _ h => h) (Or.inl ⟨by rfl, ?_⟩) hHeld ?_
  rotate_left 1
  · intro W hSw
    (try dsimp only at hSw)
    go_simp
    try with_reducible rfl
  try simp only [Act.put, List.setIfInBounds_toArray, List.set_cons_zero, List.set_cons_succ]
  refine wpAnyH_ready (rs := [5]) (by kernel_rfl) (by simp) ?_
  refine AllReadyH.cons (o := { dst := none, op := Op.store 25 (Operand.tmp 6) (Operand.tmp 228), type := 0, pos := "law.go:74", after := #[{ on := 0, ground := Ground.data }, { on := 0, ground := Ground.phase }, { on := 1, ground := Ground.textOnly Departure.lateStores }, { on := 2, ground := Ground.textOnly Departure.lateStores }, { on := 3, ground := Ground.textOnly Departure.lateStores }, { on := 4, ground := Ground.textOnly Departure.lateStores }], guard := none }) rfl (fun K7 hK7 => ?_) ?_
  · go_simp
    refine hK7.out _ _ (HSs.out _ (FBox.drew' (HY1.out.other hn6 _ _ _)) (FBox.drew' (HY2.out.other hm6 _ _ _))) (fun hHeld => ?_)
    clear hK7 K7
    try simp only [Act.put, List.setIfInBounds_toArray, List.set_cons_zero, List.set_cons_succ]
    refine wpAnyH_ready (rs := [6]) (by kernel_rfl) (by simp) ?_
    refine AllReadyH.cons (o := { dst := none, op := Op.store 25 (Operand.tmp 7) (Operand.tmp 229), type := 0, pos := "law.go:74", after := #[{ on := 1, ground := Ground.data }, { on := 5, ground := Ground.chain }, { on := 0, ground := Ground.phase }, { on := 1, ground := Ground.phase }, { on := 2, ground := Ground.textOnly Departure.lateStores }, { on := 3, ground := Ground.textOnly Departure.lateStores }, { on := 4, ground := Ground.textOnly Departure.lateStores }, { on := 5, ground := Ground.phase }], guard := none }) rfl (fun K7 hK7 => ?_) ?_
    · go_simp
      refine hK7.out _ _ (HSs.out _ (FBox.drew' ((HY1.out.other hn6 _ _ _).other hn7 _ _ _)) (FBox.drew' ((HY2.out.other hm6 _ _ _).other hm7 _ _ _))) (fun hHeld => ?_)
      clear hK7 K7
      try simp only [Act.put, List.setIfInBounds_toArray, List.set_cons_zero, List.set_cons_succ]
      refine wpAnyH_take (i := 7) (oi := { dst := some 8, op := Op.assign (Operand.tmp 232), type := 4, pos := "law.go:74", after := #[{ on := 4, ground := Ground.data }, { on := 6, ground := Ground.chain }, { on := 0, ground := Ground.phase }, { on := 1, ground := Ground.phase }, { on := 2, ground := Ground.phase }, { on := 3, ground := Ground.phase }, { on := 4, ground := Ground.phase }, { on := 5, ground := Ground.phase }, { on := 6, ground := Ground.phase }], guard := none }) (v := ?_) rfl (by kernel_rfl) (by kernel_rfl) (by kernel_rfl) (fun _ _ _ h => h) (Or.inl ⟨by rfl, ?_⟩) hHeld ?_
      rotate_left 1
      · intro W hSw
        (try dsimp only at hSw)
        go_simp
        try with_reducible rfl
      try simp only [Act.put, List.setIfInBounds_toArray, List.set_cons_zero, List.set_cons_succ]
      refine wpAnyH_done (by kernel_rfl) ?_ _
      clear hHeld e1 e2 e3 k1 k2 k3 s1 s2 s3 s4 s5 s6 t1 t2 t3 t4 t5 t6
      have hN6 : N + 1 + 1 + 1 < W.heap.size := HX6.out.lt
      have hN7 : N + 1 + 1 + 1 + 1 < W.heap.size := HX7.out.lt
      have hNw : w.heap.size ≤ N + 1 + 1 + 1 := by have := HN.out; omega
      have hNv : w.heap.size ≤ N + 1 + 1 + 1 + 1 := by have := HN.out; omega
      have hBW : B ≤ W.heap.size := Nat.le_trans HBl.out HB.out.size
      have HZ6 := Lib.hid ((HX62.out.set g.next (.slice a1 g.list.length c1) (.slice a2 g.cut.length c2)).other h67 (.int .i64 g.next) (.slice a3 g.list.length c3) (.slice a4 g.cut.length c4))
      have HZ7 := Lib.hid ((HX72.out.other h76 (.int .i64 g.next) (.slice a1 g.list.length c1) (.slice a2 g.cut.length c2)).set g.next (.slice a3 g.list.length c3) (.slice a4 g.cut.length c4))
      have HZ1 := Lib.hid (((HP1.out.set3 hN6 (.int .i64 g.next) (.slice a1 g.list.length c1) (.slice a2 g.cut.length c2)).set3 hN7 (.int .i64 g.next) (.slice a3 g.list.length c3) (.slice a4 g.cut.length c4)).mono hBW)
      have HZ2 := Lib.hid (((HP2.out.set3 hN6 (.int .i64 g.next) (.slice a1 g.list.length c1) (.slice a2 g.cut.length c2)).set3 hN7 (.int .i64 g.next) (.slice a3 g.list.length c3) (.slice a4 g.cut.length c4)).mono hBW)
      have HZ3 := Lib.hid ((((HP3.out.mono HB1.out.size).set3 hN6 (.int .i64 g.next) (.slice a1 g.list.length c1) (.slice a2 g.cut.length c2)).set3 hN7 (.int .i64 g.next) (.slice a3 g.list.length c3) (.slice a4 g.cut.length c4)).mono hBW)
      have HZ4 := Lib.hid ((((HP4.out.mono HB1.out.size).set3 hN6 (.int .i64 g.next) (.slice a1 g.list.length c1) (.slice a2 g.cut.length c2)).set3 hN7 (.int .i64 g.next) (.slice a3 g.list.length c3) (.slice a4 g.cut.length c4)).mono hBW)
      have HZb := Lib.hid (below_set3 (below_set3 (HB.out.trans (HB2.out.mono HB.out.size)) hNw (.int .i64 g.next) (.slice a1 g.list.length c1) (.slice a2 g.cut.length c2)) hNv (.int .i64 g.next) (.slice a3 g.list.length c3) (.slice a4 g.cut.length c4))
      generalize ((((((W2.setCell ⟨N + 1 + 1 + 1, 0, none⟩ (.int .i64 g.next)).setCell ⟨N + 1 + 1 + 1, 1, none⟩ (.slice a1 g.list.length c1)).setCell ⟨N + 1 + 1 + 1, 2, none⟩ (.slice a2 g.cut.length c2)).setCell ⟨N + 1 + 1 + 1 + 1, 0, none⟩ (.int .i64 g.next)).setCell ⟨N + 1 + 1 + 1 + 1, 1, none⟩ (.slice a3 g.list.length c3)).setCell ⟨N + 1 + 1 + 1 + 1, 2, none⟩ (.slice a4 g.cut.length c4)) = W3 at HZ6 HZ7 HZ1 HZ2 HZ3 HZ4 HZb ⊢
      have HZ6 := Lib.hid (FBox.drew' HZ6.out); have HZ7 := Lib.hid (FBox.drew' HZ7.out)
      have HZd := Lib.hid (below_drew (Below.refl W3.heap.size W3))
      generalize hWd : W3.drew = W4 at HZ6 HZ7 HZd ⊢
      clear hWd
      go_wp2
      refine bodyPost_ret (retAct rfl rfl rfl HZ6.out HZ7.out) rfl ?_
      exact ⟨g, _, _, _, _, rfl, HZ1.out.below HZd.out, HZ2.out.below HZd.out, HZ3.out.below HZd.out, HZ4.out.below HZd.out, HGr.out, HZb.out.trans (HZd.out.mono HZb.out.size)⟩
    exact AllReadyH.nil
  exact AllReadyH.nil

set_option maxHeartbeats 16000000 in
set_option maxRecDepth 100000 in
theorem act_none (vl1 vc1 vl2 vc2 : Value) (f : Flt) (B K : Nat) (x : ActV) (w : World) (h1 : Own fc 4 38 w B vl1 f.list) (h2 : Own wc 2 40 w B vc1 f.cut) (h3 : Own fc 4 38 w B vl2 f.list) (h4 : Own wc 2 40 w B vc2 f.cut) (hG : Good f K) (hok : x.Ok) (hk : x.kind ≠ 1 ∧ x.kind ≠ 2 ∧ x.kind ≠ 3 ∧ x.kind ≠ 4 ∧ x.kind ≠ 5 ∧ x.kind ≠ 6 ∧ x.kind ≠ 7) (hK : (K + 2) * 16 ≤ 140737488355328) (hB : B ≤ w.heap.size) :
    Calls Tryz.prog 7 #[.agg #[.int .i64 f.next, vl1, vc1], .agg #[.int .i64 f.next, vl2, vc2], .agg #[.int .i64 x.kind, .int .i64 x.num, .int .i64 x.src, .int .i64 x.dst, .string x.body, .slice x.va x.vn x.vc, .slice x.ua x.un x.uc]] w (ActS w B (K)) := by
  obtain ⟨p1, q1, rfl⟩ := h1.slice
  obtain ⟨p2, q2, rfl⟩ := h2.slice
  obtain ⟨p3, q3, rfl⟩ := h3.slice
  obtain ⟨p4, q4, rfl⟩ := h4.slice
  have HO1 := Lib.hid h1; have HO2 := Lib.hid h2; have HO3 := Lib.hid h3; have HO4 := Lib.hid h4; have HG := Lib.hid hG; have HOk := Lib.hid hok; have HK := Lib.hid hK; have HBl := Lib.hid hB
  have HF1 := Lib.hid (show FlR w (.agg #[.int .i64 f.next, .slice p1 f.list.length q1, .slice p2 f.cut.length q2]) f from ⟨_, _, rfl, h1.read fc_len, h2.read wc_len⟩)
  have HF2 := Lib.hid (show FlR w (.agg #[.int .i64 f.next, .slice p3 f.list.length q3, .slice p4 f.cut.length q4]) f from ⟨_, _, rfl, h3.read fc_len, h4.read wc_len⟩)
  obtain ⟨kd, nm, sr, ds, bo, va, vn, vcp, ua, un, ucp⟩ := x
  simp only at hk
  obtain ⟨q1k, q2k, q3k, q4k, q5k, q6k, q7k⟩ := hk
  obtain ⟨W, hW⟩ : ∃ W, W = ((((w.alloc (.cells #[.int .i64 f.next, .slice p1 f.list.length q1, .slice p2 f.cut.length q2] 25)).alloc (.cells #[.int .i64 f.next, .slice p3 f.list.length q3, .slice p4 f.cut.length q4] 25)).alloc (.cells #[.int .i64 kd, .int .i64 nm, .int .i64 sr, .int .i64 ds, .string bo, .slice va vn vcp, .slice ua un ucp] 34)).alloc (.cells #[.int .i64 0, .slice none 0 0, .slice none 0 0] 25)).alloc (.cells #[.int .i64 0, .slice none 0 0, .slice none 0 0] 25) := ⟨_, rfl⟩
  have HS := Lib.hid (head_any w f.next (.slice p1 f.list.length q1) (.slice p2 f.cut.length q2) (.slice p3 f.list.length q3) (.slice p4 f.cut.length q4) ⟨kd, nm, sr, ds, bo, va, vn, vcp, ua, un, ucp⟩ W hW)
  clear h1 h2 h3 h4 hG hok hK hB
  go_enter Tryz.func7, Tryz.ntmps7
  go_upto_region 1 with fail
  rw [← hW]
  obtain ⟨hb, hx1, hx2, hxa, hx6, hx7⟩ := HS.out
  have HB := Lib.hid hb; have HX1 := Lib.hid hx1; have HX2 := Lib.hid hx2; have HXa := Lib.hid hxa; have HX6 := Lib.hid hx6; have HX7 := Lib.hid hx7
  clear hb hx1 hx2 hxa hx6 hx7 HS hW
  obtain ⟨N, hN⟩ : ∃ N, w.heap.size = N := ⟨_, rfl⟩
  have HN := Lib.hid hN
  rw [hN] at HX1 HX2 HXa HX6 HX7 ⊢
  clear hN
  have HF1 := Lib.hid (HF1.out.keep HB.out); have HF2 := Lib.hid (HF2.out.keep HB.out)
  obtain ⟨b0, b1, b2, b3, b4, b5, b6⟩ := HXa.out.cells
  simp only at b0 b1 b2 b3 b4 b5 b6
  obtain ⟨e1, e2, e3⟩ := HX1.out.cells
  obtain ⟨k1, k2, k3⟩ := HX2.out.cells
  go_upto_region 30 with fail
  clear b0 b1 b2 b3 b4 b5 b6
  obtain ⟨s1, s2, s3⟩ := HX6.out.cells
  obtain ⟨t1, t2, t3⟩ := HX6.out.thaw
  obtain ⟨s4, s5, s6⟩ := HX7.out.cells
  obtain ⟨t4, t5, t6⟩ := HX7.out.thaw
  have hn6 : N ≠ N + 1 + 1 + 1 := by omega
  have hn7 : N ≠ N + 1 + 1 + 1 + 1 := by omega
  have hm6 : N + 1 ≠ N + 1 + 1 + 1 := by omega
  have hm7 : N + 1 ≠ N + 1 + 1 + 1 + 1 := by omega
  have h67 : N + 1 + 1 + 1 ≠ N + 1 + 1 + 1 + 1 := by omega
  have h76 : N + 1 + 1 + 1 + 1 ≠ N + 1 + 1 + 1 := by omega
  have HSs : Hid (∀ u : World, FBox u N f.next (.slice p1 f.list.length q1) (.slice p2 f.cut.length q2) → FBox u (N + 1) f.next (.slice p3 f.list.length q3) (.slice p4 f.cut.length q4) → ((u.cell? ⟨N, 0, none⟩ = some (.int .i64 f.next) ∧ u.cell? ⟨N, 1, none⟩ = some (.slice p1 f.list.length q1) ∧ u.cell? ⟨N, 2, none⟩ = some (.slice p2 f.cut.length q2)) ∧ (u.cell? ⟨N + 1, 0, none⟩ = some (.int .i64 f.next) ∧ u.cell? ⟨N + 1, 1, none⟩ = some (.slice p3 f.list.length q3) ∧ u.cell? ⟨N + 1, 2, none⟩ = some (.slice p4 f.cut.length q4)))) := Lib.hid (fun u x1 x2 => ⟨x1.cells, x2.cells⟩)
  refine wp_region_held_drew (S := fun u => (u.cell? ⟨N, 0, none⟩ = some (.int .i64 f.next) ∧ u.cell? ⟨N, 1, none⟩ = some (.slice p1 f.list.length q1) ∧ u.cell? ⟨N, 2, none⟩ = some (.slice p2 f.cut.length q2)) ∧ (u.cell? ⟨N + 1, 0, none⟩ = some (.int .i64 f.next) ∧ u.cell? ⟨N + 1, 1, none⟩ = some (.slice p3 f.list.length q3) ∧ u.cell? ⟨N + 1, 2, none⟩ = some (.slice p4 f.cut.length q4))) (by kernel_rfl) (HSs.out _ HX1.out HX2.out) (fun hHeld => ?_)
  refine wpAnyH_take (i := 0) (oi := { dst := some 233, op := Op.load 25 (Operand.tmp 3), type := 25, pos := "law.go:76", after := #[], guard := none }) (v := ?_) rfl (by kernel_rfl) (by kernel_rfl) (by kernel_rfl) (fun _ _ _ h => h) (Or.inl ⟨by rfl, ?_⟩) hHeld ?_
  rotate_left 1
  · intro W hSw
    (try dsimp only at hSw)
    go_simp
    try with_reducible rfl
  try simp only [Act.put, List.setIfInBounds_toArray, List.set_cons_zero, List.set_cons_succ]
  refine wpAnyH_take (i := 1) (oi := { dst := some 234, op := Op.load 25 (Operand.tmp 4), type := 25, pos := "law.go:76", after := #[{ on := 2, ground := Ground.gcOnly Departure.lateStores }], guard := none }) (v := ?_) rfl (by kernel_rfl) (by kernel_rfl) (by kernel_rfl) (fun _ _ _ h => h) (Or.inl ⟨by rfl, ?_⟩) hHeld ?_
  rotate_left 1
  · intro W hSw
    (try dsimp only at hSw)
    go_simp
    try with_reducible rfl
  try simp only [Act.put, List.setIfInBounds_toArray, List.set_cons_zero, List.set_cons_succ]
  refine wpAnyH_ready (rs := [2]) (by kernel_rfl) (by simp) ?_
  refine AllReadyH.cons (o := { dst := none, op := Op.store 25 (Operand.tmp 6) (Operand.tmp 233), type := 0, pos := "law.go:76", after := #[{ on := 0, ground := Ground.data }, { on := 0, ground := Ground.phase }, { on := 1, ground := Ground.textOnly Departure.lateStores }], guard := none }) rfl (fun K7 hK7 => ?_) ?_
  · go_simp
    refine hK7.out _ _ (HSs.out _ (FBox.drew' (HX1.out.other hn6 _ _ _)) (FBox.drew' (HX2.out.other hm6 _ _ _))) (fun hHeld => ?_)
    clear hK7 K7
    try simp only [Act.put, List.setIfInBounds_toArray, List.set_cons_zero, List.set_cons_succ]
    refine wpAnyH_ready (rs := [3]) (by kernel_rfl) (by simp) ?_
    refine AllReadyH.cons (o := { dst := none, op := Op.store 25 (Operand.tmp 7) (Operand.tmp 234), type := 0, pos := "law.go:76", after := #[{ on := 1, ground := Ground.data }, { on := 2, ground := Ground.chain }, { on := 0, ground := Ground.phase }, { on := 1, ground := Ground.phase }, { on := 2, ground := Ground.phase }], guard := none }) rfl (fun K7 hK7 => ?_) ?_
    · go_simp
      refine hK7.out _ _ (HSs.out _ (FBox.drew' ((HX1.out.other hn6 _ _ _).other hn7 _ _ _)) (FBox.drew' ((HX2.out.other hm6 _ _ _).other hm7 _ _ _))) (fun hHeld => ?_)
      clear hK7 K7
      try simp only [Act.put, List.setIfInBounds_toArray, List.set_cons_zero, List.set_cons_succ]
      refine wpAnyH_take (i := 4) (oi := { dst := some 8, op := Op.assign (Operand.const (Value.bool true)), type := 4, pos := "law.go:76", after := #[{ on := 3, ground := Ground.chain }, { on := 0, ground := Ground.phase }, { on := 1, ground := Ground.phase }, { on := 2, ground := Ground.phase }, { on := 3, ground := Ground.phase }], guard := none }) (v := ?_) rfl (by kernel_rfl) (by kernel_rfl) (by kernel_rfl) (fun _ _ _ h => h) (Or.inl ⟨by rfl, ?_⟩) hHeld ?_
      rotate_left 1
      · intro W hSw
        (try dsimp only at hSw)
        go_simp
        try with_reducible rfl
      try simp only [Act.put, List.setIfInBounds_toArray, List.set_cons_zero, List.set_cons_succ]
      refine wpAnyH_done (by kernel_rfl) ?_ _
      clear hHeld e1 e2 e3 k1 k2 k3 s1 s2 s3 s4 s5 s6 t1 t2 t3 t4 t5 t6
      have hN6 : N + 1 + 1 + 1 < W.heap.size := HX6.out.lt
      have hN7 : N + 1 + 1 + 1 + 1 < W.heap.size := HX7.out.lt
      have hNw : w.heap.size ≤ N + 1 + 1 + 1 := by have := HN.out; omega
      have hNv : w.heap.size ≤ N + 1 + 1 + 1 + 1 := by have := HN.out; omega
      have hbr := Below.refl W.heap.size W
      have hP1 := HO1.out.below HB.out
      have hP2 := HO2.out.below HB.out
      have hP3 := HO3.out.below HB.out
      have hP4 := HO4.out.below HB.out
      have hBW : B ≤ W.heap.size := Nat.le_trans HBl.out HB.out.size
      have HZ6 := Lib.hid ((HX6.out.set f.next (.slice p1 f.list.length q1) (.slice p2 f.cut.length q2)).other h67 (.int .i64 f.next) (.slice p3 f.list.length q3) (.slice p4 f.cut.length q4))
      have HZ7 := Lib.hid ((HX7.out.other h76 (.int .i64 f.next) (.slice p1 f.list.length q1) (.slice p2 f.cut.length q2)).set f.next (.slice p3 f.list.length q3) (.slice p4 f.cut.length q4))
      have HZ1 := Lib.hid (ownB (ownB hP1 HX6.out (.int .i64 f.next) (.slice p1 f.list.length q1) (.slice p2 f.cut.length q2)) (HX7.out.other h76 (.int .i64 f.next) (.slice p1 f.list.length q1) (.slice p2 f.cut.length q2)) (.int .i64 f.next) (.slice p3 f.list.length q3) (.slice p4 f.cut.length q4))
      have HZ2 := Lib.hid (ownC (ownC hP2 HX6.out (.int .i64 f.next) (.slice p1 f.list.length q1) (.slice p2 f.cut.length q2)) (HX7.out.other h76 (.int .i64 f.next) (.slice p1 f.list.length q1) (.slice p2 f.cut.length q2)) (.int .i64 f.next) (.slice p3 f.list.length q3) (.slice p4 f.cut.length q4))
      have HZ3 := Lib.hid (ownB (ownB hP3 HX6.out (.int .i64 f.next) (.slice p1 f.list.length q1) (.slice p2 f.cut.length q2)) (HX7.out.other h76 (.int .i64 f.next) (.slice p1 f.list.length q1) (.slice p2 f.cut.length q2)) (.int .i64 f.next) (.slice p3 f.list.length q3) (.slice p4 f.cut.length q4))
      have HZ4 := Lib.hid (ownC (ownC hP4 HX6.out (.int .i64 f.next) (.slice p1 f.list.length q1) (.slice p2 f.cut.length q2)) (HX7.out.other h76 (.int .i64 f.next) (.slice p1 f.list.length q1) (.slice p2 f.cut.length q2)) (.int .i64 f.next) (.slice p3 f.list.length q3) (.slice p4 f.cut.length q4))
      have HZb := Lib.hid (below_set3 (below_set3 (HB.out.trans (hbr.mono HB.out.size)) hNw (.int .i64 f.next) (.slice p1 f.list.length q1) (.slice p2 f.cut.length q2)) hNv (.int .i64 f.next) (.slice p3 f.list.length q3) (.slice p4 f.cut.length q4))
      generalize ((((((W.setCell ⟨N + 1 + 1 + 1, 0, none⟩ (.int .i64 f.next)).setCell ⟨N + 1 + 1 + 1, 1, none⟩ (.slice p1 f.list.length q1)).setCell ⟨N + 1 + 1 + 1, 2, none⟩ (.slice p2 f.cut.length q2)).setCell ⟨N + 1 + 1 + 1 + 1, 0, none⟩ (.int .i64 f.next)).setCell ⟨N + 1 + 1 + 1 + 1, 1, none⟩ (.slice p3 f.list.length q3)).setCell ⟨N + 1 + 1 + 1 + 1, 2, none⟩ (.slice p4 f.cut.length q4)) = W3 at HZ6 HZ7 HZ1 HZ2 HZ3 HZ4 HZb ⊢
      have HZ6 := Lib.hid (FBox.drew' HZ6.out); have HZ7 := Lib.hid (FBox.drew' HZ7.out)
      have HZd := Lib.hid (below_drew (Below.refl W3.heap.size W3))
      generalize hWd : W3.drew = W4 at HZ6 HZ7 HZd ⊢
      clear hWd
      go_wp2
      refine bodyPost_ret (retAct rfl rfl rfl HZ6.out HZ7.out) rfl ?_
      exact ⟨f, _, _, _, _, rfl, HZ1.out.below HZd.out, HZ2.out.below HZd.out, HZ3.out.below HZd.out, HZ4.out.below HZd.out, HG.out, HZb.out.trans (HZd.out.mono HZb.out.size)⟩
    exact AllReadyH.nil
  exact AllReadyH.nil

end Go.Proofs.YtalnmbfmfeaohaaGreat.flight
