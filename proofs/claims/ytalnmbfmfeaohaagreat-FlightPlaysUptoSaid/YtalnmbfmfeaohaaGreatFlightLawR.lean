/- FlightPlays: the program and the document do the same. -/
import Derived.Test.YtalnmbfmfeaohaaGreatRows
import Derived.Test.YtalnmbfmfeaohaaGreatFlightMA
namespace Go.Proofs.YtalnmbfmfeaohaaGreat.flight
open Go.ChangeShapes Go.WideShapes Go.ChangeAt Go.RowKit
open Go.Proofs.YtalnmbfmfeaohaaGreat.kit Go.Proofs.YtalnmbfmfeaohaaGreat.own Go.Proofs.YtalnmbfmfeaohaaGreat.lift
set_option linter.unusedVariables false
set_option linter.unusedSimpArgs false

theorem size_le : ∀ (ys : List ActL) (i : Nat) (h : i < ys.length), ys[i].size ≤ (ys.map ActL.size).sum
  | y :: r, 0, _ => by simp
  | y :: r, i + 1, h => by
    have := size_le r i (by simpa using h)
    simp only [List.getElem_cons_succ, List.map_cons, List.sum_cons]
    omega
theorem act_at {w : World} {v : Value} {xs : List ActL} {L : Nat} (h : Sl al 7 w v xs) (hL : xs.length = L) {j : Nat} (hj : j < xs.length) : ∃ b off c, v = .slice (some (⟨b, off, none⟩ : Addr)) L c ∧ b < w.heap.size ∧ w.rangeAt b (off + j * 7) (al xs[j]) := by
  obtain ⟨_, a', c', rfl, -, hc0⟩ := h
  obtain ⟨b, off, rfl, hb, hc⟩ := hc0 (by omega)
  exact ⟨b, off, c', by rw [hL], hb, hc j hj⟩

set_option maxHeartbeats 32000000 in
set_option maxRecDepth 100000 in
theorem walkPlays (v va : Value) (f : Flt) (acts : List ActL) (w : World) (h : FlR w v f) (hok : ∀ x ∈ f.list, Frm.Ok x) (how : ∀ y ∈ f.cut, Wy.Ok y) (hs : Sl al 7 w va acts) (his : ∀ y ∈ acts, y.Is w) (hb : f.cut.length + (acts.map ActL.size).sum ≤ 1048576) :
    Calls Tryz.prog 3 #[v, va] w fun e w' => e = .returned (.bool true) ∧ Below w.heap.size w w' := by
  obtain ⟨vl, vc, rfl, hll, hcc⟩ := id h
  have hb1 := below_new w (.cells #[.int .i64 f.next, vl, vc] 25)
  have HX1 := Lib.hid (fbox_new w f.next vl vc)
  have HF := Lib.hid (h.keep hb1); have HB := Lib.hid hb1
  obtain ⟨aa, ca, rfl⟩ := hs.slice
  have HSa := Lib.hid (hs.keep hb1); have HIs := Lib.hid (fun y hy => (his y hy).keep hb1)
  have HOk := Lib.hid hok; have HOw := Lib.hid how; have HBd := Lib.hid hb
  have hla : acts.length ≤ 1048576 := by
    have : acts.length ≤ (acts.map ActL.size).sum := by
      clear HSa HIs hs his hb HBd
      induction acts with
      | nil => simp
      | cons y r ih => simp only [List.length_cons, List.map_cons, List.sum_cons]; have : 1 ≤ y.size := by unfold ActL.size; omega
                       omega
    omega
  obtain ⟨La, hLa⟩ : ∃ L, acts.length = L := ⟨_, rfl⟩
  have HLa := Lib.hid hLa
  rw [hLa] at HSa hla ⊢
  have HFit := Lib.hid (rFit_any _ f _ HF.out)
  obtain ⟨ft, hft⟩ : ∃ b, f.fit = b := ⟨_, rfl⟩
  have HFt := Lib.hid hft
  rw [hft] at HFit
  have mixed : Tryz.prog.follows .mixedOrders = true := by kernel_rfl
  clear hll hcc hb1 hs his hok how hb h hLa hft
  cases ft with
  | false =>
    go_enter Tryz.func3, Tryz.ntmps3
    go_upto_region 1 with fail
    obtain ⟨e1, e2, e3⟩ := HX1.out.cells
    go_wp2_with fail
    refine HFit.out.mono ?_
    rintro e w1 ⟨rfl, hb⟩
    have HB1 := Lib.hid (HB.out.trans (hb.mono HB.out.size))
    clear hb e1 e2 e3
    go_wp2_with (go_at_call 5; refine (awake_any _).mono ?_; rintro e w6 ⟨rfl, hb⟩; have HBe := Lib.hid (HB1.out.trans (hb.mono HB1.out.size)); clear hb)
    go_ret
    exact ⟨rfl, HBe.out⟩
  | true =>
    have HG := Lib.hid (good_of HFt.out HOk.out HOw.out)
    clear HFt HOk HOw
    obtain ⟨n, l, c⟩ := f
    simp only at HX1 HF HB HFit HG HBd ⊢
    go_enter Tryz.func3, Tryz.ntmps3
    go_upto_region 1 with fail
    generalize (w.alloc (.cells #[.int .i64 n, vl, vc] 25)) = W at HX1 HF HB HSa HIs HFit ⊢
    obtain ⟨N, hN⟩ : ∃ N, w.heap.size = N := ⟨_, rfl⟩
    have HN := Lib.hid hN
    rw [hN] at HX1 ⊢
    clear hN
    obtain ⟨e1, e2, e3⟩ := HX1.out.cells
    have hlen : l.length * 40 ≤ 140737488355328 := by have := HG.out.len; simp only at this; omega
    have hcut : c.length * 16 ≤ 140737488355328 := by have := HBd.out; omega
    have HLn := Lib.hid (And.intro hlen hcut)
    clear hlen hcut
    go_wp2_with fail
    refine HFit.out.mono ?_
    rintro e w1 ⟨rfl, hb⟩
    have HB1 := Lib.hid hb
    have HX1a := Lib.hid (HX1.out.keep hb)
    clear hb e1 e2 e3 HFit
    obtain ⟨e1, e2, e3⟩ := HX1a.out.cells
    go_wp2_with fail
    refine (rCopy_any _ ⟨n, l, c⟩ w1 (HF.out.keep HB1.out) HLn.out.1 HLn.out.2).mono ?_
    rintro e w2 ⟨vl1, vc1, rfl, ho1, ho2, hb⟩
    simp only at ho1 ho2 ⊢
    obtain ⟨a1, c1, rfl⟩ := ho1.slice
    obtain ⟨a2, c2, rfl⟩ := ho2.slice
    have hb3 := below_new w2 (.cells #[.int .i64 n, .slice a1 l.length c1, .slice a2 c.length c2] 25)
    have hbb := HB1.out.trans ((hb.trans (hb3.mono hb.size)).mono HB1.out.size)
    have HX5 := Lib.hid (fbox_new w2 n (.slice a1 l.length c1) (.slice a2 c.length c2))
    have HX1b := Lib.hid (HX1.out.keep hbb)
    have HO1 := Lib.hid ((ho1.below hb3).mono HB1.out.size); have HO2 := Lib.hid ((ho2.below hb3).mono HB1.out.size)
    have HB2 := Lib.hid hbb
    have HN5 := Lib.hid (show W.heap.size ≤ w2.heap.size from Nat.le_trans HB1.out.size hb.size)
    clear ho1 ho2 hb hb3 hbb e1 e2 e3 HX1a
    go_upto_region 4 with fail
    generalize (w2.alloc (.cells #[.int .i64 n, .slice a1 l.length c1, .slice a2 c.length c2] 25)) = W2 at HX5 HX1b HO1 HO2 HB2 ⊢
    generalize w2.heap.size = N5 at HX5 HN5 ⊢
    obtain ⟨e1, e2, e3⟩ := HX1b.out.cells
    go_wp2_with fail
    refine (rCopy_any _ ⟨n, l, c⟩ W2 (HF.out.keep HB2.out) HLn.out.1 HLn.out.2).mono ?_
    rintro e w3 ⟨vl3, vc3, rfl, ho3, ho4, hb⟩
    simp only at ho3 ho4 ⊢
    obtain ⟨a3, c3, rfl⟩ := ho3.slice
    obtain ⟨a4, c4, rfl⟩ := ho4.slice
    have hb3 := below_new w3 (.cells #[.int .i64 n, .slice a3 l.length c3, .slice a4 c.length c4] 25)
    have hbb := hb.trans (hb3.mono hb.size)
    have HX6 := Lib.hid (fbox_new w3 n (.slice a3 l.length c3) (.slice a4 c.length c4))
    have HX5a := Lib.hid (HX5.out.keep hbb)
    have HO3 := Lib.hid ((ho3.below hb3).mono HB2.out.size); have HO4 := Lib.hid ((ho4.below hb3).mono HB2.out.size)
    have HO1a := Lib.hid (HO1.out.below hbb); have HO2a := Lib.hid (HO2.out.below hbb)
    have HB3 := Lib.hid (HB2.out.trans (hbb.mono HB2.out.size))
    have HN6 := Lib.hid (show N5 < w3.heap.size from Nat.lt_of_lt_of_le HX5.out.lt hb.size)
    clear ho3 ho4 hb hb3 hbb e1 e2 e3 HX5 HO1 HO2 HX1b HLn
    go_upto_region 5 with fail
    generalize (w3.alloc (.cells #[.int .i64 n, .slice a3 l.length c3, .slice a4 c.length c4] 25)) = W3 at HX6 HX5a HO3 HO4 HO1a HO2a HB3 ⊢
    generalize w3.heap.size = N6 at HX6 HN6 ⊢
    have hN56 : ¬ N5 = N6 := by have := HN6.out; omega
    have hN65 : ¬ N6 = N5 := by have := HN6.out; omega
    go_wp2
    go_loopw [7] (fun v7 wr => ∃ (i : Nat) (g : Flt) (x1 y1 x2 y2 : Value), i ≤ La ∧ v7 = .int .i64 i ∧ FBox wr N5 g.next x1 y1 ∧ FBox wr N6 g.next x2 y2 ∧ Own fc 4 38 wr W.heap.size x1 g.list ∧ Own wc 2 40 wr W.heap.size y1 g.cut ∧ Own fc 4 38 wr W.heap.size x2 g.list ∧ Own wc 2 40 wr W.heap.size y2 g.cut ∧ Good g (c.length + costs (acts.take i)) ∧ Below W.heap.size W wr) (fun i _ => La - (intOf i).toNat)
    case atStart => exact ⟨0, ⟨n, l, c⟩, _, _, _, _, by omega, rfl, HX5a.out, HX6.out, HO1a.out, HO2a.out, HO3.out, HO4.out, by simpa [costs] using HG.out, HB3.out⟩
    case round =>
      obtain ⟨i, g, x1, y1, x2, y2, hi, rfl, hx5, hx6, ho1, ho2, ho3, ho4, hg, hbw⟩ := hrel
      clear HX5a HX6 HO1a HO2a HO3 HO4 HB3
      obtain ⟨n, l, c'⟩ := g
      simp only at hx5 hx6 ho1 ho2 ho3 ho4
      obtain ⟨p1, q1, rfl⟩ := ho1.slice
      obtain ⟨p2, q2, rfl⟩ := ho2.slice
      obtain ⟨p3, q3, rfl⟩ := ho3.slice
      obtain ⟨p4, q4, rfl⟩ := ho4.slice
      have HX5 := Lib.hid hx5; have HX6 := Lib.hid hx6; have HO1 := Lib.hid ho1; have HO2 := Lib.hid ho2; have HO3 := Lib.hid ho3; have HO4 := Lib.hid ho4; have HGi := Lib.hid hg; have HBr := Lib.hid hbw
      clear hx5 hx6 ho1 ho2 ho3 ho4 hg hbw HG
      by_cases hlt : i < La
      · have hlt' : (i : Int) < La := by omega
        have hi0 : (0 : Int) ≤ i := by omega
        have hia : i < acts.length := by rw [HLa.out]; exact hlt
        have HKb : Hid (∀ K, K = c.length + costs (acts.take i) → (K + acts[i].cost + 2) * 16 ≤ 140737488355328) := Lib.hid (fun K hK => by
          have h1 := costs_take acts i hia
          have h2 := costs_upto acts (i + 1)
          have h3 := costs_le acts
          have h4 := HBd.out
          have h5 : (acts.map ActL.size).sum * (acts.map ActL.size).sum ≤ 1048576 * 1048576 := Nat.mul_le_mul (by omega) (by omega)
          omega)
        have HYab : Hid (acts[i].a.length * 8 ≤ 140737488355328 ∧ acts[i].b.length * 8 ≤ 140737488355328) := Lib.hid (by
          have h1 : acts[i].size ≤ (acts.map ActL.size).sum := size_le acts i hia
          have h4 := HBd.out
          have h5 : acts[i].size = acts[i].a.length + acts[i].b.length + 1 := rfl
          constructor <;> omega)
        have HNx : Hid (c.length + costs (acts.take i) + acts[i].cost = c.length + costs (acts.take (i + 1))) := Lib.hid (by rw [costs_take acts i hia]; omega)
        have HAct : Hid (acts[i].Is wr) := Lib.hid ((HIs.out _ (List.getElem_mem hia)).keep HBr.out)
        obtain ⟨bka, off, c9, he, hbka, hca⟩ := act_at (HSa.out.keep HBr.out) HLa.out hia
        obtain ⟨rfl, rfl⟩ : aa = some ⟨bka, off, none⟩ ∧ ca = c9 := by cases he; exact ⟨rfl, rfl⟩
        generalize acts[i] = y at HKb HNx HAct hca HYab
        obtain ⟨x, ya, yb⟩ := y
        have HCa : Hid (∀ u, Below wr.heap.size wr u → u.cell? ⟨bka, off + i * 7, none⟩ = some (.int .i64 x.kind) ∧ u.cell? ⟨bka, off + i * 7 + 1, none⟩ = some (.int .i64 x.num) ∧ u.cell? ⟨bka, off + i * 7 + 2, none⟩ = some (.int .i64 x.src) ∧ u.cell? ⟨bka, off + i * 7 + 3, none⟩ = some (.int .i64 x.dst) ∧ u.cell? ⟨bka, off + i * 7 + 4, none⟩ = some (.string x.body) ∧ u.cell? ⟨bka, off + i * 7 + 5, none⟩ = some (.slice x.va x.vn x.vc) ∧ u.cell? ⟨bka, off + i * 7 + 6, none⟩ = some (.slice x.ua x.un x.uc)) := Lib.hid (fun u hu => by
          have hk := range_keep hca hbka hu
          exact ⟨hk 0 _ rfl, hk 1 _ rfl, hk 2 _ rfl, hk 3 _ rfl, hk 4 _ rfl, hk 5 _ rfl, hk 6 _ rfl⟩)
        clear hca hbka he hia
        obtain ⟨K, hK⟩ : ∃ K, c.length + costs (acts.take i) = K := ⟨_, rfl⟩
        have HKi := Lib.hid (HKb.out _ rfl)
        rw [hK] at HGi HNx HKi
        clear HKb hK
        obtain ⟨e1, e2, e3⟩ := HX5.out.cells
        go_wp2_with fail
        refine (rCopy_any _ ⟨n, l, c'⟩ wr ⟨_, _, rfl, HO1.out.read fc_len, HO2.out.read wc_len⟩ (by have := HGi.out.len; simp only at this ⊢; omega) (by have := HGi.out.cl; have := HKi.out; simp only at *; omega)).mono ?_
        rintro e w1 ⟨vl8, vc8, rfl, ho8, ho9, hb⟩
        simp only at ho8 ho9 ⊢
        obtain ⟨p8, q8, rfl⟩ := ho8.slice
        obtain ⟨p9, q9, rfl⟩ := ho9.slice
        have hb3 := below_new w1 (.cells #[.int .i64 n, .slice p8 l.length q8, .slice p9 c'.length q9] 25)
        have hbb := hb.trans (hb3.mono hb.size)
        have HX8 := Lib.hid (fbox_new w1 n (.slice p8 l.length q8) (.slice p9 c'.length q9))
        have HO8 := Lib.hid ((ho8.below hb3).mono HBr.out.size); have HO9 := Lib.hid ((ho9.below hb3).mono HBr.out.size)
        have HX5b := Lib.hid (HX5.out.keep hbb); have HX6b := Lib.hid (HX6.out.keep hbb)
        have HO1b := Lib.hid (HO1.out.below hbb); have HO2b := Lib.hid (HO2.out.below hbb); have HO3b := Lib.hid (HO3.out.below hbb); have HO4b := Lib.hid (HO4.out.below hbb)
        have HActb := Lib.hid (HAct.out.keep hbb)
        have HCab : Hid (∀ u, Below (w1.alloc (.cells #[.int .i64 n, .slice p8 l.length q8, .slice p9 c'.length q9] 25)).heap.size (w1.alloc (.cells #[.int .i64 n, .slice p8 l.length q8, .slice p9 c'.length q9] 25)) u → _) := Lib.hid (fun u hu => HCa.out u (hbb.trans (hu.mono hbb.size)))
        have HBs := Lib.hid (HBr.out.trans (hbb.mono HBr.out.size))
        have HNs := Lib.hid (show N6 < w1.heap.size from Nat.lt_of_lt_of_le HX6.out.lt hb.size)
        clear ho8 ho9 hb hb3 hbb e1 e2 e3 HX5 HX6 HO1 HO2 HO3 HO4 HAct HCa HBr
        go_upto_region 9 with fail
        generalize (w1.alloc (.cells #[.int .i64 n, .slice p8 l.length q8, .slice p9 c'.length q9] 25)) = W8 at HX8 HO8 HO9 HX5b HX6b HO1b HO2b HO3b HO4b HActb HCab HBs ⊢
        generalize w1.heap.size = N8 at HX8 HNs ⊢
        have HKi2 : Hid ((K + 2 * (ya.length * yb.length) + 2) * 16 ≤ 140737488355328) := Lib.hid (Nat.le_trans (Nat.mul_le_mul_right 16 (Nat.add_le_add_right (Nat.add_le_add_left (Nat.le_succ _) K) 2)) HKi.out)
        have HCs : Hid (∀ u, Below W8.heap.size W8 u → u.cell? ⟨N5, 0, none⟩ = some (.int .i64 n) ∧ u.cell? ⟨N5, 1, none⟩ = some (.slice p1 l.length q1) ∧ u.cell? ⟨N5, 2, none⟩ = some (.slice p2 c'.length q2) ∧ u.cell? ⟨N6, 0, none⟩ = some (.int .i64 n) ∧ u.cell? ⟨N6, 1, none⟩ = some (.slice p3 l.length q3) ∧ u.cell? ⟨N6, 2, none⟩ = some (.slice p4 c'.length q4) ∧ u.cell? ⟨bka, off + i * 7, none⟩ = some (.int .i64 x.kind) ∧ u.cell? ⟨bka, off + i * 7 + 1, none⟩ = some (.int .i64 x.num) ∧ u.cell? ⟨bka, off + i * 7 + 2, none⟩ = some (.int .i64 x.src) ∧ u.cell? ⟨bka, off + i * 7 + 3, none⟩ = some (.int .i64 x.dst) ∧ u.cell? ⟨bka, off + i * 7 + 4, none⟩ = some (.string x.body) ∧ u.cell? ⟨bka, off + i * 7 + 5, none⟩ = some (.slice x.va x.vn x.vc) ∧ u.cell? ⟨bka, off + i * 7 + 6, none⟩ = some (.slice x.ua x.un x.uc)) := Lib.hid (fun u hu => by
          obtain ⟨m1, m2, m3⟩ := (HX5b.out.keep hu).cells
          obtain ⟨m4, m5, m6⟩ := (HX6b.out.keep hu).cells
          exact ⟨m1, m2, m3, m4, m5, m6, HCab.out u hu⟩)
        have hWw : W.heap.size ≤ W8.heap.size := HBs.out.size
        have HBu := Lib.hid (below_drew (Below.refl W8.heap.size W8))
        go_wp2_with fail
        refine wp_region_held_drew (S := fun u => u.cell? ⟨N5, 0, none⟩ = some (.int .i64 n) ∧ u.cell? ⟨N5, 1, none⟩ = some (.slice p1 l.length q1) ∧ u.cell? ⟨N5, 2, none⟩ = some (.slice p2 c'.length q2) ∧ u.cell? ⟨N6, 0, none⟩ = some (.int .i64 n) ∧ u.cell? ⟨N6, 1, none⟩ = some (.slice p3 l.length q3) ∧ u.cell? ⟨N6, 2, none⟩ = some (.slice p4 c'.length q4) ∧ u.cell? ⟨bka, off + i * 7, none⟩ = some (.int .i64 x.kind) ∧ u.cell? ⟨bka, off + i * 7 + 1, none⟩ = some (.int .i64 x.num) ∧ u.cell? ⟨bka, off + i * 7 + 2, none⟩ = some (.int .i64 x.src) ∧ u.cell? ⟨bka, off + i * 7 + 3, none⟩ = some (.int .i64 x.dst) ∧ u.cell? ⟨bka, off + i * 7 + 4, none⟩ = some (.string x.body) ∧ u.cell? ⟨bka, off + i * 7 + 5, none⟩ = some (.slice x.va x.vn x.vc) ∧ u.cell? ⟨bka, off + i * 7 + 6, none⟩ = some (.slice x.ua x.un x.uc)) (by kernel_rfl) (HCs.out _ HBu.out) (fun hHeld => ?_)
        obtain ⟨U, hU0⟩ : ∃ X, W8.drew = X := ⟨_, rfl⟩
        rw [hU0] at HBu hHeld ⊢
        clear hU0
        refine wpAnyH_take (i := 0) (oi := { dst := some 29, op := Op.load 25 (Operand.tmp 5), type := 25, pos := "law.go:93", after := #[], guard := none }) (v := ?_) rfl (by kernel_rfl) (by kernel_rfl) (by kernel_rfl) (fun _ _ _ h => h) (Or.inl ⟨by rfl, ?_⟩) hHeld ?_
        rotate_left 1
        · intro W hSw
          (try dsimp only at hSw)
          go_simp
          try with_reducible rfl
        try simp only [Act.put, List.setIfInBounds_toArray, List.set_cons_zero, List.set_cons_succ]
        refine wpAnyH_take (i := 1) (oi := { dst := some 30, op := Op.load 25 (Operand.tmp 6), type := 25, pos := "law.go:93", after := #[], guard := none }) (v := ?_) rfl (by kernel_rfl) (by kernel_rfl) (by kernel_rfl) (fun _ _ _ h => h) (Or.inl ⟨by rfl, ?_⟩) hHeld ?_
        rotate_left 1
        · intro W hSw
          (try dsimp only at hSw)
          go_simp
          try with_reducible rfl
        try simp only [Act.put, List.setIfInBounds_toArray, List.set_cons_zero, List.set_cons_succ]
        refine wpAnyH_take (i := 2) (oi := { dst := some 31, op := Op.move (Operand.tmp 1), type := 26, pos := "law.go:93", after := #[], guard := none }) (v := ?_) rfl (by kernel_rfl) (by kernel_rfl) (by kernel_rfl) (fun _ _ _ h => h) (Or.inl ⟨by rfl, ?_⟩) hHeld ?_
        rotate_left 1
        · intro W hSw
          (try dsimp only at hSw)
          go_simp
          try with_reducible rfl
        try simp only [Act.put, List.setIfInBounds_toArray, List.set_cons_zero, List.set_cons_succ]
        refine wpAnyH_take (i := 3) (oi := { dst := some 32, op := Op.move (Operand.tmp 7), type := 3, pos := "law.go:93", after := #[], guard := none }) (v := ?_) rfl (by kernel_rfl) (by kernel_rfl) (by kernel_rfl) (fun _ _ _ h => h) (Or.inl ⟨by rfl, ?_⟩) hHeld ?_
        rotate_left 1
        · intro W hSw
          (try dsimp only at hSw)
          go_simp
          try with_reducible rfl
        try simp only [Act.put, List.setIfInBounds_toArray, List.set_cons_zero, List.set_cons_succ]
        refine wpAnyH_take (i := 4) (oi := { dst := some 33, op := Op.indexAddr 26 (Operand.tmp 31) (Operand.tmp 32), type := 0, pos := "law.go:93", after := #[{ on := 2, ground := Ground.data }, { on := 3, ground := Ground.data }], guard := none }) (v := ?_) rfl (by kernel_rfl) (by kernel_rfl) (by kernel_rfl) (fun _ _ _ h => h) (Or.inl ⟨by rfl, ?_⟩) hHeld ?_
        rotate_left 1
        · intro W hSw
          (try dsimp only at hSw)
          go_simp
          try with_reducible rfl
        try simp only [Act.put, List.setIfInBounds_toArray, List.set_cons_zero, List.set_cons_succ]
        refine wpAnyH_take (i := 5) (oi := { dst := some 34, op := Op.load 34 (Operand.tmp 33), type := 34, pos := "law.go:93", after := #[{ on := 4, ground := Ground.data }], guard := none }) (v := ?_) rfl (by kernel_rfl) (by kernel_rfl) (by kernel_rfl) (fun _ _ _ h => h) (Or.inl ⟨by rfl, ?_⟩) hHeld ?_
        rotate_left 1
        · intro W hSw
          (try dsimp only at hSw)
          go_simp
          try with_reducible rfl
        try simp only [Act.put, List.setIfInBounds_toArray, List.set_cons_zero, List.set_cons_succ]
        refine wpAnyH_ready (rs := [6, 11, 12]) (by kernel_rfl) (by simp) ?_
        refine AllReadyH.cons (o := { dst := some 35, op := Op.call { callee := Callee.value (Operand.func 7), args := #[Operand.tmp 29, Operand.tmp 30, Operand.tmp 34], argTypes := #[25, 25, 34] }, type := 30, pos := "law.go:93", after := #[{ on := 0, ground := Ground.data }, { on := 1, ground := Ground.data }, { on := 5, ground := Ground.data }], guard := none }) rfl (fun K7 hK7 => ?_) ?_
        · go_simp
          refine (act_any (f := ⟨n, l, c'⟩) _ _ _ _ W.heap.size K x _ (HO1b.out.below HBu.out) (HO2b.out.below HBu.out) (HO3b.out.below HBu.out) (HO4b.out.below HBu.out) HGi.out HActb.out.1 (Nat.le_trans hWw HBu.out.size) ya yb (HActb.out.2.1.keep HBu.out) (HActb.out.2.2.1.keep HBu.out) HActb.out.2.2.2.1 HActb.out.2.2.2.2 HYab.out.1 HYab.out.2 HKi2.out).mono ?_
          rintro e U ⟨⟨n7, l7, c7⟩, vl7, vc7, vm7, vd7, he, ho5, ho6, ho7, ho8, hg7, hb7⟩
          have he : e = .returned (.tuple #[.agg #[.int .i64 n7, vl7, vc7], .agg #[.int .i64 n7, vm7, vd7], .bool true]) := he
          subst he
          simp only at ho5 ho6 ho7 ho8
          obtain ⟨x5, y5, rfl⟩ := ho5.slice
          obtain ⟨x6, y6, rfl⟩ := ho6.slice
          obtain ⟨x7, y7, rfl⟩ := ho7.slice
          obtain ⟨x8, y8, rfl⟩ := ho8.slice
          have HP5 := Lib.hid ho5
          have HP6 := Lib.hid ho6
          have HP7 := Lib.hid ho7
          have HP8 := Lib.hid ho8
          have HG7 := Lib.hid hg7
          have HBu := Lib.hid (HBu.out.trans (hb7.mono HBu.out.size))
          (try have HZ9 := Lib.hid (HZ9.out.keep hb7))
          (try have HZ10 := Lib.hid (HZ10.out.keep hb7))
          clear ho5 ho6 ho7 ho8 hg7 hb7
          try dsimp only
          refine hK7.out _ _ (by first | exact HCs.out _ HBu.out | exact HCs.out _ (below_drew HBu.out)) (fun hHeld => ?_)
          clear hK7 K7
          try simp only [Act.put, List.setIfInBounds_toArray, List.set_cons_zero, List.set_cons_succ]
          refine wpAnyH_take (i := 7) (oi := { dst := some 28, op := Op.move (Operand.tmp 35), type := 30, pos := "law.go:93", after := #[{ on := 6, ground := Ground.data }], guard := none }) (v := ?_) rfl (by kernel_rfl) (by kernel_rfl) (by kernel_rfl) (fun _ _ _ h => h) (Or.inl ⟨by rfl, ?_⟩) hHeld ?_
          rotate_left 1
          · intro W hSw
            (try dsimp only at hSw)
            go_simp
            try with_reducible rfl
          try simp only [Act.put, List.setIfInBounds_toArray, List.set_cons_zero, List.set_cons_succ]
          refine wpAnyH_take (i := 8) (oi := { dst := some 36, op := Op.extract (Operand.tmp 28) 0, type := 25, pos := "law.go:93", after := #[{ on := 7, ground := Ground.data }], guard := none }) (v := ?_) rfl (by kernel_rfl) (by kernel_rfl) (by kernel_rfl) (fun _ _ _ h => h) (Or.inl ⟨by rfl, ?_⟩) hHeld ?_
          rotate_left 1
          · intro W hSw
            (try dsimp only at hSw)
            go_simp
            try with_reducible rfl
          try simp only [Act.put, List.setIfInBounds_toArray, List.set_cons_zero, List.set_cons_succ]
          refine wpAnyH_take (i := 9) (oi := { dst := some 37, op := Op.extract (Operand.tmp 28) 1, type := 25, pos := "law.go:93", after := #[{ on := 7, ground := Ground.data }, { on := 13, ground := Ground.gcOnly Departure.lateStores }], guard := none }) (v := ?_) rfl (by kernel_rfl) (by kernel_rfl) (by kernel_rfl) (fun _ _ _ h => h) (Or.inl ⟨by rfl, ?_⟩) hHeld ?_
          rotate_left 1
          · intro W hSw
            (try dsimp only at hSw)
            go_simp
            try with_reducible rfl
          try simp only [Act.put, List.setIfInBounds_toArray, List.set_cons_zero, List.set_cons_succ]
          refine wpAnyH_take (i := 10) (oi := { dst := some 38, op := Op.extract (Operand.tmp 28) 2, type := 4, pos := "law.go:93", after := #[{ on := 7, ground := Ground.data }, { on := 14, ground := Ground.gcOnly Departure.lateStores }], guard := none }) (v := ?_) rfl (by kernel_rfl) (by kernel_rfl) (by kernel_rfl) (fun _ _ _ h => h) (Or.inl ⟨by rfl, ?_⟩) hHeld ?_
          rotate_left 1
          · intro W hSw
            (try dsimp only at hSw)
            go_simp
            try with_reducible rfl
          try simp only [Act.put, List.setIfInBounds_toArray, List.set_cons_zero, List.set_cons_succ]
          refine wpAnyH_ready (rs := [11, 12]) (by kernel_rfl) (by simp) ?_
          refine AllReadyH.cons (o := { dst := some 9, op := Op.alloc 25, type := 0, pos := "law.go:93", after := #[], guard := none }) rfl (fun K7 hK7 => ?_) ?_
          · go_simp
            have hbn := below_new U (.cells #[.int .i64 0, .slice none 0 0, .slice none 0 0] 25)
            have HL9 := Lib.hid HBu.out.size
            (try have HNe := Lib.hid (show U.heap.size ≠ A10 from (Nat.ne_of_lt HZ10.out.lt).symm))
            have HZ9 := Lib.hid (fbox_new U 0 (.slice none 0 0) (.slice none 0 0))
            (try have HZ10 := Lib.hid (HZ10.out.keep hbn))
            (try have HP5 := Lib.hid (HP5.out.below hbn))
            (try have HP6 := Lib.hid (HP6.out.below hbn))
            (try have HP7 := Lib.hid (HP7.out.below hbn))
            (try have HP8 := Lib.hid (HP8.out.below hbn))
            have HBu := Lib.hid (HBu.out.trans (hbn.mono HBu.out.size))
            obtain ⟨A9, hA⟩ : ∃ A, U.heap.size = A := ⟨_, rfl⟩
            rw [hA] at HZ9 HL9 ⊢
            (try rw [hA] at HNe)
            obtain ⟨U, hU⟩ : ∃ X, U.alloc (.cells #[.int .i64 0, .slice none 0 0, .slice none 0 0] 25) = X := ⟨_, rfl⟩
            rw [hU] at HZ9 HBu ⊢
            (try rw [hU] at HZ10)
            (try rw [hU] at HP5)
            (try rw [hU] at HP6)
            (try rw [hU] at HP7)
            (try rw [hU] at HP8)
            clear hbn hA hU
            refine hK7.out _ _ (by first | exact HCs.out _ HBu.out | exact HCs.out _ (below_drew HBu.out)) (fun hHeld => ?_)
            clear hK7 K7
            try simp only [Act.put, List.setIfInBounds_toArray, List.set_cons_zero, List.set_cons_succ]
            refine wpAnyH_ready (rs := [12]) (by kernel_rfl) (by simp) ?_
            refine AllReadyH.cons (o := { dst := some 10, op := Op.alloc 25, type := 0, pos := "law.go:93", after := #[], guard := none }) rfl (fun K7 hK7 => ?_) ?_
            · go_simp
              have hbn := below_new U (.cells #[.int .i64 0, .slice none 0 0, .slice none 0 0] 25)
              have HL10 := Lib.hid HBu.out.size
              (try have HNe := Lib.hid (show A9 ≠ U.heap.size from Nat.ne_of_lt HZ9.out.lt))
              have HZ10 := Lib.hid (fbox_new U 0 (.slice none 0 0) (.slice none 0 0))
              (try have HZ9 := Lib.hid (HZ9.out.keep hbn))
              (try have HP5 := Lib.hid (HP5.out.below hbn))
              (try have HP6 := Lib.hid (HP6.out.below hbn))
              (try have HP7 := Lib.hid (HP7.out.below hbn))
              (try have HP8 := Lib.hid (HP8.out.below hbn))
              have HBu := Lib.hid (HBu.out.trans (hbn.mono HBu.out.size))
              obtain ⟨A10, hA⟩ : ∃ A, U.heap.size = A := ⟨_, rfl⟩
              rw [hA] at HZ10 HL10 ⊢
              (try rw [hA] at HNe)
              obtain ⟨U, hU⟩ : ∃ X, U.alloc (.cells #[.int .i64 0, .slice none 0 0, .slice none 0 0] 25) = X := ⟨_, rfl⟩
              rw [hU] at HZ10 HBu ⊢
              (try rw [hU] at HZ9)
              (try rw [hU] at HP5)
              (try rw [hU] at HP6)
              (try rw [hU] at HP7)
              (try rw [hU] at HP8)
              clear hbn hA hU
              refine hK7.out _ _ (by first | exact HCs.out _ HBu.out | exact HCs.out _ (below_drew HBu.out)) (fun hHeld => ?_)
              clear hK7 K7
              try simp only [Act.put, List.setIfInBounds_toArray, List.set_cons_zero, List.set_cons_succ]
              refine wpAnyH_ready (rs := [13]) (by kernel_rfl) (by simp) ?_
              refine AllReadyH.cons (o := { dst := none, op := Op.store 25 (Operand.tmp 9) (Operand.tmp 36), type := 0, pos := "law.go:93", after := #[{ on := 11, ground := Ground.data }, { on := 8, ground := Ground.data }, { on := 6, ground := Ground.chain }, { on := 0, ground := Ground.phase }, { on := 1, ground := Ground.phase }, { on := 2, ground := Ground.phase }, { on := 3, ground := Ground.phase }, { on := 4, ground := Ground.phase }, { on := 5, ground := Ground.phase }, { on := 6, ground := Ground.phase }, { on := 7, ground := Ground.phase }, { on := 8, ground := Ground.phase }, { on := 9, ground := Ground.textOnly Departure.lateStores }, { on := 10, ground := Ground.textOnly Departure.lateStores }, { on := 11, ground := Ground.phase }, { on := 12, ground := Ground.phase }], guard := none }) rfl (fun K7 hK7 => ?_) ?_
              · obtain ⟨t1, t2, t3⟩ := HZ9.out.thaw
                obtain ⟨s1, s2, s3⟩ := HZ9.out.cells
                go_simp
                clear t1 t2 t3 s1 s2 s3
                have HX9 := Lib.hid (HZ9.out.set n7 (.slice x5 l7.length y5) (.slice x6 c7.length y6))
                have HZ10 := Lib.hid (HZ10.out.other HNe.out.symm (.int .i64 n7) (.slice x5 l7.length y5) (.slice x6 c7.length y6))
                have HP5 := Lib.hid (ownB HP5.out HZ9.out (.int .i64 n7) (.slice x5 l7.length y5) (.slice x6 c7.length y6))
                have HP6 := Lib.hid (ownC HP6.out HZ9.out (.int .i64 n7) (.slice x5 l7.length y5) (.slice x6 c7.length y6))
                have HP7 := Lib.hid (ownB HP7.out HZ9.out (.int .i64 n7) (.slice x5 l7.length y5) (.slice x6 c7.length y6))
                have HP8 := Lib.hid (ownC HP8.out HZ9.out (.int .i64 n7) (.slice x5 l7.length y5) (.slice x6 c7.length y6))
                have HBu := Lib.hid (below_set3 HBu.out HL9.out (.int .i64 n7) (.slice x5 l7.length y5) (.slice x6 c7.length y6))
                obtain ⟨U, hU⟩ : ∃ X, (((U.setCell ⟨A9, 0, none⟩ (.int .i64 n7)).setCell ⟨A9, 1, none⟩ (.slice x5 l7.length y5)).setCell ⟨A9, 2, none⟩ (.slice x6 c7.length y6)) = X := ⟨_, rfl⟩
                rw [hU] at HX9 HZ10 HP5 HP6 HP7 HP8 HBu ⊢
                clear hU
                refine hK7.out _ _ (by first | exact HCs.out _ HBu.out | exact HCs.out _ (below_drew HBu.out)) (fun hHeld => ?_)
                clear hK7 K7
                try simp only [Act.put, List.setIfInBounds_toArray, List.set_cons_zero, List.set_cons_succ]
                refine wpAnyH_ready (rs := [14]) (by kernel_rfl) (by simp) ?_
                refine AllReadyH.cons (o := { dst := none, op := Op.store 25 (Operand.tmp 10) (Operand.tmp 37), type := 0, pos := "law.go:93", after := #[{ on := 12, ground := Ground.data }, { on := 9, ground := Ground.data }, { on := 13, ground := Ground.chain }, { on := 0, ground := Ground.phase }, { on := 1, ground := Ground.phase }, { on := 2, ground := Ground.phase }, { on := 3, ground := Ground.phase }, { on := 4, ground := Ground.phase }, { on := 5, ground := Ground.phase }, { on := 6, ground := Ground.phase }, { on := 7, ground := Ground.phase }, { on := 8, ground := Ground.phase }, { on := 9, ground := Ground.phase }, { on := 10, ground := Ground.textOnly Departure.lateStores }, { on := 11, ground := Ground.phase }, { on := 12, ground := Ground.phase }, { on := 13, ground := Ground.phase }], guard := none }) rfl (fun K7 hK7 => ?_) ?_
                · obtain ⟨t1, t2, t3⟩ := HZ10.out.thaw
                  obtain ⟨s1, s2, s3⟩ := HZ10.out.cells
                  go_simp
                  clear t1 t2 t3 s1 s2 s3
                  have HX10 := Lib.hid (HZ10.out.set n7 (.slice x7 l7.length y7) (.slice x8 c7.length y8))
                  have HX9 := Lib.hid (HX9.out.other HNe.out (.int .i64 n7) (.slice x7 l7.length y7) (.slice x8 c7.length y8))
                  have HP5 := Lib.hid (ownB HP5.out HZ10.out (.int .i64 n7) (.slice x7 l7.length y7) (.slice x8 c7.length y8))
                  have HP6 := Lib.hid (ownC HP6.out HZ10.out (.int .i64 n7) (.slice x7 l7.length y7) (.slice x8 c7.length y8))
                  have HP7 := Lib.hid (ownB HP7.out HZ10.out (.int .i64 n7) (.slice x7 l7.length y7) (.slice x8 c7.length y8))
                  have HP8 := Lib.hid (ownC HP8.out HZ10.out (.int .i64 n7) (.slice x7 l7.length y7) (.slice x8 c7.length y8))
                  have HBu := Lib.hid (below_set3 HBu.out HL10.out (.int .i64 n7) (.slice x7 l7.length y7) (.slice x8 c7.length y8))
                  obtain ⟨U, hU⟩ : ∃ X, (((U.setCell ⟨A10, 0, none⟩ (.int .i64 n7)).setCell ⟨A10, 1, none⟩ (.slice x7 l7.length y7)).setCell ⟨A10, 2, none⟩ (.slice x8 c7.length y8)) = X := ⟨_, rfl⟩
                  rw [hU] at HX10 HX9 HP5 HP6 HP7 HP8 HBu ⊢
                  clear hU
                  refine hK7.out _ _ (by first | exact HCs.out _ HBu.out | exact HCs.out _ (below_drew HBu.out)) (fun hHeld => ?_)
                  clear hK7 K7
                  try simp only [Act.put, List.setIfInBounds_toArray, List.set_cons_zero, List.set_cons_succ]
                  refine wpAnyH_take (i := 15) (oi := { dst := some 11, op := Op.assign (Operand.tmp 38), type := 4, pos := "law.go:93", after := #[{ on := 10, ground := Ground.data }, { on := 14, ground := Ground.chain }, { on := 0, ground := Ground.phase }, { on := 1, ground := Ground.phase }, { on := 2, ground := Ground.phase }, { on := 3, ground := Ground.phase }, { on := 4, ground := Ground.phase }, { on := 5, ground := Ground.phase }, { on := 6, ground := Ground.phase }, { on := 7, ground := Ground.phase }, { on := 8, ground := Ground.phase }, { on := 9, ground := Ground.phase }, { on := 10, ground := Ground.phase }, { on := 11, ground := Ground.phase }, { on := 12, ground := Ground.phase }, { on := 13, ground := Ground.phase }, { on := 14, ground := Ground.phase }], guard := none }) (v := ?_) rfl (by kernel_rfl) (by kernel_rfl) (by kernel_rfl) (fun _ _ _ h => h) (Or.inl ⟨by rfl, ?_⟩) hHeld ?_
                  rotate_left 1
                  · intro W hSw
                    (try dsimp only at hSw)
                    go_simp
                    try with_reducible rfl
                  try simp only [Act.put, List.setIfInBounds_toArray, List.set_cons_zero, List.set_cons_succ]
                  refine wpAnyH_done (by kernel_rfl) ?_ _
                  clear hHeld
                  --FINA
                  have HX5u := Lib.hid (HX5b.out.keep HBu.out)
                  have HX6u := Lib.hid (HX6b.out.keep HBu.out)
                  have HX8u := Lib.hid (HX8.out.keep HBu.out)
                  have HO1u := Lib.hid (HO1b.out.below HBu.out)
                  have HO2u := Lib.hid (HO2b.out.below HBu.out)
                  have HO8u := Lib.hid (HO8.out.below HBu.out)
                  have HO9u := Lib.hid (HO9.out.below HBu.out)
                  have HBt := Lib.hid (HBs.out.trans (HBu.out.mono HBs.out.size))
                  have HGf := Lib.hid (good_fit HG7.out)
                  have HNa : Hid (A10 ≠ N5 ∧ W.heap.size ≤ N5 ∧ W.heap.size ≤ N6) := Lib.hid ⟨fun e => by have := HL10.out; have := HX5b.out.lt; omega, HN5.out, by have := HN5.out; have := HN6.out; omega⟩
                  obtain ⟨k1, k2, k3⟩ := HX9.out.cells
                  obtain ⟨m1, m2, m3⟩ := HX10.out.cells
                  have M1 := Lib.hid True.intro
                  go_upto_region 12 with (first
                    | (go_at_call 8; clear M1; refine (rSame_any _ _ ⟨n7, l7, c7⟩ ⟨n7, l7, c7⟩ U ⟨_, _, rfl, HP5.out.read fc_len, HP6.out.read wc_len⟩ ⟨_, _, rfl, HP7.out.read fc_len, HP8.out.read wc_len⟩).mono ?_; rintro e w10 ⟨r, rfl, hr, hb⟩; obtain rfl : r = true := hr.2 rfl; have HB10 := Lib.hid hb; obtain ⟨g1, g2, g3⟩ := (HX8u.out.keep hb).cells; obtain ⟨h1, h2, h3⟩ := (HX5u.out.keep hb).cells; clear hr hb k1 k2 k3 m1 m2 m3; have M2 := Lib.hid True.intro)
                    | (go_at_call 8; clear M2; refine (rSame_any _ _ ⟨n, l, c'⟩ ⟨n, l, c'⟩ w10 ⟨_, _, rfl, (HO8u.out.below HB10.out).read fc_len, (HO9u.out.below HB10.out).read wc_len⟩ ⟨_, _, rfl, (HO1u.out.below HB10.out).read fc_len, (HO2u.out.below HB10.out).read wc_len⟩).mono ?_; rintro e w11 ⟨r, rfl, hr, hb⟩; obtain rfl : r = true := hr.2 rfl; have HB11 := Lib.hid (HB10.out.trans (hb.mono HB10.out.size)); obtain ⟨k1, k2, k3⟩ := (HX9.out.keep HB11.out).cells; clear hr hb g1 g2 g3 h1 h2 h3)
                    | (go_at_call 9; refine (Fit_any _ ⟨n7, l7, c7⟩ w11 ⟨_, _, rfl, (HP5.out.below HB11.out).read fc_len, (HP6.out.below HB11.out).read wc_len⟩).mono ?_; rintro e w12 ⟨rfl, hb⟩; rw [HGf.out]; have HB12 := Lib.hid (HB11.out.trans (hb.mono HB11.out.size)); clear hb k1 k2 k3))
                  have HX5v := Lib.hid (HX5u.out.keep HB12.out)
                  have HX6v := Lib.hid (HX6u.out.keep HB12.out)
                  have HX9v := Lib.hid (HX9.out.keep HB12.out)
                  have HXv := Lib.hid (HX10.out.keep HB12.out)
                  have HBv := Lib.hid (HBt.out.trans (HB12.out.mono HBt.out.size))
                  have HQ5 := Lib.hid (ownB (HP5.out.below HB12.out) HX5v.out (.int .i64 n7) (.slice x5 l7.length y5) (.slice x6 c7.length y6))
                  have HQ6 := Lib.hid (ownC (HP6.out.below HB12.out) HX5v.out (.int .i64 n7) (.slice x5 l7.length y5) (.slice x6 c7.length y6))
                  have HQ7 := Lib.hid (ownB (HP7.out.below HB12.out) HX5v.out (.int .i64 n7) (.slice x5 l7.length y5) (.slice x6 c7.length y6))
                  have HQ8 := Lib.hid (ownC (HP8.out.below HB12.out) HX5v.out (.int .i64 n7) (.slice x5 l7.length y5) (.slice x6 c7.length y6))
                  obtain ⟨k1, k2, k3⟩ := HX9v.out.cells
                  obtain ⟨g1, g2, g3⟩ := HX5v.out.cells
                  obtain ⟨f1, f2, f3⟩ := HX5v.out.thaw
                  go_upto_region 13 with fail
                  have HX5w := Lib.hid (HX5v.out.set n7 (.slice x5 l7.length y5) (.slice x6 c7.length y6))
                  have HX6w := Lib.hid (HX6v.out.other hN65 (.int .i64 n7) (.slice x5 l7.length y5) (.slice x6 c7.length y6))
                  have HXw := Lib.hid (HXv.out.other HNa.out.1 (.int .i64 n7) (.slice x5 l7.length y5) (.slice x6 c7.length y6))
                  have HBw := Lib.hid (below_set3 HBv.out HNa.out.2.1 (.int .i64 n7) (.slice x5 l7.length y5) (.slice x6 c7.length y6))
                  clear k1 k2 k3 g1 g2 g3 f1 f2 f3
                  generalize (((w12.setCell ⟨N5, 0, none⟩ (.int .i64 n7)).setCell ⟨N5, 1, none⟩ (.slice x5 l7.length y5)).setCell ⟨N5, 2, none⟩ (.slice x6 c7.length y6)) = W13 at HX5w HX6w HXw HBw HQ5 HQ6 HQ7 HQ8 ⊢
                  have HX5f := Lib.hid (HX5w.out.other hN56 (.int .i64 n7) (.slice x7 l7.length y7) (.slice x8 c7.length y8))
                  have HX6f := Lib.hid (HX6w.out.set n7 (.slice x7 l7.length y7) (.slice x8 c7.length y8))
                  have HQ5 := Lib.hid (ownB HQ5.out HX6w.out (.int .i64 n7) (.slice x7 l7.length y7) (.slice x8 c7.length y8))
                  have HQ6 := Lib.hid (ownC HQ6.out HX6w.out (.int .i64 n7) (.slice x7 l7.length y7) (.slice x8 c7.length y8))
                  have HQ7 := Lib.hid (ownB HQ7.out HX6w.out (.int .i64 n7) (.slice x7 l7.length y7) (.slice x8 c7.length y8))
                  have HQ8 := Lib.hid (ownC HQ8.out HX6w.out (.int .i64 n7) (.slice x7 l7.length y7) (.slice x8 c7.length y8))
                  have HBf := Lib.hid (below_set3 HBw.out HNa.out.2.2 (.int .i64 n7) (.slice x7 l7.length y7) (.slice x8 c7.length y8))
                  obtain ⟨k1, k2, k3⟩ := HXw.out.cells
                  obtain ⟨g1, g2, g3⟩ := HX6w.out.cells
                  obtain ⟨f1, f2, f3⟩ := HX6w.out.thaw
                  go_upto_region 7 with fail
                  clear k1 k2 k3 g1 g2 g3 f1 f2 f3
                  generalize (((W13.setCell ⟨N6, 0, none⟩ (.int .i64 n7)).setCell ⟨N6, 1, none⟩ (.slice x7 l7.length y7)).setCell ⟨N6, 2, none⟩ (.slice x8 c7.length y8)) = W14 at HX5f HX6f HQ5 HQ6 HQ7 HQ8 HBf ⊢
                  go_wp2
                  go_roundw
                  case rel => exact ⟨i + 1, ⟨n7, l7, c7⟩, _, _, _, _, by omega, by go_num, HX5f.out, HX6f.out, HQ5.out, HQ6.out, HQ7.out, HQ8.out, by rw [← HNx.out]; exact HG7.out, HBf.out⟩
                  case measure => simp [intOf]; omega
                  --FINB
                exact AllReadyH.nil
              exact AllReadyH.nil
            exact AllReadyH.nil
          refine AllReadyH.cons (o := { dst := some 10, op := Op.alloc 25, type := 0, pos := "law.go:93", after := #[], guard := none }) rfl (fun K7 hK7 => ?_) ?_
          · go_simp
            have hbn := below_new U (.cells #[.int .i64 0, .slice none 0 0, .slice none 0 0] 25)
            have HL10 := Lib.hid HBu.out.size
            (try have HNe := Lib.hid (show A9 ≠ U.heap.size from Nat.ne_of_lt HZ9.out.lt))
            have HZ10 := Lib.hid (fbox_new U 0 (.slice none 0 0) (.slice none 0 0))
            (try have HZ9 := Lib.hid (HZ9.out.keep hbn))
            (try have HP5 := Lib.hid (HP5.out.below hbn))
            (try have HP6 := Lib.hid (HP6.out.below hbn))
            (try have HP7 := Lib.hid (HP7.out.below hbn))
            (try have HP8 := Lib.hid (HP8.out.below hbn))
            have HBu := Lib.hid (HBu.out.trans (hbn.mono HBu.out.size))
            obtain ⟨A10, hA⟩ : ∃ A, U.heap.size = A := ⟨_, rfl⟩
            rw [hA] at HZ10 HL10 ⊢
            (try rw [hA] at HNe)
            obtain ⟨U, hU⟩ : ∃ X, U.alloc (.cells #[.int .i64 0, .slice none 0 0, .slice none 0 0] 25) = X := ⟨_, rfl⟩
            rw [hU] at HZ10 HBu ⊢
            (try rw [hU] at HZ9)
            (try rw [hU] at HP5)
            (try rw [hU] at HP6)
            (try rw [hU] at HP7)
            (try rw [hU] at HP8)
            clear hbn hA hU
            refine hK7.out _ _ (by first | exact HCs.out _ HBu.out | exact HCs.out _ (below_drew HBu.out)) (fun hHeld => ?_)
            clear hK7 K7
            try simp only [Act.put, List.setIfInBounds_toArray, List.set_cons_zero, List.set_cons_succ]
            refine wpAnyH_ready (rs := [11]) (by kernel_rfl) (by simp) ?_
            refine AllReadyH.cons (o := { dst := some 9, op := Op.alloc 25, type := 0, pos := "law.go:93", after := #[], guard := none }) rfl (fun K7 hK7 => ?_) ?_
            · go_simp
              have hbn := below_new U (.cells #[.int .i64 0, .slice none 0 0, .slice none 0 0] 25)
              have HL9 := Lib.hid HBu.out.size
              (try have HNe := Lib.hid (show U.heap.size ≠ A10 from (Nat.ne_of_lt HZ10.out.lt).symm))
              have HZ9 := Lib.hid (fbox_new U 0 (.slice none 0 0) (.slice none 0 0))
              (try have HZ10 := Lib.hid (HZ10.out.keep hbn))
              (try have HP5 := Lib.hid (HP5.out.below hbn))
              (try have HP6 := Lib.hid (HP6.out.below hbn))
              (try have HP7 := Lib.hid (HP7.out.below hbn))
              (try have HP8 := Lib.hid (HP8.out.below hbn))
              have HBu := Lib.hid (HBu.out.trans (hbn.mono HBu.out.size))
              obtain ⟨A9, hA⟩ : ∃ A, U.heap.size = A := ⟨_, rfl⟩
              rw [hA] at HZ9 HL9 ⊢
              (try rw [hA] at HNe)
              obtain ⟨U, hU⟩ : ∃ X, U.alloc (.cells #[.int .i64 0, .slice none 0 0, .slice none 0 0] 25) = X := ⟨_, rfl⟩
              rw [hU] at HZ9 HBu ⊢
              (try rw [hU] at HZ10)
              (try rw [hU] at HP5)
              (try rw [hU] at HP6)
              (try rw [hU] at HP7)
              (try rw [hU] at HP8)
              clear hbn hA hU
              refine hK7.out _ _ (by first | exact HCs.out _ HBu.out | exact HCs.out _ (below_drew HBu.out)) (fun hHeld => ?_)
              clear hK7 K7
              try simp only [Act.put, List.setIfInBounds_toArray, List.set_cons_zero, List.set_cons_succ]
              refine wpAnyH_ready (rs := [13]) (by kernel_rfl) (by simp) ?_
              refine AllReadyH.cons (o := { dst := none, op := Op.store 25 (Operand.tmp 9) (Operand.tmp 36), type := 0, pos := "law.go:93", after := #[{ on := 11, ground := Ground.data }, { on := 8, ground := Ground.data }, { on := 6, ground := Ground.chain }, { on := 0, ground := Ground.phase }, { on := 1, ground := Ground.phase }, { on := 2, ground := Ground.phase }, { on := 3, ground := Ground.phase }, { on := 4, ground := Ground.phase }, { on := 5, ground := Ground.phase }, { on := 6, ground := Ground.phase }, { on := 7, ground := Ground.phase }, { on := 8, ground := Ground.phase }, { on := 9, ground := Ground.textOnly Departure.lateStores }, { on := 10, ground := Ground.textOnly Departure.lateStores }, { on := 11, ground := Ground.phase }, { on := 12, ground := Ground.phase }], guard := none }) rfl (fun K7 hK7 => ?_) ?_
              · obtain ⟨t1, t2, t3⟩ := HZ9.out.thaw
                obtain ⟨s1, s2, s3⟩ := HZ9.out.cells
                go_simp
                clear t1 t2 t3 s1 s2 s3
                have HX9 := Lib.hid (HZ9.out.set n7 (.slice x5 l7.length y5) (.slice x6 c7.length y6))
                have HZ10 := Lib.hid (HZ10.out.other HNe.out.symm (.int .i64 n7) (.slice x5 l7.length y5) (.slice x6 c7.length y6))
                have HP5 := Lib.hid (ownB HP5.out HZ9.out (.int .i64 n7) (.slice x5 l7.length y5) (.slice x6 c7.length y6))
                have HP6 := Lib.hid (ownC HP6.out HZ9.out (.int .i64 n7) (.slice x5 l7.length y5) (.slice x6 c7.length y6))
                have HP7 := Lib.hid (ownB HP7.out HZ9.out (.int .i64 n7) (.slice x5 l7.length y5) (.slice x6 c7.length y6))
                have HP8 := Lib.hid (ownC HP8.out HZ9.out (.int .i64 n7) (.slice x5 l7.length y5) (.slice x6 c7.length y6))
                have HBu := Lib.hid (below_set3 HBu.out HL9.out (.int .i64 n7) (.slice x5 l7.length y5) (.slice x6 c7.length y6))
                obtain ⟨U, hU⟩ : ∃ X, (((U.setCell ⟨A9, 0, none⟩ (.int .i64 n7)).setCell ⟨A9, 1, none⟩ (.slice x5 l7.length y5)).setCell ⟨A9, 2, none⟩ (.slice x6 c7.length y6)) = X := ⟨_, rfl⟩
                rw [hU] at HX9 HZ10 HP5 HP6 HP7 HP8 HBu ⊢
                clear hU
                refine hK7.out _ _ (by first | exact HCs.out _ HBu.out | exact HCs.out _ (below_drew HBu.out)) (fun hHeld => ?_)
                clear hK7 K7
                try simp only [Act.put, List.setIfInBounds_toArray, List.set_cons_zero, List.set_cons_succ]
                refine wpAnyH_ready (rs := [14]) (by kernel_rfl) (by simp) ?_
                refine AllReadyH.cons (o := { dst := none, op := Op.store 25 (Operand.tmp 10) (Operand.tmp 37), type := 0, pos := "law.go:93", after := #[{ on := 12, ground := Ground.data }, { on := 9, ground := Ground.data }, { on := 13, ground := Ground.chain }, { on := 0, ground := Ground.phase }, { on := 1, ground := Ground.phase }, { on := 2, ground := Ground.phase }, { on := 3, ground := Ground.phase }, { on := 4, ground := Ground.phase }, { on := 5, ground := Ground.phase }, { on := 6, ground := Ground.phase }, { on := 7, ground := Ground.phase }, { on := 8, ground := Ground.phase }, { on := 9, ground := Ground.phase }, { on := 10, ground := Ground.textOnly Departure.lateStores }, { on := 11, ground := Ground.phase }, { on := 12, ground := Ground.phase }, { on := 13, ground := Ground.phase }], guard := none }) rfl (fun K7 hK7 => ?_) ?_
                · obtain ⟨t1, t2, t3⟩ := HZ10.out.thaw
                  obtain ⟨s1, s2, s3⟩ := HZ10.out.cells
                  go_simp
                  clear t1 t2 t3 s1 s2 s3
                  have HX10 := Lib.hid (HZ10.out.set n7 (.slice x7 l7.length y7) (.slice x8 c7.length y8))
                  have HX9 := Lib.hid (HX9.out.other HNe.out (.int .i64 n7) (.slice x7 l7.length y7) (.slice x8 c7.length y8))
                  have HP5 := Lib.hid (ownB HP5.out HZ10.out (.int .i64 n7) (.slice x7 l7.length y7) (.slice x8 c7.length y8))
                  have HP6 := Lib.hid (ownC HP6.out HZ10.out (.int .i64 n7) (.slice x7 l7.length y7) (.slice x8 c7.length y8))
                  have HP7 := Lib.hid (ownB HP7.out HZ10.out (.int .i64 n7) (.slice x7 l7.length y7) (.slice x8 c7.length y8))
                  have HP8 := Lib.hid (ownC HP8.out HZ10.out (.int .i64 n7) (.slice x7 l7.length y7) (.slice x8 c7.length y8))
                  have HBu := Lib.hid (below_set3 HBu.out HL10.out (.int .i64 n7) (.slice x7 l7.length y7) (.slice x8 c7.length y8))
                  obtain ⟨U, hU⟩ : ∃ X, (((U.setCell ⟨A10, 0, none⟩ (.int .i64 n7)).setCell ⟨A10, 1, none⟩ (.slice x7 l7.length y7)).setCell ⟨A10, 2, none⟩ (.slice x8 c7.length y8)) = X := ⟨_, rfl⟩
                  rw [hU] at HX10 HX9 HP5 HP6 HP7 HP8 HBu ⊢
                  clear hU
                  refine hK7.out _ _ (by first | exact HCs.out _ HBu.out | exact HCs.out _ (below_drew HBu.out)) (fun hHeld => ?_)
                  clear hK7 K7
                  try simp only [Act.put, List.setIfInBounds_toArray, List.set_cons_zero, List.set_cons_succ]
                  refine wpAnyH_take (i := 15) (oi := { dst := some 11, op := Op.assign (Operand.tmp 38), type := 4, pos := "law.go:93", after := #[{ on := 10, ground := Ground.data }, { on := 14, ground := Ground.chain }, { on := 0, ground := Ground.phase }, { on := 1, ground := Ground.phase }, { on := 2, ground := Ground.phase }, { on := 3, ground := Ground.phase }, { on := 4, ground := Ground.phase }, { on := 5, ground := Ground.phase }, { on := 6, ground := Ground.phase }, { on := 7, ground := Ground.phase }, { on := 8, ground := Ground.phase }, { on := 9, ground := Ground.phase }, { on := 10, ground := Ground.phase }, { on := 11, ground := Ground.phase }, { on := 12, ground := Ground.phase }, { on := 13, ground := Ground.phase }, { on := 14, ground := Ground.phase }], guard := none }) (v := ?_) rfl (by kernel_rfl) (by kernel_rfl) (by kernel_rfl) (fun _ _ _ h => h) (Or.inl ⟨by rfl, ?_⟩) hHeld ?_
                  rotate_left 1
                  · intro W hSw
                    (try dsimp only at hSw)
                    go_simp
                    try with_reducible rfl
                  try simp only [Act.put, List.setIfInBounds_toArray, List.set_cons_zero, List.set_cons_succ]
                  refine wpAnyH_done (by kernel_rfl) ?_ _
                  clear hHeld
                  --FINA
                  have HX5u := Lib.hid (HX5b.out.keep HBu.out)
                  have HX6u := Lib.hid (HX6b.out.keep HBu.out)
                  have HX8u := Lib.hid (HX8.out.keep HBu.out)
                  have HO1u := Lib.hid (HO1b.out.below HBu.out)
                  have HO2u := Lib.hid (HO2b.out.below HBu.out)
                  have HO8u := Lib.hid (HO8.out.below HBu.out)
                  have HO9u := Lib.hid (HO9.out.below HBu.out)
                  have HBt := Lib.hid (HBs.out.trans (HBu.out.mono HBs.out.size))
                  have HGf := Lib.hid (good_fit HG7.out)
                  have HNa : Hid (A10 ≠ N5 ∧ W.heap.size ≤ N5 ∧ W.heap.size ≤ N6) := Lib.hid ⟨fun e => by have := HL10.out; have := HX5b.out.lt; omega, HN5.out, by have := HN5.out; have := HN6.out; omega⟩
                  obtain ⟨k1, k2, k3⟩ := HX9.out.cells
                  obtain ⟨m1, m2, m3⟩ := HX10.out.cells
                  have M1 := Lib.hid True.intro
                  go_upto_region 12 with (first
                    | (go_at_call 8; clear M1; refine (rSame_any _ _ ⟨n7, l7, c7⟩ ⟨n7, l7, c7⟩ U ⟨_, _, rfl, HP5.out.read fc_len, HP6.out.read wc_len⟩ ⟨_, _, rfl, HP7.out.read fc_len, HP8.out.read wc_len⟩).mono ?_; rintro e w10 ⟨r, rfl, hr, hb⟩; obtain rfl : r = true := hr.2 rfl; have HB10 := Lib.hid hb; obtain ⟨g1, g2, g3⟩ := (HX8u.out.keep hb).cells; obtain ⟨h1, h2, h3⟩ := (HX5u.out.keep hb).cells; clear hr hb k1 k2 k3 m1 m2 m3; have M2 := Lib.hid True.intro)
                    | (go_at_call 8; clear M2; refine (rSame_any _ _ ⟨n, l, c'⟩ ⟨n, l, c'⟩ w10 ⟨_, _, rfl, (HO8u.out.below HB10.out).read fc_len, (HO9u.out.below HB10.out).read wc_len⟩ ⟨_, _, rfl, (HO1u.out.below HB10.out).read fc_len, (HO2u.out.below HB10.out).read wc_len⟩).mono ?_; rintro e w11 ⟨r, rfl, hr, hb⟩; obtain rfl : r = true := hr.2 rfl; have HB11 := Lib.hid (HB10.out.trans (hb.mono HB10.out.size)); obtain ⟨k1, k2, k3⟩ := (HX9.out.keep HB11.out).cells; clear hr hb g1 g2 g3 h1 h2 h3)
                    | (go_at_call 9; refine (Fit_any _ ⟨n7, l7, c7⟩ w11 ⟨_, _, rfl, (HP5.out.below HB11.out).read fc_len, (HP6.out.below HB11.out).read wc_len⟩).mono ?_; rintro e w12 ⟨rfl, hb⟩; rw [HGf.out]; have HB12 := Lib.hid (HB11.out.trans (hb.mono HB11.out.size)); clear hb k1 k2 k3))
                  have HX5v := Lib.hid (HX5u.out.keep HB12.out)
                  have HX6v := Lib.hid (HX6u.out.keep HB12.out)
                  have HX9v := Lib.hid (HX9.out.keep HB12.out)
                  have HXv := Lib.hid (HX10.out.keep HB12.out)
                  have HBv := Lib.hid (HBt.out.trans (HB12.out.mono HBt.out.size))
                  have HQ5 := Lib.hid (ownB (HP5.out.below HB12.out) HX5v.out (.int .i64 n7) (.slice x5 l7.length y5) (.slice x6 c7.length y6))
                  have HQ6 := Lib.hid (ownC (HP6.out.below HB12.out) HX5v.out (.int .i64 n7) (.slice x5 l7.length y5) (.slice x6 c7.length y6))
                  have HQ7 := Lib.hid (ownB (HP7.out.below HB12.out) HX5v.out (.int .i64 n7) (.slice x5 l7.length y5) (.slice x6 c7.length y6))
                  have HQ8 := Lib.hid (ownC (HP8.out.below HB12.out) HX5v.out (.int .i64 n7) (.slice x5 l7.length y5) (.slice x6 c7.length y6))
                  obtain ⟨k1, k2, k3⟩ := HX9v.out.cells
                  obtain ⟨g1, g2, g3⟩ := HX5v.out.cells
                  obtain ⟨f1, f2, f3⟩ := HX5v.out.thaw
                  go_upto_region 13 with fail
                  have HX5w := Lib.hid (HX5v.out.set n7 (.slice x5 l7.length y5) (.slice x6 c7.length y6))
                  have HX6w := Lib.hid (HX6v.out.other hN65 (.int .i64 n7) (.slice x5 l7.length y5) (.slice x6 c7.length y6))
                  have HXw := Lib.hid (HXv.out.other HNa.out.1 (.int .i64 n7) (.slice x5 l7.length y5) (.slice x6 c7.length y6))
                  have HBw := Lib.hid (below_set3 HBv.out HNa.out.2.1 (.int .i64 n7) (.slice x5 l7.length y5) (.slice x6 c7.length y6))
                  clear k1 k2 k3 g1 g2 g3 f1 f2 f3
                  generalize (((w12.setCell ⟨N5, 0, none⟩ (.int .i64 n7)).setCell ⟨N5, 1, none⟩ (.slice x5 l7.length y5)).setCell ⟨N5, 2, none⟩ (.slice x6 c7.length y6)) = W13 at HX5w HX6w HXw HBw HQ5 HQ6 HQ7 HQ8 ⊢
                  have HX5f := Lib.hid (HX5w.out.other hN56 (.int .i64 n7) (.slice x7 l7.length y7) (.slice x8 c7.length y8))
                  have HX6f := Lib.hid (HX6w.out.set n7 (.slice x7 l7.length y7) (.slice x8 c7.length y8))
                  have HQ5 := Lib.hid (ownB HQ5.out HX6w.out (.int .i64 n7) (.slice x7 l7.length y7) (.slice x8 c7.length y8))
                  have HQ6 := Lib.hid (ownC HQ6.out HX6w.out (.int .i64 n7) (.slice x7 l7.length y7) (.slice x8 c7.length y8))
                  have HQ7 := Lib.hid (ownB HQ7.out HX6w.out (.int .i64 n7) (.slice x7 l7.length y7) (.slice x8 c7.length y8))
                  have HQ8 := Lib.hid (ownC HQ8.out HX6w.out (.int .i64 n7) (.slice x7 l7.length y7) (.slice x8 c7.length y8))
                  have HBf := Lib.hid (below_set3 HBw.out HNa.out.2.2 (.int .i64 n7) (.slice x7 l7.length y7) (.slice x8 c7.length y8))
                  obtain ⟨k1, k2, k3⟩ := HXw.out.cells
                  obtain ⟨g1, g2, g3⟩ := HX6w.out.cells
                  obtain ⟨f1, f2, f3⟩ := HX6w.out.thaw
                  go_upto_region 7 with fail
                  clear k1 k2 k3 g1 g2 g3 f1 f2 f3
                  generalize (((W13.setCell ⟨N6, 0, none⟩ (.int .i64 n7)).setCell ⟨N6, 1, none⟩ (.slice x7 l7.length y7)).setCell ⟨N6, 2, none⟩ (.slice x8 c7.length y8)) = W14 at HX5f HX6f HQ5 HQ6 HQ7 HQ8 HBf ⊢
                  go_wp2
                  go_roundw
                  case rel => exact ⟨i + 1, ⟨n7, l7, c7⟩, _, _, _, _, by omega, by go_num, HX5f.out, HX6f.out, HQ5.out, HQ6.out, HQ7.out, HQ8.out, by rw [← HNx.out]; exact HG7.out, HBf.out⟩
                  case measure => simp [intOf]; omega
                  --FINB
                exact AllReadyH.nil
              exact AllReadyH.nil
            exact AllReadyH.nil
          exact AllReadyH.nil
        refine AllReadyH.cons (o := { dst := some 9, op := Op.alloc 25, type := 0, pos := "law.go:93", after := #[], guard := none }) rfl (fun K7 hK7 => ?_) ?_
        · go_simp
          have hbn := below_new U (.cells #[.int .i64 0, .slice none 0 0, .slice none 0 0] 25)
          have HL9 := Lib.hid HBu.out.size
          (try have HNe := Lib.hid (show U.heap.size ≠ A10 from (Nat.ne_of_lt HZ10.out.lt).symm))
          have HZ9 := Lib.hid (fbox_new U 0 (.slice none 0 0) (.slice none 0 0))
          (try have HZ10 := Lib.hid (HZ10.out.keep hbn))
          (try have HP5 := Lib.hid (HP5.out.below hbn))
          (try have HP6 := Lib.hid (HP6.out.below hbn))
          (try have HP7 := Lib.hid (HP7.out.below hbn))
          (try have HP8 := Lib.hid (HP8.out.below hbn))
          have HBu := Lib.hid (HBu.out.trans (hbn.mono HBu.out.size))
          obtain ⟨A9, hA⟩ : ∃ A, U.heap.size = A := ⟨_, rfl⟩
          rw [hA] at HZ9 HL9 ⊢
          (try rw [hA] at HNe)
          obtain ⟨U, hU⟩ : ∃ X, U.alloc (.cells #[.int .i64 0, .slice none 0 0, .slice none 0 0] 25) = X := ⟨_, rfl⟩
          rw [hU] at HZ9 HBu ⊢
          (try rw [hU] at HZ10)
          (try rw [hU] at HP5)
          (try rw [hU] at HP6)
          (try rw [hU] at HP7)
          (try rw [hU] at HP8)
          clear hbn hA hU
          refine hK7.out _ _ (by first | exact HCs.out _ HBu.out | exact HCs.out _ (below_drew HBu.out)) (fun hHeld => ?_)
          clear hK7 K7
          try simp only [Act.put, List.setIfInBounds_toArray, List.set_cons_zero, List.set_cons_succ]
          refine wpAnyH_ready (rs := [6, 12]) (by kernel_rfl) (by simp) ?_
          refine AllReadyH.cons (o := { dst := some 35, op := Op.call { callee := Callee.value (Operand.func 7), args := #[Operand.tmp 29, Operand.tmp 30, Operand.tmp 34], argTypes := #[25, 25, 34] }, type := 30, pos := "law.go:93", after := #[{ on := 0, ground := Ground.data }, { on := 1, ground := Ground.data }, { on := 5, ground := Ground.data }], guard := none }) rfl (fun K7 hK7 => ?_) ?_
          · go_simp
            refine (act_any (f := ⟨n, l, c'⟩) _ _ _ _ W.heap.size K x _ (HO1b.out.below HBu.out) (HO2b.out.below HBu.out) (HO3b.out.below HBu.out) (HO4b.out.below HBu.out) HGi.out HActb.out.1 (Nat.le_trans hWw HBu.out.size) ya yb (HActb.out.2.1.keep HBu.out) (HActb.out.2.2.1.keep HBu.out) HActb.out.2.2.2.1 HActb.out.2.2.2.2 HYab.out.1 HYab.out.2 HKi2.out).mono ?_
            rintro e U ⟨⟨n7, l7, c7⟩, vl7, vc7, vm7, vd7, he, ho5, ho6, ho7, ho8, hg7, hb7⟩
            have he : e = .returned (.tuple #[.agg #[.int .i64 n7, vl7, vc7], .agg #[.int .i64 n7, vm7, vd7], .bool true]) := he
            subst he
            simp only at ho5 ho6 ho7 ho8
            obtain ⟨x5, y5, rfl⟩ := ho5.slice
            obtain ⟨x6, y6, rfl⟩ := ho6.slice
            obtain ⟨x7, y7, rfl⟩ := ho7.slice
            obtain ⟨x8, y8, rfl⟩ := ho8.slice
            have HP5 := Lib.hid ho5
            have HP6 := Lib.hid ho6
            have HP7 := Lib.hid ho7
            have HP8 := Lib.hid ho8
            have HG7 := Lib.hid hg7
            have HBu := Lib.hid (HBu.out.trans (hb7.mono HBu.out.size))
            (try have HZ9 := Lib.hid (HZ9.out.keep hb7))
            (try have HZ10 := Lib.hid (HZ10.out.keep hb7))
            clear ho5 ho6 ho7 ho8 hg7 hb7
            try dsimp only
            refine hK7.out _ _ (by first | exact HCs.out _ HBu.out | exact HCs.out _ (below_drew HBu.out)) (fun hHeld => ?_)
            clear hK7 K7
            try simp only [Act.put, List.setIfInBounds_toArray, List.set_cons_zero, List.set_cons_succ]
            refine wpAnyH_take (i := 7) (oi := { dst := some 28, op := Op.move (Operand.tmp 35), type := 30, pos := "law.go:93", after := #[{ on := 6, ground := Ground.data }], guard := none }) (v := ?_) rfl (by kernel_rfl) (by kernel_rfl) (by kernel_rfl) (fun _ _ _ h => h) (Or.inl ⟨by rfl, ?_⟩) hHeld ?_
            rotate_left 1
            · intro W hSw
              (try dsimp only at hSw)
              go_simp
              try with_reducible rfl
            try simp only [Act.put, List.setIfInBounds_toArray, List.set_cons_zero, List.set_cons_succ]
            refine wpAnyH_take (i := 8) (oi := { dst := some 36, op := Op.extract (Operand.tmp 28) 0, type := 25, pos := "law.go:93", after := #[{ on := 7, ground := Ground.data }], guard := none }) (v := ?_) rfl (by kernel_rfl) (by kernel_rfl) (by kernel_rfl) (fun _ _ _ h => h) (Or.inl ⟨by rfl, ?_⟩) hHeld ?_
            rotate_left 1
            · intro W hSw
              (try dsimp only at hSw)
              go_simp
              try with_reducible rfl
            try simp only [Act.put, List.setIfInBounds_toArray, List.set_cons_zero, List.set_cons_succ]
            refine wpAnyH_take (i := 9) (oi := { dst := some 37, op := Op.extract (Operand.tmp 28) 1, type := 25, pos := "law.go:93", after := #[{ on := 7, ground := Ground.data }, { on := 13, ground := Ground.gcOnly Departure.lateStores }], guard := none }) (v := ?_) rfl (by kernel_rfl) (by kernel_rfl) (by kernel_rfl) (fun _ _ _ h => h) (Or.inl ⟨by rfl, ?_⟩) hHeld ?_
            rotate_left 1
            · intro W hSw
              (try dsimp only at hSw)
              go_simp
              try with_reducible rfl
            try simp only [Act.put, List.setIfInBounds_toArray, List.set_cons_zero, List.set_cons_succ]
            refine wpAnyH_take (i := 10) (oi := { dst := some 38, op := Op.extract (Operand.tmp 28) 2, type := 4, pos := "law.go:93", after := #[{ on := 7, ground := Ground.data }, { on := 14, ground := Ground.gcOnly Departure.lateStores }], guard := none }) (v := ?_) rfl (by kernel_rfl) (by kernel_rfl) (by kernel_rfl) (fun _ _ _ h => h) (Or.inl ⟨by rfl, ?_⟩) hHeld ?_
            rotate_left 1
            · intro W hSw
              (try dsimp only at hSw)
              go_simp
              try with_reducible rfl
            try simp only [Act.put, List.setIfInBounds_toArray, List.set_cons_zero, List.set_cons_succ]
            refine wpAnyH_ready (rs := [12]) (by kernel_rfl) (by simp) ?_
            refine AllReadyH.cons (o := { dst := some 10, op := Op.alloc 25, type := 0, pos := "law.go:93", after := #[], guard := none }) rfl (fun K7 hK7 => ?_) ?_
            · go_simp
              have hbn := below_new U (.cells #[.int .i64 0, .slice none 0 0, .slice none 0 0] 25)
              have HL10 := Lib.hid HBu.out.size
              (try have HNe := Lib.hid (show A9 ≠ U.heap.size from Nat.ne_of_lt HZ9.out.lt))
              have HZ10 := Lib.hid (fbox_new U 0 (.slice none 0 0) (.slice none 0 0))
              (try have HZ9 := Lib.hid (HZ9.out.keep hbn))
              (try have HP5 := Lib.hid (HP5.out.below hbn))
              (try have HP6 := Lib.hid (HP6.out.below hbn))
              (try have HP7 := Lib.hid (HP7.out.below hbn))
              (try have HP8 := Lib.hid (HP8.out.below hbn))
              have HBu := Lib.hid (HBu.out.trans (hbn.mono HBu.out.size))
              obtain ⟨A10, hA⟩ : ∃ A, U.heap.size = A := ⟨_, rfl⟩
              rw [hA] at HZ10 HL10 ⊢
              (try rw [hA] at HNe)
              obtain ⟨U, hU⟩ : ∃ X, U.alloc (.cells #[.int .i64 0, .slice none 0 0, .slice none 0 0] 25) = X := ⟨_, rfl⟩
              rw [hU] at HZ10 HBu ⊢
              (try rw [hU] at HZ9)
              (try rw [hU] at HP5)
              (try rw [hU] at HP6)
              (try rw [hU] at HP7)
              (try rw [hU] at HP8)
              clear hbn hA hU
              refine hK7.out _ _ (by first | exact HCs.out _ HBu.out | exact HCs.out _ (below_drew HBu.out)) (fun hHeld => ?_)
              clear hK7 K7
              try simp only [Act.put, List.setIfInBounds_toArray, List.set_cons_zero, List.set_cons_succ]
              refine wpAnyH_ready (rs := [13]) (by kernel_rfl) (by simp) ?_
              refine AllReadyH.cons (o := { dst := none, op := Op.store 25 (Operand.tmp 9) (Operand.tmp 36), type := 0, pos := "law.go:93", after := #[{ on := 11, ground := Ground.data }, { on := 8, ground := Ground.data }, { on := 6, ground := Ground.chain }, { on := 0, ground := Ground.phase }, { on := 1, ground := Ground.phase }, { on := 2, ground := Ground.phase }, { on := 3, ground := Ground.phase }, { on := 4, ground := Ground.phase }, { on := 5, ground := Ground.phase }, { on := 6, ground := Ground.phase }, { on := 7, ground := Ground.phase }, { on := 8, ground := Ground.phase }, { on := 9, ground := Ground.textOnly Departure.lateStores }, { on := 10, ground := Ground.textOnly Departure.lateStores }, { on := 11, ground := Ground.phase }, { on := 12, ground := Ground.phase }], guard := none }) rfl (fun K7 hK7 => ?_) ?_
              · obtain ⟨t1, t2, t3⟩ := HZ9.out.thaw
                obtain ⟨s1, s2, s3⟩ := HZ9.out.cells
                go_simp
                clear t1 t2 t3 s1 s2 s3
                have HX9 := Lib.hid (HZ9.out.set n7 (.slice x5 l7.length y5) (.slice x6 c7.length y6))
                have HZ10 := Lib.hid (HZ10.out.other HNe.out.symm (.int .i64 n7) (.slice x5 l7.length y5) (.slice x6 c7.length y6))
                have HP5 := Lib.hid (ownB HP5.out HZ9.out (.int .i64 n7) (.slice x5 l7.length y5) (.slice x6 c7.length y6))
                have HP6 := Lib.hid (ownC HP6.out HZ9.out (.int .i64 n7) (.slice x5 l7.length y5) (.slice x6 c7.length y6))
                have HP7 := Lib.hid (ownB HP7.out HZ9.out (.int .i64 n7) (.slice x5 l7.length y5) (.slice x6 c7.length y6))
                have HP8 := Lib.hid (ownC HP8.out HZ9.out (.int .i64 n7) (.slice x5 l7.length y5) (.slice x6 c7.length y6))
                have HBu := Lib.hid (below_set3 HBu.out HL9.out (.int .i64 n7) (.slice x5 l7.length y5) (.slice x6 c7.length y6))
                obtain ⟨U, hU⟩ : ∃ X, (((U.setCell ⟨A9, 0, none⟩ (.int .i64 n7)).setCell ⟨A9, 1, none⟩ (.slice x5 l7.length y5)).setCell ⟨A9, 2, none⟩ (.slice x6 c7.length y6)) = X := ⟨_, rfl⟩
                rw [hU] at HX9 HZ10 HP5 HP6 HP7 HP8 HBu ⊢
                clear hU
                refine hK7.out _ _ (by first | exact HCs.out _ HBu.out | exact HCs.out _ (below_drew HBu.out)) (fun hHeld => ?_)
                clear hK7 K7
                try simp only [Act.put, List.setIfInBounds_toArray, List.set_cons_zero, List.set_cons_succ]
                refine wpAnyH_ready (rs := [14]) (by kernel_rfl) (by simp) ?_
                refine AllReadyH.cons (o := { dst := none, op := Op.store 25 (Operand.tmp 10) (Operand.tmp 37), type := 0, pos := "law.go:93", after := #[{ on := 12, ground := Ground.data }, { on := 9, ground := Ground.data }, { on := 13, ground := Ground.chain }, { on := 0, ground := Ground.phase }, { on := 1, ground := Ground.phase }, { on := 2, ground := Ground.phase }, { on := 3, ground := Ground.phase }, { on := 4, ground := Ground.phase }, { on := 5, ground := Ground.phase }, { on := 6, ground := Ground.phase }, { on := 7, ground := Ground.phase }, { on := 8, ground := Ground.phase }, { on := 9, ground := Ground.phase }, { on := 10, ground := Ground.textOnly Departure.lateStores }, { on := 11, ground := Ground.phase }, { on := 12, ground := Ground.phase }, { on := 13, ground := Ground.phase }], guard := none }) rfl (fun K7 hK7 => ?_) ?_
                · obtain ⟨t1, t2, t3⟩ := HZ10.out.thaw
                  obtain ⟨s1, s2, s3⟩ := HZ10.out.cells
                  go_simp
                  clear t1 t2 t3 s1 s2 s3
                  have HX10 := Lib.hid (HZ10.out.set n7 (.slice x7 l7.length y7) (.slice x8 c7.length y8))
                  have HX9 := Lib.hid (HX9.out.other HNe.out (.int .i64 n7) (.slice x7 l7.length y7) (.slice x8 c7.length y8))
                  have HP5 := Lib.hid (ownB HP5.out HZ10.out (.int .i64 n7) (.slice x7 l7.length y7) (.slice x8 c7.length y8))
                  have HP6 := Lib.hid (ownC HP6.out HZ10.out (.int .i64 n7) (.slice x7 l7.length y7) (.slice x8 c7.length y8))
                  have HP7 := Lib.hid (ownB HP7.out HZ10.out (.int .i64 n7) (.slice x7 l7.length y7) (.slice x8 c7.length y8))
                  have HP8 := Lib.hid (ownC HP8.out HZ10.out (.int .i64 n7) (.slice x7 l7.length y7) (.slice x8 c7.length y8))
                  have HBu := Lib.hid (below_set3 HBu.out HL10.out (.int .i64 n7) (.slice x7 l7.length y7) (.slice x8 c7.length y8))
                  obtain ⟨U, hU⟩ : ∃ X, (((U.setCell ⟨A10, 0, none⟩ (.int .i64 n7)).setCell ⟨A10, 1, none⟩ (.slice x7 l7.length y7)).setCell ⟨A10, 2, none⟩ (.slice x8 c7.length y8)) = X := ⟨_, rfl⟩
                  rw [hU] at HX10 HX9 HP5 HP6 HP7 HP8 HBu ⊢
                  clear hU
                  refine hK7.out _ _ (by first | exact HCs.out _ HBu.out | exact HCs.out _ (below_drew HBu.out)) (fun hHeld => ?_)
                  clear hK7 K7
                  try simp only [Act.put, List.setIfInBounds_toArray, List.set_cons_zero, List.set_cons_succ]
                  refine wpAnyH_take (i := 15) (oi := { dst := some 11, op := Op.assign (Operand.tmp 38), type := 4, pos := "law.go:93", after := #[{ on := 10, ground := Ground.data }, { on := 14, ground := Ground.chain }, { on := 0, ground := Ground.phase }, { on := 1, ground := Ground.phase }, { on := 2, ground := Ground.phase }, { on := 3, ground := Ground.phase }, { on := 4, ground := Ground.phase }, { on := 5, ground := Ground.phase }, { on := 6, ground := Ground.phase }, { on := 7, ground := Ground.phase }, { on := 8, ground := Ground.phase }, { on := 9, ground := Ground.phase }, { on := 10, ground := Ground.phase }, { on := 11, ground := Ground.phase }, { on := 12, ground := Ground.phase }, { on := 13, ground := Ground.phase }, { on := 14, ground := Ground.phase }], guard := none }) (v := ?_) rfl (by kernel_rfl) (by kernel_rfl) (by kernel_rfl) (fun _ _ _ h => h) (Or.inl ⟨by rfl, ?_⟩) hHeld ?_
                  rotate_left 1
                  · intro W hSw
                    (try dsimp only at hSw)
                    go_simp
                    try with_reducible rfl
                  try simp only [Act.put, List.setIfInBounds_toArray, List.set_cons_zero, List.set_cons_succ]
                  refine wpAnyH_done (by kernel_rfl) ?_ _
                  clear hHeld
                  --FINA
                  have HX5u := Lib.hid (HX5b.out.keep HBu.out)
                  have HX6u := Lib.hid (HX6b.out.keep HBu.out)
                  have HX8u := Lib.hid (HX8.out.keep HBu.out)
                  have HO1u := Lib.hid (HO1b.out.below HBu.out)
                  have HO2u := Lib.hid (HO2b.out.below HBu.out)
                  have HO8u := Lib.hid (HO8.out.below HBu.out)
                  have HO9u := Lib.hid (HO9.out.below HBu.out)
                  have HBt := Lib.hid (HBs.out.trans (HBu.out.mono HBs.out.size))
                  have HGf := Lib.hid (good_fit HG7.out)
                  have HNa : Hid (A10 ≠ N5 ∧ W.heap.size ≤ N5 ∧ W.heap.size ≤ N6) := Lib.hid ⟨fun e => by have := HL10.out; have := HX5b.out.lt; omega, HN5.out, by have := HN5.out; have := HN6.out; omega⟩
                  obtain ⟨k1, k2, k3⟩ := HX9.out.cells
                  obtain ⟨m1, m2, m3⟩ := HX10.out.cells
                  have M1 := Lib.hid True.intro
                  go_upto_region 12 with (first
                    | (go_at_call 8; clear M1; refine (rSame_any _ _ ⟨n7, l7, c7⟩ ⟨n7, l7, c7⟩ U ⟨_, _, rfl, HP5.out.read fc_len, HP6.out.read wc_len⟩ ⟨_, _, rfl, HP7.out.read fc_len, HP8.out.read wc_len⟩).mono ?_; rintro e w10 ⟨r, rfl, hr, hb⟩; obtain rfl : r = true := hr.2 rfl; have HB10 := Lib.hid hb; obtain ⟨g1, g2, g3⟩ := (HX8u.out.keep hb).cells; obtain ⟨h1, h2, h3⟩ := (HX5u.out.keep hb).cells; clear hr hb k1 k2 k3 m1 m2 m3; have M2 := Lib.hid True.intro)
                    | (go_at_call 8; clear M2; refine (rSame_any _ _ ⟨n, l, c'⟩ ⟨n, l, c'⟩ w10 ⟨_, _, rfl, (HO8u.out.below HB10.out).read fc_len, (HO9u.out.below HB10.out).read wc_len⟩ ⟨_, _, rfl, (HO1u.out.below HB10.out).read fc_len, (HO2u.out.below HB10.out).read wc_len⟩).mono ?_; rintro e w11 ⟨r, rfl, hr, hb⟩; obtain rfl : r = true := hr.2 rfl; have HB11 := Lib.hid (HB10.out.trans (hb.mono HB10.out.size)); obtain ⟨k1, k2, k3⟩ := (HX9.out.keep HB11.out).cells; clear hr hb g1 g2 g3 h1 h2 h3)
                    | (go_at_call 9; refine (Fit_any _ ⟨n7, l7, c7⟩ w11 ⟨_, _, rfl, (HP5.out.below HB11.out).read fc_len, (HP6.out.below HB11.out).read wc_len⟩).mono ?_; rintro e w12 ⟨rfl, hb⟩; rw [HGf.out]; have HB12 := Lib.hid (HB11.out.trans (hb.mono HB11.out.size)); clear hb k1 k2 k3))
                  have HX5v := Lib.hid (HX5u.out.keep HB12.out)
                  have HX6v := Lib.hid (HX6u.out.keep HB12.out)
                  have HX9v := Lib.hid (HX9.out.keep HB12.out)
                  have HXv := Lib.hid (HX10.out.keep HB12.out)
                  have HBv := Lib.hid (HBt.out.trans (HB12.out.mono HBt.out.size))
                  have HQ5 := Lib.hid (ownB (HP5.out.below HB12.out) HX5v.out (.int .i64 n7) (.slice x5 l7.length y5) (.slice x6 c7.length y6))
                  have HQ6 := Lib.hid (ownC (HP6.out.below HB12.out) HX5v.out (.int .i64 n7) (.slice x5 l7.length y5) (.slice x6 c7.length y6))
                  have HQ7 := Lib.hid (ownB (HP7.out.below HB12.out) HX5v.out (.int .i64 n7) (.slice x5 l7.length y5) (.slice x6 c7.length y6))
                  have HQ8 := Lib.hid (ownC (HP8.out.below HB12.out) HX5v.out (.int .i64 n7) (.slice x5 l7.length y5) (.slice x6 c7.length y6))
                  obtain ⟨k1, k2, k3⟩ := HX9v.out.cells
                  obtain ⟨g1, g2, g3⟩ := HX5v.out.cells
                  obtain ⟨f1, f2, f3⟩ := HX5v.out.thaw
                  go_upto_region 13 with fail
                  have HX5w := Lib.hid (HX5v.out.set n7 (.slice x5 l7.length y5) (.slice x6 c7.length y6))
                  have HX6w := Lib.hid (HX6v.out.other hN65 (.int .i64 n7) (.slice x5 l7.length y5) (.slice x6 c7.length y6))
                  have HXw := Lib.hid (HXv.out.other HNa.out.1 (.int .i64 n7) (.slice x5 l7.length y5) (.slice x6 c7.length y6))
                  have HBw := Lib.hid (below_set3 HBv.out HNa.out.2.1 (.int .i64 n7) (.slice x5 l7.length y5) (.slice x6 c7.length y6))
                  clear k1 k2 k3 g1 g2 g3 f1 f2 f3
                  generalize (((w12.setCell ⟨N5, 0, none⟩ (.int .i64 n7)).setCell ⟨N5, 1, none⟩ (.slice x5 l7.length y5)).setCell ⟨N5, 2, none⟩ (.slice x6 c7.length y6)) = W13 at HX5w HX6w HXw HBw HQ5 HQ6 HQ7 HQ8 ⊢
                  have HX5f := Lib.hid (HX5w.out.other hN56 (.int .i64 n7) (.slice x7 l7.length y7) (.slice x8 c7.length y8))
                  have HX6f := Lib.hid (HX6w.out.set n7 (.slice x7 l7.length y7) (.slice x8 c7.length y8))
                  have HQ5 := Lib.hid (ownB HQ5.out HX6w.out (.int .i64 n7) (.slice x7 l7.length y7) (.slice x8 c7.length y8))
                  have HQ6 := Lib.hid (ownC HQ6.out HX6w.out (.int .i64 n7) (.slice x7 l7.length y7) (.slice x8 c7.length y8))
                  have HQ7 := Lib.hid (ownB HQ7.out HX6w.out (.int .i64 n7) (.slice x7 l7.length y7) (.slice x8 c7.length y8))
                  have HQ8 := Lib.hid (ownC HQ8.out HX6w.out (.int .i64 n7) (.slice x7 l7.length y7) (.slice x8 c7.length y8))
                  have HBf := Lib.hid (below_set3 HBw.out HNa.out.2.2 (.int .i64 n7) (.slice x7 l7.length y7) (.slice x8 c7.length y8))
                  obtain ⟨k1, k2, k3⟩ := HXw.out.cells
                  obtain ⟨g1, g2, g3⟩ := HX6w.out.cells
                  obtain ⟨f1, f2, f3⟩ := HX6w.out.thaw
                  go_upto_region 7 with fail
                  clear k1 k2 k3 g1 g2 g3 f1 f2 f3
                  generalize (((W13.setCell ⟨N6, 0, none⟩ (.int .i64 n7)).setCell ⟨N6, 1, none⟩ (.slice x7 l7.length y7)).setCell ⟨N6, 2, none⟩ (.slice x8 c7.length y8)) = W14 at HX5f HX6f HQ5 HQ6 HQ7 HQ8 HBf ⊢
                  go_wp2
                  go_roundw
                  case rel => exact ⟨i + 1, ⟨n7, l7, c7⟩, _, _, _, _, by omega, by go_num, HX5f.out, HX6f.out, HQ5.out, HQ6.out, HQ7.out, HQ8.out, by rw [← HNx.out]; exact HG7.out, HBf.out⟩
                  case measure => simp [intOf]; omega
                  --FINB
                exact AllReadyH.nil
              exact AllReadyH.nil
            exact AllReadyH.nil
          refine AllReadyH.cons (o := { dst := some 10, op := Op.alloc 25, type := 0, pos := "law.go:93", after := #[], guard := none }) rfl (fun K7 hK7 => ?_) ?_
          · go_simp
            have hbn := below_new U (.cells #[.int .i64 0, .slice none 0 0, .slice none 0 0] 25)
            have HL10 := Lib.hid HBu.out.size
            (try have HNe := Lib.hid (show A9 ≠ U.heap.size from Nat.ne_of_lt HZ9.out.lt))
            have HZ10 := Lib.hid (fbox_new U 0 (.slice none 0 0) (.slice none 0 0))
            (try have HZ9 := Lib.hid (HZ9.out.keep hbn))
            (try have HP5 := Lib.hid (HP5.out.below hbn))
            (try have HP6 := Lib.hid (HP6.out.below hbn))
            (try have HP7 := Lib.hid (HP7.out.below hbn))
            (try have HP8 := Lib.hid (HP8.out.below hbn))
            have HBu := Lib.hid (HBu.out.trans (hbn.mono HBu.out.size))
            obtain ⟨A10, hA⟩ : ∃ A, U.heap.size = A := ⟨_, rfl⟩
            rw [hA] at HZ10 HL10 ⊢
            (try rw [hA] at HNe)
            obtain ⟨U, hU⟩ : ∃ X, U.alloc (.cells #[.int .i64 0, .slice none 0 0, .slice none 0 0] 25) = X := ⟨_, rfl⟩
            rw [hU] at HZ10 HBu ⊢
            (try rw [hU] at HZ9)
            (try rw [hU] at HP5)
            (try rw [hU] at HP6)
            (try rw [hU] at HP7)
            (try rw [hU] at HP8)
            clear hbn hA hU
            refine hK7.out _ _ (by first | exact HCs.out _ HBu.out | exact HCs.out _ (below_drew HBu.out)) (fun hHeld => ?_)
            clear hK7 K7
            try simp only [Act.put, List.setIfInBounds_toArray, List.set_cons_zero, List.set_cons_succ]
            refine wpAnyH_ready (rs := [6]) (by kernel_rfl) (by simp) ?_
            refine AllReadyH.cons (o := { dst := some 35, op := Op.call { callee := Callee.value (Operand.func 7), args := #[Operand.tmp 29, Operand.tmp 30, Operand.tmp 34], argTypes := #[25, 25, 34] }, type := 30, pos := "law.go:93", after := #[{ on := 0, ground := Ground.data }, { on := 1, ground := Ground.data }, { on := 5, ground := Ground.data }], guard := none }) rfl (fun K7 hK7 => ?_) ?_
            · go_simp
              refine (act_any (f := ⟨n, l, c'⟩) _ _ _ _ W.heap.size K x _ (HO1b.out.below HBu.out) (HO2b.out.below HBu.out) (HO3b.out.below HBu.out) (HO4b.out.below HBu.out) HGi.out HActb.out.1 (Nat.le_trans hWw HBu.out.size) ya yb (HActb.out.2.1.keep HBu.out) (HActb.out.2.2.1.keep HBu.out) HActb.out.2.2.2.1 HActb.out.2.2.2.2 HYab.out.1 HYab.out.2 HKi2.out).mono ?_
              rintro e U ⟨⟨n7, l7, c7⟩, vl7, vc7, vm7, vd7, he, ho5, ho6, ho7, ho8, hg7, hb7⟩
              have he : e = .returned (.tuple #[.agg #[.int .i64 n7, vl7, vc7], .agg #[.int .i64 n7, vm7, vd7], .bool true]) := he
              subst he
              simp only at ho5 ho6 ho7 ho8
              obtain ⟨x5, y5, rfl⟩ := ho5.slice
              obtain ⟨x6, y6, rfl⟩ := ho6.slice
              obtain ⟨x7, y7, rfl⟩ := ho7.slice
              obtain ⟨x8, y8, rfl⟩ := ho8.slice
              have HP5 := Lib.hid ho5
              have HP6 := Lib.hid ho6
              have HP7 := Lib.hid ho7
              have HP8 := Lib.hid ho8
              have HG7 := Lib.hid hg7
              have HBu := Lib.hid (HBu.out.trans (hb7.mono HBu.out.size))
              (try have HZ9 := Lib.hid (HZ9.out.keep hb7))
              (try have HZ10 := Lib.hid (HZ10.out.keep hb7))
              clear ho5 ho6 ho7 ho8 hg7 hb7
              try dsimp only
              refine hK7.out _ _ (by first | exact HCs.out _ HBu.out | exact HCs.out _ (below_drew HBu.out)) (fun hHeld => ?_)
              clear hK7 K7
              try simp only [Act.put, List.setIfInBounds_toArray, List.set_cons_zero, List.set_cons_succ]
              refine wpAnyH_take (i := 7) (oi := { dst := some 28, op := Op.move (Operand.tmp 35), type := 30, pos := "law.go:93", after := #[{ on := 6, ground := Ground.data }], guard := none }) (v := ?_) rfl (by kernel_rfl) (by kernel_rfl) (by kernel_rfl) (fun _ _ _ h => h) (Or.inl ⟨by rfl, ?_⟩) hHeld ?_
              rotate_left 1
              · intro W hSw
                (try dsimp only at hSw)
                go_simp
                try with_reducible rfl
              try simp only [Act.put, List.setIfInBounds_toArray, List.set_cons_zero, List.set_cons_succ]
              refine wpAnyH_take (i := 8) (oi := { dst := some 36, op := Op.extract (Operand.tmp 28) 0, type := 25, pos := "law.go:93", after := #[{ on := 7, ground := Ground.data }], guard := none }) (v := ?_) rfl (by kernel_rfl) (by kernel_rfl) (by kernel_rfl) (fun _ _ _ h => h) (Or.inl ⟨by rfl, ?_⟩) hHeld ?_
              rotate_left 1
              · intro W hSw
                (try dsimp only at hSw)
                go_simp
                try with_reducible rfl
              try simp only [Act.put, List.setIfInBounds_toArray, List.set_cons_zero, List.set_cons_succ]
              refine wpAnyH_take (i := 9) (oi := { dst := some 37, op := Op.extract (Operand.tmp 28) 1, type := 25, pos := "law.go:93", after := #[{ on := 7, ground := Ground.data }, { on := 13, ground := Ground.gcOnly Departure.lateStores }], guard := none }) (v := ?_) rfl (by kernel_rfl) (by kernel_rfl) (by kernel_rfl) (fun _ _ _ h => h) (Or.inl ⟨by rfl, ?_⟩) hHeld ?_
              rotate_left 1
              · intro W hSw
                (try dsimp only at hSw)
                go_simp
                try with_reducible rfl
              try simp only [Act.put, List.setIfInBounds_toArray, List.set_cons_zero, List.set_cons_succ]
              refine wpAnyH_take (i := 10) (oi := { dst := some 38, op := Op.extract (Operand.tmp 28) 2, type := 4, pos := "law.go:93", after := #[{ on := 7, ground := Ground.data }, { on := 14, ground := Ground.gcOnly Departure.lateStores }], guard := none }) (v := ?_) rfl (by kernel_rfl) (by kernel_rfl) (by kernel_rfl) (fun _ _ _ h => h) (Or.inl ⟨by rfl, ?_⟩) hHeld ?_
              rotate_left 1
              · intro W hSw
                (try dsimp only at hSw)
                go_simp
                try with_reducible rfl
              try simp only [Act.put, List.setIfInBounds_toArray, List.set_cons_zero, List.set_cons_succ]
              refine wpAnyH_ready (rs := [13]) (by kernel_rfl) (by simp) ?_
              refine AllReadyH.cons (o := { dst := none, op := Op.store 25 (Operand.tmp 9) (Operand.tmp 36), type := 0, pos := "law.go:93", after := #[{ on := 11, ground := Ground.data }, { on := 8, ground := Ground.data }, { on := 6, ground := Ground.chain }, { on := 0, ground := Ground.phase }, { on := 1, ground := Ground.phase }, { on := 2, ground := Ground.phase }, { on := 3, ground := Ground.phase }, { on := 4, ground := Ground.phase }, { on := 5, ground := Ground.phase }, { on := 6, ground := Ground.phase }, { on := 7, ground := Ground.phase }, { on := 8, ground := Ground.phase }, { on := 9, ground := Ground.textOnly Departure.lateStores }, { on := 10, ground := Ground.textOnly Departure.lateStores }, { on := 11, ground := Ground.phase }, { on := 12, ground := Ground.phase }], guard := none }) rfl (fun K7 hK7 => ?_) ?_
              · obtain ⟨t1, t2, t3⟩ := HZ9.out.thaw
                obtain ⟨s1, s2, s3⟩ := HZ9.out.cells
                go_simp
                clear t1 t2 t3 s1 s2 s3
                have HX9 := Lib.hid (HZ9.out.set n7 (.slice x5 l7.length y5) (.slice x6 c7.length y6))
                have HZ10 := Lib.hid (HZ10.out.other HNe.out.symm (.int .i64 n7) (.slice x5 l7.length y5) (.slice x6 c7.length y6))
                have HP5 := Lib.hid (ownB HP5.out HZ9.out (.int .i64 n7) (.slice x5 l7.length y5) (.slice x6 c7.length y6))
                have HP6 := Lib.hid (ownC HP6.out HZ9.out (.int .i64 n7) (.slice x5 l7.length y5) (.slice x6 c7.length y6))
                have HP7 := Lib.hid (ownB HP7.out HZ9.out (.int .i64 n7) (.slice x5 l7.length y5) (.slice x6 c7.length y6))
                have HP8 := Lib.hid (ownC HP8.out HZ9.out (.int .i64 n7) (.slice x5 l7.length y5) (.slice x6 c7.length y6))
                have HBu := Lib.hid (below_set3 HBu.out HL9.out (.int .i64 n7) (.slice x5 l7.length y5) (.slice x6 c7.length y6))
                obtain ⟨U, hU⟩ : ∃ X, (((U.setCell ⟨A9, 0, none⟩ (.int .i64 n7)).setCell ⟨A9, 1, none⟩ (.slice x5 l7.length y5)).setCell ⟨A9, 2, none⟩ (.slice x6 c7.length y6)) = X := ⟨_, rfl⟩
                rw [hU] at HX9 HZ10 HP5 HP6 HP7 HP8 HBu ⊢
                clear hU
                refine hK7.out _ _ (by first | exact HCs.out _ HBu.out | exact HCs.out _ (below_drew HBu.out)) (fun hHeld => ?_)
                clear hK7 K7
                try simp only [Act.put, List.setIfInBounds_toArray, List.set_cons_zero, List.set_cons_succ]
                refine wpAnyH_ready (rs := [14]) (by kernel_rfl) (by simp) ?_
                refine AllReadyH.cons (o := { dst := none, op := Op.store 25 (Operand.tmp 10) (Operand.tmp 37), type := 0, pos := "law.go:93", after := #[{ on := 12, ground := Ground.data }, { on := 9, ground := Ground.data }, { on := 13, ground := Ground.chain }, { on := 0, ground := Ground.phase }, { on := 1, ground := Ground.phase }, { on := 2, ground := Ground.phase }, { on := 3, ground := Ground.phase }, { on := 4, ground := Ground.phase }, { on := 5, ground := Ground.phase }, { on := 6, ground := Ground.phase }, { on := 7, ground := Ground.phase }, { on := 8, ground := Ground.phase }, { on := 9, ground := Ground.phase }, { on := 10, ground := Ground.textOnly Departure.lateStores }, { on := 11, ground := Ground.phase }, { on := 12, ground := Ground.phase }, { on := 13, ground := Ground.phase }], guard := none }) rfl (fun K7 hK7 => ?_) ?_
                · obtain ⟨t1, t2, t3⟩ := HZ10.out.thaw
                  obtain ⟨s1, s2, s3⟩ := HZ10.out.cells
                  go_simp
                  clear t1 t2 t3 s1 s2 s3
                  have HX10 := Lib.hid (HZ10.out.set n7 (.slice x7 l7.length y7) (.slice x8 c7.length y8))
                  have HX9 := Lib.hid (HX9.out.other HNe.out (.int .i64 n7) (.slice x7 l7.length y7) (.slice x8 c7.length y8))
                  have HP5 := Lib.hid (ownB HP5.out HZ10.out (.int .i64 n7) (.slice x7 l7.length y7) (.slice x8 c7.length y8))
                  have HP6 := Lib.hid (ownC HP6.out HZ10.out (.int .i64 n7) (.slice x7 l7.length y7) (.slice x8 c7.length y8))
                  have HP7 := Lib.hid (ownB HP7.out HZ10.out (.int .i64 n7) (.slice x7 l7.length y7) (.slice x8 c7.length y8))
                  have HP8 := Lib.hid (ownC HP8.out HZ10.out (.int .i64 n7) (.slice x7 l7.length y7) (.slice x8 c7.length y8))
                  have HBu := Lib.hid (below_set3 HBu.out HL10.out (.int .i64 n7) (.slice x7 l7.length y7) (.slice x8 c7.length y8))
                  obtain ⟨U, hU⟩ : ∃ X, (((U.setCell ⟨A10, 0, none⟩ (.int .i64 n7)).setCell ⟨A10, 1, none⟩ (.slice x7 l7.length y7)).setCell ⟨A10, 2, none⟩ (.slice x8 c7.length y8)) = X := ⟨_, rfl⟩
                  rw [hU] at HX10 HX9 HP5 HP6 HP7 HP8 HBu ⊢
                  clear hU
                  refine hK7.out _ _ (by first | exact HCs.out _ HBu.out | exact HCs.out _ (below_drew HBu.out)) (fun hHeld => ?_)
                  clear hK7 K7
                  try simp only [Act.put, List.setIfInBounds_toArray, List.set_cons_zero, List.set_cons_succ]
                  refine wpAnyH_take (i := 15) (oi := { dst := some 11, op := Op.assign (Operand.tmp 38), type := 4, pos := "law.go:93", after := #[{ on := 10, ground := Ground.data }, { on := 14, ground := Ground.chain }, { on := 0, ground := Ground.phase }, { on := 1, ground := Ground.phase }, { on := 2, ground := Ground.phase }, { on := 3, ground := Ground.phase }, { on := 4, ground := Ground.phase }, { on := 5, ground := Ground.phase }, { on := 6, ground := Ground.phase }, { on := 7, ground := Ground.phase }, { on := 8, ground := Ground.phase }, { on := 9, ground := Ground.phase }, { on := 10, ground := Ground.phase }, { on := 11, ground := Ground.phase }, { on := 12, ground := Ground.phase }, { on := 13, ground := Ground.phase }, { on := 14, ground := Ground.phase }], guard := none }) (v := ?_) rfl (by kernel_rfl) (by kernel_rfl) (by kernel_rfl) (fun _ _ _ h => h) (Or.inl ⟨by rfl, ?_⟩) hHeld ?_
                  rotate_left 1
                  · intro W hSw
                    (try dsimp only at hSw)
                    go_simp
                    try with_reducible rfl
                  try simp only [Act.put, List.setIfInBounds_toArray, List.set_cons_zero, List.set_cons_succ]
                  refine wpAnyH_done (by kernel_rfl) ?_ _
                  clear hHeld
                  --FINA
                  have HX5u := Lib.hid (HX5b.out.keep HBu.out)
                  have HX6u := Lib.hid (HX6b.out.keep HBu.out)
                  have HX8u := Lib.hid (HX8.out.keep HBu.out)
                  have HO1u := Lib.hid (HO1b.out.below HBu.out)
                  have HO2u := Lib.hid (HO2b.out.below HBu.out)
                  have HO8u := Lib.hid (HO8.out.below HBu.out)
                  have HO9u := Lib.hid (HO9.out.below HBu.out)
                  have HBt := Lib.hid (HBs.out.trans (HBu.out.mono HBs.out.size))
                  have HGf := Lib.hid (good_fit HG7.out)
                  have HNa : Hid (A10 ≠ N5 ∧ W.heap.size ≤ N5 ∧ W.heap.size ≤ N6) := Lib.hid ⟨fun e => by have := HL10.out; have := HX5b.out.lt; omega, HN5.out, by have := HN5.out; have := HN6.out; omega⟩
                  obtain ⟨k1, k2, k3⟩ := HX9.out.cells
                  obtain ⟨m1, m2, m3⟩ := HX10.out.cells
                  have M1 := Lib.hid True.intro
                  go_upto_region 12 with (first
                    | (go_at_call 8; clear M1; refine (rSame_any _ _ ⟨n7, l7, c7⟩ ⟨n7, l7, c7⟩ U ⟨_, _, rfl, HP5.out.read fc_len, HP6.out.read wc_len⟩ ⟨_, _, rfl, HP7.out.read fc_len, HP8.out.read wc_len⟩).mono ?_; rintro e w10 ⟨r, rfl, hr, hb⟩; obtain rfl : r = true := hr.2 rfl; have HB10 := Lib.hid hb; obtain ⟨g1, g2, g3⟩ := (HX8u.out.keep hb).cells; obtain ⟨h1, h2, h3⟩ := (HX5u.out.keep hb).cells; clear hr hb k1 k2 k3 m1 m2 m3; have M2 := Lib.hid True.intro)
                    | (go_at_call 8; clear M2; refine (rSame_any _ _ ⟨n, l, c'⟩ ⟨n, l, c'⟩ w10 ⟨_, _, rfl, (HO8u.out.below HB10.out).read fc_len, (HO9u.out.below HB10.out).read wc_len⟩ ⟨_, _, rfl, (HO1u.out.below HB10.out).read fc_len, (HO2u.out.below HB10.out).read wc_len⟩).mono ?_; rintro e w11 ⟨r, rfl, hr, hb⟩; obtain rfl : r = true := hr.2 rfl; have HB11 := Lib.hid (HB10.out.trans (hb.mono HB10.out.size)); obtain ⟨k1, k2, k3⟩ := (HX9.out.keep HB11.out).cells; clear hr hb g1 g2 g3 h1 h2 h3)
                    | (go_at_call 9; refine (Fit_any _ ⟨n7, l7, c7⟩ w11 ⟨_, _, rfl, (HP5.out.below HB11.out).read fc_len, (HP6.out.below HB11.out).read wc_len⟩).mono ?_; rintro e w12 ⟨rfl, hb⟩; rw [HGf.out]; have HB12 := Lib.hid (HB11.out.trans (hb.mono HB11.out.size)); clear hb k1 k2 k3))
                  have HX5v := Lib.hid (HX5u.out.keep HB12.out)
                  have HX6v := Lib.hid (HX6u.out.keep HB12.out)
                  have HX9v := Lib.hid (HX9.out.keep HB12.out)
                  have HXv := Lib.hid (HX10.out.keep HB12.out)
                  have HBv := Lib.hid (HBt.out.trans (HB12.out.mono HBt.out.size))
                  have HQ5 := Lib.hid (ownB (HP5.out.below HB12.out) HX5v.out (.int .i64 n7) (.slice x5 l7.length y5) (.slice x6 c7.length y6))
                  have HQ6 := Lib.hid (ownC (HP6.out.below HB12.out) HX5v.out (.int .i64 n7) (.slice x5 l7.length y5) (.slice x6 c7.length y6))
                  have HQ7 := Lib.hid (ownB (HP7.out.below HB12.out) HX5v.out (.int .i64 n7) (.slice x5 l7.length y5) (.slice x6 c7.length y6))
                  have HQ8 := Lib.hid (ownC (HP8.out.below HB12.out) HX5v.out (.int .i64 n7) (.slice x5 l7.length y5) (.slice x6 c7.length y6))
                  obtain ⟨k1, k2, k3⟩ := HX9v.out.cells
                  obtain ⟨g1, g2, g3⟩ := HX5v.out.cells
                  obtain ⟨f1, f2, f3⟩ := HX5v.out.thaw
                  go_upto_region 13 with fail
                  have HX5w := Lib.hid (HX5v.out.set n7 (.slice x5 l7.length y5) (.slice x6 c7.length y6))
                  have HX6w := Lib.hid (HX6v.out.other hN65 (.int .i64 n7) (.slice x5 l7.length y5) (.slice x6 c7.length y6))
                  have HXw := Lib.hid (HXv.out.other HNa.out.1 (.int .i64 n7) (.slice x5 l7.length y5) (.slice x6 c7.length y6))
                  have HBw := Lib.hid (below_set3 HBv.out HNa.out.2.1 (.int .i64 n7) (.slice x5 l7.length y5) (.slice x6 c7.length y6))
                  clear k1 k2 k3 g1 g2 g3 f1 f2 f3
                  generalize (((w12.setCell ⟨N5, 0, none⟩ (.int .i64 n7)).setCell ⟨N5, 1, none⟩ (.slice x5 l7.length y5)).setCell ⟨N5, 2, none⟩ (.slice x6 c7.length y6)) = W13 at HX5w HX6w HXw HBw HQ5 HQ6 HQ7 HQ8 ⊢
                  have HX5f := Lib.hid (HX5w.out.other hN56 (.int .i64 n7) (.slice x7 l7.length y7) (.slice x8 c7.length y8))
                  have HX6f := Lib.hid (HX6w.out.set n7 (.slice x7 l7.length y7) (.slice x8 c7.length y8))
                  have HQ5 := Lib.hid (ownB HQ5.out HX6w.out (.int .i64 n7) (.slice x7 l7.length y7) (.slice x8 c7.length y8))
                  have HQ6 := Lib.hid (ownC HQ6.out HX6w.out (.int .i64 n7) (.slice x7 l7.length y7) (.slice x8 c7.length y8))
                  have HQ7 := Lib.hid (ownB HQ7.out HX6w.out (.int .i64 n7) (.slice x7 l7.length y7) (.slice x8 c7.length y8))
                  have HQ8 := Lib.hid (ownC HQ8.out HX6w.out (.int .i64 n7) (.slice x7 l7.length y7) (.slice x8 c7.length y8))
                  have HBf := Lib.hid (below_set3 HBw.out HNa.out.2.2 (.int .i64 n7) (.slice x7 l7.length y7) (.slice x8 c7.length y8))
                  obtain ⟨k1, k2, k3⟩ := HXw.out.cells
                  obtain ⟨g1, g2, g3⟩ := HX6w.out.cells
                  obtain ⟨f1, f2, f3⟩ := HX6w.out.thaw
                  go_upto_region 7 with fail
                  clear k1 k2 k3 g1 g2 g3 f1 f2 f3
                  generalize (((W13.setCell ⟨N6, 0, none⟩ (.int .i64 n7)).setCell ⟨N6, 1, none⟩ (.slice x7 l7.length y7)).setCell ⟨N6, 2, none⟩ (.slice x8 c7.length y8)) = W14 at HX5f HX6f HQ5 HQ6 HQ7 HQ8 HBf ⊢
                  go_wp2
                  go_roundw
                  case rel => exact ⟨i + 1, ⟨n7, l7, c7⟩, _, _, _, _, by omega, by go_num, HX5f.out, HX6f.out, HQ5.out, HQ6.out, HQ7.out, HQ8.out, by rw [← HNx.out]; exact HG7.out, HBf.out⟩
                  case measure => simp [intOf]; omega
                  --FINB
                exact AllReadyH.nil
              exact AllReadyH.nil
            exact AllReadyH.nil
          exact AllReadyH.nil
        refine AllReadyH.cons (o := { dst := some 10, op := Op.alloc 25, type := 0, pos := "law.go:93", after := #[], guard := none }) rfl (fun K7 hK7 => ?_) ?_
        · go_simp
          have hbn := below_new U (.cells #[.int .i64 0, .slice none 0 0, .slice none 0 0] 25)
          have HL10 := Lib.hid HBu.out.size
          (try have HNe := Lib.hid (show A9 ≠ U.heap.size from Nat.ne_of_lt HZ9.out.lt))
          have HZ10 := Lib.hid (fbox_new U 0 (.slice none 0 0) (.slice none 0 0))
          (try have HZ9 := Lib.hid (HZ9.out.keep hbn))
          (try have HP5 := Lib.hid (HP5.out.below hbn))
          (try have HP6 := Lib.hid (HP6.out.below hbn))
          (try have HP7 := Lib.hid (HP7.out.below hbn))
          (try have HP8 := Lib.hid (HP8.out.below hbn))
          have HBu := Lib.hid (HBu.out.trans (hbn.mono HBu.out.size))
          obtain ⟨A10, hA⟩ : ∃ A, U.heap.size = A := ⟨_, rfl⟩
          rw [hA] at HZ10 HL10 ⊢
          (try rw [hA] at HNe)
          obtain ⟨U, hU⟩ : ∃ X, U.alloc (.cells #[.int .i64 0, .slice none 0 0, .slice none 0 0] 25) = X := ⟨_, rfl⟩
          rw [hU] at HZ10 HBu ⊢
          (try rw [hU] at HZ9)
          (try rw [hU] at HP5)
          (try rw [hU] at HP6)
          (try rw [hU] at HP7)
          (try rw [hU] at HP8)
          clear hbn hA hU
          refine hK7.out _ _ (by first | exact HCs.out _ HBu.out | exact HCs.out _ (below_drew HBu.out)) (fun hHeld => ?_)
          clear hK7 K7
          try simp only [Act.put, List.setIfInBounds_toArray, List.set_cons_zero, List.set_cons_succ]
          refine wpAnyH_ready (rs := [6, 11]) (by kernel_rfl) (by simp) ?_
          refine AllReadyH.cons (o := { dst := some 35, op := Op.call { callee := Callee.value (Operand.func 7), args := #[Operand.tmp 29, Operand.tmp 30, Operand.tmp 34], argTypes := #[25, 25, 34] }, type := 30, pos := "law.go:93", after := #[{ on := 0, ground := Ground.data }, { on := 1, ground := Ground.data }, { on := 5, ground := Ground.data }], guard := none }) rfl (fun K7 hK7 => ?_) ?_
          · go_simp
            refine (act_any (f := ⟨n, l, c'⟩) _ _ _ _ W.heap.size K x _ (HO1b.out.below HBu.out) (HO2b.out.below HBu.out) (HO3b.out.below HBu.out) (HO4b.out.below HBu.out) HGi.out HActb.out.1 (Nat.le_trans hWw HBu.out.size) ya yb (HActb.out.2.1.keep HBu.out) (HActb.out.2.2.1.keep HBu.out) HActb.out.2.2.2.1 HActb.out.2.2.2.2 HYab.out.1 HYab.out.2 HKi2.out).mono ?_
            rintro e U ⟨⟨n7, l7, c7⟩, vl7, vc7, vm7, vd7, he, ho5, ho6, ho7, ho8, hg7, hb7⟩
            have he : e = .returned (.tuple #[.agg #[.int .i64 n7, vl7, vc7], .agg #[.int .i64 n7, vm7, vd7], .bool true]) := he
            subst he
            simp only at ho5 ho6 ho7 ho8
            obtain ⟨x5, y5, rfl⟩ := ho5.slice
            obtain ⟨x6, y6, rfl⟩ := ho6.slice
            obtain ⟨x7, y7, rfl⟩ := ho7.slice
            obtain ⟨x8, y8, rfl⟩ := ho8.slice
            have HP5 := Lib.hid ho5
            have HP6 := Lib.hid ho6
            have HP7 := Lib.hid ho7
            have HP8 := Lib.hid ho8
            have HG7 := Lib.hid hg7
            have HBu := Lib.hid (HBu.out.trans (hb7.mono HBu.out.size))
            (try have HZ9 := Lib.hid (HZ9.out.keep hb7))
            (try have HZ10 := Lib.hid (HZ10.out.keep hb7))
            clear ho5 ho6 ho7 ho8 hg7 hb7
            try dsimp only
            refine hK7.out _ _ (by first | exact HCs.out _ HBu.out | exact HCs.out _ (below_drew HBu.out)) (fun hHeld => ?_)
            clear hK7 K7
            try simp only [Act.put, List.setIfInBounds_toArray, List.set_cons_zero, List.set_cons_succ]
            refine wpAnyH_take (i := 7) (oi := { dst := some 28, op := Op.move (Operand.tmp 35), type := 30, pos := "law.go:93", after := #[{ on := 6, ground := Ground.data }], guard := none }) (v := ?_) rfl (by kernel_rfl) (by kernel_rfl) (by kernel_rfl) (fun _ _ _ h => h) (Or.inl ⟨by rfl, ?_⟩) hHeld ?_
            rotate_left 1
            · intro W hSw
              (try dsimp only at hSw)
              go_simp
              try with_reducible rfl
            try simp only [Act.put, List.setIfInBounds_toArray, List.set_cons_zero, List.set_cons_succ]
            refine wpAnyH_take (i := 8) (oi := { dst := some 36, op := Op.extract (Operand.tmp 28) 0, type := 25, pos := "law.go:93", after := #[{ on := 7, ground := Ground.data }], guard := none }) (v := ?_) rfl (by kernel_rfl) (by kernel_rfl) (by kernel_rfl) (fun _ _ _ h => h) (Or.inl ⟨by rfl, ?_⟩) hHeld ?_
            rotate_left 1
            · intro W hSw
              (try dsimp only at hSw)
              go_simp
              try with_reducible rfl
            try simp only [Act.put, List.setIfInBounds_toArray, List.set_cons_zero, List.set_cons_succ]
            refine wpAnyH_take (i := 9) (oi := { dst := some 37, op := Op.extract (Operand.tmp 28) 1, type := 25, pos := "law.go:93", after := #[{ on := 7, ground := Ground.data }, { on := 13, ground := Ground.gcOnly Departure.lateStores }], guard := none }) (v := ?_) rfl (by kernel_rfl) (by kernel_rfl) (by kernel_rfl) (fun _ _ _ h => h) (Or.inl ⟨by rfl, ?_⟩) hHeld ?_
            rotate_left 1
            · intro W hSw
              (try dsimp only at hSw)
              go_simp
              try with_reducible rfl
            try simp only [Act.put, List.setIfInBounds_toArray, List.set_cons_zero, List.set_cons_succ]
            refine wpAnyH_take (i := 10) (oi := { dst := some 38, op := Op.extract (Operand.tmp 28) 2, type := 4, pos := "law.go:93", after := #[{ on := 7, ground := Ground.data }, { on := 14, ground := Ground.gcOnly Departure.lateStores }], guard := none }) (v := ?_) rfl (by kernel_rfl) (by kernel_rfl) (by kernel_rfl) (fun _ _ _ h => h) (Or.inl ⟨by rfl, ?_⟩) hHeld ?_
            rotate_left 1
            · intro W hSw
              (try dsimp only at hSw)
              go_simp
              try with_reducible rfl
            try simp only [Act.put, List.setIfInBounds_toArray, List.set_cons_zero, List.set_cons_succ]
            refine wpAnyH_ready (rs := [11]) (by kernel_rfl) (by simp) ?_
            refine AllReadyH.cons (o := { dst := some 9, op := Op.alloc 25, type := 0, pos := "law.go:93", after := #[], guard := none }) rfl (fun K7 hK7 => ?_) ?_
            · go_simp
              have hbn := below_new U (.cells #[.int .i64 0, .slice none 0 0, .slice none 0 0] 25)
              have HL9 := Lib.hid HBu.out.size
              (try have HNe := Lib.hid (show U.heap.size ≠ A10 from (Nat.ne_of_lt HZ10.out.lt).symm))
              have HZ9 := Lib.hid (fbox_new U 0 (.slice none 0 0) (.slice none 0 0))
              (try have HZ10 := Lib.hid (HZ10.out.keep hbn))
              (try have HP5 := Lib.hid (HP5.out.below hbn))
              (try have HP6 := Lib.hid (HP6.out.below hbn))
              (try have HP7 := Lib.hid (HP7.out.below hbn))
              (try have HP8 := Lib.hid (HP8.out.below hbn))
              have HBu := Lib.hid (HBu.out.trans (hbn.mono HBu.out.size))
              obtain ⟨A9, hA⟩ : ∃ A, U.heap.size = A := ⟨_, rfl⟩
              rw [hA] at HZ9 HL9 ⊢
              (try rw [hA] at HNe)
              obtain ⟨U, hU⟩ : ∃ X, U.alloc (.cells #[.int .i64 0, .slice none 0 0, .slice none 0 0] 25) = X := ⟨_, rfl⟩
              rw [hU] at HZ9 HBu ⊢
              (try rw [hU] at HZ10)
              (try rw [hU] at HP5)
              (try rw [hU] at HP6)
              (try rw [hU] at HP7)
              (try rw [hU] at HP8)
              clear hbn hA hU
              refine hK7.out _ _ (by first | exact HCs.out _ HBu.out | exact HCs.out _ (below_drew HBu.out)) (fun hHeld => ?_)
              clear hK7 K7
              try simp only [Act.put, List.setIfInBounds_toArray, List.set_cons_zero, List.set_cons_succ]
              refine wpAnyH_ready (rs := [13]) (by kernel_rfl) (by simp) ?_
              refine AllReadyH.cons (o := { dst := none, op := Op.store 25 (Operand.tmp 9) (Operand.tmp 36), type := 0, pos := "law.go:93", after := #[{ on := 11, ground := Ground.data }, { on := 8, ground := Ground.data }, { on := 6, ground := Ground.chain }, { on := 0, ground := Ground.phase }, { on := 1, ground := Ground.phase }, { on := 2, ground := Ground.phase }, { on := 3, ground := Ground.phase }, { on := 4, ground := Ground.phase }, { on := 5, ground := Ground.phase }, { on := 6, ground := Ground.phase }, { on := 7, ground := Ground.phase }, { on := 8, ground := Ground.phase }, { on := 9, ground := Ground.textOnly Departure.lateStores }, { on := 10, ground := Ground.textOnly Departure.lateStores }, { on := 11, ground := Ground.phase }, { on := 12, ground := Ground.phase }], guard := none }) rfl (fun K7 hK7 => ?_) ?_
              · obtain ⟨t1, t2, t3⟩ := HZ9.out.thaw
                obtain ⟨s1, s2, s3⟩ := HZ9.out.cells
                go_simp
                clear t1 t2 t3 s1 s2 s3
                have HX9 := Lib.hid (HZ9.out.set n7 (.slice x5 l7.length y5) (.slice x6 c7.length y6))
                have HZ10 := Lib.hid (HZ10.out.other HNe.out.symm (.int .i64 n7) (.slice x5 l7.length y5) (.slice x6 c7.length y6))
                have HP5 := Lib.hid (ownB HP5.out HZ9.out (.int .i64 n7) (.slice x5 l7.length y5) (.slice x6 c7.length y6))
                have HP6 := Lib.hid (ownC HP6.out HZ9.out (.int .i64 n7) (.slice x5 l7.length y5) (.slice x6 c7.length y6))
                have HP7 := Lib.hid (ownB HP7.out HZ9.out (.int .i64 n7) (.slice x5 l7.length y5) (.slice x6 c7.length y6))
                have HP8 := Lib.hid (ownC HP8.out HZ9.out (.int .i64 n7) (.slice x5 l7.length y5) (.slice x6 c7.length y6))
                have HBu := Lib.hid (below_set3 HBu.out HL9.out (.int .i64 n7) (.slice x5 l7.length y5) (.slice x6 c7.length y6))
                obtain ⟨U, hU⟩ : ∃ X, (((U.setCell ⟨A9, 0, none⟩ (.int .i64 n7)).setCell ⟨A9, 1, none⟩ (.slice x5 l7.length y5)).setCell ⟨A9, 2, none⟩ (.slice x6 c7.length y6)) = X := ⟨_, rfl⟩
                rw [hU] at HX9 HZ10 HP5 HP6 HP7 HP8 HBu ⊢
                clear hU
                refine hK7.out _ _ (by first | exact HCs.out _ HBu.out | exact HCs.out _ (below_drew HBu.out)) (fun hHeld => ?_)
                clear hK7 K7
                try simp only [Act.put, List.setIfInBounds_toArray, List.set_cons_zero, List.set_cons_succ]
                refine wpAnyH_ready (rs := [14]) (by kernel_rfl) (by simp) ?_
                refine AllReadyH.cons (o := { dst := none, op := Op.store 25 (Operand.tmp 10) (Operand.tmp 37), type := 0, pos := "law.go:93", after := #[{ on := 12, ground := Ground.data }, { on := 9, ground := Ground.data }, { on := 13, ground := Ground.chain }, { on := 0, ground := Ground.phase }, { on := 1, ground := Ground.phase }, { on := 2, ground := Ground.phase }, { on := 3, ground := Ground.phase }, { on := 4, ground := Ground.phase }, { on := 5, ground := Ground.phase }, { on := 6, ground := Ground.phase }, { on := 7, ground := Ground.phase }, { on := 8, ground := Ground.phase }, { on := 9, ground := Ground.phase }, { on := 10, ground := Ground.textOnly Departure.lateStores }, { on := 11, ground := Ground.phase }, { on := 12, ground := Ground.phase }, { on := 13, ground := Ground.phase }], guard := none }) rfl (fun K7 hK7 => ?_) ?_
                · obtain ⟨t1, t2, t3⟩ := HZ10.out.thaw
                  obtain ⟨s1, s2, s3⟩ := HZ10.out.cells
                  go_simp
                  clear t1 t2 t3 s1 s2 s3
                  have HX10 := Lib.hid (HZ10.out.set n7 (.slice x7 l7.length y7) (.slice x8 c7.length y8))
                  have HX9 := Lib.hid (HX9.out.other HNe.out (.int .i64 n7) (.slice x7 l7.length y7) (.slice x8 c7.length y8))
                  have HP5 := Lib.hid (ownB HP5.out HZ10.out (.int .i64 n7) (.slice x7 l7.length y7) (.slice x8 c7.length y8))
                  have HP6 := Lib.hid (ownC HP6.out HZ10.out (.int .i64 n7) (.slice x7 l7.length y7) (.slice x8 c7.length y8))
                  have HP7 := Lib.hid (ownB HP7.out HZ10.out (.int .i64 n7) (.slice x7 l7.length y7) (.slice x8 c7.length y8))
                  have HP8 := Lib.hid (ownC HP8.out HZ10.out (.int .i64 n7) (.slice x7 l7.length y7) (.slice x8 c7.length y8))
                  have HBu := Lib.hid (below_set3 HBu.out HL10.out (.int .i64 n7) (.slice x7 l7.length y7) (.slice x8 c7.length y8))
                  obtain ⟨U, hU⟩ : ∃ X, (((U.setCell ⟨A10, 0, none⟩ (.int .i64 n7)).setCell ⟨A10, 1, none⟩ (.slice x7 l7.length y7)).setCell ⟨A10, 2, none⟩ (.slice x8 c7.length y8)) = X := ⟨_, rfl⟩
                  rw [hU] at HX10 HX9 HP5 HP6 HP7 HP8 HBu ⊢
                  clear hU
                  refine hK7.out _ _ (by first | exact HCs.out _ HBu.out | exact HCs.out _ (below_drew HBu.out)) (fun hHeld => ?_)
                  clear hK7 K7
                  try simp only [Act.put, List.setIfInBounds_toArray, List.set_cons_zero, List.set_cons_succ]
                  refine wpAnyH_take (i := 15) (oi := { dst := some 11, op := Op.assign (Operand.tmp 38), type := 4, pos := "law.go:93", after := #[{ on := 10, ground := Ground.data }, { on := 14, ground := Ground.chain }, { on := 0, ground := Ground.phase }, { on := 1, ground := Ground.phase }, { on := 2, ground := Ground.phase }, { on := 3, ground := Ground.phase }, { on := 4, ground := Ground.phase }, { on := 5, ground := Ground.phase }, { on := 6, ground := Ground.phase }, { on := 7, ground := Ground.phase }, { on := 8, ground := Ground.phase }, { on := 9, ground := Ground.phase }, { on := 10, ground := Ground.phase }, { on := 11, ground := Ground.phase }, { on := 12, ground := Ground.phase }, { on := 13, ground := Ground.phase }, { on := 14, ground := Ground.phase }], guard := none }) (v := ?_) rfl (by kernel_rfl) (by kernel_rfl) (by kernel_rfl) (fun _ _ _ h => h) (Or.inl ⟨by rfl, ?_⟩) hHeld ?_
                  rotate_left 1
                  · intro W hSw
                    (try dsimp only at hSw)
                    go_simp
                    try with_reducible rfl
                  try simp only [Act.put, List.setIfInBounds_toArray, List.set_cons_zero, List.set_cons_succ]
                  refine wpAnyH_done (by kernel_rfl) ?_ _
                  clear hHeld
                  --FINA
                  have HX5u := Lib.hid (HX5b.out.keep HBu.out)
                  have HX6u := Lib.hid (HX6b.out.keep HBu.out)
                  have HX8u := Lib.hid (HX8.out.keep HBu.out)
                  have HO1u := Lib.hid (HO1b.out.below HBu.out)
                  have HO2u := Lib.hid (HO2b.out.below HBu.out)
                  have HO8u := Lib.hid (HO8.out.below HBu.out)
                  have HO9u := Lib.hid (HO9.out.below HBu.out)
                  have HBt := Lib.hid (HBs.out.trans (HBu.out.mono HBs.out.size))
                  have HGf := Lib.hid (good_fit HG7.out)
                  have HNa : Hid (A10 ≠ N5 ∧ W.heap.size ≤ N5 ∧ W.heap.size ≤ N6) := Lib.hid ⟨fun e => by have := HL10.out; have := HX5b.out.lt; omega, HN5.out, by have := HN5.out; have := HN6.out; omega⟩
                  obtain ⟨k1, k2, k3⟩ := HX9.out.cells
                  obtain ⟨m1, m2, m3⟩ := HX10.out.cells
                  have M1 := Lib.hid True.intro
                  go_upto_region 12 with (first
                    | (go_at_call 8; clear M1; refine (rSame_any _ _ ⟨n7, l7, c7⟩ ⟨n7, l7, c7⟩ U ⟨_, _, rfl, HP5.out.read fc_len, HP6.out.read wc_len⟩ ⟨_, _, rfl, HP7.out.read fc_len, HP8.out.read wc_len⟩).mono ?_; rintro e w10 ⟨r, rfl, hr, hb⟩; obtain rfl : r = true := hr.2 rfl; have HB10 := Lib.hid hb; obtain ⟨g1, g2, g3⟩ := (HX8u.out.keep hb).cells; obtain ⟨h1, h2, h3⟩ := (HX5u.out.keep hb).cells; clear hr hb k1 k2 k3 m1 m2 m3; have M2 := Lib.hid True.intro)
                    | (go_at_call 8; clear M2; refine (rSame_any _ _ ⟨n, l, c'⟩ ⟨n, l, c'⟩ w10 ⟨_, _, rfl, (HO8u.out.below HB10.out).read fc_len, (HO9u.out.below HB10.out).read wc_len⟩ ⟨_, _, rfl, (HO1u.out.below HB10.out).read fc_len, (HO2u.out.below HB10.out).read wc_len⟩).mono ?_; rintro e w11 ⟨r, rfl, hr, hb⟩; obtain rfl : r = true := hr.2 rfl; have HB11 := Lib.hid (HB10.out.trans (hb.mono HB10.out.size)); obtain ⟨k1, k2, k3⟩ := (HX9.out.keep HB11.out).cells; clear hr hb g1 g2 g3 h1 h2 h3)
                    | (go_at_call 9; refine (Fit_any _ ⟨n7, l7, c7⟩ w11 ⟨_, _, rfl, (HP5.out.below HB11.out).read fc_len, (HP6.out.below HB11.out).read wc_len⟩).mono ?_; rintro e w12 ⟨rfl, hb⟩; rw [HGf.out]; have HB12 := Lib.hid (HB11.out.trans (hb.mono HB11.out.size)); clear hb k1 k2 k3))
                  have HX5v := Lib.hid (HX5u.out.keep HB12.out)
                  have HX6v := Lib.hid (HX6u.out.keep HB12.out)
                  have HX9v := Lib.hid (HX9.out.keep HB12.out)
                  have HXv := Lib.hid (HX10.out.keep HB12.out)
                  have HBv := Lib.hid (HBt.out.trans (HB12.out.mono HBt.out.size))
                  have HQ5 := Lib.hid (ownB (HP5.out.below HB12.out) HX5v.out (.int .i64 n7) (.slice x5 l7.length y5) (.slice x6 c7.length y6))
                  have HQ6 := Lib.hid (ownC (HP6.out.below HB12.out) HX5v.out (.int .i64 n7) (.slice x5 l7.length y5) (.slice x6 c7.length y6))
                  have HQ7 := Lib.hid (ownB (HP7.out.below HB12.out) HX5v.out (.int .i64 n7) (.slice x5 l7.length y5) (.slice x6 c7.length y6))
                  have HQ8 := Lib.hid (ownC (HP8.out.below HB12.out) HX5v.out (.int .i64 n7) (.slice x5 l7.length y5) (.slice x6 c7.length y6))
                  obtain ⟨k1, k2, k3⟩ := HX9v.out.cells
                  obtain ⟨g1, g2, g3⟩ := HX5v.out.cells
                  obtain ⟨f1, f2, f3⟩ := HX5v.out.thaw
                  go_upto_region 13 with fail
                  have HX5w := Lib.hid (HX5v.out.set n7 (.slice x5 l7.length y5) (.slice x6 c7.length y6))
                  have HX6w := Lib.hid (HX6v.out.other hN65 (.int .i64 n7) (.slice x5 l7.length y5) (.slice x6 c7.length y6))
                  have HXw := Lib.hid (HXv.out.other HNa.out.1 (.int .i64 n7) (.slice x5 l7.length y5) (.slice x6 c7.length y6))
                  have HBw := Lib.hid (below_set3 HBv.out HNa.out.2.1 (.int .i64 n7) (.slice x5 l7.length y5) (.slice x6 c7.length y6))
                  clear k1 k2 k3 g1 g2 g3 f1 f2 f3
                  generalize (((w12.setCell ⟨N5, 0, none⟩ (.int .i64 n7)).setCell ⟨N5, 1, none⟩ (.slice x5 l7.length y5)).setCell ⟨N5, 2, none⟩ (.slice x6 c7.length y6)) = W13 at HX5w HX6w HXw HBw HQ5 HQ6 HQ7 HQ8 ⊢
                  have HX5f := Lib.hid (HX5w.out.other hN56 (.int .i64 n7) (.slice x7 l7.length y7) (.slice x8 c7.length y8))
                  have HX6f := Lib.hid (HX6w.out.set n7 (.slice x7 l7.length y7) (.slice x8 c7.length y8))
                  have HQ5 := Lib.hid (ownB HQ5.out HX6w.out (.int .i64 n7) (.slice x7 l7.length y7) (.slice x8 c7.length y8))
                  have HQ6 := Lib.hid (ownC HQ6.out HX6w.out (.int .i64 n7) (.slice x7 l7.length y7) (.slice x8 c7.length y8))
                  have HQ7 := Lib.hid (ownB HQ7.out HX6w.out (.int .i64 n7) (.slice x7 l7.length y7) (.slice x8 c7.length y8))
                  have HQ8 := Lib.hid (ownC HQ8.out HX6w.out (.int .i64 n7) (.slice x7 l7.length y7) (.slice x8 c7.length y8))
                  have HBf := Lib.hid (below_set3 HBw.out HNa.out.2.2 (.int .i64 n7) (.slice x7 l7.length y7) (.slice x8 c7.length y8))
                  obtain ⟨k1, k2, k3⟩ := HXw.out.cells
                  obtain ⟨g1, g2, g3⟩ := HX6w.out.cells
                  obtain ⟨f1, f2, f3⟩ := HX6w.out.thaw
                  go_upto_region 7 with fail
                  clear k1 k2 k3 g1 g2 g3 f1 f2 f3
                  generalize (((W13.setCell ⟨N6, 0, none⟩ (.int .i64 n7)).setCell ⟨N6, 1, none⟩ (.slice x7 l7.length y7)).setCell ⟨N6, 2, none⟩ (.slice x8 c7.length y8)) = W14 at HX5f HX6f HQ5 HQ6 HQ7 HQ8 HBf ⊢
                  go_wp2
                  go_roundw
                  case rel => exact ⟨i + 1, ⟨n7, l7, c7⟩, _, _, _, _, by omega, by go_num, HX5f.out, HX6f.out, HQ5.out, HQ6.out, HQ7.out, HQ8.out, by rw [← HNx.out]; exact HG7.out, HBf.out⟩
                  case measure => simp [intOf]; omega
                  --FINB
                exact AllReadyH.nil
              exact AllReadyH.nil
            exact AllReadyH.nil
          refine AllReadyH.cons (o := { dst := some 9, op := Op.alloc 25, type := 0, pos := "law.go:93", after := #[], guard := none }) rfl (fun K7 hK7 => ?_) ?_
          · go_simp
            have hbn := below_new U (.cells #[.int .i64 0, .slice none 0 0, .slice none 0 0] 25)
            have HL9 := Lib.hid HBu.out.size
            (try have HNe := Lib.hid (show U.heap.size ≠ A10 from (Nat.ne_of_lt HZ10.out.lt).symm))
            have HZ9 := Lib.hid (fbox_new U 0 (.slice none 0 0) (.slice none 0 0))
            (try have HZ10 := Lib.hid (HZ10.out.keep hbn))
            (try have HP5 := Lib.hid (HP5.out.below hbn))
            (try have HP6 := Lib.hid (HP6.out.below hbn))
            (try have HP7 := Lib.hid (HP7.out.below hbn))
            (try have HP8 := Lib.hid (HP8.out.below hbn))
            have HBu := Lib.hid (HBu.out.trans (hbn.mono HBu.out.size))
            obtain ⟨A9, hA⟩ : ∃ A, U.heap.size = A := ⟨_, rfl⟩
            rw [hA] at HZ9 HL9 ⊢
            (try rw [hA] at HNe)
            obtain ⟨U, hU⟩ : ∃ X, U.alloc (.cells #[.int .i64 0, .slice none 0 0, .slice none 0 0] 25) = X := ⟨_, rfl⟩
            rw [hU] at HZ9 HBu ⊢
            (try rw [hU] at HZ10)
            (try rw [hU] at HP5)
            (try rw [hU] at HP6)
            (try rw [hU] at HP7)
            (try rw [hU] at HP8)
            clear hbn hA hU
            refine hK7.out _ _ (by first | exact HCs.out _ HBu.out | exact HCs.out _ (below_drew HBu.out)) (fun hHeld => ?_)
            clear hK7 K7
            try simp only [Act.put, List.setIfInBounds_toArray, List.set_cons_zero, List.set_cons_succ]
            refine wpAnyH_ready (rs := [6]) (by kernel_rfl) (by simp) ?_
            refine AllReadyH.cons (o := { dst := some 35, op := Op.call { callee := Callee.value (Operand.func 7), args := #[Operand.tmp 29, Operand.tmp 30, Operand.tmp 34], argTypes := #[25, 25, 34] }, type := 30, pos := "law.go:93", after := #[{ on := 0, ground := Ground.data }, { on := 1, ground := Ground.data }, { on := 5, ground := Ground.data }], guard := none }) rfl (fun K7 hK7 => ?_) ?_
            · go_simp
              refine (act_any (f := ⟨n, l, c'⟩) _ _ _ _ W.heap.size K x _ (HO1b.out.below HBu.out) (HO2b.out.below HBu.out) (HO3b.out.below HBu.out) (HO4b.out.below HBu.out) HGi.out HActb.out.1 (Nat.le_trans hWw HBu.out.size) ya yb (HActb.out.2.1.keep HBu.out) (HActb.out.2.2.1.keep HBu.out) HActb.out.2.2.2.1 HActb.out.2.2.2.2 HYab.out.1 HYab.out.2 HKi2.out).mono ?_
              rintro e U ⟨⟨n7, l7, c7⟩, vl7, vc7, vm7, vd7, he, ho5, ho6, ho7, ho8, hg7, hb7⟩
              have he : e = .returned (.tuple #[.agg #[.int .i64 n7, vl7, vc7], .agg #[.int .i64 n7, vm7, vd7], .bool true]) := he
              subst he
              simp only at ho5 ho6 ho7 ho8
              obtain ⟨x5, y5, rfl⟩ := ho5.slice
              obtain ⟨x6, y6, rfl⟩ := ho6.slice
              obtain ⟨x7, y7, rfl⟩ := ho7.slice
              obtain ⟨x8, y8, rfl⟩ := ho8.slice
              have HP5 := Lib.hid ho5
              have HP6 := Lib.hid ho6
              have HP7 := Lib.hid ho7
              have HP8 := Lib.hid ho8
              have HG7 := Lib.hid hg7
              have HBu := Lib.hid (HBu.out.trans (hb7.mono HBu.out.size))
              (try have HZ9 := Lib.hid (HZ9.out.keep hb7))
              (try have HZ10 := Lib.hid (HZ10.out.keep hb7))
              clear ho5 ho6 ho7 ho8 hg7 hb7
              try dsimp only
              refine hK7.out _ _ (by first | exact HCs.out _ HBu.out | exact HCs.out _ (below_drew HBu.out)) (fun hHeld => ?_)
              clear hK7 K7
              try simp only [Act.put, List.setIfInBounds_toArray, List.set_cons_zero, List.set_cons_succ]
              refine wpAnyH_take (i := 7) (oi := { dst := some 28, op := Op.move (Operand.tmp 35), type := 30, pos := "law.go:93", after := #[{ on := 6, ground := Ground.data }], guard := none }) (v := ?_) rfl (by kernel_rfl) (by kernel_rfl) (by kernel_rfl) (fun _ _ _ h => h) (Or.inl ⟨by rfl, ?_⟩) hHeld ?_
              rotate_left 1
              · intro W hSw
                (try dsimp only at hSw)
                go_simp
                try with_reducible rfl
              try simp only [Act.put, List.setIfInBounds_toArray, List.set_cons_zero, List.set_cons_succ]
              refine wpAnyH_take (i := 8) (oi := { dst := some 36, op := Op.extract (Operand.tmp 28) 0, type := 25, pos := "law.go:93", after := #[{ on := 7, ground := Ground.data }], guard := none }) (v := ?_) rfl (by kernel_rfl) (by kernel_rfl) (by kernel_rfl) (fun _ _ _ h => h) (Or.inl ⟨by rfl, ?_⟩) hHeld ?_
              rotate_left 1
              · intro W hSw
                (try dsimp only at hSw)
                go_simp
                try with_reducible rfl
              try simp only [Act.put, List.setIfInBounds_toArray, List.set_cons_zero, List.set_cons_succ]
              refine wpAnyH_take (i := 9) (oi := { dst := some 37, op := Op.extract (Operand.tmp 28) 1, type := 25, pos := "law.go:93", after := #[{ on := 7, ground := Ground.data }, { on := 13, ground := Ground.gcOnly Departure.lateStores }], guard := none }) (v := ?_) rfl (by kernel_rfl) (by kernel_rfl) (by kernel_rfl) (fun _ _ _ h => h) (Or.inl ⟨by rfl, ?_⟩) hHeld ?_
              rotate_left 1
              · intro W hSw
                (try dsimp only at hSw)
                go_simp
                try with_reducible rfl
              try simp only [Act.put, List.setIfInBounds_toArray, List.set_cons_zero, List.set_cons_succ]
              refine wpAnyH_take (i := 10) (oi := { dst := some 38, op := Op.extract (Operand.tmp 28) 2, type := 4, pos := "law.go:93", after := #[{ on := 7, ground := Ground.data }, { on := 14, ground := Ground.gcOnly Departure.lateStores }], guard := none }) (v := ?_) rfl (by kernel_rfl) (by kernel_rfl) (by kernel_rfl) (fun _ _ _ h => h) (Or.inl ⟨by rfl, ?_⟩) hHeld ?_
              rotate_left 1
              · intro W hSw
                (try dsimp only at hSw)
                go_simp
                try with_reducible rfl
              try simp only [Act.put, List.setIfInBounds_toArray, List.set_cons_zero, List.set_cons_succ]
              refine wpAnyH_ready (rs := [13]) (by kernel_rfl) (by simp) ?_
              refine AllReadyH.cons (o := { dst := none, op := Op.store 25 (Operand.tmp 9) (Operand.tmp 36), type := 0, pos := "law.go:93", after := #[{ on := 11, ground := Ground.data }, { on := 8, ground := Ground.data }, { on := 6, ground := Ground.chain }, { on := 0, ground := Ground.phase }, { on := 1, ground := Ground.phase }, { on := 2, ground := Ground.phase }, { on := 3, ground := Ground.phase }, { on := 4, ground := Ground.phase }, { on := 5, ground := Ground.phase }, { on := 6, ground := Ground.phase }, { on := 7, ground := Ground.phase }, { on := 8, ground := Ground.phase }, { on := 9, ground := Ground.textOnly Departure.lateStores }, { on := 10, ground := Ground.textOnly Departure.lateStores }, { on := 11, ground := Ground.phase }, { on := 12, ground := Ground.phase }], guard := none }) rfl (fun K7 hK7 => ?_) ?_
              · obtain ⟨t1, t2, t3⟩ := HZ9.out.thaw
                obtain ⟨s1, s2, s3⟩ := HZ9.out.cells
                go_simp
                clear t1 t2 t3 s1 s2 s3
                have HX9 := Lib.hid (HZ9.out.set n7 (.slice x5 l7.length y5) (.slice x6 c7.length y6))
                have HZ10 := Lib.hid (HZ10.out.other HNe.out.symm (.int .i64 n7) (.slice x5 l7.length y5) (.slice x6 c7.length y6))
                have HP5 := Lib.hid (ownB HP5.out HZ9.out (.int .i64 n7) (.slice x5 l7.length y5) (.slice x6 c7.length y6))
                have HP6 := Lib.hid (ownC HP6.out HZ9.out (.int .i64 n7) (.slice x5 l7.length y5) (.slice x6 c7.length y6))
                have HP7 := Lib.hid (ownB HP7.out HZ9.out (.int .i64 n7) (.slice x5 l7.length y5) (.slice x6 c7.length y6))
                have HP8 := Lib.hid (ownC HP8.out HZ9.out (.int .i64 n7) (.slice x5 l7.length y5) (.slice x6 c7.length y6))
                have HBu := Lib.hid (below_set3 HBu.out HL9.out (.int .i64 n7) (.slice x5 l7.length y5) (.slice x6 c7.length y6))
                obtain ⟨U, hU⟩ : ∃ X, (((U.setCell ⟨A9, 0, none⟩ (.int .i64 n7)).setCell ⟨A9, 1, none⟩ (.slice x5 l7.length y5)).setCell ⟨A9, 2, none⟩ (.slice x6 c7.length y6)) = X := ⟨_, rfl⟩
                rw [hU] at HX9 HZ10 HP5 HP6 HP7 HP8 HBu ⊢
                clear hU
                refine hK7.out _ _ (by first | exact HCs.out _ HBu.out | exact HCs.out _ (below_drew HBu.out)) (fun hHeld => ?_)
                clear hK7 K7
                try simp only [Act.put, List.setIfInBounds_toArray, List.set_cons_zero, List.set_cons_succ]
                refine wpAnyH_ready (rs := [14]) (by kernel_rfl) (by simp) ?_
                refine AllReadyH.cons (o := { dst := none, op := Op.store 25 (Operand.tmp 10) (Operand.tmp 37), type := 0, pos := "law.go:93", after := #[{ on := 12, ground := Ground.data }, { on := 9, ground := Ground.data }, { on := 13, ground := Ground.chain }, { on := 0, ground := Ground.phase }, { on := 1, ground := Ground.phase }, { on := 2, ground := Ground.phase }, { on := 3, ground := Ground.phase }, { on := 4, ground := Ground.phase }, { on := 5, ground := Ground.phase }, { on := 6, ground := Ground.phase }, { on := 7, ground := Ground.phase }, { on := 8, ground := Ground.phase }, { on := 9, ground := Ground.phase }, { on := 10, ground := Ground.textOnly Departure.lateStores }, { on := 11, ground := Ground.phase }, { on := 12, ground := Ground.phase }, { on := 13, ground := Ground.phase }], guard := none }) rfl (fun K7 hK7 => ?_) ?_
                · obtain ⟨t1, t2, t3⟩ := HZ10.out.thaw
                  obtain ⟨s1, s2, s3⟩ := HZ10.out.cells
                  go_simp
                  clear t1 t2 t3 s1 s2 s3
                  have HX10 := Lib.hid (HZ10.out.set n7 (.slice x7 l7.length y7) (.slice x8 c7.length y8))
                  have HX9 := Lib.hid (HX9.out.other HNe.out (.int .i64 n7) (.slice x7 l7.length y7) (.slice x8 c7.length y8))
                  have HP5 := Lib.hid (ownB HP5.out HZ10.out (.int .i64 n7) (.slice x7 l7.length y7) (.slice x8 c7.length y8))
                  have HP6 := Lib.hid (ownC HP6.out HZ10.out (.int .i64 n7) (.slice x7 l7.length y7) (.slice x8 c7.length y8))
                  have HP7 := Lib.hid (ownB HP7.out HZ10.out (.int .i64 n7) (.slice x7 l7.length y7) (.slice x8 c7.length y8))
                  have HP8 := Lib.hid (ownC HP8.out HZ10.out (.int .i64 n7) (.slice x7 l7.length y7) (.slice x8 c7.length y8))
                  have HBu := Lib.hid (below_set3 HBu.out HL10.out (.int .i64 n7) (.slice x7 l7.length y7) (.slice x8 c7.length y8))
                  obtain ⟨U, hU⟩ : ∃ X, (((U.setCell ⟨A10, 0, none⟩ (.int .i64 n7)).setCell ⟨A10, 1, none⟩ (.slice x7 l7.length y7)).setCell ⟨A10, 2, none⟩ (.slice x8 c7.length y8)) = X := ⟨_, rfl⟩
                  rw [hU] at HX10 HX9 HP5 HP6 HP7 HP8 HBu ⊢
                  clear hU
                  refine hK7.out _ _ (by first | exact HCs.out _ HBu.out | exact HCs.out _ (below_drew HBu.out)) (fun hHeld => ?_)
                  clear hK7 K7
                  try simp only [Act.put, List.setIfInBounds_toArray, List.set_cons_zero, List.set_cons_succ]
                  refine wpAnyH_take (i := 15) (oi := { dst := some 11, op := Op.assign (Operand.tmp 38), type := 4, pos := "law.go:93", after := #[{ on := 10, ground := Ground.data }, { on := 14, ground := Ground.chain }, { on := 0, ground := Ground.phase }, { on := 1, ground := Ground.phase }, { on := 2, ground := Ground.phase }, { on := 3, ground := Ground.phase }, { on := 4, ground := Ground.phase }, { on := 5, ground := Ground.phase }, { on := 6, ground := Ground.phase }, { on := 7, ground := Ground.phase }, { on := 8, ground := Ground.phase }, { on := 9, ground := Ground.phase }, { on := 10, ground := Ground.phase }, { on := 11, ground := Ground.phase }, { on := 12, ground := Ground.phase }, { on := 13, ground := Ground.phase }, { on := 14, ground := Ground.phase }], guard := none }) (v := ?_) rfl (by kernel_rfl) (by kernel_rfl) (by kernel_rfl) (fun _ _ _ h => h) (Or.inl ⟨by rfl, ?_⟩) hHeld ?_
                  rotate_left 1
                  · intro W hSw
                    (try dsimp only at hSw)
                    go_simp
                    try with_reducible rfl
                  try simp only [Act.put, List.setIfInBounds_toArray, List.set_cons_zero, List.set_cons_succ]
                  refine wpAnyH_done (by kernel_rfl) ?_ _
                  clear hHeld
                  --FINA
                  have HX5u := Lib.hid (HX5b.out.keep HBu.out)
                  have HX6u := Lib.hid (HX6b.out.keep HBu.out)
                  have HX8u := Lib.hid (HX8.out.keep HBu.out)
                  have HO1u := Lib.hid (HO1b.out.below HBu.out)
                  have HO2u := Lib.hid (HO2b.out.below HBu.out)
                  have HO8u := Lib.hid (HO8.out.below HBu.out)
                  have HO9u := Lib.hid (HO9.out.below HBu.out)
                  have HBt := Lib.hid (HBs.out.trans (HBu.out.mono HBs.out.size))
                  have HGf := Lib.hid (good_fit HG7.out)
                  have HNa : Hid (A10 ≠ N5 ∧ W.heap.size ≤ N5 ∧ W.heap.size ≤ N6) := Lib.hid ⟨fun e => by have := HL10.out; have := HX5b.out.lt; omega, HN5.out, by have := HN5.out; have := HN6.out; omega⟩
                  obtain ⟨k1, k2, k3⟩ := HX9.out.cells
                  obtain ⟨m1, m2, m3⟩ := HX10.out.cells
                  have M1 := Lib.hid True.intro
                  go_upto_region 12 with (first
                    | (go_at_call 8; clear M1; refine (rSame_any _ _ ⟨n7, l7, c7⟩ ⟨n7, l7, c7⟩ U ⟨_, _, rfl, HP5.out.read fc_len, HP6.out.read wc_len⟩ ⟨_, _, rfl, HP7.out.read fc_len, HP8.out.read wc_len⟩).mono ?_; rintro e w10 ⟨r, rfl, hr, hb⟩; obtain rfl : r = true := hr.2 rfl; have HB10 := Lib.hid hb; obtain ⟨g1, g2, g3⟩ := (HX8u.out.keep hb).cells; obtain ⟨h1, h2, h3⟩ := (HX5u.out.keep hb).cells; clear hr hb k1 k2 k3 m1 m2 m3; have M2 := Lib.hid True.intro)
                    | (go_at_call 8; clear M2; refine (rSame_any _ _ ⟨n, l, c'⟩ ⟨n, l, c'⟩ w10 ⟨_, _, rfl, (HO8u.out.below HB10.out).read fc_len, (HO9u.out.below HB10.out).read wc_len⟩ ⟨_, _, rfl, (HO1u.out.below HB10.out).read fc_len, (HO2u.out.below HB10.out).read wc_len⟩).mono ?_; rintro e w11 ⟨r, rfl, hr, hb⟩; obtain rfl : r = true := hr.2 rfl; have HB11 := Lib.hid (HB10.out.trans (hb.mono HB10.out.size)); obtain ⟨k1, k2, k3⟩ := (HX9.out.keep HB11.out).cells; clear hr hb g1 g2 g3 h1 h2 h3)
                    | (go_at_call 9; refine (Fit_any _ ⟨n7, l7, c7⟩ w11 ⟨_, _, rfl, (HP5.out.below HB11.out).read fc_len, (HP6.out.below HB11.out).read wc_len⟩).mono ?_; rintro e w12 ⟨rfl, hb⟩; rw [HGf.out]; have HB12 := Lib.hid (HB11.out.trans (hb.mono HB11.out.size)); clear hb k1 k2 k3))
                  have HX5v := Lib.hid (HX5u.out.keep HB12.out)
                  have HX6v := Lib.hid (HX6u.out.keep HB12.out)
                  have HX9v := Lib.hid (HX9.out.keep HB12.out)
                  have HXv := Lib.hid (HX10.out.keep HB12.out)
                  have HBv := Lib.hid (HBt.out.trans (HB12.out.mono HBt.out.size))
                  have HQ5 := Lib.hid (ownB (HP5.out.below HB12.out) HX5v.out (.int .i64 n7) (.slice x5 l7.length y5) (.slice x6 c7.length y6))
                  have HQ6 := Lib.hid (ownC (HP6.out.below HB12.out) HX5v.out (.int .i64 n7) (.slice x5 l7.length y5) (.slice x6 c7.length y6))
                  have HQ7 := Lib.hid (ownB (HP7.out.below HB12.out) HX5v.out (.int .i64 n7) (.slice x5 l7.length y5) (.slice x6 c7.length y6))
                  have HQ8 := Lib.hid (ownC (HP8.out.below HB12.out) HX5v.out (.int .i64 n7) (.slice x5 l7.length y5) (.slice x6 c7.length y6))
                  obtain ⟨k1, k2, k3⟩ := HX9v.out.cells
                  obtain ⟨g1, g2, g3⟩ := HX5v.out.cells
                  obtain ⟨f1, f2, f3⟩ := HX5v.out.thaw
                  go_upto_region 13 with fail
                  have HX5w := Lib.hid (HX5v.out.set n7 (.slice x5 l7.length y5) (.slice x6 c7.length y6))
                  have HX6w := Lib.hid (HX6v.out.other hN65 (.int .i64 n7) (.slice x5 l7.length y5) (.slice x6 c7.length y6))
                  have HXw := Lib.hid (HXv.out.other HNa.out.1 (.int .i64 n7) (.slice x5 l7.length y5) (.slice x6 c7.length y6))
                  have HBw := Lib.hid (below_set3 HBv.out HNa.out.2.1 (.int .i64 n7) (.slice x5 l7.length y5) (.slice x6 c7.length y6))
                  clear k1 k2 k3 g1 g2 g3 f1 f2 f3
                  generalize (((w12.setCell ⟨N5, 0, none⟩ (.int .i64 n7)).setCell ⟨N5, 1, none⟩ (.slice x5 l7.length y5)).setCell ⟨N5, 2, none⟩ (.slice x6 c7.length y6)) = W13 at HX5w HX6w HXw HBw HQ5 HQ6 HQ7 HQ8 ⊢
                  have HX5f := Lib.hid (HX5w.out.other hN56 (.int .i64 n7) (.slice x7 l7.length y7) (.slice x8 c7.length y8))
                  have HX6f := Lib.hid (HX6w.out.set n7 (.slice x7 l7.length y7) (.slice x8 c7.length y8))
                  have HQ5 := Lib.hid (ownB HQ5.out HX6w.out (.int .i64 n7) (.slice x7 l7.length y7) (.slice x8 c7.length y8))
                  have HQ6 := Lib.hid (ownC HQ6.out HX6w.out (.int .i64 n7) (.slice x7 l7.length y7) (.slice x8 c7.length y8))
                  have HQ7 := Lib.hid (ownB HQ7.out HX6w.out (.int .i64 n7) (.slice x7 l7.length y7) (.slice x8 c7.length y8))
                  have HQ8 := Lib.hid (ownC HQ8.out HX6w.out (.int .i64 n7) (.slice x7 l7.length y7) (.slice x8 c7.length y8))
                  have HBf := Lib.hid (below_set3 HBw.out HNa.out.2.2 (.int .i64 n7) (.slice x7 l7.length y7) (.slice x8 c7.length y8))
                  obtain ⟨k1, k2, k3⟩ := HXw.out.cells
                  obtain ⟨g1, g2, g3⟩ := HX6w.out.cells
                  obtain ⟨f1, f2, f3⟩ := HX6w.out.thaw
                  go_upto_region 7 with fail
                  clear k1 k2 k3 g1 g2 g3 f1 f2 f3
                  generalize (((W13.setCell ⟨N6, 0, none⟩ (.int .i64 n7)).setCell ⟨N6, 1, none⟩ (.slice x7 l7.length y7)).setCell ⟨N6, 2, none⟩ (.slice x8 c7.length y8)) = W14 at HX5f HX6f HQ5 HQ6 HQ7 HQ8 HBf ⊢
                  go_wp2
                  go_roundw
                  case rel => exact ⟨i + 1, ⟨n7, l7, c7⟩, _, _, _, _, by omega, by go_num, HX5f.out, HX6f.out, HQ5.out, HQ6.out, HQ7.out, HQ8.out, by rw [← HNx.out]; exact HG7.out, HBf.out⟩
                  case measure => simp [intOf]; omega
                  --FINB
                exact AllReadyH.nil
              exact AllReadyH.nil
            exact AllReadyH.nil
          exact AllReadyH.nil
        exact AllReadyH.nil
      · obtain rfl : i = La := by omega
        have HB9 := Lib.hid (HB.out.trans (HBr.out.mono HB.out.size))
        clear HX5 HX6 HO1 HO2 HO3 HO4 HGi HBr
        go_wp2_with (go_at_call 5; refine (awake_any _).mono ?_; rintro e w6 ⟨rfl, hb⟩; have HBe := Lib.hid (HB9.out.trans (hb.mono HB9.out.size)); clear hb)
        go_ret
        exact ⟨rfl, HBe.out⟩

set_option maxRecDepth 100000 in
theorem liftedPlays (os : Os) (started : os.Started) (H : Type) (enc : TypeId × Value → H) (F : Stop.Interp) :
    ReturnsInHanded {} Tryz.checked os 3 .any ((Rows.OpenSpec.upto Rows.flightPlaysSpec).pre6 enc Tryz.prog Tryz.f3 Rows.flightPlaysUptoRow.domain false) (((Rows.OpenSpec.upto Rows.flightPlaysSpec).at F).post enc Tryz.prog Tryz.f3 false true false false) := by
  refine lawUpto (C := Tryz.checked) (s := Rows.flightPlaysSpec) ownKn started (by kernel_rfl) Tryz.func3
    (OpenSpec.witness (enc := enc) (C := Tryz.checked) (s := Rows.OpenSpec.upto Rows.flightPlaysSpec) (k := Rows.uptoSmall) rfl false ⟨#[], #[.agg #[.int .i64 0, .slice none 0 0, .slice none 0 0], .slice none 0 0], []⟩ 8 (by kernel_rfl) (by kernel_rfl) (by kernel_rfl)
      (x := ([.agg [.lit (.int .i64 0), .nil, .nil], .nil], [], [])) (by kernel_rfl) rfl (by kernel_rfl)) laidOut (by kernel_rfl) 4 Tryz.underlying4 (by kernel_rfl) rfl ?_ ?_
  · intro ds hd
    match ds, hd with
    | [_, _], _ => rfl
  · intro W base args ds ps hg hb
    have hA : DataW.TrodAll enc Tryz.prog W 0 (fun _ => true) true Tryz.f3.params.toList args.toList ds ps := hg.read
    have hval : ∀ (j : Nat) t v, Tryz.f3.params[j]? = some t → args[j]? = some v → Value.okWide Tryz.prog W .any base t v := hg.ok
    have hz : (DataW.weightsEach Tryz.prog Tryz.f3.params.toList ds).all (· ≤ reachBytes) = true := hg.sized
    rw [Tryz.params3] at hA hval hz
    obtain ⟨v0, vs0, d0, ds0, p0, q0, hargs, rfl, rfl, h0, r0⟩ := trodAll_cons hA
    obtain ⟨v1, vs1, d1, ds1, p1, q1, rfl, rfl, rfl, h1, r1⟩ := trodAll_cons r0
    obtain ⟨rfl, rfl, rfl⟩ := trodAll_nil r1
    obtain rfl : args = #[v0, v1] := by cases args; simp_all
    obtain ⟨f, hf, -, ho1, ho2, -, -⟩ := flt_open (hval 0 25 v0 rfl rfl) h0 (weight hz (j := 0) rfl rfl)
    obtain ⟨acts, ha, hia, hba⟩ := actl_open (hval 1 26 v1 rfl rfl) h1
    obtain ⟨vl, vc, hv0, -, hc⟩ := id hf
    obtain ⟨ax, cx, hvc⟩ := hc.slice
    rw [hv0, hvc] at h0
    have hbf := flt_bulk h0
    simp only [Rows.uptoBulkAll] at hb
    exact walkPlays v0 v1 f acts W hf ho1 ho2 ha hia (by omega)

theorem plays_holds : Rows.FlightPlaysUptoSaid :=
  OpenClaim.holds_of_cond 3 Tryz.f3 rfl rfl rfl rfl rfl rfl rfl ⟨rfl, rfl, rfl, rfl, rfl⟩ rfl rfl rfl rfl rfl (by kernel_rfl) Tryz.func3 (by kernel_rfl)
    (of_decide_eq_true (by kernel_rfl)) (by unfold Func.isWrapper; first | (rw [if_pos (by decide +kernel)]; kernel_rfl) | (rw [if_neg (by decide +kernel)]; exact ⟨rfl, rfl⟩))
    (fun os started H enc _ F => liftedPlays os started H enc F)

#print axioms plays_holds
end Go.Proofs.YtalnmbfmfeaohaaGreat.flight
