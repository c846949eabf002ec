/- The document's Isolate. -/
import Derived.Test.YtalnmbfmfeaohaaGreatRows
import Derived.Test.YtalnmbfmfeaohaaGreatFlightRCut
import Derived.Test.YtalnmbfmfeaohaaGreatFlightGood
namespace Go.Proofs.YtalnmbfmfeaohaaGreat.flight
open Go.RowKit
open Go.Proofs.YtalnmbfmfeaohaaGreat.kit Go.Proofs.YtalnmbfmfeaohaaGreat.own
set_option linter.unusedVariables false
set_option linter.unusedSimpArgs false

theorem own_cap {α : Type} {enc : α → List Value} {k e B : Nat} {w : World} {ax : Option Addr} {m cx : Nat} {xs : List α} (h : Own enc k e w B (.slice ax m cx) xs) : m ≤ cx := by
  rcases h.at with ⟨h, h2⟩ | ⟨g, cap, h, _, hat⟩
  · cases h; exact Nat.le_refl _
  · cases h; exact hat.le
/-- The document's Cut of a good flight. -/
theorem rCut_good {f : Flt} {K : Nat} (vl vc : Value) (a b : Int) (w : World) (B : Nat) (hl : Own fc 4 38 w B vl f.list) (hc : Own wc 2 40 w B vc f.cut) (hG : Good f K) (hK : (K + 1) * 16 ≤ 140737488355328) :
    Calls Tryz.prog 21 #[.agg #[.int .i64 f.next, vl, vc], .int .i64 a, .int .i64 b] w (TwoS w (cutE f a b) ((f.list.length : Int) - (cutE f a b).list.length)) := by
  refine (rCut_any _ f a b w ⟨vl, vc, rfl, hl.read fc_len, hc.read wc_len⟩ (by have := hG.len; omega) (by have := hG.cl; omega) (fun vn vl' ax m cx he => ?_)).mono ?_
  · obtain ⟨_, _, rfl⟩ : f.next = f.next ∧ vl = vl' ∧ vc = .slice ax m cx := by simp at he; exact ⟨rfl, he.2.1, he.2.2⟩
    exact own_cap hc
  · intro e w' h
    rw [rcut_eq hG] at h
    exact h
theorem cell_stay {w u : World} {b o : Nat} {v : Value} (h : w.cell? ⟨b, o, none⟩ = some v) (hb : Below w.heap.size w u) (hlt : b < w.heap.size) : u.cell? ⟨b, o, none⟩ = some v := by
  rw [← h]
  simp only [World.cell?, hb.block b hlt]
theorem sub_len (f : Flt) (S : List Wy) : (secE f S).list.length ≤ f.list.length := List.length_filter_le ..
theorem int_at {w : World} {ax : Option Addr} {L cx : Nat} {xs : List Int} (h : Sl ic 1 w (.slice ax L cx) xs) (hL : xs.length = L) (hp : 0 < L) : ∃ b off, ax = some (⟨b, off, none⟩ : Addr) ∧ b < w.heap.size ∧ ∀ j (hj : j < xs.length), w.cell? ⟨b, off + j, none⟩ = some (.int .i64 xs[j]) := by
  obtain ⟨_, a', c', he, -, hc0⟩ := h
  obtain ⟨b, off, ha, hb, hc⟩ := hc0 (by omega)
  cases he
  clear hL
  refine ⟨b, off, ha, hb, fun j hj => ?_⟩
  have := icell_at (hc j hj)
  rwa [Nat.mul_one] at this

set_option maxHeartbeats 16000000 in
set_option maxRecDepth 100000 in
theorem rIsolate_any (v va vb : Value) (f : Flt) (K : Nat) (a b : List Int) (w : World) (h : FlR w v f) (hG : Good f K) (ha : Sl ic 1 w va a) (hb' : Sl ic 1 w vb b) (hoa : ∀ z ∈ a, I64 z) (hob : ∀ z ∈ b, I64 z)
    (hla : a.length * 8 ≤ 140737488355328) (hlb : b.length * 8 ≤ 140737488355328) (hl : (K + 2 * (a.length * b.length) + 2) * 16 ≤ 140737488355328) :
    Calls Tryz.prog 27 #[v, va, vb] w (TwoS w (isoE f a b) ((f.list.length : Int) - ((isoE f a b).list.length : Nat))) := by
  obtain ⟨vl, vc, rfl, hll, hc⟩ := id h
  have hb1 := below_new w (.cells #[.int .i64 f.next, vl, vc] 25)
  have hb2 := below_new (w.alloc (.cells #[.int .i64 f.next, vl, vc] 25)) (.cells #[.int .i64 0, .slice none 0 0, .slice none 0 0] 25)
  have hx1 := (fbox_new w f.next vl vc).keep hb2
  have hx2 := fbox_new (w.alloc (.cells #[.int .i64 f.next, vl, vc] 25)) 0 (.slice none 0 0) (.slice none 0 0)
  rw [World.size_alloc] at hx2
  have hb := hb1.trans (hb2.mono (by simp))
  have HFl := Lib.hid (h.keep hb); have HSa := Lib.hid (ha.keep hb); have HSb := Lib.hid (hb'.keep hb)
  have HX1 := Lib.hid hx1; have HX2 := Lib.hid hx2; have HB := Lib.hid hb; have HG := Lib.hid hG; have HLn := Lib.hid hl; have HLa := Lib.hid hla; have HLb := Lib.hid hlb
  have HOa := Lib.hid hoa; have HOb := Lib.hid hob
  obtain ⟨aa, ca, rfl⟩ := ha.slice
  obtain ⟨ab, cb, rfl⟩ := hb'.slice
  obtain ⟨La, hLa⟩ : ∃ L, a.length = L := ⟨_, rfl⟩
  obtain ⟨Lb, hLb⟩ : ∃ L, b.length = L := ⟨_, rfl⟩
  have HA := Lib.hid hLa; have HBl := Lib.hid hLb
  rw [hLa] at HSa HLn HLa ⊢
  rw [hLb] at HSb HLn HLb ⊢
  have hla63 : La ≤ 17592186044416 := by have := HLa.out; omega
  have hlb63 : Lb ≤ 17592186044416 := by have := HLb.out; omega
  clear hll hc hb1 hb2 hx1 hx2 hb h hG ha hb' hoa hob hla hlb hl hLa hLb
  obtain ⟨n, l, c⟩ := f
  simp only at HX1 HX2 HB HFl HG ⊢
  obtain ⟨L, hL⟩ : ∃ L, l.length = L := ⟨_, rfl⟩
  have HL := Lib.hid hL
  have hL63 : L ≤ 65536 := by have := HG.out.len; simp only at this; omega
  rw [hL]
  clear hL
  go_enter Tryz.func27, Tryz.ntmps27
  go_upto_region 1 with fail
  generalize (w.alloc (.cells #[.int .i64 n, _, _] 25)).alloc _ = W at HFl HSa HSb HX1 HX2 HB ⊢
  generalize hN2 : w.heap.size + 1 = N2 at HX2 ⊢
  obtain ⟨N, hN⟩ : ∃ N, w.heap.size = N := ⟨_, rfl⟩
  rw [hN] at HX1 ⊢
  have HN := Lib.hid (And.intro hN hN2)
  clear hN hN2
  obtain ⟨e1, e2, e3⟩ := HX1.out.cells
  go_wp2_with fail
  refine (rCopy_any _ ⟨n, l, c⟩ W HFl.out (by have := HG.out.len; simp only at this ⊢; omega) (by have := HG.out.cl; have := HLn.out; simp only at *; omega)).mono ?_
  rintro e w1 ⟨vl1, vc1, rfl, ho1, ho2, hb1⟩
  simp only at ho1 ho2 ⊢
  obtain ⟨a1, c1, rfl⟩ := ho1.slice
  obtain ⟨a2, c2, rfl⟩ := ho2.slice
  have hb3 := below_new w1 (.cells #[.int .i64 n, .slice a1 l.length c1, .slice a2 c.length c2] 25)
  have hbb := hb1.trans (hb3.mono hb1.size)
  have HX3 := Lib.hid (fbox_new w1 n (.slice a1 l.length c1) (.slice a2 c.length c2))
  have HNe : Hid (∀ z : Value, z.ownBlock = some w1.heap.size → False) ∨ True := .inr trivial
  have HO1 := Lib.hid (ho1.below hb3); have HO2 := Lib.hid (ho2.below hb3)
  have HBk1 := Lib.hid ho1.blk; have HBk2 := Lib.hid ho2.blk
  have HBW := Lib.hid hbb
  have HSz := Lib.hid hb1.size
  clear ho1 ho2 hb1 hb3 hbb e1 e2 e3 HNe
  go_upto_region 2 with fail
  generalize (w1.alloc (.cells #[.int .i64 n, .slice a1 l.length c1, .slice a2 c.length c2] 25)) = W1 at HX3 HO1 HO2 HBW ⊢
  generalize w1.heap.size = N3 at HX3 HBk1 HBk2 HSz ⊢
  have HNN := Lib.hid (show N2 < N3 ∧ w.heap.size ≤ N2 ∧ w.heap.size ≤ W.heap.size ∧ W.heap.size ≤ N3 ∧ N2 < W.heap.size from ⟨by have := HX2.out.lt; have := HSz.out; omega, by have := HN.out; omega, HB.out.size, HSz.out, HX2.out.lt⟩)
  clear HSz HX1 HFl
  have hd2 : ¬ N2 = N3 := by have := HNN.out; omega
  go_wp2
  go_loopw [9, 10] (fun v9 v10 wr => ∃ (i : Nat) (vl' vc' : Value), i ≤ La ∧ v10 = .int .i64 i ∧ v9 = .int .i64 ((L : Int) - ((secE ⟨n, l, c⟩ (allW a b i)).list.length : Nat)) ∧ FBox wr N3 n vl' vc' ∧ Own fc 4 38 wr W.heap.size vl' (secE ⟨n, l, c⟩ (allW a b i)).list ∧ Own wc 2 40 wr W.heap.size vc' (secE ⟨n, l, c⟩ (allW a b i)).cut ∧ Good (secE ⟨n, l, c⟩ (allW a b i)) (K + 2 * (i * Lb)) ∧ Below W.heap.size W wr) (fun _ v10 _ => La - (intOf v10).toNat)
  case atStart =>
    have e : secE ⟨n, l, c⟩ (allW a b 0) = ⟨n, l, c⟩ := secE_nil HG.out
    refine ⟨0, _, _, Nat.zero_le _, rfl, ?_, HX3.out, by rw [e]; exact HO1.out, by rw [e]; exact HO2.out, by rw [e]; simpa using HG.out, HBW.out⟩
    rw [e]
    simp [HL.out]
  case round =>
    obtain ⟨i, vl', vc', hi, rfl, rfl, hx3, ho1, ho2, hg, hb⟩ := hrel
    obtain ⟨p1, q1, rfl⟩ := ho1.slice
    obtain ⟨p2, q2, rfl⟩ := ho2.slice
    obtain ⟨g, hge⟩ : ∃ g, secE ⟨n, l, c⟩ (allW a b i) = g := ⟨_, rfl⟩
    have HGe := Lib.hid hge
    rw [hge] at hx3 ho1 ho2 hg ⊢
    obtain ⟨gn, gl, gc⟩ := g
    obtain rfl : n = gn := congrArg Flt.next hge
    simp only at hx3 ho1 ho2 ⊢
    have HX3 := Lib.hid hx3; have HO1 := Lib.hid ho1; have HO2 := Lib.hid ho2; have HGi := Lib.hid hg; have HBr := Lib.hid hb
    clear hx3 ho1 ho2 hg hb hge HBW
    by_cases hlt : i < La
    · have hlt' : (i : Int) < La := by omega
      have hi0 : (0 : Int) ≤ i := by omega
      have hia : i < a.length := by rw [HA.out]; exact hlt
      obtain ⟨x, hx⟩ : ∃ x, a[i] = x := ⟨_, rfl⟩
      have HXi := Lib.hid (show ∃ (h : i < a.length), a[i] = x from ⟨hia, hx⟩)
      clear hia hx
      go_wp2_with fail
      go_loopw [9, 11] (fun v9 v11 wr2 => ∃ (k : Nat) (vl' vc' : Value), k ≤ Lb ∧ v11 = .int .i64 k ∧ v9 = .int .i64 ((L : Int) - ((secE ⟨n, l, c⟩ (allW a b i ++ rowW x b k)).list.length : Nat)) ∧ FBox wr2 N3 n vl' vc' ∧ Own fc 4 38 wr2 W.heap.size vl' (secE ⟨n, l, c⟩ (allW a b i ++ rowW x b k)).list ∧ Own wc 2 40 wr2 W.heap.size vc' (secE ⟨n, l, c⟩ (allW a b i ++ rowW x b k)).cut ∧ Good (secE ⟨n, l, c⟩ (allW a b i ++ rowW x b k)) (K + 2 * (i * Lb + k)) ∧ Below W.heap.size W wr2) (fun _ v11 _ => Lb - (intOf v11).toNat)
      case atStart =>
        have e : allW a b i ++ rowW x b 0 = allW a b i := by simp [rowW]
        refine ⟨0, _, _, Nat.zero_le _, rfl, ?_, HX3.out, by rw [e, HGe.out]; exact HO1.out, by rw [e, HGe.out]; exact HO2.out, by rw [e, HGe.out]; exact HGi.out, HBr.out⟩
        rw [e, HGe.out]
      case round =>
        obtain ⟨k, vl', vc', hk, rfl, rfl, hx3, ho1, ho2, hg, hb⟩ := hrel
        obtain ⟨p3, q3, rfl⟩ := ho1.slice
        obtain ⟨p4, q4, rfl⟩ := ho2.slice
        obtain ⟨h0, hhe⟩ : ∃ g, secE ⟨n, l, c⟩ (allW a b i ++ rowW x b k) = g := ⟨_, rfl⟩
        have HHe := Lib.hid hhe
        rw [hhe] at hx3 ho1 ho2 hg ⊢
        obtain ⟨hn0, l0, c0⟩ := h0
        obtain rfl : n = hn0 := congrArg Flt.next hhe
        simp only at hx3 ho1 ho2 ⊢
        clear HX3 HO1 HO2 HBr hhe
        have HX3 := Lib.hid hx3; have HO1 := Lib.hid ho1; have HO2 := Lib.hid ho2; have HGk := Lib.hid hg; have HBr := Lib.hid hb
        have hl0 : l0.length ≤ L := by have := sub_len ⟨n, l, c⟩ (allW a b i ++ rowW x b k); rw [HHe.out, HL.out] at this; exact this
        clear hx3 ho1 ho2 hg hb
        by_cases hlt2 : k < Lb
        · have hlt2' : (k : Int) < Lb := by omega
          have hk0 : (0 : Int) ≤ k := by omega
          have hkb : k < b.length := by rw [HBl.out]; exact hlt2
          obtain ⟨y, hy⟩ : ∃ y, b[k] = y := ⟨_, rfl⟩
          obtain ⟨bka, offa, rfl, hbka, hca⟩ := int_at (HSa.out.keep HBr.out) HA.out (by omega)
          obtain ⟨bkb, offb, rfl, hbkb, hcb⟩ := int_at (HSb.out.keep HBr.out) HBl.out (by omega)
          obtain ⟨hia, hax⟩ := HXi.out
          have hxc := hca i hia
          have hyc := hcb k hkb
          rw [hax] at hxc
          rw [hy] at hyc
          have HXY := Lib.hid (show I64 x ∧ I64 y from ⟨hax ▸ HOa.out _ (List.getElem_mem hia), hy ▸ HOb.out _ (List.getElem_mem hkb)⟩)
          have HRow := Lib.hid (show rowW x b (k + 1) = rowW x b k ++ pairW x y by rw [rowW_succ _ _ _ hkb, hy])
          clear hca hcb hax hia hkb hy
          have HCs : Hid (∀ u, Below wr.heap.size wr u → u.cell? ⟨N3, 0, none⟩ = some (.int .i64 n) ∧ u.cell? ⟨N3, 1, none⟩ = some (.slice p3 l0.length q3) ∧ u.cell? ⟨N3, 2, none⟩ = some (.slice p4 c0.length q4) ∧ u.cell? ⟨bka, offa + i, none⟩ = some (.int .i64 x) ∧ u.cell? ⟨bkb, offb + k, none⟩ = some (.int .i64 y)) := Lib.hid (fun u hu => by
            obtain ⟨m1, m2, m3⟩ := (HX3.out.keep hu).cells
            exact ⟨m1, m2, m3, cell_stay hxc hu hbka, cell_stay hyc hu hbkb⟩)
          have HD := Lib.hid (below_drew (Below.refl wr.heap.size wr))
          obtain ⟨⟨n5, l5, c5⟩, hg5⟩ : ∃ g, cutE ⟨n, l0, c0⟩ x y = g := ⟨_, rfl⟩
          obtain rfl : n = n5 := congrArg Flt.next hg5
          have HG5 := Lib.hid hg5
          have HGd5 := Lib.hid (show Good ⟨n, l5, c5⟩ (K + 2 * (i * Lb + k) + 1) from hg5 ▸ (good_cut HGk.out x y HXY.out).1)
          have hl5 : l5.length ≤ l0.length := by have := sub_len ⟨n, l0, c0⟩ (thereL [x] [y]); rw [← cutE_sec, hg5] at this; exact this
          have HKk : Hid (K + 2 * (i * Lb + k) + 2 ≤ 8796093022208) := Lib.hid (by
            have h1 := Nat.mul_le_mul_right Lb (show i + 1 ≤ La from hlt)
            rw [Nat.add_mul, Nat.one_mul] at h1
            have := HLn.out
            omega)
          clear hg5 hxc hyc hbka hbkb
          have HDa := Lib.hid (HD.out.alloc HD.out.size (.cells #[.int .i64 0, .slice none 0 0, .slice none 0 0] 25))
          have HXa := Lib.hid (fbox_new wr.drew 0 (.slice none 0 0) (.slice none 0 0))
          have hWw : W.heap.size ≤ wr.heap.size := HBr.out.size
          go_wp2_with fail
          go_region_held3 (fun u => u.cell? ⟨N3, 0, none⟩ = some (.int .i64 n) ∧ u.cell? ⟨N3, 1, none⟩ = some (.slice p3 l0.length q3) ∧ u.cell? ⟨N3, 2, none⟩ = some (.slice p4 c0.length q4) ∧ u.cell? ⟨bka, offa + i, none⟩ = some (.int .i64 x) ∧ u.cell? ⟨bkb, offb + k, none⟩ = some (.int .i64 y))
            (first | exact HCs.out _ HD.out | exact HCs.out _ HDa.out | exact HCs.out _ HB5.out | exact HCs.out _ HB5a.out | exact HCs.out _ (HB5.out.alloc HB5.out.size (.cells #[.int .i64 0, .slice none 0 0, .slice none 0 0] 25)))
            (first
              | ((go_at_call 21; refine (rCut_good (K := K + 2 * (i * Lb + k)) (f := ⟨n, l0, c0⟩) _ _ x y _ W.heap.size (HO1.out.below HD.out) (HO2.out.below HD.out) HGk.out (by have := HKk.out; omega)).mono ?_); (rintro e w5 h5; have h5 : TwoS _ ⟨n, l5, c5⟩ ((l0.length : Int) - (l5.length : Nat)) e w5 := HG5.out ▸ h5; obtain ⟨vl5, vc5, he, ho5, ho6, hb5⟩ := h5; have he : e = .returned (.tuple #[.agg #[.int .i64 n, vl5, vc5], .int .i64 ((l0.length : Int) - (l5.length : Nat))]) := he; subst he; have ho5 : Own fc 4 38 w5 _ vl5 l5 := ho5; have ho6 : Own wc 2 40 w5 _ vc5 c5 := ho6; obtain ⟨x5, y5, rfl⟩ := ho5.slice; obtain ⟨x6, y6, rfl⟩ := ho6.slice; have HO5 := Lib.hid ho5; have HO6 := Lib.hid ho6; have HB5 := Lib.hid (HD.out.trans (hb5.mono HD.out.size)); have HB5a := Lib.hid (HB5.out.alloc HB5.out.size (.cells #[.int .i64 n, .slice x5 l5.length y5, .slice x6 c5.length y6] 25)); have HXn := Lib.hid (fbox_new w5 n (.slice x5 l5.length y5) (.slice x6 c5.length y6)); clear ho5 ho6 hb5))
              | ((go_at_call 21; refine (rCut_good (K := K + 2 * (i * Lb + k)) (f := ⟨n, l0, c0⟩) _ _ x y _ W.heap.size (HO1.out.below HDa.out) (HO2.out.below HDa.out) HGk.out (by have := HKk.out; omega)).mono ?_); (rintro e w5 h5; have h5 : TwoS _ ⟨n, l5, c5⟩ ((l0.length : Int) - (l5.length : Nat)) e w5 := HG5.out ▸ h5; obtain ⟨vl5, vc5, he, ho5, ho6, hb5⟩ := h5; have he : e = .returned (.tuple #[.agg #[.int .i64 n, vl5, vc5], .int .i64 ((l0.length : Int) - (l5.length : Nat))]) := he; subst he; have ho5 : Own fc 4 38 w5 _ vl5 l5 := ho5; have ho6 : Own wc 2 40 w5 _ vc5 c5 := ho6; obtain ⟨x5, y5, rfl⟩ := ho5.slice; obtain ⟨x6, y6, rfl⟩ := ho6.slice; have HO5 := Lib.hid ho5; have HO6 := Lib.hid ho6; have HB5 := Lib.hid (HDa.out.trans (hb5.mono HDa.out.size)); have HXn := Lib.hid (HXa.out.keep hb5); have HB5a := Lib.hid (below_set3 HB5.out (N := wr.heap.size) (Nat.le_refl _) (.int .i64 n) (.slice x5 l5.length y5) (.slice x6 c5.length y6)); obtain ⟨t1, t2, t3⟩ := (show FBox w5 wr.heap.size 0 (.slice none 0 0) (.slice none 0 0) from HXn.out).thaw; obtain ⟨s1, s2, s3⟩ := (show FBox w5 wr.heap.size 0 (.slice none 0 0) (.slice none 0 0) from HXn.out).cells; clear ho5 ho6 hb5)))
          all_goals
            first
              | (have HS6 := Lib.hid (show FBox (w5.alloc (.cells #[.int .i64 n, .slice x5 l5.length y5, .slice x6 c5.length y6] 25)) w5.heap.size n (.slice x5 l5.length y5) (.slice x6 c5.length y6) ∧ Own fc 4 38 (w5.alloc (.cells #[.int .i64 n, .slice x5 l5.length y5, .slice x6 c5.length y6] 25)) W.heap.size (.slice x5 l5.length y5) l5 ∧ Own wc 2 40 (w5.alloc (.cells #[.int .i64 n, .slice x5 l5.length y5, .slice x6 c5.length y6] 25)) W.heap.size (.slice x6 c5.length y6) c5 from ⟨HXn.out, (HO5.out.mono hWw).below (below_new w5 _), (HO6.out.mono hWw).below (below_new w5 _)⟩); have HB6 := Lib.hid (show Below wr.heap.size wr (w5.alloc (.cells #[.int .i64 n, .slice x5 l5.length y5, .slice x6 c5.length y6] 25)) from HB5a.out); clear HXn HO5 HO6 HB5 HB5a; generalize (w5.alloc (.cells #[.int .i64 n, .slice x5 l5.length y5, .slice x6 c5.length y6] 25)) = W6 at HS6 HB6 ⊢; generalize w5.heap.size = N12 at HS6 ⊢)
              | (have HS6 := Lib.hid (show FBox (((w5.setCell ⟨wr.heap.size, 0, none⟩ (.int .i64 n)).setCell ⟨wr.heap.size, 1, none⟩ (.slice x5 l5.length y5)).setCell ⟨wr.heap.size, 2, none⟩ (.slice x6 c5.length y6)) wr.heap.size n (.slice x5 l5.length y5) (.slice x6 c5.length y6) ∧ Own fc 4 38 (((w5.setCell ⟨wr.heap.size, 0, none⟩ (.int .i64 n)).setCell ⟨wr.heap.size, 1, none⟩ (.slice x5 l5.length y5)).setCell ⟨wr.heap.size, 2, none⟩ (.slice x6 c5.length y6)) W.heap.size (.slice x5 l5.length y5) l5 ∧ Own wc 2 40 (((w5.setCell ⟨wr.heap.size, 0, none⟩ (.int .i64 n)).setCell ⟨wr.heap.size, 1, none⟩ (.slice x5 l5.length y5)).setCell ⟨wr.heap.size, 2, none⟩ (.slice x6 c5.length y6)) W.heap.size (.slice x6 c5.length y6) c5 from ⟨FBox.set (show FBox w5 wr.heap.size 0 (.slice none 0 0) (.slice none 0 0) from HXn.out) n (.slice x5 l5.length y5) (.slice x6 c5.length y6), (HO5.out.set3 (by simp [World.size_alloc]) _ _ _).mono (Nat.le_trans hWw (by simp [World.size_alloc])), (HO6.out.set3 (by simp [World.size_alloc]) _ _ _).mono (Nat.le_trans hWw (by simp [World.size_alloc]))⟩); have HB6 := Lib.hid (show Below wr.heap.size wr (((w5.setCell ⟨wr.heap.size, 0, none⟩ (.int .i64 n)).setCell ⟨wr.heap.size, 1, none⟩ (.slice x5 l5.length y5)).setCell ⟨wr.heap.size, 2, none⟩ (.slice x6 c5.length y6)) from HB5a.out); clear HXn HO5 HO6 HB5 HB5a t1 t2 t3 s1 s2 s3; generalize (((w5.setCell ⟨wr.heap.size, 0, none⟩ (.int .i64 n)).setCell ⟨wr.heap.size, 1, none⟩ (.slice x5 l5.length y5)).setCell ⟨wr.heap.size, 2, none⟩ (.slice x6 c5.length y6)) = W6 at HS6 HB6 ⊢; obtain ⟨N12, hN12⟩ : ∃ N, wr.heap.size = N := ⟨_, rfl⟩; rw [hN12] at HS6 ⊢; clear hN12)
            have hW6 : W.heap.size ≤ W6.heap.size := Nat.le_trans hWw HB6.out.size
            have HCs6 : Hid (∀ u, Below W6.heap.size W6 u → u.cell? ⟨N12, 0, none⟩ = some (.int .i64 n) ∧ u.cell? ⟨N12, 1, none⟩ = some (.slice x5 l5.length y5) ∧ u.cell? ⟨N12, 2, none⟩ = some (.slice x6 c5.length y6) ∧ u.cell? ⟨bka, offa + i, none⟩ = some (.int .i64 x) ∧ u.cell? ⟨bkb, offb + k, none⟩ = some (.int .i64 y)) := Lib.hid (fun u hu => by
              obtain ⟨m1, m2, m3⟩ := (HS6.out.1.keep hu).cells
              obtain ⟨_, _, _, m4, m5⟩ := HCs.out _ (HB6.out.trans (hu.mono HB6.out.size))
              exact ⟨m1, m2, m3, m4, m5⟩)
            have HD6 := Lib.hid (below_drew (Below.refl W6.heap.size W6))
            have HDb := Lib.hid (HD6.out.alloc HD6.out.size (.cells #[.int .i64 0, .slice none 0 0, .slice none 0 0] 25))
            have HXb := Lib.hid (fbox_new W6.drew 0 (.slice none 0 0) (.slice none 0 0))
            obtain ⟨⟨n7, l7, c7⟩, hg7⟩ : ∃ g, cutE ⟨n, l5, c5⟩ y x = g := ⟨_, rfl⟩
            obtain rfl : n = n7 := congrArg Flt.next hg7
            have HG7 := Lib.hid hg7
            have HGd7 := Lib.hid (show Good ⟨n, l7, c7⟩ (K + 2 * (i * Lb + k) + 1 + 1) from hg7 ▸ (good_cut HGd5.out y x ⟨HXY.out.2, HXY.out.1⟩).1)
            have hl7 : l7.length ≤ l5.length := by have := sub_len ⟨n, l5, c5⟩ (thereL [y] [x]); rw [← cutE_sec, hg7] at this; exact this
            clear hg7
            go_wp2_with fail
            go_region_held3 (fun u => u.cell? ⟨N12, 0, none⟩ = some (.int .i64 n) ∧ u.cell? ⟨N12, 1, none⟩ = some (.slice x5 l5.length y5) ∧ u.cell? ⟨N12, 2, none⟩ = some (.slice x6 c5.length y6) ∧ u.cell? ⟨bka, offa + i, none⟩ = some (.int .i64 x) ∧ u.cell? ⟨bkb, offb + k, none⟩ = some (.int .i64 y))
              (first | exact HCs6.out _ HD6.out | exact HCs6.out _ HDb.out | exact HCs6.out _ HB7.out | exact HCs6.out _ HB7a.out | exact HCs6.out _ (HB7.out.alloc HB7.out.size (.cells #[.int .i64 0, .slice none 0 0, .slice none 0 0] 25)))
              (first
                | ((go_at_call 21; refine (rCut_good (K := K + 2 * (i * Lb + k) + 1) (f := ⟨n, l5, c5⟩) _ _ y x _ W.heap.size (HS6.out.2.1.below HD6.out) (HS6.out.2.2.below HD6.out) HGd5.out (by have := HKk.out; omega)).mono ?_); (rintro e w7 h7; have h7 : TwoS _ ⟨n, l7, c7⟩ ((l5.length : Int) - (l7.length : Nat)) e w7 := HG7.out ▸ h7; obtain ⟨vl7, vc7, he, ho7, ho8, hb7⟩ := h7; have he : e = .returned (.tuple #[.agg #[.int .i64 n, vl7, vc7], .int .i64 ((l5.length : Int) - (l7.length : Nat))]) := he; subst he; have ho7 : Own fc 4 38 w7 _ vl7 l7 := ho7; have ho8 : Own wc 2 40 w7 _ vc7 c7 := ho8; obtain ⟨x7, y7, rfl⟩ := ho7.slice; obtain ⟨x8, y8, rfl⟩ := ho8.slice; have HO7 := Lib.hid ho7; have HO8 := Lib.hid ho8; have HB7 := Lib.hid (HD6.out.trans (hb7.mono HD6.out.size)); have HB7a := Lib.hid (HB7.out.alloc HB7.out.size (.cells #[.int .i64 n, .slice x7 l7.length y7, .slice x8 c7.length y8] 25)); have HXm := Lib.hid (fbox_new w7 n (.slice x7 l7.length y7) (.slice x8 c7.length y8)); clear ho7 ho8 hb7))
                | ((go_at_call 21; refine (rCut_good (K := K + 2 * (i * Lb + k) + 1) (f := ⟨n, l5, c5⟩) _ _ y x _ W.heap.size (HS6.out.2.1.below HDb.out) (HS6.out.2.2.below HDb.out) HGd5.out (by have := HKk.out; omega)).mono ?_); (rintro e w7 h7; have h7 : TwoS _ ⟨n, l7, c7⟩ ((l5.length : Int) - (l7.length : Nat)) e w7 := HG7.out ▸ h7; obtain ⟨vl7, vc7, he, ho7, ho8, hb7⟩ := h7; have he : e = .returned (.tuple #[.agg #[.int .i64 n, vl7, vc7], .int .i64 ((l5.length : Int) - (l7.length : Nat))]) := he; subst he; have ho7 : Own fc 4 38 w7 _ vl7 l7 := ho7; have ho8 : Own wc 2 40 w7 _ vc7 c7 := ho8; obtain ⟨x7, y7, rfl⟩ := ho7.slice; obtain ⟨x8, y8, rfl⟩ := ho8.slice; have HO7 := Lib.hid ho7; have HO8 := Lib.hid ho8; have HB7 := Lib.hid (HDb.out.trans (hb7.mono HDb.out.size)); have HXm := Lib.hid (HXb.out.keep hb7); have HB7a := Lib.hid (below_set3 HB7.out (N := W6.heap.size) (Nat.le_refl _) (.int .i64 n) (.slice x7 l7.length y7) (.slice x8 c7.length y8)); obtain ⟨t1, t2, t3⟩ := (show FBox w7 W6.heap.size 0 (.slice none 0 0) (.slice none 0 0) from HXm.out).thaw; obtain ⟨s1, s2, s3⟩ := (show FBox w7 W6.heap.size 0 (.slice none 0 0) (.slice none 0 0) from HXm.out).cells; clear ho7 ho8 hb7)))
            all_goals
              first
                | (have HS8 := Lib.hid (show FBox (w7.alloc (.cells #[.int .i64 n, .slice x7 l7.length y7, .slice x8 c7.length y8] 25)) w7.heap.size n (.slice x7 l7.length y7) (.slice x8 c7.length y8) ∧ Own fc 4 38 (w7.alloc (.cells #[.int .i64 n, .slice x7 l7.length y7, .slice x8 c7.length y8] 25)) W.heap.size (.slice x7 l7.length y7) l7 ∧ Own wc 2 40 (w7.alloc (.cells #[.int .i64 n, .slice x7 l7.length y7, .slice x8 c7.length y8] 25)) W.heap.size (.slice x8 c7.length y8) c7 from ⟨HXm.out, (HO7.out.mono hW6).below (below_new w7 _), (HO8.out.mono hW6).below (below_new w7 _)⟩); have HB8 := Lib.hid (show Below W6.heap.size W6 (w7.alloc (.cells #[.int .i64 n, .slice x7 l7.length y7, .slice x8 c7.length y8] 25)) from HB7a.out); clear HXm HO7 HO8 HB7 HB7a; generalize (w7.alloc (.cells #[.int .i64 n, .slice x7 l7.length y7, .slice x8 c7.length y8] 25)) = W8 at HS8 HB8 ⊢; generalize w7.heap.size = N14 at HS8 ⊢)
                | (have HS8 := Lib.hid (show FBox (((w7.setCell ⟨W6.heap.size, 0, none⟩ (.int .i64 n)).setCell ⟨W6.heap.size, 1, none⟩ (.slice x7 l7.length y7)).setCell ⟨W6.heap.size, 2, none⟩ (.slice x8 c7.length y8)) W6.heap.size n (.slice x7 l7.length y7) (.slice x8 c7.length y8) ∧ Own fc 4 38 (((w7.setCell ⟨W6.heap.size, 0, none⟩ (.int .i64 n)).setCell ⟨W6.heap.size, 1, none⟩ (.slice x7 l7.length y7)).setCell ⟨W6.heap.size, 2, none⟩ (.slice x8 c7.length y8)) W.heap.size (.slice x7 l7.length y7) l7 ∧ Own wc 2 40 (((w7.setCell ⟨W6.heap.size, 0, none⟩ (.int .i64 n)).setCell ⟨W6.heap.size, 1, none⟩ (.slice x7 l7.length y7)).setCell ⟨W6.heap.size, 2, none⟩ (.slice x8 c7.length y8)) W.heap.size (.slice x8 c7.length y8) c7 from ⟨FBox.set (show FBox w7 W6.heap.size 0 (.slice none 0 0) (.slice none 0 0) from HXm.out) n (.slice x7 l7.length y7) (.slice x8 c7.length y8), (HO7.out.set3 (by simp [World.size_alloc]) _ _ _).mono (Nat.le_trans hW6 (by simp [World.size_alloc])), (HO8.out.set3 (by simp [World.size_alloc]) _ _ _).mono (Nat.le_trans hW6 (by simp [World.size_alloc]))⟩); have HB8 := Lib.hid (show Below W6.heap.size W6 (((w7.setCell ⟨W6.heap.size, 0, none⟩ (.int .i64 n)).setCell ⟨W6.heap.size, 1, none⟩ (.slice x7 l7.length y7)).setCell ⟨W6.heap.size, 2, none⟩ (.slice x8 c7.length y8)) from HB7a.out); clear HXm HO7 HO8 HB7 HB7a t1 t2 t3 s1 s2 s3; generalize (((w7.setCell ⟨W6.heap.size, 0, none⟩ (.int .i64 n)).setCell ⟨W6.heap.size, 1, none⟩ (.slice x7 l7.length y7)).setCell ⟨W6.heap.size, 2, none⟩ (.slice x8 c7.length y8)) = W8 at HS8 HB8 ⊢; obtain ⟨N14, hN14⟩ : ∃ N, W6.heap.size = N := ⟨_, rfl⟩; rw [hN14] at HS8 ⊢; clear hN14)
              have HB8 := Lib.hid (HB6.out.trans (HB8.out.mono HB6.out.size))
              have HX38 := Lib.hid (HX3.out.keep HB8.out)
              obtain ⟨k1, k2, k3⟩ := HS8.out.1.cells
              obtain ⟨g1, g2, g3⟩ := HX38.out.cells
              obtain ⟨f1, f2, f3⟩ := HX38.out.thaw
              go_upto_region 12 with fail
              have hneA : (Value.slice x7 l7.length y7).ownBlock ≠ some N3 := HS8.out.2.1.neBox HX38.out (by decide)
              have hneB : (Value.slice x8 c7.length y8).ownBlock ≠ some N3 := HS8.out.2.2.neBox HX38.out (by decide)
              have HX39 := Lib.hid (HX38.out.set n (.slice x7 l7.length y7) (.slice x8 c7.length y8))
              have HO19 := Lib.hid (((HS8.out.2.1.setOther hneA 0 (.int .i64 n)).setOther hneA 1 (.slice x7 l7.length y7)).setOther hneA 2 (.slice x8 c7.length y8))
              have HO29 := Lib.hid (((HS8.out.2.2.setOther hneB 0 (.int .i64 n)).setOther hneB 1 (.slice x7 l7.length y7)).setOther hneB 2 (.slice x8 c7.length y8))
              have HB9 := Lib.hid (below_set3 (HBr.out.trans (HB8.out.mono HBr.out.size)) HNN.out.2.2.2.1 (.int .i64 n) (.slice x7 l7.length y7) (.slice x8 c7.length y8))
              clear k1 k2 k3 g1 g2 g3 f1 f2 f3 hneA hneB
              generalize (((W8.setCell ⟨N3, 0, none⟩ (.int .i64 n)).setCell ⟨N3, 1, none⟩ (.slice x7 l7.length y7)).setCell ⟨N3, 2, none⟩ (.slice x8 c7.length y8)) = W9 at HX39 HO19 HO29 HB9 ⊢
              have hwq1 : True → wrap64 ((L : Int) - l0.length + ((l0.length : Int) - l5.length)) = (L : Int) - l5.length := fun _ => by
                rw [IntWalk.wrap64_in _ ⟨by omega, by omega⟩]; omega
              have hwq2 : True → wrap64 ((L : Int) - l5.length + ((l5.length : Int) - l7.length)) = (L : Int) - l7.length := fun _ => by
                rw [IntWalk.wrap64_in _ ⟨by omega, by omega⟩]; omega
              go_wp2
              go_roundw
              case rel =>
                have e : secE ⟨n, l, c⟩ (allW a b i ++ rowW x b (k + 1)) = ⟨n, l7, c7⟩ := by
                  rw [HRow.out, ← List.append_assoc, ← secE_secE, HHe.out, pairW, ← secE_secE]
                  exact (congrArg (fun z => secE z (thereL [y] [x])) HG5.out).trans HG7.out
                refine ⟨k + 1, _, _, by omega, by go_num, ?_, HX39.out, by rw [e]; exact HO19.out, by rw [e]; exact HO29.out, by rw [e]; exact HGd7.out, HB9.out⟩
                rw [e]
                exact congrArg (Value.int .i64) (by simp only; omega)
              case measure => simp [intOf]; omega
        · obtain rfl : k = Lb := by omega
          go_wp2
          go_roundw
          case rel =>
            have e : secE ⟨n, l, c⟩ (allW a b (i + 1)) = ⟨n, l0, c0⟩ := by
              obtain ⟨h1, h2⟩ := HXi.out
              rw [allW_succ _ _ _ h1, h2, HBl.out]; exact HHe.out
            refine ⟨i + 1, _, _, by omega, by go_num, ?_, HX3.out, by rw [e]; exact HO1.out, by rw [e]; exact HO2.out, by rw [e]; exact HGk.out.mono (by rw [Nat.add_mul, Nat.one_mul]; exact Nat.le_refl _), HBr.out⟩
            rw [e]
          case measure => simp [intOf]; omega
    · obtain rfl : i = La := by omega
      have hiso : isoE ⟨n, l, c⟩ a b = ⟨n, gl, gc⟩ := by rw [← iso_eq, HA.out]; exact HGe.out
      have HIso := Lib.hid hiso
      rw [hiso]
      clear hlt hiso
      have HX2 := Lib.hid (HX2.out.keep HBr.out)
      have HBr := Lib.hid (HB.out.trans (HBr.out.mono HB.out.size))
      obtain ⟨k1, k2, k3⟩ := HX3.out.cells
      obtain ⟨g1, g2, g3⟩ := HX2.out.cells
      obtain ⟨f1, f2, f3⟩ := HX2.out.thaw
      have hneA : (Value.slice p1 gl.length q1).ownBlock ≠ some N2 := HO1.out.neBox HX2.out (by decide)
      have hneB : (Value.slice p2 gc.length q2).ownBlock ≠ some N2 := HO2.out.neBox HX2.out (by decide)
      have hF := HX2.out.set n (.slice p1 gl.length q1) (.slice p2 gc.length q2)
      have hO1 := (((HO1.out.setOther hneA 0 (.int .i64 n)).setOther hneA 1 (.slice p1 gl.length q1)).setOther hneA 2 (.slice p2 gc.length q2)).mono HNN.out.2.2.1
      have hO2 := (((HO2.out.setOther hneB 0 (.int .i64 n)).setOther hneB 1 (.slice p1 gl.length q1)).setOther hneB 2 (.slice p2 gc.length q2)).mono HNN.out.2.2.1
      have hB := below_set3 HBr.out HNN.out.2.1 (.int .i64 n) (.slice p1 gl.length q1) (.slice p2 gc.length q2)
      have HFin := Lib.hid (And.intro hF (And.intro hO1 (And.intro hO2 hB)))
      clear hF hO1 hO2 hB hneA hneB
      go_wp2
      obtain ⟨hF, hO1, hO2, hB⟩ := HFin.out
      refine bodyPost_ret (retF2 rfl rfl hF) rfl ?_
      unfold TwoS
      simp only [HIso.out]
      exact ⟨_, _, rfl, hO1, hO2, hB⟩
end Go.Proofs.YtalnmbfmfeaohaaGreat.flight
