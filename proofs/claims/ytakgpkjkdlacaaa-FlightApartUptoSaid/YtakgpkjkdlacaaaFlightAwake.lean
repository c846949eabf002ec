/- The chapter's example. -/
import Derived.Test.YtakgpkjkdlacaaaRows
import Derived.Test.YtakgpkjkdlacaaaFlightOn
import Derived.Test.YtakgpkjkdlacaaaFlightDbl
import Derived.Test.YtakgpkjkdlacaaaFlightOld
import Derived.Test.YtakgpkjkdlacaaaFlightInts
import Derived.Test.YtakgpkjkdlacaaaFlightSev
namespace Go.Proofs.Ytakgpkjkdlacaaa.flight
open Go.RowKit
open Go.Proofs.Ytakgpkjkdlacaaa.kit Go.Proofs.Ytakgpkjkdlacaaa.own
set_option linter.unusedVariables false

def bA : ByteArray := { data := #[97] }
def bB : ByteArray := { data := #[98] }
def f1 : Flt := ⟨1, [⟨1, 1, 2, bA⟩], []⟩
def f2 : Flt := ⟨2, [⟨1, 1, 2, bA⟩, ⟨2, 2, 1, bB⟩], []⟩
def f3 : Flt := ⟨3, [⟨1, 1, 2, bA⟩, ⟨2, 2, 1, bB⟩, ⟨3, 1, 2, bA⟩], []⟩
def f4 : Flt := ⟨3, [⟨2, 2, 1, bB⟩], [(1, 2)]⟩
theorem n1 : f1.next = 1 := rfl
theorem n2 : f2.next = 2 := rfl
theorem n3 : f3.next = 3 := rfl
theorem n4 : f4.next = 3 := rfl
theorem put1 : putE ⟨0, [], []⟩ 1 2 bA = (f1, 1, 0) := rfl
theorem put2 : putE f1 2 1 bB = (f2, 2, 0) := rfl
theorem dbl3 : dblE f2 1 = (f3, 3, 0) := rfl
theorem on4 : onE (1, 2) f3.list = [1, 3] := rfl
theorem old5 : oldE f3 1 = (2, true) := rfl
theorem sort6 : setW (f3.cut ++ thereL [1] [2]) = [(1, 2)] := by
  show setW [(1, 2)] = _
  unfold setW sortW
  rw [List.mergeSort_singleton]
  rfl
theorem cut6 : (⟨f3.next, f3.list.filter (fun x => !inWays (thereL [1] [2]) x), setW (f3.cut ++ thereL [1] [2])⟩ : Flt) = f4 ∧ (f3.list.length : Int) - (f3.list.filter (fun x => !inWays (thereL [1] [2]) x)).length = 2 := by
  rw [sort6]
  exact ⟨rfl, rfl⟩
theorem put7 (t : ByteArray) : putE f4 1 2 t = (f4, 0, 40) := rfl
theorem fit8 : f3.fit = true := by decide
theorem fits3 : f3.Fits := ⟨by unfold Frm.Ok I64; decide, by simp [f3], by decide, by decide⟩
theorem ok3 : ∀ x ∈ f3.list, Frm.Ok x := by unfold Frm.Ok I64; decide
theorem ok12 : Wy.Ok (1, 2) := by unfold Wy.Ok; decide
theorem ok21 : Wy.Ok (2, 1) := by unfold Wy.Ok; decide

theorem sl_two (w : World) (a b : Int) (e n : Nat) (hn : n = w.heap.size) : Sl ic 1 (w.alloc (.cells #[.int .i64 a, .int .i64 b] e)) (.slice (some ⟨n, 0, none⟩) 2 2) [a, b] := by
  subst hn
  refine ⟨by simp, _, _, rfl, fun h => (by cases h), fun _ => ⟨w.heap.size, 0, rfl, by simp, fun j hj i u hu => ?_⟩⟩
  rw [World.cell?_alloc_at _ _ _ _ rfl]
  match j, hj, i, hu with
  | 0, _, 0, hu => simpa [ic] using hu
  | 0, _, i + 1, hu => simp [ic] at hu
  | 1, _, 0, hu => simpa [ic] using hu
  | 1, _, i + 1, hu => simp [ic] at hu

set_option maxHeartbeats 8000000 in
set_option maxRecDepth 100000 in
theorem awake_any (w : World) : Calls Try.prog 12 #[] w fun e w' => e = .returned (.bool true) ∧ Below w.heap.size w w' := by
  go_enter Try.func12, Try.ntmps12
  go_wp2_with fail
  refine (Put_any _ ⟨0, [], []⟩ 1 2 bA _ ⟨_, _, rfl, Sl.nil _, Sl.nil _⟩ (by simp) ok12 (by decide) (by decide) (by unfold I64; decide)).mono ?_
  rintro e w1 ⟨vl, vc, rfl, ho1, ho2, hb⟩
  rw [put1] at ho1 ho2
  simp only [put1, n1]
  obtain ⟨al, cl, hv1⟩ := ho1.slice
  obtain ⟨ac, cc, hv2⟩ := ho2.slice
  obtain rfl : vl = .slice al 1 cl := hv1
  obtain rfl : vc = .slice ac 0 cc := hv2
  have hn := below_new w1 (.cells #[.int .i64 1, .slice al 1 cl, .slice ac 0 cc] 25)
  have HX := Lib.hid (fbox_new w1 1 (.slice al 1 cl) (.slice ac 0 cc))
  have HF := Lib.hid (show FlR (w1.alloc (.cells #[.int .i64 1, .slice al 1 cl, .slice ac 0 cc] 25)) (.agg #[.int .i64 1, .slice al 1 cl, .slice ac 0 cc]) f1 from ⟨_, _, rfl, (ho1.below hn).read fc_len, (ho2.below hn).read wc_len⟩)
  have HB := Lib.hid (hb.trans (hn.mono hb.size))
  have HZ := Lib.hid (show w.heap.size ≤ w1.heap.size from hb.size)
  clear ho1 ho2 hb hn
  go_upto_region 2 with fail
  generalize w1.alloc (.cells #[.int .i64 1, .slice al 1 cl, .slice ac 0 cc] 25) = W1 at HX HF HB ⊢
  generalize w1.heap.size = N at HX HZ ⊢
  obtain ⟨e1, e2, e3⟩ := HX.out.cells
  go_wp2_with fail
  refine (Put_any _ f1 2 1 bB _ HF.out (by simp [f1]) ok21 (by decide) (by decide) (by unfold I64; decide)).mono ?_
  rintro e w2 ⟨vl, vc, rfl, ho1, ho2, hb⟩
  rw [put2] at ho1 ho2
  simp only [put2, n2]
  obtain ⟨al2, cl2, hv1⟩ := ho1.slice
  obtain ⟨ac2, cc2, hv2⟩ := ho2.slice
  obtain rfl : vl = .slice al2 2 cl2 := hv1
  obtain rfl : vc = .slice ac2 0 cc2 := hv2
  have HXo := Lib.hid (HX.out.keep hb)
  have hNl := HX.out.lt
  have HX2 := Lib.hid ((HXo.out).set 2 (.slice al2 2 cl2) (.slice ac2 0 cc2))
  have HO1 := Lib.hid (ho1.set3 hNl (.int .i64 2) (.slice al2 2 cl2) (.slice ac2 0 cc2))
  have HO2 := Lib.hid (ho2.set3 hNl (.int .i64 2) (.slice al2 2 cl2) (.slice ac2 0 cc2))
  have HB2 := Lib.hid (below_set3 (HB.out.trans (hb.mono HB.out.size)) HZ.out (.int .i64 2) (.slice al2 2 cl2) (.slice ac2 0 cc2))
  clear ho1 ho2 hb hNl e1 e2 e3
  obtain ⟨e1, e2, e3⟩ := HXo.out.cells
  obtain ⟨t1, t2, t3⟩ := HXo.out.thaw
  go_upto_region 3 with fail
  generalize (((w2.setCell ⟨N, 0, none⟩ (.int .i64 2)).setCell ⟨N, 1, none⟩ (.slice al2 2 cl2)).setCell ⟨N, 2, none⟩ (.slice ac2 0 cc2)) = W2 at HX2 HO1 HO2 HB2 ⊢
  clear HF HX HB HXo e1 e2 e3 t1 t2 t3
  have HF := Lib.hid (show FlR W2 (.agg #[.int .i64 2, .slice al2 2 cl2, .slice ac2 0 cc2]) f2 from ⟨_, _, rfl, HO1.out.read fc_len, HO2.out.read wc_len⟩)
  have HX := HX2; have HB := HB2
  clear HX2 HB2 HO1 HO2
  obtain ⟨e1, e2, e3⟩ := HX.out.cells
  go_wp2_with fail
  refine (Double_any _ f2 1 _ HF.out (by unfold Frm.Ok I64; decide) (by simp [f2]) (by decide) (by decide) (by unfold I64; decide)).mono ?_
  rintro e w3 ⟨vl, vc, rfl, ho1, ho2, hb⟩
  rw [dbl3] at ho1 ho2
  simp only [dbl3, n3]
  obtain ⟨al3, cl3, hv1⟩ := ho1.slice
  obtain ⟨ac3, cc3, hv2⟩ := ho2.slice
  obtain rfl : vl = .slice al3 3 cl3 := hv1
  obtain rfl : vc = .slice ac3 0 cc3 := hv2
  have HXo := Lib.hid (HX.out.keep hb)
  have hNl := HX.out.lt
  have HX3 := Lib.hid ((HXo.out).set 3 (.slice al3 3 cl3) (.slice ac3 0 cc3))
  have HO1 := Lib.hid (ho1.set3 hNl (.int .i64 3) (.slice al3 3 cl3) (.slice ac3 0 cc3))
  have HO2 := Lib.hid (ho2.set3 hNl (.int .i64 3) (.slice al3 3 cl3) (.slice ac3 0 cc3))
  have HB3 := Lib.hid (below_set3 (HB.out.trans (hb.mono HB.out.size)) HZ.out (.int .i64 3) (.slice al3 3 cl3) (.slice ac3 0 cc3))
  clear ho1 ho2 hb hNl e1 e2 e3
  obtain ⟨e1, e2, e3⟩ := HXo.out.cells
  obtain ⟨t1, t2, t3⟩ := HXo.out.thaw
  go_upto_region 4 with fail
  generalize (((w3.setCell ⟨N, 0, none⟩ (.int .i64 3)).setCell ⟨N, 1, none⟩ (.slice al3 3 cl3)).setCell ⟨N, 2, none⟩ (.slice ac3 0 cc3)) = W3 at HX3 HO1 HO2 HB3 ⊢
  clear HF HX HB HXo e1 e2 e3 t1 t2 t3
  have HF := Lib.hid (show FlR W3 (.agg #[.int .i64 3, .slice al3 3 cl3, .slice ac3 0 cc3]) f3 from ⟨_, _, rfl, HO1.out.read fc_len, HO2.out.read wc_len⟩)
  have HX := HX3; have HB := HB3
  clear HX3 HB3 HO1 HO2
  obtain ⟨e1, e2, e3⟩ := HX.out.cells
  go_wp2_with fail
  refine (On_any _ f3 1 2 _ HF.out (by unfold Frm.Ok I64; decide) (by decide)).mono ?_
  rintro e w4 ⟨v4, rfl, ho4, hb⟩
  rw [on4] at ho4
  obtain ⟨ax, cx, hv4⟩ := ho4.slice
  obtain rfl : v4 = .slice ax 2 cx := hv4
  have HO4 := Lib.hid (ho4.read ic_len)
  have HX4 := Lib.hid (HX.out.keep hb); have HF4 := Lib.hid (HF.out.keep hb); have HB4 := Lib.hid (HB.out.trans (hb.mono HB.out.size))
  clear ho4 hb e1 e2 e3
  go_upto_region 5 with fail
  obtain ⟨e1, e2, e3⟩ := HX4.out.cells
  go_wp2_with fail
  refine (Oldest_any _ f3 1 _ HF4.out (by unfold Frm.Ok I64; decide)).mono ?_
  rintro e w5 ⟨rfl, hb⟩
  simp only [old5]
  have HX5 := Lib.hid (HX4.out.keep hb); have HF5 := Lib.hid (HF4.out.keep hb); have HB5 := Lib.hid (HB4.out.trans (hb.mono HB4.out.size))
  have HO5 := Lib.hid (HO4.out.keep hb)
  clear hb e1 e2 e3
  go_upto_region 6 with fail
  obtain ⟨e1, e2, e3⟩ := HX5.out.cells
  go_wp2_with fail
  refine (Cut_any _ f3 1 2 _ HF5.out fits3 ok12 (by decide)).mono ?_
  rintro e w6 ⟨vl, vc, rfl, ho1, ho2, hb⟩
  rw [cut6.1] at ho1 ho2
  rw [cut6.2, show (⟨f3.next, f3.list.filter (fun x => !inWays (thereL [1] [2]) x), setW (f3.cut ++ thereL [1] [2])⟩ : Flt).next = 3 from rfl]
  obtain ⟨al6, cl6, hv1⟩ := ho1.slice
  obtain ⟨ac6, cc6, hv2⟩ := ho2.slice
  obtain rfl : vl = .slice al6 1 cl6 := hv1
  obtain rfl : vc = .slice ac6 1 cc6 := hv2
  have hn := below_new w6 (.cells #[.int .i64 3, .slice al6 1 cl6, .slice ac6 1 cc6] 25)
  have hbb := hb.trans (hn.mono hb.size)
  have HX6 := Lib.hid (HX5.out.keep hbb); have HF6 := Lib.hid (HF5.out.keep hbb); have HB6 := Lib.hid (HB5.out.trans (hbb.mono HB5.out.size))
  have HO6 := Lib.hid (HO5.out.keep hbb)
  have HG := Lib.hid (fbox_new w6 3 (.slice al6 1 cl6) (.slice ac6 1 cc6))
  have HFg := Lib.hid (show FlR (w6.alloc (.cells #[.int .i64 3, .slice al6 1 cl6, .slice ac6 1 cc6] 25)) (.agg #[.int .i64 3, .slice al6 1 cl6, .slice ac6 1 cc6]) f4 from ⟨_, _, rfl, (ho1.below hn).read fc_len, (ho2.below hn).read wc_len⟩)
  clear ho1 ho2 hb hn hbb e1 e2 e3
  go_upto_region 7 with fail
  generalize w6.alloc (.cells #[.int .i64 3, .slice al6 1 cl6, .slice ac6 1 cc6] 25) = W6 at HX6 HF6 HB6 HO6 HG HFg ⊢
  generalize w6.heap.size = N6 at HG ⊢
  obtain ⟨e1, e2, e3⟩ := HG.out.cells
  go_wp2_with fail
  refine (Put_any _ f4 1 2 { data := #[99] } _ HFg.out (by unfold Wy.Ok; decide) ok12 (by decide) (by decide) (by unfold I64; decide)).mono ?_
  rintro e w7 ⟨vl, vc, rfl, ho1, ho2, hb⟩
  simp only [put7, n4]
  obtain ⟨al7, cl7, rfl⟩ := ho1.slice
  obtain ⟨ac7, cc7, rfl⟩ := ho2.slice
  rw [put7]
  have hn := below_new w7 (.cells #[.int .i64 3, .slice al7 f4.list.length cl7, .slice ac7 f4.cut.length cc7] 25)
  have hbb := hb.trans (hn.mono hb.size)
  have HX7 := Lib.hid (HX6.out.keep hbb); have HF7 := Lib.hid (HF6.out.keep hbb); have HB7 := Lib.hid (HB6.out.trans (hbb.mono HB6.out.size))
  have HO7 := Lib.hid (HO6.out.keep hbb)
  clear ho1 ho2 hb hn hbb e1 e2 e3
  go_upto_region 8 with fail
  generalize w7.alloc (.cells #[.int .i64 3, .slice al7 f4.list.length cl7, .slice ac7 f4.cut.length cc7] 25) = W7 at HX7 HF7 HB7 HO7 ⊢
  have HOc := Lib.hid (below_new W7 (.cells #[.int .i64 1, .int .i64 3] 2))
  have HS8 := Lib.hid (sl_two W7 1 3 2 _ rfl)
  have HX8 := Lib.hid (HX7.out.keep HOc.out); have HF8 := Lib.hid (HF7.out.keep HOc.out); have HO8 := Lib.hid (HO7.out.keep HOc.out)
  have HB8 := Lib.hid (HB7.out.trans (HOc.out.mono HB7.out.size))
  go_wp2_with fail
  refine (ints_any _ _ [1, 3] [1, 3] _ HO8.out HS8.out).mono ?_
  rintro e w9 ⟨r, rfl, hr, hb⟩
  obtain rfl : r = true := hr.2 rfl
  have HX9 := Lib.hid (HX8.out.keep hb); have HF9 := Lib.hid (HF8.out.keep hb); have HB9 := Lib.hid (HB8.out.trans (hb.mono HB8.out.size))
  clear hr hb
  obtain ⟨e1, e2, e3⟩ := HX9.out.cells
  go_wp2_with fail
  refine (Fit_any _ f3 _ HF9.out).mono ?_
  rintro e w10 ⟨rfl, hb⟩
  rw [fit8]
  have HB10 := Lib.hid (HB9.out.trans (hb.mono HB9.out.size))
  clear hb e1 e2 e3
  go_wp2
  go_ret
  exact ⟨rfl, HB10.out⟩

end Go.Proofs.Ytakgpkjkdlacaaa.flight
