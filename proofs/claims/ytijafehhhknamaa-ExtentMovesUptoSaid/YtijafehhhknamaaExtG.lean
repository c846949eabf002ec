/- Extents of two lists in order. -/
import Derived.Test.YtijafehhhknamaaRows
import Derived.Test.YtijafehhhknamaaExtF
namespace Go.Proofs.Ytijafehhhknamaa.ext
open Go.RowKit Go.Sort
open Go.Proofs.Ytijafehhhknamaa.kit Go.Proofs.Ytijafehhhknamaa.own
set_option linter.unusedVariables false

/-- Extents in an order, in memory of the call's own. -/
def RisS (w : World) (xs : List Wy) (e : Ending) (w' : World) : Prop := ∃ v zs, e = .returned v ∧ List.Perm zs xs ∧ zs.Pairwise (fun x y => x.1 ≤ y.1) ∧ Own wc 2 48 w' w.heap.size v zs ∧ Below w.heap.size w w'

set_option maxHeartbeats 4000000 in
set_option maxRecDepth 100000 in
theorem rising_any (va vb : Value) (xs ys : List Wy) (w : World) (ha : Sl wc 2 w va xs) (hb : Sl wc 2 w vb ys) (hl : (xs.length + ys.length) * 16 ≤ 140737488355328) :
    Calls Try.prog 33 #[va, vb] w (RisS w (xs ++ ys)) := by
  have hbn := below_new w (.cells #[va, vb] 22)
  have HA := Lib.hid (ha.keep hbn); have HBb := Lib.hid (hb.keep hbn); have HLn := Lib.hid hl; have HBn := Lib.hid hbn
  have hc0 : (w.alloc (.cells #[va, vb] 22)).cell? ⟨w.heap.size, 0, none⟩ = some va := by rw [World.cell?_alloc_at _ _ _ _ rfl]; rfl
  have hc1 : (w.alloc (.cells #[va, vb] 22)).cell? ⟨w.heap.size, 1, none⟩ = some vb := by rw [World.cell?_alloc_at _ _ _ _ rfl]; rfl
  have HC0 := Lib.hid hc0; have HC1 := Lib.hid hc1
  obtain ⟨a1, c1, rfl⟩ := ha.slice
  obtain ⟨a2, c2, rfl⟩ := hb.slice
  clear ha hb hl hbn hc0 hc1
  go_enter Try.func33, Try.ntmps33
  go_wp2_with fail
  refine (concatW_any w.heap.size _ _ xs ys _ HA.out HBb.out HC0.out HC1.out HLn.out).mono ?_
  rintro e w1 ⟨v1, rfl, ho1, hb1⟩
  have HB1 := Lib.hid (HBn.out.trans (hb1.mono HBn.out.size))
  have hzl : (xs ++ ys).length < 4611686018427387904 := by have := HLn.out; rw [List.length_append]; omega
  obtain ⟨zz, hz⟩ : ∃ z, xs ++ ys = z := ⟨_, rfl⟩
  rw [hz] at ho1 hzl
  have HZ := Lib.hid hz
  clear hz
  have HLm := Lib.hid hzl
  clear hzl
  have ho1 := ho1.mono HBn.out.size
  rcases ho1.at with ⟨rfl, h0⟩ | ⟨g, cap, rfl, hBg, hat⟩
  · have HO := Lib.hid ho1
    have HE := Lib.hid h0
    clear ho1 hb1 h0
    go_wp2_with (go_at_call 43; refine (AnyF.slices_SortFunc_none Try.sortWays none 0 _ _).mono ?_; rintro e w2 ⟨rfl, rfl⟩)
    go_ret
    exact ⟨_, zz, rfl, by rw [HZ.out], by rw [HE.out]; exact List.Pairwise.nil, HO.out, HB1.out⟩
  · have HAt := Lib.hid hat; have HG := Lib.hid hBg
    clear ho1 hb1 hat hBg
    go_wp2_with (go_at_call 43; refine (sortF_any g cap zz _ HAt.out HLm.out).mono ?_; rintro e w2 ⟨rfl, zs, hp, hpw, hat2, hg2⟩; have HP := Lib.hid hp; have HPw := Lib.hid hpw; have HA2 := Lib.hid hat2; have HG2 := Lib.hid hg2; clear hp hpw hat2 hg2)
    go_ret
    refine ⟨_, zs, rfl, by rw [HZ.out]; exact HP.out, HPw.out, ?_, HB1.out.grown HG2.out HB1.out.size (fun j hj => by cases hj; exact HG.out)⟩
    have := HA2.out.own wc_len HG.out
    rw [HP.out.length_eq] at this
    exact this

end Go.Proofs.Ytijafehhhknamaa.ext
