/- The document's On. -/
import Derived.Test.YtakgpkjkdlacaaaRows
import Derived.Test.YtakgpkjkdlacaaaFlightPick
import Derived.Test.YtakgpkjkdlacaaaFlightSame
namespace Go.Proofs.Ytakgpkjkdlacaaa.flight
open Go.RowKit
open Go.Proofs.Ytakgpkjkdlacaaa.kit Go.Proofs.Ytakgpkjkdlacaaa.own
set_option linter.unusedVariables false

/-- The numbers of the frames on a way. -/
def onE (y : Wy) (xs : List Frm) : List Int := (xs.filter (onWay y)).map Frm.num
theorem onE_len (y : Wy) (xs : List Frm) : (onE y xs).length ≤ xs.length := by
  unfold onE
  rw [List.length_map]
  exact List.length_filter_le ..
theorem onE_yes (a b : Int) (xs : List Frm) (x : Frm) (h1 : x.src = a) (h2 : x.dst = b) : onE (a, b) (xs ++ [x]) = onE (a, b) xs ++ [x.num] := by
  unfold onE
  rw [List.filter_append, List.map_append]
  have : onWay (a, b) x = true := by simp [onWay, h1, h2]
  simp [this]
theorem onE_no (a b : Int) (xs : List Frm) (x : Frm) (h : ¬ (x.src = a ∧ x.dst = b)) : onE (a, b) (xs ++ [x]) = onE (a, b) xs := by
  unfold onE
  rw [List.filter_append, List.map_append]
  have : onWay (a, b) x = false := by simpa [onWay] using h
  simp [this]
theorem infoI64 : (Try.prog.info? 2).map (fun i => (i.zero, i.size, i.bytes)) = some (some (.int .i64 0), 1, 8) := by kernel_rfl
/-- A row of numbers is handed back. -/
def NumS (w : World) (ns : List Int) (e : Ending) (w' : World) : Prop := ∃ v, e = .returned v ∧ Own ic 1 2 w' w.heap.size v ns ∧ Below w.heap.size w w'

set_option maxHeartbeats 8000000 in
set_option maxRecDepth 100000 in
theorem rOn_any (v : Value) (f : Flt) (a b : Int) (w : World) (h : FlR w v f) (hl1 : f.list.length * 40 ≤ 140737488355328) :
    Calls Try.prog 17 #[v, .int .i64 a, .int .i64 b] w (NumS w (onE (a, b) f.list)) := by
  obtain ⟨vl, vc, rfl, hl, hc⟩ := h
  have hb := below_new w (.cells #[.int .i64 f.next, vl, vc] 25)
  have HS := Lib.hid (hl.keep hb); have HX := Lib.hid (fbox_new w f.next vl vc); have HB := Lib.hid hb
  obtain ⟨al, cl, rfl⟩ := hl.slice
  have hnl : f.list.length ≤ 9223372036854775807 := hl.1
  obtain ⟨n, l, c⟩ := f
  simp only at HS HX HB hnl hl1 ⊢
  obtain ⟨L, hL⟩ : ∃ L, l.length = L := ⟨_, rfl⟩
  have HL := Lib.hid hL
  simp only [hL] at HS HX HB hnl hl1 ⊢
  have HLn := Lib.hid hl1
  clear hl hc hb hL hl1
  go_enter Try.func17, Try.ntmps17
  go_upto_region 1 with fail
  generalize (w.alloc (.cells #[.int .i64 n, _, vc] 25)) = W at HS HX HB ⊢
  obtain ⟨N, hN⟩ : ∃ N, w.heap.size = N := ⟨_, rfl⟩
  rw [hN] at HX ⊢
  have HN := Lib.hid hN
  clear hN
  go_wp2
  go_loopw [7, 8] (fun v i wr => ∃ k : Nat, k ≤ L ∧ i = .int .i64 k ∧ Own ic 1 2 wr W.heap.size v (onE (a, b) (l.take k)) ∧ Below W.heap.size W wr) (fun _ i _ => L - (intOf i).toNat)
  case atStart => exact ⟨0, by omega, rfl, Own.nil .., Below.refl _ _⟩
  case round =>
    obtain ⟨k, hk, rfl, ho, hb⟩ := hrel
    obtain ⟨ax, cx, rfl⟩ := ho.slice
    have HO := Lib.hid ho; have HW := Lib.hid hb
    clear ho hb
    obtain ⟨e1, e2, e3⟩ := (HX.out.keep HW.out).cells
    by_cases hlt : k < L
    · have hlt' : (k : Int) < L := by omega
      have hk0 : (0 : Int) ≤ k := by omega
      have hi1 : k < l.length := by rw [HL.out]; exact hlt
      have hsa := HS.out.keep HW.out
      rw [← HL.out] at hsa
      obtain ⟨_, a', cap', he, -, hcell⟩ := hsa
      cases he
      obtain ⟨bk, off, rfl, hbl, hcell⟩ := hcell (by omega)
      obtain ⟨c1, c2, c3, c4⟩ := fcells_at (hcell k hi1)
      have ht1 : l.take (k + 1) = l.take k ++ [l[k]] := List.take_succ_eq_append_getElem hi1
      have hle := onE_len (a, b) (l.take k)
      rw [List.length_take] at hle
      obtain ⟨x, hx⟩ : ∃ x, l[k] = x := ⟨_, rfl⟩
      rw [hx] at c1 c2 c3 c4 ht1
      have HT := Lib.hid ht1
      obtain ⟨M, hM⟩ : ∃ M, (onE (a, b) (l.take k)).length = M := ⟨_, rfl⟩
      have HM := Lib.hid hM
      have HMk : Hid (M ≤ k) := Lib.hid (by omega)
      rw [hM] at HO ⊢
      clear hcell hx hbl ht1 hle hM
      by_cases hs : x.src = a
      · by_cases hd : x.dst = b
        · have HE := Lib.hid (onE_yes a b (l.take k) x hs hd)
          have HSn := Lib.hid (sl_new ic_len wr x.num 2 _ rfl)
          have hbn := below_new wr (.cells (ic x.num).toArray 2)
          have HO3 := Lib.hid (HO.out.below hbn)
          have HBn := Lib.hid (HW.out.trans (hbn.mono HW.out.size))
          clear hbn
          go_wp2_with (at_builtin; refine appSl ic_len ic_one (by decide) rfl _ _ 33 rfl W.heap.size 2 _ (by rfl) 8 Try.underlying33 infoI64 _ (onE (a, b) (l.take k)) rfl HO3.out _ [x.num] rfl HSn.out (by rw [HM.out]; have := HLn.out; have := HMk.out; unfold maxLen; simp; omega) (by rw [HM.out]; have := HLn.out; have := HMk.out; simp; omega) HBn.out.size ?_; intro v3 w3 ho3 hk3; obtain ⟨x3, y3, rfl⟩ := ho3.slice; have HO4 := Lib.hid ho3; have HB4 := Lib.hid (HBn.out.trans hk3.toBelow); clear ho3 hk3)
          clear c1 c2 c3 c4 e1 e2 e3
          go_wp2
          go_roundw
          case rel => exact ⟨k + 1, by omega, by go_num, by rw [HT.out, HE.out]; have := HO4.out; simp only [List.length_append, List.length_cons, List.length_nil, Nat.zero_add] at this ⊢; exact this, HB4.out⟩
          case measure => simp [intOf]; omega
        · have HE := Lib.hid (onE_no a b (l.take k) x (fun h => hd h.2))
          go_wp2
          go_roundw
          case rel => exact ⟨k + 1, by omega, by go_num, by rw [HT.out, HE.out]; exact HO.out, HW.out⟩
          case measure => simp [intOf]; omega
      · have HE := Lib.hid (onE_no a b (l.take k) x (fun h => hs h.1))
        go_wp2
        go_roundw
        case rel => exact ⟨k + 1, by omega, by go_num, by rw [HT.out, HE.out]; exact HO.out, HW.out⟩
        case measure => simp [intOf]; omega
    · obtain rfl : k = L := by omega
      have HE : Hid (l.take k = l) := Lib.hid (by rw [← HL.out, List.take_length])
      go_wp2
      go_ret
      refine ⟨_, rfl, ?_, HB.out.trans (HW.out.mono HB.out.size)⟩
      have := HO.out
      rw [HE.out] at this ⊢
      exact this.mono HB.out.size

end Go.Proofs.Ytakgpkjkdlacaaa.flight
