/- Texts laid together: RepRow, RepUse, RepCnt, RepUni, RepSaid. -/
import Derived.Test.YtcofmfjhgbihkaaRows
import Derived.Test.YtcofmfjhgbihkaaMapsRFst
import Derived.Maps.OwnSet
import Derived.DeepKeys4
import Derived.Maps.OwnOps
namespace Go.Proofs.Ytcofmfjhgbihkaa.crush
open Go.RowKit
open Go.Proofs.Ytcofmfjhgbihkaa.kit Go.Proofs.Ytcofmfjhgbihkaa.own
set_option linter.unusedVariables false
set_option linter.unusedSimpArgs false

def nc (c : IncV) : List Value := c.cells
theorem nc_len (c : IncV) : (nc c).length = 8 := rfl
theorem nc_one (c : IncV) : ∀ v ∈ nc c, v.oneCell' = true := by
  intro v hv
  simp [nc, IncV.cells] at hv
  rcases hv with rfl | rfl | rfl | rfl | rfl | rfl | rfl | rfl <;> rfl
theorem infoIncR : (Try.prog.info? 87).map (fun i => (i.zero, i.size, i.bytes)) = some (some (.agg #[.int .i64 0, .int .i64 0, .int .i64 0, .int .i64 0, .int .i64 0, .int .i64 0, .int .i64 0, .int .i64 0]), 8, 64) := by kernel_rfl
theorem ncells8 {w : World} {b o : Nat} {x : IncV} (h : w.rangeAt b o (nc x)) : w.cell? ⟨b, o, none⟩ = some (.int .i64 x.kind) ∧ w.cell? ⟨b, o + 1, none⟩ = some (.int .i64 x.osd) ∧ w.cell? ⟨b, o + 2, none⟩ = some (.int .i64 x.client) ∧ w.cell? ⟨b, o + 3, none⟩ = some (.int .i64 x.num) ∧ w.cell? ⟨b, o + 4, none⟩ = some (.int .i64 x.pool.size) ∧ w.cell? ⟨b, o + 5, none⟩ = some (.int .i64 x.pool.min) ∧ w.cell? ⟨b, o + 6, none⟩ = some (.int .i64 x.pool.pgs) ∧ w.cell? ⟨b, o + 7, none⟩ = some (.int .i64 x.pool.dom) := ⟨h 0 _ rfl, h 1 _ rfl, h 2 _ rfl, h 3 _ rfl, h 4 _ rfl, h 5 _ rfl, h 6 _ rfl, h 7 _ rfl⟩
theorem inc_val (c : IncV) : c.val = .agg (nc c).toArray := rfl

set_option maxHeartbeats 4000000 in
set_option maxRecDepth 100000 in
theorem cloneN (v : Value) (xs : List IncV ) (w : World) (h : Sl nc 8 w v xs) (hl : xs.length * 64 ≤ 140737488355328) :
    Calls Try.prog 83 #[v] w (RowS nc 8 87 w xs) := by
  obtain ⟨a, c, rfl⟩ := h.slice
  cases a with
  | none =>
    obtain ⟨rfl, -, rfl⟩ := h.empty_of_nil
    have HR := Lib.hid (show RowS nc 8 87 w [] (.returned (.slice none 0 0)) w from ⟨_, rfl, Own.nil _ _ _, Below.refl _ _⟩)
    clear h
    rw [List.length_nil]
    have hnil := fun w => Lib.run_eql_slice_nil (P := Try.prog) w 78 87 none 0 0 0 0 Try.underlying78
    go_enter Try.func83 , Try.ntmps83 
    go_wp2
    go_ret
    exact HR.out
  | some a =>
    have hb : Below w.heap.size w (w.alloc (.cells #[] 87 )) := (Below.refl _ _).alloc (Nat.le_refl _) _
    have HS := Lib.hid (h.keep hb); have HB := Lib.hid hb; have HL := Lib.hid hl
    have HO := Lib.hid (own_none (enc := nc ) (k := 8 ) (e := 87 ) w w.heap.size (Nat.le_refl _))
    clear h hb hl
    obtain ⟨L, hL⟩ : ∃ L, xs.length = L := ⟨_, rfl⟩
    have HLe := Lib.hid hL
    rw [hL] at HS ⊢
    clear hL
    have hnil := fun w => Lib.run_eql_slice_nil (P := Try.prog) w 78 87 (some a) L c 0 0 Try.underlying78
    go_enter Try.func83 , Try.ntmps83 
    go_wp2_with (at_builtin; refine appSl nc_len nc_one (by decide) rfl _ _ 78 rfl w.heap.size 87 _ (by rfl) 64 Try.underlying78 infoIncR _ [] rfl HO.out _ xs rfl HS.out (by have := HL.out; unfold maxLen; simp; omega) (by have := HL.out; simpa using this) (by simp) ?_; intro v2 w2 ho2 hk2; obtain ⟨x2, y2, rfl⟩ := ho2.slice; have HO2 := Lib.hid ho2; have HK := Lib.hid hk2; clear ho2 hk2)
    go_ret
    exact ⟨_, rfl, by simpa using HO2.out, HB.out.trans HK.out.toBelow⟩

/-- Where one stands first; -1: nowhere. -/
def posI {α : Type} (p : α → Bool) (xs : List α) : Int := match xs.findIdx? p with
  | some i => (i : Int)
  | none => -1
theorem posI_some {α : Type} {p : α → Bool} {xs : List α} {i : Nat} (hi : i < xs.length) (h : p xs[i] = true) (hn : ∀ j (hj : j < xs.length), j < i → p xs[j] = false) : posI p xs = i := by
  have : xs.findIdx? p = some i := List.findIdx?_eq_some_iff_getElem.2 ⟨hi, h, fun j hj => by rw [hn j (by omega) hj]; decide⟩
  unfold posI; rw [this]
theorem posI_none {α : Type} {p : α → Bool} {xs : List α} (hn : ∀ j (hj : j < xs.length), p xs[j] = false) : posI p xs = -1 := by
  have : xs.findIdx? p = none := List.findIdx?_eq_none_iff.2 (fun x hx => by
    obtain ⟨j, hj, rfl⟩ := List.getElem_of_mem hx
    exact hn j hj)
  unfold posI; rw [this]
def hasInc (xs : List IncV) (y : IncV) : Bool := xs.any fun x => decide (y = x)
def IdxN (w : World) (xs : List IncV) (y : IncV) (e : Ending) (w' : World) : Prop := ∃ i : Int, e = .returned (.int .i64 i) ∧ (decide (0 ≤ i) = hasInc xs y) ∧ Below w.heap.size w w'
set_option maxHeartbeats 8000000 in
set_option maxRecDepth 100000 in
theorem IndexN_any (v : Value) (xs : List IncV) (y : IncV) (w : World) (h : Sl nc 8 w v xs) : Calls Try.prog 107 #[v, .agg (nc y).toArray] w (IdxN w xs y) := by
  obtain ⟨hl, a, c, rfl, -, hc⟩ := h
  have HC := Lib.hid hc
  have HAll : Hid (∀ k, k = xs.length → (∀ j (h : j < xs.length), j < k → ¬ y = xs[j]) → hasInc xs y = false) := Lib.hid (fun k e h => by
    unfold hasInc
    cases hh : xs.any fun x => decide (y = x) with
    | false => rfl
    | true =>
      obtain ⟨x, hx, h2⟩ := List.any_eq_true.1 hh
      obtain ⟨j, hj, e2⟩ := List.getElem_of_mem hx
      exact absurd (by rw [e2]; exact of_decide_eq_true h2) (h j hj (by omega)))
  have HOne : Hid (∀ k (h : k < xs.length), y = xs[k] → hasInc xs y = true) := Lib.hid (fun k h e => List.any_eq_true.2 ⟨_, List.getElem_mem h, decide_eq_true e⟩)
  have HQ := fun x u => eql_inc y x u
  have hb := below_new w (.cells (nc y).toArray 87)
  have hx := alloc_at w (.cells (nc y).toArray 87)
  unfold IdxN
  generalize hasInc xs y = R at HAll HOne ⊢
  obtain ⟨L, hL⟩ : ∃ L, xs.length = L := ⟨_, rfl⟩
  have HL := Lib.hid hL
  rw [hL] at hl ⊢
  obtain ⟨yk, yo, yc, yn, ⟨ya, yb, yp, yd⟩⟩ := y
  unfold IncV.val at HQ
  simp only [nc, IncV.cells] at hb hx HQ ⊢
  obtain ⟨U, hU⟩ : ∃ U, w.alloc (.cells #[.int .i64 yk, .int .i64 yo, .int .i64 yc, .int .i64 yn, .int .i64 ya, .int .i64 yb, .int .i64 yp, .int .i64 yd] 87) = U := ⟨_, rfl⟩
  rw [hU] at hb
  have hx2 : U.heap[w.heap.size]? = some (.cells #[.int .i64 yk, .int .i64 yo, .int .i64 yc, .int .i64 yn, .int .i64 ya, .int .i64 yb, .int .i64 yp, .int .i64 yd] 87 (0, 0)) := by rw [← hU]; exact hx
  have HB := Lib.hid hb; have HX := Lib.hid hx2
  have HBm : Hid (∀ u, Below U.heap.size U u → u.cell? ⟨w.heap.size, 0, none⟩ = some (.int .i64 yk) ∧ u.cell? ⟨w.heap.size, 1, none⟩ = some (.int .i64 yo) ∧ u.cell? ⟨w.heap.size, 2, none⟩ = some (.int .i64 yc) ∧ u.cell? ⟨w.heap.size, 3, none⟩ = some (.int .i64 yn) ∧ u.cell? ⟨w.heap.size, 4, none⟩ = some (.int .i64 ya) ∧ u.cell? ⟨w.heap.size, 5, none⟩ = some (.int .i64 yb) ∧ u.cell? ⟨w.heap.size, 6, none⟩ = some (.int .i64 yp) ∧ u.cell? ⟨w.heap.size, 7, none⟩ = some (.int .i64 yd)) := Lib.hid (fun u hu => ncells8 (x := ⟨yk, yo, yc, yn, ⟨ya, yb, yp, yd⟩⟩) (cells_range (l := nc ⟨yk, yo, yc, yn, ⟨ya, yb, yp, yd⟩⟩) ((hu.block _ (Array.getElem?_eq_some_iff.1 HX.out).1).trans HX.out)))
  have HQh := Lib.hid HQ
  clear hc hL hb hx hx2 HQ
  go_enter Try.func107, Try.ntmps107
  go_wp2
  clear hU
  go_loopw [8] (fun vi wr => ∃ k : Nat, k ≤ L ∧ vi = .int .i64 k ∧ Hid (∀ j (h : j < xs.length), j < k → ¬ (⟨yk, yo, yc, yn, ⟨ya, yb, yp, yd⟩⟩ : IncV) = xs[j]) ∧ Below U.heap.size U wr) (fun i _ => L - (intOf i).toNat)
  case atStart => exact ⟨0, by omega, rfl, Lib.hid (fun j h h2 => by omega), Below.refl _ _⟩
  case round =>
    obtain ⟨k, hk, rfl, HN, hbw⟩ := hrel
    have HBw := Lib.hid hbw
    clear hbw
    by_cases hlt : k < L
    · have hlt' : (k : Int) < L := by omega
      have hk0 : (0 : Int) ≤ k := by omega
      have hi : k < xs.length := by rw [HL.out]; exact hlt
      obtain ⟨b, off, rfl, hbl, hcell⟩ := HC.out (by omega)
      have hd := range_keep (hcell k hi) hbl (HB.out.trans (HBw.out.mono HB.out.size))
      obtain ⟨x, hxk⟩ : ∃ x, xs[k] = x := ⟨_, rfl⟩
      have HY := Lib.hid hxk
      have hQ := HQh.out x
      rw [hxk] at hd
      obtain ⟨xk, xo, xc, xn, ⟨xa, xb, xp, xd⟩⟩ := x
      have HDw := Lib.hid (below_drew HBw.out)
      have hd := range_keep hd (Nat.lt_of_lt_of_le hbl (HB.out.trans (HBw.out.mono HB.out.size)).size) (below_drew (Below.refl wr.heap.size wr))
      obtain ⟨d0, d1, d2, d3, d4, d5, d6, d7⟩ := ncells8 hd
      simp only at d0 d1 d2 d3 d4 d5 d6 d7
      obtain ⟨q, hq⟩ : ∃ q, decide ((⟨yk, yo, yc, yn, ⟨ya, yb, yp, yd⟩⟩ : IncV) = ⟨xk, xo, xc, xn, ⟨xa, xb, xp, xd⟩⟩) = q := ⟨_, rfl⟩
      rw [hq] at hQ
      simp only at hQ
      have HQq := Lib.hid hq
      obtain ⟨s0, s1, s2, s3, s4, s5, s6, s7⟩ := HBm.out _ HDw.out
      have HBx := Lib.hid (HB.out.trans (HDw.out.mono HB.out.size))
      clear hcell hbl hd hxk hq
      cases q with
      | true =>
        have HR : Hid (R = true) := Lib.hid (HOne.out k hi (by rw [HY.out]; exact of_decide_eq_true HQq.out))
        go_upto_region 4 with fail
        go_region_held3 (fun u => (u.cell? ⟨w.heap.size, 0, none⟩ = some (.int .i64 yk) ∧ u.cell? ⟨w.heap.size, 1, none⟩ = some (.int .i64 yo) ∧ u.cell? ⟨w.heap.size, 2, none⟩ = some (.int .i64 yc) ∧ u.cell? ⟨w.heap.size, 3, none⟩ = some (.int .i64 yn) ∧ u.cell? ⟨w.heap.size, 4, none⟩ = some (.int .i64 ya) ∧ u.cell? ⟨w.heap.size, 5, none⟩ = some (.int .i64 yb) ∧ u.cell? ⟨w.heap.size, 6, none⟩ = some (.int .i64 yp) ∧ u.cell? ⟨w.heap.size, 7, none⟩ = some (.int .i64 yd)) ∧ u.cell? ⟨b, off + k * 8, none⟩ = some (.int .i64 xk) ∧ u.cell? ⟨b, off + k * 8 + 1, none⟩ = some (.int .i64 xo) ∧ u.cell? ⟨b, off + k * 8 + 2, none⟩ = some (.int .i64 xc) ∧ u.cell? ⟨b, off + k * 8 + 3, none⟩ = some (.int .i64 xn) ∧ u.cell? ⟨b, off + k * 8 + 4, none⟩ = some (.int .i64 xa) ∧ u.cell? ⟨b, off + k * 8 + 5, none⟩ = some (.int .i64 xb) ∧ u.cell? ⟨b, off + k * 8 + 6, none⟩ = some (.int .i64 xp) ∧ u.cell? ⟨b, off + k * 8 + 7, none⟩ = some (.int .i64 xd))
          (first | exact ⟨⟨s0, s1, s2, s3, s4, s5, s6, s7⟩, d0, d1, d2, d3, d4, d5, d6, d7⟩)
          (first | fail)
        go_wp2
        go_ret
        exact ⟨_, rfl, by rw [HR.out]; simp, HBx.out⟩
      | false =>
        have HN2 : Hid (∀ j (h : j < xs.length), j < k + 1 → ¬ (⟨yk, yo, yc, yn, ⟨ya, yb, yp, yd⟩⟩ : IncV) = xs[j]) := Lib.hid (fun j h h2 => by
          rcases Nat.lt_or_ge j k with h3 | h3
          · exact HN.out j h h3
          · obtain rfl : j = k := by omega
            rw [HY.out]; exact of_decide_eq_false HQq.out)
        go_upto_region 4 with fail
        go_region_held3 (fun u => (u.cell? ⟨w.heap.size, 0, none⟩ = some (.int .i64 yk) ∧ u.cell? ⟨w.heap.size, 1, none⟩ = some (.int .i64 yo) ∧ u.cell? ⟨w.heap.size, 2, none⟩ = some (.int .i64 yc) ∧ u.cell? ⟨w.heap.size, 3, none⟩ = some (.int .i64 yn) ∧ u.cell? ⟨w.heap.size, 4, none⟩ = some (.int .i64 ya) ∧ u.cell? ⟨w.heap.size, 5, none⟩ = some (.int .i64 yb) ∧ u.cell? ⟨w.heap.size, 6, none⟩ = some (.int .i64 yp) ∧ u.cell? ⟨w.heap.size, 7, none⟩ = some (.int .i64 yd)) ∧ u.cell? ⟨b, off + k * 8, none⟩ = some (.int .i64 xk) ∧ u.cell? ⟨b, off + k * 8 + 1, none⟩ = some (.int .i64 xo) ∧ u.cell? ⟨b, off + k * 8 + 2, none⟩ = some (.int .i64 xc) ∧ u.cell? ⟨b, off + k * 8 + 3, none⟩ = some (.int .i64 xn) ∧ u.cell? ⟨b, off + k * 8 + 4, none⟩ = some (.int .i64 xa) ∧ u.cell? ⟨b, off + k * 8 + 5, none⟩ = some (.int .i64 xb) ∧ u.cell? ⟨b, off + k * 8 + 6, none⟩ = some (.int .i64 xp) ∧ u.cell? ⟨b, off + k * 8 + 7, none⟩ = some (.int .i64 xd))
          (first | exact ⟨⟨s0, s1, s2, s3, s4, s5, s6, s7⟩, d0, d1, d2, d3, d4, d5, d6, d7⟩)
          (first | fail)
        clear hQ d0 d1 d2 d3 d4 d5 d6 d7 s0 s1 s2 s3 s4 s5 s6 s7
        go_wp2
        go_roundw
        case rel => exact ⟨k + 1, by omega, by go_num, HN2, HDw.out⟩
        case measure => simp [intOf]; omega
    · obtain rfl : k = L := by omega
      have HF := Lib.hid (HAll.out k HL.out.symm HN.out)
      have HBx := Lib.hid (HB.out.trans (HBw.out.mono HB.out.size))
      go_wp2
      go_ret
      exact ⟨_, rfl, by rw [HF.out]; rfl, HBx.out⟩

set_option maxHeartbeats 8000000 in
theorem ContainsN_any (v : Value) (xs : List IncV) (y : IncV) (w : World) (h : Sl nc 8 w v xs) : Calls Try.prog 84 #[v, .agg (nc y).toArray] w fun e w' => e = .returned (.bool (hasInc xs y)) ∧ Below w.heap.size w w' := by
  have HI := Lib.hid (fun u (hu : Below w.heap.size w u) => IndexN_any v xs y u (h.keep hu))
  have HB0 := Lib.hid (below_new w (.cells (nc y).toArray 87))
  obtain ⟨a, c, rfl⟩ := h.slice
  unfold IdxN at HI
  generalize hasInc xs y = R at HI ⊢
  generalize xs.length = L at HI ⊢
  obtain ⟨yk, yo, yc, yn, ⟨ya, yb, yp, yd⟩⟩ := y
  simp only [nc, IncV.cells] at HI HB0 ⊢
  clear h
  go_enter Try.func84, Try.ntmps84
  go_wp2_with (go_at_call 107; refine (HI.out _ HB0.out).mono ?_; rintro e w1 ⟨i, rfl, hi, hb⟩; have HH := Lib.hid hi; have HB := Lib.hid (HB0.out.trans (hb.mono HB0.out.size)); clear hi hb)
  go_ret
  exact ⟨by rw [← HH.out]; rfl, HB.out⟩


set_option maxHeartbeats 8000000 in
set_option maxRecDepth 100000 in
theorem indexFN (v : Value) (xs : List IncV ) (N : Nat) (p : IncV → Bool) (w : World) (h : Sl nc 8 w v xs)
    (H : ∀ (x : IncV ) u, Below w.heap.size w u → Calls Try.prog 88 #[.agg #[.int .i64 x.kind, .int .i64 x.osd, .int .i64 x.client, .int .i64 x.num, .int .i64 x.pool.size, .int .i64 x.pool.min, .int .i64 x.pool.pgs, .int .i64 x.pool.dom] , .pointer (some ⟨N, 0, none⟩) ] u fun e w' => e = .returned (.bool (p x)) ∧ Below u.heap.size u w') :
    Calls Try.prog 89 #[v, .func (.func 88 ) #[] #[.pointer (some ⟨N, 0, none⟩) ]] w (fun e w' => e = .returned (.int .i64 (posI p xs)) ∧ Below w.heap.size w w') := by
  obtain ⟨hl, a, c, rfl, -, hc⟩ := h
  have HC := Lib.hid hc; have HH := Lib.hid H
  have HNo := Lib.hid (posI_none (p := p) (xs := xs)); have HYes := Lib.hid (fun i hi h hn => posI_some (p := p) (xs := xs) (i := i) hi h hn)
  generalize posI p xs = R at HNo HYes ⊢
  obtain ⟨L, hL⟩ : ∃ L, xs.length = L := ⟨_, rfl⟩
  have HL := Lib.hid hL
  rw [hL] at hl ⊢
  clear hc hL H
  go_enter Try.func89 , Try.ntmps89 
  go_wp2
  go_loopw [8] (fun vi wr => ∃ k : Nat, k ≤ L ∧ vi = .int .i64 k ∧ Hid (∀ j (h : j < xs.length), j < k → p xs[j] = false) ∧ Below w.heap.size w wr) (fun i _ => L - (intOf i).toNat)
  case atStart => exact ⟨0, by omega, rfl, Lib.hid (fun j h h2 => by omega), Below.refl _ _⟩
  case round =>
    obtain ⟨k, hk, rfl, HN, hbw⟩ := hrel
    have HB := Lib.hid hbw
    clear hbw
    by_cases hlt : k < L
    · have hlt' : (k : Int) < L := by omega
      have hk0 : (0 : Int) ≤ k := by omega
      have hi : k < xs.length := by rw [HL.out]; exact hlt
      obtain ⟨b, off, rfl, hbl, hcell⟩ := HC.out (by omega)
      have hr := range_keep (hcell k hi) hbl HB.out
      obtain ⟨d1, d2, d3, d4, d5, d6, d7, d8⟩ := ncells8 hr
      clear hcell hbl hr
      obtain ⟨y, hy⟩ : ∃ y, xs[k] = y := ⟨_, rfl⟩
      have HY := Lib.hid hy
      rw [hy] at d1 d2 d3 d4 d5 d6 d7 d8 
      have HCy := Lib.hid (HH.out y wr HB.out)
      obtain ⟨q, hq⟩ : ∃ q, p y = q := ⟨_, rfl⟩
      rw [hq] at HCy
      have HQ := Lib.hid hq
      clear hy hq
      cases q with
      | true =>
        have HR : Hid (R = k) := Lib.hid (HYes.out k hi (by rw [HY.out]; exact HQ.out) HN.out)
        go_wp2_with (go_at_call 88 ; refine HCy.out.mono ?_; rintro e w5 ⟨rfl, hb⟩; have HB5 := Lib.hid (HB.out.trans (hb.mono HB.out.size)); clear hb d1 d2 d3 d4 d5 d6 d7 d8 )
        go_ret
        exact ⟨by rw [HR.out]; rfl, HB5.out⟩
      | false =>
        have HN2 : Hid (∀ j (h : j < xs.length), j < k + 1 → p xs[j] = false) := Lib.hid (fun j h h2 => by
          rcases Nat.lt_or_ge j k with h3 | h3
          · exact HN.out j h h3
          · obtain rfl : j = k := by omega
            rw [HY.out]; exact HQ.out)
        go_wp2_with (go_at_call 88 ; refine HCy.out.mono ?_; rintro e w5 ⟨rfl, hb⟩; have HB5 := Lib.hid (HB.out.trans (hb.mono HB.out.size)); clear hb d1 d2 d3 d4 d5 d6 d7 d8 )
        go_roundw
        case rel => exact ⟨k + 1, by omega, by go_num, HN2, HB5.out⟩
        case measure => simp [intOf]; omega
    · obtain rfl : k = L := by omega
      have HF : Hid (R = -1) := Lib.hid (HNo.out (fun j hj => HN.out j hj (by rw [← HL.out]; exact hj)))
      go_wp2
      go_ret
      exact ⟨by rw [HF.out]; rfl, HB.out⟩

end Go.Proofs.Ytcofmfjhgbihkaa.crush

namespace Go.Proofs.Ytcofmfjhgbihkaa.crush
open Go.RowKit
open Go.Proofs.Ytcofmfjhgbihkaa.kit Go.Proofs.Ytcofmfjhgbihkaa.own
set_option linter.unusedVariables false
set_option linter.unusedSimpArgs false

/-- Has one of the first k nodes, but one, a weight? -/
def othF (xs : List OsdV) (but : Int) : Nat → Bool
  | 0 => false
  | k + 1 => othF xs but k || (decide ((k : Int) ≠ but) && decide (0 < (xs.getD k osd0).wt))
theorem othF_mono {xs : List OsdV} {but : Int} {k : Nat} (h : othF xs but k = true) : ∀ {n}, k ≤ n → othF xs but n = true := by
  intro n hn
  induction n with
  | zero =>
    obtain rfl : k = 0 := by omega
    exact h
  | succ n ih =>
    rcases Nat.lt_or_ge n k with h1 | h1
    · obtain rfl : k = n + 1 := by omega
      exact h
    · rw [othF, ih h1]; rfl
def othB (m : MapV) (but : Int) : Bool := othF m.osds but m.osds.length
def usefulB (m : MapV) (c : IncV) : Bool := (chE c m).2 && !(decide (c.kind = 3 ∧ c.num = 0) && !othB m c.osd)

set_option maxHeartbeats 8000000 in
set_option maxRecDepth 100000 in
theorem othersWeigh_any (v : Value) (m : MapV) (but : Int) (w : World) (h : MapR w v m) : Calls Try.prog 85 #[v, .int .i64 but] w fun e w' => e = .returned (.bool (othB m but)) ∧ Below w.heap.size w w' := by
  obtain ⟨vh, vo, vp, vb, rfl, h1, h2, h3, h4⟩ := h
  have HS := Lib.hid (fun u (hu : Below w.heap.size w u) => h2.keep hu)
  obtain ⟨ah, ch, rfl⟩ := h1.slice
  obtain ⟨ao, co, rfl⟩ := h2.slice
  obtain ⟨ap, cp, rfl⟩ := h3.slice
  obtain ⟨ab, cb, rfl⟩ := h4.slice
  have hl := h2.1
  have HStep : Hid (∀ k (hk : k < m.osds.length), othF m.osds but (k + 1) = (othF m.osds but k || (decide ((k : Int) ≠ but) && decide (0 < m.osds[k].wt)))) := Lib.hid (fun k hk => by rw [othF, List.getD_eq_getElem?_getD, List.getElem?_eq_getElem hk, Option.getD_some])
  have HUp : Hid (∀ k (hk : k < m.osds.length), othF m.osds but (k + 1) = true → othB m but = true) := Lib.hid (fun k hk h => othF_mono h hk)
  have HEnd : Hid (∀ k, k = m.osds.length → othF m.osds but k = false → othB m but = false) := Lib.hid (fun k hk h => by unfold othB; rw [← hk]; exact h)
  generalize othB m but = R at HUp HEnd ⊢
  have HB := Lib.hid (below_new w (.cells #[.int .i64 m.epoch, .slice ah m.hosts.length ch, .slice ao m.osds.length co, .slice ap m.pools.length cp, .slice ab m.bans.length cb] 83))
  have HX := Lib.hid (mbox_new w 83 m.epoch (.slice ah m.hosts.length ch) (.slice ao m.osds.length co) (.slice ap m.pools.length cp) (.slice ab m.bans.length cb))
  obtain ⟨L, hL⟩ : ∃ L, m.osds.length = L := ⟨_, rfl⟩
  have HL := Lib.hid hL
  rw [hL] at hl HS HB HX ⊢
  clear h1 h2 h3 h4 hL
  go_enter Try.func85, Try.ntmps85
  go_upto_region 1 with fail
  generalize w.alloc _ = W at HB HX ⊢
  obtain ⟨l0, l1, l2, l3, l4⟩ := HX.out.cells
  go_wp2
  clear l0 l1 l2 l3 l4
  go_loopw [5, 6, 10] (fun v5 v6 v10 wr => ∃ k : Nat, k ≤ L ∧ v10 = .int .i64 k ∧ othF m.osds but k = false ∧ Below W.heap.size W wr) (fun _ _ i _ => L - (intOf i).toNat)
  case atStart => exact ⟨0, by omega, rfl, rfl, Below.refl _ _⟩
  case round =>
    obtain ⟨k, hk, rfl, hf, hbw⟩ := hrel
    have HF := Lib.hid hf
    have HBw := Lib.hid (HB.out.trans (hbw.mono HB.out.size))
    have HBr := Lib.hid hbw
    clear hf hbw
    by_cases hlt : k < L
    · have hlt' : (k : Int) < L := by omega
      have hk0 : (0 : Int) ≤ k := by omega
      have hi : k < m.osds.length := by rw [HL.out]; exact hlt
      obtain ⟨b, off, rfl, hbl, hr⟩ := sl_elem (HS.out _ HBw.out) k hi
      have HSt := Lib.hid (HStep.out k hi)
      have HUk := Lib.hid (HUp.out k hi)
      obtain ⟨d0, d1, d2, d3⟩ := ocells4 hr
      obtain ⟨y, hy⟩ : ∃ y, m.osds[k] = y := ⟨_, rfl⟩
      rw [hy] at d0 d1 d2 d3 HSt
      obtain ⟨bt, up, wt, th⟩ := y
      simp only at d0 d1 d2 d3 HSt
      rw [HF.out] at HSt
      clear hr hbl hy
      go_upto_region 4 with fail
      have hbn := below_new wr (.cells #[.int .i64 bt, .bool up, .int .i64 wt, .int .i64 th] 132)
      have hz := cells_range (l := [.int .i64 bt, .bool up, .int .i64 wt, .int .i64 th]) (alloc_at wr (.cells #[.int .i64 bt, .bool up, .int .i64 wt, .int .i64 th] 132))
      have HB6 := Lib.hid (HBr.out.trans (hbn.mono HBr.out.size))
      clear hbn d0 d1 d2 d3
      generalize wr.alloc _ = U at HB6 hz ⊢
      generalize wr.heap.size = K at hz ⊢
      have d2 : _ = some (Value.int .i64 wt) := hz 2 _ rfl
      simp only [Nat.zero_add] at d2
      clear hz
      by_cases hbut : (k : Int) = but
      · have HN : Hid (othF m.osds but (k + 1) = false) := Lib.hid (by rw [HSt.out]; simp [hbut])
        have hbut' : ((k : Int) != but) = false := by simp [hbut]
        go_wp2
        clear d2
        go_roundw
        case rel => exact ⟨k + 1, by omega, by go_num, HN.out, HB6.out⟩
        case measure => simp [intOf]; omega
      · have hbut' : ((k : Int) != but) = true := by simp [hbut]
        by_cases hw : 0 < wt
        · have HR : Hid (R = true) := Lib.hid (HUk.out (by rw [HSt.out]; simp [hbut, hw]))
          go_wp2
          go_ret
          exact ⟨by rw [HR.out]; rfl, HB.out.trans (HB6.out.mono HB.out.size)⟩
        · have HN : Hid (othF m.osds but (k + 1) = false) := Lib.hid (by rw [HSt.out]; simp [hw])
          go_wp2
          clear d2
          go_roundw
          case rel => exact ⟨k + 1, by omega, by go_num, HN.out, HB6.out⟩
          case measure => simp [intOf]; omega
    · obtain rfl : k = L := by omega
      have HR : Hid (R = false) := Lib.hid (HEnd.out k HL.out.symm HF.out)
      go_wp2
      go_ret
      exact ⟨by rw [HR.out]; rfl, HBw.out⟩

set_option maxHeartbeats 8000000 in
set_option maxRecDepth 100000 in
theorem Useful_any (v : Value) (c : IncV) (m : MapV) (w : World) (h : MapR w v m) (hs : m.Small) (hn : m.osds ≠ []) (hb : okBans m.bans = true) :
    Calls Try.prog 45 #[v, c.val] w fun e w' => e = .returned (.bool (usefulB m c)) ∧ Below w.heap.size w w' := by
  have HCh := Lib.hid (fun u (hu : Below w.heap.size w u) => Changes_all v c m u (h.keep hu) hs hn hb)
  have HOt := Lib.hid (fun u (hu : Below w.heap.size w u) => othersWeigh_any v m c.osd u (h.keep hu))
  obtain ⟨vh, vo, vp, vb, rfl, h1, h2, h3, h4⟩ := h
  obtain ⟨ah, ch, rfl⟩ := h1.slice
  obtain ⟨ao, co, rfl⟩ := h2.slice
  obtain ⟨ap, cp, rfl⟩ := h3.slice
  obtain ⟨ab, cb, rfl⟩ := h4.slice
  have hR : usefulB m c = ((chE c m).2 && !(decide (c.kind = 3 ∧ c.num = 0) && !othB m c.osd)) := rfl
  generalize usefulB m c = R at hR ⊢
  generalize (chE c m).2 = q1 at HCh hR
  generalize othB m c.osd = q2 at HOt hR
  generalize m.hosts.length = Lh at HCh HOt ⊢
  generalize m.osds.length = Lo at HCh HOt ⊢
  generalize m.pools.length = Lp at HCh HOt ⊢
  generalize m.bans.length = Lb at HCh HOt ⊢
  obtain ⟨k, o, cl, n, ⟨a, b, p, d⟩⟩ := c
  unfold IncV.val at HCh ⊢
  simp only at HCh HOt hR ⊢
  have HR := Lib.hid hR
  clear h1 h2 h3 h4 hR hs hn hb
  have b1 := below_new w (.cells #[.int .i64 m.epoch, .slice ah Lh ch, .slice ao Lo co, .slice ap Lp cp, .slice ab Lb cb] 83)
  have x1 := mbox_new w 83 m.epoch (.slice ah Lh ch) (.slice ao Lo co) (.slice ap Lp cp) (.slice ab Lb cb)
  have b2 := below_new (w.alloc (.cells #[.int .i64 m.epoch, .slice ah Lh ch, .slice ao Lo co, .slice ap Lp cp, .slice ab Lb cb] 83)) (.cells #[.int .i64 k, .int .i64 o, .int .i64 cl, .int .i64 n, .int .i64 a, .int .i64 b, .int .i64 p, .int .i64 d] 87)
  have x2 := ibx_new (w.alloc (.cells #[.int .i64 m.epoch, .slice ah Lh ch, .slice ao Lo co, .slice ap Lp cp, .slice ab Lb cb] 83)) ⟨k, o, cl, n, ⟨a, b, p, d⟩⟩
  rw [World.size_alloc] at x2
  have HX := Lib.hid (x1.keep b2)
  have HB := Lib.hid (b1.trans (b2.mono b1.size))
  have HY := Lib.hid x2
  clear b1 b2 x1 x2
  go_enter Try.func45, Try.ntmps45
  go_upto_region 1 with fail
  generalize ((w.alloc (.cells #[.int .i64 m.epoch, .slice ah Lh ch, .slice ao Lo co, .slice ap Lp cp, .slice ab Lb cb] 83)).alloc (.cells #[.int .i64 k, .int .i64 o, .int .i64 cl, .int .i64 n, .int .i64 a, .int .i64 b, .int .i64 p, .int .i64 d] 87)) = U at HX HB HY ⊢
  obtain ⟨c0, c1, c2, c3, c4, c5, c6, c7⟩ := HY.out.cells
  simp only at c0 c1 c2 c3 c4 c5 c6 c7
  obtain ⟨l0, l1, l2, l3, l4⟩ := HX.out.cells
  by_cases hk : k = 3
  · subst hk
    by_cases hn : n = 0
    · subst hn
      cases q2 with
      | true =>
        have HRr : Hid (R = q1) := Lib.hid (by rw [HR.out]; simp)
        go_upto_region 3 with (go_at_call 85; refine (HOt.out _ HB.out).mono ?_; rintro e V ⟨rfl, hb⟩; have HB5 := Lib.hid (HB.out.trans (hb.mono HB.out.size)); have HX5 := Lib.hid (HX.out.keep hb); have HY5 := Lib.hid (HY.out.keep hb); clear hb c0 c1 c2 c3 c4 c5 c6 c7 l0 l1 l2 l3 l4)
        obtain ⟨c0, c1, c2, c3, c4, c5, c6, c7⟩ := HY5.out.cells
        simp only at c0 c1 c2 c3 c4 c5 c6 c7
        obtain ⟨l0, l1, l2, l3, l4⟩ := HX5.out.cells
        go_wp2_with (go_at_call 86; refine (HCh.out _ HB5.out).mono ?_; rintro e V2 ⟨rfl, hb⟩; have HB6 := Lib.hid (HB5.out.trans (hb.mono HB5.out.size)); clear hb)
        go_ret
        exact ⟨by rw [HRr.out]; rfl, HB6.out⟩
      | false =>
        have HRr : Hid (R = false) := Lib.hid (by rw [HR.out]; simp)
        go_wp2_with (go_at_call 85; refine (HOt.out _ HB.out).mono ?_; rintro e V ⟨rfl, hb⟩; have HB5 := Lib.hid (HB.out.trans (hb.mono HB.out.size)); clear hb)
        go_ret
        exact ⟨by rw [HRr.out]; rfl, HB5.out⟩
    · have HRr : Hid (R = q1) := Lib.hid (by rw [HR.out]; simp [hn])
      have hn' : (n == 0) = false := by simp [hn]
      go_wp2_with (go_at_call 86; refine (HCh.out _ HB.out).mono ?_; rintro e V2 ⟨rfl, hb⟩; have HB6 := Lib.hid (HB.out.trans (hb.mono HB.out.size)); clear hb)
      go_ret
      exact ⟨by rw [HRr.out]; rfl, HB6.out⟩
  · have HRr : Hid (R = q1) := Lib.hid (by rw [HR.out]; simp [hk])
    have hk' : (k == 3) = false := by simp [hk]
    go_wp2_with (go_at_call 86; refine (HCh.out _ HB.out).mono ?_; rintro e V2 ⟨rfl, hb⟩; have HB6 := Lib.hid (HB.out.trans (hb.mono HB.out.size)); clear hb)
    go_ret
    exact ⟨by rw [HRr.out]; rfl, HB6.out⟩

set_option maxHeartbeats 8000000 in
set_option maxRecDepth 100000 in
theorem rUseful_any (v : Value) (c : IncV) (m : MapV) (w : World) (h : MapR w v m) (hb : okBans m.bans = true) :
    Calls Try.prog 46 #[v, c.val] w fun e w' => e = .returned (.bool (usefulB m c)) ∧ Below w.heap.size w w' := by
  have HCh := Lib.hid (fun u (hu : Below w.heap.size w u) => rChanges_any v c m u (h.keep hu) hb)
  obtain ⟨vh, vo, vp, vb, rfl, h1, h2, h3, h4⟩ := h
  have HS := Lib.hid (fun u (hu : Below w.heap.size w u) => h2.keep hu)
  obtain ⟨ah, ch, rfl⟩ := h1.slice
  obtain ⟨ao, co, rfl⟩ := h2.slice
  obtain ⟨ap, cp, rfl⟩ := h3.slice
  obtain ⟨ab, cb, rfl⟩ := h4.slice
  have hl := h2.1
  have hR : usefulB m c = ((chE c m).2 && !(decide (c.kind = 3 ∧ c.num = 0) && !othB m c.osd)) := rfl
  have HStep : Hid (∀ k (hk : k < m.osds.length), othF m.osds c.osd (k + 1) = (othF m.osds c.osd k || (decide ((k : Int) ≠ c.osd) && decide (0 < m.osds[k].wt)))) := Lib.hid (fun k hk => by rw [othF, List.getD_eq_getElem?_getD, List.getElem?_eq_getElem hk, Option.getD_some])
  have HUp : Hid (∀ k (hk : k < m.osds.length), othF m.osds c.osd (k + 1) = true → othB m c.osd = true) := Lib.hid (fun k hk h => othF_mono h hk)
  have HEnd : Hid (∀ k, k = m.osds.length → othF m.osds c.osd k = false → othB m c.osd = false) := Lib.hid (fun k hk h => by unfold othB; rw [← hk]; exact h)
  generalize usefulB m c = R at hR ⊢
  generalize (chE c m).2 = q1 at HCh hR
  generalize othB m c.osd = q2 at HUp HEnd hR
  obtain ⟨L, hL⟩ : ∃ L, m.osds.length = L := ⟨_, rfl⟩
  have HL := Lib.hid hL
  rw [hL] at hl HS HCh ⊢
  generalize m.hosts.length = Lh at HCh ⊢
  generalize m.pools.length = Lp at HCh ⊢
  generalize m.bans.length = Lb at HCh ⊢
  obtain ⟨k, o, cl, n, ⟨a, b, p, d⟩⟩ := c
  unfold IncV.val at HCh ⊢
  simp only at HCh HStep HUp HEnd hR ⊢
  have HR := Lib.hid hR
  clear h1 h2 h3 h4 hR hb hL
  have b1 := below_new w (.cells #[.int .i64 m.epoch, .slice ah Lh ch, .slice ao L co, .slice ap Lp cp, .slice ab Lb cb] 83)
  have x1 := mbox_new w 83 m.epoch (.slice ah Lh ch) (.slice ao L co) (.slice ap Lp cp) (.slice ab Lb cb)
  have b2 := below_new (w.alloc (.cells #[.int .i64 m.epoch, .slice ah Lh ch, .slice ao L co, .slice ap Lp cp, .slice ab Lb cb] 83)) (.cells #[.int .i64 k, .int .i64 o, .int .i64 cl, .int .i64 n, .int .i64 a, .int .i64 b, .int .i64 p, .int .i64 d] 87)
  have x2 := ibx_new (w.alloc (.cells #[.int .i64 m.epoch, .slice ah Lh ch, .slice ao L co, .slice ap Lp cp, .slice ab Lb cb] 83)) ⟨k, o, cl, n, ⟨a, b, p, d⟩⟩
  rw [World.size_alloc] at x2
  have HX := Lib.hid (x1.keep b2)
  have HB := Lib.hid (b1.trans (b2.mono b1.size))
  have HY := Lib.hid x2
  clear b1 b2 x1 x2
  go_enter Try.func46, Try.ntmps46
  go_upto_region 1 with fail
  generalize ((w.alloc (.cells #[.int .i64 m.epoch, .slice ah Lh ch, .slice ao L co, .slice ap Lp cp, .slice ab Lb cb] 83)).alloc (.cells #[.int .i64 k, .int .i64 o, .int .i64 cl, .int .i64 n, .int .i64 a, .int .i64 b, .int .i64 p, .int .i64 d] 87)) = U at HX HB HY ⊢
  obtain ⟨c0, c1, c2, c3, c4, c5, c6, c7⟩ := HY.out.cells
  simp only at c0 c1 c2 c3 c4 c5 c6 c7
  obtain ⟨l0, l1, l2, l3, l4⟩ := HX.out.cells
  cases q1 with
  | false =>
    have HRr : Hid (R = false) := Lib.hid (by rw [HR.out]; simp)
    go_wp2_with (go_at_call 87; refine (HCh.out _ HB.out).mono ?_; rintro e V2 ⟨rfl, hb⟩; have HB6 := Lib.hid (HB.out.trans (hb.mono HB.out.size)); clear hb)
    go_ret
    exact ⟨by rw [HRr.out]; rfl, HB6.out⟩
  | true =>
    go_upto_region 3 with (go_at_call 87; refine (HCh.out _ HB.out).mono ?_; rintro e V ⟨rfl, hb⟩; have HB5 := Lib.hid (HB.out.trans (hb.mono HB.out.size)); have HX5 := Lib.hid (HX.out.keep hb); have HY5 := Lib.hid (HY.out.keep hb); clear hb c0 c1 c2 c3 c4 c5 c6 c7 l0 l1 l2 l3 l4)
    obtain ⟨c0, c1, c2, c3, c4, c5, c6, c7⟩ := HY5.out.cells
    simp only at c0 c1 c2 c3 c4 c5 c6 c7
    by_cases hk : k = 3
    · subst hk
      by_cases hn : n = 0
      · subst hn
        have HRr : Hid (R = q2) := Lib.hid (by rw [HR.out]; simp)
        go_upto_region 6 with fail
        go_loopw [5] (fun v5 wr => ∃ k : Nat, k ≤ L ∧ v5 = .int .i64 k ∧ othF m.osds o k = false ∧ wr = V) (fun i _ => L - (intOf i).toNat)
        case atStart => exact ⟨0, by omega, rfl, rfl, rfl⟩
        case round =>
          obtain ⟨k, hk, rfl, hf, rfl⟩ := hrel
          have HF := Lib.hid hf
          clear hf
          clear c0 c1 c2 c3 c4 c5 c6 c7
          obtain ⟨c0, c1, c2, c3, c4, c5, c6, c7⟩ := HY5.out.cells
          simp only at c0 c1 c2 c3 c4 c5 c6 c7
          obtain ⟨l0, l1, l2, l3, l4⟩ := HX5.out.cells
          by_cases hlt : k < L
          · have hlt' : (k : Int) < L := by omega
            have hk0 : (0 : Int) ≤ k := by omega
            have hi : k < m.osds.length := by rw [HL.out]; exact hlt
            obtain ⟨b, off, rfl, hbl, hr⟩ := sl_elem (HS.out _ HB5.out) k hi
            have HSt := Lib.hid (HStep.out k hi)
            have HUk := Lib.hid (HUp.out k hi)
            obtain ⟨d0, d1, d2, d3⟩ := ocells4 hr
            obtain ⟨y, hy⟩ : ∃ y, m.osds[k] = y := ⟨_, rfl⟩
            rw [hy] at d0 d1 d2 d3 HSt
            obtain ⟨bt, up, wt, th⟩ := y
            simp only at d0 d1 d2 d3 HSt
            rw [HF.out] at HSt
            clear hr hbl hy
            by_cases hbut : (k : Int) = o
            · have HN : Hid (othF m.osds o (k + 1) = false) := Lib.hid (by rw [HSt.out]; simp [hbut])
              have hbut' : ((k : Int) != o) = false := by simp [hbut]
              go_wp2
              clear d0 d1 d2 d3 c0 c1 c2 c3 c4 c5 c6 c7 l0 l1 l2 l3 l4
              go_roundw
              case rel => exact ⟨k + 1, by omega, by go_num, HN.out, trivial⟩
              case measure => simp [intOf]; omega
            · have hbut' : ((k : Int) != o) = true := by simp [hbut]
              by_cases hw : 0 < wt
              · have HR2 : Hid (R = true) := Lib.hid (by rw [HRr.out]; exact HUk.out (by rw [HSt.out]; simp [hbut, hw]))
                go_wp2
                go_ret
                exact ⟨by rw [HR2.out]; rfl, HB5.out⟩
              · have HN : Hid (othF m.osds o (k + 1) = false) := Lib.hid (by rw [HSt.out]; simp [hw])
                go_wp2
                clear d0 d1 d2 d3 c0 c1 c2 c3 c4 c5 c6 c7 l0 l1 l2 l3 l4
                go_roundw
                case rel => exact ⟨k + 1, by omega, by go_num, HN.out, trivial⟩
                case measure => simp [intOf]; omega
          · obtain rfl : k = L := by omega
            have HR2 : Hid (R = false) := Lib.hid (by rw [HRr.out]; exact HEnd.out k HL.out.symm HF.out)
            go_wp2
            go_ret
            exact ⟨by rw [HR2.out]; rfl, HB5.out⟩
      · have HRr : Hid (R = true) := Lib.hid (by rw [HR.out]; simp [hn])
        have hn' : (n != 0) = true := by simp [hn]
        go_wp2
        go_ret
        exact ⟨by rw [HRr.out]; rfl, HB5.out⟩
    · have HRr : Hid (R = true) := Lib.hid (by rw [HR.out]; simp [hk])
      have hk' : (k != 3) = true := by simp [hk]
      go_wp2
      go_ret
      exact ⟨by rw [HRr.out]; rfl, HB5.out⟩
end Go.Proofs.Ytcofmfjhgbihkaa.crush

namespace Go.Proofs.Ytcofmfjhgbihkaa.crush
open Go.RowKit
open Go.Proofs.Ytcofmfjhgbihkaa.kit Go.Proofs.Ytcofmfjhgbihkaa.own
set_option linter.unusedVariables false
set_option linter.unusedSimpArgs false

structure RepV where
  fr : Int
  osd : Int
  boot : Int
deriving DecidableEq
def rc (x : RepV) : List Value := [.int .i64 x.fr, .int .i64 x.osd, .int .i64 x.boot]
theorem rc_len (x : RepV) : (rc x).length = 3 := rfl
theorem rc_one (x : RepV) : ∀ v ∈ rc x, v.oneCell' = true := by
  intro v hv
  simp [rc] at hv
  rcases hv with rfl | rfl | rfl <;> rfl
theorem infoRep : (Try.prog.info? 98).map (fun i => (i.zero, i.size, i.bytes)) = some (some (.agg #[.int .i64 0, .int .i64 0, .int .i64 0]), 3, 24) := by kernel_rfl
theorem rcells3 {w : World} {b o : Nat} {x : RepV} (h : w.rangeAt b o (rc x)) : w.cell? ⟨b, o, none⟩ = some (.int .i64 x.fr) ∧ w.cell? ⟨b, o + 1, none⟩ = some (.int .i64 x.osd) ∧ w.cell? ⟨b, o + 2, none⟩ = some (.int .i64 x.boot) := ⟨h 0 _ rfl, h 1 _ rfl, h 2 _ rfl⟩
def RepV.val (x : RepV) : Value := .agg #[.int .i64 x.fr, .int .i64 x.osd, .int .i64 x.boot]
def upB (m : MapV) (i : Int) : Bool := decide (0 ≤ i) && (match m.osds[i.toNat]? with
  | some o => o.up
  | none => false)
def bootOf (m : MapV) (i : Int) : Int := (m.osds.getD i.toNat osd0).boot
/-- Does a report count? -/
def cntR (m : MapV) (r : RepV) : Bool := (decide (r.fr ≠ r.osd) && upB m r.fr) && (upB m r.osd && decide (bootOf m r.osd = r.boot))
theorem upB_in {m : MapV} {i : Int} (h : upB m i = true) : ∃ k : Nat, i = k ∧ ∃ hk : k < m.osds.length, m.osds[k].up = true := by
  unfold upB at h
  rw [Bool.and_eq_true, decide_eq_true_eq] at h
  refine ⟨i.toNat, by omega, ?_⟩
  cases hm : m.osds[i.toNat]? with
  | none => rw [hm] at h; cases h.2
  | some o =>
    rw [hm] at h
    obtain ⟨hk, e⟩ := List.getElem?_eq_some_iff.1 hm
    exact ⟨hk, by rw [e]; exact h.2⟩
/-- The nodes that are up, among the first k. -/
def upL (xs : List OsdV) : Nat → List Int
  | 0 => []
  | k + 1 => upL xs k ++ (if (xs.getD k osd0).up then [(k : Int)] else [])
theorem upL_len (xs : List OsdV) : ∀ k, (upL xs k).length ≤ k
  | 0 => Nat.le_refl _
  | k + 1 => by
    have := upL_len xs k
    rw [upL, List.length_append]
    split <;> simp <;> omega
def needN (m : MapV) : Int := if (upL m.osds m.osds.length).length < 3 then 1 else 2

set_option maxHeartbeats 8000000 in
set_option maxRecDepth 100000 in
theorem Up_any (v : Value) (m : MapV) (w : World) (h : MapR w v m) (hs : m.osds.length ≤ 1000000) : Calls Try.prog 106 #[v] w (RowS ic 1 3 w (upL m.osds m.osds.length)) := by
  obtain ⟨vh, vo, vp, vb, rfl, h1, h2, h3, h4⟩ := h
  have HS := Lib.hid (fun u (hu : Below w.heap.size w u) => h2.keep hu)
  obtain ⟨ah, ch, rfl⟩ := h1.slice
  obtain ⟨ao, co, rfl⟩ := h2.slice
  obtain ⟨ap, cp, rfl⟩ := h3.slice
  obtain ⟨ab, cb, rfl⟩ := h4.slice
  have HStep : Hid (∀ k (hk : k < m.osds.length), upL m.osds (k + 1) = upL m.osds k ++ (if m.osds[k].up then [(k : Int)] else [])) := Lib.hid (fun k hk => by rw [upL, List.getD_eq_getElem?_getD, List.getElem?_eq_getElem hk, Option.getD_some])
  have HLen := Lib.hid (upL_len m.osds)
  have HB := Lib.hid (below_new w (.cells #[.int .i64 m.epoch, .slice ah m.hosts.length ch, .slice ao m.osds.length co, .slice ap m.pools.length cp, .slice ab m.bans.length cb] 83))
  have HX := Lib.hid (mbox_new w 83 m.epoch (.slice ah m.hosts.length ch) (.slice ao m.osds.length co) (.slice ap m.pools.length cp) (.slice ab m.bans.length cb))
  obtain ⟨L, hL⟩ : ∃ L, m.osds.length = L := ⟨_, rfl⟩
  have HL := Lib.hid hL
  have HSm := Lib.hid hs
  rw [hL] at hs HS HB HX ⊢
  clear h1 h2 h3 h4 hL
  unfold RowS
  go_enter Try.func106, Try.ntmps106
  go_upto_region 1 with fail
  generalize hW : w.alloc _ = W at HB HX ⊢
  have HZ : Hid (W.heap.size = w.heap.size + 1) := Lib.hid (by rw [← hW]; exact World.size_alloc _ _)
  clear hW
  obtain ⟨l0, l1, l2, l3, l4⟩ := HX.out.cells
  go_wp2
  clear l0 l1 l2 l3 l4
  go_loopw [3, 4, 5, 9] (fun v3 v4 v5 v9 wr => ∃ k : Nat, k ≤ L ∧ v9 = .int .i64 k ∧ Own ic 1 3 wr (w.heap.size + 1) v3 (upL m.osds k) ∧ Below (w.heap.size + 1) W wr) (fun _ _ _ i _ => L - (intOf i).toNat)
  case atStart => exact ⟨0, by omega, rfl, Own.nil _ _ _, Below.refl _ _⟩
  case round =>
    obtain ⟨k, hk, rfl, ho, hbw⟩ := hrel
    obtain ⟨p3, q3, rfl⟩ := ho.slice
    have HO := Lib.hid ho
    have HBw := Lib.hid hbw
    have HBB := Lib.hid (HB.out.trans (hbw.mono (show w.heap.size ≤ w.heap.size + 1 by omega)))
    clear ho hbw
    have hLk := HLen.out k
    by_cases hlt : k < L
    · have hlt' : (k : Int) < L := by omega
      have hk0 : (0 : Int) ≤ k := by omega
      have hi : k < m.osds.length := by rw [HL.out]; exact hlt
      obtain ⟨b, off, rfl, hbl, hr⟩ := sl_elem (HS.out _ HBB.out) k hi
      have HSt := Lib.hid (HStep.out k hi)
      obtain ⟨d0, d1, d2, d3⟩ := ocells4 hr
      obtain ⟨y, hy⟩ : ∃ y, m.osds[k] = y := ⟨_, rfl⟩
      rw [hy] at d0 d1 d2 d3 HSt
      obtain ⟨bt, up, wt, th⟩ := y
      simp only at d0 d1 d2 d3 HSt
      clear hr hbl hy
      generalize upL m.osds k = ys at HO HSt hLk
      have HLk := Lib.hid hLk
      clear hLk
      go_upto_region 5 with fail
      have hbn := below_new wr (.cells #[.int .i64 bt, .bool up, .int .i64 wt, .int .i64 th] 132)
      have hz := cells_range (l := [.int .i64 bt, .bool up, .int .i64 wt, .int .i64 th]) (alloc_at wr (.cells #[.int .i64 bt, .bool up, .int .i64 wt, .int .i64 th] 132))
      have HO := Lib.hid (HO.out.below hbn)
      have HB6 := Lib.hid (HBw.out.trans (hbn.mono (show w.heap.size + 1 ≤ _ by have := HBw.out.size; have := HZ.out; omega)))
      clear hbn d0 d1 d2 d3
      generalize wr.alloc _ = U at HB6 HO hz ⊢
      generalize wr.heap.size = K at hz ⊢
      have d1 : _ = some (Value.bool up) := hz 1 _ rfl
      simp only [Nat.zero_add] at d1
      clear hz
      cases up with
      | false =>
        go_wp2
        clear d1
        go_roundw
        case rel => exact ⟨k + 1, by omega, by go_num, by rw [HSt.out, if_neg (by decide), List.append_nil]; exact HO.out, HB6.out⟩
        case measure => simp [intOf]; omega
      | true =>
        go_upto_region 6 with fail
        have hbo := below_new U (.cells #[.int .i64 k] 3)
        have HSo := Lib.hid (sl_new ic_len U (k : Int) 3 U.heap.size rfl)
        simp only [ic] at HSo
        have HO1 := Lib.hid (HO.out.below hbo)
        have HB7 := Lib.hid (HB6.out.trans (hbo.mono (show w.heap.size + 1 ≤ _ by have := HB6.out.size; have := HZ.out; omega)))
        have HSz : Hid (w.heap.size + 1 ≤ (U.alloc (.cells #[.int .i64 k] 3)).heap.size) := Lib.hid (by have := HB7.out.size; have := HZ.out; omega)
        have HkM : Hid (ys.length ≤ 1000000) := Lib.hid (by have := HLk.out; omega)
        clear hbo d1
        go_wp2_with (at_builtin; refine appSl ic_len ic_one (by decide) rfl _ _ 25 rfl (w.heap.size + 1) 3 _ (by rfl) 8 Try.underlying25 infoInt _ ys rfl HO1.out _ [(k : Int)] rfl HSo.out (by have := HkM.out; unfold maxLen; simp only [List.length_singleton]; omega) (by have := HkM.out; simp only [List.length_singleton]; omega) HSz.out ?_; intro v9 w9 ho9 hk9; have HO9 := Lib.hid ho9; have HB8 := Lib.hid (HB7.out.trans hk9.toBelow); clear ho9 hk9)
        go_roundw
        case rel => exact ⟨k + 1, by omega, by go_num, by rw [HSt.out, if_pos rfl]; exact HO9.out, HB8.out⟩
        case measure => simp [intOf]; omega
    · obtain rfl : k = L := by omega
      go_wp2
      go_ret
      exact ⟨_, rfl, HO.out.mono (by omega), HBB.out⟩

set_option maxHeartbeats 4000000 in
theorem Need_any (v : Value) (m : MapV) (w : World) (h : MapR w v m) (hs : m.osds.length ≤ 1000000) : Calls Try.prog 82 #[v] w fun e w' => e = .returned (.int .i64 (needN m)) ∧ Below w.heap.size w w' := by
  have HU := Lib.hid (fun u (hu : Below w.heap.size w u) => Up_any v m u (h.keep hu) hs)
  obtain ⟨vh, vo, vp, vb, rfl, h1, h2, h3, h4⟩ := h
  obtain ⟨ah, ch, rfl⟩ := h1.slice
  obtain ⟨ao, co, rfl⟩ := h2.slice
  obtain ⟨ap, cp, rfl⟩ := h3.slice
  obtain ⟨ab, cb, rfl⟩ := h4.slice
  have hR : needN m = if (upL m.osds m.osds.length).length < 3 then 1 else 2 := rfl
  generalize needN m = R at hR ⊢
  generalize upL m.osds m.osds.length = ys at hR HU
  unfold RowS at HU
  generalize m.hosts.length = Lh at HU ⊢
  generalize m.osds.length = Lo at HU ⊢
  generalize m.pools.length = Lp at HU ⊢
  generalize m.bans.length = Lb at HU ⊢
  have HB := Lib.hid (below_new w (.cells #[.int .i64 m.epoch, .slice ah Lh ch, .slice ao Lo co, .slice ap Lp cp, .slice ab Lb cb] 83))
  have HX := Lib.hid (mbox_new w 83 m.epoch (.slice ah Lh ch) (.slice ao Lo co) (.slice ap Lp cp) (.slice ab Lb cb))
  have HR := Lib.hid hR
  clear h1 h2 h3 h4 hR hs
  go_enter Try.func82, Try.ntmps82
  go_upto_region 1 with fail
  generalize w.alloc _ = W at HB HX ⊢
  obtain ⟨l0, l1, l2, l3, l4⟩ := HX.out.cells
  by_cases h3 : ys.length < 3
  · have h3' : (ys.length : Int) < 3 := by omega
    have HRr : Hid (R = 1) := Lib.hid (by rw [HR.out, if_pos h3])
    go_wp2_with (go_at_call 106; refine (HU.out _ HB.out).mono ?_; rintro e V ⟨v1, rfl, ho, hb⟩; obtain ⟨p1, q1, rfl⟩ := ho.slice; have HB := Lib.hid (HB.out.trans (hb.mono HB.out.size)); clear ho hb)
    go_ret
    exact ⟨by rw [HRr.out]; rfl, HB.out⟩
  · have h3' : ¬ (ys.length : Int) < 3 := by omega
    have HRr : Hid (R = 2) := Lib.hid (by rw [HR.out, if_neg h3])
    go_wp2_with (go_at_call 106; refine (HU.out _ HB.out).mono ?_; rintro e V ⟨v1, rfl, ho, hb⟩; obtain ⟨p1, q1, rfl⟩ := ho.slice; have HB := Lib.hid (HB.out.trans (hb.mono HB.out.size)); clear ho hb)
    go_ret
    exact ⟨by rw [HRr.out]; rfl, HB.out⟩

/-- The boxes that the question 'does it count?' keeps: the map's, and that of 'is it up?'. -/
structure QBox (w : World) (N M : Nat) (m : MapV) (vh vo vp vb : Value) : Prop where
  map : MBox w N 83 m.epoch vh vo vp vb
  up : w.heap[M]? = some (.cells #[.func (.func 112) #[] #[.pointer (some ⟨N, 0, none⟩)]] 167 (0, 0))
  osds : Sl oc 4 w vo m.osds
theorem QBox.keep {w w' : World} {N M : Nat} {m : MapV} {vh vo vp vb : Value} (h : QBox w N M m vh vo vp vb) (hb : Below w.heap.size w w') : QBox w' N M m vh vo vp vb :=
  ⟨h.map.keep hb, (hb.block M (Array.getElem?_eq_some_iff.1 h.up).1).trans h.up, h.osds.keep hb⟩

set_option maxHeartbeats 8000000 in
set_option maxRecDepth 100000 in
theorem up1_any (i : Int) (m : MapV) (N M : Nat) (vh vo vp vb : Value) (w : World) (h : QBox w N M m vh vo vp vb) (hl : m.osds.length ≤ 1000000) :
    Calls Try.prog 112 #[.int .i64 i, .pointer (some ⟨N, 0, none⟩)] w fun e w' => e = .returned (.bool (upB m i)) ∧ w' = w := by
  obtain ⟨ao, co, rfl⟩ := h.osds.slice
  obtain ⟨l0, l1, l2, l3, l4⟩ := h.map.cells
  have HS := Lib.hid h.osds
  have hR : upB m i = (decide (0 ≤ i) && (match m.osds[i.toNat]? with
    | some o => o.up
    | none => false)) := rfl
  generalize upB m i = R at hR ⊢
  obtain ⟨L, hL⟩ : ∃ L, m.osds.length = L := ⟨_, rfl⟩
  have HL := Lib.hid hL
  rw [hL] at l2 HS hl
  have HR := Lib.hid hR
  clear h hL hR l0 l1 l3 l4
  go_enter Try.func112, Try.ntmps112
  by_cases h0 : 0 ≤ i
  · obtain ⟨k, rfl⟩ : ∃ k : Nat, i = k := ⟨i.toNat, by omega⟩
    by_cases hlt : k < L
    · have hlt' : (k : Int) < L := by omega
      have hi : k < m.osds.length := by rw [HL.out]; exact hlt
      obtain ⟨b, off, rfl, hbl, hr⟩ := sl_elem HS.out k hi
      obtain ⟨d0, d1, d2, d3⟩ := ocells4 hr
      have HRr : Hid (R = m.osds[k].up) := Lib.hid (by rw [HR.out, Int.toNat_natCast, List.getElem?_eq_getElem hi]; simp)
      generalize m.osds[k].up = up at d1 HRr
      clear hr hbl d0 d2 d3
      go_wp2
      go_ret
      exact ⟨by rw [HRr.out]; rfl, rfl⟩
    · have hlt' : ¬ (k : Int) < L := by omega
      have HRr : Hid (R = false) := Lib.hid (by rw [HR.out, Int.toNat_natCast, List.getElem?_eq_none (by rw [HL.out]; omega)]; simp)
      go_wp2
      go_ret
      exact ⟨by rw [HRr.out]; rfl, rfl⟩
  · have HRr : Hid (R = false) := Lib.hid (by rw [HR.out]; simp [h0])
    go_wp2
    go_ret
    exact ⟨by rw [HRr.out]; rfl, rfl⟩

set_option maxHeartbeats 16000000 in
set_option maxRecDepth 100000 in
theorem counts_any (r : RepV) (m : MapV) (N M : Nat) (vh vo vp vb : Value) (w : World) (h : QBox w N M m vh vo vp vb) (hl : m.osds.length ≤ 1000000) :
    Calls Try.prog 113 #[r.val, .pointer (some ⟨M, 0, none⟩), .pointer (some ⟨N, 0, none⟩)] w fun e w' => e = .returned (.bool (cntR m r)) ∧ Below w.heap.size w w' := by
  have HB := Lib.hid (below_drew (below_new w (.cells #[.int .i64 r.fr, .int .i64 r.osd, .int .i64 r.boot] 98)))
  have HQ := Lib.hid (h.keep HB.out)
  have HBx := Lib.hid (show (w.alloc (.cells (rc r).toArray 98)).drew.heap[w.heap.size]? = some (.cells (rc r).toArray 98 (0, 0)) from alloc_at w _)
  have HU1 := Lib.hid (fun u (hu : QBox u N M m vh vo vp vb) => up1_any r.fr m N M vh vo vp vb u hu hl)
  have HU2 := Lib.hid (fun u (hu : QBox u N M m vh vo vp vb) => up1_any r.osd m N M vh vo vp vb u hu hl)
  have hR : cntR m r = ((decide (r.fr ≠ r.osd) && upB m r.fr) && (upB m r.osd && decide (bootOf m r.osd = r.boot))) := rfl
  have HIn := Lib.hid (fun (e : upB m r.osd = true) => upB_in e)
  have HBo : Hid (∀ k (hk : k < m.osds.length), r.osd = (k : Int) → bootOf m r.osd = m.osds[k].boot) := Lib.hid (fun k hk e => by unfold bootOf; rw [e, Int.toNat_natCast, List.getD_eq_getElem?_getD, List.getElem?_eq_getElem hk, Option.getD_some])
  generalize cntR m r = R at hR ⊢
  generalize upB m r.fr = q1 at HU1 hR
  generalize upB m r.osd = q2 at HU2 HIn hR
  obtain ⟨f, d, bt⟩ := r
  unfold RepV.val
  simp only at HB HQ HU1 HU2 HIn HBo hR ⊢
  simp only [rc] at HBx
  have HR := Lib.hid hR
  clear h hR
  go_enter Try.func113, Try.ntmps113
  go_upto_region 1 with fail
  generalize w.alloc (.cells #[.int .i64 f, .int .i64 d, .int .i64 bt] 98) = U at HB HQ HBx ⊢
  by_cases hfd : f = d
  · have HRr : Hid (R = false) := Lib.hid (by rw [HR.out]; simp [hfd])
    have hne : (f != d) = false := by simp [hfd]
    obtain ⟨k0, k1, k2⟩ := rcells3 (x := ⟨f, d, bt⟩) (cells_range (l := rc ⟨f, d, bt⟩) HBx.out)
    have u0 : U.drew.cell? ⟨M, 0, none⟩ = some (.func (.func 112) #[] #[.pointer (some ⟨N, 0, none⟩)]) := by simp [World.cell?, HQ.out.up]
    simp only at k0 k1 k2
    refine wp_region_held_drew (S := fun u => u.cell? ⟨w.heap.size, 0, none⟩ = some (.int .i64 f) ∧ u.cell? ⟨w.heap.size, 1, none⟩ = some (.int .i64 d) ∧ u.cell? ⟨w.heap.size, 2, none⟩ = some (.int .i64 bt) ∧ u.cell? ⟨M, 0, none⟩ = some (.func (.func 112) #[] #[.pointer (some ⟨N, 0, none⟩)])) (by kernel_rfl) (⟨k0, k1, k2, u0⟩) (fun hHeld => ?_)
    generalize U.drew = U at *
    refine wpAnyH_take (i := 0) (oi := { dst := some 5, op := Op.fieldAddr 98 (Operand.tmp 3) 0, type := 0, pos := "word.go:25", after := #[], guard := none }) (v := ?_) rfl (by kernel_rfl) (by kernel_rfl) (by kernel_rfl) (fun _ _ _ h => h) (Or.inl ⟨by rfl, ?_⟩) hHeld ?_
    rotate_left 1
    · intro W hSw
      (try dsimp only at hSw)
      go_simp
      try with_reducible rfl
    try simp only [Act.put, List.setIfInBounds_toArray, List.set_cons_zero, List.set_cons_succ]
    refine wpAnyH_take (i := 1) (oi := { dst := some 6, op := Op.load 3 (Operand.tmp 5), type := 3, pos := "word.go:25", after := #[{ on := 0, ground := Ground.data }], guard := none }) (v := ?_) rfl (by kernel_rfl) (by kernel_rfl) (by kernel_rfl) (fun _ _ _ h => h) (Or.inl ⟨by rfl, ?_⟩) hHeld ?_
    rotate_left 1
    · intro W hSw
      (try dsimp only at hSw)
      go_simp
      try with_reducible rfl
    try simp only [Act.put, List.setIfInBounds_toArray, List.set_cons_zero, List.set_cons_succ]
    refine wpAnyH_take (i := 2) (oi := { dst := some 7, op := Op.fieldAddr 98 (Operand.tmp 3) 1, type := 0, pos := "word.go:25", after := #[], guard := none }) (v := ?_) rfl (by kernel_rfl) (by kernel_rfl) (by kernel_rfl) (fun _ _ _ h => h) (Or.inl ⟨by rfl, ?_⟩) hHeld ?_
    rotate_left 1
    · intro W hSw
      (try dsimp only at hSw)
      go_simp
      try with_reducible rfl
    try simp only [Act.put, List.setIfInBounds_toArray, List.set_cons_zero, List.set_cons_succ]
    refine wpAnyH_take (i := 3) (oi := { dst := some 8, op := Op.load 3 (Operand.tmp 7), type := 3, pos := "word.go:25", after := #[{ on := 2, ground := Ground.data }], guard := none }) (v := ?_) rfl (by kernel_rfl) (by kernel_rfl) (by kernel_rfl) (fun _ _ _ h => h) (Or.inl ⟨by rfl, ?_⟩) hHeld ?_
    rotate_left 1
    · intro W hSw
      (try dsimp only at hSw)
      go_simp
      try with_reducible rfl
    try simp only [Act.put, List.setIfInBounds_toArray, List.set_cons_zero, List.set_cons_succ]
    refine wpAnyH_take (i := 4) (oi := { dst := some 9, op := Op.binOp BinOp.neq 3 (Operand.tmp 6) (Operand.tmp 8) 3, type := 4, pos := "word.go:25", after := #[{ on := 1, ground := Ground.data }, { on := 3, ground := Ground.data }], guard := none }) (v := ?_) rfl (by kernel_rfl) (by kernel_rfl) (by kernel_rfl) (fun _ _ _ h => h) (Or.inl ⟨by rfl, ?_⟩) hHeld ?_
    rotate_left 1
    · intro W hSw
      (try dsimp only at hSw)
      go_simp
      try with_reducible rfl
    try simp only [Act.put, List.setIfInBounds_toArray, List.set_cons_zero, List.set_cons_succ]
    refine wpAnyH_take (i := 5) (oi := { dst := some 10, op := Op.move (Operand.tmp 9), type := 4, pos := "word.go:25", after := #[{ on := 4, ground := Ground.data }], guard := none }) (v := ?_) rfl (by kernel_rfl) (by kernel_rfl) (by kernel_rfl) (fun _ _ _ h => h) (Or.inl ⟨by rfl, ?_⟩) hHeld ?_
    rotate_left 1
    · intro W hSw
      (try dsimp only at hSw)
      go_simp
      try with_reducible rfl
    try simp only [Act.put, List.setIfInBounds_toArray, List.set_cons_zero, List.set_cons_succ]
    refine wpAnyH_take (i := 6) (oi := { dst := some 11, op := Op.load 167 (Operand.tmp 1), type := 167, pos := "word.go:25", after := #[{ on := 5, ground := Ground.guard }], guard := some (5, true) }) (v := undef) rfl (by kernel_rfl) (by kernel_rfl) (by kernel_rfl) (fun _ _ _ h => h) (Or.inr ⟨by rfl, rfl⟩) hHeld ?_
    try simp only [Act.put, List.setIfInBounds_toArray, List.set_cons_zero, List.set_cons_succ]
    refine wpAnyH_take (i := 7) (oi := { dst := some 12, op := Op.fieldAddr 98 (Operand.tmp 3) 0, type := 0, pos := "word.go:25", after := #[{ on := 5, ground := Ground.guard }], guard := some (5, true) }) (v := undef) rfl (by kernel_rfl) (by kernel_rfl) (by kernel_rfl) (fun _ _ _ h => h) (Or.inr ⟨by rfl, rfl⟩) hHeld ?_
    try simp only [Act.put, List.setIfInBounds_toArray, List.set_cons_zero, List.set_cons_succ]
    refine wpAnyH_take (i := 8) (oi := { dst := some 13, op := Op.load 3 (Operand.tmp 12), type := 3, pos := "word.go:25", after := #[{ on := 7, ground := Ground.data }, { on := 5, ground := Ground.guard }], guard := some (5, true) }) (v := undef) rfl (by kernel_rfl) (by kernel_rfl) (by kernel_rfl) (fun _ _ _ h => h) (Or.inr ⟨by rfl, rfl⟩) hHeld ?_
    try simp only [Act.put, List.setIfInBounds_toArray, List.set_cons_zero, List.set_cons_succ]
    refine wpAnyH_take (i := 9) (oi := { dst := some 14, op := Op.call { callee := Callee.value (Operand.tmp 11), args := #[Operand.tmp 13], argTypes := #[3] }, type := 4, pos := "word.go:25", after := #[{ on := 6, ground := Ground.data }, { on := 8, ground := Ground.data }, { on := 5, ground := Ground.chain }, { on := 5, ground := Ground.guard }], guard := some (5, true) }) (v := undef) rfl (by kernel_rfl) (by kernel_rfl) (by kernel_rfl) (fun _ _ _ h => h) (Or.inr ⟨by rfl, rfl⟩) hHeld ?_
    try simp only [Act.put, List.setIfInBounds_toArray, List.set_cons_zero, List.set_cons_succ]
    refine wpAnyH_take (i := 10) (oi := { dst := some 15, op := Op.pick (Operand.tmp 10) (Operand.tmp 14) (Operand.const (Value.bool false)), type := 4, pos := "word.go:25", after := #[{ on := 5, ground := Ground.data }, { on := 9, ground := Ground.data }], guard := none }) (v := ?_) rfl (by kernel_rfl) (by kernel_rfl) (by kernel_rfl) (fun _ _ _ h => h) (Or.inl ⟨by rfl, ?_⟩) hHeld ?_
    rotate_left 1
    · intro W hSw
      (try dsimp only at hSw)
      go_simp
      try with_reducible rfl
    try simp only [Act.put, List.setIfInBounds_toArray, List.set_cons_zero, List.set_cons_succ]
    refine wpAnyH_take (i := 11) (oi := { dst := some 16, op := Op.move (Operand.tmp 15), type := 4, pos := "word.go:25", after := #[{ on := 10, ground := Ground.data }, { on := 9, ground := Ground.chain }], guard := none }) (v := ?_) rfl (by kernel_rfl) (by kernel_rfl) (by kernel_rfl) (fun _ _ _ h => h) (Or.inl ⟨by rfl, ?_⟩) hHeld ?_
    rotate_left 1
    · intro W hSw
      (try dsimp only at hSw)
      go_simp
      try with_reducible rfl
    try simp only [Act.put, List.setIfInBounds_toArray, List.set_cons_zero, List.set_cons_succ]
    refine wpAnyH_take (i := 12) (oi := { dst := some 17, op := Op.load 167 (Operand.tmp 1), type := 167, pos := "word.go:25", after := #[{ on := 11, ground := Ground.guard }], guard := some (11, true) }) (v := undef) rfl (by kernel_rfl) (by kernel_rfl) (by kernel_rfl) (fun _ _ _ h => h) (Or.inr ⟨by rfl, rfl⟩) hHeld ?_
    try simp only [Act.put, List.setIfInBounds_toArray, List.set_cons_zero, List.set_cons_succ]
    refine wpAnyH_take (i := 13) (oi := { dst := some 18, op := Op.fieldAddr 98 (Operand.tmp 3) 1, type := 0, pos := "word.go:25", after := #[{ on := 11, ground := Ground.guard }], guard := some (11, true) }) (v := undef) rfl (by kernel_rfl) (by kernel_rfl) (by kernel_rfl) (fun _ _ _ h => h) (Or.inr ⟨by rfl, rfl⟩) hHeld ?_
    try simp only [Act.put, List.setIfInBounds_toArray, List.set_cons_zero, List.set_cons_succ]
    refine wpAnyH_take (i := 14) (oi := { dst := some 19, op := Op.load 3 (Operand.tmp 18), type := 3, pos := "word.go:25", after := #[{ on := 13, ground := Ground.data }, { on := 11, ground := Ground.guard }], guard := some (11, true) }) (v := undef) rfl (by kernel_rfl) (by kernel_rfl) (by kernel_rfl) (fun _ _ _ h => h) (Or.inr ⟨by rfl, rfl⟩) hHeld ?_
    try simp only [Act.put, List.setIfInBounds_toArray, List.set_cons_zero, List.set_cons_succ]
    refine wpAnyH_take (i := 15) (oi := { dst := some 20, op := Op.call { callee := Callee.value (Operand.tmp 17), args := #[Operand.tmp 19], argTypes := #[3] }, type := 4, pos := "word.go:25", after := #[{ on := 12, ground := Ground.data }, { on := 14, ground := Ground.data }, { on := 11, ground := Ground.chain }, { on := 11, ground := Ground.guard }], guard := some (11, true) }) (v := undef) rfl (by kernel_rfl) (by kernel_rfl) (by kernel_rfl) (fun _ _ _ h => h) (Or.inr ⟨by rfl, rfl⟩) hHeld ?_
    try simp only [Act.put, List.setIfInBounds_toArray, List.set_cons_zero, List.set_cons_succ]
    refine wpAnyH_take (i := 16) (oi := { dst := some 21, op := Op.pick (Operand.tmp 16) (Operand.tmp 20) (Operand.const (Value.bool false)), type := 4, pos := "word.go:25", after := #[{ on := 11, ground := Ground.data }, { on := 15, ground := Ground.data }], guard := none }) (v := ?_) rfl (by kernel_rfl) (by kernel_rfl) (by kernel_rfl) (fun _ _ _ h => h) (Or.inl ⟨by rfl, ?_⟩) hHeld ?_
    rotate_left 1
    · intro W hSw
      (try dsimp only at hSw)
      go_simp
      try with_reducible rfl
    try simp only [Act.put, List.setIfInBounds_toArray, List.set_cons_zero, List.set_cons_succ]
    refine wpAnyH_take (i := 17) (oi := { dst := some 22, op := Op.move (Operand.tmp 21), type := 4, pos := "word.go:25", after := #[{ on := 16, ground := Ground.data }, { on := 15, ground := Ground.chain }], guard := none }) (v := ?_) rfl (by kernel_rfl) (by kernel_rfl) (by kernel_rfl) (fun _ _ _ h => h) (Or.inl ⟨by rfl, ?_⟩) hHeld ?_
    rotate_left 1
    · intro W hSw
      (try dsimp only at hSw)
      go_simp
      try with_reducible rfl
    try simp only [Act.put, List.setIfInBounds_toArray, List.set_cons_zero, List.set_cons_succ]
    refine wpAnyH_take (i := 18) (oi := { dst := some 23, op := Op.fieldAddr 83 (Operand.tmp 2) 2, type := 0, pos := "word.go:25", after := #[{ on := 17, ground := Ground.guard }], guard := some (17, true) }) (v := undef) rfl (by kernel_rfl) (by kernel_rfl) (by kernel_rfl) (fun _ _ _ h => h) (Or.inr ⟨by rfl, rfl⟩) hHeld ?_
    try simp only [Act.put, List.setIfInBounds_toArray, List.set_cons_zero, List.set_cons_succ]
    refine wpAnyH_take (i := 19) (oi := { dst := some 24, op := Op.load 79 (Operand.tmp 23), type := 79, pos := "word.go:25", after := #[{ on := 18, ground := Ground.data }, { on := 17, ground := Ground.guard }], guard := some (17, true) }) (v := undef) rfl (by kernel_rfl) (by kernel_rfl) (by kernel_rfl) (fun _ _ _ h => h) (Or.inr ⟨by rfl, rfl⟩) hHeld ?_
    try simp only [Act.put, List.setIfInBounds_toArray, List.set_cons_zero, List.set_cons_succ]
    refine wpAnyH_take (i := 20) (oi := { dst := some 25, op := Op.fieldAddr 98 (Operand.tmp 3) 1, type := 0, pos := "word.go:25", after := #[{ on := 17, ground := Ground.guard }], guard := some (17, true) }) (v := undef) rfl (by kernel_rfl) (by kernel_rfl) (by kernel_rfl) (fun _ _ _ h => h) (Or.inr ⟨by rfl, rfl⟩) hHeld ?_
    try simp only [Act.put, List.setIfInBounds_toArray, List.set_cons_zero, List.set_cons_succ]
    refine wpAnyH_take (i := 21) (oi := { dst := some 26, op := Op.load 3 (Operand.tmp 25), type := 3, pos := "word.go:25", after := #[{ on := 20, ground := Ground.data }, { on := 17, ground := Ground.guard }], guard := some (17, true) }) (v := undef) rfl (by kernel_rfl) (by kernel_rfl) (by kernel_rfl) (fun _ _ _ h => h) (Or.inr ⟨by rfl, rfl⟩) hHeld ?_
    try simp only [Act.put, List.setIfInBounds_toArray, List.set_cons_zero, List.set_cons_succ]
    refine wpAnyH_take (i := 22) (oi := { dst := some 27, op := Op.indexAddr 79 (Operand.tmp 24) (Operand.tmp 26), type := 0, pos := "word.go:25", after := #[{ on := 19, ground := Ground.data }, { on := 21, ground := Ground.data }, { on := 17, ground := Ground.guard }], guard := some (17, true) }) (v := undef) rfl (by kernel_rfl) (by kernel_rfl) (by kernel_rfl) (fun _ _ _ h => h) (Or.inr ⟨by rfl, rfl⟩) hHeld ?_
    try simp only [Act.put, List.setIfInBounds_toArray, List.set_cons_zero, List.set_cons_succ]
    refine wpAnyH_take (i := 23) (oi := { dst := some 28, op := Op.fieldAddr 132 (Operand.tmp 27) 0, type := 0, pos := "word.go:25", after := #[{ on := 22, ground := Ground.data }, { on := 17, ground := Ground.guard }], guard := some (17, true) }) (v := undef) rfl (by kernel_rfl) (by kernel_rfl) (by kernel_rfl) (fun _ _ _ h => h) (Or.inr ⟨by rfl, rfl⟩) hHeld ?_
    try simp only [Act.put, List.setIfInBounds_toArray, List.set_cons_zero, List.set_cons_succ]
    refine wpAnyH_take (i := 24) (oi := { dst := some 29, op := Op.load 2 (Operand.tmp 28), type := 2, pos := "word.go:25", after := #[{ on := 23, ground := Ground.data }, { on := 17, ground := Ground.guard }], guard := some (17, true) }) (v := undef) rfl (by kernel_rfl) (by kernel_rfl) (by kernel_rfl) (fun _ _ _ h => h) (Or.inr ⟨by rfl, rfl⟩) hHeld ?_
    try simp only [Act.put, List.setIfInBounds_toArray, List.set_cons_zero, List.set_cons_succ]
    refine wpAnyH_take (i := 25) (oi := { dst := some 30, op := Op.fieldAddr 98 (Operand.tmp 3) 2, type := 0, pos := "word.go:25", after := #[{ on := 17, ground := Ground.guard }], guard := some (17, true) }) (v := undef) rfl (by kernel_rfl) (by kernel_rfl) (by kernel_rfl) (fun _ _ _ h => h) (Or.inr ⟨by rfl, rfl⟩) hHeld ?_
    try simp only [Act.put, List.setIfInBounds_toArray, List.set_cons_zero, List.set_cons_succ]
    refine wpAnyH_take (i := 26) (oi := { dst := some 31, op := Op.load 2 (Operand.tmp 30), type := 2, pos := "word.go:25", after := #[{ on := 25, ground := Ground.data }, { on := 17, ground := Ground.guard }], guard := some (17, true) }) (v := undef) rfl (by kernel_rfl) (by kernel_rfl) (by kernel_rfl) (fun _ _ _ h => h) (Or.inr ⟨by rfl, rfl⟩) hHeld ?_
    try simp only [Act.put, List.setIfInBounds_toArray, List.set_cons_zero, List.set_cons_succ]
    refine wpAnyH_take (i := 27) (oi := { dst := some 32, op := Op.binOp BinOp.eql 2 (Operand.tmp 29) (Operand.tmp 31) 2, type := 4, pos := "word.go:25", after := #[{ on := 24, ground := Ground.data }, { on := 26, ground := Ground.data }, { on := 17, ground := Ground.guard }], guard := some (17, true) }) (v := undef) rfl (by kernel_rfl) (by kernel_rfl) (by kernel_rfl) (fun _ _ _ h => h) (Or.inr ⟨by rfl, rfl⟩) hHeld ?_
    try simp only [Act.put, List.setIfInBounds_toArray, List.set_cons_zero, List.set_cons_succ]
    refine wpAnyH_take (i := 28) (oi := { dst := some 33, op := Op.pick (Operand.tmp 22) (Operand.tmp 32) (Operand.const (Value.bool false)), type := 4, pos := "word.go:25", after := #[{ on := 17, ground := Ground.data }, { on := 27, ground := Ground.data }], guard := none }) (v := ?_) rfl (by kernel_rfl) (by kernel_rfl) (by kernel_rfl) (fun _ _ _ h => h) (Or.inl ⟨by rfl, ?_⟩) hHeld ?_
    rotate_left 1
    · intro W hSw
      (try dsimp only at hSw)
      go_simp
      try with_reducible rfl
    try simp only [Act.put, List.setIfInBounds_toArray, List.set_cons_zero, List.set_cons_succ]
    refine wpAnyH_take (i := 29) (oi := { dst := some 4, op := Op.assign (Operand.tmp 33), type := 4, pos := "word.go:25", after := #[{ on := 28, ground := Ground.data }, { on := 17, ground := Ground.chain }, { on := 0, ground := Ground.phase }, { on := 1, ground := Ground.phase }, { on := 2, ground := Ground.phase }, { on := 3, ground := Ground.phase }, { on := 4, ground := Ground.phase }, { on := 5, ground := Ground.phase }, { on := 6, ground := Ground.phase }, { on := 7, ground := Ground.phase }, { on := 8, ground := Ground.phase }, { on := 9, ground := Ground.phase }, { on := 10, ground := Ground.phase }, { on := 11, ground := Ground.phase }, { on := 12, ground := Ground.phase }, { on := 13, ground := Ground.phase }, { on := 14, ground := Ground.phase }, { on := 15, ground := Ground.phase }, { on := 16, ground := Ground.phase }, { on := 17, ground := Ground.phase }, { on := 18, ground := Ground.phase }, { on := 19, ground := Ground.phase }, { on := 20, ground := Ground.phase }, { on := 21, ground := Ground.phase }, { on := 22, ground := Ground.phase }, { on := 23, ground := Ground.phase }, { on := 24, ground := Ground.phase }, { on := 25, ground := Ground.phase }, { on := 26, ground := Ground.phase }, { on := 27, ground := Ground.phase }, { on := 28, ground := Ground.phase }], guard := none }) (v := ?_) rfl (by kernel_rfl) (by kernel_rfl) (by kernel_rfl) (fun _ _ _ h => h) (Or.inl ⟨by rfl, ?_⟩) hHeld ?_
    rotate_left 1
    · intro W hSw
      (try dsimp only at hSw)
      go_simp
      try with_reducible rfl
    try simp only [Act.put, List.setIfInBounds_toArray, List.set_cons_zero, List.set_cons_succ]
    refine wpAnyH_done (by kernel_rfl) ?_ _
    clear hHeld
    go_wp2
    go_ret
    exact ⟨by rw [HRr.out]; first | rfl | simp, HB.out⟩
  · have hne : (f != d) = true := by simp [hfd]
    cases q1 with
    | false =>
      have HRr : Hid (R = false) := Lib.hid (by rw [HR.out]; simp)
      obtain ⟨k0, k1, k2⟩ := rcells3 (x := ⟨f, d, bt⟩) (cells_range (l := rc ⟨f, d, bt⟩) HBx.out)
      have u0 : U.drew.cell? ⟨M, 0, none⟩ = some (.func (.func 112) #[] #[.pointer (some ⟨N, 0, none⟩)]) := by simp [World.cell?, HQ.out.up]
      simp only at k0 k1 k2
      refine wp_region_held_drew (S := fun u => u.cell? ⟨w.heap.size, 0, none⟩ = some (.int .i64 f) ∧ u.cell? ⟨w.heap.size, 1, none⟩ = some (.int .i64 d) ∧ u.cell? ⟨w.heap.size, 2, none⟩ = some (.int .i64 bt) ∧ u.cell? ⟨M, 0, none⟩ = some (.func (.func 112) #[] #[.pointer (some ⟨N, 0, none⟩)])) (by kernel_rfl) (⟨k0, k1, k2, u0⟩) (fun hHeld => ?_)
      generalize U.drew = U at *
      refine wpAnyH_take (i := 0) (oi := { dst := some 5, op := Op.fieldAddr 98 (Operand.tmp 3) 0, type := 0, pos := "word.go:25", after := #[], guard := none }) (v := ?_) rfl (by kernel_rfl) (by kernel_rfl) (by kernel_rfl) (fun _ _ _ h => h) (Or.inl ⟨by rfl, ?_⟩) hHeld ?_
      rotate_left 1
      · intro W hSw
        (try dsimp only at hSw)
        go_simp
        try with_reducible rfl
      try simp only [Act.put, List.setIfInBounds_toArray, List.set_cons_zero, List.set_cons_succ]
      refine wpAnyH_take (i := 1) (oi := { dst := some 6, op := Op.load 3 (Operand.tmp 5), type := 3, pos := "word.go:25", after := #[{ on := 0, ground := Ground.data }], guard := none }) (v := ?_) rfl (by kernel_rfl) (by kernel_rfl) (by kernel_rfl) (fun _ _ _ h => h) (Or.inl ⟨by rfl, ?_⟩) hHeld ?_
      rotate_left 1
      · intro W hSw
        (try dsimp only at hSw)
        go_simp
        try with_reducible rfl
      try simp only [Act.put, List.setIfInBounds_toArray, List.set_cons_zero, List.set_cons_succ]
      refine wpAnyH_take (i := 2) (oi := { dst := some 7, op := Op.fieldAddr 98 (Operand.tmp 3) 1, type := 0, pos := "word.go:25", after := #[], guard := none }) (v := ?_) rfl (by kernel_rfl) (by kernel_rfl) (by kernel_rfl) (fun _ _ _ h => h) (Or.inl ⟨by rfl, ?_⟩) hHeld ?_
      rotate_left 1
      · intro W hSw
        (try dsimp only at hSw)
        go_simp
        try with_reducible rfl
      try simp only [Act.put, List.setIfInBounds_toArray, List.set_cons_zero, List.set_cons_succ]
      refine wpAnyH_take (i := 3) (oi := { dst := some 8, op := Op.load 3 (Operand.tmp 7), type := 3, pos := "word.go:25", after := #[{ on := 2, ground := Ground.data }], guard := none }) (v := ?_) rfl (by kernel_rfl) (by kernel_rfl) (by kernel_rfl) (fun _ _ _ h => h) (Or.inl ⟨by rfl, ?_⟩) hHeld ?_
      rotate_left 1
      · intro W hSw
        (try dsimp only at hSw)
        go_simp
        try with_reducible rfl
      try simp only [Act.put, List.setIfInBounds_toArray, List.set_cons_zero, List.set_cons_succ]
      refine wpAnyH_take (i := 4) (oi := { dst := some 9, op := Op.binOp BinOp.neq 3 (Operand.tmp 6) (Operand.tmp 8) 3, type := 4, pos := "word.go:25", after := #[{ on := 1, ground := Ground.data }, { on := 3, ground := Ground.data }], guard := none }) (v := ?_) rfl (by kernel_rfl) (by kernel_rfl) (by kernel_rfl) (fun _ _ _ h => h) (Or.inl ⟨by rfl, ?_⟩) hHeld ?_
      rotate_left 1
      · intro W hSw
        (try dsimp only at hSw)
        go_simp
        try with_reducible rfl
      try simp only [Act.put, List.setIfInBounds_toArray, List.set_cons_zero, List.set_cons_succ]
      refine wpAnyH_take (i := 5) (oi := { dst := some 10, op := Op.move (Operand.tmp 9), type := 4, pos := "word.go:25", after := #[{ on := 4, ground := Ground.data }], guard := none }) (v := ?_) rfl (by kernel_rfl) (by kernel_rfl) (by kernel_rfl) (fun _ _ _ h => h) (Or.inl ⟨by rfl, ?_⟩) hHeld ?_
      rotate_left 1
      · intro W hSw
        (try dsimp only at hSw)
        go_simp
        try with_reducible rfl
      try simp only [Act.put, List.setIfInBounds_toArray, List.set_cons_zero, List.set_cons_succ]
      refine wpAnyH_take (i := 6) (oi := { dst := some 11, op := Op.load 167 (Operand.tmp 1), type := 167, pos := "word.go:25", after := #[{ on := 5, ground := Ground.guard }], guard := some (5, true) }) (v := ?_) rfl (by kernel_rfl) (by kernel_rfl) (by kernel_rfl) (fun _ _ _ h => h) (Or.inl ⟨by rfl, ?_⟩) hHeld ?_
      rotate_left 1
      · intro W hSw
        (try dsimp only at hSw)
        go_simp
        try with_reducible rfl
      try simp only [Act.put, List.setIfInBounds_toArray, List.set_cons_zero, List.set_cons_succ]
      refine wpAnyH_take (i := 7) (oi := { dst := some 12, op := Op.fieldAddr 98 (Operand.tmp 3) 0, type := 0, pos := "word.go:25", after := #[{ on := 5, ground := Ground.guard }], guard := some (5, true) }) (v := ?_) rfl (by kernel_rfl) (by kernel_rfl) (by kernel_rfl) (fun _ _ _ h => h) (Or.inl ⟨by rfl, ?_⟩) hHeld ?_
      rotate_left 1
      · intro W hSw
        (try dsimp only at hSw)
        go_simp
        try with_reducible rfl
      try simp only [Act.put, List.setIfInBounds_toArray, List.set_cons_zero, List.set_cons_succ]
      refine wpAnyH_take (i := 8) (oi := { dst := some 13, op := Op.load 3 (Operand.tmp 12), type := 3, pos := "word.go:25", after := #[{ on := 7, ground := Ground.data }, { on := 5, ground := Ground.guard }], guard := some (5, true) }) (v := ?_) rfl (by kernel_rfl) (by kernel_rfl) (by kernel_rfl) (fun _ _ _ h => h) (Or.inl ⟨by rfl, ?_⟩) hHeld ?_
      rotate_left 1
      · intro W hSw
        (try dsimp only at hSw)
        go_simp
        try with_reducible rfl
      try simp only [Act.put, List.setIfInBounds_toArray, List.set_cons_zero, List.set_cons_succ]
      refine wpAnyH_ready (rs := [9]) (by kernel_rfl) (by simp) ?_
      refine AllReadyH.cons (o := { dst := some 14, op := Op.call { callee := Callee.value (Operand.tmp 11), args := #[Operand.tmp 13], argTypes := #[3] }, type := 4, pos := "word.go:25", after := #[{ on := 6, ground := Ground.data }, { on := 8, ground := Ground.data }, { on := 5, ground := Ground.chain }, { on := 5, ground := Ground.guard }], guard := some (5, true) }) rfl (fun K7 hK7 => ?_) ?_
      · go_simp
        refine (HU1.out _ HQ.out).mono ?_
        rintro e V ⟨rfl, rfl⟩
        try dsimp only
        refine hK7.out _ _ (⟨k0, k1, k2, u0⟩) (fun hHeld => ?_)
        clear hK7 K7
        try simp only [Act.put, List.setIfInBounds_toArray, List.set_cons_zero, List.set_cons_succ]
        refine wpAnyH_take (i := 10) (oi := { dst := some 15, op := Op.pick (Operand.tmp 10) (Operand.tmp 14) (Operand.const (Value.bool false)), type := 4, pos := "word.go:25", after := #[{ on := 5, ground := Ground.data }, { on := 9, ground := Ground.data }], guard := none }) (v := ?_) rfl (by kernel_rfl) (by kernel_rfl) (by kernel_rfl) (fun _ _ _ h => h) (Or.inl ⟨by rfl, ?_⟩) hHeld ?_
        rotate_left 1
        · intro W hSw
          (try dsimp only at hSw)
          go_simp
          try with_reducible rfl
        try simp only [Act.put, List.setIfInBounds_toArray, List.set_cons_zero, List.set_cons_succ]
        refine wpAnyH_take (i := 11) (oi := { dst := some 16, op := Op.move (Operand.tmp 15), type := 4, pos := "word.go:25", after := #[{ on := 10, ground := Ground.data }, { on := 9, ground := Ground.chain }], guard := none }) (v := ?_) rfl (by kernel_rfl) (by kernel_rfl) (by kernel_rfl) (fun _ _ _ h => h) (Or.inl ⟨by rfl, ?_⟩) hHeld ?_
        rotate_left 1
        · intro W hSw
          (try dsimp only at hSw)
          go_simp
          try with_reducible rfl
        try simp only [Act.put, List.setIfInBounds_toArray, List.set_cons_zero, List.set_cons_succ]
        refine wpAnyH_take (i := 12) (oi := { dst := some 17, op := Op.load 167 (Operand.tmp 1), type := 167, pos := "word.go:25", after := #[{ on := 11, ground := Ground.guard }], guard := some (11, true) }) (v := undef) rfl (by kernel_rfl) (by kernel_rfl) (by kernel_rfl) (fun _ _ _ h => h) (Or.inr ⟨by rfl, rfl⟩) hHeld ?_
        try simp only [Act.put, List.setIfInBounds_toArray, List.set_cons_zero, List.set_cons_succ]
        refine wpAnyH_take (i := 13) (oi := { dst := some 18, op := Op.fieldAddr 98 (Operand.tmp 3) 1, type := 0, pos := "word.go:25", after := #[{ on := 11, ground := Ground.guard }], guard := some (11, true) }) (v := undef) rfl (by kernel_rfl) (by kernel_rfl) (by kernel_rfl) (fun _ _ _ h => h) (Or.inr ⟨by rfl, rfl⟩) hHeld ?_
        try simp only [Act.put, List.setIfInBounds_toArray, List.set_cons_zero, List.set_cons_succ]
        refine wpAnyH_take (i := 14) (oi := { dst := some 19, op := Op.load 3 (Operand.tmp 18), type := 3, pos := "word.go:25", after := #[{ on := 13, ground := Ground.data }, { on := 11, ground := Ground.guard }], guard := some (11, true) }) (v := undef) rfl (by kernel_rfl) (by kernel_rfl) (by kernel_rfl) (fun _ _ _ h => h) (Or.inr ⟨by rfl, rfl⟩) hHeld ?_
        try simp only [Act.put, List.setIfInBounds_toArray, List.set_cons_zero, List.set_cons_succ]
        refine wpAnyH_take (i := 15) (oi := { dst := some 20, op := Op.call { callee := Callee.value (Operand.tmp 17), args := #[Operand.tmp 19], argTypes := #[3] }, type := 4, pos := "word.go:25", after := #[{ on := 12, ground := Ground.data }, { on := 14, ground := Ground.data }, { on := 11, ground := Ground.chain }, { on := 11, ground := Ground.guard }], guard := some (11, true) }) (v := undef) rfl (by kernel_rfl) (by kernel_rfl) (by kernel_rfl) (fun _ _ _ h => h) (Or.inr ⟨by rfl, rfl⟩) hHeld ?_
        try simp only [Act.put, List.setIfInBounds_toArray, List.set_cons_zero, List.set_cons_succ]
        refine wpAnyH_take (i := 16) (oi := { dst := some 21, op := Op.pick (Operand.tmp 16) (Operand.tmp 20) (Operand.const (Value.bool false)), type := 4, pos := "word.go:25", after := #[{ on := 11, ground := Ground.data }, { on := 15, ground := Ground.data }], guard := none }) (v := ?_) rfl (by kernel_rfl) (by kernel_rfl) (by kernel_rfl) (fun _ _ _ h => h) (Or.inl ⟨by rfl, ?_⟩) hHeld ?_
        rotate_left 1
        · intro W hSw
          (try dsimp only at hSw)
          go_simp
          try with_reducible rfl
        try simp only [Act.put, List.setIfInBounds_toArray, List.set_cons_zero, List.set_cons_succ]
        refine wpAnyH_take (i := 17) (oi := { dst := some 22, op := Op.move (Operand.tmp 21), type := 4, pos := "word.go:25", after := #[{ on := 16, ground := Ground.data }, { on := 15, ground := Ground.chain }], guard := none }) (v := ?_) rfl (by kernel_rfl) (by kernel_rfl) (by kernel_rfl) (fun _ _ _ h => h) (Or.inl ⟨by rfl, ?_⟩) hHeld ?_
        rotate_left 1
        · intro W hSw
          (try dsimp only at hSw)
          go_simp
          try with_reducible rfl
        try simp only [Act.put, List.setIfInBounds_toArray, List.set_cons_zero, List.set_cons_succ]
        refine wpAnyH_take (i := 18) (oi := { dst := some 23, op := Op.fieldAddr 83 (Operand.tmp 2) 2, type := 0, pos := "word.go:25", after := #[{ on := 17, ground := Ground.guard }], guard := some (17, true) }) (v := undef) rfl (by kernel_rfl) (by kernel_rfl) (by kernel_rfl) (fun _ _ _ h => h) (Or.inr ⟨by rfl, rfl⟩) hHeld ?_
        try simp only [Act.put, List.setIfInBounds_toArray, List.set_cons_zero, List.set_cons_succ]
        refine wpAnyH_take (i := 19) (oi := { dst := some 24, op := Op.load 79 (Operand.tmp 23), type := 79, pos := "word.go:25", after := #[{ on := 18, ground := Ground.data }, { on := 17, ground := Ground.guard }], guard := some (17, true) }) (v := undef) rfl (by kernel_rfl) (by kernel_rfl) (by kernel_rfl) (fun _ _ _ h => h) (Or.inr ⟨by rfl, rfl⟩) hHeld ?_
        try simp only [Act.put, List.setIfInBounds_toArray, List.set_cons_zero, List.set_cons_succ]
        refine wpAnyH_take (i := 20) (oi := { dst := some 25, op := Op.fieldAddr 98 (Operand.tmp 3) 1, type := 0, pos := "word.go:25", after := #[{ on := 17, ground := Ground.guard }], guard := some (17, true) }) (v := undef) rfl (by kernel_rfl) (by kernel_rfl) (by kernel_rfl) (fun _ _ _ h => h) (Or.inr ⟨by rfl, rfl⟩) hHeld ?_
        try simp only [Act.put, List.setIfInBounds_toArray, List.set_cons_zero, List.set_cons_succ]
        refine wpAnyH_take (i := 21) (oi := { dst := some 26, op := Op.load 3 (Operand.tmp 25), type := 3, pos := "word.go:25", after := #[{ on := 20, ground := Ground.data }, { on := 17, ground := Ground.guard }], guard := some (17, true) }) (v := undef) rfl (by kernel_rfl) (by kernel_rfl) (by kernel_rfl) (fun _ _ _ h => h) (Or.inr ⟨by rfl, rfl⟩) hHeld ?_
        try simp only [Act.put, List.setIfInBounds_toArray, List.set_cons_zero, List.set_cons_succ]
        refine wpAnyH_take (i := 22) (oi := { dst := some 27, op := Op.indexAddr 79 (Operand.tmp 24) (Operand.tmp 26), type := 0, pos := "word.go:25", after := #[{ on := 19, ground := Ground.data }, { on := 21, ground := Ground.data }, { on := 17, ground := Ground.guard }], guard := some (17, true) }) (v := undef) rfl (by kernel_rfl) (by kernel_rfl) (by kernel_rfl) (fun _ _ _ h => h) (Or.inr ⟨by rfl, rfl⟩) hHeld ?_
        try simp only [Act.put, List.setIfInBounds_toArray, List.set_cons_zero, List.set_cons_succ]
        refine wpAnyH_take (i := 23) (oi := { dst := some 28, op := Op.fieldAddr 132 (Operand.tmp 27) 0, type := 0, pos := "word.go:25", after := #[{ on := 22, ground := Ground.data }, { on := 17, ground := Ground.guard }], guard := some (17, true) }) (v := undef) rfl (by kernel_rfl) (by kernel_rfl) (by kernel_rfl) (fun _ _ _ h => h) (Or.inr ⟨by rfl, rfl⟩) hHeld ?_
        try simp only [Act.put, List.setIfInBounds_toArray, List.set_cons_zero, List.set_cons_succ]
        refine wpAnyH_take (i := 24) (oi := { dst := some 29, op := Op.load 2 (Operand.tmp 28), type := 2, pos := "word.go:25", after := #[{ on := 23, ground := Ground.data }, { on := 17, ground := Ground.guard }], guard := some (17, true) }) (v := undef) rfl (by kernel_rfl) (by kernel_rfl) (by kernel_rfl) (fun _ _ _ h => h) (Or.inr ⟨by rfl, rfl⟩) hHeld ?_
        try simp only [Act.put, List.setIfInBounds_toArray, List.set_cons_zero, List.set_cons_succ]
        refine wpAnyH_take (i := 25) (oi := { dst := some 30, op := Op.fieldAddr 98 (Operand.tmp 3) 2, type := 0, pos := "word.go:25", after := #[{ on := 17, ground := Ground.guard }], guard := some (17, true) }) (v := undef) rfl (by kernel_rfl) (by kernel_rfl) (by kernel_rfl) (fun _ _ _ h => h) (Or.inr ⟨by rfl, rfl⟩) hHeld ?_
        try simp only [Act.put, List.setIfInBounds_toArray, List.set_cons_zero, List.set_cons_succ]
        refine wpAnyH_take (i := 26) (oi := { dst := some 31, op := Op.load 2 (Operand.tmp 30), type := 2, pos := "word.go:25", after := #[{ on := 25, ground := Ground.data }, { on := 17, ground := Ground.guard }], guard := some (17, true) }) (v := undef) rfl (by kernel_rfl) (by kernel_rfl) (by kernel_rfl) (fun _ _ _ h => h) (Or.inr ⟨by rfl, rfl⟩) hHeld ?_
        try simp only [Act.put, List.setIfInBounds_toArray, List.set_cons_zero, List.set_cons_succ]
        refine wpAnyH_take (i := 27) (oi := { dst := some 32, op := Op.binOp BinOp.eql 2 (Operand.tmp 29) (Operand.tmp 31) 2, type := 4, pos := "word.go:25", after := #[{ on := 24, ground := Ground.data }, { on := 26, ground := Ground.data }, { on := 17, ground := Ground.guard }], guard := some (17, true) }) (v := undef) rfl (by kernel_rfl) (by kernel_rfl) (by kernel_rfl) (fun _ _ _ h => h) (Or.inr ⟨by rfl, rfl⟩) hHeld ?_
        try simp only [Act.put, List.setIfInBounds_toArray, List.set_cons_zero, List.set_cons_succ]
        refine wpAnyH_take (i := 28) (oi := { dst := some 33, op := Op.pick (Operand.tmp 22) (Operand.tmp 32) (Operand.const (Value.bool false)), type := 4, pos := "word.go:25", after := #[{ on := 17, ground := Ground.data }, { on := 27, ground := Ground.data }], guard := none }) (v := ?_) rfl (by kernel_rfl) (by kernel_rfl) (by kernel_rfl) (fun _ _ _ h => h) (Or.inl ⟨by rfl, ?_⟩) hHeld ?_
        rotate_left 1
        · intro W hSw
          (try dsimp only at hSw)
          go_simp
          try with_reducible rfl
        try simp only [Act.put, List.setIfInBounds_toArray, List.set_cons_zero, List.set_cons_succ]
        refine wpAnyH_take (i := 29) (oi := { dst := some 4, op := Op.assign (Operand.tmp 33), type := 4, pos := "word.go:25", after := #[{ on := 28, ground := Ground.data }, { on := 17, ground := Ground.chain }, { on := 0, ground := Ground.phase }, { on := 1, ground := Ground.phase }, { on := 2, ground := Ground.phase }, { on := 3, ground := Ground.phase }, { on := 4, ground := Ground.phase }, { on := 5, ground := Ground.phase }, { on := 6, ground := Ground.phase }, { on := 7, ground := Ground.phase }, { on := 8, ground := Ground.phase }, { on := 9, ground := Ground.phase }, { on := 10, ground := Ground.phase }, { on := 11, ground := Ground.phase }, { on := 12, ground := Ground.phase }, { on := 13, ground := Ground.phase }, { on := 14, ground := Ground.phase }, { on := 15, ground := Ground.phase }, { on := 16, ground := Ground.phase }, { on := 17, ground := Ground.phase }, { on := 18, ground := Ground.phase }, { on := 19, ground := Ground.phase }, { on := 20, ground := Ground.phase }, { on := 21, ground := Ground.phase }, { on := 22, ground := Ground.phase }, { on := 23, ground := Ground.phase }, { on := 24, ground := Ground.phase }, { on := 25, ground := Ground.phase }, { on := 26, ground := Ground.phase }, { on := 27, ground := Ground.phase }, { on := 28, ground := Ground.phase }], guard := none }) (v := ?_) rfl (by kernel_rfl) (by kernel_rfl) (by kernel_rfl) (fun _ _ _ h => h) (Or.inl ⟨by rfl, ?_⟩) hHeld ?_
        rotate_left 1
        · intro W hSw
          (try dsimp only at hSw)
          go_simp
          try with_reducible rfl
        try simp only [Act.put, List.setIfInBounds_toArray, List.set_cons_zero, List.set_cons_succ]
        refine wpAnyH_done (by kernel_rfl) ?_ _
        clear hHeld
        go_wp2
        go_ret
        exact ⟨by rw [HRr.out]; first | rfl | simp, HB.out⟩
      exact AllReadyH.nil
    | true =>
      cases q2 with
      | false =>
        have HRr : Hid (R = false) := Lib.hid (by rw [HR.out]; simp)
        obtain ⟨k0, k1, k2⟩ := rcells3 (x := ⟨f, d, bt⟩) (cells_range (l := rc ⟨f, d, bt⟩) HBx.out)
        have u0 : U.drew.cell? ⟨M, 0, none⟩ = some (.func (.func 112) #[] #[.pointer (some ⟨N, 0, none⟩)]) := by simp [World.cell?, HQ.out.up]
        simp only at k0 k1 k2
        refine wp_region_held_drew (S := fun u => u.cell? ⟨w.heap.size, 0, none⟩ = some (.int .i64 f) ∧ u.cell? ⟨w.heap.size, 1, none⟩ = some (.int .i64 d) ∧ u.cell? ⟨w.heap.size, 2, none⟩ = some (.int .i64 bt) ∧ u.cell? ⟨M, 0, none⟩ = some (.func (.func 112) #[] #[.pointer (some ⟨N, 0, none⟩)])) (by kernel_rfl) (⟨k0, k1, k2, u0⟩) (fun hHeld => ?_)
        generalize U.drew = U at *
        refine wpAnyH_take (i := 0) (oi := { dst := some 5, op := Op.fieldAddr 98 (Operand.tmp 3) 0, type := 0, pos := "word.go:25", after := #[], guard := none }) (v := ?_) rfl (by kernel_rfl) (by kernel_rfl) (by kernel_rfl) (fun _ _ _ h => h) (Or.inl ⟨by rfl, ?_⟩) hHeld ?_
        rotate_left 1
        · intro W hSw
          (try dsimp only at hSw)
          go_simp
          try with_reducible rfl
        try simp only [Act.put, List.setIfInBounds_toArray, List.set_cons_zero, List.set_cons_succ]
        refine wpAnyH_take (i := 1) (oi := { dst := some 6, op := Op.load 3 (Operand.tmp 5), type := 3, pos := "word.go:25", after := #[{ on := 0, ground := Ground.data }], guard := none }) (v := ?_) rfl (by kernel_rfl) (by kernel_rfl) (by kernel_rfl) (fun _ _ _ h => h) (Or.inl ⟨by rfl, ?_⟩) hHeld ?_
        rotate_left 1
        · intro W hSw
          (try dsimp only at hSw)
          go_simp
          try with_reducible rfl
        try simp only [Act.put, List.setIfInBounds_toArray, List.set_cons_zero, List.set_cons_succ]
        refine wpAnyH_take (i := 2) (oi := { dst := some 7, op := Op.fieldAddr 98 (Operand.tmp 3) 1, type := 0, pos := "word.go:25", after := #[], guard := none }) (v := ?_) rfl (by kernel_rfl) (by kernel_rfl) (by kernel_rfl) (fun _ _ _ h => h) (Or.inl ⟨by rfl, ?_⟩) hHeld ?_
        rotate_left 1
        · intro W hSw
          (try dsimp only at hSw)
          go_simp
          try with_reducible rfl
        try simp only [Act.put, List.setIfInBounds_toArray, List.set_cons_zero, List.set_cons_succ]
        refine wpAnyH_take (i := 3) (oi := { dst := some 8, op := Op.load 3 (Operand.tmp 7), type := 3, pos := "word.go:25", after := #[{ on := 2, ground := Ground.data }], guard := none }) (v := ?_) rfl (by kernel_rfl) (by kernel_rfl) (by kernel_rfl) (fun _ _ _ h => h) (Or.inl ⟨by rfl, ?_⟩) hHeld ?_
        rotate_left 1
        · intro W hSw
          (try dsimp only at hSw)
          go_simp
          try with_reducible rfl
        try simp only [Act.put, List.setIfInBounds_toArray, List.set_cons_zero, List.set_cons_succ]
        refine wpAnyH_take (i := 4) (oi := { dst := some 9, op := Op.binOp BinOp.neq 3 (Operand.tmp 6) (Operand.tmp 8) 3, type := 4, pos := "word.go:25", after := #[{ on := 1, ground := Ground.data }, { on := 3, ground := Ground.data }], guard := none }) (v := ?_) rfl (by kernel_rfl) (by kernel_rfl) (by kernel_rfl) (fun _ _ _ h => h) (Or.inl ⟨by rfl, ?_⟩) hHeld ?_
        rotate_left 1
        · intro W hSw
          (try dsimp only at hSw)
          go_simp
          try with_reducible rfl
        try simp only [Act.put, List.setIfInBounds_toArray, List.set_cons_zero, List.set_cons_succ]
        refine wpAnyH_take (i := 5) (oi := { dst := some 10, op := Op.move (Operand.tmp 9), type := 4, pos := "word.go:25", after := #[{ on := 4, ground := Ground.data }], guard := none }) (v := ?_) rfl (by kernel_rfl) (by kernel_rfl) (by kernel_rfl) (fun _ _ _ h => h) (Or.inl ⟨by rfl, ?_⟩) hHeld ?_
        rotate_left 1
        · intro W hSw
          (try dsimp only at hSw)
          go_simp
          try with_reducible rfl
        try simp only [Act.put, List.setIfInBounds_toArray, List.set_cons_zero, List.set_cons_succ]
        refine wpAnyH_take (i := 6) (oi := { dst := some 11, op := Op.load 167 (Operand.tmp 1), type := 167, pos := "word.go:25", after := #[{ on := 5, ground := Ground.guard }], guard := some (5, true) }) (v := ?_) rfl (by kernel_rfl) (by kernel_rfl) (by kernel_rfl) (fun _ _ _ h => h) (Or.inl ⟨by rfl, ?_⟩) hHeld ?_
        rotate_left 1
        · intro W hSw
          (try dsimp only at hSw)
          go_simp
          try with_reducible rfl
        try simp only [Act.put, List.setIfInBounds_toArray, List.set_cons_zero, List.set_cons_succ]
        refine wpAnyH_take (i := 7) (oi := { dst := some 12, op := Op.fieldAddr 98 (Operand.tmp 3) 0, type := 0, pos := "word.go:25", after := #[{ on := 5, ground := Ground.guard }], guard := some (5, true) }) (v := ?_) rfl (by kernel_rfl) (by kernel_rfl) (by kernel_rfl) (fun _ _ _ h => h) (Or.inl ⟨by rfl, ?_⟩) hHeld ?_
        rotate_left 1
        · intro W hSw
          (try dsimp only at hSw)
          go_simp
          try with_reducible rfl
        try simp only [Act.put, List.setIfInBounds_toArray, List.set_cons_zero, List.set_cons_succ]
        refine wpAnyH_take (i := 8) (oi := { dst := some 13, op := Op.load 3 (Operand.tmp 12), type := 3, pos := "word.go:25", after := #[{ on := 7, ground := Ground.data }, { on := 5, ground := Ground.guard }], guard := some (5, true) }) (v := ?_) rfl (by kernel_rfl) (by kernel_rfl) (by kernel_rfl) (fun _ _ _ h => h) (Or.inl ⟨by rfl, ?_⟩) hHeld ?_
        rotate_left 1
        · intro W hSw
          (try dsimp only at hSw)
          go_simp
          try with_reducible rfl
        try simp only [Act.put, List.setIfInBounds_toArray, List.set_cons_zero, List.set_cons_succ]
        refine wpAnyH_ready (rs := [9]) (by kernel_rfl) (by simp) ?_
        refine AllReadyH.cons (o := { dst := some 14, op := Op.call { callee := Callee.value (Operand.tmp 11), args := #[Operand.tmp 13], argTypes := #[3] }, type := 4, pos := "word.go:25", after := #[{ on := 6, ground := Ground.data }, { on := 8, ground := Ground.data }, { on := 5, ground := Ground.chain }, { on := 5, ground := Ground.guard }], guard := some (5, true) }) rfl (fun K7 hK7 => ?_) ?_
        · go_simp
          refine (HU1.out _ HQ.out).mono ?_
          rintro e V ⟨rfl, rfl⟩
          try dsimp only
          refine hK7.out _ _ (⟨k0, k1, k2, u0⟩) (fun hHeld => ?_)
          clear hK7 K7
          try simp only [Act.put, List.setIfInBounds_toArray, List.set_cons_zero, List.set_cons_succ]
          refine wpAnyH_take (i := 10) (oi := { dst := some 15, op := Op.pick (Operand.tmp 10) (Operand.tmp 14) (Operand.const (Value.bool false)), type := 4, pos := "word.go:25", after := #[{ on := 5, ground := Ground.data }, { on := 9, ground := Ground.data }], guard := none }) (v := ?_) rfl (by kernel_rfl) (by kernel_rfl) (by kernel_rfl) (fun _ _ _ h => h) (Or.inl ⟨by rfl, ?_⟩) hHeld ?_
          rotate_left 1
          · intro W hSw
            (try dsimp only at hSw)
            go_simp
            try with_reducible rfl
          try simp only [Act.put, List.setIfInBounds_toArray, List.set_cons_zero, List.set_cons_succ]
          refine wpAnyH_take (i := 11) (oi := { dst := some 16, op := Op.move (Operand.tmp 15), type := 4, pos := "word.go:25", after := #[{ on := 10, ground := Ground.data }, { on := 9, ground := Ground.chain }], guard := none }) (v := ?_) rfl (by kernel_rfl) (by kernel_rfl) (by kernel_rfl) (fun _ _ _ h => h) (Or.inl ⟨by rfl, ?_⟩) hHeld ?_
          rotate_left 1
          · intro W hSw
            (try dsimp only at hSw)
            go_simp
            try with_reducible rfl
          try simp only [Act.put, List.setIfInBounds_toArray, List.set_cons_zero, List.set_cons_succ]
          refine wpAnyH_take (i := 12) (oi := { dst := some 17, op := Op.load 167 (Operand.tmp 1), type := 167, pos := "word.go:25", after := #[{ on := 11, ground := Ground.guard }], guard := some (11, true) }) (v := ?_) rfl (by kernel_rfl) (by kernel_rfl) (by kernel_rfl) (fun _ _ _ h => h) (Or.inl ⟨by rfl, ?_⟩) hHeld ?_
          rotate_left 1
          · intro W hSw
            (try dsimp only at hSw)
            go_simp
            try with_reducible rfl
          try simp only [Act.put, List.setIfInBounds_toArray, List.set_cons_zero, List.set_cons_succ]
          refine wpAnyH_take (i := 13) (oi := { dst := some 18, op := Op.fieldAddr 98 (Operand.tmp 3) 1, type := 0, pos := "word.go:25", after := #[{ on := 11, ground := Ground.guard }], guard := some (11, true) }) (v := ?_) rfl (by kernel_rfl) (by kernel_rfl) (by kernel_rfl) (fun _ _ _ h => h) (Or.inl ⟨by rfl, ?_⟩) hHeld ?_
          rotate_left 1
          · intro W hSw
            (try dsimp only at hSw)
            go_simp
            try with_reducible rfl
          try simp only [Act.put, List.setIfInBounds_toArray, List.set_cons_zero, List.set_cons_succ]
          refine wpAnyH_take (i := 14) (oi := { dst := some 19, op := Op.load 3 (Operand.tmp 18), type := 3, pos := "word.go:25", after := #[{ on := 13, ground := Ground.data }, { on := 11, ground := Ground.guard }], guard := some (11, true) }) (v := ?_) rfl (by kernel_rfl) (by kernel_rfl) (by kernel_rfl) (fun _ _ _ h => h) (Or.inl ⟨by rfl, ?_⟩) hHeld ?_
          rotate_left 1
          · intro W hSw
            (try dsimp only at hSw)
            go_simp
            try with_reducible rfl
          try simp only [Act.put, List.setIfInBounds_toArray, List.set_cons_zero, List.set_cons_succ]
          refine wpAnyH_ready (rs := [15]) (by kernel_rfl) (by simp) ?_
          refine AllReadyH.cons (o := { dst := some 20, op := Op.call { callee := Callee.value (Operand.tmp 17), args := #[Operand.tmp 19], argTypes := #[3] }, type := 4, pos := "word.go:25", after := #[{ on := 12, ground := Ground.data }, { on := 14, ground := Ground.data }, { on := 11, ground := Ground.chain }, { on := 11, ground := Ground.guard }], guard := some (11, true) }) rfl (fun K7 hK7 => ?_) ?_
          · go_simp
            refine (HU2.out _ HQ.out).mono ?_
            rintro e V ⟨rfl, rfl⟩
            try dsimp only
            refine hK7.out _ _ (⟨k0, k1, k2, u0⟩) (fun hHeld => ?_)
            clear hK7 K7
            try simp only [Act.put, List.setIfInBounds_toArray, List.set_cons_zero, List.set_cons_succ]
            refine wpAnyH_take (i := 16) (oi := { dst := some 21, op := Op.pick (Operand.tmp 16) (Operand.tmp 20) (Operand.const (Value.bool false)), type := 4, pos := "word.go:25", after := #[{ on := 11, ground := Ground.data }, { on := 15, ground := Ground.data }], guard := none }) (v := ?_) rfl (by kernel_rfl) (by kernel_rfl) (by kernel_rfl) (fun _ _ _ h => h) (Or.inl ⟨by rfl, ?_⟩) hHeld ?_
            rotate_left 1
            · intro W hSw
              (try dsimp only at hSw)
              go_simp
              try with_reducible rfl
            try simp only [Act.put, List.setIfInBounds_toArray, List.set_cons_zero, List.set_cons_succ]
            refine wpAnyH_take (i := 17) (oi := { dst := some 22, op := Op.move (Operand.tmp 21), type := 4, pos := "word.go:25", after := #[{ on := 16, ground := Ground.data }, { on := 15, ground := Ground.chain }], guard := none }) (v := ?_) rfl (by kernel_rfl) (by kernel_rfl) (by kernel_rfl) (fun _ _ _ h => h) (Or.inl ⟨by rfl, ?_⟩) hHeld ?_
            rotate_left 1
            · intro W hSw
              (try dsimp only at hSw)
              go_simp
              try with_reducible rfl
            try simp only [Act.put, List.setIfInBounds_toArray, List.set_cons_zero, List.set_cons_succ]
            refine wpAnyH_take (i := 18) (oi := { dst := some 23, op := Op.fieldAddr 83 (Operand.tmp 2) 2, type := 0, pos := "word.go:25", after := #[{ on := 17, ground := Ground.guard }], guard := some (17, true) }) (v := undef) rfl (by kernel_rfl) (by kernel_rfl) (by kernel_rfl) (fun _ _ _ h => h) (Or.inr ⟨by rfl, rfl⟩) hHeld ?_
            try simp only [Act.put, List.setIfInBounds_toArray, List.set_cons_zero, List.set_cons_succ]
            refine wpAnyH_take (i := 19) (oi := { dst := some 24, op := Op.load 79 (Operand.tmp 23), type := 79, pos := "word.go:25", after := #[{ on := 18, ground := Ground.data }, { on := 17, ground := Ground.guard }], guard := some (17, true) }) (v := undef) rfl (by kernel_rfl) (by kernel_rfl) (by kernel_rfl) (fun _ _ _ h => h) (Or.inr ⟨by rfl, rfl⟩) hHeld ?_
            try simp only [Act.put, List.setIfInBounds_toArray, List.set_cons_zero, List.set_cons_succ]
            refine wpAnyH_take (i := 20) (oi := { dst := some 25, op := Op.fieldAddr 98 (Operand.tmp 3) 1, type := 0, pos := "word.go:25", after := #[{ on := 17, ground := Ground.guard }], guard := some (17, true) }) (v := undef) rfl (by kernel_rfl) (by kernel_rfl) (by kernel_rfl) (fun _ _ _ h => h) (Or.inr ⟨by rfl, rfl⟩) hHeld ?_
            try simp only [Act.put, List.setIfInBounds_toArray, List.set_cons_zero, List.set_cons_succ]
            refine wpAnyH_take (i := 21) (oi := { dst := some 26, op := Op.load 3 (Operand.tmp 25), type := 3, pos := "word.go:25", after := #[{ on := 20, ground := Ground.data }, { on := 17, ground := Ground.guard }], guard := some (17, true) }) (v := undef) rfl (by kernel_rfl) (by kernel_rfl) (by kernel_rfl) (fun _ _ _ h => h) (Or.inr ⟨by rfl, rfl⟩) hHeld ?_
            try simp only [Act.put, List.setIfInBounds_toArray, List.set_cons_zero, List.set_cons_succ]
            refine wpAnyH_take (i := 22) (oi := { dst := some 27, op := Op.indexAddr 79 (Operand.tmp 24) (Operand.tmp 26), type := 0, pos := "word.go:25", after := #[{ on := 19, ground := Ground.data }, { on := 21, ground := Ground.data }, { on := 17, ground := Ground.guard }], guard := some (17, true) }) (v := undef) rfl (by kernel_rfl) (by kernel_rfl) (by kernel_rfl) (fun _ _ _ h => h) (Or.inr ⟨by rfl, rfl⟩) hHeld ?_
            try simp only [Act.put, List.setIfInBounds_toArray, List.set_cons_zero, List.set_cons_succ]
            refine wpAnyH_take (i := 23) (oi := { dst := some 28, op := Op.fieldAddr 132 (Operand.tmp 27) 0, type := 0, pos := "word.go:25", after := #[{ on := 22, ground := Ground.data }, { on := 17, ground := Ground.guard }], guard := some (17, true) }) (v := undef) rfl (by kernel_rfl) (by kernel_rfl) (by kernel_rfl) (fun _ _ _ h => h) (Or.inr ⟨by rfl, rfl⟩) hHeld ?_
            try simp only [Act.put, List.setIfInBounds_toArray, List.set_cons_zero, List.set_cons_succ]
            refine wpAnyH_take (i := 24) (oi := { dst := some 29, op := Op.load 2 (Operand.tmp 28), type := 2, pos := "word.go:25", after := #[{ on := 23, ground := Ground.data }, { on := 17, ground := Ground.guard }], guard := some (17, true) }) (v := undef) rfl (by kernel_rfl) (by kernel_rfl) (by kernel_rfl) (fun _ _ _ h => h) (Or.inr ⟨by rfl, rfl⟩) hHeld ?_
            try simp only [Act.put, List.setIfInBounds_toArray, List.set_cons_zero, List.set_cons_succ]
            refine wpAnyH_take (i := 25) (oi := { dst := some 30, op := Op.fieldAddr 98 (Operand.tmp 3) 2, type := 0, pos := "word.go:25", after := #[{ on := 17, ground := Ground.guard }], guard := some (17, true) }) (v := undef) rfl (by kernel_rfl) (by kernel_rfl) (by kernel_rfl) (fun _ _ _ h => h) (Or.inr ⟨by rfl, rfl⟩) hHeld ?_
            try simp only [Act.put, List.setIfInBounds_toArray, List.set_cons_zero, List.set_cons_succ]
            refine wpAnyH_take (i := 26) (oi := { dst := some 31, op := Op.load 2 (Operand.tmp 30), type := 2, pos := "word.go:25", after := #[{ on := 25, ground := Ground.data }, { on := 17, ground := Ground.guard }], guard := some (17, true) }) (v := undef) rfl (by kernel_rfl) (by kernel_rfl) (by kernel_rfl) (fun _ _ _ h => h) (Or.inr ⟨by rfl, rfl⟩) hHeld ?_
            try simp only [Act.put, List.setIfInBounds_toArray, List.set_cons_zero, List.set_cons_succ]
            refine wpAnyH_take (i := 27) (oi := { dst := some 32, op := Op.binOp BinOp.eql 2 (Operand.tmp 29) (Operand.tmp 31) 2, type := 4, pos := "word.go:25", after := #[{ on := 24, ground := Ground.data }, { on := 26, ground := Ground.data }, { on := 17, ground := Ground.guard }], guard := some (17, true) }) (v := undef) rfl (by kernel_rfl) (by kernel_rfl) (by kernel_rfl) (fun _ _ _ h => h) (Or.inr ⟨by rfl, rfl⟩) hHeld ?_
            try simp only [Act.put, List.setIfInBounds_toArray, List.set_cons_zero, List.set_cons_succ]
            refine wpAnyH_take (i := 28) (oi := { dst := some 33, op := Op.pick (Operand.tmp 22) (Operand.tmp 32) (Operand.const (Value.bool false)), type := 4, pos := "word.go:25", after := #[{ on := 17, ground := Ground.data }, { on := 27, ground := Ground.data }], guard := none }) (v := ?_) rfl (by kernel_rfl) (by kernel_rfl) (by kernel_rfl) (fun _ _ _ h => h) (Or.inl ⟨by rfl, ?_⟩) hHeld ?_
            rotate_left 1
            · intro W hSw
              (try dsimp only at hSw)
              go_simp
              try with_reducible rfl
            try simp only [Act.put, List.setIfInBounds_toArray, List.set_cons_zero, List.set_cons_succ]
            refine wpAnyH_take (i := 29) (oi := { dst := some 4, op := Op.assign (Operand.tmp 33), type := 4, pos := "word.go:25", after := #[{ on := 28, ground := Ground.data }, { on := 17, ground := Ground.chain }, { on := 0, ground := Ground.phase }, { on := 1, ground := Ground.phase }, { on := 2, ground := Ground.phase }, { on := 3, ground := Ground.phase }, { on := 4, ground := Ground.phase }, { on := 5, ground := Ground.phase }, { on := 6, ground := Ground.phase }, { on := 7, ground := Ground.phase }, { on := 8, ground := Ground.phase }, { on := 9, ground := Ground.phase }, { on := 10, ground := Ground.phase }, { on := 11, ground := Ground.phase }, { on := 12, ground := Ground.phase }, { on := 13, ground := Ground.phase }, { on := 14, ground := Ground.phase }, { on := 15, ground := Ground.phase }, { on := 16, ground := Ground.phase }, { on := 17, ground := Ground.phase }, { on := 18, ground := Ground.phase }, { on := 19, ground := Ground.phase }, { on := 20, ground := Ground.phase }, { on := 21, ground := Ground.phase }, { on := 22, ground := Ground.phase }, { on := 23, ground := Ground.phase }, { on := 24, ground := Ground.phase }, { on := 25, ground := Ground.phase }, { on := 26, ground := Ground.phase }, { on := 27, ground := Ground.phase }, { on := 28, ground := Ground.phase }], guard := none }) (v := ?_) rfl (by kernel_rfl) (by kernel_rfl) (by kernel_rfl) (fun _ _ _ h => h) (Or.inl ⟨by rfl, ?_⟩) hHeld ?_
            rotate_left 1
            · intro W hSw
              (try dsimp only at hSw)
              go_simp
              try with_reducible rfl
            try simp only [Act.put, List.setIfInBounds_toArray, List.set_cons_zero, List.set_cons_succ]
            refine wpAnyH_done (by kernel_rfl) ?_ _
            clear hHeld
            go_wp2
            go_ret
            exact ⟨by rw [HRr.out]; first | rfl | simp, HB.out⟩
          exact AllReadyH.nil
        exact AllReadyH.nil
      | true =>
        obtain ⟨kd, rfl, hkd, -⟩ := HIn.out rfl
        have hkb := HBo.out kd hkd rfl
        have hkL : (kd : Int) < (m.osds.length : Int) := by omega
        have hk0 : (0 : Int) ≤ (kd : Int) := by omega
        have HRr : Hid (R = decide (m.osds[kd].boot = bt)) := Lib.hid (by rw [HR.out, hkb]; simp [hfd])
        obtain ⟨ao, co, rfl⟩ := HQ.out.osds.slice
        have hr := sl_elem HQ.out.osds kd hkd
        obtain ⟨g, off, rfl, hbl, hr⟩ := hr
        have eb := (ocells4 hr).1
        have e2 := HQ.out.map.cells.2.2.1
        generalize m.osds[kd].boot = ob at eb HRr
        obtain ⟨Lo, hLo⟩ : ∃ L, m.osds.length = L := ⟨_, rfl⟩
        rw [hLo] at hkL e2
        clear hr hbl hkb
        obtain ⟨k0, k1, k2⟩ := rcells3 (x := ⟨f, (kd : Int), bt⟩) (cells_range (l := rc ⟨f, (kd : Int), bt⟩) HBx.out)
        have u0 : U.drew.cell? ⟨M, 0, none⟩ = some (.func (.func 112) #[] #[.pointer (some ⟨N, 0, none⟩)]) := by simp [World.cell?, HQ.out.up]
        simp only at k0 k1 k2
        refine wp_region_held_drew (S := fun u => u.cell? ⟨w.heap.size, 0, none⟩ = some (.int .i64 f) ∧ u.cell? ⟨w.heap.size, 1, none⟩ = some (.int .i64 (kd : Int)) ∧ u.cell? ⟨w.heap.size, 2, none⟩ = some (.int .i64 bt) ∧ u.cell? ⟨M, 0, none⟩ = some (.func (.func 112) #[] #[.pointer (some ⟨N, 0, none⟩)]) ∧ u.cell? ⟨N, 2, none⟩ = some (.slice (some ⟨g, off, none⟩) Lo co) ∧ u.cell? ⟨g, off + kd * 4, none⟩ = some (.int .i64 ob)) (by kernel_rfl) (⟨k0, k1, k2, u0, e2, eb⟩) (fun hHeld => ?_)
        generalize U.drew = U at *
        refine wpAnyH_take (i := 0) (oi := { dst := some 5, op := Op.fieldAddr 98 (Operand.tmp 3) 0, type := 0, pos := "word.go:25", after := #[], guard := none }) (v := ?_) rfl (by kernel_rfl) (by kernel_rfl) (by kernel_rfl) (fun _ _ _ h => h) (Or.inl ⟨by rfl, ?_⟩) hHeld ?_
        rotate_left 1
        · intro W hSw
          (try dsimp only at hSw)
          go_simp
          try with_reducible rfl
        try simp only [Act.put, List.setIfInBounds_toArray, List.set_cons_zero, List.set_cons_succ]
        refine wpAnyH_take (i := 1) (oi := { dst := some 6, op := Op.load 3 (Operand.tmp 5), type := 3, pos := "word.go:25", after := #[{ on := 0, ground := Ground.data }], guard := none }) (v := ?_) rfl (by kernel_rfl) (by kernel_rfl) (by kernel_rfl) (fun _ _ _ h => h) (Or.inl ⟨by rfl, ?_⟩) hHeld ?_
        rotate_left 1
        · intro W hSw
          (try dsimp only at hSw)
          go_simp
          try with_reducible rfl
        try simp only [Act.put, List.setIfInBounds_toArray, List.set_cons_zero, List.set_cons_succ]
        refine wpAnyH_take (i := 2) (oi := { dst := some 7, op := Op.fieldAddr 98 (Operand.tmp 3) 1, type := 0, pos := "word.go:25", after := #[], guard := none }) (v := ?_) rfl (by kernel_rfl) (by kernel_rfl) (by kernel_rfl) (fun _ _ _ h => h) (Or.inl ⟨by rfl, ?_⟩) hHeld ?_
        rotate_left 1
        · intro W hSw
          (try dsimp only at hSw)
          go_simp
          try with_reducible rfl
        try simp only [Act.put, List.setIfInBounds_toArray, List.set_cons_zero, List.set_cons_succ]
        refine wpAnyH_take (i := 3) (oi := { dst := some 8, op := Op.load 3 (Operand.tmp 7), type := 3, pos := "word.go:25", after := #[{ on := 2, ground := Ground.data }], guard := none }) (v := ?_) rfl (by kernel_rfl) (by kernel_rfl) (by kernel_rfl) (fun _ _ _ h => h) (Or.inl ⟨by rfl, ?_⟩) hHeld ?_
        rotate_left 1
        · intro W hSw
          (try dsimp only at hSw)
          go_simp
          try with_reducible rfl
        try simp only [Act.put, List.setIfInBounds_toArray, List.set_cons_zero, List.set_cons_succ]
        refine wpAnyH_take (i := 4) (oi := { dst := some 9, op := Op.binOp BinOp.neq 3 (Operand.tmp 6) (Operand.tmp 8) 3, type := 4, pos := "word.go:25", after := #[{ on := 1, ground := Ground.data }, { on := 3, ground := Ground.data }], guard := none }) (v := ?_) rfl (by kernel_rfl) (by kernel_rfl) (by kernel_rfl) (fun _ _ _ h => h) (Or.inl ⟨by rfl, ?_⟩) hHeld ?_
        rotate_left 1
        · intro W hSw
          (try dsimp only at hSw)
          go_simp
          try with_reducible rfl
        try simp only [Act.put, List.setIfInBounds_toArray, List.set_cons_zero, List.set_cons_succ]
        refine wpAnyH_take (i := 5) (oi := { dst := some 10, op := Op.move (Operand.tmp 9), type := 4, pos := "word.go:25", after := #[{ on := 4, ground := Ground.data }], guard := none }) (v := ?_) rfl (by kernel_rfl) (by kernel_rfl) (by kernel_rfl) (fun _ _ _ h => h) (Or.inl ⟨by rfl, ?_⟩) hHeld ?_
        rotate_left 1
        · intro W hSw
          (try dsimp only at hSw)
          go_simp
          try with_reducible rfl
        try simp only [Act.put, List.setIfInBounds_toArray, List.set_cons_zero, List.set_cons_succ]
        refine wpAnyH_take (i := 6) (oi := { dst := some 11, op := Op.load 167 (Operand.tmp 1), type := 167, pos := "word.go:25", after := #[{ on := 5, ground := Ground.guard }], guard := some (5, true) }) (v := ?_) rfl (by kernel_rfl) (by kernel_rfl) (by kernel_rfl) (fun _ _ _ h => h) (Or.inl ⟨by rfl, ?_⟩) hHeld ?_
        rotate_left 1
        · intro W hSw
          (try dsimp only at hSw)
          go_simp
          try with_reducible rfl
        try simp only [Act.put, List.setIfInBounds_toArray, List.set_cons_zero, List.set_cons_succ]
        refine wpAnyH_take (i := 7) (oi := { dst := some 12, op := Op.fieldAddr 98 (Operand.tmp 3) 0, type := 0, pos := "word.go:25", after := #[{ on := 5, ground := Ground.guard }], guard := some (5, true) }) (v := ?_) rfl (by kernel_rfl) (by kernel_rfl) (by kernel_rfl) (fun _ _ _ h => h) (Or.inl ⟨by rfl, ?_⟩) hHeld ?_
        rotate_left 1
        · intro W hSw
          (try dsimp only at hSw)
          go_simp
          try with_reducible rfl
        try simp only [Act.put, List.setIfInBounds_toArray, List.set_cons_zero, List.set_cons_succ]
        refine wpAnyH_take (i := 8) (oi := { dst := some 13, op := Op.load 3 (Operand.tmp 12), type := 3, pos := "word.go:25", after := #[{ on := 7, ground := Ground.data }, { on := 5, ground := Ground.guard }], guard := some (5, true) }) (v := ?_) rfl (by kernel_rfl) (by kernel_rfl) (by kernel_rfl) (fun _ _ _ h => h) (Or.inl ⟨by rfl, ?_⟩) hHeld ?_
        rotate_left 1
        · intro W hSw
          (try dsimp only at hSw)
          go_simp
          try with_reducible rfl
        try simp only [Act.put, List.setIfInBounds_toArray, List.set_cons_zero, List.set_cons_succ]
        refine wpAnyH_ready (rs := [9]) (by kernel_rfl) (by simp) ?_
        refine AllReadyH.cons (o := { dst := some 14, op := Op.call { callee := Callee.value (Operand.tmp 11), args := #[Operand.tmp 13], argTypes := #[3] }, type := 4, pos := "word.go:25", after := #[{ on := 6, ground := Ground.data }, { on := 8, ground := Ground.data }, { on := 5, ground := Ground.chain }, { on := 5, ground := Ground.guard }], guard := some (5, true) }) rfl (fun K7 hK7 => ?_) ?_
        · go_simp
          refine (HU1.out _ HQ.out).mono ?_
          rintro e V ⟨rfl, rfl⟩
          try dsimp only
          refine hK7.out _ _ (⟨k0, k1, k2, u0, e2, eb⟩) (fun hHeld => ?_)
          clear hK7 K7
          try simp only [Act.put, List.setIfInBounds_toArray, List.set_cons_zero, List.set_cons_succ]
          refine wpAnyH_take (i := 10) (oi := { dst := some 15, op := Op.pick (Operand.tmp 10) (Operand.tmp 14) (Operand.const (Value.bool false)), type := 4, pos := "word.go:25", after := #[{ on := 5, ground := Ground.data }, { on := 9, ground := Ground.data }], guard := none }) (v := ?_) rfl (by kernel_rfl) (by kernel_rfl) (by kernel_rfl) (fun _ _ _ h => h) (Or.inl ⟨by rfl, ?_⟩) hHeld ?_
          rotate_left 1
          · intro W hSw
            (try dsimp only at hSw)
            go_simp
            try with_reducible rfl
          try simp only [Act.put, List.setIfInBounds_toArray, List.set_cons_zero, List.set_cons_succ]
          refine wpAnyH_take (i := 11) (oi := { dst := some 16, op := Op.move (Operand.tmp 15), type := 4, pos := "word.go:25", after := #[{ on := 10, ground := Ground.data }, { on := 9, ground := Ground.chain }], guard := none }) (v := ?_) rfl (by kernel_rfl) (by kernel_rfl) (by kernel_rfl) (fun _ _ _ h => h) (Or.inl ⟨by rfl, ?_⟩) hHeld ?_
          rotate_left 1
          · intro W hSw
            (try dsimp only at hSw)
            go_simp
            try with_reducible rfl
          try simp only [Act.put, List.setIfInBounds_toArray, List.set_cons_zero, List.set_cons_succ]
          refine wpAnyH_take (i := 12) (oi := { dst := some 17, op := Op.load 167 (Operand.tmp 1), type := 167, pos := "word.go:25", after := #[{ on := 11, ground := Ground.guard }], guard := some (11, true) }) (v := ?_) rfl (by kernel_rfl) (by kernel_rfl) (by kernel_rfl) (fun _ _ _ h => h) (Or.inl ⟨by rfl, ?_⟩) hHeld ?_
          rotate_left 1
          · intro W hSw
            (try dsimp only at hSw)
            go_simp
            try with_reducible rfl
          try simp only [Act.put, List.setIfInBounds_toArray, List.set_cons_zero, List.set_cons_succ]
          refine wpAnyH_take (i := 13) (oi := { dst := some 18, op := Op.fieldAddr 98 (Operand.tmp 3) 1, type := 0, pos := "word.go:25", after := #[{ on := 11, ground := Ground.guard }], guard := some (11, true) }) (v := ?_) rfl (by kernel_rfl) (by kernel_rfl) (by kernel_rfl) (fun _ _ _ h => h) (Or.inl ⟨by rfl, ?_⟩) hHeld ?_
          rotate_left 1
          · intro W hSw
            (try dsimp only at hSw)
            go_simp
            try with_reducible rfl
          try simp only [Act.put, List.setIfInBounds_toArray, List.set_cons_zero, List.set_cons_succ]
          refine wpAnyH_take (i := 14) (oi := { dst := some 19, op := Op.load 3 (Operand.tmp 18), type := 3, pos := "word.go:25", after := #[{ on := 13, ground := Ground.data }, { on := 11, ground := Ground.guard }], guard := some (11, true) }) (v := ?_) rfl (by kernel_rfl) (by kernel_rfl) (by kernel_rfl) (fun _ _ _ h => h) (Or.inl ⟨by rfl, ?_⟩) hHeld ?_
          rotate_left 1
          · intro W hSw
            (try dsimp only at hSw)
            go_simp
            try with_reducible rfl
          try simp only [Act.put, List.setIfInBounds_toArray, List.set_cons_zero, List.set_cons_succ]
          refine wpAnyH_ready (rs := [15]) (by kernel_rfl) (by simp) ?_
          refine AllReadyH.cons (o := { dst := some 20, op := Op.call { callee := Callee.value (Operand.tmp 17), args := #[Operand.tmp 19], argTypes := #[3] }, type := 4, pos := "word.go:25", after := #[{ on := 12, ground := Ground.data }, { on := 14, ground := Ground.data }, { on := 11, ground := Ground.chain }, { on := 11, ground := Ground.guard }], guard := some (11, true) }) rfl (fun K7 hK7 => ?_) ?_
          · go_simp
            refine (HU2.out _ HQ.out).mono ?_
            rintro e V ⟨rfl, rfl⟩
            try dsimp only
            refine hK7.out _ _ (⟨k0, k1, k2, u0, e2, eb⟩) (fun hHeld => ?_)
            clear hK7 K7
            try simp only [Act.put, List.setIfInBounds_toArray, List.set_cons_zero, List.set_cons_succ]
            refine wpAnyH_take (i := 16) (oi := { dst := some 21, op := Op.pick (Operand.tmp 16) (Operand.tmp 20) (Operand.const (Value.bool false)), type := 4, pos := "word.go:25", after := #[{ on := 11, ground := Ground.data }, { on := 15, ground := Ground.data }], guard := none }) (v := ?_) rfl (by kernel_rfl) (by kernel_rfl) (by kernel_rfl) (fun _ _ _ h => h) (Or.inl ⟨by rfl, ?_⟩) hHeld ?_
            rotate_left 1
            · intro W hSw
              (try dsimp only at hSw)
              go_simp
              try with_reducible rfl
            try simp only [Act.put, List.setIfInBounds_toArray, List.set_cons_zero, List.set_cons_succ]
            refine wpAnyH_take (i := 17) (oi := { dst := some 22, op := Op.move (Operand.tmp 21), type := 4, pos := "word.go:25", after := #[{ on := 16, ground := Ground.data }, { on := 15, ground := Ground.chain }], guard := none }) (v := ?_) rfl (by kernel_rfl) (by kernel_rfl) (by kernel_rfl) (fun _ _ _ h => h) (Or.inl ⟨by rfl, ?_⟩) hHeld ?_
            rotate_left 1
            · intro W hSw
              (try dsimp only at hSw)
              go_simp
              try with_reducible rfl
            try simp only [Act.put, List.setIfInBounds_toArray, List.set_cons_zero, List.set_cons_succ]
            refine wpAnyH_take (i := 18) (oi := { dst := some 23, op := Op.fieldAddr 83 (Operand.tmp 2) 2, type := 0, pos := "word.go:25", after := #[{ on := 17, ground := Ground.guard }], guard := some (17, true) }) (v := ?_) rfl (by kernel_rfl) (by kernel_rfl) (by kernel_rfl) (fun _ _ _ h => h) (Or.inl ⟨by rfl, ?_⟩) hHeld ?_
            rotate_left 1
            · intro W hSw
              (try dsimp only at hSw)
              go_simp
              try with_reducible rfl
            try simp only [Act.put, List.setIfInBounds_toArray, List.set_cons_zero, List.set_cons_succ]
            refine wpAnyH_take (i := 19) (oi := { dst := some 24, op := Op.load 79 (Operand.tmp 23), type := 79, pos := "word.go:25", after := #[{ on := 18, ground := Ground.data }, { on := 17, ground := Ground.guard }], guard := some (17, true) }) (v := ?_) rfl (by kernel_rfl) (by kernel_rfl) (by kernel_rfl) (fun _ _ _ h => h) (Or.inl ⟨by rfl, ?_⟩) hHeld ?_
            rotate_left 1
            · intro W hSw
              (try dsimp only at hSw)
              go_simp
              try with_reducible rfl
            try simp only [Act.put, List.setIfInBounds_toArray, List.set_cons_zero, List.set_cons_succ]
            refine wpAnyH_take (i := 20) (oi := { dst := some 25, op := Op.fieldAddr 98 (Operand.tmp 3) 1, type := 0, pos := "word.go:25", after := #[{ on := 17, ground := Ground.guard }], guard := some (17, true) }) (v := ?_) rfl (by kernel_rfl) (by kernel_rfl) (by kernel_rfl) (fun _ _ _ h => h) (Or.inl ⟨by rfl, ?_⟩) hHeld ?_
            rotate_left 1
            · intro W hSw
              (try dsimp only at hSw)
              go_simp
              try with_reducible rfl
            try simp only [Act.put, List.setIfInBounds_toArray, List.set_cons_zero, List.set_cons_succ]
            refine wpAnyH_take (i := 21) (oi := { dst := some 26, op := Op.load 3 (Operand.tmp 25), type := 3, pos := "word.go:25", after := #[{ on := 20, ground := Ground.data }, { on := 17, ground := Ground.guard }], guard := some (17, true) }) (v := ?_) rfl (by kernel_rfl) (by kernel_rfl) (by kernel_rfl) (fun _ _ _ h => h) (Or.inl ⟨by rfl, ?_⟩) hHeld ?_
            rotate_left 1
            · intro W hSw
              (try dsimp only at hSw)
              go_simp
              try with_reducible rfl
            try simp only [Act.put, List.setIfInBounds_toArray, List.set_cons_zero, List.set_cons_succ]
            refine wpAnyH_take (i := 22) (oi := { dst := some 27, op := Op.indexAddr 79 (Operand.tmp 24) (Operand.tmp 26), type := 0, pos := "word.go:25", after := #[{ on := 19, ground := Ground.data }, { on := 21, ground := Ground.data }, { on := 17, ground := Ground.guard }], guard := some (17, true) }) (v := ?_) rfl (by kernel_rfl) (by kernel_rfl) (by kernel_rfl) (fun _ _ _ h => h) (Or.inl ⟨by rfl, ?_⟩) hHeld ?_
            rotate_left 1
            · intro W hSw
              (try dsimp only at hSw)
              go_simp
              try with_reducible rfl
            try simp only [Act.put, List.setIfInBounds_toArray, List.set_cons_zero, List.set_cons_succ]
            refine wpAnyH_take (i := 23) (oi := { dst := some 28, op := Op.fieldAddr 132 (Operand.tmp 27) 0, type := 0, pos := "word.go:25", after := #[{ on := 22, ground := Ground.data }, { on := 17, ground := Ground.guard }], guard := some (17, true) }) (v := ?_) rfl (by kernel_rfl) (by kernel_rfl) (by kernel_rfl) (fun _ _ _ h => h) (Or.inl ⟨by rfl, ?_⟩) hHeld ?_
            rotate_left 1
            · intro W hSw
              (try dsimp only at hSw)
              go_simp
              try with_reducible rfl
            try simp only [Act.put, List.setIfInBounds_toArray, List.set_cons_zero, List.set_cons_succ]
            refine wpAnyH_take (i := 24) (oi := { dst := some 29, op := Op.load 2 (Operand.tmp 28), type := 2, pos := "word.go:25", after := #[{ on := 23, ground := Ground.data }, { on := 17, ground := Ground.guard }], guard := some (17, true) }) (v := ?_) rfl (by kernel_rfl) (by kernel_rfl) (by kernel_rfl) (fun _ _ _ h => h) (Or.inl ⟨by rfl, ?_⟩) hHeld ?_
            rotate_left 1
            · intro W hSw
              (try dsimp only at hSw)
              go_simp
              try with_reducible rfl
            try simp only [Act.put, List.setIfInBounds_toArray, List.set_cons_zero, List.set_cons_succ]
            refine wpAnyH_take (i := 25) (oi := { dst := some 30, op := Op.fieldAddr 98 (Operand.tmp 3) 2, type := 0, pos := "word.go:25", after := #[{ on := 17, ground := Ground.guard }], guard := some (17, true) }) (v := ?_) rfl (by kernel_rfl) (by kernel_rfl) (by kernel_rfl) (fun _ _ _ h => h) (Or.inl ⟨by rfl, ?_⟩) hHeld ?_
            rotate_left 1
            · intro W hSw
              (try dsimp only at hSw)
              go_simp
              try with_reducible rfl
            try simp only [Act.put, List.setIfInBounds_toArray, List.set_cons_zero, List.set_cons_succ]
            refine wpAnyH_take (i := 26) (oi := { dst := some 31, op := Op.load 2 (Operand.tmp 30), type := 2, pos := "word.go:25", after := #[{ on := 25, ground := Ground.data }, { on := 17, ground := Ground.guard }], guard := some (17, true) }) (v := ?_) rfl (by kernel_rfl) (by kernel_rfl) (by kernel_rfl) (fun _ _ _ h => h) (Or.inl ⟨by rfl, ?_⟩) hHeld ?_
            rotate_left 1
            · intro W hSw
              (try dsimp only at hSw)
              go_simp
              try with_reducible rfl
            try simp only [Act.put, List.setIfInBounds_toArray, List.set_cons_zero, List.set_cons_succ]
            refine wpAnyH_take (i := 27) (oi := { dst := some 32, op := Op.binOp BinOp.eql 2 (Operand.tmp 29) (Operand.tmp 31) 2, type := 4, pos := "word.go:25", after := #[{ on := 24, ground := Ground.data }, { on := 26, ground := Ground.data }, { on := 17, ground := Ground.guard }], guard := some (17, true) }) (v := ?_) rfl (by kernel_rfl) (by kernel_rfl) (by kernel_rfl) (fun _ _ _ h => h) (Or.inl ⟨by rfl, ?_⟩) hHeld ?_
            rotate_left 1
            · intro W hSw
              (try dsimp only at hSw)
              go_simp
              try with_reducible rfl
            try simp only [Act.put, List.setIfInBounds_toArray, List.set_cons_zero, List.set_cons_succ]
            refine wpAnyH_take (i := 28) (oi := { dst := some 33, op := Op.pick (Operand.tmp 22) (Operand.tmp 32) (Operand.const (Value.bool false)), type := 4, pos := "word.go:25", after := #[{ on := 17, ground := Ground.data }, { on := 27, ground := Ground.data }], guard := none }) (v := ?_) rfl (by kernel_rfl) (by kernel_rfl) (by kernel_rfl) (fun _ _ _ h => h) (Or.inl ⟨by rfl, ?_⟩) hHeld ?_
            rotate_left 1
            · intro W hSw
              (try dsimp only at hSw)
              go_simp
              try with_reducible rfl
            try simp only [Act.put, List.setIfInBounds_toArray, List.set_cons_zero, List.set_cons_succ]
            refine wpAnyH_take (i := 29) (oi := { dst := some 4, op := Op.assign (Operand.tmp 33), type := 4, pos := "word.go:25", after := #[{ on := 28, ground := Ground.data }, { on := 17, ground := Ground.chain }, { on := 0, ground := Ground.phase }, { on := 1, ground := Ground.phase }, { on := 2, ground := Ground.phase }, { on := 3, ground := Ground.phase }, { on := 4, ground := Ground.phase }, { on := 5, ground := Ground.phase }, { on := 6, ground := Ground.phase }, { on := 7, ground := Ground.phase }, { on := 8, ground := Ground.phase }, { on := 9, ground := Ground.phase }, { on := 10, ground := Ground.phase }, { on := 11, ground := Ground.phase }, { on := 12, ground := Ground.phase }, { on := 13, ground := Ground.phase }, { on := 14, ground := Ground.phase }, { on := 15, ground := Ground.phase }, { on := 16, ground := Ground.phase }, { on := 17, ground := Ground.phase }, { on := 18, ground := Ground.phase }, { on := 19, ground := Ground.phase }, { on := 20, ground := Ground.phase }, { on := 21, ground := Ground.phase }, { on := 22, ground := Ground.phase }, { on := 23, ground := Ground.phase }, { on := 24, ground := Ground.phase }, { on := 25, ground := Ground.phase }, { on := 26, ground := Ground.phase }, { on := 27, ground := Ground.phase }, { on := 28, ground := Ground.phase }], guard := none }) (v := ?_) rfl (by kernel_rfl) (by kernel_rfl) (by kernel_rfl) (fun _ _ _ h => h) (Or.inl ⟨by rfl, ?_⟩) hHeld ?_
            rotate_left 1
            · intro W hSw
              (try dsimp only at hSw)
              go_simp
              try with_reducible rfl
            try simp only [Act.put, List.setIfInBounds_toArray, List.set_cons_zero, List.set_cons_succ]
            refine wpAnyH_done (by kernel_rfl) ?_ _
            clear hHeld
            go_wp2
            go_ret
            exact ⟨by rw [HRr.out]; first | rfl | simp, HB.out⟩
          exact AllReadyH.nil
        exact AllReadyH.nil

end Go.Proofs.Ytcofmfjhgbihkaa.crush

namespace Go.Proofs.Ytcofmfjhgbihkaa.crush
open Go.RowKit Go.Maps
open Go.Proofs.Ytcofmfjhgbihkaa.kit Go.Proofs.Ytcofmfjhgbihkaa.own
set_option linter.unusedVariables false
set_option linter.unusedSimpArgs false

theorem laidOutR : laidOutB Try.prog = true := by kernel_rfl
theorem keyLawR : Keyed Try.prog 172 := Keyed.of_law (deep_law_laid laidOutR (m := 2) (by omega) (of_decide_eq_true (by kernel_rfl)) (by kernel_rfl) (by kernel_rfl))
def RepV.Ok (x : RepV) : Prop := (-9223372036854775808 ≤ x.fr ∧ x.fr ≤ 9223372036854775807) ∧ (-9223372036854775808 ≤ x.osd ∧ x.osd ≤ 9223372036854775807)
theorem keyTyR : Try.prog.keyType 172 = true := by kernel_rfl
theorem cellsWordR : Try.prog.cellsOf 172 = 2 := by kernel_rfl
theorem cellsIntR : Try.prog.cellsOf 3 = 1 := by kernel_rfl
def wkeyR (x : RepV) : Lit := .string (keyBytes [.int .i64 x.fr, .int .i64 x.osd])
theorem keyIntR (n : Nat) (a : Int) (ha : -9223372036854775808 ≤ a ∧ a ≤ 9223372036854775807) : Try.prog.keyLits (n + 1) 3 [.int .i64 a] = some [.int .i64 a] := by
  unfold Program.keyLits
  rw [Try.underlying3]
  simp only
  rw [if_pos ⟨trivial, by simp [Lit.wf, IntKind.min, IntKind.max, IntKind.signed, IntKind.bits]; exact ha⟩]
theorem key_someR (x : RepV) (hx : x.Ok) : Go.keyOf Try.prog 172 (.agg #[.int .i64 x.fr, .int .i64 x.osd]) = some (wkeyR x) := by
  obtain ⟨m, hm⟩ : ∃ m, Try.prog.types.size = m + 1 := ⟨Try.prog.types.size - 1, by have : (172 : Nat) < Try.prog.types.size := of_decide_eq_true (by kernel_rfl); omega⟩
  have hf : Value.formed Try.prog 172 (.agg #[.int .i64 x.fr, .int .i64 x.osd]) = true := by
    simp [Value.formed, Try.underlying172, cellsWordR]
  have hl : Try.prog.keyLits (m + 1 + 1) 172 [.int .i64 x.fr, .int .i64 x.osd] = some [.int .i64 x.fr, .int .i64 x.osd] := by
    unfold Program.keyLits
    rw [Try.underlying172]
    simp only
    rw [if_pos ⟨by rw [cellsWordR]; rfl, by simp⟩]
    simp only [List.mapM_cons, List.mapM_nil, cellsIntR, List.drop_zero, List.take_succ_cons, List.take_zero, List.drop_succ_cons, keyIntR m _ hx.1, keyIntR m _ hx.2]
    rfl
  have hu := Try.underlying172
  unfold Go.keyOf
  rw [hu]
  simp only
  rw [keyTyR, hf, hm]
  simp only [Bool.and_self, if_true]
  rw [show ((Value.agg #[.int .i64 x.fr, .int .i64 x.osd]).cells).toList = [.int .i64 x.fr, .int .i64 x.osd] from rfl, hl]
  rfl
def sameW (a b : RepV) : Bool := decide (a.fr = b.fr) && decide (a.osd = b.osd)
theorem wkeyR_inj (x y : RepV) (hx : x.Ok) (hy : y.Ok) (h : wkeyR x = wkeyR y) : sameW x y = true := by
  have := keyLawR.inj (key_someR x hx) (by rw [h]; exact key_someR y hy)
  injection this with e
  have e1 := congrArg (fun a => a[0]?) e
  have e2 := congrArg (fun a => a[1]?) e
  simp at e1 e2
  unfold sameW
  rw [decide_eq_true e1, decide_eq_true e2]; rfl
theorem wkeyR_same {x y : RepV} (h : sameW x y = true) : wkeyR x = wkeyR y := by
  unfold sameW at h
  rw [Bool.and_eq_true, decide_eq_true_eq, decide_eq_true_eq] at h
  unfold wkeyR
  rw [h.1, h.2]
def inW (once : List RepV) (r : RepV) : Bool := once.any (sameW r)
/-- The words of a row stand in the map at block b. -/
def WMap (w : World) (b : Nat) (once : List RepV) : Prop := ∃ D : DataW Unit, w.ownsMap Try.prog 172 unitElem b once.length D ∧ ∀ r : RepV, r.Ok → Maps.has D (wkeyR r) = inW once r
theorem grown_belowR {w w' : World} (h : Below w.heap.size w w') : w.grownBy w' none := ⟨h.os, h.tape, h.output, h.size, fun k hk _ => h.block k hk⟩
theorem WMap.keep {w w' : World} {b : Nat} {once : List RepV} (h : WMap w b once) (hb : Below w.heap.size w w') : WMap w' b once := by
  obtain ⟨D, h1, h2⟩ := h
  exact ⟨D, World.ownsMap.kept h1 (grown_belowR hb) (by simp), h2⟩
theorem WMap.below1 {w w' : World} {b B : Nat} {once : List RepV} (h : WMap w b once) (hb : Below B w w') (hB : b < B) : WMap w' b once := by
  obtain ⟨D, h1, h2⟩ := h
  obtain ⟨es, clock, e1, e2, e3, e4⟩ := h1
  exact ⟨D, ⟨es, clock, (hb.block b hB).trans e1, e2, e3, e4⟩, h2⟩
theorem wmap_put {w' : World} {b : Nat} {once : List RepV} {D : DataW Unit} {r : RepV} (hD : IsMap D) (h : w'.ownsMap Try.prog 172 unitElem b (once.length + 1) (D.put (wkeyR r) (.agg []))) (hr : r.Ok) (h2 : ∀ r : RepV, r.Ok → Maps.has D (wkeyR r) = inW once r) : WMap w' b (once ++ [r]) := by
  refine ⟨_, by rw [List.length_append, List.length_singleton]; exact h, fun x hx => ?_⟩
  unfold inW
  rw [List.any_append, List.any_cons, List.any_nil, Bool.or_false]
  cases hs : sameW x r with
  | true => rw [wkeyR_same hs, has_put_same hD (show WideAt.IsKeyLit (wkeyR r) from trivial), Bool.or_true]
  | false =>
    rw [has_put_other (fun e => by have := wkeyR_inj x r hx hr e; rw [hs] at this; cases this), h2 x hx, Bool.or_false]
    rfl
/-- The reports of the first k that count, each word once. -/
def uniL (p : RepV → Bool) (l : List RepV) : Nat → List RepV
  | 0 => []
  | k + 1 => if inW (uniL p l k) (l.getD k ⟨0, 0, 0⟩) || !p (l.getD k ⟨0, 0, 0⟩) then uniL p l k else uniL p l k ++ [l.getD k ⟨0, 0, 0⟩]
theorem uniL_len (p : RepV → Bool) (l : List RepV) : ∀ k, (uniL p l k).length ≤ k
  | 0 => Nat.le_refl _
  | k + 1 => by
    have := uniL_len p l k
    rw [uniL]
    split
    · omega
    · rw [List.length_append, List.length_singleton]; omega
theorem Own.grownO {α : Type} {enc : α → List Value} {k e B : Nat} {W W' : World} {v : Value} {xs : List α} (h : Own enc k e W B v xs) {b : Nat} (hg : W.grownBy W' (some b)) (hb : b < B) : Own enc k e W' B v xs := by
  rcases h.2 with ⟨rfl, h0⟩ | ⟨g, cap, cur, rfl, hB, hgg, hr⟩
  · exact ⟨h.1, .inl ⟨rfl, h0⟩⟩
  · have hl : g < W.heap.size := (Array.getElem?_eq_some_iff.1 hgg).1
    exact ⟨h.1, .inr ⟨g, cap, cur, rfl, hB, (hg.block g hl (fun e => by cases e; omega)).trans hgg, hr⟩⟩
theorem zeroUnit (w : World) : (zeroValue 173).run Try.prog w = .ok (.agg #[]) w := by kernel_rfl

set_option maxHeartbeats 32000000 in
set_option maxRecDepth 100000 in
theorem unlike_any (vl : Value) (l : List RepV) (m : MapV) (N M : Nat) (vh vo vp vb : Value) (w : World) (hl : Sl rc 3 w vl l) (hok : ∀ r, r ∈ l → r.Ok) (hz : l.length ≤ 1000000000000) (hq : QBox w N M m vh vo vp vb) (hm : m.osds.length ≤ 1000000) :
    Calls Try.prog 94 #[vl, .func (.func 113) #[] #[.pointer (some ⟨M, 0, none⟩), .pointer (some ⟨N, 0, none⟩)]] w (RowS rc 3 98 w (uniL (cntR m) l l.length)) := by
  have HS := Lib.hid (fun u (hu : Below w.heap.size w u) => hl.keep hu)
  have HC := Lib.hid (fun r u (hu : Below w.heap.size w u) => counts_any r m N M vh vo vp vb u (hq.keep hu) hm)
  have HOk := Lib.hid hok
  obtain ⟨al, yl, rfl⟩ := hl.slice
  have hmx := hl.1
  have HStep : Hid (∀ k (hk : k < l.length), uniL (cntR m) l (k + 1) = if inW (uniL (cntR m) l k) l[k] || !cntR m l[k] then uniL (cntR m) l k else uniL (cntR m) l k ++ [l[k]]) := Lib.hid (fun k hk => by
    rw [uniL, List.getD_eq_getElem?_getD, List.getElem?_eq_getElem hk, Option.getD_some])
  have HLen := Lib.hid (uniL_len (cntR m) l)
  generalize uniL (cntR m) l = U at HStep HLen ⊢
  generalize cntR m = pc0 at HC HStep
  obtain ⟨L, hL⟩ : ∃ L, l.length = L := ⟨_, rfl⟩
  have HL := Lib.hid hL
  have hU0 : U 0 = [] := List.eq_nil_of_length_eq_zero (Nat.le_zero.1 (HLen.out 0))
  have HZ := Lib.hid hz
  rw [hL] at HS hmx hz ⊢
  have HU0 := Lib.hid hU0
  clear hl hok hq hm hL hU0
  unfold RowS
  have hmm := @run_makeMap Try.prog
  go_enter Try.func94, Try.ntmps94
  go_upto_region 3 with fail
  clear hmm
  have HWM : Hid (WMap (w.alloc (.map #[] 0)) w.heap.size []) := Lib.hid ⟨.map [], World.ownsMap_made _ _ _ _, fun r _ => rfl⟩
  have HB := Lib.hid (show Below w.heap.size w (w.alloc (.map #[] 0)) from (Below.refl _ _).alloc (Nat.le_refl _) _)
  have HSz0 := Lib.hid (World.size_alloc w (.map #[] 0))
  generalize w.alloc (.map #[] 0) = W at HWM HB HSz0 ⊢
  go_upto_region 4 with fail
  go_loopw [5, 8, 9, 10, 11, 15] (fun v5 v8 v9 v10 v11 v15 wr => ∃ k : Nat, k ≤ L ∧ v15 = .int .i64 k ∧ Own rc 3 98 wr (w.heap.size + 1) v5 (U k) ∧ WMap wr w.heap.size (U k) ∧ Below w.heap.size w wr ∧ w.heap.size + 1 ≤ wr.heap.size) (fun _ _ _ _ _ i _ => L - (intOf i).toNat)
  case atStart => exact ⟨0, by omega, rfl, by rw [HU0.out]; exact Own.nil _ _ _, by rw [HU0.out]; exact HWM.out, HB.out, by have := HSz0.out; omega⟩
  case round =>
    obtain ⟨k, hk, rfl, ho, hwm, hbw, hsz⟩ := hrel
    obtain ⟨p5, q5, rfl⟩ := ho.slice
    have HO := Lib.hid ho; have HW := Lib.hid hwm; have HBw := Lib.hid hbw; have HSz := Lib.hid hsz
    have hLk := HLen.out k
    clear ho hwm hbw hsz
    by_cases hlt : k < L
    · have hlt' : (k : Int) < L := by omega
      have hk0 : (0 : Int) ≤ k := by omega
      have hi : k < l.length := by rw [HL.out]; exact hlt
      obtain ⟨b, off, rfl, hbl, hr⟩ := sl_elem (HS.out _ HBw.out) k hi
      have HSt := Lib.hid (HStep.out k hi)
      have HOx := Lib.hid (HOk.out l[k] (List.getElem_mem hi))
      obtain ⟨d0, d1, d2⟩ := rcells3 hr
      obtain ⟨x, hx⟩ : ∃ x, l[k] = x := ⟨_, rfl⟩
      rw [hx] at d0 d1 d2 HSt HOx
      have HCx := Lib.hid (HC.out x)
      have HKy := Lib.hid (key_someR x HOx.out)
      obtain ⟨f, d, bt⟩ := x
      unfold RepV.val at HCx
      simp only at d0 d1 d2 HCx HKy
      have HLk := Lib.hid hLk
      obtain ⟨zn, hzn⟩ : ∃ zn, U (k + 1) = zn := ⟨_, rfl⟩
      have HZn := Lib.hid hzn
      rw [hzn] at HSt
      clear hzn
      generalize U k = ys at HO HW HSt HLk
      clear hr hbl hx hLk
      go_upto_region 6 with fail
      have hb1 := below_new wr (.cells #[.int .i64 f, .int .i64 d, .int .i64 bt] 98)
      have hx1 := alloc_at wr (.cells #[.int .i64 f, .int .i64 d, .int .i64 bt] 98)
      have HO := Lib.hid (HO.out.below hb1)
      have HW := Lib.hid (HW.out.keep hb1)
      have HBw := Lib.hid (HBw.out.trans (hb1.mono HBw.out.size))
      have HX1 := Lib.hid hx1
      have HSz1 : Hid (wr.heap.size < (wr.alloc (.cells #[.int .i64 f, .int .i64 d, .int .i64 bt] 98)).heap.size) := Lib.hid (by rw [World.size_alloc]; omega)
      clear hb1 hx1 d0 d1 d2
      generalize wr.alloc (.cells #[.int .i64 f, .int .i64 d, .int .i64 bt] 98) = V1 at HO HW HBw HX1 HSz1 ⊢
      have HK1 : Hid (w.heap.size + 1 ≤ wr.heap.size) := HSz
      clear HSz
      generalize wr.heap.size = K1 at HX1 HSz1 HK1 ⊢
      obtain ⟨d0, d1, d2⟩ := rcells3 (x := ⟨f, d, bt⟩) (cells_range (l := rc ⟨f, d, bt⟩) HX1.out)
      simp only at d0 d1 d2
      go_upto_region 7 with fail
      have hb1 := below_new V1 (.cells #[.int .i64 f, .int .i64 d] 172)
      have hx1 := alloc_at V1 (.cells #[.int .i64 f, .int .i64 d] 172)
      have HO := Lib.hid (HO.out.below hb1)
      have HW := Lib.hid (HW.out.keep hb1)
      have HBw := Lib.hid (HBw.out.trans (hb1.mono HBw.out.size))
      have HX1 := Lib.hid ((hb1.block _ HSz1.out).trans HX1.out)
      have HX2 := Lib.hid hx1
      have HSz2 : Hid (K1 < V1.heap.size ∧ V1.heap.size < (V1.alloc (.cells #[.int .i64 f, .int .i64 d] 172)).heap.size) := Lib.hid ⟨HSz1.out, by rw [World.size_alloc]; omega⟩
      clear hb1 hx1 d0 d1 d2 HSz1
      generalize V1.alloc (.cells #[.int .i64 f, .int .i64 d] 172) = V2 at HO HW HBw HX1 HX2 HSz2 ⊢
      generalize V1.heap.size = K2 at HX2 HSz2 ⊢
      obtain ⟨D, hD, hHas⟩ := HW.out
      have HD := Lib.hid hD; have HHas := Lib.hid hHas
      obtain ⟨q, hq⟩ : ∃ q, Maps.has D (wkeyR ⟨f, d, bt⟩) = q := ⟨_, rfl⟩
      have HIn : Hid (inW ys ⟨f, d, bt⟩ = q) := Lib.hid (by rw [← hHas _ HOx.out]; exact hq)
      have hw2 := cells_range (l := [.int .i64 f, .int .i64 d]) HX2.out
      have e0 : _ = some (Value.int .i64 f) := hw2 0 _ rfl
      have e1 : _ = some (Value.int .i64 d) := hw2 1 _ rfl
      simp only [Nat.zero_add] at e0 e1
      clear hD hHas hw2
      go_upto_region 8 with (at_lookup; refine wpList_lookup_own_unit _ rfl _ _ 170 rfl 172 173 keyLawR Try.underlying170 (zeroUnit _) w.heap.size _ D rfl HD.out _ _ rfl HKy.out ?_; rw [hq])
      have hb1 := below_new V2 (.cells #[] 173)
      have HO := Lib.hid (HO.out.below hb1)
      have HW := Lib.hid (HW.out.keep hb1)
      have HD := Lib.hid (World.ownsMap.kept HD.out (grown_belowR hb1) (by simp))
      have HBw := Lib.hid (HBw.out.trans (hb1.mono HBw.out.size))
      have HX1 := Lib.hid ((hb1.block _ (by have := HSz2.out; omega)).trans HX1.out)
      have HX2 := Lib.hid ((hb1.block _ HSz2.out.2).trans HX2.out)
      have HSz3 : Hid (w.heap.size + 1 ≤ (V2.alloc (.cells #[] 173)).heap.size ∧ w.heap.size + 1 ≤ K1 ∧ w.heap.size + 1 ≤ K2) := Lib.hid (by have h1 := HSz2.out; have h2 := HK1.out; rw [World.size_alloc]; omega)
      clear hb1 hq e0 e1 HSz2
      generalize V2.alloc (.cells #[] 173) = V3 at HO HW HD HBw HX1 HX2 HSz3 ⊢
      cases q with
      | true =>
        have HEq : Hid (zn = ys) := Lib.hid (by rw [HSt.out, HIn.out]; rfl)
        go_wp2
        go_roundw
        case rel => exact ⟨k + 1, by omega, by go_num, by rw [HZn.out, HEq.out]; exact HO.out, by rw [HZn.out, HEq.out]; exact HW.out, HBw.out, HSz3.out.1⟩
        case measure => simp [intOf]; omega
      | false =>
        obtain ⟨d0, d1, d2⟩ := rcells3 (x := ⟨f, d, bt⟩) (cells_range (l := rc ⟨f, d, bt⟩) HX1.out)
        simp only at d0 d1 d2
        obtain ⟨qc, hqc⟩ : ∃ qc, pc0 ⟨f, d, bt⟩ = qc := ⟨_, rfl⟩
        rw [hqc] at HCx
        have HQc := Lib.hid hqc
        clear hqc
        cases qc with
        | false =>
          have HEq : Hid (zn = ys) := Lib.hid (by rw [HSt.out, HIn.out, HQc.out]; rfl)
          go_wp2_with (go_at_call 113; refine (HCx.out _ HBw.out).mono ?_; rintro e V4 ⟨rfl, hb⟩; have HO := Lib.hid (HO.out.below hb); have HW := Lib.hid (HW.out.keep hb); have HBw := Lib.hid (HBw.out.trans (hb.mono HBw.out.size)); have HSz4 := Lib.hid (Nat.le_trans HSz3.out.1 hb.size); clear hb d0 d1 d2)
          go_roundw
          case rel => exact ⟨k + 1, by omega, by go_num, by rw [HZn.out, HEq.out]; exact HO.out, by rw [HZn.out, HEq.out]; exact HW.out, HBw.out, HSz4.out⟩
          case measure => simp [intOf]; omega
        | true =>
          have HEq : Hid (zn = ys ++ [⟨f, d, bt⟩]) := Lib.hid (by rw [HSt.out, HIn.out, HQc.out]; rfl)
          go_upto_region 9 with (go_at_call 113; refine (HCx.out _ HBw.out).mono ?_; rintro e V4 ⟨rfl, hb⟩; have HO := Lib.hid (HO.out.below hb); have HD := Lib.hid (World.ownsMap.kept HD.out (grown_belowR hb) (by simp)); have HX1 := Lib.hid ((hb.block _ (Array.getElem?_eq_some_iff.1 HX1.out).1).trans HX1.out); have HX2 := Lib.hid ((hb.block _ (Array.getElem?_eq_some_iff.1 HX2.out).1).trans HX2.out); have HBw := Lib.hid (HBw.out.trans (hb.mono HBw.out.size)); have HSz4 := Lib.hid (Nat.le_trans HSz3.out.1 hb.size); clear hb d0 d1 d2)
          have hw2 := cells_range (l := [.int .i64 f, .int .i64 d]) HX2.out
          have e0 : _ = some (Value.int .i64 f) := hw2 0 _ rfl
          have e1 : _ = some (Value.int .i64 d) := hw2 1 _ rfl
          simp only [Nat.zero_add] at e0 e1
          clear hw2
          go_upto_region 10 with (at_mapUpdate; refine wpList_mapUpdate_own _ rfl _ _ _ 170 rfl 172 173 keyLawR Try.underlying170 _ w.heap.size _ _ rfl HD.out (by have := HLk.out; have := HZ.out; have := HL.out; unfold maxLen; omega) _ _ _ rfl rfl HKy.out _ [] unitElem_mk ?_; intro V5 hown1 hgrow1; have HO := Lib.hid (HO.out.grownO hgrow1 (show w.heap.size < w.heap.size + 1 by omega)); have HW := Lib.hid (wmap_put (World.ownsMap.isMap HD.out) hown1 HOx.out HHas.out); have HX1 := Lib.hid ((hgrow1.block _ (Array.getElem?_eq_some_iff.1 HX1.out).1 (fun e => by cases e; have := HSz3.out; omega)).trans HX1.out); have HSz5 := Lib.hid (Nat.le_trans HSz4.out hgrow1.size); have HBw := Lib.hid (HBw.out.grown hgrow1 HBw.out.size (fun j hj => by cases hj; exact Nat.le_refl _)); clear hown1 hgrow1 e0 e1)
          obtain ⟨d0, d1, d2⟩ := rcells3 (x := ⟨f, d, bt⟩) (cells_range (l := rc ⟨f, d, bt⟩) HX1.out)
          simp only at d0 d1 d2
          have hbo := below_new V5 (.cells #[.int .i64 f, .int .i64 d, .int .i64 bt] 98)
          have HSo := Lib.hid (sl_new rc_len V5 (⟨f, d, bt⟩ : RepV) 98 V5.heap.size rfl)
          simp only [rc] at HSo
          have HO1 := Lib.hid (HO.out.below hbo)
          have HW1 := Lib.hid (HW.out.keep hbo)
          have HB1 := Lib.hid (HBw.out.trans (hbo.mono HBw.out.size))
          have HSz6 : Hid (w.heap.size + 1 ≤ (V5.alloc (.cells #[.int .i64 f, .int .i64 d, .int .i64 bt] 98)).heap.size) := Lib.hid (Nat.le_trans HSz5.out hbo.size)
          clear hbo
          go_wp2_with (at_builtin; refine appSl rc_len rc_one (by decide) rfl _ _ 96 rfl (w.heap.size + 1) 98 _ (by rfl) 24 Try.underlying96 infoRep _ ys rfl HO1.out _ [(⟨f, d, bt⟩ : RepV)] rfl HSo.out (by have := HLk.out; have := HZ.out; have := HL.out; unfold maxLen; simp only [List.length_singleton]; omega) (by have := HLk.out; have := HZ.out; have := HL.out; simp only [List.length_singleton]; omega) HSz6.out ?_; intro v9 w9 ho9 hk9; have HO9 := Lib.hid ho9; have HW9 := Lib.hid (HW1.out.below1 hk9.toBelow (show w.heap.size < w.heap.size + 1 by omega)); have HB9 := Lib.hid (HB1.out.trans (hk9.toBelow.mono (show w.heap.size ≤ w.heap.size + 1 by omega))); have HSz9 := Lib.hid (Nat.le_trans HSz6.out hk9.size); clear ho9 hk9 d0 d1 d2)
          go_roundw
          case rel => exact ⟨k + 1, by omega, by go_num, by rw [HZn.out, HEq.out]; exact HO9.out, by rw [HZn.out, HEq.out]; exact HW9.out, HB9.out, HSz9.out⟩
          case measure => simp [intOf]; omega
    · obtain rfl : k = L := by omega
      go_wp2
      go_ret
      exact ⟨_, rfl, HO.out.mono (by omega), HBw.out⟩
end Go.Proofs.Ytcofmfjhgbihkaa.crush

namespace Go.Proofs.Ytcofmfjhgbihkaa.crush
open Go.RowKit Go.Maps
open Go.Proofs.Ytcofmfjhgbihkaa.kit Go.Proofs.Ytcofmfjhgbihkaa.own
set_option linter.unusedVariables false
set_option linter.unusedSimpArgs false

theorem keyLawI : Keyed Try.prog 3 := int_keyed Try.underlying3
theorem zeroIr (w : World) : (zeroValue 3).run Try.prog w = .ok (.int .i64 0) w := by kernel_rfl
/-- How many of the first k are of one. -/
def saidK (l : List RepV) (i : Int) : Nat → Nat
  | 0 => 0
  | k + 1 => saidK l i k + (if (l.getD k ⟨0, 0, 0⟩).osd = i then 1 else 0)
theorem saidK_le (l : List RepV) (i : Int) : ∀ k, saidK l i k ≤ k
  | 0 => Nat.le_refl _
  | k + 1 => by
    have := saidK_le l i k
    rw [saidK]
    split <;> omega
theorem wfI {a : Int} (h : -9223372036854775808 ≤ a ∧ a ≤ 9223372036854775807) : (Lit.int .i64 a).wf = true := by
  simp [Lit.wf, IntKind.min, IntKind.max, IntKind.signed, IntKind.bits]; exact h
def SMap (w : World) (b : Nat) (l : List RepV) (k : Nat) : Prop := ∃ D : DataW Unit, w.ownsMap Try.prog 3 (plainElem Try.prog 3) b k D ∧ ∀ i : Int, D.atKey (.int .i64 i) (.lit (.int .i64 0)) = .lit (.int .i64 (saidK l i k : Nat))
theorem SMap.keep {w w' : World} {b k : Nat} {l : List RepV} (h : SMap w b l k) (hb : Below w.heap.size w w') : SMap w' b l k := by
  obtain ⟨D, h1, h2⟩ := h
  exact ⟨D, World.ownsMap.kept h1 (grown_belowR hb) (by simp), h2⟩
theorem smap_put {w' : World} {b k : Nat} {l : List RepV} {D : DataW Unit} {d c : Int} (hD : IsMap D) (hx : (l.getD k ⟨0, 0, 0⟩).osd = d) (hc : c = saidK l d k + 1) (h : w'.ownsMap Try.prog 3 (plainElem Try.prog 3) b (k + 1) (D.put (.int .i64 d) (.lit (.int .i64 c)))) (h2 : ∀ i : Int, D.atKey (.int .i64 i) (.lit (.int .i64 0)) = .lit (.int .i64 (saidK l i k : Nat))) : SMap w' b l (k + 1) := by
  refine ⟨_, h, fun i => ?_⟩
  rw [saidK, hx]
  by_cases hi : d = i
  · subst hi
    rw [atKey_put_same hD (show WideAt.IsKeyLit (Lit.int .i64 d) from trivial), if_pos rfl, hc]
    rfl
  · rw [atKey_put_other (fun e => hi (by injection e with _ e; exact e.symm)), h2 i, if_neg hi, Nat.add_zero]

set_option maxHeartbeats 8000000 in
set_option maxRecDepth 100000 in
theorem said_any (vl : Value) (l : List RepV) (w : World) (hl : Sl rc 3 w vl l) (hok : ∀ r, r ∈ l → r.Ok) (hz : l.length ≤ 1000000000000) :
    Calls Try.prog 93 #[vl] w fun e w' => ∃ b, e = .returned (.map (some b)) ∧ SMap w' b l l.length ∧ Below w.heap.size w w' := by
  have HS := Lib.hid (fun u (hu : Below w.heap.size w u) => hl.keep hu)
  have HOk := Lib.hid hok
  obtain ⟨al, yl, rfl⟩ := hl.slice
  have hmx := hl.1
  obtain ⟨L, hL⟩ : ∃ L, l.length = L := ⟨_, rfl⟩
  have HL := Lib.hid hL
  have HZ := Lib.hid hz
  rw [hL] at HS hmx hz ⊢
  clear hl hok hL
  have hmm := @run_makeMap Try.prog
  go_enter Try.func93, Try.ntmps93
  go_upto_region 2 with fail
  clear hmm
  have HWM : Hid (SMap (w.alloc (.map #[] 0)) w.heap.size l 0) := Lib.hid ⟨.map [], World.ownsMap_made _ _ _ _, fun r => rfl⟩
  have HB := Lib.hid (show Below w.heap.size w (w.alloc (.map #[] 0)) from (Below.refl _ _).alloc (Nat.le_refl _) _)
  generalize w.alloc (.map #[] 0) = W at HWM HB ⊢
  go_upto_region 3 with fail
  go_loopw [5, 9] (fun v5 v9 wr => ∃ k : Nat, k ≤ L ∧ v9 = .int .i64 k ∧ SMap wr w.heap.size l k ∧ Below w.heap.size w wr) (fun _ i _ => L - (intOf i).toNat)
  case atStart => exact ⟨0, by omega, rfl, HWM.out, HB.out⟩
  case round =>
    obtain ⟨k, hk, rfl, hwm, hbw⟩ := hrel
    have HW := Lib.hid hwm; have HBw := Lib.hid hbw
    clear hwm hbw
    by_cases hlt : k < L
    · have hlt' : (k : Int) < L := by omega
      have hk0 : (0 : Int) ≤ k := by omega
      have hi : k < l.length := by rw [HL.out]; exact hlt
      obtain ⟨b, off, rfl, hbl, hr⟩ := sl_elem (HS.out _ HBw.out) k hi
      have HOx := Lib.hid (HOk.out l[k] (List.getElem_mem hi))
      have HGx : Hid (l.getD k ⟨0, 0, 0⟩ = l[k]) := Lib.hid (by rw [List.getD_eq_getElem?_getD, List.getElem?_eq_getElem hi, Option.getD_some])
      obtain ⟨d0, d1, d2⟩ := rcells3 hr
      obtain ⟨x, hx⟩ : ∃ x, l[k] = x := ⟨_, rfl⟩
      rw [hx] at d0 d1 d2 HOx HGx
      obtain ⟨f, d, bt⟩ := x
      have HKy : Hid (Go.keyOf Try.prog 3 (.int .i64 d) = some (.int .i64 d)) := Lib.hid (keyOf_int_mk Try.underlying3 (wfI HOx.out.2))
      simp only at d0 d1 d2
      clear hr hbl hx hmx
      go_upto_region 5 with fail
      have hb1 := below_new wr (.cells #[.int .i64 f, .int .i64 d, .int .i64 bt] 98)
      have hx1 := alloc_at wr (.cells #[.int .i64 f, .int .i64 d, .int .i64 bt] 98)
      have HW := Lib.hid (HW.out.keep hb1)
      have HBw := Lib.hid (HBw.out.trans (hb1.mono HBw.out.size))
      have HX1 := Lib.hid hx1
      clear hb1 hx1 d0 d1 d2
      generalize wr.alloc (.cells #[.int .i64 f, .int .i64 d, .int .i64 bt] 98) = V1 at HW HBw HX1 ⊢
      obtain ⟨d0, d1, d2⟩ := rcells3 (x := ⟨f, d, bt⟩) (cells_range (l := rc ⟨f, d, bt⟩) HX1.out)
      simp only at d0 d1 d2
      obtain ⟨D, hD, hAt⟩ := HW.out
      have HD := Lib.hid hD; have HAt := Lib.hid hAt
      clear hD hAt
      go_upto_region 6 with (first
        | (at_lookup; refine wpList_lookup_own_int _ rfl _ _ 148 rfl 3 3 .i64 keyLawI Try.underlying148 Try.underlying3 (zeroIr _) w.heap.size _ D rfl HD.out _ _ rfl HKy.out ?_; intro c hat hwc; have HC : Hid (c = saidK l d k) := Lib.hid (by have := hat.symm.trans (HAt.out d); injection this with this; injection this); have hcw : c + 1 ≤ 1000000000001 := (by have := HC.out; have := saidK_le l d k; have := HZ.out; have := HL.out; omega); have hcn : 0 ≤ c := (by have := HC.out; omega); have hwr : wrap64 (c + 1) = c + 1 := (by unfold wrap64; omega); clear hat hwc)
        | (at_mapUpdate; refine wpList_mapUpdate_own _ rfl _ _ _ 148 rfl 3 3 keyLawI Try.underlying148 _ w.heap.size _ _ rfl HD.out (by have := HZ.out; have := HL.out; unfold maxLen; omega) _ _ _ rfl rfl HKy.out _ [] (plainElem_int Try.underlying3 (wfI (by omega))) ?_; intro V5 hown1 hgrow1; have HW := Lib.hid (smap_put (World.ownsMap.isMap HD.out) (by rw [HGx.out]) (by rw [HC.out]) hown1 HAt.out); have HBw := Lib.hid (HBw.out.grown hgrow1 HBw.out.size (fun j hj => by cases hj; exact Nat.le_refl _)); clear hown1 hgrow1))
      go_wp2
      go_roundw
      case rel => exact ⟨k + 1, by omega, by go_num, HW.out, HBw.out⟩
      case measure => simp [intOf]; omega
    · obtain rfl : k = L := by omega
      go_wp2
      go_ret
      exact ⟨_, rfl, HW.out, HBw.out⟩
end Go.Proofs.Ytcofmfjhgbihkaa.crush
