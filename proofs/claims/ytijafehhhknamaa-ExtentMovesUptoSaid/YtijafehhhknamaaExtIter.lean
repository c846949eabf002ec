/- The iterator over the sectors of extents. -/
import Derived.Test.YtijafehhhknamaaRows
import Derived.Test.YtijafehhhknamaaIter
import Derived.Test.YtijafehhhknamaaExtR
import Derived.RangeFuncRecord
import Derived.Stop.RegionWithIn
import Derived.RegionIn
import Derived.Sort.CutIn
import Derived.BigRegionIn
namespace Go.Proofs.Ytijafehhhknamaa.ext
open Go.RowKit
open Go.Proofs.Ytijafehhhknamaa.kit Go.Proofs.Ytijafehhhknamaa.own Go.Proofs.Ytijafehhhknamaa.iter
set_option linter.unusedVariables false
attribute [local go_sem] Oper.semAt_some

/-- The sectors of an extent, of extents. -/
def sec1 (x : Wy) : List Int := (List.range x.2.toNat).map fun i : Nat => x.1 + (i : Int)
def secE (xs : List Wy) : List Int := xs.flatMap sec1
theorem sec1_len (x : Wy) : (sec1 x).length = x.2.toNat := by simp [sec1]
theorem sec_split (xs : List Wy) (i : Nat) (hi : i < xs.length) : secE xs = secE (xs.take i) ++ (sec1 xs[i] ++ secE (xs.drop (i + 1))) := by
  have h : xs = xs.take i ++ (xs[i] :: xs.drop (i + 1)) := by rw [← List.drop_eq_getElem_cons hi, List.take_append_drop]
  conv => lhs; rw [h]
  unfold secE
  rw [List.flatMap_append, List.flatMap_cons]
theorem sec_take (xs : List Wy) (i : Nat) (hi : i < xs.length) : (secE (xs.take (i + 1))).length = (secE (xs.take i)).length + xs[i].2.toNat := by
  rw [List.take_succ_eq_append_getElem hi]
  unfold secE
  rw [List.flatMap_append, List.length_append]
  simp [sec1_len]
theorem sec_at (xs : List Wy) (i j : Nat) (hi : i < xs.length) (hj : j < xs[i].2.toNat) : ∃ h : (secE (xs.take i)).length + j < (secE xs).length, (secE xs)[(secE (xs.take i)).length + j] = xs[i].1 + (j : Int) := by
  have hs := sec_split xs i hi
  have hl : (secE (xs.take i)).length + j < (secE xs).length := by rw [hs, List.length_append, List.length_append, sec1_len]; omega
  refine ⟨hl, ?_⟩
  have h2 : (secE xs)[(secE (xs.take i)).length + j]? = some (xs[i].1 + (j : Int)) := by
    rw [hs, List.getElem?_append_right (by omega), Nat.add_sub_cancel_left, List.getElem?_append_left (by rw [sec1_len]; exact hj)]
    simp [sec1, hj]
  rw [List.getElem?_eq_getElem hl] at h2
  exact Option.some.inj h2
/-- Extents' boxes stay. -/
def KeepE (W W' : World) : Prop := ∀ (b : Nat) (cs : Array Value), W.heap[b]? = some (Obj.cells cs 48 (0, 0)) → W'.heap[b]? = some (Obj.cells cs 48 (0, 0))

set_option maxHeartbeats 4000000 in
set_option maxRecDepth 100000 in
theorem sectors1_any (l bl : Nat) (xs : List Wy) (v : Value) (I : Nat → World → Prop) (hf : ∀ x ∈ xs, Fine x)
    (hcells : ∀ i W, I i W → W.cell? ⟨bl, 0, none⟩ = some v ∧ Sl wc 2 W v xs)
    (hbelow : ∀ i W W', I i W → Below W.heap.size W W' → I i W')
    (hyield : ∀ i W (h : i < (secE xs).length), I i W → YieldAt Fence.wide 0 Try.prog l #[.int .i64 (secE xs)[i]] W fun e W' => e = .returned (.bool true) ∧ I (i + 1) W' ∧ KeepE W W')
    (W : World) (h0 : I 0 W) :
    CallsIn Fence.wide 0 Try.prog 48 #[.func (.yield l) #[] #[], .pointer (some ⟨bl, 0, none⟩)] W fun e W' => (∃ v, e = .returned v) ∧ I (secE xs).length W' := by
  obtain ⟨c1, hs⟩ := hcells 0 W h0
  obtain ⟨hl, a, cap, rfl, -, -⟩ := id hs
  obtain ⟨L, hL⟩ : ∃ L, xs.length = L := ⟨_, rfl⟩
  have HL := Lib.hid hL
  rw [hL] at hl c1
  have HC : Hid (∀ i W, I i W → W.cell? ⟨bl, 0, none⟩ = some (.slice a L cap) ∧ Sl wc 2 W (.slice a L cap) xs) := by rw [← hL]; exact hcells
  have HBl := Lib.hid hbelow; have HY := Lib.hid hyield; have HI0 := Lib.hid h0; have HFn := Lib.hid hf
  clear hcells hbelow hyield hs hL h0 hf
  refine callsIn_of_wp Try.func48 rfl trivial ?_ rfl
  simp only [Try.ntmps48, List.size_toArray, List.length_cons, List.length_nil, Nat.reduceAdd, Nat.reduceSub, Array.replicate_succ, Array.replicate_zero, List.push_toArray, List.append_toArray, List.nil_append, List.cons_append]
  gi_wp2
  clear c1
  gi_loopw [8] (fun v wr => ∃ k : Nat, k ≤ L ∧ v = .int .i64 k ∧ I (secE (xs.take k)).length wr) (fun v _ => L - (intOf v).toNat)
  case atStart => exact ⟨0, by omega, rfl, HI0.out⟩
  case round =>
    obtain ⟨k, hk, rfl, hi⟩ := hrel
    by_cases hlt : k < L
    · have hlt' : (k : Int) < L := by omega
      have hi0 : k < xs.length := by rw [HL.out]; exact hlt
      obtain ⟨_, hs⟩ := HC.out _ wr hi
      obtain ⟨_, a', cap', he, -, hcell⟩ := hs
      have he' : a = a' ∧ cap = cap' := by cases he; exact ⟨rfl, rfl⟩
      obtain ⟨rfl, rfl⟩ := he'
      clear he
      obtain ⟨b, off, rfl, hbl, hcell⟩ := hcell (by omega)
      obtain ⟨d1, d2⟩ := wcells_at (hcell k hi0)
      clear hcell hbl
      have hfx := HFn.out _ (List.getElem_mem hi0)
      unfold Fine at hfx
      have hat := sec_at xs k
      have htk := sec_take xs k hi0
      obtain ⟨x, hx⟩ : ∃ x, xs[k] = x := ⟨_, rfl⟩
      have HAt := Lib.hid (fun j (hj : j < x.2.toNat) => hat j hi0 (by rw [hx]; exact hj))
      rw [hx] at d1 d2 hfx htk
      have HXk := Lib.hid hx
      obtain ⟨p, q⟩ := x
      obtain ⟨qn, hqn⟩ : ∃ qn : Nat, q = qn := ⟨q.toNat, by simp only at hfx; omega⟩
      subst hqn
      simp only [Int.toNat_natCast] at d1 d2 hfx htk HAt
      have HTk := Lib.hid htk
      have hb1 := below_new wr (ebox (p, (qn : Int)))
      have hi1 := HBl.out _ wr _ hi hb1
      have hX := alloc_at wr (ebox (p, (qn : Int)))
      obtain ⟨off0, hoff⟩ : ∃ o, (secE (xs.take k)).length = o := ⟨_, rfl⟩
      rw [hoff] at hi1 HAt HTk
      simp only [ebox] at hX hi1
      obtain ⟨e1, e2⟩ := ebox_at (x := (p, (qn : Int))) hX
      simp only at e1 e2
      have h16 : (qn : Int) ≤ 65536 := by omega
      have hp0 : 0 ≤ p := hfx.1
      have hp1 : p ≤ 4611686018427387904 := by omega
      clear hi hb1 hx htk hat hoff
      gi_upto_region 4 with fail
      generalize (wr.alloc (.cells #[.int .i64 p, .int .i64 qn] 48)) = W0 at hX hi1 e1 e2 ⊢
      obtain ⟨M, hM⟩ : ∃ M, wr.heap.size = M := ⟨_, rfl⟩
      rw [hM] at hX e1 e2 ⊢
      have HX := Lib.hid hX; have HI1 := Lib.hid hi1
      clear d1 d2 hM hX hi1 e1
      gi_wp2
      clear e2
      gi_loopw [27] (fun v wr2 => ∃ j : Nat, j ≤ qn ∧ v = .int .i64 j ∧ I (off0 + j) wr2 ∧ wr2.heap[M]? = some (ebox (p, (qn : Int)))) (fun v _ => qn - (intOf v).toNat)
      case atStart => exact ⟨0, by omega, rfl, HI1.out, HX.out⟩
      case round =>
        obtain ⟨j, hj, rfl, hi2, hx2⟩ := hrel
        have HI2 := Lib.hid hi2; have HX2 := Lib.hid hx2
        obtain ⟨e1, e2⟩ := ebox_at hx2
        simp only at e1 e2
        clear hi2 hx2
        by_cases hjq : j < qn
        · have hjq' : (j : Int) < qn := by omega
          have hw : IntKind.i64.wrap (p + (j : Int)) = p + j := by rw [IntKind.wrap_i64]; omega
          obtain ⟨hlt2, hval⟩ := HAt.out j hjq
          obtain ⟨fn, tmps, asg, bd, hy, hYr⟩ := HY.out _ wr hlt2 HI2.out
          rw [hval, HXk.out] at hy
          simp only at hy
          have HYr := Lib.hid hYr
          clear hYr hval hlt2
          gi_wp2
          refine ⟨rfl, HYr.out.mono ?_⟩
          rintro e W3 ⟨rfl, hI, hKe⟩
          have HI3 := Lib.hid hI
          have HX3 := Lib.hid (hKe M _ HX2.out)
          clear hI hKe hy e1 e2
          gi_wp2
          go_roundw
          case rel => exact ⟨j + 1, by omega, by go_num, HI3.out, HX3.out⟩
          case measure => simp [intOf]; omega
        · obtain rfl : j = qn := by omega
          have HI4 : Hid (I (secE (xs.take (k + 1))).length wr) := Lib.hid (by rw [HTk.out]; exact HI2.out)
          gi_wp2
          clear e1 e2
          go_roundw
          case rel => exact ⟨k + 1, by omega, by go_num, HI4.out⟩
          case measure => simp [intOf]; omega
    · obtain rfl : k = L := by omega
      have HI : Hid (I (secE xs).length wr) := Lib.hid (by rw [← HL.out, List.take_length] at hi; exact hi)
      clear hi
      gi_wp2
      go_end0
      exact ⟨⟨_, rfl⟩, HI.out⟩

end Go.Proofs.Ytijafehhhknamaa.ext
