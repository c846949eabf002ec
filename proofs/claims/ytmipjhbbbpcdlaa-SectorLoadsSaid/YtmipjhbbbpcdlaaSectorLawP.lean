/- The law SectorPlays: a device answers as the document's does, at every moment of any row of calls: for every number of sectors and all acts the law returns true and leaves its arguments as they were. Conditions: none. -/
import Derived.Test.YtmipjhbbbpcdlaaRows
import Derived.Test.YtmipjhbbbpcdlaaSectorDo
import Derived.Test.YtmipjhbbbpcdlaaSectorSame
import Derived.Test.YtmipjhbbbpcdlaaSectorActs
namespace Go.Proofs.Ytmipjhbbbpcdlaa.sector
open Go.ChangeShapes Go.WideShapes Go.ChangeAt Go.RowKit
open Go.Proofs.Ytmipjhbbbpcdlaa.kit Go.Proofs.Ytmipjhbbbpcdlaa.own Go.Proofs.Ytmipjhbbbpcdlaa.lift
set_option linter.unusedVariables false

/-- Both devices behind so many acts. -/
def PlayAt (w0 w : World) (d r q : Nat) : Prop := ∃ m Z Y, Both w0 w d r m Z Y ∧ m.ws ≤ q ∧ m.fs ≤ q

theorem both_new {w0 w1 w2 : World} {d r n : Nat} (hd : DevAt w1 (Fresh w0 w1) d (fresh n)) (hb1 : Below w0.heap.size w0 w1) (hr : RAt w2 (Fresh w1 w2) r (fresh n)) (hb2 : Below w1.heap.size w1 w2) (hn : 1 ≤ n) : Both w0 w2 d r (fresh n) (Fresh w0 w1) (Fresh w1 w2) := by
  have hs := hb1.size
  refine ⟨hd.keep hb2, hr, fun k hk hy => ?_, fun k hk => hk.elim False.elim (·.1), fun k hk => hk.elim False.elim (fun h => by omega), hb1.trans (hb2.mono hs), fun p hp => (by simp [fresh] at hp), hn⟩
  rcases hk with hk | hk
  · exact hk
  · rcases hy with hy | hy
    · exact hy
    · omega

set_option maxHeartbeats 4000000 in
set_option maxRecDepth 100000 in
theorem walkPlays (w : World) (z : Int) (v : Value) (n : Nat) (A : Nat → ActV) (hv : Acts w v n A) :
    Calls Try.prog 3 #[.int .i64 z, v] w fun e w' => e = .returned (.bool true) ∧ Below w.heap.size w w' := by
  obtain ⟨hn, a, cap, rfl, hc⟩ := id hv.shape
  have HV := Lib.hid hv; have HC := Lib.hid hc
  have HW := Lib.hid awake_any
  clear hv hc
  by_cases hz : z < 1 ∨ 4096 < z
  · have HZ := Lib.hid hz
    clear hz
    go_enter Try.func3, Try.ntmps3
    go_wp2_with fail
    refine (New_bad w z HZ.out).mono ?_
    rintro e w' ⟨rfl, rfl⟩
    go_wp2_with fail
    refine (rNew_bad w z HZ.out).mono ?_
    rintro e w' ⟨rfl, rfl⟩
    go_wp2_with fail
    refine (HW.out w).mono ?_
    rintro e w1 ⟨rfl, hb1⟩
    have HB1 := Lib.hid hb1
    clear hb1
    go_wp2
    go_ret
    exact ⟨rfl, HB1.out⟩
  · obtain ⟨k, rfl⟩ := Int.eq_ofNat_of_zero_le (show 0 ≤ z by omega)
    have hk1 : 1 ≤ k := by omega
    have hk2 : k ≤ 4096 := by omega
    clear hz
    go_enter Try.func3, Try.ntmps3
    go_wp2_with fail
    refine (New_ok w k hk1 hk2).mono ?_
    rintro e w1 ⟨d, rfl, hd1, hb1⟩
    have HD1 := Lib.hid hd1; have HB1 := Lib.hid hb1
    clear hd1 hb1
    go_wp2_with fail
    refine (rNew_ok w1 k hk1 hk2).mono ?_
    rintro e w2 ⟨r, rfl, hr2, hb2⟩
    have HS0 := Lib.hid (show PlayAt w w2 d r 0 from ⟨_, _, _, both_new HD1.out HB1.out hr2 hb2 hk1, Nat.le_refl _, Nat.le_refl _⟩)
    clear hr2 hb2 HD1 HB1
    go_wp2_with fail
    go_loopw [29] (fun vi wr => ∃ q : Nat, q ≤ n ∧ vi = .int .i64 q ∧ PlayAt w wr d r q) (fun i _ => n - (intOf i).toNat)
    case atStart => exact ⟨0, by omega, rfl, HS0.out⟩
    case round =>
      obtain ⟨q, hq, rfl, hs⟩ := hrel
      obtain ⟨m, Z, Y, hB, hws, hfs⟩ := hs
      have HB := Lib.hid hB
      clear HS0
      by_cases hqn : q < n
      · have hqI : (q : Int) < (n : Int) := by omega
        have hq0 : (0 : Int) ≤ (q : Int) := by omega
        obtain ⟨b, off, rfl, hcell⟩ := HC.out (by omega)
        have hr := hcell q hqn
        have hok := HV.out.each q hqn
        generalize A q = act at hr hok
        obtain ⟨kind, nn, vv, data, pick⟩ := act
        obtain ⟨hnn, hby, hp⟩ := hok
        simp only [ActV.cells] at hr
        have HR := Lib.hid (show wr.rangeAt b (off + q * 4) [.int .i64 kind, .int .i64 nn, vv, .int .u64 (pick : Nat)] from fun i v hv => (HB.out.below.cell (p := ⟨b, off + q * 4 + i, none⟩) (cell_lt (hr i v hv))).trans (hr i v hv))
        obtain ⟨t1, t2, t3⟩ := act_var wr kind nn vv pick
        have HT1 := Lib.hid t1; have HT2 := Lib.hid t2; have HT3 := Lib.hid t3
        have hone : ∀ v ∈ ([.int .i64 kind, .int .i64 nn, vv, .int .u64 (pick : Nat)] : List Value), v.oneCell' = true := by
          obtain ⟨_, x, c, e, _⟩ := hby.read
          intro v hv
          simp at hv
          rcases hv with rfl | rfl | rfl | rfl
          · rfl
          · rfl
          · simp only at e; rw [e]; rfl
          · rfl
        have HOn := Lib.hid (all_oneCell_toArray hone)
        have HDo := Lib.hid (do_any w _ d r m Z Y (HB.out.keep t3) kind nn vv data pick hnn.2 ((hby.keep HB.out.below).keep t3) hby.old hp (by omega) (by omega))
        clear hr hnn hby hp t1 t2 t3 hone hB hcell
        go_upto_region 7 with (first
          | refine wpList_load_mid rfl 31 (.tmp 31) rfl b (off + q * 4) rfl _ _ HR.out Try.underlying31 rfl infoAct ?_
          | refine wpList_store_mid rfl 31 (.tmp 8) (.tmp 32) rfl wr.heap.size 0 _ rfl rfl HT1.out infoAct HOn.out ?_)
        clear HR HT1 HOn
        generalize (World.setCells _ wr.heap.size 0 _) = W1 at HT2 HT3 HDo ⊢
        go_wp2_with (refine wpList_load_mid rfl 31 (.tmp 8) rfl wr.heap.size 0 rfl _ _ HT2.out Try.underlying31 rfl infoAct ?_)
        refine HDo.out.mono ?_
        rintro e w3 ⟨rfl, m', Z', Y', hB', hw', hf'⟩
        have HB' := Lib.hid hB'
        have HSm := Lib.hid (same_any w w3 d r m' Z' Y' hB')
        clear hB' HDo HT2 HT3 HB
        go_wp2_with fail
        refine HSm.out.mono ?_
        rintro e w4 ⟨rfl, hb4⟩
        have HP := Lib.hid (show PlayAt w w4 d r (q + 1) from ⟨m', Z', Y', HB'.out.keep hb4, by omega, by omega⟩)
        clear hb4 HSm HB'
        go_wp2
        go_roundw
        case rel => exact ⟨q + 1, by omega, by go_num, HP.out⟩
        case measure => simp [intOf]; omega
      · obtain rfl : q = n := by omega
        have hqI : ¬ (q : Int) < (q : Int) := by omega
        clear hB
        go_wp2_with fail
        refine (HW.out wr).mono ?_
        rintro e w3 ⟨rfl, hb3⟩
        have HB3 := Lib.hid (HB.out.below.trans (hb3.mono HB.out.below.size))
        clear hb3
        go_wp2
        go_ret
        exact ⟨rfl, HB3.out⟩

set_option maxRecDepth 100000 in
theorem liftedPlays (os : Os) (started : os.Started) (H : Type) (enc : TypeId × Value → H) :
    ReturnsInHanded {} Try.checked os 3 .any (Rows.sectorPlaysSpec.pre6 enc Try.prog Try.f3 Rows.sectorPlaysRow.domain false) (Rows.sectorPlaysSpec.post enc Try.prog Try.f3 false true false false) := by
  refine lift.law (C := Try.checked) own started (by kernel_rfl) Try.func3
    (ChangeSpec.witness6 (enc := enc) (C := Try.checked) false ⟨#[], #[.int .i64 0, .slice none 0 0], []⟩ 8 (by kernel_rfl) (by kernel_rfl) (by kernel_rfl) (by kernel_rfl)) laidOut (by kernel_rfl) 4 Try.underlying4 (by kernel_rfl) rfl ?_ ?_
  · intro ds hd
    match ds, hd with
    | [_, _], _ => rfl
  · intro W base args ds ps hg
    have hA : DataW.TrodAll enc Try.prog W 0 (fun _ => true) true Try.f3.params.toList args.toList ds ps := hg.read
    have hval : ∀ (j : Nat) t v, Try.f3.params[j]? = some t → args[j]? = some v → Value.okWide Try.prog W .any base t v := hg.ok
    have hz : (DataW.weightsEach Try.prog Try.f3.params.toList ds).all (· ≤ reachBytes) = true := hg.sized
    rw [Try.params3] at hA hval hz
    obtain ⟨v0, vs0, d0, ds0, p0, q0, hargs, rfl, rfl, h0, r0⟩ := trodAll_cons hA
    obtain ⟨v1, vs1, d1, ds1, p1, q1, rfl, rfl, rfl, h1, r1⟩ := trodAll_cons r0
    obtain ⟨rfl, rfl, rfl⟩ := trodAll_nil r1
    obtain rfl : args = #[v0, v1] := by cases args; simp_all
    obtain ⟨a0, rfl, rfl, rfl, w0⟩ := open_int Try.underlying3 (hval 0 3 v0 rfl rfl) h0
    obtain ⟨n, A, hv⟩ := acts_open (hval 1 22 v1 rfl rfl) h1 (weight hz (j := 1) rfl rfl)
    exact walkPlays W a0 v1 n A hv

theorem plays_holds : Rows.SectorPlaysSaid :=
  OpenClaim.holds_of_wide 3 Try.f3 rfl rfl rfl rfl rfl rfl rfl ⟨rfl, rfl, rfl, rfl, rfl⟩ rfl rfl rfl rfl rfl (by kernel_rfl) Try.func3 (by kernel_rfl)
    (of_decide_eq_true (by kernel_rfl)) (by unfold Func.isWrapper; first | (rw [if_pos (by decide +kernel)]; kernel_rfl) | (rw [if_neg (by decide +kernel)]; exact ⟨rfl, rfl⟩))
    (fun os started H enc _ => liftedPlays os started H enc)

#print axioms plays_holds

end Go.Proofs.Ytmipjhbbbpcdlaa.sector
