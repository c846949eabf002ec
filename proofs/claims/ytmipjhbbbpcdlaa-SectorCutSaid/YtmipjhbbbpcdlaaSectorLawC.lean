/- The law SectorCut: a cut lets so many writes through and none more, whatever the writes and the pick are: the law returns true and leaves its arguments as they were. Conditions: none. -/
import Derived.Test.YtmipjhbbbpcdlaaRows
import Derived.Test.YtmipjhbbbpcdlaaSectorLift
namespace Go.Proofs.Ytmipjhbbbpcdlaa.sector
open Go.ChangeShapes Go.WideShapes Go.ChangeAt Go.RowKit
open Go.Proofs.Ytmipjhbbbpcdlaa.kit Go.Proofs.Ytmipjhbbbpcdlaa.own Go.Proofs.Ytmipjhbbbpcdlaa.lift
set_option linter.unusedVariables false

theorem putC_same (m : Dev) (k : Nat) (x : List Nat) : (putC m k x).power = m.power ∧ (putC m k x).n = m.n ∧ (putC m k x).cut = m.cut ∧ (putC m k x).ws = m.ws ∧ (putC m k x).fs = m.fs ∧ (putC m k x).laid = m.laid := by
  unfold putC
  split <;> exact ⟨rfl, rfl, rfl, rfl, rfl, rfl⟩
theorem wrote_same (m : Dev) (k : Nat) (x : List Nat) : (wrote m k x).power = m.power ∧ (wrote m k x).n = m.n ∧ (wrote m k x).cut = (m.cut.map fun p => (p.1 - 1, p.2)) ∧ (wrote m k x).ws = m.ws + 1 ∧ (wrote m k x).fs = m.fs ∧ (wrote m k x).laid = m.laid := by
  obtain ⟨h1, h2, h3, h4, h5, h6⟩ := putC_same (afterLets m) k x
  refine ⟨h1, h2, h3, ?_, h5, h6⟩
  show (putC (afterLets m) k x).ws + 1 = _
  rw [h4]; rfl

/-- The device behind so many calls of the law. -/
structure CutSt (c p k : Nat) (m : Dev) : Prop where
  n : m.n = 8
  up : k ≤ c → m.power = true ∧ m.cut = some (c - k, p) ∧ m.ws = k
  down : c < k → m.power = false ∧ m.ws = c

/-- .. and where it lies: all above the heap that the law found. -/
def CutAt (w0 w : World) (d : Nat) (c p k : Nat) : Prop := ∃ Z m, DevAt w Z d m ∧ (∀ q, Z q → w0.heap.size ≤ q) ∧ Below w0.heap.size w0 w ∧ CutSt c p k m

theorem cut_conv (z : Int) : ∃ c : Nat, c < 12 ∧ IntKind.i64.wrap ((IntKind.u64.wrap z).tmod 12) = (c : Int) := by
  have h0 : 0 ≤ IntKind.u64.wrap z := by rw [IntKind.wrap_u64]; omega
  rw [Int.tmod_eq_emod_of_nonneg h0]
  generalize IntKind.u64.wrap z = u at h0
  refine ⟨(u % 12).toNat, by omega, ?_⟩
  have : IntKind.i64.wrap (u % 12) = u % 12 := by
    have h1 : 0 ≤ u % 12 := by omega
    have h2 : u % 12 < 12 := by omega
    generalize u % 12 = q at h1 h2
    simp [IntKind.wrap, IntKind.bits, IntKind.signed]
    omega
  rw [this]
  omega

set_option maxHeartbeats 4000000 in
set_option maxRecDepth 100000 in
theorem walkCut (w : World) (z : Int) (v : Value) (n : Nat) (V : Nat → Value) (N : Nat → List Nat) (hv : Rws w v n V N) (pick : Nat) (hp : pick < 18446744073709551616) :
    Calls Try.prog 6 #[.int .i64 z, v, .int .u64 pick] w fun e w' => e = .returned (.bool true) ∧ Below w.heap.size w w' := by
  obtain ⟨hn, a, cap, rfl, hc⟩ := id hv.shape
  have HV := Lib.hid hv; have HC := Lib.hid hc; have HP := Lib.hid hp; have HNn := Lib.hid hn
  have HW := Lib.hid awake_any
  clear hv hc hp
  obtain ⟨c, hc12, hcz⟩ := cut_conv z
  have HC12 := Lib.hid hc12
  go_enter Try.func6, Try.ntmps6
  go_wp2_with fail
  refine (New_lit w 8 8 rfl (by omega) (by omega)).mono ?_
  rintro e w1 ⟨d, rfl, hd1, hb1⟩
  have HD1 := Lib.hid hd1; have HB1 := Lib.hid hb1
  have HZ1 := Lib.hid (show ∀ k, Fresh w w1 k → w.heap.size ≤ k from fun k hk => hk.elim False.elim (·.1))
  clear hd1 hb1
  generalize Fresh w w1 = Z1 at HD1 HZ1
  go_upto_region 5 with fail
  clear hcz
  go_wp2_with fail
  refine (Cut_pos w1 Z1 d (fresh 8) HD1.out rfl c pick (by have := HC12.out; omega)).mono ?_
  rintro e w2 ⟨rfl, hd2, ht2⟩
  have HS0 := Lib.hid (show CutAt w w2 d c pick 0 from ⟨Z1, _, hd2, HZ1.out, Turn.below HB1.out ht2 HB1.out.size HZ1.out, ⟨rfl, fun _ => ⟨rfl, rfl, rfl⟩, fun h => by omega⟩⟩)
  clear hd2 ht2 HD1 HZ1 HB1
  go_wp2_with fail
  go_loopw [8, 27] (fun vd vi wr => ∃ k : Nat, k ≤ n ∧ vi = .int .i64 k ∧ vd = .int .i64 ((min k c : Nat) : Int) ∧ CutAt w wr d c pick k) (fun _ i _ => n - (intOf i).toNat)
  case atStart => exact ⟨0, by omega, rfl, by simp, HS0.out⟩
  case round =>
    obtain ⟨k, hk, rfl, rfl, hs⟩ := hrel
    have HS := Lib.hid hs
    clear hs HS0
    by_cases hkn : k < n
    · have hkI : (k : Int) < (n : Int) := by omega
      have hk0 : (0 : Int) ≤ (k : Int) := by omega
      obtain ⟨Z, m, hd, hz, hb, hst⟩ := HS.out
      obtain ⟨b, off, rfl, hcell⟩ := HC.out (by omega)
      have hby := (HV.out.each k hkn).keep (by exact (⟨rfl, rfl, rfl, Nat.le_refl _, fun _ _ => rfl⟩ : Below w.heap.size w w))
      have ck := (hb.cell (p := ⟨b, off + k, none⟩) (cell_lt (hcell k hkn))).trans (hcell k hkn)
      have HBy := Lib.hid ((HV.out.each k hkn).keep hb)
      generalize V k = vk at ck HBy hby
      generalize N k = nk at HBy hby
      have HD := Lib.hid hd; have HZ := Lib.hid hz; have HB := Lib.hid hb; have HSt := Lib.hid hst
      obtain ⟨h1, x, cx, rfl, h2⟩ := id hby.read
      clear h1 h2 hby hcell hd hz hb hst HS
      have HK8 := Lib.hid (show k % 8 < 8 by omega)
      have hnk : nk.length ≤ 9223372036854775807 := HBy.out.read.1
      have HNk := Lib.hid hnk
      clear hnk
      by_cases hkc : k < c
      · have hcI : (k : Int) < (c : Int) := by omega
        have hm1 : min k c = k := by omega
        have hm2 : min (k + 1) c = k + 1 := by omega
        rw [hm1]
        have HM2 := Lib.hid hm2
        clear hm1 hm2
        go_wp2_with fail
        refine (filled_any _ nk wr HBy.out.read).mono ?_
        rintro e w3 ⟨g, rfl, hg3, hs3, hb3⟩
        have HB3 := Lib.hid (HB.out.trans (hb3.mono HB.out.size))
        obtain ⟨hp, hcu, hws⟩ := HSt.out.up (by omega)
        have HWr := Lib.hid (write_filled wr w3 Z d m HD.out hp (by intro p hh; rw [hcu] at hh; injection hh with hh; injection hh with hh; omega) (k % 8) ((k : Int) % 8) (by omega) (by rw [HSt.out.n]; exact HK8.out) (by rw [hws]; have := HNn.out; omega) nk HBy.out.lt g hg3 hs3 hb3)
        have HNx := Lib.hid (show CutSt c pick (k + 1) (wrote m (k % 8) (fill64 nk)) by
          obtain ⟨q1, q2, q3, q4, _⟩ := wrote_same m (k % 8) (fill64 nk)
          refine ⟨by rw [q2]; exact HSt.out.n, fun _ => ⟨by rw [q1]; exact hp, ?_, by rw [q4, hws]⟩, fun h => by omega⟩
          rw [q3, hcu]
          show some (c - k - 1, pick) = some (c - (k + 1), pick)
          rw [show c - k - 1 = c - (k + 1) by omega])
        clear hg3 hs3 hb3 hp hcu hws
        go_wp2_with fail
        ((with_reducible refine HWr.out.mono ?_))
        rintro e w4 ⟨rfl, hd4, ht4⟩
        have HS4 := Lib.hid (show CutAt w w4 d c pick (k + 1) from ⟨_, _, hd4, more_ge HZ.out HB3.out.size, Turn.below HB3.out ht4 HB3.out.size HZ.out, HNx.out⟩)
        clear hd4 ht4 HWr HNx HB3
        go_wp2
        go_roundw
        case rel => exact ⟨k + 1, by omega, by go_num, by rw [HM2.out]; go_num, HS4.out⟩
        case measure => simp [intOf]; omega
      · have hm1 : min k c = c := by omega
        have hm2 : min (k + 1) c = c := by omega
        rw [hm1]
        have HM2 := Lib.hid hm2
        have hcI : ¬ (k : Int) < (c : Int) := by omega
        clear hm1 hm2
        go_wp2_with fail
        refine (filled_any _ nk wr HBy.out.read).mono ?_
        rintro e w3 ⟨g, rfl, hg3, hs3, hb3⟩
        have HB3 := Lib.hid (HB.out.trans (hb3.mono HB.out.size))
        have HD3 := Lib.hid (HD.out.keep hb3)
        clear hg3 hs3 hb3
        by_cases hke : k = c
        · obtain ⟨hp, hcu, hws⟩ := HSt.out.up (by omega)
          rw [show c - k = 0 by omega] at hcu
          have HWr := Lib.hid (Write_cut w3 Z d m HD3.out hp ((k : Int) % 8) (by rw [HSt.out.n]; omega) (some ⟨g, 0, none⟩) 64 pick hcu HP.out)
          have HNx := Lib.hid (show CutSt c pick (k + 1) (lost m pick) from ⟨HSt.out.n, fun h => by omega, fun _ => ⟨rfl, by show m.ws = c; rw [hws, hke]⟩⟩)
          have HKe := Lib.hid hke
          clear hp hcu hws hke
          go_wp2_with fail
          ((with_reducible refine HWr.out.mono ?_))
          rintro e w4 ⟨rfl, hd4, ht4⟩
          have HDd := Lib.hid (Dead_off w4 Z d (lost m pick) hd4 rfl)
          have HS4 := Lib.hid (show CutAt w w4 d c pick (k + 1) from ⟨_, _, hd4, HZ.out, Turn.below HB3.out ht4 HB3.out.size HZ.out, HNx.out⟩)
          clear hd4 ht4 HWr HNx HB3
          go_wp2_with fail
          refine HDd.out.mono ?_
          rintro e w' ⟨rfl, rfl⟩
          go_wp2
          go_roundw
          case rel => exact ⟨k + 1, by omega, by go_num, by rw [HM2.out], HS4.out⟩
          case measure => simp [intOf]; omega
        · obtain ⟨hp, hws⟩ := HSt.out.down (by omega)
          have HWr := Lib.hid (Write_dead w3 Z d m HD3.out hp ((k : Int) % 8) (.slice (some ⟨g, 0, none⟩) 64 64))
          have HDd := Lib.hid (Dead_off w3 Z d m HD3.out hp)
          have HS4 := Lib.hid (show CutAt w w3 d c pick (k + 1) from ⟨_, _, HD3.out, HZ.out, HB3.out, HSt.out.n, fun h => by omega, fun _ => ⟨hp, hws⟩⟩)
          clear hp hws hke
          go_wp2_with fail
          ((with_reducible refine HWr.out.mono ?_))
          rintro e w' ⟨rfl, rfl⟩
          go_wp2_with fail
          refine HDd.out.mono ?_
          rintro e w' ⟨rfl, rfl⟩
          go_wp2
          go_roundw
          case rel => exact ⟨k + 1, by omega, by go_num, by rw [HM2.out], HS4.out⟩
          case measure => simp [intOf]; omega
    · obtain rfl : k = n := by omega
      obtain ⟨Z, m, hd, hz, hb, hst⟩ := HS.out
      have hkI : ¬ (k : Int) < (k : Int) := by omega
      by_cases hkc : k < c
      · have hws : m.ws = k := (hst.up (by omega)).2.2
        have hm : min k c = k := by omega
        rw [hm]
        have hcI : (k : Int) < (c : Int) := by omega
        clear hm
        have HWr := Lib.hid (Writes_any wr Z d m hd)
        rw [hws] at HWr
        have HB := Lib.hid hb
        clear hd hz hb hst hws HS HV HC
        go_wp2_with fail
        ((with_reducible refine HWr.out.mono ?_))
        rintro e w3 ⟨rfl, hb3⟩
        have HB3 := Lib.hid (HB.out.trans (hb3.mono HB.out.size))
        clear hb3 HWr
        go_wp2_with fail
        ((with_reducible refine (HW.out w3).mono ?_))
        rintro e w4 ⟨rfl, hb4⟩
        have HB4 := Lib.hid (HB3.out.trans (hb4.mono HB3.out.size))
        clear hb4
        go_wp2
        go_ret
        exact ⟨rfl, HB4.out⟩
      · have hws : m.ws = c := by
          rcases Nat.lt_or_ge c k with h | h
          · exact (hst.down h).2
          · have := (hst.up h).2.2; omega
        have hm : min k c = c := by omega
        rw [hm]
        have hcI : ¬ (k : Int) < (c : Int) := by omega
        clear hm
        have HWr := Lib.hid (Writes_any wr Z d m hd)
        rw [hws] at HWr
        have HB := Lib.hid hb
        clear hd hz hb hst hws HS HV HC
        go_wp2_with fail
        ((with_reducible refine HWr.out.mono ?_))
        rintro e w3 ⟨rfl, hb3⟩
        have HB3 := Lib.hid (HB.out.trans (hb3.mono HB.out.size))
        clear hb3 HWr
        go_wp2_with fail
        ((with_reducible refine (HW.out w3).mono ?_))
        rintro e w4 ⟨rfl, hb4⟩
        have HB4 := Lib.hid (HB3.out.trans (hb4.mono HB3.out.size))
        clear hb4
        go_wp2
        go_ret
        exact ⟨rfl, HB4.out⟩

set_option maxRecDepth 100000 in
theorem liftedCut (os : Os) (started : os.Started) (H : Type) (enc : TypeId × Value → H) :
    ReturnsInHanded {} Try.checked os 6 .any (Rows.sectorCutSpec.pre6 enc Try.prog Try.f6 Rows.sectorCutRow.domain false) (Rows.sectorCutSpec.post enc Try.prog Try.f6 false true false false) := by
  refine lift.law (C := Try.checked) own started (by kernel_rfl) Try.func6
    (ChangeSpec.witness6 (enc := enc) (C := Try.checked) false ⟨#[], #[.int .i64 0, .slice none 0 0, .int .u64 0], []⟩ 8 (by kernel_rfl) (by kernel_rfl) (by kernel_rfl) (by kernel_rfl)) laidOut (by kernel_rfl) 4 Try.underlying4 (by kernel_rfl) rfl ?_ ?_
  · intro ds hd
    match ds, hd with
    | [_, _, _], _ => rfl
  · intro W base args ds ps hg
    have hA : DataW.TrodAll enc Try.prog W 0 (fun _ => true) true Try.f6.params.toList args.toList ds ps := hg.read
    have hval : ∀ (j : Nat) t v, Try.f6.params[j]? = some t → args[j]? = some v → Value.okWide Try.prog W .any base t v := hg.ok
    have hz : (DataW.weightsEach Try.prog Try.f6.params.toList ds).all (· ≤ reachBytes) = true := hg.sized
    rw [Try.params6] at hA hval hz
    obtain ⟨v0, vs0, d0, ds0, p0, q0, hargs, rfl, rfl, h0, r0⟩ := trodAll_cons hA
    obtain ⟨v1, vs1, d1, ds1, p1, q1, rfl, rfl, rfl, h1, r1⟩ := trodAll_cons r0
    obtain ⟨v2, vs2, d2, ds2, p2, q2, rfl, rfl, rfl, h2, r2⟩ := trodAll_cons r1
    obtain ⟨rfl, rfl, rfl⟩ := trodAll_nil r2
    obtain rfl : args = #[v0, v1, v2] := by cases args; simp_all
    obtain ⟨a0, rfl, rfl, rfl, w0⟩ := open_int Try.underlying3 (hval 0 3 v0 rfl rfl) h0
    obtain ⟨n, V, N, hv⟩ := rows_open (hval 1 39 v1 rfl rfl) h1 (weight hz (j := 1) rfl rfl)
    obtain ⟨a2, rfl, rfl, rfl, w2⟩ := open_int Try.underlying29 (hval 2 29 v2 rfl rfl) h2
    have hk := u64_pos a2 w2
    obtain ⟨p, rfl⟩ := Int.eq_ofNat_of_zero_le hk.1
    exact walkCut W a0 v1 n V N hv p (by omega)

theorem cut_holds : Rows.SectorCutSaid :=
  OpenClaim.holds_of_wide 6 Try.f6 rfl rfl rfl rfl rfl rfl rfl ⟨rfl, rfl, rfl, rfl, rfl⟩ rfl rfl rfl rfl rfl (by kernel_rfl) Try.func6 (by kernel_rfl)
    (of_decide_eq_true (by kernel_rfl)) (by unfold Func.isWrapper; first | (rw [if_pos (by decide +kernel)]; kernel_rfl) | (rw [if_neg (by decide +kernel)]; exact ⟨rfl, rfl⟩))
    (fun os started H enc _ => liftedCut os started H enc)

#print axioms cut_holds

end Go.Proofs.Ytmipjhbbbpcdlaa.sector
