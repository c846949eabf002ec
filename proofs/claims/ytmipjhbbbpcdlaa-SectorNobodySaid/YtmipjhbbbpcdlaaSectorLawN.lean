/- The law SectorNobody: a device that nobody made, nil or plain, does nothing: for every act the law returns true and leaves its arguments as they were. Conditions: none. -/
import Derived.Test.YtmipjhbbbpcdlaaRows
import Derived.Test.YtmipjhbbbpcdlaaSectorLift
namespace Go.Proofs.Ytmipjhbbbpcdlaa.sector
open Go.ChangeShapes Go.WideShapes Go.ChangeAt Go.RowKit
open Go.Proofs.Ytmipjhbbbpcdlaa.kit Go.Proofs.Ytmipjhbbbpcdlaa.own Go.Proofs.Ytmipjhbbbpcdlaa.lift
set_option linter.unusedVariables false

set_option maxRecDepth 100000 in
theorem Read_nil (w : World) (k : Int) : Calls Try.prog 26 #[.pointer none, .int .i64 k] w fun e w' => e = .returned (.tuple #[.slice none 0 0, .int .i64 22]) ∧ w = w' := by
  go_enter Try.func26, Try.ntmps26
  go_wp2_with fail
  refine (Dead_nil w).mono ?_
  rintro e w' ⟨rfl, rfl⟩
  go_wp2
  go_ret2
  exact ⟨rfl, rfl⟩
set_option maxRecDepth 100000 in
theorem Write_nil (w : World) (k : Int) (v : Value) : Calls Try.prog 17 #[.pointer none, .int .i64 k, v] w fun e w' => e = .returned (.int .i64 22) ∧ w = w' := by
  go_enter Try.func17, Try.ntmps17
  go_wp2_with fail
  refine (Dead_nil w).mono ?_
  rintro e w' ⟨rfl, rfl⟩
  go_wp2
  go_ret
  exact ⟨rfl, rfl⟩
set_option maxRecDepth 100000 in
theorem Flush_nil (w : World) : Calls Try.prog 19 #[.pointer none] w fun e w' => e = .returned (.int .i64 22) ∧ w = w' := by
  go_enter Try.func19, Try.ntmps19
  go_wp2_with fail
  refine (Dead_nil w).mono ?_
  rintro e w' ⟨rfl, rfl⟩
  go_wp2
  go_ret
  exact ⟨rfl, rfl⟩
set_option maxRecDepth 100000 in
theorem Lose_nil (w : World) (p : Int) : Calls Try.prog 21 #[.pointer none, .int .u64 p] w fun e w' => e = .returned (.tuple #[]) ∧ w = w' := by
  go_enter Try.func21, Try.ntmps21
  go_wp2_with fail
  refine (Dead_nil w).mono ?_
  rintro e w' ⟨rfl, rfl⟩
  go_wp2
  refine bodyPost_ret (results_none rfl _ _ _) rfl ?_
  exact ⟨rfl, rfl⟩
set_option maxRecDepth 100000 in
theorem Cut_nil (w : World) (k p : Int) : Calls Try.prog 24 #[.pointer none, .int .i64 k, .int .u64 p] w fun e w' => e = .returned (.tuple #[]) ∧ w = w' := by
  go_enter Try.func24, Try.ntmps24
  go_wp2_with fail
  refine (Dead_nil w).mono ?_
  rintro e w' ⟨rfl, rfl⟩
  go_wp2
  refine bodyPost_ret (results_none rfl _ _ _) rfl ?_
  exact ⟨rfl, rfl⟩
set_option maxRecDepth 100000 in
theorem On_nil (w : World) : Calls Try.prog 23 #[.pointer none] w fun e w' => e = .returned (.tuple #[]) ∧ w = w' := by
  go_enter Try.func23, Try.ntmps23
  go_wp2_with fail
  refine (Sectors_nil w).mono ?_
  rintro e w' ⟨rfl, rfl⟩
  go_wp2
  refine bodyPost_end (results_none rfl _ _ _) rfl ?_
  exact ⟨rfl, rfl⟩
set_option maxRecDepth 100000 in
theorem Writes_nil (w : World) : Calls Try.prog 25 #[.pointer none] w fun e w' => e = .returned (.tuple #[.int .i64 0, .int .i64 0]) ∧ w = w' := by
  go_enter Try.func25, Try.ntmps25
  go_wp2
  go_ret2
  exact ⟨rfl, rfl⟩

/-- A plain Device. -/
def plain : Dev := { cache := [], laid := [], n := 0, power := false, cut := none, ws := 0, fs := 0 }
theorem plain_ok : plain.Ok := ⟨by decide, rfl, fun x h => (by cases h), fun x h => (by cases h), by decide, fun x h => (by cases h), by decide, by decide⟩
theorem plain_at (w : World) (cs : Array Value) (hcs : cs = devCells plain (.slice none 0 0) (.slice none 0 0) (.slice none 0 0)) :
    DevAt (w.alloc (.cells cs 61)) (Fresh w (w.alloc (.cells cs 61))) w.heap.size plain := by
  subst hcs
  exact ⟨plain_ok, .slice none 0 0, .slice none 0 0, .slice none 0 0, alloc_at _ _, OwnI.nil _ _ _ _, World.ownsRow_nil _ _ _ _, World.ownsRow_nil _ _ _ _, fun g hg => (by cases hg), .inr ⟨Nat.le_refl _, by simp⟩, fun g hg => (by cases hg), fun g hg => (by cases hg), fun g hg => (by cases hg),
    fun k hk => hk.elim False.elim (·.2)⟩
theorem own_slice {w : World} {B e : Nat} {k : IntKind} {v : Value} {ns : List Nat} (h : OwnI w B e k v ns) (n : Nat) (hn : ns.length = n) : ∃ a cap, v = .slice a n cap := by
  subst hn
  rcases h.2 with ⟨rfl, h0⟩ | ⟨g, cap, cur, rfl, _⟩
  · exact ⟨none, 0, by rw [h0]⟩
  · exact ⟨_, cap, rfl⟩

set_option maxHeartbeats 4000000 in
set_option maxRecDepth 100000 in
theorem walkNobody (w : World) (is : Bool) (a : ActV) (ha : a.Ok w) :
    Calls Try.prog 7 #[.bool is, .agg a.cells.toArray] w fun e w' => e = .returned (.bool true) ∧ Below w.heap.size w w' := by
  obtain ⟨kind, n, v, data, pick⟩ := a
  obtain ⟨_, hb, _⟩ := ha
  have hvs : ∃ x l c, v = .slice x l c := by
    obtain ⟨_, x, c, e, _⟩ := hb.read
    exact ⟨x, _, c, e⟩
  obtain ⟨x, l, c, rfl⟩ := hvs
  clear hb
  simp only [ActV.cells]
  have HW := Lib.hid awake_any
  have hB1 := (Below.refl w.heap.size w).alloc (Nat.le_refl _) (.cells #[.int .i64 kind, .int .i64 n, .slice x l c, .int .u64 (pick : Nat)] 31)
  have hd := plain_at (w.alloc (.cells #[.int .i64 kind, .int .i64 n, .slice x l c, .int .u64 (pick : Nat)] 31)) (devCells plain (.slice none 0 0) (.slice none 0 0) (.slice none 0 0)) rfl
  have hB2 := hB1.alloc hB1.size (.cells (devCells plain (.slice none 0 0) (.slice none 0 0) (.slice none 0 0)) 61)
  have e9 : devCells plain (.slice none 0 0) (.slice none 0 0) (.slice none 0 0) = #[.slice none 0 0, .slice none 0 0, .slice none 0 0, .bool false, .bool false, .int .i64 0, .int .u64 0, .int .i64 0, .int .i64 0] := rfl
  rw [e9] at hd hB2
  rw [World.size_alloc] at hd
  have hA := alloc2_fst w (.cells #[.int .i64 kind, .int .i64 n, .slice x l c, .int .u64 (pick : Nat)] 31) (.cells #[.slice none 0 0, .slice none 0 0, .slice none 0 0, .bool false, .bool false, .int .i64 0, .int .u64 0, .int .i64 0, .int .i64 0] 61)
  have HD := Lib.hid hd; have HB := Lib.hid hB2; have HA := Lib.hid hA
  clear hd hB1 hB2 hA e9
  go_enter Try.func7, Try.ntmps7
  go_upto_region 2 with fail
  generalize (Fresh _ _) = Z at HD
  generalize ((w.alloc _).alloc _) = w1 at HD HB HA ⊢
  have a1 : w1.cell? ⟨w.heap.size, 1, none⟩ = some (.int .i64 n) := by simp [World.cell?, HA.out]
  have a2 : w1.cell? ⟨w.heap.size, 2, none⟩ = some (.slice x l c) := by simp [World.cell?, HA.out]
  have a3 : w1.cell? ⟨w.heap.size, 3, none⟩ = some (.int .u64 (pick : Nat)) := by simp [World.cell?, HA.out]
  cases is with
  | true =>
    clear HD
    go_wp2_with fail
    refine (Read_nil w1 n).mono ?_
    rintro e w' ⟨rfl, rfl⟩
    go_wp2_with fail
    refine (Write_nil w1 n _).mono ?_
    rintro e w' ⟨rfl, rfl⟩
    go_wp2_with fail
    refine (Flush_nil w1).mono ?_
    rintro e w' ⟨rfl, rfl⟩
    go_wp2_with fail
    refine (Lose_nil w1 pick).mono ?_
    rintro e w' ⟨rfl, rfl⟩
    go_wp2_with fail
    refine (Cut_nil w1 n pick).mono ?_
    rintro e w' ⟨rfl, rfl⟩
    go_wp2_with fail
    refine (On_nil w1).mono ?_
    rintro e w' ⟨rfl, rfl⟩
    go_wp2_with fail
    refine (Writes_nil w1).mono ?_
    rintro e w' ⟨rfl, rfl⟩
    go_wp2_with fail
    refine (Dead_nil w1).mono ?_
    rintro e w' ⟨rfl, rfl⟩
    go_wp2_with fail
    refine (Sectors_nil w1).mono ?_
    rintro e w' ⟨rfl, rfl⟩
    go_wp2_with fail
    refine (Image_nil w1).mono ?_
    rintro e w' ⟨rfl, rfl⟩
    go_wp2_with fail
    refine (Dirty_nil w1).mono ?_
    rintro e w' ⟨rfl, rfl⟩
    go_wp2_with fail
    refine (HW.out w1).mono ?_
    rintro e w' ⟨rfl, hb2⟩
    have HB2 := Lib.hid (HB.out.trans (hb2.mono HB.out.size))
    clear hb2 a1 a2 a3
    go_wp2
    go_ret
    exact ⟨rfl, HB2.out⟩
  | false =>
    go_wp2_with fail
    refine (Read_dead w1 Z _ plain HD.out rfl n).mono ?_
    rintro e w' ⟨rfl, rfl⟩
    go_wp2_with fail
    refine (Write_dead w1 Z _ plain HD.out rfl n _).mono ?_
    rintro e w' ⟨rfl, rfl⟩
    go_wp2_with fail
    refine (Flush_dead w1 Z _ plain HD.out rfl).mono ?_
    rintro e w' ⟨rfl, rfl⟩
    go_wp2_with fail
    refine (Lose_dead w1 Z _ plain HD.out rfl pick).mono ?_
    rintro e w' ⟨rfl, rfl⟩
    go_wp2_with fail
    refine (Cut_dead w1 Z _ plain HD.out rfl n pick).mono ?_
    rintro e w' ⟨rfl, rfl⟩
    go_wp2_with fail
    refine (On_none w1 Z _ plain HD.out rfl).mono ?_
    rintro e w' ⟨rfl, rfl⟩
    have HWr := Lib.hid (Writes_any w1 Z _ plain HD.out)
    rw [show ((plain.ws : Nat) : Int) = 0 from rfl, show ((plain.fs : Nat) : Int) = 0 from rfl] at HWr
    clear a1 a2 a3
    go_wp2_with fail
    refine HWr.out.mono ?_
    rintro e w2 ⟨rfl, hb2⟩
    have HD2 := Lib.hid (HD.out.keep hb2); have HB2 := Lib.hid (HB.out.trans (hb2.mono HB.out.size))
    clear hb2 HWr HD HB HA
    go_wp2_with fail
    refine (Dead_off w2 Z _ plain HD2.out rfl).mono ?_
    rintro e w' ⟨rfl, rfl⟩
    have HSe := Lib.hid (Sectors_any w2 Z _ plain HD2.out)
    rw [show ((plain.n : Nat) : Int) = 0 from rfl] at HSe
    go_wp2_with fail
    refine HSe.out.mono ?_
    rintro e w' ⟨rfl, rfl⟩
    go_wp2_with fail
    refine (Image_any w2 Z _ plain HD2.out).mono ?_
    rintro e w3 ⟨⟨v3, rfl, ho3⟩, hb3⟩
    obtain ⟨x3, c3, rfl⟩ := own_slice ho3 0 rfl
    have HD3 := Lib.hid (HD2.out.keep hb3); have HB3 := Lib.hid (HB2.out.trans (hb3.mono HB2.out.size))
    clear hb3 ho3 HD2 HB2 HSe
    go_wp2_with fail
    refine (Dirty_any w3 Z _ plain HD3.out).mono ?_
    rintro e w4 ⟨⟨v4, rfl, ho4⟩, hb4⟩
    obtain ⟨x4, c4, rfl⟩ := own_slice ho4 0 rfl
    have HB4 := Lib.hid (HB3.out.trans (hb4.mono HB3.out.size))
    clear hb4 ho4 HD3 HB3
    go_wp2_with fail
    refine (HW.out w4).mono ?_
    rintro e w' ⟨rfl, hb2⟩
    have HB5 := Lib.hid (HB4.out.trans (hb2.mono HB4.out.size))
    clear hb2
    go_wp2
    go_ret
    exact ⟨rfl, HB5.out⟩

set_option maxRecDepth 100000 in
theorem liftedNobody (os : Os) (started : os.Started) (H : Type) (enc : TypeId × Value → H) :
    ReturnsInHanded {} Try.checked os 7 .any (Rows.sectorNobodySpec.pre6 enc Try.prog Try.f7 Rows.sectorNobodyRow.domain false) (Rows.sectorNobodySpec.post enc Try.prog Try.f7 false true false false) := by
  refine lift.law (C := Try.checked) own started (by kernel_rfl) Try.func7
    (ChangeSpec.witness6 (enc := enc) (C := Try.checked) false ⟨#[], #[.bool false, .agg #[.int .i64 0, .int .i64 0, .slice none 0 0, .int .u64 0]], []⟩ 8 (by kernel_rfl) (by kernel_rfl) (by kernel_rfl) (by kernel_rfl)) laidOut (by kernel_rfl) 4 Try.underlying4 (by kernel_rfl) rfl ?_ ?_
  · intro ds hd
    match ds, hd with
    | [_, _], _ => rfl
  · intro W base args ds ps hg
    have hA : DataW.TrodAll enc Try.prog W 0 (fun _ => true) true Try.f7.params.toList args.toList ds ps := hg.read
    have hval : ∀ (j : Nat) t v, Try.f7.params[j]? = some t → args[j]? = some v → Value.okWide Try.prog W .any base t v := hg.ok
    rw [Try.params7] at hA hval
    obtain ⟨v0, vs0, d0, ds0, p0, q0, hargs, rfl, rfl, h0, r0⟩ := trodAll_cons hA
    obtain ⟨v1, vs1, d1, ds1, p1, q1, rfl, rfl, rfl, h1, r1⟩ := trodAll_cons r0
    obtain ⟨rfl, rfl, rfl⟩ := trodAll_nil r1
    obtain rfl : args = #[v0, v1] := by cases args; simp_all
    obtain ⟨b, rfl⟩ := okWide_bool Try.underlying4 (hval 0 4 v0 rfl rfl)
    obtain ⟨a, rfl, ha⟩ := act_open (hval 1 31 v1 rfl rfl) h1
    exact walkNobody W b a ha

theorem nobody_holds : Rows.SectorNobodySaid :=
  OpenClaim.holds_of_wide 7 Try.f7 rfl rfl rfl rfl rfl rfl rfl ⟨rfl, rfl, rfl, rfl, rfl⟩ rfl rfl rfl rfl rfl (by kernel_rfl) Try.func7 (by kernel_rfl)
    (of_decide_eq_true (by kernel_rfl)) (by unfold Func.isWrapper; first | (rw [if_pos (by decide +kernel)]; kernel_rfl) | (rw [if_neg (by decide +kernel)]; exact ⟨rfl, rfl⟩))
    (fun os started H enc _ => liftedNobody os started H enc)

#print axioms nobody_holds
end Go.Proofs.Ytmipjhbbbpcdlaa.sector
