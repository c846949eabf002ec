/- FlightTells: what lies on a way, and the oldest frame to a node, are the document's. -/
import Derived.Test.YtakgpkjkdlacaaaRows
import Derived.Test.YtakgpkjkdlacaaaFlightAwake
import Derived.Test.YtakgpkjkdlacaaaFlightLift
import Derived.Test.YtakgpkjkdlacaaaFlightRFit
import Derived.Test.YtakgpkjkdlacaaaFlightRef
import Derived.Test.YtakgpkjkdlacaaaFlightOld
import Derived.Test.YtakgpkjkdlacaaaFlightOn
import Derived.Test.YtakgpkjkdlacaaaFlightROn
import Derived.Test.YtakgpkjkdlacaaaFlightInts
namespace Go.Proofs.Ytakgpkjkdlacaaa.flight
open Go.ChangeShapes Go.WideShapes Go.ChangeAt Go.RowKit
open Go.Proofs.Ytakgpkjkdlacaaa.kit Go.Proofs.Ytakgpkjkdlacaaa.own Go.Proofs.Ytakgpkjkdlacaaa.lift
set_option linter.unusedVariables false

set_option maxHeartbeats 16000000 in
set_option maxRecDepth 100000 in
theorem walkTells (v1 : Value) (f : Flt) (a b : Int) (w : World) (h1 : FlR w v1 f) (hok : ∀ x ∈ f.list, Frm.Ok x) (hl1 : f.list.length * 40 ≤ 140737488355328) :
    Calls Try.prog 4 #[v1, .int .i64 a, .int .i64 b] w fun e w' => e = .returned (.bool true) ∧ Below w.heap.size w w' := by
  obtain ⟨x1, y1, hv1, -⟩ := id h1
  have hb := below_new w (.cells #[.int .i64 f.next, x1, y1] 25)
  have HX := Lib.hid (fbox_new w f.next x1 y1)
  have HF := Lib.hid (h1.keep hb); have HB0 := Lib.hid hb
  have HL1 := Lib.hid hl1; have HOk := Lib.hid hok
  subst hv1
  clear h1 hl1 hok hb
  go_enter Try.func4, Try.ntmps4
  go_upto_region 1 with fail
  generalize w.alloc (.cells #[.int .i64 f.next, x1, y1] 25) = W at HX HF HB0 ⊢
  obtain ⟨N, hN⟩ : ∃ N, w.heap.size = N := ⟨_, rfl⟩
  rw [hN] at HX ⊢
  clear hN
  obtain ⟨nf, hnf⟩ : ∃ n, f.next = n := ⟨_, rfl⟩
  rw [hnf] at HF HX ⊢
  clear hnf
  obtain ⟨e1, e2, e3⟩ := HX.out.cells
  go_wp2_with fail
  refine (rFit_any _ f _ HF.out).mono ?_
  rintro e w1 ⟨rfl, hb⟩
  have HX1 := Lib.hid (HX.out.keep hb); have HF1 := Lib.hid (HF.out.keep hb); have HB1 := Lib.hid (HB0.out.trans (hb.mono HB0.out.size))
  clear hb e1 e2 e3
  obtain ⟨r, hr⟩ : ∃ r, f.fit = r := ⟨_, rfl⟩
  rw [hr]
  clear hr
  cases r with
  | false =>
    go_wp2_with fail
    refine (awake_any _).mono ?_
    rintro e w2 ⟨rfl, hb⟩
    have HB2 := Lib.hid (HB1.out.trans (hb.mono HB1.out.size))
    clear hb
    go_wp2
    go_ret
    exact ⟨rfl, HB2.out⟩
  | true =>
    obtain ⟨e1, e2, e3⟩ := HX1.out.cells
    go_wp2_with fail
    refine (Oldest_any _ f b _ HF1.out HOk.out).mono ?_
    rintro e w2 ⟨rfl, hb⟩
    have HX2 := Lib.hid (HX1.out.keep hb); have HF2 := Lib.hid (HF1.out.keep hb); have HB2 := Lib.hid (HB1.out.trans (hb.mono HB1.out.size))
    clear hb e1 e2 e3
    obtain ⟨e1, e2, e3⟩ := HX2.out.cells
    go_wp2_with fail
    refine (rOldest_any _ f b _ HF2.out).mono ?_
    rintro e w3 ⟨rfl, hb⟩
    have HX3 := Lib.hid (HX2.out.keep hb); have HF3 := Lib.hid (HF2.out.keep hb); have HB3 := Lib.hid (HB2.out.trans (hb.mono HB2.out.size))
    clear hb e1 e2 e3
    obtain ⟨o1, ho1⟩ : ∃ o, (oldE f b).1 = o := ⟨_, rfl⟩
    obtain ⟨o2, ho2⟩ : ∃ o, (oldE f b).2 = o := ⟨_, rfl⟩
    rw [ho1, ho2]
    clear ho1 ho2
    go_upto_region 5 with fail
    have HFl : Hid (∀ u, Below w3.heap.size w3 u → FlR u (.agg #[.int .i64 nf, x1, y1]) f) := Lib.hid (fun u hu => HF3.out.keep hu)
    have HSs : Hid (∀ u, Below w3.heap.size w3 u → u.cell? ⟨N, 0, none⟩ = some (.int .i64 nf) ∧ u.cell? ⟨N, 1, none⟩ = some x1 ∧ u.cell? ⟨N, 2, none⟩ = some y1) := Lib.hid (fun u hu => (HX3.out.keep hu).cells)
    have HB := Lib.hid (show Below w3.heap.size w3 w3.drew from ⟨rfl, rfl, rfl, Nat.le_refl _, fun _ _ => rfl⟩)
    clear HX3 HF3
    go_region_held3 (fun u => u.cell? ⟨N, 0, none⟩ = some (.int .i64 nf) ∧ u.cell? ⟨N, 1, none⟩ = some x1 ∧ u.cell? ⟨N, 2, none⟩ = some y1)
      (exact HSs.out _ HB.out)
      (first
        | ((go_at_call 16; with_reducible refine (On_any _ f a b _ (HFl.out _ HB.out) HOk.out HL1.out).mono ?_); (rintro e w4 ⟨v4, rfl, ho, hb⟩; obtain ⟨ax4, cx4, rfl⟩ := ho.slice; have HO4 := Lib.hid (ho.read ic_len); have HB := Lib.hid (HB.out.trans (hb.mono HB.out.size)); clear hb ho))
        | ((go_at_call 17; with_reducible refine (rOn_any _ f a b _ (HFl.out _ HB.out) HL1.out).mono ?_); (rintro e w5 ⟨v5, rfl, ho, hb⟩; obtain ⟨ax5, cx5, rfl⟩ := ho.slice; have HO5 := Lib.hid (ho.read ic_len); have HO4 := Lib.hid (HO4.out.keep hb); have HB := Lib.hid (HB.out.trans (hb.mono HB.out.size)); clear hb ho))
        | ((go_at_call 15; with_reducible refine (ints_any _ _ (onE (a, b) f.list) (onE (a, b) f.list) _ HO4.out HO5.out).mono ?_); (rintro e w6 ⟨r, rfl, hr, hb⟩; obtain rfl : r = true := hr.2 rfl; have HB := Lib.hid (HB.out.trans (hb.mono HB.out.size)); clear hb hr))
        | ((go_at_call 12; with_reducible refine (awake_any _).mono ?_); (rintro e w7 ⟨rfl, hb⟩; have HB := Lib.hid (HB.out.trans (hb.mono HB.out.size)); clear hb)))
    all_goals
      go_wp2
      go_ret
      exact ⟨rfl, HB3.out.trans (HB.out.mono HB3.out.size)⟩

set_option maxRecDepth 100000 in
theorem liftedTells (os : Os) (started : os.Started) (H : Type) (enc : TypeId × Value → H) :
    ReturnsInHanded {} Try.checked os 4 .any (Rows.flightTellsSpec.pre6 enc Try.prog Try.f4 Rows.flightTellsRow.domain false) (Rows.flightTellsSpec.post enc Try.prog Try.f4 false true false false) := by
  refine lift.law (C := Try.checked) ownKn started (by kernel_rfl) Try.func4
    (ChangeSpec.witness6 (enc := enc) (C := Try.checked) false ⟨#[], #[.agg #[.int .i64 0, .slice none 0 0, .slice none 0 0], .int .i64 0, .int .i64 0], []⟩ 8 (by kernel_rfl) (by kernel_rfl) (by kernel_rfl) (by kernel_rfl)) laidOut (by kernel_rfl) 4 Try.underlying4 (by kernel_rfl) rfl ?_ ?_
  · intro ds hd
    match ds, hd with
    | [_, _, _], _ => rfl
  · intro W base args ds ps hg
    have hA : DataW.TrodAll enc Try.prog W 0 (fun _ => true) true Try.f4.params.toList args.toList ds ps := hg.read
    have hval : ∀ (j : Nat) t v, Try.f4.params[j]? = some t → args[j]? = some v → Value.okWide Try.prog W .any base t v := hg.ok
    have hz : (DataW.weightsEach Try.prog Try.f4.params.toList ds).all (· ≤ reachBytes) = true := hg.sized
    rw [Try.params4] at hA hval hz
    obtain ⟨v0, vs0, d0, ds0, p0, q0, hargs, rfl, rfl, h0, r0⟩ := trodAll_cons hA
    obtain ⟨v1, vs1, d1, ds1, p1, q1, rfl, rfl, rfl, h1, r1⟩ := trodAll_cons r0
    obtain ⟨v2, vs2, d2, ds2, p2, q2, rfl, rfl, rfl, h2, r2⟩ := trodAll_cons r1
    obtain ⟨rfl, rfl, rfl⟩ := trodAll_nil r2
    obtain rfl : args = #[v0, v1, v2] := by cases args; simp_all
    obtain ⟨z1, rfl, rfl, rfl, w1⟩ := open_int Try.underlying3 (hval 1 3 v1 rfl rfl) h1
    obtain ⟨z2, rfl, rfl, rfl, w2⟩ := open_int Try.underlying3 (hval 2 3 v2 rfl rfl) h2
    obtain ⟨f, hf, -, ho1, -, hl1, -⟩ := flt_open (hval 0 25 v0 rfl rfl) h0 (weight hz (j := 0) rfl rfl)
    exact walkTells v0 f z1 z2 W hf ho1 hl1

theorem tells_holds : Rows.FlightTellsSaid :=
  OpenClaim.holds_of_wide 4 Try.f4 rfl rfl rfl rfl rfl rfl rfl ⟨rfl, rfl, rfl, rfl, rfl⟩ rfl rfl rfl rfl rfl (by kernel_rfl) Try.func4 (by kernel_rfl)
    (of_decide_eq_true (by kernel_rfl)) (by unfold Func.isWrapper; first | (rw [if_pos (by decide +kernel)]; kernel_rfl) | (rw [if_neg (by decide +kernel)]; exact ⟨rfl, rfl⟩))
    (fun os started H enc _ => liftedTells os started H enc)

#print axioms tells_holds
end Go.Proofs.Ytakgpkjkdlacaaa.flight
