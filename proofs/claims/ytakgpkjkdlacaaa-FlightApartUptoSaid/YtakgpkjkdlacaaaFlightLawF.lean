/- FlightFits: which flights are fit, and which are the same, is the document's. -/
import Derived.Test.YtakgpkjkdlacaaaRows
import Derived.Test.YtakgpkjkdlacaaaFlightAwake
import Derived.Test.YtakgpkjkdlacaaaFlightLift
import Derived.Test.YtakgpkjkdlacaaaFlightRFit
import Derived.Test.YtakgpkjkdlacaaaFlightRSame
import Derived.Test.YtakgpkjkdlacaaaFlightRCopy
namespace Go.Proofs.Ytakgpkjkdlacaaa.flight
open Go.ChangeShapes Go.WideShapes Go.ChangeAt Go.RowKit
open Go.Proofs.Ytakgpkjkdlacaaa.kit Go.Proofs.Ytakgpkjkdlacaaa.own Go.Proofs.Ytakgpkjkdlacaaa.lift
set_option linter.unusedVariables false

open Classical in
/-- Are two flights the same? -/
noncomputable def sameB (f g : Flt) : Bool := decide (f = g)
theorem sameB_self (f : Flt) : sameB f f = true := by unfold sameB; simp
theorem sameS_val {W : World} {f g : Flt} {e : Ending} {W' : World} (h : SameS W f g e W') : e = .returned (.bool (sameB f g)) ∧ Below W.heap.size W W' := by
  obtain ⟨r, rfl, hr, hb⟩ := h
  refine ⟨?_, hb⟩
  have : r = sameB f g := by
    unfold sameB
    cases r with
    | true => simp [hr.1 rfl]
    | false =>
      have hne : ¬ f = g := fun e => by have := hr.2 e; cases this
      simp [hne]
  rw [this]
theorem same_v (v1 v2 : Value) (f g : Flt) (w : World) (h1 : FlR w v1 f) (h2 : FlR w v2 g) : Calls Try.prog 9 #[v1, v2] w fun e w' => e = .returned (.bool (sameB f g)) ∧ Below w.heap.size w w' :=
  (Same_any v1 v2 f g w h1 h2).mono fun _ _ h => sameS_val h
theorem rsame_v (v1 v2 : Value) (f g : Flt) (w : World) (h1 : FlR w v1 f) (h2 : FlR w v2 g) : Calls Try.prog 10 #[v1, v2] w fun e w' => e = .returned (.bool (sameB f g)) ∧ Below w.heap.size w w' :=
  (rSame_any v1 v2 f g w h1 h2).mono fun _ _ h => sameS_val h

set_option maxHeartbeats 16000000 in
set_option maxRecDepth 100000 in
theorem walkFits (v1 v2 : Value) (f g : Flt) (w : World) (h1 : FlR w v1 f) (h2 : FlR w v2 g) (hl1 : f.list.length * 40 ≤ 140737488355328) (hl2 : f.cut.length * 16 ≤ 140737488355328) :
    Calls Try.prog 3 #[v1, v2] w fun e w' => e = .returned (.bool true) ∧ Below w.heap.size w w' := by
  obtain ⟨x1, y1, hv1, -⟩ := id h1
  obtain ⟨x2, y2, hv2, -⟩ := id h2
  have hb1 := below_new w (.cells #[.int .i64 f.next, x1, y1] 25)
  have hb2 := below_new (w.alloc (.cells #[.int .i64 f.next, x1, y1] 25)) (.cells #[.int .i64 g.next, x2, y2] 25)
  have hb := hb1.trans (hb2.mono (by simp))
  have hX1 := (fbox_new w f.next x1 y1).keep hb2
  have hX2 := fbox_new (w.alloc (.cells #[.int .i64 f.next, x1, y1] 25)) g.next x2 y2
  rw [World.size_alloc] at hX2
  have HX1 := Lib.hid hX1; have HX2 := Lib.hid hX2
  have HF1 := Lib.hid (h1.keep hb); have HF2 := Lib.hid (h2.keep hb); have HB0 := Lib.hid hb
  have HL1 := Lib.hid hl1; have HL2 := Lib.hid hl2
  subst hv1 hv2
  have HSm := Lib.hid (sameB_self f)
  clear h1 h2 hl1 hl2 hb1 hb2 hb hX1 hX2
  go_enter Try.func3, Try.ntmps3
  go_upto_region 1 with fail
  generalize (w.alloc (.cells #[.int .i64 f.next, x1, y1] 25)).alloc (.cells #[.int .i64 g.next, x2, y2] 25) = W at HX1 HX2 HF1 HF2 HB0 ⊢
  generalize w.heap.size + 1 = N2 at HX2 ⊢
  obtain ⟨N, hN⟩ : ∃ N, w.heap.size = N := ⟨_, rfl⟩
  rw [hN] at HX1 ⊢
  clear hN
  have HFl : Hid (∀ u, Below W.heap.size W u → FlR u (.agg #[.int .i64 f.next, x1, y1]) f ∧ FlR u (.agg #[.int .i64 g.next, x2, y2]) g) := Lib.hid (fun u hu => ⟨HF1.out.keep hu, HF2.out.keep hu⟩)
  have HSs : Hid (∀ u, Below W.heap.size W u → (u.cell? ⟨N, 0, none⟩ = some (.int .i64 f.next) ∧ u.cell? ⟨N, 1, none⟩ = some x1 ∧ u.cell? ⟨N, 2, none⟩ = some y1) ∧ u.cell? ⟨N2, 0, none⟩ = some (.int .i64 g.next) ∧ u.cell? ⟨N2, 1, none⟩ = some x2 ∧ u.cell? ⟨N2, 2, none⟩ = some y2) := Lib.hid (fun u hu => ⟨(HX1.out.keep hu).cells, (HX2.out.keep hu).cells⟩)
  have HB := Lib.hid (show Below W.heap.size W W.drew from ⟨rfl, rfl, rfl, Nat.le_refl _, fun _ _ => rfl⟩)
  clear HX1 HX2 HF1 HF2
  obtain ⟨nf, hnf⟩ : ∃ n, f.next = n := ⟨_, rfl⟩
  obtain ⟨ng, hng⟩ : ∃ n, g.next = n := ⟨_, rfl⟩
  rw [hnf] at HFl HSs ⊢
  rw [hng] at HFl HSs ⊢
  have HNf := Lib.hid hnf
  clear hnf hng
  go_region_held3 (fun u => (u.cell? ⟨N, 0, none⟩ = some (.int .i64 nf) ∧ u.cell? ⟨N, 1, none⟩ = some x1 ∧ u.cell? ⟨N, 2, none⟩ = some y1) ∧ u.cell? ⟨N2, 0, none⟩ = some (.int .i64 ng) ∧ u.cell? ⟨N2, 1, none⟩ = some x2 ∧ u.cell? ⟨N2, 2, none⟩ = some y2)
    (exact HSs.out _ HB.out)
    (first
      | ((go_at_call 7; with_reducible refine (Fit_any _ f _ (HFl.out _ HB.out).1).mono ?_); (rintro e w3 ⟨rfl, hb⟩; have HB := Lib.hid (HB.out.trans (hb.mono HB.out.size)); clear hb))
      | ((go_at_call 8; with_reducible refine (rFit_any _ f _ (HFl.out _ HB.out).1).mono ?_); (rintro e w3 ⟨rfl, hb⟩; have HB := Lib.hid (HB.out.trans (hb.mono HB.out.size)); clear hb))
      | ((go_at_call 9; with_reducible refine (same_v _ _ f g _ (HFl.out _ HB.out).1 (HFl.out _ HB.out).2).mono ?_); (rintro e w3 ⟨rfl, hb⟩; have HB := Lib.hid (HB.out.trans (hb.mono HB.out.size)); clear hb))
      | ((go_at_call 10; with_reducible refine (rsame_v _ _ f g _ (HFl.out _ HB.out).1 (HFl.out _ HB.out).2).mono ?_); (rintro e w3 ⟨rfl, hb⟩; have HB := Lib.hid (HB.out.trans (hb.mono HB.out.size)); clear hb))
      | ((go_at_call 11; with_reducible refine (rCopy_any _ f _ (HFl.out _ HB.out).1 HL1.out HL2.out).mono ?_); (rintro e w3 ⟨vl3, vc3, rfl, ho1, ho2, hb⟩; have HC := Lib.hid (show FlR w3 (.agg #[.int .i64 f.next, vl3, vc3]) f from ⟨_, _, rfl, ho1.read fc_len, ho2.read wc_len⟩); rw [HNf.out] at HC; rw [HNf.out]; have HB := Lib.hid (HB.out.trans (hb.mono HB.out.size)); clear hb ho1 ho2))
      | ((go_at_call 9; with_reducible refine (same_v _ _ f f _ (HFl.out _ HB.out).1 HC.out).mono ?_); (rintro e w3 ⟨rfl, hb⟩; rw [HSm.out]; have HB := Lib.hid (HB.out.trans (hb.mono HB.out.size)); clear hb))
      | ((go_at_call 12; with_reducible refine (awake_any _).mono ?_); (rintro e w3 ⟨rfl, hb⟩; have HB := Lib.hid (HB.out.trans (hb.mono HB.out.size)); clear hb)))
  all_goals
    go_wp2
    go_ret
    exact ⟨rfl, HB0.out.trans (HB.out.mono HB0.out.size)⟩

set_option maxRecDepth 100000 in
theorem liftedFits (os : Os) (started : os.Started) (H : Type) (enc : TypeId × Value → H) :
    ReturnsInHanded {} Try.checked os 3 .any (Rows.flightFitsSpec.pre6 enc Try.prog Try.f3 Rows.flightFitsRow.domain false) (Rows.flightFitsSpec.post enc Try.prog Try.f3 false true false false) := by
  refine lift.law (C := Try.checked) ownKn started (by kernel_rfl) Try.func3
    (ChangeSpec.witness6 (enc := enc) (C := Try.checked) false ⟨#[], #[.agg #[.int .i64 0, .slice none 0 0, .slice none 0 0], .agg #[.int .i64 0, .slice none 0 0, .slice none 0 0]], []⟩ 8 (by kernel_rfl) (by kernel_rfl) (by kernel_rfl) (by kernel_rfl)) laidOut (by kernel_rfl) 4 Try.underlying4 (by kernel_rfl) rfl ?_ ?_
  · intro ds hd
    match ds, hd with
    | [_, _], _ => rfl
  · intro W base args ds ps hg
    have hA : DataW.TrodAll enc Try.prog W 0 (fun _ => true) true Try.f3.params.toList args.toList ds ps := hg.read
    have hval : ∀ (j : Nat) t v, Try.f3.params[j]? = some t → args[j]? = some v → Value.okWide Try.prog W .any base t v := hg.ok
    have hz : (DataW.weightsEach Try.prog Try.f3.params.toList ds).all (· ≤ reachBytes) = true := hg.sized
    rw [Try.params3] at hA hval hz
    obtain ⟨v0, vs0, d0, ds0, p0, q0, hargs, rfl, rfl, h0, r0⟩ := trodAll_cons hA
    obtain ⟨v1, vs1, d1, ds1, p1, q1, rfl, rfl, rfl, h1, r1⟩ := trodAll_cons r0
    obtain ⟨rfl, rfl, rfl⟩ := trodAll_nil r1
    obtain rfl : args = #[v0, v1] := by cases args; simp_all
    obtain ⟨f, hf, -, -, -, hl1, hl2⟩ := flt_open (hval 0 25 v0 rfl rfl) h0 (weight hz (j := 0) rfl rfl)
    obtain ⟨g, hg', -, -, -, -, -⟩ := flt_open (hval 1 25 v1 rfl rfl) h1 (weight hz (j := 1) rfl rfl)
    exact walkFits v0 v1 f g W hf hg' hl1 hl2

theorem fits_holds : Rows.FlightFitsSaid :=
  OpenClaim.holds_of_wide 3 Try.f3 rfl rfl rfl rfl rfl rfl rfl ⟨rfl, rfl, rfl, rfl, rfl⟩ rfl rfl rfl rfl rfl (by kernel_rfl) Try.func3 (by kernel_rfl)
    (of_decide_eq_true (by kernel_rfl)) (by unfold Func.isWrapper; first | (rw [if_pos (by decide +kernel)]; kernel_rfl) | (rw [if_neg (by decide +kernel)]; exact ⟨rfl, rfl⟩))
    (fun os started H enc _ => liftedFits os started H enc)

#print axioms fits_holds
end Go.Proofs.Ytakgpkjkdlacaaa.flight
