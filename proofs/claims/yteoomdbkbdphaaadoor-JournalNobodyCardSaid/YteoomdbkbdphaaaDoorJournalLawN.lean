/- The law JournalNobody: a journal that nobody opened, nil or plain, does nothing: for all texts the law returns true and leaves its arguments as they were. Conditions: none. -/
import Derived.Test.YteoomdbkbdphaaaDoorCards
import Derived.Test.YteoomdbkbdphaaaDoorTie
import Derived.Test.YteoomdbkbdphaaaDoorJournalLift
import Derived.Test.YteoomdbkbdphaaaDoorJournalAwake
namespace Go.Proofs.YteoomdbkbdphaaaDoor.journal
open Go.ChangeShapes Go.WideShapes Go.ChangeAt Go.RowKit
open Go.Proofs.YteoomdbkbdphaaaDoor.kit Go.Proofs.YteoomdbkbdphaaaDoor.own Go.Proofs.YteoomdbkbdphaaaDoor.fm Go.Proofs.YteoomdbkbdphaaaDoor.lift
open Go.WideMaps Go.WideElems
open Go.ChangeMaps (open_string shut_string)
open Go.Proofs.YteoomdbkbdphaaaDoor.frame (Nib)
set_option linter.unusedVariables false
set_option linter.constructorNameAsVariable false

set_option maxHeartbeats 8000000 in
set_option maxRecDepth 100000 in
theorem walkNobody (is : Bool) (s : ByteArray) (w : World) (hN : Nib w) :
    Calls Tryd.prog 7 #[.bool is, .string s] w fun e w' => e = .returned (.bool true) ∧ Below w.heap.size w w' := by
  have HNb := Lib.hid hN
  clear hN
  have hB1 : Below w.heap.size w (w.alloc (.cells #[.pointer none, .int .i64 0, .int .i64 0, .int .i64 0, .int .i64 0, .bool false] 58)) := (Below.refl _ w).alloc (Nat.le_refl _) _
  have hJ : JV (w.alloc (.cells #[.pointer none, .int .i64 0, .int .i64 0, .int .i64 0, .int .i64 0, .bool false] 58)) w.heap.size (.pointer none) 0 0 0 0 false := alloc_at _ _
  have HB1 := Lib.hid hB1
  have HJ := Lib.hid hJ
  clear hB1 hJ
  cases is with
  | true =>
    go_enter Tryd.func7, Tryd.ntmps7
    go_wp2_with fail
    generalize (w.alloc (.cells #[.pointer none, .int .i64 0, .int .i64 0, .int .i64 0, .int .i64 0, .bool false] 58)) = w1 at HB1 ⊢
    refine (Append_nil w1 _).mono ?_
    rintro e w' ⟨rfl, rfl⟩
    go_wp2_with fail
    refine (Restart_nil w1).mono ?_
    rintro e w' ⟨rfl, rfl⟩
    go_wp2_with fail
    refine (Next_nil w1).mono ?_
    rintro e w' ⟨rfl, rfl⟩
    go_wp2_with fail
    refine (Room_nil w1).mono ?_
    rintro e w' ⟨rfl, rfl⟩
    go_wp2_with fail
    refine (jawake_any w1 (HNb.out.keep HB1.out)).mono ?_
    rintro e w2 ⟨rfl, hb2⟩
    have HB2 := Lib.hid (HB1.out.trans (hb2.mono HB1.out.size))
    clear hb2
    go_wp2
    go_ret
    exact ⟨rfl, HB2.out⟩
  | false =>
    go_enter Tryd.func7, Tryd.ntmps7
    go_wp2_with fail
    generalize (w.alloc (.cells #[.pointer none, .int .i64 0, .int .i64 0, .int .i64 0, .int .i64 0, .bool false] 58)) = w1 at HB1 HJ ⊢
    refine (Append_zero w1 _ 0 0 0 0 _ HJ.out).mono ?_
    rintro e w' ⟨rfl, rfl⟩
    go_wp2_with fail
    refine (Restart_any w1 _ _ 0 0 0 0 false HJ.out).mono ?_
    rintro e w2 ⟨rfl, hw2⟩
    have hJ2 : JV w2 w.heap.size (.pointer none) 0 0 0 0 false := by
      have h := HJ.out
      rw [hw2]
      unfold JV at h ⊢
      simpa using heap_setCell_same w1 w.heap.size 3 _ _ (.int .i64 ((0 : Nat) : Int)) h
    have HB2 := Lib.hid (show Below w.heap.size w w2 by rw [hw2]; exact HB1.out.setCell (p := ⟨w.heap.size, 3, none⟩) (by simp) _)
    have HJ2 := Lib.hid hJ2
    clear hw2 hJ2
    go_wp2_with fail
    refine (Next_any w2 _ _ 0 0 0 0 false HJ2.out).mono ?_
    rintro e w' ⟨rfl, rfl⟩
    go_wp2_with fail
    refine (Room_any w2 _ _ 0 0 0 0 false HJ2.out (by omega) (by omega)).mono ?_
    rintro e w' ⟨rfl, n, rfl⟩
    rw [show roomV 0 0 0 = -1 by decide]
    have HB3 := Lib.hid (HB2.out.drewN' n)
    generalize w2.drewN n = w3 at HB3 ⊢
    go_wp2_with fail
    refine (jawake_any w3 (HNb.out.keep HB3.out)).mono ?_
    rintro e w4 ⟨rfl, hb4⟩
    have HB4 := Lib.hid (HB3.out.trans (hb4.mono HB3.out.size))
    clear hb4
    go_wp2
    go_ret
    exact ⟨rfl, HB4.out⟩

theorem readsNobody (os : Os) {H : Type} (enc : TypeId × Value → H) : ∃ places, DataW.whole enc Tryd.prog ((laidWorld os).forCall (fun _ _ => 0) ⟨#[], #[.bool false, .string .empty], []⟩).memory Tryd.f7.params.toList Rows.journalNobodySpec.vars false #[Value.bool false, .string .empty].toList 8 = some ([.lit (.bool false), .lit (.string [])], [], places) :=
  ⟨[], by kernel_rfl⟩

set_option maxRecDepth 100000 in
theorem liftedNobody (os : Os) (started : os.Started) (H : Type) (enc : TypeId × Value → H) (F : Stop.Interp) :
    ReturnsInHanded {} Tryd.checked os 7 .any ((OpenSpec.ofChange Rows.journalNobodySpec).preRow enc Tryd.prog Tryd.f7 Rows.journalNobodyRow.domain false Rows.journalNobodyRow.laid) (((OpenSpec.ofChange Rows.journalNobodySpec).at F).post enc Tryd.prog Tryd.f7 false true false false) := by
  obtain ⟨places, hx⟩ := readsNobody os enc
  refine returnsInHanded_of_row (C := Tryd.checked) (s := OpenSpec.ofChange Rows.journalNobodySpec) own started (by kernel_rfl) Tryd.func7
    (witness_row_at (enc := enc) (C := Tryd.checked) false (laidWorld os) #[.bool false, .string .empty] rfl (by kernel_rfl) (by kernel_rfl) (by kernel_rfl)
      (OpenSpec.preRow_of_cond 8 hx (by kernel_rfl) (fun k hk => by cases hk) (by kernel_rfl) (laid_met os _))) ?_
  intro W base args ds gs before hval hW0 _ _ hz hL _ _
  have hW : DataW.Whole enc Tryd.prog Tryd.f7.params.toList Rows.journalNobodySpec.vars false W args.toList ds gs before := hW0
  refine closes (s := Rows.journalNobodySpec) laidOut (by kernel_rfl) 4 Tryd.underlying4 (by kernel_rfl) rfl (fun ds hd => ?_) hW ?_
  · match ds, hd with
    | [_, _], _ => rfl
  · obtain ⟨p, q, hA0, hV, hbefore, hfz, hnd⟩ := hW
    obtain ⟨rfl, rfl⟩ := trodVars_none hV
    have hA : DataW.TrodAll enc Tryd.prog W 0 (fun _ => true) true Tryd.f7.params.toList args.toList ds p := hA0
    have hval' : ∀ (j : Nat) t v, Tryd.f7.params[j]? = some t → args[j]? = some v → Value.okWide Tryd.prog W .any base t v := hval
    rw [Tryd.params7] at hA hval'
    obtain ⟨v0, vs0, d0, ds0, p0, q0, hargs, rfl, rfl, h0, r0⟩ := trodAll_cons hA
    obtain ⟨v1, vs1, d1, ds1, p1, q1, rfl, rfl, rfl, h1, r1⟩ := trodAll_cons r0
    obtain ⟨rfl, rfl, rfl⟩ := trodAll_nil r1
    obtain rfl : args = #[v0, v1] := by cases args; simp_all
    obtain ⟨b, rfl, rfl, rfl⟩ := open_bool Tryd.underlying4 (hval' 0 4 v0 rfl rfl) h0
    obtain ⟨s, rfl, rfl, rfl, hs⟩ := open_string Tryd.underlying9 (hval' 1 9 v1 rfl rfl) h1
    exact walkNobody b s W (nib_of hL)

theorem saidNobody : Rows.JournalNobodySaid :=
  OpenClaim.holds_of_cond 7 Tryd.f7 rfl rfl rfl rfl rfl rfl rfl ⟨rfl, rfl, rfl, rfl, rfl⟩ rfl rfl rfl rfl rfl (by kernel_rfl) Tryd.func7 (by kernel_rfl)
    (of_decide_eq_true (by kernel_rfl)) (by unfold Func.isWrapper; first | (rw [if_pos (by decide +kernel)]; kernel_rfl) | (rw [if_neg (by decide +kernel)]; exact ⟨rfl, rfl⟩))
    (fun os started H enc _ F => by rw [OpenClaim.pre_eq_preRow]; exact liftedNobody os started H enc F)

theorem plainNobody (f : FuncId) (fn : Func) (hf : Tryd.pinned.checked.prog.funcNamed "reef/reeflaw07.JournalNobody" = some f) (hfn : Tryd.pinned.checked.prog.funcs[f]? = some fn) :
    false = Tryd.pinned.checked.prog.looks [] ∧ ∀ (j : Nat) t, fn.params[j]? = some t → Tryd.pinned.checked.prog.wantsStandIn t = false := by
  obtain rfl : f = 7 := Option.some.inj ((show Tryd.prog.funcNamed "reef/reeflaw07.JournalNobody" = some 7 by kernel_rfl).symm.trans hf) |>.symm
  obtain rfl : fn = Tryd.f7 := (Option.some.inj (Tryd.func7.symm.trans hfn)).symm
  refine ⟨by kernel_rfl, fun j t ht => ?_⟩
  rw [Tryd.params7] at ht
  have hm : t ∈ [4, 9] := by simpa using Array.mem_of_getElem? ht
  have hall : ([4, 9].all fun u => !Tryd.prog.wantsStandIn u) = true := by kernel_rfl
  exact (show Tryd.prog.wantsStandIn t = false by simpa using List.all_eq_true.1 hall t hm)

theorem nobody_card : Rows.JournalNobodyCardSaid :=
  Claim7.holds_tied_plain_at .later [] _ _ _ _ saidNobody (fun _ h => by cases h) (by kernel_rfl) (fun _ h => by cases h) journalNobody_row_tie rfl ⟨rfl, rfl⟩ (by kernel_rfl) rfl plainNobody (by kernel_rfl)

#print axioms nobody_card
end Go.Proofs.YteoomdbkbdphaaaDoor.journal
