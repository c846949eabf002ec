/- The law CodeWrites: for every fields of bulk at most the bound it returns true and leaves its arguments as they were. -/
import Derived.Test.YtgjfijognplfpaaRows
import Derived.Test.YtgjfijognplfpaaCodeAwake
import Derived.Test.YtgjfijognplfpaaCodeRefL
import Derived.Test.YtgjfijognplfpaaLift
import Derived.Test.YtgjfijognplfpaaCodeLift
import Derived.Lib.Strings
import Derived.Laws.Cover1
import Derived.Deep.RegionHeld3
import Derived.JoinedCond
namespace Go.Proofs.Ytgjfijognplfpaa.lawsW
open Go.ChangeShapes Go.WideShapes Go.ChangeAt Go.RowKit
open Go.Proofs.Ytgjfijognplfpaa.kit Go.Proofs.Ytgjfijognplfpaa.cm Go.Proofs.Ytgjfijognplfpaa.code
open Go.WideMaps Go.WideElems
open Go.ChangeMaps (open_string shut_string)
set_option linter.unusedVariables false

/-- The bytes of fields as a text. -/
def bytesS (fs : List Fld) : ByteArray := strOfNums ((bytesL fs).map fun n : Nat => (n : Int))
theorem convF {w : World} {B : Nat} {v : Value} {fs : List Fld} (h : OwnI w B 5 .u8 v (bytesL fs)) : (convert 27 9 v).run Try.prog w = .ok (.string (bytesS fs)) w :=
  conv_bytes (P := Try.prog) 27 5 9 Try.underlying27 Try.underlying5 Try.underlying9 h.read

/-- A field's four cells lie as they lay. -/
theorem keepF {wr u v : World} {b o0 o1 o2 o3 : Nat} {x0 x1 x2 x3 : Value} (hl : b < wr.heap.size)
    (h : Below wr.heap.size wr u ∧ u.cell? ⟨b, o0, none⟩ = some x0 ∧ u.cell? ⟨b, o1, none⟩ = some x1 ∧ u.cell? ⟨b, o2, none⟩ = some x2 ∧ u.cell? ⟨b, o3, none⟩ = some x3) (hb : Below u.heap.size u v) :
    Below wr.heap.size wr v ∧ v.cell? ⟨b, o0, none⟩ = some x0 ∧ v.cell? ⟨b, o1, none⟩ = some x1 ∧ v.cell? ⟨b, o2, none⟩ = some x2 ∧ v.cell? ⟨b, o3, none⟩ = some x3 := by
  obtain ⟨h0, h1, h2, h3, h4⟩ := h
  have hlu : b < u.heap.size := Nat.lt_of_lt_of_le hl h0.size
  exact ⟨h0.trans (hb.mono h0.size), (hb.cell (p := ⟨b, _, none⟩) hlu).trans h1, (hb.cell (p := ⟨b, _, none⟩) hlu).trans h2, (hb.cell (p := ⟨b, _, none⟩) hlu).trans h3, (hb.cell (p := ⟨b, _, none⟩) hlu).trans h4⟩

set_option maxHeartbeats 4000000 in
set_option maxRecDepth 100000 in
theorem walkWrites (sl : Value) (fs : List Fld) (w : World) (hs : SlF w sl fs) (hok : ∀ f ∈ fs, f.Ok) (hlen : (fs.flatMap Fld.bytes).length ≤ 800000000000) (htx : ∀ f ∈ fs, f.text.size ≤ 100000000000) :
    Calls Try.prog 3 #[sl] w fun e w' => e = .returned (.bool true) ∧ Below w.heap.size w w' := by
  obtain ⟨hl, a, cap, rfl, hc⟩ := id hs
  have HS := Lib.hid hs; have HOK := Lib.hid hok; have HTX := Lib.hid htx; have HLEN := Lib.hid hlen
  obtain ⟨L, hL⟩ : ∃ L, fs.length = L := ⟨_, rfl⟩
  have HL := Lib.hid hL
  rw [hL] at hl ⊢
  clear hs hok htx hc hL hlen
  go_enter Try.func3, Try.ntmps3
  go_wp2
  go_loopw [3] (fun i wr => ∃ k : Nat, k ≤ L ∧ i = .int .i64 k ∧ Below w.heap.size w wr) (fun i _ => L - (intOf i).toNat)
  case atStart => exact ⟨0, by omega, rfl, Below.refl _ _⟩
  case round =>
    obtain ⟨k, hk, rfl, hb⟩ := hrel
    have HB := Lib.hid hb
    clear hb
    by_cases hlt : k < L
    · have hlt' : (k : Int) < L := by omega
      have hk0 : (0 : Int) ≤ k := by omega
      have hi : k < fs.length := by rw [HL.out]; exact hlt
      have hs2 : SlF wr (.slice a fs.length cap) fs := HS.out.below HB.out
      obtain ⟨_, a', cap', he, hcell⟩ := hs2
      cases he
      obtain ⟨b, off, rfl, hbl, hcell⟩ := hcell (by omega)
      obtain ⟨h1, h2, h3, h4⟩ := hcell k hi
      obtain ⟨f, hf⟩ : ∃ f, fs[k] = f := ⟨_, rfl⟩
      rw [hf] at h1 h2 h3 h4
      have hmem : f ∈ fs := by rw [← hf]; exact List.getElem_mem _
      have hokf := Lib.hid (HOK.out f hmem); have htxf := Lib.hid (HTX.out f hmem)
      clear hcell hf hmem
      have Hbl := Lib.hid hbl
      clear hbl
      go_upto_region 4 with fail
      go_region_held3 (fun w' => Below wr.heap.size wr w' ∧ w'.cell? ⟨b, off + k * 4, none⟩ = some (.int .i64 f.kind) ∧ w'.cell? ⟨b, off + k * 4 + 1, none⟩ = some (.int .i64 f.num) ∧
          w'.cell? ⟨b, off + k * 4 + 2, none⟩ = some (.string f.text) ∧ w'.cell? ⟨b, off + k * 4 + 3, none⟩ = some (.bool f.is))
        (first | exact ⟨⟨rfl, rfl, rfl, Nat.le_refl _, fun _ _ => rfl⟩, h1, h2, h3, h4⟩ | (go_split_ands; refine keepF Hbl.out ?_ hb; refine ⟨?_, ?_, ?_, ?_, ?_⟩ <;> assumption))
        (first
          | (go_at_call 8; refine (fit_any f _).mono ?_; rintro e w1 ⟨rfl, hb⟩)
          | (go_at_call 9; refine (rfit_any f _).mono ?_; rintro e w1 ⟨rfl, hb⟩)
          | (go_at_call 10; refine (Size_any f hokf.out htxf.out _).mono ?_; rintro e w1 ⟨rfl, hb⟩)
          | (go_at_call 11; refine (rSize_any f hokf.out htxf.out _).mono ?_; rintro e w1 ⟨rfl, hb⟩))
      rename_i gS
      have HB2 := Lib.hid (HB.out.trans (gS.1.mono HB.out.size))
      clear gS h1 h2 h3 h4
      go_wp2
      go_roundw
      case rel => exact ⟨k + 1, by omega, by go_num, HB2.out⟩
      case measure => simp [intOf]; omega
    · obtain rfl : k = L := by omega
      have HS6 := Lib.hid (show SlF wr.drew (.slice a fs.length cap) fs from HS.out.below ⟨HB.out.os, HB.out.tape, HB.out.output, HB.out.size, HB.out.block⟩)
      clear HS hl
      go_upto_region 6 with fail
      go_region_with (first
        | (go_at_call 12; refine (Fields_any _ fs _ (by have := HS6.out; rwa [HL.out] at this) HOK.out HLEN.out HTX.out).mono ?_; rintro e w1 ⟨v1, rfl, ho1, hb1⟩; have hc1 := convF ho1; have HO1 := Lib.hid ho1; have HB1 := Lib.hid hb1; clear ho1 hb1)
        | (go_at_call 13; refine (rFields_any _ fs _ (by have := HS6.out.below HB1.out; rwa [HL.out] at this) HOK.out HLEN.out HTX.out).mono ?_; rintro e w2 ⟨v2, rfl, ho2, hb2⟩; have hc2 := convF ho2; have hc1' := convF (HO1.out.below hb2); have HB2 := Lib.hid hb2; clear ho2 hb2)
        | (go_at_call 14; refine (awake_any _).mono ?_; rintro e w3 ⟨rfl, hb3⟩; have HB3 := Lib.hid hb3; clear hb3))
      all_goals
        have q1 : Below wr.heap.size wr w1 := ⟨HB1.out.os, HB1.out.tape, HB1.out.output, HB1.out.size, HB1.out.block⟩
        have q2 := q1.trans (HB2.out.mono q1.size)
        have q3 := q2.trans (HB3.out.mono q2.size)
        have HE := Lib.hid (HB.out.trans (q3.mono HB.out.size))
        clear q1 q2 q3 hc1 hc2 hc1' HB1 HB2 HB3 HO1 HB HS6
        go_wp2
        go_ret
        exact ⟨rfl, HE.out⟩

theorem own : ownKnob Try.prog.godebug = none := by kernel_rfl
theorem laidOut : laidOutB Try.prog = true := by kernel_rfl

set_option maxRecDepth 100000 in
theorem liftedWrites (os : Os) (started : os.Started) (H : Type) (enc : TypeId × Value → H) (F : Stop.Interp) :
    ReturnsInHanded {} Try.checked os 3 .any ((Rows.OpenSpec.upto Rows.codeWritesSpec).pre6 enc Try.prog Try.f3 Rows.codeWritesUptoRow.domain false) (((Rows.OpenSpec.upto Rows.codeWritesSpec).at F).post enc Try.prog Try.f3 false true false false) := by
  refine lawUpto (C := Try.checked) (s := Rows.codeWritesSpec) own started (by kernel_rfl) Try.func3
    (OpenSpec.witness (enc := enc) (C := Try.checked) (s := Rows.OpenSpec.upto Rows.codeWritesSpec) (k := Rows.uptoSmall) rfl false ⟨#[], #[.slice none 0 0], []⟩ 8 (by kernel_rfl) (by kernel_rfl) (by kernel_rfl)
      (x := ([.nil], [], [])) (by kernel_rfl) rfl (by kernel_rfl)) laidOut (by kernel_rfl) 4 Try.underlying4 (by kernel_rfl) rfl ?_ ?_
  · intro ds hd
    match ds, hd with
    | [_], _ => rfl
  · intro W base args ds ps hg hb
    have hA : DataW.TrodAll enc Try.prog W 0 (fun _ => true) true Try.f3.params.toList args.toList ds ps := hg.read
    have hval : ∀ (j : Nat) t v, Try.f3.params[j]? = some t → args[j]? = some v → Value.okWide Try.prog W .any base t v := hg.ok
    rw [Try.params3] at hA hval
    obtain ⟨v0, vs0, d0, ds0, p0, q0, hargs, rfl, rfl, h0, r0⟩ := trodAll_cons hA
    obtain ⟨rfl, rfl, rfl⟩ := trodAll_nil r0
    obtain rfl : args = #[v0] := by cases args; simp_all
    obtain ⟨fs, hs, hok, hbulk⟩ := fields_open (hval 0 22 v0 rfl rfl) h0
    simp only [Rows.uptoBulkAll] at hb
    have h1 := bulk_bytes fs
    exact walkWrites v0 fs W hs hok (by omega) (fun f hf => by have := bulk_mem hf; omega)

theorem writes_holds : Rows.CodeWritesUptoSaid :=
  OpenClaim.holds_of_cond 3 Try.f3 rfl rfl rfl rfl rfl rfl rfl ⟨rfl, rfl, rfl, rfl, rfl⟩ rfl rfl rfl rfl rfl (by kernel_rfl) Try.func3 (by kernel_rfl)
    (of_decide_eq_true (by kernel_rfl)) (by unfold Func.isWrapper; first | (rw [if_pos (by decide +kernel)]; kernel_rfl) | (rw [if_neg (by decide +kernel)]; exact ⟨rfl, rfl⟩))
    (fun os started H enc _ F => liftedWrites os started H enc F)

#print axioms writes_holds
end Go.Proofs.Ytgjfijognplfpaa.lawsW
