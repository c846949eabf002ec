/- The reader takes a text of a key. -/
import Derived.Test.YtfpfgckakppllaaRows
import Derived.Test.YtfpfgckakppllaaCodeRField
import Derived.Test.YtfpfgckakppllaaCodeReadL
import Derived.Test.YtfpfgckakppllaaCodePut
import Derived.Deep.LoopGhost
import Derived.WalkMore
namespace Go.Proofs.Ytfpfgckakppllaa.code
open Go.RowKit
open Go.Proofs.Ytfpfgckakppllaa.kit Go.Proofs.Ytfpfgckakppllaa.cm
set_option linter.unusedVariables false

/-- A text of a key, up to its end. -/
def rKT : List Nat → List Nat → Except Int (List Nat × List Nat)
  | _, [] => .error 11
  | acc, [c] => .error 11
  | acc, c :: d :: r => if c = 0 then (if d = 1 then .ok (acc, r) else if d = 255 then rKT (acc ++ [0]) r else .error 10) else rKT (acc ++ [c]) (d :: r)
  termination_by _ bs => bs.length
def rKeyText (bs : List Nat) : Except Int (List Nat × List Nat) := rKT [] bs

theorem rKT_step (acc : List Nat) (c : Nat) (r : List Nat) (hc : c ≠ 0) : rKT acc (c :: r) = rKT (acc ++ [c]) r := by
  cases r with
  | nil => rw [rKT, rKT]
  | cons d r => rw [rKT, if_neg hc]

theorem grown_below {N rb : Nat} {W a b : World} (hN : W.heap.size = N) (hg : W.grownBy a (some rb)) (hb : Below N a b) : W.grownBy b (some rb) :=
  ⟨hb.os.trans hg.os, hb.tape.trans hg.tape, hb.output.trans hg.output, Nat.le_trans hg.size hb.size, fun k hk hne => (hb.block k (by omega)).trans (hg.block k hk hne)⟩
theorem own_over {N rb e : Nat} {kd : IntKind} {a b : World} {v : Value} {ns : List Nat} (h : OwnI a N e kd v ns) (hg : a.grownBy b (some rb)) (hrb : rb < N) : OwnI b N e kd v ns := by
  refine World.ownsRow.kept h hg ?_
  rcases h.2 with ⟨rfl, _⟩ | ⟨g, cap, cur, rfl, hB, _⟩
  · exact .inl rfl
  · refine .inr fun e => ?_
    have e' : g = rb := by simpa [Value.ownBlock] using e
    omega

set_option maxHeartbeats 4000000 in
set_option maxRecDepth 100000 in
theorem keyText_any {L : Nat} (rb : Nat) (bs : List Nat) (W : World) (h : Rest L W rb bs) (hL : L ≤ W.heap.size) :
    Calls Try.prog 35 #[.pointer (some ⟨rb, 0, none⟩)] W (RdP L (fun l : List Nat => .string (tx l)) [] W rb (rKeyText bs)) := by
  have hrl : rb < W.heap.size := by obtain ⟨_, v, hv, _⟩ := h; exact box_lt hv
  have HBig := Lib.hid (show bs.length ≤ 140737488351232 by obtain ⟨_, v, _, hs⟩ := h; exact hs.1)
  have HR := Lib.hid h; have HL := Lib.hid hL; have HRL := Lib.hid hrl
  clear h hL hrl
  go_enter Try.func35, Try.ntmps35
  obtain ⟨N, hN⟩ : ∃ N, W.heap.size = N := ⟨_, rfl⟩
  have HN := Lib.hid hN
  go_wp2
  go_step3
  go_wp2
  go_step3
  go_wp2
  go_loopg [4] bs.length (fun n s wr => ∃ acc r : List Nat, n = r.length ∧ OwnI wr N 5 .u8 s acc ∧ Rest L wr rb r ∧ rKT acc r = rKT [] bs ∧ acc.length + r.length ≤ bs.length ∧ W.grownBy wr (some rb))
  case atStart => exact ⟨[], bs, rfl, OwnI.nil _ _ _ _, HR.out, rfl, by simp, World.grownBy.refl _ _⟩
  case round =>
    obtain ⟨acc, r, rfl, ho, hr, he, hlen, hg⟩ := hrel
    have HO := Lib.hid ho; have HRs := Lib.hid hr; have HE := Lib.hid he; have HG := Lib.hid hg
    clear ho hr he hg
    have hW := HG.out.size
    cases r with
    | nil =>
      go_wp2_with (go_at_call 47; refine (one_any rb _ _ HRs.out).mono ?_; rintro e w1 ⟨rfl, _, hg1⟩; have HG1 := Lib.hid hg1; clear hg1)
      rw [Exit.noGoto_ret]
      go_ret2
      have e1 : rKeyText bs = .error 11 := by rw [rKeyText, ← HE.out, rKT]
      rw [e1]
      exact ⟨rfl, by decide, HG.out.trans HG1.out⟩
    | cons c r =>
      have hc8 : c < 256 := HRs.out.1 c (by simp)
      by_cases hc : c = 0
      · subst hc
        cases r with
        | nil =>
          go_wp2_with fail
          refine (one_any rb _ _ HRs.out).mono ?_
          rintro e w1 ⟨rfl, hr1, hg1⟩
          have HG1 := Lib.hid (HG.out.trans hg1); have HR1 := Lib.hid hr1
          clear hg1 hr1
          go_wp2_with fail
          refine (one_any rb _ _ HR1.out).mono ?_
          rintro e w2 ⟨rfl, _, hg2⟩
          have HG2 := Lib.hid (HG1.out.trans hg2)
          clear hg2
          go_wp2
          rw [Exit.noGoto_ret]
          go_ret2
          have e1 : rKeyText bs = .error 11 := by rw [rKeyText, ← HE.out, rKT]
          rw [e1]
          exact ⟨rfl, by decide, HG2.out⟩
        | cons d r =>
          have hd8 : d < 256 := HRs.out.1 d (by simp)
          go_wp2_with fail
          refine (one_any rb _ _ HRs.out).mono ?_
          rintro e w1 ⟨rfl, hr1, hg1⟩
          have HO1 := Lib.hid (own_over HO.out hg1 (by have := HRL.out; omega))
          have HG1 := Lib.hid (HG.out.trans hg1); have HR1 := Lib.hid hr1
          clear hg1 hr1
          go_wp2_with fail
          refine (one_any rb _ _ HR1.out).mono ?_
          rintro e w2 ⟨rfl, hr2, hg2⟩
          have HO2 := Lib.hid (own_over HO1.out hg2 (by have := HRL.out; omega))
          have HG2 := Lib.hid (HG1.out.trans hg2); have HR2 := Lib.hid hr2
          clear hg2 hr2
          have hsz2 : N ≤ w2.heap.size := by have := HG2.out.size; omega
          by_cases h1 : d = 1
          · subst h1
            have hcv := conv_bytes (P := Try.prog) 24 5 9 Try.underlying24 Try.underlying5 Try.underlying9 HO2.out.read
            go_wp2
            rw [Exit.noGoto_ret]
            go_ret2
            have e1 : rKeyText bs = .ok (acc, r) := by rw [rKeyText, ← HE.out, rKT, if_pos rfl, if_pos rfl]
            rw [e1]
            exact ⟨rfl, HR2.out, HG2.out⟩
          · by_cases h2 : d = 255
            · subst h2
              go_wp2_with (at_builtin; refine app1K rfl (.tmp 34) (.tmp 35) 24 rfl N 5 .u8 1 Try.underlying24 infoByte _ acc rfl HO2.out 0 0 rfl _ rfl rfl ?_ ?_ hsz2 ?_)
              case refine_1 => unfold maxLen; have := HBig.out; simp at hlen; omega
              case refine_2 => have := HBig.out; simp at hlen; omega
              intro v' w3 ho3 hk3
              have HO3 := Lib.hid ho3; have HG3 := Lib.hid (grown_below HN.out HG2.out hk3.toBelow)
              have HR3 := Lib.hid (HR2.out.below' hk3.toBelow (by have := HL.out; omega) (by have := HRL.out; omega))
              clear ho3 hk3
              go_wp2
              go_roundg r.length
              case rel => exact ⟨acc ++ [0], r, rfl, HO3.out, HR3.out, by rw [← HE.out, rKT, if_pos rfl, if_neg (by decide), if_pos rfl], by simp at hlen ⊢; omega, HG3.out⟩
              case measure => simp only [List.length_cons]; omega
            · have b1 : True → ((d : Int) == 1) = false := fun _ => by simp; omega
              have b2 : True → ((d : Int) == 255) = false := fun _ => by simp; omega
              have b3 : True → decide ((d : Int) = 1) = false := fun _ => by simp; omega
              have b4 : True → decide ((d : Int) = 255) = false := fun _ => by simp; omega
              go_wp2
              rw [Exit.noGoto_ret]
              go_ret2
              have e1 : rKeyText bs = .error 10 := by rw [rKeyText, ← HE.out, rKT, if_pos rfl, if_neg h1, if_neg h2]
              rw [e1]
              exact ⟨rfl, by decide, HG2.out⟩
      · have hb : True → ((c : Int) != 0) = true := fun _ => by simp; omega
        have hd : True → decide ((c : Int) = 0) = false := fun _ => by simp; omega
        go_wp2_with fail
        refine (one_any rb _ _ HRs.out).mono ?_
        rintro e w1 ⟨rfl, hr1, hg1⟩
        have HO1 := Lib.hid (own_over HO.out hg1 (by have := HRL.out; omega))
        have HG1 := Lib.hid (HG.out.trans hg1); have HR1 := Lib.hid hr1
        clear hg1 hr1
        have hsz1 : N ≤ w1.heap.size := by have := HG1.out.size; omega
        go_wp2_with (at_builtin; refine app1K rfl (.tmp 17) (.tmp 19) 24 rfl N 5 .u8 1 Try.underlying24 infoByte _ acc rfl HO1.out c c rfl _ rfl rfl ?_ ?_ hsz1 ?_)
        case refine_1 => unfold maxLen; have := HBig.out; simp at hlen; omega
        case refine_2 => have := HBig.out; simp at hlen; omega
        intro v' w2 ho2 hk2
        have HO2 := Lib.hid ho2; have HG2 := Lib.hid (grown_below HN.out HG1.out hk2.toBelow)
        have HR2 := Lib.hid (HR1.out.below' hk2.toBelow (by have := HL.out; omega) (by have := HRL.out; omega))
        clear ho2 hk2
        go_wp2
        go_roundg r.length
        case rel => exact ⟨acc ++ [c], r, rfl, HO2.out, HR2.out, by rw [← HE.out, rKT_step acc c r hc], by simp at hlen ⊢; omega, HG2.out⟩
        case measure => simp only [List.length_cons]; omega

end Go.Proofs.Ytfpfgckakppllaa.code
