/- The document's Values. -/
import Derived.Test.YtmdipcemhaomhaaRows
import Derived.Test.YtmdipcemhaomhaaAccRAcc
namespace Go.Proofs.Ytmdipcemhaomhaa.crush
open Go.RowKit
open Go.Proofs.Ytmdipcemhaomhaa.kit Go.Proofs.Ytmdipcemhaomhaa.own
set_option linter.unusedVariables false
set_option linter.unusedSimpArgs false

/-- At most so many of the texts from a place on. -/
def valL (l : List ByteArray) (f most : Int) : List ByteArray := (fromL l f).take most.toNat
/-- The box of the document's Values, and the row that is laid out. -/
structure VaB (w : World) (N : Nat) (a : AccV) (s : Value) (out : List ByteArray) (vo : Value) (W : World) : Prop where
  hN : N = w.heap.size
  bel : Below w.heap.size w W
  one : ABox W N a.pr a.pm a.has a.ar a.am a.val s
  own : Own tx 1 9 W (N + 1) vo out
theorem VaB.grow {w : World} {N : Nat} {a : AccV} {s : Value} {out out' : List ByteArray} {vo vo' : Value} {W W' : World} (h : VaB w N a s out vo W) (ho : Own tx 1 9 W' (N + 1) vo' out') (hk : Kept (N + 1) 9 W W') : VaB w N a s out' vo' W' :=
  ⟨h.hN, h.bel.trans (hk.toBelow.mono (by have := h.hN; omega)), (hk.below N (Nat.lt_succ_self _)).trans h.one, ho⟩

set_option maxHeartbeats 16000000 in
set_option maxRecDepth 100000 in
theorem rValues_any (v : Value) (a : AccV) (f most : Int) (w : World) (h : AccR w v a) (hl : a.com.length * 16 ≤ 140737488355328) : Calls Try.prog 21 #[v, .int .i64 f, .int .i64 most] w (RowS tx 1 9 w (valL a.com f most)) := by
  obtain ⟨s, rfl, hs⟩ := h
  have HSl := Lib.hid (fun u (hu : Below w.heap.size w u) => hs.keep hu)
  obtain ⟨x, y, rfl⟩ := hs.slice
  have hv : VaB w w.heap.size a (.slice x a.com.length y) [] (.slice none 0 0) (w.alloc (.cells #[.int .i64 a.pr, .int .i64 a.pm, .bool a.has, .int .i64 a.ar, .int .i64 a.am, .string a.val, .slice x a.com.length y] 26)) := ⟨rfl, below_new w _, abox_new w _ _ _ _ _ _ _, Own.nil _ _ _⟩
  have HV := Lib.hid hv
  unfold AccV.agg
  by_cases hf : f < 0
  · have hnil : valL a.com f most = [] := by unfold valL fromL; rw [if_pos hf]; simp
    rw [hnil]
    clear hs hv hl
    go_enter Try.func21, Try.ntmps21
    go_wp2
    go_ret
    exact ⟨_, rfl, Own.nil _ _ _, HV.out.bel⟩
  · obtain ⟨d, rfl⟩ : ∃ d : Nat, f = d := ⟨f.toNat, by omega⟩
    have hval : valL a.com d most = (a.com.drop d).take most.toNat := by unfold valL; rw [fromL_some]
    rw [hval]
    obtain ⟨L, hL⟩ : ∃ L, a.com.length = L := ⟨_, rfl⟩
    have HLn := Lib.hid hL
    have HD : Hid ((a.com.drop d).length = L - d) := Lib.hid (by rw [List.length_drop, hL])
    have HLm : Hid (L * 16 ≤ 140737488355328) := Lib.hid (by rw [← hL]; exact hl)
    rw [hL] at HSl HV ⊢
    clear hs hv hl hL hval
    go_enter Try.func21, Try.ntmps21
    go_upto_region 1 with fail
    generalize w.alloc _ = W0 at HV ⊢
    obtain ⟨N, hN⟩ : ∃ N, w.heap.size = N := ⟨_, rfl⟩
    have HN := Lib.hid hN
    rw [hN] at HV ⊢
    clear hN
    go_wp2
    go_loopw [7, 8] (fun v7 v8 wr => ∃ (k : Nat) (p : Option Addr) (c : Nat), k ≤ L - d ∧ (k = 0 ∨ (k : Int) ≤ most) ∧ v7 = .slice p k c ∧ v8 = .int .i64 ((d : Int) + k) ∧ Hid (VaB w N a (.slice x L y) ((a.com.drop d).take k) (.slice p k c) wr)) (fun _ v8 _ => L - (intOf v8).toNat)
    case atStart => exact ⟨0, none, 0, by omega, .inl rfl, rfl, by simp, by simpa using HV⟩
    case round =>
      obtain ⟨k, p, c, hk, hkm, rfl, rfl, HA⟩ := hrel
      obtain ⟨c0, c1, c2, c3, c4, c5, c6⟩ := HA.out.one.cells
      by_cases hlt : (d : Int) + k < L
      · by_cases hm : (k : Int) < most
        · have hi : d + k < a.com.length := by rw [HLn.out]; omega
          have hk2 : k < (a.com.drop d).length := by rw [HD.out]; omega
          obtain ⟨_, a', cap', he, -, hcell⟩ := HSl.out wr HA.out.bel
          rw [HLn.out] at he
          cases he
          obtain ⟨b, off, rfl, hbl, hcell⟩ := hcell (by omega)
          have d1 := tcell_at (hcell (d + k) hi)
          rw [Nat.mul_one] at d1
          have hx2 : (a.com.drop d)[k] = a.com[d + k] := by simp
          have htk : (a.com.drop d).take (k + 1) = (a.com.drop d).take k ++ [(a.com.drop d)[k]] := List.take_succ_eq_append_getElem hk2
          rw [hx2] at htk
          obtain ⟨z, hz⟩ : ∃ z, a.com[d + k] = z := ⟨_, rfl⟩
          rw [hz] at d1 htk
          have HTk := Lib.hid htk
          have HOl : Hid (((a.com.drop d).take k).length = k) := Lib.hid (by rw [List.length_take]; omega)
          have HKl : Hid (k < L) := Lib.hid (by omega)
          have hdk : True → ((d : Int) + k).toNat = d + k := fun _ => by omega
          have hdk0 : 0 ≤ (d : Int) + k := by omega
          clear hcell hbl hx2 hz htk hi hk2
          have HL9 : Hid (((a.com.drop d).take (k + 1)).length = k + 1) := Lib.hid (by rw [HTk.out, List.length_append, HOl.out]; rfl)
          go_upto_region 6 with (at_builtin; refine appSl tx_len tx_one (by decide) rfl _ _ 24 rfl (N + 1) 9 _ (by rfl) 16 Try.underlying24 infoTxt _ ((a.com.drop d).take k) rfl (HA.out.own.below (below_new wr (.cells #[.string z] 9))) _ [z] rfl (sl_new tx_len wr z 9 _ rfl) (by have := HOl.out; have := HLm.out; have := HKl.out; unfold maxLen; simp; omega) (by have := HOl.out; have := HLm.out; have := HKl.out; simp; omega) (by have := HA.out.one.lt; simp; omega) ?_; intro v9 w9 ho9 hk9; rw [← HTk.out] at ho9; obtain ⟨p9, c9, hv9⟩ := ho9.slice; rw [HL9.out] at hv9; subst hv9; have HA9 := Lib.hid (HA.out.grow ho9 ((Kept.of_below (by have := HA.out.one.lt; omega) (below_new wr (.cells #[.string z] 9))).trans hk9)); clear ho9 hk9 d1 c0 c1 c2 c3 c4 c5 c6)
          go_wp2
          go_roundw
          case rel =>
            have h8 : RowKit.wrap64 ((d : Int) + k + 1) = (d : Int) + k + 1 := IntWalk.wrap64_in _ (by have h9 := HLm.out; omega)
            refine ⟨k + 1, p9, c9, by omega, .inr (by omega), rfl, ?_, HA9⟩
            rw [h8]
            congr 1
          case measure =>
            have h8 : RowKit.wrap64 ((d : Int) + k + 1) = (d : Int) + k + 1 := IntWalk.wrap64_in _ (by have h9 := HLm.out; omega)
            rw [h8]
            simp only [intOf]
            omega
        · have hend : ((a.com.drop d).take k) = (a.com.drop d).take most.toNat := by
            rcases hkm with rfl | hkm
            · have : most.toNat = 0 := by omega
              rw [this]
            · have : most.toNat = k := by omega
              rw [this]
          have HEnd := Lib.hid hend
          clear hend
          go_wp2
          go_ret
          exact ⟨_, rfl, by rw [← HEnd.out]; exact HA.out.own.mono (by rw [HN.out]; omega), HA.out.bel⟩
      · have hend : ((a.com.drop d).take k) = (a.com.drop d).take most.toNat := by
          have hle : (a.com.drop d).length ≤ k := by rw [HD.out]; omega
          rw [List.take_of_length_le hle]
          rcases hkm with rfl | hkm
          · have : (a.com.drop d) = [] := List.eq_nil_of_length_eq_zero (by omega)
            rw [this]; simp
          · rw [List.take_of_length_le (by omega)]
        have HEnd := Lib.hid hend
        clear hend
        go_wp2
        go_ret
        exact ⟨_, rfl, by rw [← HEnd.out]; exact HA.out.own.mono (by rw [HN.out]; omega), HA.out.bel⟩
end Go.Proofs.Ytmdipcemhaomhaa.crush
