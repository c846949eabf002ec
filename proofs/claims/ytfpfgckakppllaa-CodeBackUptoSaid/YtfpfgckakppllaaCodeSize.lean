/- 'Fields', and the size of a field. -/
import Derived.Test.YtfpfgckakppllaaRows
import Derived.Test.YtfpfgckakppllaaCodePick
import Derived.Test.YtfpfgckakppllaaCodeWrite
import Derived.IntWalk
import Derived.BigQuiet
namespace Go.Proofs.Ytfpfgckakppllaa.code
open Go.RowKit
open Go.Proofs.Ytfpfgckakppllaa.kit Go.Proofs.Ytfpfgckakppllaa.cm
set_option linter.unusedVariables false

theorem own_len {W : World} {B e : Nat} {k : IntKind} {a : Option Addr} {n c : Nat} {ns : List Nat} (h : OwnI W B e k (.slice a n c) ns) : n = ns.length := by
  rcases h.2 with ⟨h1, h2⟩ | ⟨g, cap, cur, h1, _⟩
  · cases h1; simpa using h2.symm
  · cases h1; simp

set_option maxHeartbeats 4000000 in
set_option maxRecDepth 100000 in
theorem Fields_any (sl : Value) (fs : List Fld) (w : World) (hs : SlF w sl fs) (hok : ∀ f ∈ fs, f.Ok) (hlen : (fs.flatMap Fld.bytes).length ≤ 800000000000) (htx : ∀ f ∈ fs, f.text.size ≤ 100000000000) :
    Calls Try.prog 5 #[sl] w fun e w' => ∃ v, e = .returned v ∧ OwnI w' w.heap.size 5 .u8 v (bytesL fs) ∧ Below w.heap.size w w' := by
  go_enter Try.func5, Try.ntmps5
  go_wp2_with fail
  refine (write_putField sl fs w hs hok hlen htx).mono ?_
  rintro e w1 ⟨v, rfl, ho, hb⟩
  have HO := Lib.hid ho; have HB := Lib.hid hb
  clear ho hb
  go_wp2
  go_ret
  exact ⟨_, rfl, HO.out, HB.out⟩

theorem boxed4 {w w1 : World} {k n : Int} {t : ByteArray} {b : Bool} {T : TypeId} (hb : Below (w.alloc (Obj.cells #[Value.int .i64 k, Value.int .i64 n, Value.string t, Value.bool b] T)).heap.size (w.alloc (Obj.cells #[Value.int .i64 k, Value.int .i64 n, Value.string t, Value.bool b] T)) w1) :
    w1.cell? ⟨w.heap.size, 0, none⟩ = some (.int .i64 k) ∧ w1.cell? ⟨w.heap.size, 1, none⟩ = some (.int .i64 n) ∧ w1.cell? ⟨w.heap.size, 2, none⟩ = some (.string t) ∧ w1.cell? ⟨w.heap.size, 3, none⟩ = some (.bool b) ∧ Below w.heap.size w w1 := by
  have h := (hb.block w.heap.size (by simp)).trans (heap_alloc_last w (Obj.cells #[Value.int .i64 k, Value.int .i64 n, Value.string t, Value.bool b] T))
  have hb' := ((Below.refl w.heap.size w).alloc (Nat.le_refl _) (Obj.cells #[Value.int .i64 k, Value.int .i64 n, Value.string t, Value.bool b] T)).trans (hb.mono (by simp))
  refine ⟨?_, ?_, ?_, ?_, hb'⟩ <;> (simp only [World.cell?, h]; rfl)

theorem width_q (x : Nat) (hx : x < 18446744073709551616) (w : World) : Calls Try.prog 22 #[.int .u64 x] w fun e w' => e = .returned (.int .i64 ((numB x).length : Nat)) ∧ w' = w :=
  (width_any x hx w).mono fun _ _ h => ⟨h.1, h.2.symm⟩

theorem size_eq (f : Fld) (hf : f.fit = true) : (bytesL [f]).length = f.bytes.length := by simp [bytesL, fits, hf]

set_option maxHeartbeats 4000000 in
set_option maxRecDepth 100000 in
theorem Size_any (f : Fld) (hok : f.Ok) (ht : f.text.size ≤ 100000000000) (w : World) :
    Calls Try.prog 12 #[f.val] w fun e w' => e = .returned (.int .i64 (bytesL [f]).length) ∧ Below w.heap.size w w' := by
  by_cases hfit : f.fit = true
  · have hsz := size_eq f hfit
    obtain ⟨k, n, t, b⟩ := f
    obtain ⟨k0, k1, n0, n1, htm⟩ := hok
    simp only at k0 k1 n0 n1 ht htm
    have HF := Lib.hid hfit
    simp only [Fld.fit] at hfit
    unfold Fld.val
    by_cases h1 : k = 1
    · subst h1
      simp at hfit
      obtain ⟨x, rfl⟩ : ∃ x : Nat, n = x := ⟨n.toNat, by omega⟩
      have hw : True → IntKind.u64.wrap (x : Int) = (x : Int) := fun _ => wrap_nat x (by omega)
      have HX := Lib.hid (show x < 18446744073709551616 by omega)
      have HS := Lib.hid hsz
      clear n0 n1 hfit k0 k1 hsz ht htm
      go_enter Try.func12, Try.ntmps12
      go_wp2_with fail
      refine (fit_any ⟨1, x, t, b⟩ _).mono ?_
      rintro e w1 ⟨rfl, hb⟩
      rw [HF.out]
      obtain ⟨c0, c1, c2, c3, hb⟩ := boxed4 hb
      have HB := Lib.hid hb
      clear hb
      go_wp2_with fail
      refine (width_any x HX.out w1).mono ?_
      rintro e w2 ⟨rfl, rfl⟩
      go_wp2
      go_ret
      exact ⟨by rw [HS.out]; rfl, HB.out⟩
    by_cases h2 : k = 2
    · subst h2
      have HN0 := Lib.hid n0; have HN1 := Lib.hid n1
      have HS := Lib.hid hsz
      clear n0 n1 hfit k0 k1 hsz ht htm h1
      go_enter Try.func12, Try.ntmps12
      go_wp2_with fail
      refine (fit_any ⟨2, n, t, b⟩ _).mono ?_
      rintro e w1 ⟨rfl, hb⟩
      rw [HF.out]
      obtain ⟨c0, c1, c2, c3, hb⟩ := boxed4 hb
      have HB := Lib.hid hb
      clear hb
      go_wp2_with fail
      refine (fold_any n HN0.out HN1.out w1).mono ?_
      rintro e w2 ⟨rfl, rfl⟩
      go_wp2_with fail
      refine (width_any (zig n) (zig_lt n HN0.out HN1.out) w1).mono ?_
      rintro e w2 ⟨rfl, rfl⟩
      go_wp2
      go_ret
      exact ⟨by rw [HS.out]; rfl, HB.out⟩
    by_cases h3 : k = 3
    · subst h3
      have HS := Lib.hid hsz
      clear n0 n1 hfit k0 k1 hsz ht htm h1 h2
      go_enter Try.func12, Try.ntmps12
      go_wp2_with fail
      refine (fit_any ⟨3, n, t, b⟩ _).mono ?_
      rintro e w1 ⟨rfl, hb⟩
      rw [HF.out]
      obtain ⟨c0, c1, c2, c3, hb⟩ := boxed4 hb
      have HB := Lib.hid hb
      clear hb
      go_wp2
      go_ret
      exact ⟨by rw [HS.out]; rfl, HB.out⟩
    by_cases h4 : k = 4
    · subst h4
      have HS := Lib.hid hsz
      have hw : True → IntKind.u64.wrap (t.size : Int) = (t.size : Int) := fun _ => wrap_nat t.size (by omega)
      have HT := Lib.hid (show t.size < 18446744073709551616 by omega)
      have hnb := numB_len t.size
      obtain ⟨M, hM⟩ : ∃ M, (numB t.size).length = M := ⟨_, rfl⟩
      rw [hM] at hnb
      have HT2 := Lib.hid ht
      have HM := Lib.hid hM
      clear n0 n1 hfit k0 k1 hsz htm h1 h2 h3 hM ht
      go_enter Try.func12, Try.ntmps12
      go_wp2_with fail
      refine (fit_any ⟨4, n, t, b⟩ _).mono ?_
      rintro e w1 ⟨rfl, hb⟩
      rw [HF.out]
      obtain ⟨c0, c1, c2, c3, hb⟩ := boxed4 hb
      have HB := Lib.hid hb
      clear hb
      go_wp2_with fail
      go_quiet ((go_at_call 22; exact Calls.quiet_of_same (width_q t.size HT.out _)))
      go_wp2
      go_ret
      refine ⟨?_, ?_⟩
      · rw [HS.out]
        refine ret_int ?_
        have ht := HT2.out
        have e : (Fld.mk 4 n t b).bytes.length = M + t.size := by simp [Fld.bytes, txtN, HM.out]
        show wrap64 (((numB t.size).length : Nat) + (t.size : Int)) = _
        rw [HM.out, e]
        unfold wrap64
        omega
      · exact HB.out.drewN' nq
    have h5 : k = 5 := by
      rcases Decidable.em (k = 5) with h | h
      · exact h
      · simp [h1, h2, h3, h4, h] at hfit
    subst h5
    have HS := Lib.hid hsz
    clear n0 n1 hfit k0 k1 hsz ht htm h1 h2 h3 h4
    go_enter Try.func12, Try.ntmps12
    go_wp2_with fail
    refine (fit_any ⟨5, n, t, b⟩ _).mono ?_
    rintro e w1 ⟨rfl, hb⟩
    rw [HF.out]
    obtain ⟨c0, c1, c2, c3, hb⟩ := boxed4 hb
    have HB := Lib.hid hb
    clear hb
    go_wp2
    go_ret
    exact ⟨by rw [HS.out]; rfl, HB.out⟩
  · have h0 : (bytesL [f]).length = 0 := by simp [bytesL, fits, hfit]
    rw [h0]
    obtain ⟨k, n, t, b⟩ := f
    have HF := Lib.hid (show (Fld.mk k n t b).fit = false by simpa using hfit)
    clear hok ht h0 hfit
    unfold Fld.val
    go_enter Try.func12, Try.ntmps12
    go_wp2_with fail
    refine (fit_any ⟨k, n, t, b⟩ _).mono ?_
    rintro e w1 ⟨rfl, hb⟩
    rw [HF.out]
    have HB := Lib.hid (((Below.refl w.heap.size w).alloc (Nat.le_refl _) (Obj.cells #[Value.int IntKind.i64 k, Value.int IntKind.i64 n, Value.string t, Value.bool b] 37)).trans (hb.mono (by simp)))
    clear hb
    go_wp2
    go_ret
    exact ⟨rfl, HB.out⟩

end Go.Proofs.Ytfpfgckakppllaa.code
