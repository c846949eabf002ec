/- A fit field laid behind bytes of the call's own, as bytes and as a part of a key. -/
import Derived.Test.YtoeklnmmnmmjeaaGreatRows
import Derived.Test.YtoeklnmmnmmjeaaGreatCodePut
import Derived.Deep.RegionLaw
import Derived.Deep.WholeRow
import Derived.Lib.AppendStr
namespace Go.Proofs.YtoeklnmmnmmjeaaGreat.code
open Go.RowKit
open Go.Proofs.YtoeklnmmnmmjeaaGreat.kit Go.Proofs.YtoeklnmmnmmjeaaGreat.cm
set_option linter.unusedVariables false

theorem strCells_txt (s : ByteArray) : Lib.strCells s = (txtN s).map fun n : Nat => Value.int .u8 (n : Int) := by
  unfold Lib.strCells txtN
  rw [List.map_map]; rfl

/-- 'append(v, s...)' of a text, as one step of a region that draws. -/
theorem step_app_str {P : Program} {ops : Array Oper} {o : Oper} {a : Act} {w : World} {K : Act → World → Prop} {Q : Exit → Act → World → Prop} {E : Prop}
    (hg : o.guard = none) (s x : Operand) (t u : TypeId) (hop : o.op = Op.call { callee := Callee.builtin Builtin.append, args := #[s, x], argTypes := #[t, u] })
    (B e : Nat) (ht : P.underlying t = some (.slice e)) (hu : P.underlying u = some .string) (hi : (P.info? e).map (fun i => (i.zero, i.size, i.bytes)) = some (some (.int .u8 0), 1, 1))
    (v : Value) (ns : List Nat) (hs : a.eval s = v) (hown : OwnI w B e .u8 v ns) (str : ByteArray) (hx : a.eval x = .string str)
    (h63 : ns.length + str.size ≤ maxLen) (hb : ns.length + str.size ≤ 140737488355328) (hB : B ≤ w.heap.size)
    (hK : ∀ v' w', OwnI w' B e .u8 v' (ns ++ txtN str) → Kept B e w w' → K (a.put o.dst v') w') :
    if Region.wanted o (yielded ops a.tmps) = true then Oper.wp P o a w K Q else E := by
  have hw : Region.wanted o (yielded ops a.tmps) = true := by simp [Region.wanted, hg]
  rw [if_pos hw]
  obtain ⟨i0, hi, hz0, hz1, hz2⟩ := info_parts hi
  obtain ⟨v', w', hr, h2, h3, h4⟩ := Lib.run_append_own_string (P := P) w B t u o.type e i0 ht hu hi hz0 hz1 hz2 v ns.length (ns.map fun n : Nat => Value.int .u8 (n : Int)) hown str h63 hb hB
  unfold Oper.wp
  simp [execOp, hop, resolve, invoke, builtin, hs, hx, hr, Result.andThen]
  refine hK v' w' ?_ (Kept.grown hB hown h3)
  unfold OwnI
  rw [strCells_txt] at h2
  rw [List.length_append, txtN_len, List.map_append]
  exact h2

theorem wrap_nat (x : Nat) (hx : x < 18446744073709551616) : IntKind.u64.wrap (x : Int) = (x : Int) := by
  rw [wrap_u64']; omega

set_option maxHeartbeats 4000000 in
set_option maxRecDepth 100000 in
theorem putField_any (f : Fld) (hf : f.Ok) (hfit : f.fit = true) (hs : f.text.size ≤ 100000000000) (B : Nat) (v : Value) (ns : List Nat) (w : World) (hown : OwnI w B 5 .u8 v ns) (hB : B ≤ w.heap.size) (hlen : ns.length ≤ 900000000000) :
    Calls Tryz.prog 118 #[v, f.val] w (Lays w B (ns ++ f.bytes)) := by
  obtain ⟨k, n, t, b⟩ := f
  obtain ⟨k0, k1, n0, n1, ht⟩ := hf
  have hbel : Below w.heap.size w (w.alloc (.cells #[.int .i64 k, .int .i64 n, .string t, .bool b] 86)) := (Below.refl _ _).alloc (Nat.le_refl _) _
  have hk0 := Kept.of_below (e := 5) hB hbel
  have HO := Lib.hid (hown.below hbel)
  have HB := Lib.hid hB
  have HS := Lib.hid (Nat.le_trans hB hbel.size)
  have HK := Lib.hid hk0
  clear hown hB hbel hk0
  simp only [Fld.fit] at hfit
  simp only at k0 k1 n0 n1 ht hs
  unfold Fld.val Fld.bytes
  simp only
  by_cases h1 : k = 1
  · subst h1
    simp at hfit
    obtain ⟨x, rfl⟩ : ∃ x : Nat, n = x := ⟨n.toNat, by omega⟩
    have hw : True → IntKind.u64.wrap (x : Int) = (x : Int) := fun _ => wrap_nat x (by omega)
    have HX := Lib.hid (show x < 18446744073709551616 by omega)
    clear n0 n1 hfit k0 k1
    go_enter Tryz.func118, Tryz.ntmps118
    go_wp2_with fail
    refine (putNumber_any x HX.out B v ns _ HO.out HS.out (by omega)).mono ?_
    rintro e w1 ⟨⟨v', rfl, ho⟩, hk⟩
    have HO1 := Lib.hid ho; have HK1 := Lib.hid (HK.out.trans hk)
    clear ho hk
    go_wp2
    go_ret
    exact ⟨⟨v', rfl, by simpa using HO1.out⟩, HK1.out⟩
  by_cases h2 : k = 2
  · subst h2
    have HN0 := Lib.hid n0; have HN1 := Lib.hid n1
    clear n0 n1 hfit k0 k1 h1
    go_enter Tryz.func118, Tryz.ntmps118
    go_wp2_with fail
    refine (fold_any n HN0.out HN1.out _).mono ?_
    rintro e w1 ⟨rfl, rfl⟩
    go_wp2_with fail
    refine (putNumber_any (zig n) (zig_lt n HN0.out HN1.out) B v ns _ HO.out HS.out (by omega)).mono ?_
    rintro e w1 ⟨⟨v', rfl, ho⟩, hk⟩
    have HO1 := Lib.hid ho; have HK1 := Lib.hid (HK.out.trans hk)
    clear ho hk
    go_wp2
    go_ret
    exact ⟨⟨v', rfl, by simpa using HO1.out⟩, HK1.out⟩
  by_cases h3 : k = 3
  · subst h3
    simp at hfit
    obtain ⟨x, rfl⟩ : ∃ x : Nat, n = x := ⟨n.toNat, by omega⟩
    have HX := Lib.hid (show x < 4294967296 by omega)
    clear n0 n1 hfit k0 k1 h1 h2
    go_enter Tryz.func118, Tryz.ntmps118
    go_wp2_with fail
    refine (putLow_any x HX.out B v ns _ HO.out HS.out (by omega)).mono ?_
    rintro e w1 ⟨⟨v', rfl, ho⟩, hk⟩
    have HO1 := Lib.hid ho; have HK1 := Lib.hid (HK.out.trans hk)
    clear ho hk
    go_wp2
    go_ret
    exact ⟨⟨v', rfl, by simpa using HO1.out⟩, HK1.out⟩
  by_cases h4 : k = 4
  · subst h4
    clear n0 n1 hfit k0 k1 h1 h2 h3
    have hw : True → IntKind.u64.wrap (t.size : Int) = (t.size : Int) := fun _ => wrap_nat t.size (by omega)
    go_enter Tryz.func118, Tryz.ntmps118
    go_wp2_with fail
    have hc0 : (w.alloc (.cells #[.int .i64 4, .int .i64 n, .string t, .bool b] 86)).heap[w.heap.size]? = some (.cells #[.int .i64 4, .int .i64 n, .string t, .bool b] 86 (0, 0)) := heap_alloc_last _ _
    have HC := Lib.hid hc0
    clear hc0
    have HT := Lib.hid (show t.size < 18446744073709551616 by omega)
    have HL := Lib.hid (show ns.length ≤ 1000000000000 by omega)
    go_region_law (first
      | (go_simp; go_at_call 156; refine (putNumber_any t.size HT.out B v ns _ ?_ ?_ HL.out).mono ?_; exact HO.out; exact HS.out; rintro e w1 ⟨⟨v1, rfl, ho1⟩, hk1⟩; have HO1 := Lib.hid ho1; have HK1 := Lib.hid hk1; have hc1 : w1.cell? ⟨w.heap.size, 2, none⟩ = some (.string t) := Kept.boxCell hk1 (show (86 : Nat) ≠ 5 by decide) HC.out 2; clear ho1 hk1)
      | (refine step_app_str rfl (.tmp 34) (.tmp 36) 79 9 rfl B 5 Tryz.underlying79 Tryz.underlying9 infoByte v1 _ rfl HO1.out t rfl (by rw [List.length_append]; have := numB_len t.size; unfold maxLen; omega) (by rw [List.length_append]; have := numB_len t.size; omega) (Nat.le_trans HS.out HK1.out.size) ?_; intro v2 w2 ho2 hk2; have HO2 := Lib.hid ho2; have HK2 := Lib.hid hk2; clear ho2 hk2))
    all_goals
      go_wp2
      go_ret
      exact ⟨⟨v2, rfl, by rw [← List.append_assoc]; exact HO2.out⟩, (HK.out.drew.trans HK1.out).trans HK2.out⟩
  have h5 : k = 5 := by
    rcases Decidable.em (k = 5) with h | h
    · exact h
    · simp [h1, h2, h3, h4, h] at hfit
  subst h5
  clear n0 n1 hfit k0 k1 h1 h2 h3 h4
  go_enter Tryz.func118, Tryz.ntmps118
  go_wp2_with fail
  refine (flag_any b _).mono ?_
  rintro e w1 ⟨rfl, rfl⟩
  go_wp2_with (at_builtin; refine app1K rfl (.tmp 38) (.tmp 42) 79 rfl B 5 .u8 1 Tryz.underlying79 infoByte v ns rfl HO.out (flagN b) _ rfl (w.heap.size + 1) (by simp) rfl ?_ ?_ HS.out ?_)
  case refine_1 => unfold maxLen; omega
  case refine_2 => omega
  intro v1 w1 ho hk
  have HO1 := Lib.hid ho; have HK1 := Lib.hid (HK.out.trans hk)
  clear ho hk
  go_wp2
  go_ret
  exact ⟨⟨v1, rfl, by simpa [flagB] using HO1.out⟩, HK1.out⟩

theorem sign_eq (n : Int) (h0 : -9223372036854775808 ≤ n) (h1 : n ≤ 9223372036854775807) : bits BinOp.xor IntKind.u64 (IntKind.u64.wrap n) 9223372036854775808 = (((n + 9223372036854775808).toNat : Nat) : Int) := by
  rw [wrap_u64']
  obtain ⟨x, hx⟩ : ∃ x : Nat, (x : Int) = n % 18446744073709551616 := ⟨(n % 18446744073709551616).toNat, by omega⟩
  rw [← hx]
  have eN := u64_xor_nat x 9223372036854775808 (by omega) (by omega)
  have key : x ^^^ 9223372036854775808 = (n + 9223372036854775808).toNat := by
    by_cases hn : 0 ≤ n
    · have hlt : x < 9223372036854775808 := by omega
      have e : x ^^^ 9223372036854775808 = x + 9223372036854775808 := by
        have h := Nat.two_pow_add_eq_or_of_lt (i := 63) (b := x) (by simpa using hlt) 1
        have h2 : x ^^^ 2 ^ 63 = 2 ^ 63 ||| x := by
          apply Nat.eq_of_testBit_eq
          intro i
          rw [Nat.testBit_xor, Nat.testBit_or, Nat.testBit_two_pow]
          by_cases hi : 63 = i
          · subst hi
            rw [Nat.testBit_lt_two_pow (by simpa using hlt)]; simp
          · simp [hi]
        rw [show (9223372036854775808 : Nat) = 2 ^ 63 from rfl, h2]
        simp at h ⊢
        omega
      rw [e]; omega
    · obtain ⟨y, hy⟩ : ∃ y : Nat, x = y + 9223372036854775808 := ⟨x - 9223372036854775808, by omega⟩
      have hlt : y < 9223372036854775808 := by omega
      have e : x ^^^ 9223372036854775808 = y := by
        have h2 : y ^^^ 2 ^ 63 = 2 ^ 63 + y := by
          have h := Nat.two_pow_add_eq_or_of_lt (i := 63) (b := y) (by simpa using hlt) 1
          have h2 : y ^^^ 2 ^ 63 = 2 ^ 63 ||| y := by
            apply Nat.eq_of_testBit_eq
            intro i
            rw [Nat.testBit_xor, Nat.testBit_or, Nat.testBit_two_pow]
            by_cases hi : 63 = i
            · subst hi
              rw [Nat.testBit_lt_two_pow (by simpa using hlt)]; simp
            · simp [hi]
          simp at h h2 ⊢
          omega
        have h3 : x = y ^^^ 2 ^ 63 := by rw [h2]; simp; omega
        rw [h3, show (9223372036854775808 : Nat) = 2 ^ 63 from rfl, Nat.xor_assoc, Nat.xor_self, Nat.xor_zero]
      rw [e]; omega
  rw [key] at eN
  exact eN

end Go.Proofs.YtoeklnmmnmmjeaaGreat.code
