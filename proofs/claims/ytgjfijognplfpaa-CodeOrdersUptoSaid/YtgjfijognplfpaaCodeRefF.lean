/- The document's own fields as bytes; sizes. -/
import Derived.Test.YtgjfijognplfpaaRows
import Derived.Test.YtgjfijognplfpaaCodeRef
import Derived.Test.YtgjfijognplfpaaCodeKey
import Derived.BigQuiet
namespace Go.Proofs.Ytgjfijognplfpaa.code
open Go.RowKit
open Go.Proofs.Ytgjfijognplfpaa.kit Go.Proofs.Ytgjfijognplfpaa.cm
set_option linter.unusedVariables false

/-- 'append(v, s...)' of a text. -/
theorem app_str {P : Program} {wr : World} {ops : Array Oper} {rest : List Oper} {o : Oper} {a : Act} {Q : Exit → Act → World → Prop} (hgd : o.guard = none) (s x : Operand) (t u : TypeId)
    (ho : o.op = .call { callee := .builtin .append, args := #[s, x], argTypes := #[t, u] })
    (B e : Nat) (ht : P.underlying t = some (.slice e)) (hu : P.underlying u = some .string) (hi : (P.info? e).map (fun i => (i.zero, i.size, i.bytes)) = some (some (.int .u8 0), 1, 1))
    (v : Value) (ns : List Nat) (hs : a.eval s = v) (hown : OwnI wr B e .u8 v ns) (str : ByteArray) (hx : a.eval x = .string str)
    (h63 : ns.length + str.size ≤ maxLen) (hb : ns.length + str.size ≤ 140737488355328) (hB : B ≤ wr.heap.size)
    (h : ∀ v' w', OwnI w' B e .u8 v' (ns ++ txtN str) → Kept B e wr w' → wpList P ops Q rest (a.put o.dst v') w') : wpList P ops Q (o :: rest) a wr := by
  obtain ⟨i0, hi, hz0, hz1, hz2⟩ := info_parts hi
  refine Lib.wpList_append_own_string wr hgd s x t u ho B e i0 ht hu hi hz0 hz1 hz2 v ns.length (ns.map fun n : Nat => Value.int .u8 (n : Int)) hs hown str hx h63 hb hB ?_
  intro v' w' h2 h3 _
  refine h v' w' ?_ (Kept.grown hB hown h3)
  unfold OwnI
  rw [strCells_txt] at h2
  rw [List.length_append, txtN_len, List.map_append]
  exact h2

set_option maxHeartbeats 4000000 in
set_option maxRecDepth 100000 in
theorem rone_any (f : Fld) (hf : f.Ok) (hfit : f.fit = true) (hs : f.text.size ≤ 100000000000) (B : Nat) (v : Value) (ns : List Nat) (w : World) (hown : OwnI w B 5 .u8 v ns) (hB : B ≤ w.heap.size) (hlen : ns.length ≤ 900000000000) :
    Calls Try.prog 31 #[v, f.val] w (Lays w B (ns ++ f.bytes)) := by
  obtain ⟨k, n, t, b⟩ := f
  obtain ⟨k0, k1, n0, n1, ht⟩ := hf
  have hbel : Below w.heap.size w (w.alloc (.cells #[.int .i64 k, .int .i64 n, .string t, .bool b] 25)) := (Below.refl _ _).alloc (Nat.le_refl _) _
  have hk0 := Kept.of_below (e := 5) hB hbel
  have hc0 := heap_alloc_last w (.cells #[.int .i64 k, .int .i64 n, .string t, .bool b] 25)
  have HO := Lib.hid (hown.below hbel)
  have HB := Lib.hid hB
  have HS := Lib.hid (Nat.le_trans hB hbel.size)
  have HK := Lib.hid hk0
  have HC := Lib.hid hc0
  clear hown hB hbel hk0 hc0
  simp only [Fld.fit] at hfit
  simp only at k0 k1 n0 n1 ht hs
  unfold Fld.val Fld.bytes
  simp only
  by_cases h1 : k = 1
  · subst h1
    simp at hfit
    obtain ⟨x, rfl⟩ : ∃ x : Nat, n = x := ⟨n.toNat, by omega⟩
    have hw : True → IntKind.u64.wrap (x : Int) = (x : Int) := fun _ => wrap_nat x (by omega)
    have HX := Lib.hid (show x < 18446744073709551616 by omega)
    clear n0 n1 hfit k0 k1
    go_enter Try.func31, Try.ntmps31
    go_wp2_with fail
    refine (rnumber_any x HX.out B v ns _ HO.out HS.out (by omega)).mono ?_
    rintro e w1 ⟨⟨v', rfl, ho⟩, hk⟩
    have HO1 := Lib.hid ho; have HK1 := Lib.hid (HK.out.trans hk)
    clear ho hk
    go_wp2
    go_ret
    exact ⟨⟨v', rfl, by simpa using HO1.out⟩, HK1.out⟩
  by_cases h2 : k = 2
  · subst h2
    have HN0 := Lib.hid n0; have HN1 := Lib.hid n1
    clear n0 n1 hfit k0 k1 h1
    go_enter Try.func31, Try.ntmps31
    go_wp2_with fail
    refine (rzig_any n HN0.out HN1.out _).mono ?_
    rintro e w1 ⟨rfl, rfl⟩
    go_wp2_with fail
    refine (rnumber_any (zig n) (zig_lt n HN0.out HN1.out) B v ns _ HO.out HS.out (by omega)).mono ?_
    rintro e w1 ⟨⟨v', rfl, ho⟩, hk⟩
    have HO1 := Lib.hid ho; have HK1 := Lib.hid (HK.out.trans hk)
    clear ho hk
    go_wp2
    go_ret
    exact ⟨⟨v', rfl, by simpa using HO1.out⟩, HK1.out⟩
  by_cases h3 : k = 3
  · subst h3
    simp at hfit
    obtain ⟨x, rfl⟩ : ∃ x : Nat, n = x := ⟨n.toNat, by omega⟩
    have HX := Lib.hid (show x < 4294967296 by omega)
    have hx := HX.out
    clear n0 n1 hfit k0 k1 h1 h2
    go_enter Try.func31, Try.ntmps31
    go_wp2_with (at_builtin; refine appN rfl (.tmp 23) (.tmp 39) 27 rfl B 5 .u8 1 Try.underlying27 infoByte v ns rfl (HO.out.below ((Below.refl _ _).alloc (Nat.le_refl _) _)) (w.heap.size + 1) 0 4 4 (lowB x) rfl rfl ?_ ?_ ?_ ?_ ?_)
    case refine_1 =>
      intro j hj
      rw [World.cell?_alloc_at _ _ _ _ (by simp)]
      match j, hj with
      | 0, _ => simp [lowB]
      | 1, _ => simp [lowB]
      | 2, _ => simp [lowB]
      | 3, _ => simp [lowB, Nat.mod_eq_of_lt (show x / 16777216 < 256 by omega)]
    case refine_2 => unfold maxLen; omega
    case refine_3 => omega
    case refine_4 => have := HS.out; rw [World.size_alloc]; omega
    intro v' w' ho hk
    have HO1 := Lib.hid ho; have HK1 := Lib.hid (HK.out.trans ((Kept.of_below HS.out ((Below.refl _ _).alloc (Nat.le_refl _) _)).trans hk))
    clear ho hk
    go_wp2
    go_ret
    exact ⟨⟨v', rfl, by simpa using HO1.out⟩, HK1.out⟩
  by_cases h4 : k = 4
  · subst h4
    have hw : True → IntKind.u64.wrap (t.size : Int) = (t.size : Int) := fun _ => wrap_nat t.size (by omega)
    have HT := Lib.hid (show t.size < 18446744073709551616 by omega)
    have HL := Lib.hid (show ns.length ≤ 1000000000000 by omega)
    have hnb := numB_len t.size
    clear n0 n1 hfit k0 k1 h1 h2 h3
    go_enter Try.func31, Try.ntmps31
    go_wp2_with fail
    refine (rnumber_any t.size HT.out B v ns _ HO.out HS.out HL.out).mono ?_
    rintro e w1 ⟨⟨v1, rfl, ho1⟩, hk1⟩
    have hc1 : w1.cell? ⟨w.heap.size, 2, none⟩ = some (.string t) := Kept.boxCell hk1 (show (25 : Nat) ≠ 5 by decide) HC.out 2
    have hsz1 : B ≤ w1.heap.size := Nat.le_trans HS.out hk1.size
    have HO1 := Lib.hid ho1; have HK1 := Lib.hid (HK.out.trans hk1)
    clear ho1 hk1
    go_wp2_with (at_builtin; refine app_str rfl (.tmp 49) (.tmp 51) 27 9 rfl B 5 Try.underlying27 Try.underlying9 infoByte v1 _ rfl HO1.out t rfl ?_ ?_ hsz1 ?_)
    case refine_1 => rw [List.length_append]; unfold maxLen; omega
    case refine_2 => rw [List.length_append]; omega
    intro v2 w2 ho2 hk2
    have HO2 := Lib.hid ho2; have HK2 := Lib.hid (HK1.out.trans hk2)
    clear ho2 hk2
    go_wp2
    go_ret
    exact ⟨⟨v2, rfl, HO2.out⟩, HK2.out⟩
  have h5 : k = 5 := by
    rcases Decidable.em (k = 5) with h | h
    · exact h
    · simp [h1, h2, h3, h4, h] at hfit
  subst h5
  clear n0 n1 hfit k0 k1 h1 h2 h3 h4
  cases b with
  | true =>
    go_enter Try.func31, Try.ntmps31
    go_wp2_with (at_builtin; refine app1K rfl (.tmp 55) (.tmp 56) 27 rfl B 5 .u8 1 Try.underlying27 infoByte v ns rfl HO.out 1 1 (by decide) (w.heap.size + 1) (by simp) rfl ?_ ?_ HS.out ?_)
    case refine_1 => unfold maxLen; omega
    case refine_2 => omega
    intro v1 w1 ho hk
    have HO1 := Lib.hid ho; have HK1 := Lib.hid (HK.out.trans hk)
    clear ho hk
    go_wp2
    go_ret
    exact ⟨⟨v1, rfl, by simpa [flagB, flagN] using HO1.out⟩, HK1.out⟩
  | false =>
    go_enter Try.func31, Try.ntmps31
    go_wp2_with (at_builtin; refine app1K rfl (.tmp 58) (.tmp 59) 27 rfl B 5 .u8 1 Try.underlying27 infoByte v ns rfl HO.out 0 0 (by decide) (w.heap.size + 1) (by simp) rfl ?_ ?_ HS.out ?_)
    case refine_1 => unfold maxLen; omega
    case refine_2 => omega
    intro v1 w1 ho hk
    have HO1 := Lib.hid ho; have HK1 := Lib.hid (HK.out.trans hk)
    clear ho hk
    go_wp2
    go_ret
    exact ⟨⟨v1, rfl, by simpa [flagB, flagN] using HO1.out⟩, HK1.out⟩

end Go.Proofs.Ytgjfijognplfpaa.code
