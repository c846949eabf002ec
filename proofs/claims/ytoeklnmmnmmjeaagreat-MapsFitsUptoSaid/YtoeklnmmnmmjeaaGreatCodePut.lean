/- A number laid behind bytes of the call's own. -/
import Derived.Test.YtoeklnmmnmmjeaaGreatRows
import Derived.Test.YtoeklnmmnmmjeaaGreatCodeNum
import Derived.Test.YtoeklnmmnmmjeaaGreatCodeFit
import Derived.Laws.AppendOwn
import Derived.Lib.AppendStr
import Derived.Deep.WholeRow
namespace Go.Proofs.YtoeklnmmnmmjeaaGreat.code
open Go.RowKit
open Go.Proofs.YtoeklnmmnmmjeaaGreat.kit Go.Proofs.YtoeklnmmnmmjeaaGreat.cm
set_option linter.unusedVariables false

theorem infoByte : (Tryz.prog.info? 5).map (fun i => (i.zero, i.size, i.bytes)) = some (some (.int .u8 0), 1, 1) := by kernel_rfl

theorem elemSize : ∀ w, (sizeOf 5).run Tryz.prog w = .ok 1 w := fun w => by
  have h : (Tryz.prog.info? 5).map (·.size) = some 1 := by kernel_rfl
  cases hq : Tryz.prog.info? 5 with
  | none => simp [hq] at h
  | some i => simp [sizeOf, typeInfo, hq] at h ⊢; exact h
theorem slice10 (n M : Nat) (hM : M ≤ 10) (w : World) : (Instr.sliceAt 242 (.pointer (some ⟨n, 0, none⟩)) none (some (.int .i64 (M : Int))) none).run Tryz.prog w = .ok (.slice (some ⟨n, 0, none⟩) M 10) w := by
  have hl : Tryz.prog.arrayLen 242 = 10 := by kernel_rfl
  have he : Tryz.prog.elem 242 = 5 := by kernel_rfl
  rw [run_sliceAt_array_h w 242 ⟨n, 0, none⟩ (by kernel_rfl) .i64 (M : Int) (by omega) (by rw [hl]; omega), he, elemSize, hl]
  simp [slicedAt, Addr.add, Result.andThen]

/-- What a function that lays bytes ns' behind a row of the call's own says. -/
def Lays (w : World) (B : Nat) (ns : List Nat) (e : Ending) (w' : World) : Prop := (∃ v', e = .returned v' ∧ OwnI w' B 5 .u8 v' ns) ∧ Kept B 5 w w'

set_option maxHeartbeats 4000000 in
set_option maxRecDepth 100000 in
theorem putNumber_any (x : Nat) (hx : x < 18446744073709551616) (B : Nat) (v : Value) (ns : List Nat) (w : World) (hown : OwnI w B 5 .u8 v ns) (hB : B ≤ w.heap.size) (hlen : ns.length ≤ 1000000000000) :
    Calls Tryz.prog 156 #[v, .int .u64 x] w (Lays w B (ns ++ numB x)) := by
  have hm := numB_len x
  have hm0 := numB_pos x
  have hp := pack_any x hx w
  have hw := width_any x hx
  have HN := Lib.hid (rfl : numB x = numB x)
  generalize hM : (numB x).length = M at hm hm0 hp hw
  have HM := Lib.hid hM
  clear hx hM
  go_enter Tryz.func156, Tryz.ntmps156
  go_wp2_with fail
  refine hp.mono ?_
  rintro e w1 ⟨⟨a, ha, rfl⟩, hb1⟩
  have HA := Lib.hid ha
  have HB1 := Lib.hid hb1
  clear hp ha hb1
  have hst := run_storeCells_new (P := Tryz.prog) w1 242 zeros10 (arr10 a) infoPacked rfl (arr10_one a)
  unfold zeros10 at hst
  have hsz : (arr10 a).size = 10 := rfl
  have HC := Lib.hid (range_of_row (World.rowIs_alloc w1 (arr10 a) 242 (fun j => .int .u8 (a j : Nat)) (fun i hi => by simp [arr10] at hi ⊢; exact ⟨i, by simp [hi], rfl⟩)))
  rw [hsz] at HC
  generalize arr10 a = A at hst hsz HC ⊢
  go_wp2_with fail
  refine (hw _).mono ?_
  rintro e w2 ⟨rfl, rfl⟩
  have HH := Lib.hid hown; have HB := Lib.hid hB
  clear hw hst hown hB
  have hsl := slice10 w1.heap.size M hm
  go_wp2_with (at_builtin; refine appN rfl (.tmp 8) (.tmp 11) 79 rfl B 5 .u8 1 Tryz.underlying79 infoByte v ns rfl ?_ w1.heap.size 0 M 10 (numB x) HM.out rfl ?_ ?_ ?_ ?_ ?_)
  case refine_1 => exact HH.out.below (HB1.out.alloc HB1.out.size _)
  case refine_2 =>
    intro j hj
    rw [Nat.zero_add]
    have h := HC.out j (.int .u8 (a j : Nat)) (by rw [List.getElem?_map, List.getElem?_range (by omega)]; rfl)
    rw [Nat.zero_add] at h
    rw [h, ← HA.out]
    simp [List.getD, hj]
  case refine_3 => unfold maxLen; omega
  case refine_4 => omega
  case refine_5 => have := HB.out; have := HB1.out.size; rw [World.size_alloc]; omega
  case refine_6 =>
    intro v' w' ho hk
    have HO := Lib.hid ho; have HK := Lib.hid hk
    clear ho hk hsl
    go_wp2
    go_ret
    exact ⟨⟨v', rfl, HO.out⟩, (Kept.of_below HB.out (HB1.out.alloc HB1.out.size _)).trans HK.out⟩

set_option maxHeartbeats 4000000 in
set_option maxRecDepth 100000 in
theorem putLow_any (x : Nat) (hx : x < 4294967296) (B : Nat) (v : Value) (ns : List Nat) (w : World) (hown : OwnI w B 5 .u8 v ns) (hB : B ≤ w.heap.size) (hlen : ns.length ≤ 1000000000000) :
    Calls Tryz.prog 158 #[v, .int .i64 x] w (Lays w B (ns ++ lowB x)) := by
  have HH := Lib.hid hown; have HB := Lib.hid hB
  clear hown hB
  go_enter Tryz.func158, Tryz.ntmps158
  go_wp2
  refine wp_loop_rounds 5 ?_
  rw [rounds_succ]; go_wp2
  rw [rounds_succ]; go_wp2
  rw [rounds_succ]; go_wp2
  rw [rounds_succ]; go_wp2
  rw [rounds_succ]
  go_wp2_with (at_builtin; refine appN rfl (.tmp 18) (.tmp 19) 79 rfl B 5 .u8 1 Tryz.underlying79 infoByte v ns rfl (HH.out.below ((Below.refl _ _).alloc (Nat.le_refl _) _)) w.heap.size 0 4 4 (lowB x) rfl rfl ?_ ?_ ?_ ?_ ?_)
  case refine_1 =>
    intro j hj
    rw [World.cell?_alloc_at _ _ _ _ rfl]
    match j, hj with
    | 0, _ => simp [lowB]
    | 1, _ => simp [lowB]
    | 2, _ => simp [lowB]
    | 3, _ => simp [lowB, Nat.mod_eq_of_lt (show x / 16777216 < 256 by omega)]
  case refine_2 => unfold maxLen; omega
  case refine_3 => omega
  case refine_4 => have := HB.out; rw [World.size_alloc]; omega
  case refine_5 =>
    intro v' w' ho hk
    have HO := Lib.hid ho; have HK := Lib.hid hk
    clear ho hk
    go_wp2
    go_ret
    exact ⟨⟨v', rfl, HO.out⟩, (Kept.of_below HB.out ((Below.refl _ _).alloc (Nat.le_refl _) _)).trans HK.out⟩

/-- Of the text s its first k bytes are laid. -/
def escK (s : ByteArray) (k : Nat) : List Nat := escN ((txtN s).take k)
theorem escN_append : ∀ (a b : List Nat), escN (a ++ b) = escN a ++ escN b
  | [], _ => rfl
  | c :: a, b => by rw [List.cons_append, escN, escN, escN_append a b, List.append_assoc]
theorem escN_len : ∀ (a : List Nat), (escN a).length ≤ 2 * a.length
  | [] => by simp [escN]
  | c :: a => by
    have := escN_len a
    rw [escN, List.length_append, List.length_cons]
    split <;> simp <;> omega
theorem txtN_len (s : ByteArray) : (txtN s).length = s.size := by simp [txtN]
theorem escK_step (s : ByteArray) (k : Nat) (hk : k < s.size) : escK s (k + 1) = escK s k ++ (if s[k].toNat = 0 then [0, 255] else [s[k].toNat]) := by
  unfold escK
  have h : k < (txtN s).length := by rw [txtN_len]; exact hk
  rw [List.take_succ_eq_append_getElem h, escN_append]
  congr 1
  have e : (txtN s)[k] = s[k].toNat := by simp [txtN]; rfl
  rw [e, escN, escN, List.append_nil]
theorem escK_len (s : ByteArray) (k : Nat) : (escK s k).length ≤ 2 * k := by
  have h1 := escN_len ((txtN s).take k)
  have h2 := List.length_take_le k (txtN s)
  unfold escK; omega
theorem escK_all (s : ByteArray) : escK s s.size = escN (txtN s) := by
  unfold escK; rw [List.take_of_length_le (by rw [txtN_len]; exact Nat.le_refl _)]

end Go.Proofs.YtoeklnmmnmmjeaaGreat.code
