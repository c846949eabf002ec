/- The walks of the mixes of 64 bits. -/
import Derived.Test.YtakcmdkhgaampaaRows
import Derived.Test.YtakcmdkhgaampaaHashLen
import Derived.Test.YtakcmdkhgaampaaKit
import Derived.OpenShut
import Derived.Laws.BitsAllLaws
import Derived.WalkSpells
namespace Go.Proofs.Ytakcmdkhgaampaa.hash6
open Go.RowKit
open Go.Proofs.Ytakcmdkhgaampaa.kit
set_option linter.unusedVariables false

def mixB (h b : Nat) : Nat := ((h ^^^ b) * 1099511628211) % 18446744073709551616
def mixT (h : Nat) (s : List UInt8) : Nat := s.foldl (fun h c => mixB h c.toNat) h
/-- r bytes of x, the lowest first. -/
def mixW : Nat → Nat → Nat → Nat
  | 0, h, _ => h
  | r + 1, h, x => mixW r (mixB h (x % 256)) (x / 256)
def mixL (h : Nat) (l : List Nat) : Nat := l.foldl (fun h x => mixW 8 h x) h
def fin64 (h : Nat) : Nat := h ^^^ h / 4294967296
/-- Below 2 to the 64. -/
def U64 (h : Nat) : Prop := h < 18446744073709551616

theorem u0 : U64 14695981039346656037 := by unfold U64; decide
theorem mixB_lt (h b : Nat) : U64 (mixB h b) := Nat.mod_lt _ (by decide)
theorem mixW_lt : ∀ r h x, U64 h → U64 (mixW r h x)
  | 0, h, x, hh => hh
  | r + 1, h, x, _ => mixW_lt r _ _ (mixB_lt _ _)
theorem mixT_lt : ∀ s h, U64 h → U64 (mixT h s)
  | [], h, hh => hh
  | c :: s, h, _ => mixT_lt s _ (mixB_lt _ _)
theorem mixL_lt : ∀ l h, U64 h → U64 (mixL h l)
  | [], h, hh => hh
  | c :: s, h, hh => mixL_lt s _ (mixW_lt 8 _ _ hh)

theorem xor_u64 (h b : Nat) (hh : U64 h) (hb : U64 b) : bits BinOp.xor IntKind.u64 (h : Int) (b : Int) = ((h ^^^ b : Nat) : Int) := u64_xor_nat h b hh hb
theorem U64.byte {b : Nat} (h : b < 256) : U64 b := by unfold U64; omega
theorem wrap_mul (q : Nat) : IntKind.u64.wrap ((q : Int) * 1099511628211) = (((q * 1099511628211) % 18446744073709551616 : Nat) : Int) := by
  simp [IntKind.wrap, IntKind.bits, IntKind.signed]

theorem mixByte_any (h b : Nat) (hh : U64 h) (hb : b < 256) (w : World) :
    Calls Try.prog 29 #[.int .u64 h, .int .u64 1099511628211, .int .u8 b] w fun e w' => e = .returned (.int .u64 (mixB h b)) ∧ w = w' := by
  have e : True → bits BinOp.xor IntKind.u64 (h : Int) (b : Int) = ((h ^^^ b : Nat) : Int) := fun _ => xor_u64 h b hh (.byte hb)
  have HM := Lib.hid (show mixB h b = ((h ^^^ b) * 1099511628211) % 18446744073709551616 from rfl)
  generalize mixB h b = m at HM
  generalize h ^^^ b = q at e HM
  have ew : True → IntKind.u64.wrap ((q : Int) * 1099511628211) = (m : Int) := fun _ => by rw [HM.out]; exact wrap_mul q
  clear HM
  go_enter Try.func29, Try.ntmps29
  go_wp2
  go_ret
  exact ⟨rfl, rfl⟩

theorem finish_any (h : Nat) (hh : U64 h) (w : World) :
    Calls Try.prog 23 #[.int .u64 h] w fun e w' => e = .returned (.int .u64 (fin64 h)) ∧ w = w' := by
  have e : True → bits BinOp.xor IntKind.u64 (h : Int) ((h : Int) / 4294967296) = ((fin64 h : Nat) : Int) := fun _ => by
    have := xor_u64 h (h / 4294967296) hh (by unfold U64 at *; omega)
    simp only [Int.natCast_ediv, Int.cast_ofNat_Int] at this
    rw [this]; rfl
  generalize fin64 h = f at e
  go_enter Try.func23, Try.ntmps23
  go_wp2
  go_ret
  exact ⟨rfl, rfl⟩

/-- Behind k bytes, what is still to be mixed in of the text s, out of h, comes to T. -/
def Txt (s : ByteArray) (T k h : Nat) : Prop := k ≤ s.size ∧ U64 h ∧ mixT h (s.data.toList.drop k) = T
theorem Txt.step {s : ByteArray} {T k h : Nat} (a : Txt s T k h) (hk : k < s.size) : Txt s T (k + 1) (mixB h s[k].toNat) := by
  refine ⟨by omega, mixB_lt _ _, ?_⟩
  have := a.2.2
  rw [List.drop_eq_getElem_cons (by simpa using hk)] at this
  exact this
theorem Txt.fin {s : ByteArray} {T k h : Nat} (a : Txt s T k h) (hk : ¬ k < s.size) : h = T := by
  have := a.2.2
  rw [List.drop_of_length_le (by simp; omega)] at this
  exact this

set_option maxRecDepth 100000 in
theorem mixText_any (h : Nat) (hh : U64 h) (s : ByteArray) (hs : s.size ≤ maxLen) (w : World) :
    Calls Try.prog 24 #[.int .u64 h, .int .u64 1099511628211, .string s] w fun e w' => e = .returned (.int .u64 (mixT h s.data.toList)) ∧ w = w' := by
  unfold maxLen at hs
  have HS := Lib.hid (show Txt s (mixT h s.data.toList) 0 h from ⟨by omega, hh, by simp⟩)
  generalize mixT h s.data.toList = T at HS
  clear hh
  go_enter Try.func24, Try.ntmps24
  go_wp2
  go_loop [10, 0] (fun vi vh => ∃ k h : Nat, Txt s T k h ∧ vi = .int .i64 k ∧ vh = .int .u64 h) (fun i _ => s.size - (intOf i).toNat)
  case atStart => exact ⟨0, h, HS.out, rfl, rfl⟩
  case round =>
    obtain ⟨k, h, ht, rfl, rfl⟩ := hrel
    have hk := ht.1
    have hh := ht.2.1
    by_cases hlt : k < s.size
    · have HN := Lib.hid (ht.step hlt)
      have hb : s[k].toNat < 256 := s[k].toNat_lt
      clear ht
      go_wp2_with (go_at_call 29; refine (mixByte_any _ _ hh hb _).mono ?_; rintro e w' ⟨rfl, rfl⟩)
      go_round
      case rel => exact ⟨k + 1, _, HN.out, by go_num, rfl⟩
      case measure => simp [intOf]; omega
    · have HF := Lib.hid (ht.fin hlt)
      clear ht
      go_wp2
      go_ret
      exact ⟨ret_int (by rw [HF.out]), rfl⟩

theorem digest_any (s : ByteArray) (hs : s.size ≤ maxLen) (w : World) :
    Calls Try.prog 11 #[.string s] w fun e w' => e = .returned (.int .u64 (fin64 (mixT 14695981039346656037 s.data.toList))) ∧ w = w' := by
  have ht := mixT_lt s.data.toList 14695981039346656037 u0
  go_enter Try.func11, Try.ntmps11
  go_wp2_with fail
  refine (mixText_any 14695981039346656037 u0 s hs _).mono ?_
  rintro e w' ⟨rfl, rfl⟩
  go_wp2_with fail
  refine (finish_any _ ht _).mono ?_
  rintro e w' ⟨rfl, rfl⟩
  go_wp2
  go_ret
  exact ⟨rfl, rfl⟩

/-- Behind k words, what is still to be mixed in of the list, out of h, comes to T. -/
def Lst (ns : List Nat) (T k h : Nat) : Prop := k ≤ ns.length ∧ U64 h ∧ mixL h (ns.drop k) = T
theorem Lst.step {ns : List Nat} {T k h : Nat} (a : Lst ns T k h) (hk : k < ns.length) : Lst ns T (k + 1) (mixW 8 h (ns.getD k 0)) := by
  refine ⟨by omega, mixW_lt _ _ _ a.2.1, ?_⟩
  have := a.2.2
  rw [drop_getD ns 0 k hk] at this
  exact this
theorem Lst.fin {ns : List Nat} {T k h : Nat} (a : Lst ns T k h) (hk : ¬ k < ns.length) : h = T := by
  have := a.2.2
  rw [List.drop_of_length_le (by omega)] at this
  exact this
/-- Behind j bytes of a word: what is still to come. -/
def Wrd (T j h x : Nat) : Prop := j ≤ 8 ∧ U64 h ∧ U64 x ∧ mixW (8 - j) h x = T
theorem Wrd.step {T j h x : Nat} (a : Wrd T j h x) (hj : j < 8) : Wrd T (j + 1) (mixB h (x % 256)) (x / 256) := by
  refine ⟨by omega, mixB_lt _ _, by have := a.2.2.1; unfold U64 at *; omega, ?_⟩
  have := a.2.2.2
  rw [show 8 - j = (8 - (j + 1)) + 1 from by omega] at this
  exact this
theorem Wrd.fin {T j h x : Nat} (a : Wrd T j h x) (hj : ¬ j < 8) : h = T := by
  have := a.2.2.2
  rw [show 8 - j = 0 from by omega] at this
  exact this

set_option maxHeartbeats 2000000 in
set_option maxRecDepth 100000 in
theorem mixWords_any (h0 : Nat) (hh0 : U64 h0) (v : Value) (ns : List Nat) (w : World) (hv : SlI w .u64 v ns) (hn : ∀ n ∈ ns, U64 n) :
    Calls Try.prog 25 #[.int .u64 h0, .int .u64 1099511628211, v] w fun e w' => e = .returned (.int .u64 (mixL h0 ns)) ∧ w = w' := by
  obtain ⟨hl, a, cap, rfl, hc⟩ := hv
  have HS := Lib.hid (show Lst ns (mixL h0 ns) 0 h0 from ⟨by omega, hh0, by simp⟩)
  have HC := Lib.hid hc
  have HN := Lib.hid hn
  clear hc hn
  generalize mixL h0 ns = T at HS
  clear hh0
  go_enter Try.func25, Try.ntmps25
  go_wp2_with fail
  refine (hash.len64_64 _).mono ?_
  rintro e w' ⟨rfl, rfl⟩
  go_wp2
  go_loop [16, 0] (fun vi vh => ∃ k h : Nat, Lst ns T k h ∧ vi = .int .i64 k ∧ vh = .int .u64 h) (fun i _ => ns.length - (intOf i).toNat)
  case atStart => exact ⟨0, h0, HS.out, rfl, rfl⟩
  case round =>
    obtain ⟨k, h, ht, rfl, rfl⟩ := hrel
    have hk := ht.1
    have hh := ht.2.1
    by_cases hlt : k < ns.length
    · have HT := Lib.hid (ht.step hlt)
      obtain ⟨b, off, rfl, hcell⟩ := HC.out (by omega)
      have hck := hcell k hlt
      have hx : U64 (ns.getD k 0) := HN.out _ (by rw [List.getD, List.getElem?_eq_getElem hlt]; exact List.getElem_mem _)
      clear ht hcell
      generalize ns.getD k 0 = x at hck hx HT
      have HW := Lib.hid (show Wrd (mixW 8 h x) 0 h x from ⟨by omega, hh, hx, rfl⟩)
      generalize mixW 8 h x = U at HT HW
      clear hh hx
      go_wp2
      go_loop [21, 0, 9] (fun vj vh vx => ∃ j h x : Nat, Wrd U j h x ∧ vj = .int .i64 j ∧ vh = .int .u64 h ∧ vx = .int .u64 x) (fun j _ _ => 8 - (intOf j).toNat)
      case atStart => exact ⟨0, h, x, HW.out, rfl, rfl, rfl⟩
      case round =>
        obtain ⟨j, h, x, hw, rfl, rfl, rfl⟩ := hrel
        have hj := hw.1
        have hh := hw.2.1
        have hx := hw.2.2.1
        by_cases hj4 : j < 8
        · have HX := Lib.hid (hw.step hj4)
          have hb : x % 256 < 256 := by omega
          have ec : True → (x : Int) % 256 = ((x % 256 : Nat) : Int) := fun _ => by omega
          clear hw
          generalize x % 256 = c at HX hb ec
          go_wp2_with (go_at_call 29; refine (mixByte_any _ _ hh hb _).mono ?_; rintro e w' ⟨rfl, rfl⟩)
          go_round
          case rel => exact ⟨j + 1, _, _, HX.out, by go_num, rfl, by go_num⟩
          case measure => simp [intOf]; omega
        · obtain rfl := hw.fin hj4
          clear hw
          go_wp2
          go_round
          case rel => exact ⟨k + 1, h, HT.out, by go_num, rfl⟩
          case measure => simp [intOf]; omega
    · have HF := Lib.hid (ht.fin hlt)
      clear ht
      go_wp2
      go_ret
      exact ⟨ret_int (by rw [HF.out]), rfl⟩

end Go.Proofs.Ytakcmdkhgaampaa.hash6
