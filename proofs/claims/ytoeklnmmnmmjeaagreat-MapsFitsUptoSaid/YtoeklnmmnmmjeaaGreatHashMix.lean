/- The walks of the mixes of 32 bits. -/
import Derived.Test.YtoeklnmmnmmjeaaGreatRows
import Derived.Test.YtoeklnmmnmmjeaaGreatHashLen
import Derived.Test.YtoeklnmmnmmjeaaGreatKit
import Derived.OpenShut
import Derived.Laws.BitsAllLaws
import Derived.WalkSpells
namespace Go.Proofs.YtoeklnmmnmmjeaaGreat.hash
open Go.RowKit
open Go.Proofs.YtoeklnmmnmmjeaaGreat.kit
set_option linter.unusedVariables false

def mixB (h b : Nat) : Nat := ((h ^^^ b) * 16777619) % 4294967296
def mixT (h : Nat) (s : List UInt8) : Nat := s.foldl (fun h c => mixB h c.toNat) h
/-- r bytes of x, the lowest first. -/
def mixW : Nat → Nat → Nat → Nat
  | 0, h, _ => h
  | r + 1, h, x => mixW r (mixB h (x % 256)) (x / 256)
def mixL (h : Nat) (l : List Nat) : Nat := l.foldl (fun h x => mixW 4 h x) h
def finA (h : Nat) : Nat := ((h ^^^ h / 65536) * 2246822507) % 4294967296
def finB (a : Nat) : Nat := ((a ^^^ a / 8192) * 3266489909) % 4294967296
def finC (b : Nat) : Nat := b ^^^ b / 65536
def fin32 (h : Nat) : Nat := finC (finB (finA h))

theorem mixB_lt (h b : Nat) : mixB h b < 4294967296 := Nat.mod_lt _ (by decide)
theorem mixW_lt : ∀ r h x, h < 4294967296 → mixW r h x < 4294967296
  | 0, h, x, hh => hh
  | r + 1, h, x, _ => mixW_lt r _ _ (mixB_lt _ _)
theorem mixT_lt : ∀ s h, h < 4294967296 → mixT h s < 4294967296
  | [], h, hh => hh
  | c :: s, h, _ => mixT_lt s _ (mixB_lt _ _)
theorem mixL_lt : ∀ l h, h < 4294967296 → mixL h l < 4294967296
  | [], h, hh => hh
  | c :: s, h, hh => mixL_lt s _ (mixW_lt 4 _ _ hh)

theorem xor_u32 (h b : Nat) (hh : h < 4294967296) (hb : b < 4294967296) : bits BinOp.xor IntKind.u32 (h : Int) (b : Int) = ((h ^^^ b : Nat) : Int) := u32_xor_nat h b hh hb

theorem mixByte_any (h b : Nat) (hh : h < 4294967296) (hb : b < 256) (w : World) :
    Calls Tryz.prog 167 #[.int .u32 h, .int .u32 16777619, .int .u8 b] w fun e w' => e = .returned (.int .u32 (mixB h b)) ∧ w = w' := by
  have e : True → bits BinOp.xor IntKind.u32 (h : Int) (b : Int) = ((h ^^^ b : Nat) : Int) := fun _ => xor_u32 h b hh (by omega)
  have HM := Lib.hid (show mixB h b = ((h ^^^ b) * 16777619) % 4294967296 from rfl)
  generalize h ^^^ b = q at e HM
  go_enter Tryz.func167, Tryz.ntmps167
  go_wp2
  go_ret
  exact ⟨ret_int (by rw [HM.out]; simp), rfl⟩

theorem rmix_any (h b : Nat) (hh : h < 4294967296) (hb : b < 256) (w : World) :
    Calls Tryz.prog 133 #[.int .u32 h, .int .u8 b] w fun e w' => e = .returned (.int .u32 (mixB h b)) ∧ w = w' := by
  have e : True → bits BinOp.xor IntKind.u32 (h : Int) (b : Int) = ((h ^^^ b : Nat) : Int) := fun _ => xor_u32 h b hh (by omega)
  have HM := Lib.hid (show mixB h b = ((h ^^^ b) * 16777619) % 4294967296 from rfl)
  generalize h ^^^ b = q at e HM
  go_enter Tryz.func133, Tryz.ntmps133
  go_wp2
  go_ret
  exact ⟨ret_int (by rw [HM.out]; simp), rfl⟩

theorem finA_lt (h : Nat) : finA h < 4294967296 := Nat.mod_lt _ (by decide)
theorem finB_lt (h : Nat) : finB h < 4294967296 := Nat.mod_lt _ (by decide)
theorem stepA (h : Nat) (hh : h < 4294967296) : bits BinOp.xor IntKind.u32 (h : Int) ((h : Int) / 65536) * 2246822507 % 4294967296 = ((finA h : Nat) : Int) := by
  have e := xor_u32 h (h / 65536) hh (by omega)
  simp only [Int.natCast_ediv, Int.cast_ofNat_Int] at e
  rw [e]; unfold finA; simp
theorem stepB (h : Nat) (hh : h < 4294967296) : bits BinOp.xor IntKind.u32 (h : Int) ((h : Int) / 8192) * 3266489909 % 4294967296 = ((finB h : Nat) : Int) := by
  have e := xor_u32 h (h / 8192) hh (by omega)
  simp only [Int.natCast_ediv, Int.cast_ofNat_Int] at e
  rw [e]; unfold finB; simp
theorem stepC (h : Nat) (hh : h < 4294967296) : bits BinOp.xor IntKind.u32 (h : Int) ((h : Int) / 65536) = ((finC h : Nat) : Int) := by
  have e := xor_u32 h (h / 65536) hh (by omega)
  simp only [Int.natCast_ediv, Int.cast_ofNat_Int] at e
  rw [e]; unfold finC; rfl
theorem fin_close (h : Nat) (hh : h < 4294967296) :
    bits BinOp.xor IntKind.u32 (bits BinOp.xor IntKind.u32 (bits BinOp.xor IntKind.u32 (h : Int) ((h : Int) / 65536) * 2246822507 % 4294967296) (bits BinOp.xor IntKind.u32 (h : Int) ((h : Int) / 65536) * 2246822507 % 4294967296 / 8192) * 3266489909 % 4294967296)
      (bits BinOp.xor IntKind.u32 (bits BinOp.xor IntKind.u32 (h : Int) ((h : Int) / 65536) * 2246822507 % 4294967296) (bits BinOp.xor IntKind.u32 (h : Int) ((h : Int) / 65536) * 2246822507 % 4294967296 / 8192) * 3266489909 % 4294967296 / 65536) = ((fin32 h : Nat) : Int) := by
  rw [stepA h hh, stepB _ (finA_lt h), stepC _ (finB_lt _)]
  rfl

theorem finish_any (h : Nat) (hh : h < 4294967296) (w : World) :
    Calls Tryz.prog 127 #[.int .u32 h] w fun e w' => e = .returned (.int .u32 (fin32 h)) ∧ w = w' := by
  go_enter Tryz.func127, Tryz.ntmps127
  go_wp2
  go_ret
  exact ⟨ret_int (fin_close h hh), rfl⟩

theorem rended_any (h : Nat) (hh : h < 4294967296) (w : World) :
    Calls Tryz.prog 134 #[.int .u32 h] w fun e w' => e = .returned (.int .u32 (fin32 h)) ∧ w = w' := by
  go_enter Tryz.func134, Tryz.ntmps134
  go_wp2
  go_ret
  exact ⟨ret_int (fin_close h hh), rfl⟩

/-- Behind k bytes, what is still to be mixed in of the text s, out of h, comes to T. -/
def Txt (s : ByteArray) (T k h : Nat) : Prop := k ≤ s.size ∧ h < 4294967296 ∧ mixT h (s.data.toList.drop k) = T
theorem Txt.step {s : ByteArray} {T k h : Nat} (a : Txt s T k h) (hk : k < s.size) : Txt s T (k + 1) (mixB h s[k].toNat) := by
  refine ⟨by omega, mixB_lt _ _, ?_⟩
  have := a.2.2
  rw [List.drop_eq_getElem_cons (by simpa using hk)] at this
  exact this
theorem Txt.fin {s : ByteArray} {T k h : Nat} (a : Txt s T k h) (hk : ¬ k < s.size) : h = T := by
  have := a.2.2
  rw [List.drop_of_length_le (by simp; omega)] at this
  exact this

set_option maxRecDepth 100000 in
theorem mixText_any (h : Nat) (hh : h < 4294967296) (s : ByteArray) (hs : s.size ≤ maxLen) (w : World) :
    Calls Tryz.prog 135 #[.int .u32 h, .int .u32 16777619, .string s] w fun e w' => e = .returned (.int .u32 (mixT h s.data.toList)) ∧ w = w' := by
  unfold maxLen at hs
  have HS := Lib.hid (show Txt s (mixT h s.data.toList) 0 h from ⟨by omega, hh, by simp⟩)
  generalize mixT h s.data.toList = T at HS
  clear hh
  go_enter Tryz.func135, Tryz.ntmps135
  go_wp2
  go_loop [10, 0] (fun vi vh => ∃ k h : Nat, Txt s T k h ∧ vi = .int .i64 k ∧ vh = .int .u32 h) (fun i _ => s.size - (intOf i).toNat)
  case atStart => exact ⟨0, h, HS.out, rfl, rfl⟩
  case round =>
    obtain ⟨k, h, ht, rfl, rfl⟩ := hrel
    have hk := ht.1
    have hh := ht.2.1
    by_cases hlt : k < s.size
    · have HN := Lib.hid (ht.step hlt)
      have hb : s[k].toNat < 256 := s[k].toNat_lt
      clear ht
      go_wp2_with (go_at_call 167; refine (mixByte_any _ _ hh hb _).mono ?_; rintro e w' ⟨rfl, rfl⟩)
      go_round
      case rel => exact ⟨k + 1, _, HN.out, by go_num, rfl⟩
      case measure => simp [intOf]; omega
    · have HF := Lib.hid (ht.fin hlt)
      clear ht
      go_wp2
      go_ret
      exact ⟨ret_int (by rw [HF.out]), rfl⟩

set_option maxRecDepth 100000 in
theorem rtext_any (s : ByteArray) (hs : s.size ≤ maxLen) (w : World) :
    Calls Tryz.prog 96 #[.string s] w fun e w' => e = .returned (.int .u32 (fin32 (mixT 2166136261 s.data.toList))) ∧ w = w' := by
  unfold maxLen at hs
  have HS := Lib.hid (show Txt s (mixT 2166136261 s.data.toList) 0 2166136261 from ⟨by omega, by omega, by simp⟩)
  generalize mixT 2166136261 s.data.toList = T at HS
  go_enter Tryz.func96, Tryz.ntmps96
  go_wp2
  go_loop [4, 3] (fun vi vh => ∃ k h : Nat, Txt s T k h ∧ vi = .int .i64 k ∧ vh = .int .u32 h) (fun i _ => s.size - (intOf i).toNat)
  case atStart => exact ⟨0, 2166136261, HS.out, rfl, rfl⟩
  case round =>
    obtain ⟨k, h, ht, rfl, rfl⟩ := hrel
    have hk := ht.1
    have hh := ht.2.1
    by_cases hlt : k < s.size
    · have HN := Lib.hid (ht.step hlt)
      have hb : s[k].toNat < 256 := s[k].toNat_lt
      clear ht
      go_wp2_with (go_at_call 133; refine (rmix_any _ _ hh hb _).mono ?_; rintro e w' ⟨rfl, rfl⟩)
      go_round
      case rel => exact ⟨k + 1, _, HN.out, by go_num, rfl⟩
      case measure => simp [intOf]; omega
    · have HF := Lib.hid (ht.fin hlt)
      clear ht
      go_wp2_with fail
      refine (rended_any _ hh _).mono ?_
      rintro e w' ⟨rfl, rfl⟩
      go_wp2
      go_ret
      exact ⟨ret_int (by rw [HF.out]), rfl⟩

theorem text_any (s : ByteArray) (hs : s.size ≤ maxLen) (w : World) :
    Calls Tryz.prog 95 #[.string s] w fun e w' => e = .returned (.int .u32 (fin32 (mixT 2166136261 s.data.toList))) ∧ w = w' := by
  have ht := mixT_lt s.data.toList 2166136261 (by omega)
  go_enter Tryz.func95, Tryz.ntmps95
  go_wp2_with fail
  refine (mixText_any 2166136261 (by omega) s hs _).mono ?_
  rintro e w' ⟨rfl, rfl⟩
  go_wp2_with fail
  refine (finish_any _ ht _).mono ?_
  rintro e w' ⟨rfl, rfl⟩
  go_wp2
  go_ret
  exact ⟨rfl, rfl⟩

/-- Behind k words, what is still to be mixed in of the list, out of h, comes to T. -/
def Lst (ns : List Nat) (T k h : Nat) : Prop := k ≤ ns.length ∧ h < 4294967296 ∧ mixL h (ns.drop k) = T
theorem Lst.step {ns : List Nat} {T k h : Nat} (a : Lst ns T k h) (hk : k < ns.length) : Lst ns T (k + 1) (mixW 4 h (ns.getD k 0)) := by
  refine ⟨by omega, mixW_lt _ _ _ a.2.1, ?_⟩
  have := a.2.2
  rw [drop_getD ns 0 k hk] at this
  exact this
theorem Lst.fin {ns : List Nat} {T k h : Nat} (a : Lst ns T k h) (hk : ¬ k < ns.length) : h = T := by
  have := a.2.2
  rw [List.drop_of_length_le (by omega)] at this
  exact this
/-- Behind j bytes of a word: what is still to come. -/
def Wrd (T j h x : Nat) : Prop := j ≤ 4 ∧ h < 4294967296 ∧ x < 4294967296 ∧ mixW (4 - j) h x = T
theorem Wrd.step {T j h x : Nat} (a : Wrd T j h x) (hj : j < 4) : Wrd T (j + 1) (mixB h (x % 256)) (x / 256) := by
  refine ⟨by omega, mixB_lt _ _, by have := a.2.2.1; omega, ?_⟩
  have := a.2.2.2
  rw [show 4 - j = (4 - (j + 1)) + 1 from by omega] at this
  exact this
theorem Wrd.fin {T j h x : Nat} (a : Wrd T j h x) (hj : ¬ j < 4) : h = T := by
  have := a.2.2.2
  rw [show 4 - j = 0 from by omega] at this
  exact this

set_option maxHeartbeats 2000000 in
set_option maxRecDepth 100000 in
theorem mixWords_any (h0 : Nat) (hh0 : h0 < 4294967296) (v : Value) (ns : List Nat) (w : World) (hv : SlI w .u32 v ns) (hn : ∀ n ∈ ns, n < 4294967296) :
    Calls Tryz.prog 128 #[.int .u32 h0, .int .u32 16777619, v] w fun e w' => e = .returned (.int .u32 (mixL h0 ns)) ∧ w = w' := by
  obtain ⟨hl, a, cap, rfl, hc⟩ := hv
  have HS := Lib.hid (show Lst ns (mixL h0 ns) 0 h0 from ⟨by omega, hh0, by simp⟩)
  have HC := Lib.hid hc
  have HN := Lib.hid hn
  clear hc hn
  generalize mixL h0 ns = T at HS
  clear hh0
  go_enter Tryz.func128, Tryz.ntmps128
  go_wp2_with fail
  refine (len64_32 _).mono ?_
  rintro e w' ⟨rfl, rfl⟩
  go_wp2
  go_loop [17, 0] (fun vi vh => ∃ k h : Nat, Lst ns T k h ∧ vi = .int .i64 k ∧ vh = .int .u32 h) (fun i _ => ns.length - (intOf i).toNat)
  case atStart => exact ⟨0, h0, HS.out, rfl, rfl⟩
  case round =>
    obtain ⟨k, h, ht, rfl, rfl⟩ := hrel
    have hk := ht.1
    have hh := ht.2.1
    by_cases hlt : k < ns.length
    · have HT := Lib.hid (ht.step hlt)
      obtain ⟨b, off, rfl, hcell⟩ := HC.out (by omega)
      have hck := hcell k hlt
      have hx : ns.getD k 0 < 4294967296 := HN.out _ (by rw [List.getD, List.getElem?_eq_getElem hlt]; exact List.getElem_mem _)
      clear ht hcell
      generalize ns.getD k 0 = x at hck hx HT
      have HW := Lib.hid (show Wrd (mixW 4 h x) 0 h x from ⟨by omega, hh, hx, rfl⟩)
      generalize mixW 4 h x = U at HT HW
      clear hh hx
      go_wp2
      go_loop [22, 0, 9] (fun vj vh vx => ∃ j h x : Nat, Wrd U j h x ∧ vj = .int .i64 j ∧ vh = .int .u32 h ∧ vx = .int .u32 x) (fun j _ _ => 4 - (intOf j).toNat)
      case atStart => exact ⟨0, h, x, HW.out, rfl, rfl, rfl⟩
      case round =>
        obtain ⟨j, h, x, hw, rfl, rfl, rfl⟩ := hrel
        have hj := hw.1
        have hh := hw.2.1
        have hx := hw.2.2.1
        by_cases hj4 : j < 4
        · have HX := Lib.hid (hw.step hj4)
          have hb : x % 256 < 256 := by omega
          have ec : True → (x : Int) % 256 = ((x % 256 : Nat) : Int) := fun _ => by omega
          clear hw
          generalize x % 256 = c at HX hb ec
          go_wp2_with (go_at_call 167; refine (mixByte_any _ _ hh hb _).mono ?_; rintro e w' ⟨rfl, rfl⟩)
          go_round
          case rel => exact ⟨j + 1, _, _, HX.out, by go_num, rfl, by go_num⟩
          case measure => simp [intOf]; omega
        · obtain rfl := hw.fin hj4
          clear hw
          go_wp2
          go_round
          case rel => exact ⟨k + 1, h, HT.out, by go_num, rfl⟩
          case measure => simp [intOf]; omega
    · have HF := Lib.hid (ht.fin hlt)
      clear ht
      go_wp2
      go_ret
      exact ⟨ret_int (by rw [HF.out]), rfl⟩

theorem words_any (v : Value) (ns : List Nat) (w : World) (hv : SlI w .u32 v ns) (hn : ∀ n ∈ ns, n < 4294967296) :
    Calls Tryz.prog 88 #[v] w fun e w' => e = .returned (.int .u32 (fin32 (mixL 2166136261 ns))) ∧ w = w' := by
  have ht := mixL_lt ns 2166136261 (by omega)
  have HN := Lib.hid hn
  clear hn
  go_enter Tryz.func88, Tryz.ntmps88
  go_wp2_with fail
  refine (mixWords_any 2166136261 (by omega) v ns _ hv HN.out).mono ?_
  rintro e w' ⟨rfl, rfl⟩
  go_wp2_with fail
  refine (finish_any _ ht _).mono ?_
  rintro e w' ⟨rfl, rfl⟩
  go_wp2
  go_ret
  exact ⟨rfl, rfl⟩

/-- Behind j bytes of the word x, taken by shifts of x itself. -/
def Wrs (x U j h : Nat) : Prop := j ≤ 4 ∧ h < 4294967296 ∧ mixW (4 - j) h (x / 256 ^ j) = U
theorem Wrs.step {x U j h : Nat} (a : Wrs x U j h) (hj : j < 4) : Wrs x U (j + 1) (mixB h (x / 256 ^ j % 256)) := by
  refine ⟨by omega, mixB_lt _ _, ?_⟩
  have := a.2.2
  rw [show 4 - j = (4 - (j + 1)) + 1 from by omega, mixW, Nat.div_div_eq_div_mul, ← Nat.pow_succ] at this
  exact this
theorem Wrs.fin {x U j h : Nat} (a : Wrs x U j h) (hj : ¬ j < 4) : h = U := by
  have := a.2.2
  rw [show 4 - j = 0 from by omega] at this
  exact this
theorem shr_byte (x j : Nat) : (x : Int) / 2 ^ (8 * j) % 256 = ((x / 256 ^ j % 256 : Nat) : Int) := by
  rw [show (256 : Nat) ^ j = 2 ^ (8 * j) from by rw [Nat.pow_mul]]
  simp

set_option maxHeartbeats 2000000 in
set_option maxRecDepth 100000 in
theorem rwords_any (v : Value) (ns : List Nat) (w : World) (hv : SlI w .u32 v ns) (hn : ∀ n ∈ ns, n < 4294967296) :
    Calls Tryz.prog 92 #[v] w fun e w' => e = .returned (.int .u32 (fin32 (mixL 2166136261 ns))) ∧ w = w' := by
  obtain ⟨hl, a, cap, rfl, hc⟩ := hv
  have HS := Lib.hid (show Lst ns (mixL 2166136261 ns) 0 2166136261 from ⟨by omega, by omega, by simp⟩)
  have HC := Lib.hid hc
  have HN := Lib.hid hn
  clear hc hn
  generalize mixL 2166136261 ns = T at HS
  go_enter Tryz.func92, Tryz.ntmps92
  go_wp2
  go_loop [4, 3, 5] (fun vi vh _ => ∃ k h : Nat, Lst ns T k h ∧ vi = .int .i64 k ∧ vh = .int .u32 h) (fun i _ _ => ns.length - (intOf i).toNat)
  case atStart => exact ⟨0, 2166136261, HS.out, rfl, rfl⟩
  case round =>
    obtain ⟨k, h, ht, rfl, rfl⟩ := hrel
    have hk := ht.1
    have hh := ht.2.1
    by_cases hlt : k < ns.length
    · have HT := Lib.hid (ht.step hlt)
      obtain ⟨b, off, rfl, hcell⟩ := HC.out (by omega)
      have hck := hcell k hlt
      have hx : ns.getD k 0 < 4294967296 := HN.out _ (by rw [List.getD, List.getElem?_eq_getElem hlt]; exact List.getElem_mem _)
      clear ht hcell
      generalize ns.getD k 0 = x at hck hx HT
      have HW := Lib.hid (show Wrs x (mixW 4 h x) 0 h from ⟨by omega, hh, by simp⟩)
      generalize mixW 4 h x = U at HT HW
      clear hh
      go_wp2
      go_loop [5, 3] (fun vj vh => ∃ j h : Nat, Wrs x U j h ∧ vj = .int .i64 j ∧ vh = .int .u32 h) (fun j _ => 4 - (intOf j).toNat)
      case atStart => exact ⟨0, h, HW.out, rfl, rfl⟩
      case round =>
        obtain ⟨j, h, hw, rfl, rfl⟩ := hrel
        have hj := hw.1
        have hh := hw.2.1
        by_cases hj4 : j < 4
        · have HX := Lib.hid (hw.step hj4)
          have hb : x / 256 ^ j % 256 < 256 := by omega
          have ec : True → (x : Int) / 2 ^ (8 * j) % 256 = ((x / 256 ^ j % 256 : Nat) : Int) := fun _ => shr_byte x j
          clear hw
          generalize x / 256 ^ j % 256 = c at HX hb ec
          go_wp2_with fail
          refine (rmix_any _ _ hh hb _).mono ?_
          rintro e w' ⟨rfl, rfl⟩
          go_wp2
          go_round
          case rel => exact ⟨j + 1, _, HX.out, by go_num, rfl⟩
          case measure => simp [intOf]; omega
        · obtain rfl := hw.fin hj4
          clear hw
          go_wp2
          go_round
          case rel => exact ⟨k + 1, h, HT.out, by go_num, rfl⟩
          case measure => simp [intOf]; omega
    · have HF := Lib.hid (ht.fin hlt)
      clear ht
      go_wp2_with fail
      refine (rended_any _ hh _).mono ?_
      rintro e w' ⟨rfl, rfl⟩
      go_wp2
      go_ret
      exact ⟨ret_int (by rw [HF.out]), rfl⟩

end Go.Proofs.YtoeklnmmnmmjeaaGreat.hash
