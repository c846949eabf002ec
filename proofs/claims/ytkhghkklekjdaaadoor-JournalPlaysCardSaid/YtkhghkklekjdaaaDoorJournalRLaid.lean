/- The document's journal: a record, sector by sector. -/
import Derived.Test.YtkhghkklekjdaaaDoorRows
import Derived.Test.YtkhghkklekjdaaaDoorJournalRLow
import Derived.Test.YtkhghkklekjdaaaDoorJournalAppT
import Derived.Test.YtkhghkklekjdaaaDoorJournalZeros
import Derived.Test.YtkhghkklekjdaaaDoorJournalSY
namespace Go.Proofs.YtkhghkklekjdaaaDoor.journal
open Go.RowKit
open Go.Proofs.YtkhghkklekjdaaaDoor.kit Go.Proofs.YtkhghkklekjdaaaDoor.own Go.Proofs.YtkhghkklekjdaaaDoor.jm
open Go.Proofs.YtkhghkklekjdaaaDoor.fm (crc crc_lt)
open Go.Proofs.YtkhghkklekjdaaaDoor.frame (rSum_any)
open Go.Proofs.YtkhghkklekjdaaaDoor.sector (strN infoByte conv_sl)
set_option linter.unusedVariables false

theorem le_snoc : ∀ (k x : Nat), le (k + 1) x = le k x ++ [x / 256 ^ k % 256]
  | 0, x => by simp [le]
  | k + 1, x => by
    have h := le_snoc k (x / 256)
    rw [show le (k + 1 + 1) x = x % 256 :: le (k + 1) (x / 256) from rfl, h, show le (k + 1) x = x % 256 :: le k (x / 256) from rfl, List.cons_append, Nat.div_div_eq_div_mul, ← Nat.pow_succ']

/-- 'append(b, s...)' of a string. -/
theorem appStr {P : Program} {wr : World} {ops : Array Oper} {rest : List Oper} {o : Oper} {a : Act} {Q : Exit → Act → World → Prop} (hgd : o.guard = none) (s x : Operand) (t u : TypeId)
    (ho : o.op = .call { callee := .builtin .append, args := #[s, x], argTypes := #[t, u] })
    (B e : Nat) (ht : P.underlying t = some (.slice e)) (hu : P.underlying u = some .string) (hi : (P.info? e).map (fun i => (i.zero, i.size, i.bytes)) = some (some (.int .u8 0), 1, 1))
    (v : Value) (ns : List Nat) (hs : a.eval s = v) (hown : OwnI wr B e .u8 v ns) (st : ByteArray) (ms : List Nat) (hms : byN st = ms) (hx : a.eval x = .string st) (hk : ns.length + ms.length ≤ 1000000000000) (hB : B ≤ wr.heap.size)
    (h : ∀ v' w', OwnI w' B e .u8 v' (ns ++ ms) → Kept B e wr w' → wpList P ops Q rest (a.put o.dst v') w') : wpList P ops Q (o :: rest) a wr := by
  obtain ⟨i0, hi, hz0, hz1, hz2⟩ := info_parts hi
  have hsz : st.size = ms.length := by rw [← hms, byN_len]
  refine Lib.wpList_append_own_string wr hgd s x t u ho B e i0 ht hu hi hz0 hz1 hz2 v ns.length (ns.map fun n : Nat => Value.int .u8 (n : Int)) hs hown st hx (by unfold maxLen; omega) (by omega) hB ?_
  intro v' w' h2 h3 _
  refine h v' w' ?_ (Kept.grown hB hown h3)
  rw [hsz, strCells_by, hms] at h2
  unfold OwnI
  simpa using h2

/-- Where the next byte of a record comes from, ahead of its sector i. -/
def atN (L i : Nat) : Nat := if i = 0 then 0 else min L (47 + 55 * (i - 1))
def FirstB (W : World) (B : Nat) (vb : Value) (pre : List Nat) (i : Nat) : Prop := i = 0 → OwnI W B 5 .u8 vb pre
def lenV (v : Value) : Nat := match v with | .slice _ n _ => n | _ => 0
theorem own_any8 {w : World} {B e : Nat} {k : IntKind} {v : Value} {ns : List Nat} (h : OwnI w B e k v ns) (n : Nat) (hn : ns.length = n) : ∃ a cap, v = .slice a n cap := by
  subst hn
  rcases h.2 with ⟨rfl, h0⟩ | ⟨g, cap, cur, rfl, _⟩
  · exact ⟨none, 0, by rw [h0]⟩
  · exact ⟨_, cap, rfl⟩

theorem takeJ {text : List Nat} {L a j k : Nat} (hL : text.length = L) (hj : j ≤ k) (h : j = k ∨ a + j = L) : (text.drop a).take j = (text.drop a).take k := by
  rcases h with rfl | h
  · rfl
  · rw [List.take_of_length_le (l := text.drop a) (i := j) (by rw [List.length_drop]; omega), List.take_of_length_le (by rw [List.length_drop]; omega)]
theorem piece0 {num L X j : Nat} {text : List Nat} (hL : text.length = L) (hX : sumR num text = X) (hj : j ≤ 47) (haj : atN L 0 + j ≤ L) (h : j = 47 ∨ atN L 0 + j = L) {q : Nat} (hq : 17 + j + q = 64) :
    ([1] ++ (le 8 num ++ le 4 L ++ le 4 X)) ++ (text.drop (atN L 0)).take j ++ List.replicate q 0 = pieceB num text 0 := by
  have e0 : atN L 0 = 0 := rfl
  rw [takeJ hL hj h]
  unfold pieceB
  rw [if_pos rfl, hL, hX, e0, List.drop_zero]
  unfold fillTo
  have e1 : (1 :: le 8 num ++ (le 4 L ++ (le 4 X ++ text.take 47))) = [1] ++ (le 8 num ++ le 4 L ++ le 4 X) ++ text.take 47 := by simp
  rw [e1]
  congr 2
  rw [e0] at h haj
  simp [hL]
  omega
theorem pieceI {num L i j : Nat} {text : List Nat} (hL : text.length = L) (hi : 0 < i) (hin : 47 + 55 * (i - 1) < L) (hj : j ≤ 55) (haj : atN L i + j ≤ L) (h : j = 55 ∨ atN L i + j = L) {q : Nat} (hq : 9 + j + q = 64) :
    ([2] ++ le 8 num) ++ (text.drop (atN L i)).take j ++ List.replicate q 0 = pieceB num text i := by
  have e0 : atN L i = 47 + 55 * (i - 1) := by unfold atN; rw [if_neg (by omega)]; omega
  rw [takeJ hL hj h]
  unfold pieceB
  rw [if_neg (by omega), e0]
  unfold fillTo
  have e1 : (2 :: le 8 num ++ (text.drop (47 + 55 * (i - 1))).take 55) = [2] ++ le 8 num ++ (text.drop (47 + 55 * (i - 1))).take 55 := by simp
  rw [e1]
  congr 2
  rw [e0] at h haj
  simp [hL]
  omega
theorem byN_get (s : ByteArray) (A : Nat) (h : A < s.size) : (byN s).getD A 0 = s[A].toNat := by
  have h' : A < s.data.size := h
  simp only [byN, List.getD, List.getElem?_map, Array.getElem?_toList, Array.getElem?_eq_getElem h', Option.map_some, Option.getD_some]
  rfl
theorem atN_next0 {L j : Nat} (hj : j ≤ 47) (haj : atN L 0 + j ≤ L) (h : j = 47 ∨ atN L 0 + j = L) : atN L 0 + j = atN L (0 + 1) := by
  have e0 : atN L 0 = 0 := rfl
  have e1 : atN L (0 + 1) = min L 47 := rfl
  rw [e0] at haj h ⊢
  rw [e1]
  omega
theorem atN_nextI {L i j : Nat} (hi : 0 < i) (hin : 47 + 55 * (i - 1) < L) (hj : j ≤ 55) (haj : atN L i + j ≤ L) (h : j = 55 ∨ atN L i + j = L) : atN L i + j = atN L (i + 1) := by
  have e0 : atN L i = 47 + 55 * (i - 1) := by unfold atN; rw [if_neg (by omega)]; omega
  have e1 : atN L (i + 1) = min L (47 + 55 * (i + 1 - 1)) := by unfold atN; rw [if_neg (by omega)]
  rw [e0] at haj h ⊢
  rw [e1]
  omega
theorem need_in {L i : Nat} (h : i < need L) (hi : 0 < i) : 47 + 55 * (i - 1) < L := by
  rcases need_lt L with h1 | h1
  · omega
  · have : i - 1 ≤ need L - 2 := by omega
    have := Nat.mul_le_mul_left 55 this
    omega

set_option maxHeartbeats 16000000 in
set_option maxRecDepth 100000 in
theorem rpieces_any (w : World) (num : Nat) (text : List Nat) (h8 : ∀ x ∈ text, x < 256) (hnum : num ≤ maxNum) (hlen : text.length ≤ 300000) :
    Calls Tryd.prog 43 #[.int .i64 (num : Int), .string (strN text)] w fun e w' => (∃ v, e = .returned v ∧ OwnT w' w.heap.size v ((List.range (need text.length)).map fun i => strN (pieceB num text i))) ∧ Below w.heap.size w w' := by
  have hsz := strN_size text
  obtain ⟨s, hs⟩ : ∃ s, strN text = s := ⟨_, rfl⟩
  rw [hs] at hsz ⊢
  have HS := Lib.hid hs; have H8 := Lib.hid h8; have HNm := Lib.hid hnum; have HLn := Lib.hid hlen
  obtain ⟨L, hL⟩ : ∃ L, text.length = L := ⟨_, rfl⟩
  rw [hL] at hsz
  have HL := Lib.hid hL; have HSz := Lib.hid hsz
  have HO0 := Lib.hid (OwnI.nil w w.heap.size 5 .u8)
  clear hs h8 hnum hlen hL hsz
  go_enter Tryd.func43, Tryd.ntmps43
  go_wp2_with fail
  go_loopw [5, 6] (fun v vi W => ∃ k : Nat, k ≤ 8 ∧ vi = .int .i64 k ∧ OwnI W w.heap.size 5 .u8 v (le k num) ∧ Below w.heap.size w W) (fun _ vi _ => 8 - (intOf vi).toNat)
  case atStart => exact ⟨0, by omega, rfl, HO0.out, Below.refl _ _⟩
  case round =>
    obtain ⟨k, hk, rfl, ho, hb⟩ := hrel
    have HO := Lib.hid ho; have HB := Lib.hid hb
    clear ho hb HO0
    obtain rfl | rfl | rfl | rfl | rfl | rfl | rfl | rfl | rfl : k = 0 ∨ k = 1 ∨ k = 2 ∨ k = 3 ∨ k = 4 ∨ k = 5 ∨ k = 6 ∨ k = 7 ∨ k = 8 := by omega
    · go_wp2_with (at_builtin; refine app1K rfl (.tmp 19) (.tmp 26) 22 rfl w.heap.size 5 .u8 1 Tryd.underlying22 infoByte _ (le 0 num) rfl HO.out (num / 256 ^ 0 % 256) _ (by simp <;> omega) wr.heap.size rfl rfl (by simp [maxLen]) (by simp) HB.out.size ?_; intro v' w' ho' hk')
      have HO2 := Lib.hid (show OwnI w' w.heap.size 5 .u8 v' (le 1 num) by rw [le_snoc 0 num]; simpa using ho')
      have HB2 := Lib.hid (HB.out.trans hk'.toBelow)
      clear ho' hk'
      go_wp2_with fail
      go_roundw
      case rel => exact ⟨1, by omega, rfl, HO2.out, HB2.out⟩
      case measure => simp [intOf]
    · go_wp2_with (at_builtin; refine app1K rfl (.tmp 19) (.tmp 26) 22 rfl w.heap.size 5 .u8 1 Tryd.underlying22 infoByte _ (le 1 num) rfl HO.out (num / 256 ^ 1 % 256) _ (by simp <;> omega) wr.heap.size rfl rfl (by simp [maxLen]) (by simp) HB.out.size ?_; intro v' w' ho' hk')
      have HO2 := Lib.hid (show OwnI w' w.heap.size 5 .u8 v' (le 2 num) by rw [le_snoc 1 num]; simpa using ho')
      have HB2 := Lib.hid (HB.out.trans hk'.toBelow)
      clear ho' hk'
      go_wp2_with fail
      go_roundw
      case rel => exact ⟨2, by omega, rfl, HO2.out, HB2.out⟩
      case measure => simp [intOf]
    · go_wp2_with (at_builtin; refine app1K rfl (.tmp 19) (.tmp 26) 22 rfl w.heap.size 5 .u8 1 Tryd.underlying22 infoByte _ (le 2 num) rfl HO.out (num / 256 ^ 2 % 256) _ (by simp <;> omega) wr.heap.size rfl rfl (by simp [maxLen]) (by simp) HB.out.size ?_; intro v' w' ho' hk')
      have HO2 := Lib.hid (show OwnI w' w.heap.size 5 .u8 v' (le 3 num) by rw [le_snoc 2 num]; simpa using ho')
      have HB2 := Lib.hid (HB.out.trans hk'.toBelow)
      clear ho' hk'
      go_wp2_with fail
      go_roundw
      case rel => exact ⟨3, by omega, rfl, HO2.out, HB2.out⟩
      case measure => simp [intOf]
    · go_wp2_with (at_builtin; refine app1K rfl (.tmp 19) (.tmp 26) 22 rfl w.heap.size 5 .u8 1 Tryd.underlying22 infoByte _ (le 3 num) rfl HO.out (num / 256 ^ 3 % 256) _ (by simp <;> omega) wr.heap.size rfl rfl (by simp [maxLen]) (by simp) HB.out.size ?_; intro v' w' ho' hk')
      have HO2 := Lib.hid (show OwnI w' w.heap.size 5 .u8 v' (le 4 num) by rw [le_snoc 3 num]; simpa using ho')
      have HB2 := Lib.hid (HB.out.trans hk'.toBelow)
      clear ho' hk'
      go_wp2_with fail
      go_roundw
      case rel => exact ⟨4, by omega, rfl, HO2.out, HB2.out⟩
      case measure => simp [intOf]
    · go_wp2_with (at_builtin; refine app1K rfl (.tmp 19) (.tmp 26) 22 rfl w.heap.size 5 .u8 1 Tryd.underlying22 infoByte _ (le 4 num) rfl HO.out (num / 256 ^ 4 % 256) _ (by simp <;> omega) wr.heap.size rfl rfl (by simp [maxLen]) (by simp) HB.out.size ?_; intro v' w' ho' hk')
      have HO2 := Lib.hid (show OwnI w' w.heap.size 5 .u8 v' (le 5 num) by rw [le_snoc 4 num]; simpa using ho')
      have HB2 := Lib.hid (HB.out.trans hk'.toBelow)
      clear ho' hk'
      go_wp2_with fail
      go_roundw
      case rel => exact ⟨5, by omega, rfl, HO2.out, HB2.out⟩
      case measure => simp [intOf]
    · go_wp2_with (at_builtin; refine app1K rfl (.tmp 19) (.tmp 26) 22 rfl w.heap.size 5 .u8 1 Tryd.underlying22 infoByte _ (le 5 num) rfl HO.out (num / 256 ^ 5 % 256) _ (by simp <;> omega) wr.heap.size rfl rfl (by simp [maxLen]) (by simp) HB.out.size ?_; intro v' w' ho' hk')
      have HO2 := Lib.hid (show OwnI w' w.heap.size 5 .u8 v' (le 6 num) by rw [le_snoc 5 num]; simpa using ho')
      have HB2 := Lib.hid (HB.out.trans hk'.toBelow)
      clear ho' hk'
      go_wp2_with fail
      go_roundw
      case rel => exact ⟨6, by omega, rfl, HO2.out, HB2.out⟩
      case measure => simp [intOf]
    · go_wp2_with (at_builtin; refine app1K rfl (.tmp 19) (.tmp 26) 22 rfl w.heap.size 5 .u8 1 Tryd.underlying22 infoByte _ (le 6 num) rfl HO.out (num / 256 ^ 6 % 256) _ (by simp <;> omega) wr.heap.size rfl rfl (by simp [maxLen]) (by simp) HB.out.size ?_; intro v' w' ho' hk')
      have HO2 := Lib.hid (show OwnI w' w.heap.size 5 .u8 v' (le 7 num) by rw [le_snoc 6 num]; simpa using ho')
      have HB2 := Lib.hid (HB.out.trans hk'.toBelow)
      clear ho' hk'
      go_wp2_with fail
      go_roundw
      case rel => exact ⟨7, by omega, rfl, HO2.out, HB2.out⟩
      case measure => simp [intOf]
    · go_wp2_with (at_builtin; refine app1K rfl (.tmp 19) (.tmp 26) 22 rfl w.heap.size 5 .u8 1 Tryd.underlying22 infoByte _ (le 7 num) rfl HO.out (num / 256 ^ 7 % 256) _ (by simp <;> omega) wr.heap.size rfl rfl (by simp [maxLen]) (by simp) HB.out.size ?_; intro v' w' ho' hk')
      have HO2 := Lib.hid (show OwnI w' w.heap.size 5 .u8 v' (le 8 num) by rw [le_snoc 7 num]; simpa using ho')
      have HB2 := Lib.hid (HB.out.trans hk'.toBelow)
      clear ho' hk'
      go_wp2_with fail
      go_roundw
      case rel => exact ⟨8, by omega, rfl, HO2.out, HB2.out⟩
      case measure => simp [intOf]
    have HOh := Lib.hid HO.out; have HBh := Lib.hid HB.out
    clear HO HB hk
    have hsz := HSz.out
    rw [show ((8 : Nat) : Int) = 8 from rfl]
    go_wp2_with fail
    go_loopw [5, 7] (fun v vi W => ∃ k : Nat, k ≤ 4 ∧ vi = .int .i64 k ∧ OwnI W w.heap.size 5 .u8 v (le 8 num ++ le k L) ∧ Below w.heap.size w W) (fun _ vi _ => 4 - (intOf vi).toNat)
    case atStart => exact ⟨0, by omega, rfl, by simpa [le] using HOh.out, HBh.out⟩
    case round =>
      obtain ⟨k, hk, rfl, ho, hb⟩ := hrel
      have HO := Lib.hid ho; have HB := Lib.hid hb
      clear ho hb HOh HBh
      obtain rfl | rfl | rfl | rfl | rfl : k = 0 ∨ k = 1 ∨ k = 2 ∨ k = 3 ∨ k = 4 := by omega
      · go_wp2_with (at_builtin; refine app1K rfl (.tmp 32) (.tmp 40) 22 rfl w.heap.size 5 .u8 1 Tryd.underlying22 infoByte _ (le 8 num ++ le 0 L) rfl HO.out (L / 256 ^ 0 % 256) _ (by simp <;> omega) wr.heap.size rfl rfl (by simp [maxLen]) (by simp) HB.out.size ?_; intro v' w' ho' hk')
        have HO2 := Lib.hid (show OwnI w' w.heap.size 5 .u8 v' (le 8 num ++ le 1 L) by rw [le_snoc 0 L]; simpa using ho')
        have HB2 := Lib.hid (HB.out.trans hk'.toBelow)
        clear ho' hk'
        go_wp2_with fail
        go_roundw
        case rel => exact ⟨1, by omega, rfl, HO2.out, HB2.out⟩
        case measure => simp [intOf]
      · go_wp2_with (at_builtin; refine app1K rfl (.tmp 32) (.tmp 40) 22 rfl w.heap.size 5 .u8 1 Tryd.underlying22 infoByte _ (le 8 num ++ le 1 L) rfl HO.out (L / 256 ^ 1 % 256) _ (by simp <;> omega) wr.heap.size rfl rfl (by simp [maxLen]) (by simp) HB.out.size ?_; intro v' w' ho' hk')
        have HO2 := Lib.hid (show OwnI w' w.heap.size 5 .u8 v' (le 8 num ++ le 2 L) by rw [le_snoc 1 L]; simpa using ho')
        have HB2 := Lib.hid (HB.out.trans hk'.toBelow)
        clear ho' hk'
        go_wp2_with fail
        go_roundw
        case rel => exact ⟨2, by omega, rfl, HO2.out, HB2.out⟩
        case measure => simp [intOf]
      · go_wp2_with (at_builtin; refine app1K rfl (.tmp 32) (.tmp 40) 22 rfl w.heap.size 5 .u8 1 Tryd.underlying22 infoByte _ (le 8 num ++ le 2 L) rfl HO.out (L / 256 ^ 2 % 256) _ (by simp <;> omega) wr.heap.size rfl rfl (by simp [maxLen]) (by simp) HB.out.size ?_; intro v' w' ho' hk')
        have HO2 := Lib.hid (show OwnI w' w.heap.size 5 .u8 v' (le 8 num ++ le 3 L) by rw [le_snoc 2 L]; simpa using ho')
        have HB2 := Lib.hid (HB.out.trans hk'.toBelow)
        clear ho' hk'
        go_wp2_with fail
        go_roundw
        case rel => exact ⟨3, by omega, rfl, HO2.out, HB2.out⟩
        case measure => simp [intOf]
      · go_wp2_with (at_builtin; refine app1K rfl (.tmp 32) (.tmp 40) 22 rfl w.heap.size 5 .u8 1 Tryd.underlying22 infoByte _ (le 8 num ++ le 3 L) rfl HO.out (L / 256 ^ 3 % 256) _ (by simp <;> omega) wr.heap.size rfl rfl (by simp [maxLen]) (by simp) HB.out.size ?_; intro v' w' ho' hk')
        have HO2 := Lib.hid (show OwnI w' w.heap.size 5 .u8 v' (le 8 num ++ le 4 L) by rw [le_snoc 3 L]; simpa using ho')
        have HB2 := Lib.hid (HB.out.trans hk'.toBelow)
        clear ho' hk'
        go_wp2_with fail
        go_roundw
        case rel => exact ⟨4, by omega, rfl, HO2.out, HB2.out⟩
        case measure => simp [intOf]
      have HOh := Lib.hid HO.out; have HBh := Lib.hid HB.out
      clear HO HB hk hsz
      rw [show ((4 : Nat) : Int) = 4 from rfl]
      obtain ⟨gh, hcap, rfl⟩ := sector.own_form HOh.out 12 (by simp) (by omega)
      have hch : ∀ j, j < 12 → wr.cell? ⟨gh, 0 + j, none⟩ = some (.int .u8 ((le 8 num ++ le 4 L).getD j 0 : Nat)) := fun j hj => sector.SlI.cell HOh.out.read j (by simpa using hj)
      have HCh := Lib.hid hch
      clear hch
      have HBy := Lib.hid (show byN s = text by rw [← HS.out]; exact byN_strN text H8.out)
      go_wp2_with (first | (at_builtin; refine appN rfl (.tmp 42) (.tmp 43) 22 rfl wr.heap.size 5 .u8 1 Tryd.underlying22 infoByte (.slice none 0 0) [] rfl (OwnI.nil _ _ _ _) gh 0 12 hcap (le 8 num ++ le 4 L) (by simp) rfl HCh.out (by simp [maxLen]) (by simp) (Nat.le_refl _) ?_; intro v5 w5 ho5 hk5; have HO5 := Lib.hid ho5; have HK5 := Lib.hid hk5; clear ho5 hk5) | (at_builtin; refine appStr rfl (.tmp 45) (.tmp 46) 22 9 rfl wr.heap.size 5 Tryd.underlying22 Tryd.underlying9 infoByte _ ([] ++ (le 8 num ++ le 4 L)) rfl HO5.out s text HBy.out rfl (by have := HLn.out; simp; omega) HK5.out.size ?_; intro v6 w6 ho6 hk6; have HO6 := Lib.hid ho6; have HK6 := Lib.hid (HK5.out.toBelow.trans hk6.toBelow); clear ho6 hk6))
      have HSm := Lib.hid (show Calls Tryd.prog 55 #[v6] w6 fun e w' => e = .returned (.int .u32 (sumR num text)) ∧ w6 = w' by
        have := rSum_any v6 _ w6 HO6.out.read (fun x hx => by
          rw [List.nil_append] at hx
          rcases List.mem_append.1 hx with hx | hx
          · rcases List.mem_append.1 hx with hx | hx <;> exact le_lt _ _ _ hx
          · exact H8.out x hx)
        rw [List.nil_append] at this
        unfold sumR
        rw [HL.out]
        exact this)
      obtain ⟨X, hX⟩ : ∃ X, sumR num text = X := ⟨_, rfl⟩
      rw [hX] at HSm
      have HX := Lib.hid hX
      have HO7 := Lib.hid (HOh.out.below HK6.out)
      have HB7 := Lib.hid (HBh.out.trans (HK6.out.mono HBh.out.size))
      clear hX HCh HO5 HK5 HO6 HOh
      refine HSm.out.mono ?_
      rintro e w' ⟨rfl, rfl⟩
      go_wp2_with fail
      go_loopw [5, 10] (fun v vi W => ∃ k : Nat, k ≤ 4 ∧ vi = .int .i64 k ∧ OwnI W w.heap.size 5 .u8 v (le 8 num ++ le 4 L ++ le k X) ∧ Below w.heap.size w W) (fun _ vi _ => 4 - (intOf vi).toNat)
      case atStart => exact ⟨0, by omega, rfl, by simpa [le] using HO7.out, HB7.out⟩
      case round =>
        obtain ⟨k, hk, rfl, ho, hb⟩ := hrel
        have HO := Lib.hid ho; have HB := Lib.hid hb
        clear ho hb HO7 HB7
        obtain rfl | rfl | rfl | rfl | rfl : k = 0 ∨ k = 1 ∨ k = 2 ∨ k = 3 ∨ k = 4 := by omega
        · go_wp2_with (at_builtin; refine app1K rfl (.tmp 54) (.tmp 61) 22 rfl w.heap.size 5 .u8 1 Tryd.underlying22 infoByte _ (le 8 num ++ le 4 L ++ le 0 X) rfl HO.out (X / 256 ^ 0 % 256) _ (by simp <;> omega) wr.heap.size rfl rfl (by simp [maxLen]) (by simp) HB.out.size ?_; intro v' w' ho' hk')
          have HO2 := Lib.hid (show OwnI w' w.heap.size 5 .u8 v' (le 8 num ++ le 4 L ++ le 1 X) by rw [le_snoc 0 X]; simpa using ho')
          have HB2 := Lib.hid (HB.out.trans hk'.toBelow)
          clear ho' hk'
          go_wp2_with fail
          go_roundw
          case rel => exact ⟨1, by omega, rfl, HO2.out, HB2.out⟩
          case measure => simp [intOf]
        · go_wp2_with (at_builtin; refine app1K rfl (.tmp 54) (.tmp 61) 22 rfl w.heap.size 5 .u8 1 Tryd.underlying22 infoByte _ (le 8 num ++ le 4 L ++ le 1 X) rfl HO.out (X / 256 ^ 1 % 256) _ (by simp <;> omega) wr.heap.size rfl rfl (by simp [maxLen]) (by simp) HB.out.size ?_; intro v' w' ho' hk')
          have HO2 := Lib.hid (show OwnI w' w.heap.size 5 .u8 v' (le 8 num ++ le 4 L ++ le 2 X) by rw [le_snoc 1 X]; simpa using ho')
          have HB2 := Lib.hid (HB.out.trans hk'.toBelow)
          clear ho' hk'
          go_wp2_with fail
          go_roundw
          case rel => exact ⟨2, by omega, rfl, HO2.out, HB2.out⟩
          case measure => simp [intOf]
        · go_wp2_with (at_builtin; refine app1K rfl (.tmp 54) (.tmp 61) 22 rfl w.heap.size 5 .u8 1 Tryd.underlying22 infoByte _ (le 8 num ++ le 4 L ++ le 2 X) rfl HO.out (X / 256 ^ 2 % 256) _ (by simp <;> omega) wr.heap.size rfl rfl (by simp [maxLen]) (by simp) HB.out.size ?_; intro v' w' ho' hk')
          have HO2 := Lib.hid (show OwnI w' w.heap.size 5 .u8 v' (le 8 num ++ le 4 L ++ le 3 X) by rw [le_snoc 2 X]; simpa using ho')
          have HB2 := Lib.hid (HB.out.trans hk'.toBelow)
          clear ho' hk'
          go_wp2_with fail
          go_roundw
          case rel => exact ⟨3, by omega, rfl, HO2.out, HB2.out⟩
          case measure => simp [intOf]
        · go_wp2_with (at_builtin; refine app1K rfl (.tmp 54) (.tmp 61) 22 rfl w.heap.size 5 .u8 1 Tryd.underlying22 infoByte _ (le 8 num ++ le 4 L ++ le 3 X) rfl HO.out (X / 256 ^ 3 % 256) _ (by simp <;> omega) wr.heap.size rfl rfl (by simp [maxLen]) (by simp) HB.out.size ?_; intro v' w' ho' hk')
          have HO2 := Lib.hid (show OwnI w' w.heap.size 5 .u8 v' (le 8 num ++ le 4 L ++ le 4 X) by rw [le_snoc 3 X]; simpa using ho')
          have HB2 := Lib.hid (HB.out.trans hk'.toBelow)
          clear ho' hk'
          go_wp2_with fail
          go_roundw
          case rel => exact ⟨4, by omega, rfl, HO2.out, HB2.out⟩
          case measure => simp [intOf]
        have HOh := Lib.hid HO.out; have HBh := Lib.hid HB.out
        clear HO HB hk HSm HK6
        rw [show ((4 : Nat) : Int) = 4 from rfl]
        obtain ⟨gh, hcap, rfl⟩ := sector.own_form HOh.out 16 (by simp) (by omega)
        have hcp := sector.own_cap2 HOh.out (show _ = 16 by simp)
        have HCp := Lib.hid hcp
        have hch : ∀ j, j < 16 → wr.cell? ⟨gh, 0 + j, none⟩ = some (.int .u8 ((le 8 num ++ le 4 L ++ le 4 X).getD j 0 : Nat)) := fun j hj => sector.SlI.cell HOh.out.read j (by simpa using hj)
        have HCh := Lib.hid hch
        have HBu := Lib.hid (own_built wr 5 .u8 [1] wr.heap.size rfl #[.int .u8 1] rfl wr.heap.size (Nat.le_refl _) (by simp [maxLen]))
        have HBb := Lib.hid ((Below.refl wr.heap.size wr).alloc (Nat.le_refl _) (.cells #[.int .u8 1] 5))
        clear hch hcp
        go_wp2_with (at_builtin; refine appN rfl (.tmp 63) (.tmp 64) 22 rfl wr.heap.size 5 .u8 1 Tryd.underlying22 infoByte _ [1] rfl HBu.out gh 0 16 hcap (le 8 num ++ le 4 L ++ le 4 X) (by simp) rfl (fun j hj => (HBb.out.cell (p := ⟨gh, 0 + j, none⟩) (cell_lt (HCh.out j hj))).trans (HCh.out j hj)) (by simp [maxLen]) (by simp) HBb.out.size ?_; intro v5 w5 ho5 hk5)
        have HO5 := Lib.hid ho5
        have HB5 := Lib.hid (HBb.out.trans hk5.toBelow)
        have HT5 := Lib.hid (OwnT.nil w5 wr.heap.size)
        clear ho5 hk5 HBu HBb
        obtain ⟨W3, rfl⟩ : ∃ W3, W3 = wr := ⟨_, rfl⟩
        obtain ⟨N, hN⟩ : ∃ N, need L = N := ⟨_, rfl⟩
        have HNe : Hid (∀ u, Calls Tryd.prog 29 #[.int .i64 ((L : Nat) : Int)] u fun e w' => e = .returned (.int .i64 (N : Nat)) ∧ u = w') := Lib.hid fun u => by
          have := rNeed_any (L : Int) u (by omega) (by have := HLn.out; have := HL.out; omega)
          rw [Int.toNat_natCast, hN] at this
          exact this
        have HN := Lib.hid hN
        have HNl := Lib.hid (show N ≤ 300001 by have := need_le L; rw [hN] at this; have := HLn.out; have := HL.out; omega)
        have HF5 := Lib.hid (show FirstB w5 W3.heap.size v5 ([1] ++ (le 8 num ++ le 4 L ++ le 4 X)) 0 from fun _ => HO5.out)
        have hsz := HSz.out
        clear hN HO5
        go_loopw [11, 12, 13, 14] (fun vl vb va vi W => ∃ i : Nat, i ≤ N ∧ vi = .int .i64 i ∧ va = .int .i64 (atN L i : Nat) ∧ OwnT W W3.heap.size vl ((List.range i).map fun i => strN (pieceB num text i)) ∧ FirstB W W3.heap.size vb ([1] ++ (le 8 num ++ le 4 L ++ le 4 X)) i ∧ Below W3.heap.size W3 W) (fun _ _ _ vi _ => N - (intOf vi).toNat)
        case atStart => exact ⟨0, by omega, rfl, rfl, HT5.out, HF5.out, HB5.out⟩
        case round =>
          obtain ⟨i, hi, rfl, rfl, hT, hF, hb⟩ := hrel
          have HT := Lib.hid hT; have HF := Lib.hid hF; have HB := Lib.hid hb
          clear hT hF hb HT5 HF5 HB5
          by_cases hin : i < N
          · have hinI : (i : Int) < (N : Int) := by omega
            have HIn := Lib.hid hin
            by_cases hi0 : i = 0
            · subst hi0
              go_wp2_with fail
              refine (HNe.out _).mono ?_
              rintro e w' ⟨rfl, rfl⟩
              have HOi := Lib.hid (HF.out rfl)
              have HBi := HB; have HTi := HT
              have HA0 := Lib.hid (show atN L 0 + 0 ≤ L by unfold atN; simp)
              go_wp2_with fail
              go_loopw [12, 13] (fun vb va W => ∃ j : Nat, j ≤ 47 ∧ atN L 0 + j ≤ L ∧ va = .int .i64 ((atN L 0 + j : Nat) : Int) ∧ OwnI W W3.heap.size 5 .u8 vb (([1] ++ (le 8 num ++ le 4 L ++ le 4 X)) ++ (text.drop (atN L 0)).take j) ∧ Below W3.heap.size W3 W ∧ OwnT W W3.heap.size u11 ((List.range 0).map fun i => strN (pieceB num text i))) (fun _ va _ => L - (intOf va).toNat)
              case atStart => exact ⟨0, by omega, HA0.out, rfl, by simpa using HOi.out, HBi.out, HTi.out⟩
              case round =>
                obtain ⟨j, hj, haj, rfl, ho, hb, ht⟩ := hrel
                have HO := Lib.hid ho; have HB2 := Lib.hid hb; have HT2 := Lib.hid ht; have HJ := Lib.hid hj; have HAj := Lib.hid haj
                have hlen : (([1] ++ (le 8 num ++ le 4 L ++ le 4 X)) ++ (text.drop (atN L 0)).take j).length = 17 + j := by have := HL.out; simp [this]; omega
                obtain ⟨ab, cb, rfl⟩ := own_any8 ho (17 + j) hlen
                have HLe := Lib.hid hlen
                clear ho hb ht hlen
                by_cases hgo : j < 47 ∧ atN L 0 + j < L
                · obtain ⟨hg1, hg2⟩ := hgo
                  have hg1I : (17 : Int) + (j : Int) < 64 := by omega
                  have hg2I : ((atN L 0 + j : Nat) : Int) < (L : Int) := by omega
                  have hg3 : (0 : Int) ≤ ((atN L 0 + j : Nat) : Int) := by omega
                  have HG2 := Lib.hid hg2
                  obtain ⟨A, hA⟩ : ∃ A, atN L 0 + j = A := ⟨_, rfl⟩
                  rw [hA] at hg2I hg3
                  rw [hA]
                  have HA := Lib.hid hA
                  have HGe := Lib.hid (show ∀ h : A < s.size, ((s[A]'h).toNat : Int) = ((text.getD A 0 : Nat) : Int) from fun h => by rw [← byN_get s A h, HBy.out])
                  have HM1 := Lib.hid (show (([1] ++ (le 8 num ++ le 4 L ++ le 4 X)) ++ (text.drop (atN L 0)).take j).length + 1 ≤ maxLen by rw [HLe.out]; have := HJ.out; unfold maxLen; omega)
                  have HM2 := Lib.hid (show ((([1] ++ (le 8 num ++ le 4 L ++ le 4 X)) ++ (text.drop (atN L 0)).take j).length + 1) * 1 ≤ 140737488355328 by rw [HLe.out]; have := HJ.out; omega)
                  have HSz2 := Lib.hid HB2.out.size
                  clear hg1 hg2 hj haj hA
                  go_wp2_with (at_builtin; refine app1K rfl (.tmp 88) (.tmp 92) 22 rfl W3.heap.size 5 .u8 1 Tryd.underlying22 infoByte _ (([1] ++ (le 8 num ++ le 4 L ++ le 4 X)) ++ (text.drop (atN L 0)).take j) rfl HO.out (text.getD A 0) _ (HGe.out _) wr.heap.size rfl rfl HM1.out HM2.out HSz2.out ?_; intro v' w' ho' hk')
                  have HO9 := Lib.hid (show OwnI w' W3.heap.size 5 .u8 v' (([1] ++ (le 8 num ++ le 4 L ++ le 4 X)) ++ (text.drop (atN L 0)).take (j + 1)) by
                    rw [List.take_add_one, List.getElem?_drop, HA.out, ← List.append_assoc]
                    have hin2 : A < text.length := by rw [HL.out, ← HA.out]; exact HG2.out
                    simpa [List.getD, List.getElem?_eq_getElem hin2] using ho')
                  have HB9 := Lib.hid (HB2.out.trans hk'.toBelow)
                  have HT9 := Lib.hid (show OwnT w' W3.heap.size u11 ((List.range 0).map fun i => strN (pieceB num text i)) from own_kept HT2.out (by decide) hk')
                  have HA1 := Lib.hid (show wrap64 ((A : Int) + 1) = ((atN L 0 + (j + 1) : Nat) : Int) by have := HA.out; have := HG2.out; have := HLn.out; have := HL.out; unfold wrap64; omega)
                  clear ho' hk'
                  go_wp2_with fail
                  rw [HA1.out]
                  go_roundw
                  case rel => exact ⟨j + 1, by omega, by have := HG2.out; omega, rfl, HO9.out, HB9.out, HT9.out⟩
                  case measure => have := HG2.out; have := HA.out; simp [intOf]; omega
                · have HSt := Lib.hid (show j = 47 ∨ atN L 0 + j = L by omega)
                  have hcase : ¬ (17 : Int) + (j : Int) < 64 ∨ ((17 : Int) + (j : Int) < 64 ∧ ¬ ((atN L 0 : Nat) : Int) + (j : Int) < (L : Int)) := by omega
                  clear hgo hj haj
                  have HDl := HLe
                  obtain ⟨D, hD⟩ : ∃ D, ([1] ++ (le 8 num ++ le 4 L ++ le 4 X)) ++ (text.drop (atN L 0)).take j = D := ⟨_, rfl⟩
                  have HD := Lib.hid hD
                  rw [hD] at HO HDl
                  clear hD
                  rcases hcase with hc1 | ⟨hc1, hc2⟩
                  · go_wp2_with fail
                    have HC1 := Lib.hid hc1
                    clear hc1
                    go_loopw [12] (fun vb W => ∃ q : Nat, 17 + j + q ≤ 64 ∧ OwnI W W3.heap.size 5 .u8 vb (D ++ List.replicate q 0) ∧ Below W3.heap.size W3 W ∧ OwnT W W3.heap.size u11 ((List.range 0).map fun i => strN (pieceB num text i))) (fun vb _ => 64 - lenV vb)
                    case atStart => exact ⟨0, by have := HJ.out; omega, by simpa using HO.out, HB2.out, HT2.out⟩
                    case round =>
                      obtain ⟨q, hq, ho, hb, ht⟩ := hrel
                      have HO6 := Lib.hid ho; have HB6 := Lib.hid hb; have HT6 := Lib.hid ht
                      have hlen2 : (D ++ List.replicate q 0).length = 17 + j + q := by rw [List.length_append, HDl.out, List.length_replicate]
                      obtain ⟨ab2, cb2, rfl⟩ := own_any8 ho _ hlen2
                      have HL6 := Lib.hid hlen2
                      have HQ := Lib.hid hq
                      clear hb ht hlen2
                      by_cases hg : 17 + j + q < 64
                      · exact absurd hg (by have := HC1.out; omega)
                      · have hg6 : ¬ (17 : Int) + (j : Int) + (q : Int) < 64 := by omega
                        have hpc : D ++ List.replicate q 0 = pieceB num text 0 := by
                          rw [← HD.out]
                          exact piece0 HL.out HX.out HJ.out HAj.out HSt.out (by omega)
                        rw [hpc] at ho
                        have hcv := conv_sl ho.read
                        have HAt := Lib.hid (show atN L 0 + j = atN L (0 + 1) by have h1 := HSt.out; have h2 := HAj.out; have h3 := HJ.out; exact atN_next0 h3 h2 h1)
                        have HM1 := Lib.hid (show ((List.range 0).map fun i => strN (pieceB num text i)).length + 1 ≤ maxLen by have := HIn.out; have := HNl.out; simp [maxLen]; try omega)
                        have HM2 := Lib.hid (show (((List.range 0).map fun i => strN (pieceB num text i)).length + 1) * 16 ≤ 140737488355328 by have := HIn.out; have := HNl.out; simp; try omega)
                        have HSz2 := Lib.hid HB6.out.size
                        clear hg hpc ho hq
                        go_wp2_with (at_builtin; refine app1T rfl (.tmp 102) (.tmp 105) 30 rfl W3.heap.size Tryd.underlying30 infoStr u11 _ rfl HT6.out (strN (pieceB num text 0)) _ rfl rfl HM1.out HM2.out HSz2.out ?_; intro v9 w9 ho9 hk9 hg9)
                        have HT9 := Lib.hid (show OwnT w9 W3.heap.size v9 ((List.range (0 + 1)).map fun i => strN (pieceB num text i)) by rw [List.range_succ, List.map_append]; exact ho9)
                        have HB9 := Lib.hid (HB6.out.trans hk9.toBelow)
                        clear ho9 hk9 hg9 hcv
                        go_wp2_with fail
                        go_roundw
                        case rel => exact ⟨0 + 1, by have := HIn.out; omega, by go_num, congrArg (Value.int .i64) (by have := HAt.out; omega), HT9.out, fun h => by omega, HB9.out⟩
                        case measure => have := HIn.out; simp [intOf]; omega
                  · go_wp2_with fail
                    clear hc1 hc2
                    go_loopw [12] (fun vb W => ∃ q : Nat, 17 + j + q ≤ 64 ∧ OwnI W W3.heap.size 5 .u8 vb (D ++ List.replicate q 0) ∧ Below W3.heap.size W3 W ∧ OwnT W W3.heap.size u11 ((List.range 0).map fun i => strN (pieceB num text i))) (fun vb _ => 64 - lenV vb)
                    case atStart => exact ⟨0, by have := HJ.out; omega, by simpa using HO.out, HB2.out, HT2.out⟩
                    case round =>
                      obtain ⟨q, hq, ho, hb, ht⟩ := hrel
                      have HO6 := Lib.hid ho; have HB6 := Lib.hid hb; have HT6 := Lib.hid ht
                      have hlen2 : (D ++ List.replicate q 0).length = 17 + j + q := by rw [List.length_append, HDl.out, List.length_replicate]
                      obtain ⟨ab2, cb2, rfl⟩ := own_any8 ho _ hlen2
                      have HL6 := Lib.hid hlen2
                      have HQ := Lib.hid hq
                      clear hb ht hlen2
                      by_cases hg : 17 + j + q < 64
                      · have hgI : (17 : Int) + (j : Int) + (q : Int) < 64 := by omega
                        have HM1 := Lib.hid (show (D ++ List.replicate q 0).length + 1 ≤ maxLen by rw [HL6.out]; unfold maxLen; omega)
                        have HM2 := Lib.hid (show ((D ++ List.replicate q 0).length + 1) * 1 ≤ 140737488355328 by rw [HL6.out]; omega)
                        have HSz2 := Lib.hid HB6.out.size
                        have HGg := Lib.hid hg
                        clear ho hq hg
                        go_wp2_with (at_builtin; refine app1K rfl (.tmp 99) (.tmp 100) 22 rfl W3.heap.size 5 .u8 1 Tryd.underlying22 infoByte _ (D ++ List.replicate q 0) rfl HO6.out 0 0 rfl wr.heap.size rfl rfl HM1.out HM2.out HSz2.out ?_; intro v' w' ho' hk')
                        have HO9 := Lib.hid (show OwnI w' W3.heap.size 5 .u8 v' (D ++ List.replicate (q + 1) 0) by
                          rw [List.replicate_succ', ← List.append_assoc]
                          exact ho')
                        have HB9 := Lib.hid (HB6.out.trans hk'.toBelow)
                        have HT9 := Lib.hid (show OwnT w' W3.heap.size u11 ((List.range 0).map fun i => strN (pieceB num text i)) from own_kept HT6.out (by decide) hk')
                        obtain ⟨av, cv, hv⟩ := own_any8 ho' (17 + j + q + 1) (by rw [List.length_append, HL6.out]; rfl)
                        have HV := Lib.hid hv
                        clear ho' hk' hv
                        go_wp2_with fail
                        go_roundw
                        case rel => exact ⟨q + 1, by have := HGg.out; omega, HO9.out, HB9.out, HT9.out⟩
                        case measure =>
                          have := HGg.out
                          rw [HV.out]
                          simp only [lenV]
                          omega
                      · have hg6 : ¬ (17 : Int) + (j : Int) + (q : Int) < 64 := by omega
                        have hpc : D ++ List.replicate q 0 = pieceB num text 0 := by
                          rw [← HD.out]
                          exact piece0 HL.out HX.out HJ.out HAj.out HSt.out (by omega)
                        rw [hpc] at ho
                        have hcv := conv_sl ho.read
                        have HAt := Lib.hid (show atN L 0 + j = atN L (0 + 1) by have h1 := HSt.out; have h2 := HAj.out; have h3 := HJ.out; exact atN_next0 h3 h2 h1)
                        have HM1 := Lib.hid (show ((List.range 0).map fun i => strN (pieceB num text i)).length + 1 ≤ maxLen by have := HIn.out; have := HNl.out; simp [maxLen]; try omega)
                        have HM2 := Lib.hid (show (((List.range 0).map fun i => strN (pieceB num text i)).length + 1) * 16 ≤ 140737488355328 by have := HIn.out; have := HNl.out; simp; try omega)
                        have HSz2 := Lib.hid HB6.out.size
                        clear hg hpc ho hq
                        go_wp2_with (at_builtin; refine app1T rfl (.tmp 102) (.tmp 105) 30 rfl W3.heap.size Tryd.underlying30 infoStr u11 _ rfl HT6.out (strN (pieceB num text 0)) _ rfl rfl HM1.out HM2.out HSz2.out ?_; intro v9 w9 ho9 hk9 hg9)
                        have HT9 := Lib.hid (show OwnT w9 W3.heap.size v9 ((List.range (0 + 1)).map fun i => strN (pieceB num text i)) by rw [List.range_succ, List.map_append]; exact ho9)
                        have HB9 := Lib.hid (HB6.out.trans hk9.toBelow)
                        clear ho9 hk9 hg9 hcv
                        go_wp2_with fail
                        go_roundw
                        case rel => exact ⟨0 + 1, by have := HIn.out; omega, by go_num, congrArg (Value.int .i64) (by have := HAt.out; omega), HT9.out, fun h => by omega, HB9.out⟩
                        case measure => have := HIn.out; simp [intOf]; omega
            · have hi1 : (0 : Int) < (i : Int) := by omega
              have HI1 := Lib.hid (show 0 < i by omega)
              have h8c : (8 : Int) ≤ (hcap : Int) := by have := HCp.out; omega
              have HBu := Lib.hid (own_built wr 5 .u8 [2] wr.heap.size rfl #[.int .u8 2] rfl W3.heap.size HB.out.size (by simp [maxLen]))
              have HBb := Lib.hid (HB.out.trans (((Below.refl wr.heap.size wr).alloc (Nat.le_refl _) (.cells #[.int .u8 2] 5)).mono HB.out.size))
              have HTb := Lib.hid (HT.out.below ((Below.refl wr.heap.size wr).alloc (Nat.le_refl _) (.cells #[.int .u8 2] 5)))
              have HC8 := Lib.hid (show ∀ j, j < 8 → (wr.alloc (.cells #[.int .u8 2] 5)).cell? ⟨gh, 0 + j, none⟩ = some (.int .u8 ((le 8 num).getD j 0 : Nat)) from fun j hj => by
                have h1 := (HBb.out.cell (p := ⟨gh, 0 + j, none⟩) (cell_lt (HCh.out j (by omega)))).trans (HCh.out j (by omega))
                rw [h1]
                congr 3
                simp only [List.getD]
                rw [List.append_assoc, List.getElem?_append_left (by simpa using hj)])
              have HA0 := Lib.hid (show atN L i + 0 ≤ L by unfold atN; split <;> omega)
              clear hi0
              go_wp2_with fail
              refine (HNe.out _).mono ?_
              rintro e w' ⟨rfl, rfl⟩
              go_wp2_with (at_builtin; refine appN rfl (.tmp 75) (.tmp 77) 22 rfl W3.heap.size 5 .u8 1 Tryd.underlying22 infoByte _ [2] rfl HBu.out gh 0 8 hcap (le 8 num) (by simp) rfl HC8.out (by simp [maxLen]) (by simp) HBb.out.size ?_; intro v7 w7 ho7 hk7)
              have HOi := Lib.hid ho7
              have HBi := Lib.hid (HBb.out.trans hk7.toBelow)
              have HTi := Lib.hid (show OwnT w7 W3.heap.size u11 ((List.range i).map fun i => strN (pieceB num text i)) from own_kept HTb.out (by decide) hk7)
              clear ho7 hk7 hi1 h8c
              go_loopw [12, 13] (fun vb va W => ∃ j : Nat, j ≤ 55 ∧ atN L i + j ≤ L ∧ va = .int .i64 ((atN L i + j : Nat) : Int) ∧ OwnI W W3.heap.size 5 .u8 vb (([2] ++ le 8 num) ++ (text.drop (atN L i)).take j) ∧ Below W3.heap.size W3 W ∧ OwnT W W3.heap.size u11 ((List.range i).map fun i => strN (pieceB num text i))) (fun _ va _ => L - (intOf va).toNat)
              case atStart => exact ⟨0, by omega, HA0.out, rfl, by simpa using HOi.out, HBi.out, HTi.out⟩
              case round =>
                obtain ⟨j, hj, haj, rfl, ho, hb, ht⟩ := hrel
                have HO := Lib.hid ho; have HB2 := Lib.hid hb; have HT2 := Lib.hid ht; have HJ := Lib.hid hj; have HAj := Lib.hid haj
                have hlen : (([2] ++ le 8 num) ++ (text.drop (atN L i)).take j).length = 9 + j := by have := HL.out; simp [this]; omega
                obtain ⟨ab, cb, rfl⟩ := own_any8 ho (9 + j) hlen
                have HLe := Lib.hid hlen
                clear ho hb ht hlen
                by_cases hgo : j < 55 ∧ atN L i + j < L
                · obtain ⟨hg1, hg2⟩ := hgo
                  have hg1I : (9 : Int) + (j : Int) < 64 := by omega
                  have hg2I : ((atN L i + j : Nat) : Int) < (L : Int) := by omega
                  have hg3 : (0 : Int) ≤ ((atN L i + j : Nat) : Int) := by omega
                  have HG2 := Lib.hid hg2
                  obtain ⟨A, hA⟩ : ∃ A, atN L i + j = A := ⟨_, rfl⟩
                  rw [hA] at hg2I hg3
                  rw [hA]
                  have HA := Lib.hid hA
                  have HGe := Lib.hid (show ∀ h : A < s.size, ((s[A]'h).toNat : Int) = ((text.getD A 0 : Nat) : Int) from fun h => by rw [← byN_get s A h, HBy.out])
                  have HM1 := Lib.hid (show (([2] ++ le 8 num) ++ (text.drop (atN L i)).take j).length + 1 ≤ maxLen by rw [HLe.out]; have := HJ.out; unfold maxLen; omega)
                  have HM2 := Lib.hid (show ((([2] ++ le 8 num) ++ (text.drop (atN L i)).take j).length + 1) * 1 ≤ 140737488355328 by rw [HLe.out]; have := HJ.out; omega)
                  have HSz2 := Lib.hid HB2.out.size
                  clear hg1 hg2 hj haj hA
                  go_wp2_with (at_builtin; refine app1K rfl (.tmp 88) (.tmp 92) 22 rfl W3.heap.size 5 .u8 1 Tryd.underlying22 infoByte _ (([2] ++ le 8 num) ++ (text.drop (atN L i)).take j) rfl HO.out (text.getD A 0) _ (HGe.out _) wr.heap.size rfl rfl HM1.out HM2.out HSz2.out ?_; intro v' w' ho' hk')
                  have HO9 := Lib.hid (show OwnI w' W3.heap.size 5 .u8 v' (([2] ++ le 8 num) ++ (text.drop (atN L i)).take (j + 1)) by
                    rw [List.take_add_one, List.getElem?_drop, HA.out, ← List.append_assoc]
                    have hin2 : A < text.length := by rw [HL.out, ← HA.out]; exact HG2.out
                    simpa [List.getD, List.getElem?_eq_getElem hin2] using ho')
                  have HB9 := Lib.hid (HB2.out.trans hk'.toBelow)
                  have HT9 := Lib.hid (show OwnT w' W3.heap.size u11 ((List.range i).map fun i => strN (pieceB num text i)) from own_kept HT2.out (by decide) hk')
                  have HA1 := Lib.hid (show wrap64 ((A : Int) + 1) = ((atN L i + (j + 1) : Nat) : Int) by have := HA.out; have := HG2.out; have := HLn.out; have := HL.out; unfold wrap64; omega)
                  clear ho' hk'
                  go_wp2_with fail
                  rw [HA1.out]
                  go_roundw
                  case rel => exact ⟨j + 1, by omega, by have := HG2.out; omega, rfl, HO9.out, HB9.out, HT9.out⟩
                  case measure => have := HG2.out; have := HA.out; simp [intOf]; omega
                · have HSt := Lib.hid (show j = 55 ∨ atN L i + j = L by omega)
                  have hcase : ¬ (9 : Int) + (j : Int) < 64 ∨ ((9 : Int) + (j : Int) < 64 ∧ ¬ ((atN L i : Nat) : Int) + (j : Int) < (L : Int)) := by omega
                  clear hgo hj haj
                  have HDl := HLe
                  obtain ⟨D, hD⟩ : ∃ D, ([2] ++ le 8 num) ++ (text.drop (atN L i)).take j = D := ⟨_, rfl⟩
                  have HD := Lib.hid hD
                  rw [hD] at HO HDl
                  clear hD
                  rcases hcase with hc1 | ⟨hc1, hc2⟩
                  · go_wp2_with fail
                    have HC1 := Lib.hid hc1
                    clear hc1
                    go_loopw [12] (fun vb W => ∃ q : Nat, 9 + j + q ≤ 64 ∧ OwnI W W3.heap.size 5 .u8 vb (D ++ List.replicate q 0) ∧ Below W3.heap.size W3 W ∧ OwnT W W3.heap.size u11 ((List.range i).map fun i => strN (pieceB num text i))) (fun vb _ => 64 - lenV vb)
                    case atStart => exact ⟨0, by have := HJ.out; omega, by simpa using HO.out, HB2.out, HT2.out⟩
                    case round =>
                      obtain ⟨q, hq, ho, hb, ht⟩ := hrel
                      have HO6 := Lib.hid ho; have HB6 := Lib.hid hb; have HT6 := Lib.hid ht
                      have hlen2 : (D ++ List.replicate q 0).length = 9 + j + q := by rw [List.length_append, HDl.out, List.length_replicate]
                      obtain ⟨ab2, cb2, rfl⟩ := own_any8 ho _ hlen2
                      have HL6 := Lib.hid hlen2
                      have HQ := Lib.hid hq
                      clear hb ht hlen2
                      by_cases hg : 9 + j + q < 64
                      · exact absurd hg (by have := HC1.out; omega)
                      · have hg6 : ¬ (9 : Int) + (j : Int) + (q : Int) < 64 := by omega
                        have hpc : D ++ List.replicate q 0 = pieceB num text i := by
                          rw [← HD.out]
                          exact pieceI HL.out HI1.out (need_in (by rw [HN.out]; exact HIn.out) HI1.out) HJ.out HAj.out HSt.out (by omega)
                        rw [hpc] at ho
                        have hcv := conv_sl ho.read
                        have HAt := Lib.hid (show atN L i + j = atN L (i + 1) by have h1 := HSt.out; have h2 := HAj.out; have h3 := HJ.out; exact atN_nextI HI1.out (need_in (by rw [HN.out]; exact HIn.out) HI1.out) h3 h2 h1)
                        have HM1 := Lib.hid (show ((List.range i).map fun i => strN (pieceB num text i)).length + 1 ≤ maxLen by have := HIn.out; have := HNl.out; simp [maxLen]; try omega)
                        have HM2 := Lib.hid (show (((List.range i).map fun i => strN (pieceB num text i)).length + 1) * 16 ≤ 140737488355328 by have := HIn.out; have := HNl.out; simp; try omega)
                        have HSz2 := Lib.hid HB6.out.size
                        clear hg hpc ho hq
                        go_wp2_with (at_builtin; refine app1T rfl (.tmp 102) (.tmp 105) 30 rfl W3.heap.size Tryd.underlying30 infoStr u11 _ rfl HT6.out (strN (pieceB num text i)) _ rfl rfl HM1.out HM2.out HSz2.out ?_; intro v9 w9 ho9 hk9 hg9)
                        have HT9 := Lib.hid (show OwnT w9 W3.heap.size v9 ((List.range (i + 1)).map fun i => strN (pieceB num text i)) by rw [List.range_succ, List.map_append]; exact ho9)
                        have HB9 := Lib.hid (HB6.out.trans hk9.toBelow)
                        clear ho9 hk9 hg9 hcv
                        go_wp2_with fail
                        rw [show wrap64 ((i : Int) + 1) = (i : Int) + 1 by have := HIn.out; have := HNl.out; unfold wrap64; omega]
                        go_roundw
                        case rel => exact ⟨i + 1, by have := HIn.out; omega, by go_num, congrArg (Value.int .i64) (by have := HAt.out; omega), HT9.out, fun h => by omega, HB9.out⟩
                        case measure => have := HIn.out; simp [intOf]; omega
                  · go_wp2_with fail
                    clear hc1 hc2
                    go_loopw [12] (fun vb W => ∃ q : Nat, 9 + j + q ≤ 64 ∧ OwnI W W3.heap.size 5 .u8 vb (D ++ List.replicate q 0) ∧ Below W3.heap.size W3 W ∧ OwnT W W3.heap.size u11 ((List.range i).map fun i => strN (pieceB num text i))) (fun vb _ => 64 - lenV vb)
                    case atStart => exact ⟨0, by have := HJ.out; omega, by simpa using HO.out, HB2.out, HT2.out⟩
                    case round =>
                      obtain ⟨q, hq, ho, hb, ht⟩ := hrel
                      have HO6 := Lib.hid ho; have HB6 := Lib.hid hb; have HT6 := Lib.hid ht
                      have hlen2 : (D ++ List.replicate q 0).length = 9 + j + q := by rw [List.length_append, HDl.out, List.length_replicate]
                      obtain ⟨ab2, cb2, rfl⟩ := own_any8 ho _ hlen2
                      have HL6 := Lib.hid hlen2
                      have HQ := Lib.hid hq
                      clear hb ht hlen2
                      by_cases hg : 9 + j + q < 64
                      · have hgI : (9 : Int) + (j : Int) + (q : Int) < 64 := by omega
                        have HM1 := Lib.hid (show (D ++ List.replicate q 0).length + 1 ≤ maxLen by rw [HL6.out]; unfold maxLen; omega)
                        have HM2 := Lib.hid (show ((D ++ List.replicate q 0).length + 1) * 1 ≤ 140737488355328 by rw [HL6.out]; omega)
                        have HSz2 := Lib.hid HB6.out.size
                        have HGg := Lib.hid hg
                        clear ho hq hg
                        go_wp2_with (at_builtin; refine app1K rfl (.tmp 99) (.tmp 100) 22 rfl W3.heap.size 5 .u8 1 Tryd.underlying22 infoByte _ (D ++ List.replicate q 0) rfl HO6.out 0 0 rfl wr.heap.size rfl rfl HM1.out HM2.out HSz2.out ?_; intro v' w' ho' hk')
                        have HO9 := Lib.hid (show OwnI w' W3.heap.size 5 .u8 v' (D ++ List.replicate (q + 1) 0) by
                          rw [List.replicate_succ', ← List.append_assoc]
                          exact ho')
                        have HB9 := Lib.hid (HB6.out.trans hk'.toBelow)
                        have HT9 := Lib.hid (show OwnT w' W3.heap.size u11 ((List.range i).map fun i => strN (pieceB num text i)) from own_kept HT6.out (by decide) hk')
                        obtain ⟨av, cv, hv⟩ := own_any8 ho' (9 + j + q + 1) (by rw [List.length_append, HL6.out]; rfl)
                        have HV := Lib.hid hv
                        clear ho' hk' hv
                        go_wp2_with fail
                        go_roundw
                        case rel => exact ⟨q + 1, by have := HGg.out; omega, HO9.out, HB9.out, HT9.out⟩
                        case measure =>
                          have := HGg.out
                          rw [HV.out]
                          simp only [lenV]
                          omega
                      · have hg6 : ¬ (9 : Int) + (j : Int) + (q : Int) < 64 := by omega
                        have hpc : D ++ List.replicate q 0 = pieceB num text i := by
                          rw [← HD.out]
                          exact pieceI HL.out HI1.out (need_in (by rw [HN.out]; exact HIn.out) HI1.out) HJ.out HAj.out HSt.out (by omega)
                        rw [hpc] at ho
                        have hcv := conv_sl ho.read
                        have HAt := Lib.hid (show atN L i + j = atN L (i + 1) by have h1 := HSt.out; have h2 := HAj.out; have h3 := HJ.out; exact atN_nextI HI1.out (need_in (by rw [HN.out]; exact HIn.out) HI1.out) h3 h2 h1)
                        have HM1 := Lib.hid (show ((List.range i).map fun i => strN (pieceB num text i)).length + 1 ≤ maxLen by have := HIn.out; have := HNl.out; simp [maxLen]; try omega)
                        have HM2 := Lib.hid (show (((List.range i).map fun i => strN (pieceB num text i)).length + 1) * 16 ≤ 140737488355328 by have := HIn.out; have := HNl.out; simp; try omega)
                        have HSz2 := Lib.hid HB6.out.size
                        clear hg hpc ho hq
                        go_wp2_with (at_builtin; refine app1T rfl (.tmp 102) (.tmp 105) 30 rfl W3.heap.size Tryd.underlying30 infoStr u11 _ rfl HT6.out (strN (pieceB num text i)) _ rfl rfl HM1.out HM2.out HSz2.out ?_; intro v9 w9 ho9 hk9 hg9)
                        have HT9 := Lib.hid (show OwnT w9 W3.heap.size v9 ((List.range (i + 1)).map fun i => strN (pieceB num text i)) by rw [List.range_succ, List.map_append]; exact ho9)
                        have HB9 := Lib.hid (HB6.out.trans hk9.toBelow)
                        clear ho9 hk9 hg9 hcv
                        go_wp2_with fail
                        rw [show wrap64 ((i : Int) + 1) = (i : Int) + 1 by have := HIn.out; have := HNl.out; unfold wrap64; omega]
                        go_roundw
                        case rel => exact ⟨i + 1, by have := HIn.out; omega, by go_num, congrArg (Value.int .i64) (by have := HAt.out; omega), HT9.out, fun h => by omega, HB9.out⟩
                        case measure => have := HIn.out; simp [intOf]; omega
          · obtain rfl : i = N := by omega
            go_wp2_with fail
            refine (HNe.out _).mono ?_
            rintro e w' ⟨rfl, rfl⟩
            go_wp2
            go_ret
            refine ⟨⟨_, rfl, ?_⟩, HBh.out.trans (HB.out.mono HBh.out.size)⟩
            rw [HL.out, HN.out]
            exact HT.out.base HBh.out.size

end Go.Proofs.YtkhghkklekjdaaaDoor.journal
