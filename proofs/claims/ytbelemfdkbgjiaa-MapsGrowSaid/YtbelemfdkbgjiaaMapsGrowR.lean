/- Texts laid together: CodeReadW, CodeReadK, CodeBackM, CodeForth, CodeSame, MapsRep, MapsText, MapsRead, MapsDec, MapsApply, MapsChgs, MapsAll, MapsGrowM, MapsGrowB, MapsOnce, MapsFirst, MapsOk, MapsHas, MapsAwake, MapsLift, MapsLift2, MapsLawG. -/
import Derived.Test.YtbelemfdkbgjiaaRows
import Derived.Test.YtbelemfdkbgjiaaCodeReadL
import Derived.Deep.QuietTactic
import Derived.BigQuiet
import Derived.Test.YtbelemfdkbgjiaaCodeReadP
import Derived.Lib.ConvBytes
import Derived.Test.YtbelemfdkbgjiaaCodeRPart
import Derived.Test.YtbelemfdkbgjiaaCodeMath
import Derived.Test.YtbelemfdkbgjiaaCodeRFit
import Derived.Test.YtbelemfdkbgjiaaCodeSize
import Derived.Test.YtbelemfdkbgjiaaMapsRow
import Derived.Test.YtbelemfdkbgjiaaMapsInc
import Derived.Test.YtbelemfdkbgjiaaRuleApp
import Derived.StillTailTactics
import Derived.Test.YtbelemfdkbgjiaaMapsChg
import Derived.Deep.RegionHeld3
import Derived.Test.YtbelemfdkbgjiaaMapsChg5
import Derived.Test.YtbelemfdkbgjiaaMapsChg6
import Derived.Test.YtbelemfdkbgjiaaMapsBans
import Derived.Test.YtbelemfdkbgjiaaLift
import Derived.Deep.Slices
import Derived.Deep.Fields
namespace Go.Proofs.Ytbelemfdkbgjiaa.code
open Go.RowKit
open Go.Proofs.Ytbelemfdkbgjiaa.kit Go.Proofs.Ytbelemfdkbgjiaa.cm
set_option linter.unusedVariables false

theorem OwnF.base {W : World} {N M : Nat} {v : Value} {fs : List Fld} (h : OwnF W N v fs) (hm : M ≤ N) : OwnF W M v fs := by
  refine ⟨h.1, ?_⟩
  rcases h.2 with h | ⟨g, cap, cur, h1, h2, h3⟩
  · exact .inl h
  · exact .inr ⟨g, cap, cur, h1, Nat.le_trans hm h2, h3⟩

/-- A reader over bytes, laid anew. -/
theorem rest_new {w : World} {bv : Value} {bs : List Nat} (h8 : ∀ c ∈ bs, c < 256) (hb : SlB w bv bs (fun _ => True)) : Rest w.heap.size (w.alloc (.cells #[bv] 115)) w.heap.size bs := by
  refine ⟨h8, bv, heap_alloc_last w _, ?_⟩
  obtain ⟨hl, a, cap, rfl, hle, hc⟩ := hb
  refine ⟨hl, a, cap, rfl, hle, fun h0 => ?_⟩
  obtain ⟨b, off, rfl, _, hlt, hcell⟩ := hc h0
  have hbel : Below w.heap.size w (w.alloc (.cells #[.slice (some ⟨b, off, none⟩) bs.length cap] 115)) := (Below.refl _ _).alloc (Nat.le_refl _) _
  exact ⟨b, off, rfl, ⟨by omega, hlt⟩, Nat.lt_of_lt_of_le hlt hbel.size, fun j hj => (hbel.cell (p := ⟨b, _, none⟩) hlt).trans (hcell j hj)⟩

/-- What 'Read' says. -/
def ReadS (w : World) (bs : List Nat) (R0 : Except Int (List Fld × List Nat)) (e : Ending) (w' : World) : Prop :=
  Below w.heap.size w w' ∧
    match R0 with
    | .ok (fs, rr) => ∃ v, e = .returned (.tuple #[v, .int .i64 ((bs.length : Int) - (rr.length : Int)), .int .i64 0]) ∧ OwnF w' w.heap.size v fs
    | .error er => e = .returned (.tuple #[.slice none 0 0, .int .i64 0, .int .i64 er]) ∧ er ≠ 0

set_option maxHeartbeats 4000000 in
set_option maxRecDepth 100000 in
theorem Read_any (bv kv : Value) (bs : List Nat) (ks : List Int) (w : World) (hb : SlB w bv bs (fun _ => True)) (h8 : ∀ c ∈ bs, c < 256) (hk : SlK w kv ks) (hlen : ks.length ≤ 1000000000000) :
    Calls Try.prog 57 #[bv, kv] w (ReadS w bs (rA rField [] ks bs)) := by
  have hrn := rest_new h8 hb
  have hbel : Below w.heap.size w (w.alloc (.cells #[bv] 115)) := (Below.refl _ _).alloc (Nat.le_refl _) _
  have hk1 := hk.below hbel
  have hold : ∀ b off n c, kv = .slice (some ⟨b, off, none⟩) n c → 0 < n → b ≠ w.heap.size := by
    obtain ⟨hl, a, cap, rfl, hc⟩ := hk
    intro b off n c e hn
    cases e
    obtain ⟨b', off', e', hcell⟩ := hc hn
    cases e'
    have h1 := hcell 0 hn
    have := cell_lt (a := ⟨b, off + 0, none⟩) (by rw [h1]; simp)
    have h2 : b < w.heap.size := this
    omega
  have hsz : (w.alloc (.cells #[bv] 115)).heap.size = w.heap.size + 1 := by simp
  have H := Lib.hid (read_field (L := w.heap.size) kv ks w.heap.size bs _ hk1 hold hrn (by rw [hsz]; omega) hlen)
  obtain ⟨hbl, a, cap, rfl, hle, hc⟩ := hb
  have HB := Lib.hid hbel; have HSZ := Lib.hid hsz; have HRN := Lib.hid hrn
  clear hrn hbel hk1 hold hsz hk h8 hc hle
  obtain ⟨R0, hR0⟩ : ∃ R0, rA rField [] ks bs = R0 := ⟨_, rfl⟩
  rw [hR0] at H ⊢
  clear hR0
  have hmf : ∀ (fn : Fn) (first cap : Array Value) (w : World), (Instr.makeFunc fn first cap).run Try.prog w = .ok (.func fn first cap) w := fun _ _ _ _ => rfl
  go_enter Try.func57, Try.ntmps57
  go_wp2_with fail
  refine H.out.mono ?_
  cases R0 with
  | error er =>
    rintro e W1 ⟨hg, rfl, hne⟩
    have hne' : True → (er != 0) = true := fun _ => by simpa using hne
    have HG := Lib.hid hg; have HNE := Lib.hid hne
    clear hg hne H
    go_wp2
    go_ret3
    exact ⟨⟨HG.out.os, HG.out.tape, HG.out.output, by have := HG.out.size; have := HSZ.out; omega, fun k hk => (HG.out.block k (by have := HSZ.out; omega) (by simp; omega)).trans (HB.out.block k hk)⟩, rfl, HNE.out⟩
  | ok p =>
    obtain ⟨fs, rr⟩ := p
    rintro e W1 ⟨hg, ⟨v, rfl, ho⟩, hr⟩
    obtain ⟨_, rv, hrv, hrl, ra, rcap, rfl, hrle, hrc⟩ := hr
    have c0 := box_cell hrv
    have HG := Lib.hid hg; have HO := Lib.hid ho
    clear hg ho H hrv hrc hrle
    go_wp2
    go_quiet (fail)
    go_wp2
    go_ret3
    exact ⟨⟨HG.out.os, HG.out.tape, HG.out.output, by have := HG.out.size; have := HSZ.out; show w.heap.size ≤ W1.heap.size; omega, fun k hk => (HG.out.block k (by have := HSZ.out; omega) (by simp; omega)).trans (HB.out.block k hk)⟩, v, rfl, (HO.out.base (by rw [HSZ.out]; omega))⟩

end Go.Proofs.Ytbelemfdkbgjiaa.code

namespace Go.Proofs.Ytbelemfdkbgjiaa.code
open Go.RowKit
open Go.Proofs.Ytbelemfdkbgjiaa.kit Go.Proofs.Ytbelemfdkbgjiaa.cm
set_option linter.unusedVariables false

/-- '[]byte(s)'. -/
theorem str_bytes (w : World) (s : ByteArray) (hs : s.size ≤ 100000000000) : ∃ cap W1, (convert 9 70 (.string s)).run Try.prog w = .ok (.slice (some ⟨w.heap.size, 0, none⟩) s.size cap) W1 ∧
    SlB W1 (.slice (some ⟨w.heap.size, 0, none⟩) s.size cap) (txtN s) (fun _ => True) ∧ Below w.heap.size w W1 := by
  refine ⟨_, _, Lib.run_convert_string_bytes (P := Try.prog) w 9 70 5 s Try.underlying9 Try.underlying70 Try.underlying5, ?_, ?_⟩
  · have e : (txtN s).length = s.size := by unfold txtN; rw [List.length_map, Array.length_toList]; rfl
    refine ⟨by omega, _, _, by rw [e], by rw [e]; exact grownCap_ge _ _ _ _, fun _ => ⟨w.heap.size, 0, rfl, trivial, by rw [Lib.bytesWorld_size]; omega, fun j hj => ?_⟩⟩
    rw [e] at hj
    rw [Nat.zero_add, Lib.bytesWorld_cell w _ s j hj]
    have hj' : j < s.data.toList.length := by rw [Array.length_toList]; exact hj
    simp [txtN, List.getD, List.getElem?_eq_getElem hj']
  · exact ⟨rfl, rfl, rfl, by rw [Lib.bytesWorld_size]; omega, fun k hk => Lib.bytesWorld_at_old w _ s k hk⟩

/-- What 'ReadKey' says. -/
def ReadKS (w : World) (R0 : Except Int (List Fld × List Nat)) (e : Ending) (w' : World) : Prop :=
  Below w.heap.size w w' ∧
    match R0 with
    | .ok (fs, []) => ∃ v, e = .returned (.tuple #[v, .int .i64 0]) ∧ OwnF w' w.heap.size v fs
    | .ok (_, _ :: _) => e = .returned (.tuple #[.slice none 0 0, .int .i64 10])
    | .error er => e = .returned (.tuple #[.slice none 0 0, .int .i64 er]) ∧ er ≠ 0

end Go.Proofs.Ytbelemfdkbgjiaa.code

namespace Go.Proofs.Ytbelemfdkbgjiaa.code
open Go.RowKit
open Go.Proofs.Ytbelemfdkbgjiaa.kit Go.Proofs.Ytbelemfdkbgjiaa.cm
set_option linter.unusedVariables false
set_option linter.constructorNameAsVariable false

def B8 (bs : List Nat) : Prop := ∀ c ∈ bs, c < 256
theorem B8.tail {c : Nat} {bs : List Nat} (h : B8 (c :: bs)) : B8 bs := fun d hd => h d (by simp [hd])
theorem B8.head {c : Nat} {bs : List Nat} (h : B8 (c :: bs)) : c < 256 := h c (by simp)
theorem B8.right {a b : List Nat} (h : B8 (a ++ b)) : B8 b := fun d hd => h d (by simp [hd])
theorem B8.left {a b : List Nat} (h : B8 (a ++ b)) : B8 a := fun d hd => h d (by simp [hd])

theorem numG_back : ∀ (k i x : Nat) (bs : List Nat) (y : Nat) (r : List Nat), i + k = 9 → x < 128 ^ i → B8 bs → numG k i x bs = .ok (y, r) → ∃ d, y = x + d * 128 ^ i ∧ bs = numF (k + 1) d ++ r ∧ (0 < i → 0 < d)
  | 0, i, x, [], y, r, _, _, _, h => by simp [numG] at h
  | k + 1, i, x, [], y, r, _, _, _, h => by simp [numG] at h
  | 0, i, x, c :: bs, y, r, hi, hx, h8, h => by
    rw [numG] at h
    split at h
    · rename_i hc
      injection h with h
      obtain ⟨rfl, rfl⟩ := Prod.mk.inj h
      obtain rfl : i = 9 := by omega
      exact ⟨1, by omega, by rw [hc]; rfl, fun _ => by omega⟩
    · cases h
  | k + 1, i, x, c :: bs, y, r, hi, hx, h8, h => by
    rw [numG] at h
    split at h
    · cases h
    · rename_i h0
      split at h
      · rename_i hc
        injection h with h
        obtain ⟨rfl, rfl⟩ := Prod.mk.inj h
        refine ⟨c, rfl, ?_, fun hi0 => ?_⟩
        · rw [numF, if_pos hc]; rfl
        · rcases Nat.eq_zero_or_pos c with hc0 | hc0
          · exact absurd ⟨hc0, hi0⟩ h0
          · exact hc0
      · rename_i hc
        have hc8 := h8.head
        have hx2 : x + (c - 128) * 128 ^ i < 128 ^ (i + 1) := by
          rw [Nat.pow_succ]
          have h1 : (c - 128) * 128 ^ i ≤ 127 * 128 ^ i := Nat.mul_le_mul_right _ (by omega)
          omega
        obtain ⟨d, h1, h2, h3⟩ := numG_back k (i + 1) _ bs y r (by omega) hx2 h8.tail h
        have hd := h3 (by omega)
        refine ⟨(c - 128) + 128 * d, ?_, ?_, fun _ => by omega⟩
        · rw [h1, Nat.pow_succ, Nat.add_mul, Nat.mul_comm (128 ^ i) 128, ← Nat.mul_assoc, Nat.mul_comm d 128, Nat.add_assoc]
        · rw [numF, if_neg (by omega), show ((c - 128) + 128 * d) % 128 + 128 = c by omega, show ((c - 128) + 128 * d) / 128 = d by omega, h2]
          rfl
theorem rNum_back {bs : List Nat} {y : Nat} {r : List Nat} (h8 : B8 bs) (h : rNum bs = .ok (y, r)) : bs = numB y ++ r := by
  obtain ⟨d, h1, h2, _⟩ := numG_back 9 0 0 bs y r rfl (by omega) h8 h
  obtain rfl : d = y := by omega
  exact h2
theorem rCount_back {bs : List Nat} {y : Nat} {r : List Nat} (h8 : B8 bs) (h : rCount bs = .ok (y, r)) : bs = numB y ++ r ∧ y ≤ 9223372036854775807 := by
  unfold rCount at h
  split at h
  · cases h
  · rename_i x r' hx
    split at h
    · cases h
    · injection h with h
      obtain ⟨rfl, rfl⟩ := Prod.mk.inj h
      exact ⟨rNum_back h8 hx, by omega⟩
theorem rWord_back {bs : List Nat} {y : Nat} {r : List Nat} (h8 : B8 bs) (h : rWord bs = .ok (y, r)) : bs = lowB y ++ r ∧ y ≤ 4294967295 := by
  match bs, h8, h with
  | [], _, h => simp [rWord] at h
  | [a], _, h => simp [rWord] at h
  | [a, b], _, h => simp [rWord] at h
  | [a, b, c], _, h => simp [rWord] at h
  | a :: b :: c :: d :: bs, h8, h =>
    simp [rWord, List.getD] at h
    obtain ⟨rfl, rfl⟩ := h
    have ha := h8 a (by simp); have hb := h8 b (by simp); have hc := h8 c (by simp); have hd := h8 d (by simp)
    refine ⟨?_, by omega⟩
    unfold lowB
    rw [show (a + 256 * b + 65536 * c + 16777216 * d) % 256 = a by omega, show (a + 256 * b + 65536 * c + 16777216 * d) / 256 % 256 = b by omega, show (a + 256 * b + 65536 * c + 16777216 * d) / 65536 % 256 = c by omega, show (a + 256 * b + 65536 * c + 16777216 * d) / 16777216 % 256 = d by omega]
    rfl
theorem high_fold : ∀ (k : Nat) (l : List Nat), l.length = k → B8 l → ∀ x, highF k (l.foldl (fun x c => x * 256 + c) x) = l
  | 0, l, hl, _, x => by rw [List.eq_nil_of_length_eq_zero hl]; rfl
  | k + 1, l, hl, h8, x => by
    have hne : l ≠ [] := by intro e; rw [e] at hl; simp at hl
    have hc := List.dropLast_concat_getLast hne
    have h8' : B8 (l.dropLast ++ [l.getLast hne]) := by rw [hc]; exact h8
    have ih := high_fold k l.dropLast (by simp [hl]) h8'.left x
    have hlast := h8'.right (l.getLast hne) (by simp)
    conv => lhs; rw [← hc]
    rw [List.foldl_append, List.foldl_cons, List.foldl_nil, highF]
    generalize l.dropLast.foldl (fun x c => x * 256 + c) x = z at ih
    rw [show (z * 256 + l.getLast hne) / 256 = z by omega, show (z * 256 + l.getLast hne) % 256 = l.getLast hne by omega, ih, hc]
theorem rLong_back {bs : List Nat} {y : Nat} {r : List Nat} (h8 : B8 bs) (h : rLong bs = .ok (y, r)) : bs = highB y ++ r := by
  unfold rLong at h
  split at h
  · cases h
  · rename_i hl
    injection h with h
    obtain ⟨rfl, rfl⟩ := Prod.mk.inj h
    rw [highB, high_fold 8 (bs.take 8) (by rw [List.length_take]; omega) (fun c hc => h8 c (List.mem_of_mem_take hc)) 0, List.take_append_drop]
theorem rLongW_back {most : Nat} {bs : List Nat} {y : Nat} {r : List Nat} (h8 : B8 bs) (h : rLongW most bs = .ok (y, r)) : bs = highB y ++ r ∧ y ≤ most := by
  unfold rLongW at h
  split at h
  · cases h
  · rename_i x r' hx
    split at h
    · cases h
    · injection h with h
      obtain ⟨rfl, rfl⟩ := Prod.mk.inj h
      exact ⟨rLong_back h8 hx, by omega⟩
theorem txtN_tx (l : List Nat) (h8 : B8 l) : txtN (tx l) = l := by
  unfold txtN tx
  rw [strOfNums_data, List.map_map, List.map_map]
  apply List.ext_getElem
  · simp
  · intro i h1 h2
    have := h8 _ (List.getElem_mem h2)
    simp; omega
theorem tx_size (l : List Nat) : (tx l).size = l.length := by unfold tx; rw [strOfNums_size]; simp
theorem rText_back {bs l r : List Nat} (h8 : B8 bs) (h : rText bs = .ok (l, r)) : bs = numB l.length ++ l ++ r ∧ B8 l ∧ l.length ≤ bs.length := by
  unfold rText at h
  split at h
  · cases h
  · rename_i n r' hn
    obtain ⟨h1, _⟩ := rCount_back h8 hn
    split at h
    · cases h
    · rename_i hl
      injection h with h
      obtain ⟨rfl, rfl⟩ := Prod.mk.inj h
      have e : (r'.take n).length = n := by rw [List.length_take]; omega
      refine ⟨by rw [e, List.append_assoc, List.take_append_drop]; exact h1, fun c hc => h8 c ?_, ?_⟩
      · rw [h1]; exact List.mem_append_right _ (List.mem_of_mem_take hc)
      · rw [e, h1, List.length_append]; omega
theorem rTruth_back {bs : List Nat} {b : Bool} {r : List Nat} (h : rTruth bs = .ok (b, r)) : bs = flagB b ++ r := by
  match bs, h with
  | [], h => simp [rTruth] at h
  | c :: bs, h =>
    rw [rTruth] at h
    split at h
    · cases h
    · injection h with h
      obtain ⟨rfl, rfl⟩ := Prod.mk.inj h
      rcases (by omega : c = 0 ∨ c = 1) with rfl | rfl <;> rfl
theorem rKT_back (acc bs : List Nat) : ∀ (s r : List Nat), rKT acc bs = .ok (s, r) → ∃ t, s = acc ++ t ∧ bs = escN t ++ [0, 1] ++ r := by
  induction acc, bs using rKT.induct with
  | case1 acc => intro s r h; simp [rKT] at h
  | case2 acc c => intro s r h; simp [rKT] at h
  | case3 acc r' =>
    intro s r h
    rw [rKT] at h
    simp at h
    obtain ⟨rfl, rfl⟩ := h
    exact ⟨[], by simp, rfl⟩
  | case4 acc r' h1 ih =>
    intro s r h
    rw [rKT] at h
    simp at h
    obtain ⟨t, rfl, h2⟩ := ih s r h
    exact ⟨0 :: t, by simp, by rw [h2]; simp [escN]⟩
  | case5 acc d r' h1 h2 =>
    intro s r h
    rw [rKT] at h
    simp [h1, h2] at h
  | case6 acc c d r' hc ih =>
    intro s r h
    rw [rKT, if_neg hc] at h
    obtain ⟨t, rfl, h2⟩ := ih s r h
    exact ⟨c :: t, by simp, by rw [h2]; simp [escN, hc]⟩
theorem rKeyText_back {bs l r : List Nat} (h : rKeyText bs = .ok (l, r)) : bs = escN l ++ [0, 1] ++ r := by
  obtain ⟨t, h1, h2⟩ := rKT_back [] bs l r h
  rw [List.nil_append] at h1
  rw [h1]; exact h2
theorem escN_mem : ∀ (l : List Nat) (c : Nat), c ∈ l → c ∈ escN l
  | d :: l, c, h => by
    rw [escN]
    rcases List.mem_cons.1 h with rfl | h
    · apply List.mem_append_left
      split
      · rename_i e; simp [e]
      · simp
    · exact List.mem_append_right _ (escN_mem l c h)
theorem escN_ge : ∀ l, l.length ≤ (escN l).length
  | [] => by simp
  | d :: l => by
    rw [escN, List.length_append, List.length_cons]
    have := escN_ge l
    split <;> simp <;> omega

theorem zig_unzig (x : Nat) : zig (unzig x) = x := by
  unfold zig unzig
  split <;> split <;> omega

theorem mapR_ok {α : Type} {g : α → Fld} {R : Except Int (α × List Nat)} {f : Fld} {r : List Nat} (h : mapR g R = .ok (f, r)) : ∃ x, R = .ok (x, r) ∧ f = g x := by
  cases R with
  | error e => simp [mapR] at h
  | ok p =>
    obtain ⟨x, r'⟩ := p
    rw [mapR] at h
    injection h with h
    obtain ⟨rfl, rfl⟩ := Prod.mk.inj h
    exact ⟨x, rfl, rfl⟩

/-- What is known of a field that was read. -/
def Good (n : Nat) (f : Fld) : Prop := f.fit = true ∧ f.Ok ∧ f.text.size ≤ n

theorem rField_back {k : Int} {bs : List Nat} {f : Fld} {r : List Nat} (h8 : B8 bs) (hl : bs.length ≤ 1048576) (h : rField k bs = .ok (f, r)) : bs = f.bytes ++ r ∧ Good bs.length f := by
  have ht0 : (({ data := #[] } : ByteArray)).size ≤ maxLen := by simp [maxLen, ByteArray.size]
  unfold rField at h
  split at h
  · rename_i hk
    obtain ⟨x, hx, rfl⟩ := mapR_ok h
    obtain ⟨h1, h2⟩ := rCount_back h8 hx
    subst hk
    refine ⟨by rw [h1]; simp [Fld.bytes], by simp [Fld.fit], ⟨by simp, by simp, by first | (simp; done) | (simp; omega), by first | (simp; done) | (simp; omega), ht0⟩, by simp [ByteArray.size]⟩
  split at h
  · rename_i hk
    obtain ⟨x, hx, rfl⟩ := mapR_ok h
    have h1 := rNum_back h8 hx
    have h2 := numG_lt 9 0 0 bs x r rfl (by omega) h8 hx
    subst hk
    refine ⟨by rw [h1]; simp [Fld.bytes, zig_unzig], by simp [Fld.fit], ⟨by simp, by simp, ?_, ?_, ht0⟩, by simp [ByteArray.size]⟩
    · simp only [unzig]; split <;> omega
    · simp only [unzig]; split <;> omega
  split at h
  · rename_i hk
    obtain ⟨x, hx, rfl⟩ := mapR_ok h
    obtain ⟨h1, h2⟩ := rWord_back h8 hx
    subst hk
    refine ⟨by rw [h1]; simp [Fld.bytes], ?_, ⟨by simp, by simp, by first | (simp; done) | (simp; omega), by first | (simp; done) | (simp; omega), ht0⟩, by simp [ByteArray.size]⟩
    simp [Fld.fit]; omega
  split at h
  · rename_i hk
    obtain ⟨x, hx, rfl⟩ := mapR_ok h
    obtain ⟨h1, h2, h3⟩ := rText_back h8 hx
    subst hk
    refine ⟨by simp only [Fld.bytes]; simp [tx_size, txtN_tx x h2]; rw [← List.append_assoc]; exact h1, by simp [Fld.fit], ⟨by simp, by simp, by simp, by simp, by simp only [tx_size]; unfold maxLen; omega⟩, by simp only [tx_size]; exact h3⟩
  split at h
  · rename_i hk
    obtain ⟨x, hx, rfl⟩ := mapR_ok h
    have h1 := rTruth_back hx
    subst hk
    exact ⟨by rw [h1]; simp [Fld.bytes], by simp [Fld.fit], ⟨by simp, by simp, by simp, by simp, ht0⟩, by simp [ByteArray.size]⟩
  · cases h

theorem rPart_back {k : Int} {bs : List Nat} {f : Fld} {r : List Nat} (h8 : B8 bs) (hl : bs.length ≤ 1048576) (h : rPart k bs = .ok (f, r)) : bs = f.part ++ r ∧ Good bs.length f := by
  have ht0 : (({ data := #[] } : ByteArray)).size ≤ maxLen := by simp [maxLen, ByteArray.size]
  unfold rPart at h
  split at h
  · rename_i hk
    obtain ⟨x, hx, rfl⟩ := mapR_ok h
    obtain ⟨h1, h2⟩ := rLongW_back h8 hx
    subst hk
    refine ⟨by rw [h1]; simp [Fld.part], by simp [Fld.fit], ⟨by simp, by simp, by first | (simp; done) | (simp; omega), by first | (simp; done) | (simp; omega), ht0⟩, by simp [ByteArray.size]⟩
  split at h
  · rename_i hk
    obtain ⟨x, hx, rfl⟩ := mapR_ok h
    have h1 := rLong_back h8 hx
    have h2 := rLong_lt h8 hx
    subst hk
    refine ⟨by rw [h1]; simp [Fld.part, unsign], by simp [Fld.fit], ⟨by simp, by simp, ?_, ?_, ht0⟩, by simp [ByteArray.size]⟩
    · simp only [unsign]; omega
    · simp only [unsign]; omega
  split at h
  · rename_i hk
    obtain ⟨x, hx, rfl⟩ := mapR_ok h
    obtain ⟨h1, h2⟩ := rLongW_back h8 hx
    subst hk
    refine ⟨by rw [h1]; simp [Fld.part], ?_, ⟨by simp, by simp, by first | (simp; done) | (simp; omega), by first | (simp; done) | (simp; omega), ht0⟩, by simp [ByteArray.size]⟩
    simp [Fld.fit]; omega
  split at h
  · rename_i hk
    obtain ⟨x, hx, rfl⟩ := mapR_ok h
    have h1 := rKeyText_back hx
    subst hk
    have h2 : B8 x := fun c hc => h8 c (by rw [h1]; exact List.mem_append_left _ (List.mem_append_left _ (escN_mem x c hc)))
    have h3 : x.length ≤ bs.length := by rw [h1, List.length_append, List.length_append]; have := escN_ge x; omega
    refine ⟨by simp only [Fld.part]; simp [txtN_tx x h2]; simpa using h1, by simp [Fld.fit], ⟨by simp, by simp, by simp, by simp, by simp only [tx_size]; unfold maxLen; omega⟩, by simp only [tx_size]; exact h3⟩
  split at h
  · rename_i hk
    obtain ⟨x, hx, rfl⟩ := mapR_ok h
    have h1 := rTruth_back hx
    subst hk
    exact ⟨by rw [h1]; simp [Fld.part], by simp [Fld.fit], ⟨by simp, by simp, by simp, by simp, ht0⟩, by simp [ByteArray.size]⟩
  · cases h

/-- A row that was read is the row that was written. -/
theorem rA_back {rd : Int → List Nat → Except Int (Fld × List Nat)} {wr : Fld → List Nat} (hb : ∀ k bs f r, B8 bs → bs.length ≤ 1048576 → rd k bs = .ok (f, r) → bs = wr f ++ r ∧ Good bs.length f) :
    ∀ (ks : List Int) (acc : List Fld) (bs : List Nat) (fs : List Fld) (rr : List Nat), B8 bs → bs.length ≤ 1048576 → rA rd acc ks bs = .ok (fs, rr) → ∃ gs, fs = acc ++ gs ∧ bs = gs.flatMap wr ++ rr ∧ ∀ g ∈ gs, Good 1048576 g
  | [], acc, bs, fs, rr, _, _, h => by
    rw [rA] at h
    injection h with h
    obtain ⟨rfl, rfl⟩ := Prod.mk.inj h
    exact ⟨[], by simp, by simp, by simp⟩
  | k :: ks, acc, bs, fs, rr, h8, hl, h => by
    rw [rA] at h
    split at h
    · cases h
    · rename_i f r hf
      obtain ⟨h1, h2⟩ := hb k bs f r h8 hl hf
      have h8' : B8 r := by rw [h1] at h8; exact h8.right
      have hl' : r.length ≤ 1048576 := by rw [h1, List.length_append] at hl; omega
      obtain ⟨gs, rfl, h3, h4⟩ := rA_back hb ks (acc ++ [f]) r fs rr h8' hl' h
      refine ⟨f :: gs, by simp, by rw [List.flatMap_cons, List.append_assoc, ← h3]; exact h1, fun g hg => ?_⟩
      rcases List.mem_cons.1 hg with rfl | hg
      · exact ⟨h2.1, h2.2.1, Nat.le_trans h2.2.2 hl⟩
      · exact h4 g hg

end Go.Proofs.Ytbelemfdkbgjiaa.code

namespace Go.Proofs.Ytbelemfdkbgjiaa.code
open Go.RowKit
open Go.Proofs.Ytbelemfdkbgjiaa.kit Go.Proofs.Ytbelemfdkbgjiaa.cm
set_option linter.unusedVariables false
set_option linter.constructorNameAsVariable false

theorem numG_forth : ∀ (k i x d : Nat) (r : List Nat), i + k = 9 → (0 < i → 0 < d) → x + d * 128 ^ i < 18446744073709551616 → numG k i x (numF (k + 1) d ++ r) = .ok (x + d * 128 ^ i, r)
  | 0, i, x, d, r, hi, h0, hy => by
    obtain rfl : i = 9 := by omega
    have hd : d = 1 := by have := h0 (by omega); omega
    subst hd
    rfl
  | k + 1, i, x, d, r, hi, h0, hy => by
    by_cases hd : d < 128
    · rw [numF, if_pos hd, List.cons_append, List.nil_append, numG, if_neg (by intro h; have := h0 h.2; omega), if_pos hd]
    · rw [numF, if_neg hd, List.cons_append, numG, if_neg (by omega), if_neg (by omega)]
      have e : x + (d % 128 + 128 - 128) * 128 ^ i + d / 128 * 128 ^ (i + 1) = x + d * 128 ^ i := by
        rw [Nat.pow_succ, Nat.add_assoc, show d % 128 + 128 - 128 = d % 128 by omega, show d / 128 * (128 ^ i * 128) = 128 * (d / 128) * 128 ^ i by rw [Nat.mul_comm (128 ^ i) 128, ← Nat.mul_assoc, Nat.mul_comm (d / 128) 128], ← Nat.add_mul]
        rw [show d % 128 + 128 * (d / 128) = d by omega]
      rw [← e]
      exact numG_forth k (i + 1) _ (d / 128) r (by omega) (fun _ => by omega) (by rw [e]; exact hy)
theorem rNum_forth (y : Nat) (r : List Nat) (hy : y < 18446744073709551616) : rNum (numB y ++ r) = .ok (y, r) := by
  have := numG_forth 9 0 0 y r rfl (by omega) (by omega)
  rw [show 0 + y * 128 ^ 0 = y by omega] at this
  exact this
theorem rCount_forth (y : Nat) (r : List Nat) (hy : y ≤ 9223372036854775807) : rCount (numB y ++ r) = .ok (y, r) := by
  unfold rCount
  rw [rNum_forth y r (by omega)]
  simp only
  rw [if_neg (by omega)]
theorem rWord_forth (y : Nat) (r : List Nat) (hy : y ≤ 4294967295) : rWord (lowB y ++ r) = .ok (y, r) := by
  have e : rWord (lowB y ++ r) = .ok (y % 256 + 256 * (y / 256 % 256) + 65536 * (y / 65536 % 256) + 16777216 * (y / 16777216 % 256), r) := by
    unfold rWord lowB
    rw [if_neg (by simp only [List.length_append, List.length_cons, List.length_nil]; omega)]
    rfl
  rw [e, show y % 256 + 256 * (y / 256 % 256) + 65536 * (y / 65536 % 256) + 16777216 * (y / 16777216 % 256) = y by omega]
theorem fold_high : ∀ (k y x : Nat), y < 256 ^ k → (highF k y).foldl (fun x c => x * 256 + c) x = x * 256 ^ k + y
  | 0, y, x, h => by simp at h; subst h; simp [highF]
  | k + 1, y, x, h => by
    rw [highF, List.foldl_append, List.foldl_cons, List.foldl_nil, fold_high k (y / 256) x (by rw [Nat.pow_succ] at h; omega), Nat.pow_succ, Nat.add_mul, Nat.mul_assoc]
    omega
theorem rLong_forth (y : Nat) (r : List Nat) (hy : y < 18446744073709551616) : rLong (highB y ++ r) = .ok (y, r) := by
  have hl := highB_len y
  unfold rLong
  rw [if_neg (by rw [List.length_append, hl]; omega), List.take_left' hl, List.drop_left' hl, highB, fold_high 8 y 0 (by omega)]
  simp
theorem rLongW_forth (most y : Nat) (r : List Nat) (hy : y ≤ most) (hm : most < 18446744073709551616) : rLongW most (highB y ++ r) = .ok (y, r) := by
  unfold rLongW
  rw [rLong_forth y r (by omega)]
  simp only
  rw [if_neg (by omega)]
theorem rText_forth (l r : List Nat) (hl : l.length ≤ 9223372036854775807) : rText (numB l.length ++ l ++ r) = .ok (l, r) := by
  unfold rText
  rw [List.append_assoc, rCount_forth _ _ hl]
  simp only
  rw [if_neg (by rw [List.length_append]; omega), List.take_left' rfl, List.drop_left' rfl]
theorem rTruth_forth (b : Bool) (r : List Nat) : rTruth (flagB b ++ r) = .ok (b, r) := by cases b <;> rfl
theorem rKT_forth : ∀ (t acc r : List Nat), rKT acc (escN t ++ [0, 1] ++ r) = .ok (acc ++ t, r)
  | [], acc, r => by
    show rKT acc (0 :: 1 :: r) = _
    rw [rKT]; simp
  | c :: t, acc, r => by
    have ih := rKT_forth t
    by_cases hc : c = 0
    · subst hc
      have e : escN (0 :: t) ++ [0, 1] ++ r = 0 :: 255 :: (escN t ++ [0, 1] ++ r) := by simp [escN]
      rw [e, rKT]
      simp only [if_true]
      rw [if_neg (by omega), ih (acc ++ [0]) r]
      simp
    · have e : escN (c :: t) ++ [0, 1] ++ r = c :: (escN t ++ [0, 1] ++ r) := by simp [escN, hc]
      rw [e, rKT_step acc c _ hc, ih (acc ++ [c]) r]
      simp
theorem rKeyText_forth (l r : List Nat) : rKeyText (escN l ++ [0, 1] ++ r) = .ok (l, r) := by
  have := rKT_forth l [] r
  rw [List.nil_append] at this
  exact this
theorem tx_txtN (s : ByteArray) : tx (txtN s) = s := by
  obtain ⟨⟨l⟩⟩ := s
  apply ByteArray.ext
  apply Array.ext'
  unfold tx txtN
  rw [strOfNums_data, List.map_map, List.map_map]
  conv => rhs; rw [← List.map_id l]
  apply List.map_congr_left
  intro c _
  simp
theorem txtN_length (s : ByteArray) : (txtN s).length = s.size := by simp [txtN]
theorem unzig_zig (x : Int) : unzig (zig x) = x := by
  unfold zig unzig
  split <;> split <;> omega
theorem no_text {t : ByteArray} (h : t.toList = []) : t = { data := #[] } := by
  rw [Lib.toList_data] at h
  obtain ⟨⟨x⟩⟩ := t
  simp at h; subst h; rfl
theorem zig_less {x : Int} (h0 : -9223372036854775808 ≤ x) (h1 : x ≤ 9223372036854775807) : zig x < 18446744073709551616 := by
  unfold zig; split <;> omega
theorem fit_cases {f : Fld} (h : f.fit = true) : (∃ n, 0 ≤ n ∧ f = ⟨1, n, { data := #[] }, false⟩) ∨ (∃ n, f = ⟨2, n, { data := #[] }, false⟩) ∨ (∃ n, 0 ≤ n ∧ n ≤ 4294967295 ∧ f = ⟨3, n, { data := #[] }, false⟩) ∨ (∃ t, f = ⟨4, 0, t, false⟩) ∨ ∃ b, f = ⟨5, 0, { data := #[] }, b⟩ := by
  obtain ⟨k, n, t, b⟩ := f
  unfold Fld.fit at h
  simp only at h
  split at h
  · rename_i e; subst e; simp at h; obtain ⟨⟨h1, h2⟩, h3⟩ := h; rw [no_text h2, h3]; exact .inl ⟨n, h1, rfl⟩
  split at h
  · rename_i e; subst e; simp at h; obtain ⟨h2, h3⟩ := h; rw [no_text h2, h3]; exact .inr (.inl ⟨n, rfl⟩)
  split at h
  · rename_i e; subst e; simp at h; obtain ⟨⟨⟨h1, h4⟩, h2⟩, h3⟩ := h; rw [no_text h2, h3]; exact .inr (.inr (.inl ⟨n, h1, h4, rfl⟩))
  split at h
  · rename_i e; subst e; simp at h; obtain ⟨h2, h3⟩ := h; rw [h2, h3]; exact .inr (.inr (.inr (.inl ⟨t, rfl⟩)))
  split at h
  · rename_i e; subst e; simp at h; obtain ⟨h2, h3⟩ := h; rw [h2, no_text h3]; exact .inr (.inr (.inr (.inr ⟨b, rfl⟩)))
  · cases h

theorem rField_forth {f : Fld} (h : f.fit = true) (ho : f.Ok) (r : List Nat) : rField f.kind (f.bytes ++ r) = .ok (f, r) := by
  obtain ⟨_, _, h0, h1, ht⟩ := ho
  unfold maxLen at ht
  rcases fit_cases h with ⟨n, hn, rfl⟩ | ⟨n, rfl⟩ | ⟨n, hn, hm, rfl⟩ | ⟨t, rfl⟩ | ⟨b, rfl⟩ <;> simp only at h0 h1 ht
  · simp only [rField, Fld.bytes, if_true]
    rw [rCount_forth _ _ (by omega), mapR, Int.toNat_of_nonneg hn]
  · show mapR _ (rNum (numB (zig n) ++ r)) = _
    rw [rNum_forth _ _ (zig_less h0 h1), mapR, unzig_zig]
  · simp [rField, Fld.bytes]
    rw [rWord_forth _ _ (by omega), mapR, Int.toNat_of_nonneg hn]
  · show mapR _ (rText (numB t.size ++ txtN t ++ r)) = _
    rw [← txtN_length t, rText_forth _ _ (by rw [txtN_length]; omega), mapR, tx_txtN]
  · show mapR _ (rTruth (flagB b ++ r)) = _
    rw [rTruth_forth, mapR]
theorem rPart_forth {f : Fld} (h : f.fit = true) (ho : f.Ok) (r : List Nat) : rPart f.kind (f.part ++ r) = .ok (f, r) := by
  obtain ⟨_, _, h0, h1, ht⟩ := ho
  rcases fit_cases h with ⟨n, hn, rfl⟩ | ⟨n, rfl⟩ | ⟨n, hn, hm, rfl⟩ | ⟨t, rfl⟩ | ⟨b, rfl⟩ <;> simp only at h0 h1 ht
  · show mapR _ (rLongW 9223372036854775807 (highB n.toNat ++ r)) = _
    rw [rLongW_forth _ _ _ (by omega) (by omega), mapR, Int.toNat_of_nonneg hn]
  · simp [rPart, Fld.part]
    rw [rLong_forth _ _ (by omega), mapR, unsign, Int.toNat_of_nonneg (by omega), Int.add_sub_cancel]
  · show mapR _ (rLongW 4294967295 (highB n.toNat ++ r)) = _
    rw [rLongW_forth _ _ _ (by omega) (by omega), mapR, Int.toNat_of_nonneg hn]
  · show mapR _ (rKeyText (escN (txtN t) ++ [0, 1] ++ r)) = _
    rw [rKeyText_forth, mapR, tx_txtN]
  · show mapR _ (rTruth (flagB b ++ r)) = _
    rw [rTruth_forth, mapR]
theorem rA_forth {rd : Int → List Nat → Except Int (Fld × List Nat)} {wr : Fld → List Nat} (hb : ∀ f : Fld, f.fit = true → f.Ok → ∀ r, rd f.kind (wr f ++ r) = .ok (f, r)) :
    ∀ (gs acc : List Fld) (r : List Nat), (∀ g ∈ gs, g.fit = true ∧ g.Ok) → rA rd acc (gs.map fun g => g.kind) (gs.flatMap wr ++ r) = .ok (acc ++ gs, r)
  | [], acc, r, _ => by simp [rA]
  | g :: gs, acc, r, h => by
    have hg := h g (List.mem_cons_self ..)
    rw [List.map_cons, List.flatMap_cons, List.append_assoc, rA, hb g hg.1 hg.2]
    simp only
    rw [rA_forth hb gs (acc ++ [g]) r (fun g' h' => h g' (List.mem_cons_of_mem _ h'))]
    simp
/-- What is written of fit fields is read as those fields, nothing left. -/
theorem row_forth (gs : List Fld) (h : ∀ g ∈ gs, g.fit = true ∧ g.Ok) : rA rField [] (gs.map fun g => g.kind) (gs.flatMap Fld.bytes) = .ok (gs, []) := by
  have := rA_forth (rd := rField) (wr := Fld.bytes) (fun f h1 h2 r => rField_forth h1 h2 r) gs [] [] h
  simpa using this
theorem key_forth (gs : List Fld) (h : ∀ g ∈ gs, g.fit = true ∧ g.Ok) : rA rPart [] (gs.map fun g => g.kind) (gs.flatMap Fld.part) = .ok (gs, []) := by
  have := rA_forth (rd := rPart) (wr := Fld.part) (fun f h1 h2 r => rPart_forth h1 h2 r) gs [] [] h
  simpa using this

end Go.Proofs.Ytbelemfdkbgjiaa.code

namespace Go.Proofs.Ytbelemfdkbgjiaa.code
open Go.RowKit
open Go.Proofs.Ytbelemfdkbgjiaa.kit Go.Proofs.Ytbelemfdkbgjiaa.cm
set_option linter.unusedVariables false

theorem fit_kind {f : Fld} (h : f.fit = true) : ((f.kind.toNat : Nat) : Int) = f.kind ∧ f.kind.toNat < 256 := by
  rcases fit_cases h with ⟨n, hn, rfl⟩ | ⟨n, rfl⟩ | ⟨n, hn, hx, rfl⟩ | ⟨t, rfl⟩ | ⟨b, rfl⟩ <;> exact ⟨rfl, by simp⟩

/-- A slice of kinds of the call's own, as a row of kinds. -/
theorem OwnI.toK {w : World} {B e : Nat} {v : Value} {fs : List Fld} (hf : ∀ f ∈ fs, f.fit = true) (h : OwnI w B e .i64 v (fs.map fun f => f.kind.toNat)) : SlK w v (fs.map fun f => f.kind) := by
  obtain ⟨hl, a, cap, rfl, hc⟩ := h.read
  rw [List.length_map] at hl hc ⊢
  refine ⟨by rw [List.length_map]; exact hl, a, cap, by rw [List.length_map], fun h0 => ?_⟩
  rw [List.length_map] at h0
  obtain ⟨b, off, rfl, hcell⟩ := hc h0
  refine ⟨b, off, rfl, fun j hj => ?_⟩
  rw [List.length_map] at hj
  rw [hcell j hj]
  have e : (((fs.map fun f => f.kind.toNat).getD j 0 : Nat) : Int) = (fs.map fun f => f.kind).getD j 0 := by
    simp only [List.getD, List.getElem?_map, List.getElem?_eq_getElem hj, Option.map_some, Option.getD_some]
    exact (fit_kind (hf _ (List.getElem_mem hj))).1
  rw [e]

/-- What 'Whole' says of bytes that are just those of some fields. -/
def WholeS (w : World) (fs : List Fld) (e : Ending) (w' : World) : Prop :=
  Below w.heap.size w w' ∧ ∃ v, e = .returned (.tuple #[v, .int .i64 0]) ∧ OwnF w' w.heap.size v fs

set_option maxHeartbeats 4000000 in
set_option maxRecDepth 100000 in
theorem Whole_any (bv kv : Value) (bs : List Nat) (ks : List Int) (fs : List Fld) (w : World) (hb : SlB w bv bs (fun _ => True)) (h8 : ∀ c ∈ bs, c < 256) (hk : SlK w kv ks) (hlen : ks.length ≤ 1000000000000) (hr : rA rField [] ks bs = .ok (fs, [])) :
    Calls Try.prog 29 #[bv, kv] w (WholeS w fs) := by
  have HR := Lib.hid (Read_any bv kv bs ks w hb h8 hk hlen)
  rw [hr] at HR
  obtain ⟨hl, a, cap, rfl, hle, _⟩ := hb
  clear h8 hk hlen hr
  go_enter Try.func29, Try.ntmps29
  go_wp2_with fail
  refine HR.out.mono ?_
  rintro e w1 ⟨hb1, v, rfl, ho⟩
  have HB1 := Lib.hid hb1; have HO := Lib.hid ho
  rw [show ((bs.length : Int) - (([] : List Nat).length : Int)) = (bs.length : Int) by simp]
  have hn : ¬ ((bs.length : Int) < (bs.length : Int)) := by omega
  clear hb1 ho HR
  go_wp2
  go_ret2
  exact ⟨HB1.out, v, rfl, HO.out⟩

end Go.Proofs.Ytbelemfdkbgjiaa.code

namespace Go.Proofs.Ytbelemfdkbgjiaa.crush
open Go.RowKit
open Go.Proofs.Ytbelemfdkbgjiaa.kit Go.Proofs.Ytbelemfdkbgjiaa.own
set_option linter.unusedVariables false

set_option maxHeartbeats 8000000 in
set_option maxRecDepth 100000 in
theorem mul64_any (n : Nat) (hn : n ≤ 8) (w : World) : Calls Try.prog 56 #[.int .u64 1, .int .u64 n] w fun e w' => e = .returned (.tuple #[.int .u64 0, .int .u64 n]) ∧ w = w' := by
  have h9 : n = 0 ∨ n = 1 ∨ n = 2 ∨ n = 3 ∨ n = 4 ∨ n = 5 ∨ n = 6 ∨ n = 7 ∨ n = 8 := by omega
  clear hn
  rcases h9 with rfl | rfl | rfl | rfl | rfl | rfl | rfl | rfl | rfl
  all_goals
    go_enter Try.func56, Try.ntmps56
    go_wp2
    go_ret2
    exact ⟨rfl, rfl⟩
set_option maxHeartbeats 8000000 in
theorem mul_any (n : Nat) (hn : n ≤ 8) (w : World) : Calls Try.prog 28 #[.int .u64 1, .int .u64 n] w fun e w' => e = .returned (.tuple #[.int .u64 0, .int .u64 n]) ∧ w = w' := by
  go_enter Try.func28, Try.ntmps28
  go_wp2_with (go_at_call 56; refine (mul64_any n hn _).mono ?_; rintro e w5 ⟨rfl, rfl⟩)
  go_ret2
  exact ⟨rfl, rfl⟩
theorem made_flat {α : Type} {enc : α → List Value} {k : Nat} (hk : ∀ x, (enc x).length = k) (hk0 : 0 < k) (cs : Array Value) (x : α) (hc : cs.toList = enc x) (n : Nat) : (madeCells cs (n * k)).toList = (List.replicate n x).flatMap enc := by
  have hs : cs.size = k := by rw [← hk x, ← hc]; simp
  have hfl : ((List.replicate n x).flatMap enc).length = n * k := by rw [flat_len hk, List.length_replicate]
  apply List.ext_getElem?
  intro t
  by_cases ht : t < n * k
  · have h1 : t / k < n := (Nat.div_lt_iff_lt_mul hk0).2 ht
    have h2 : t % k < k := Nat.mod_lt _ hk0
    have hd : t = (t / k) * k + t % k := (Nat.div_add_mod' t k).symm
    have hr := flat_at hk (List.replicate n x) (t / k) (t % k) (by rw [List.length_replicate]; exact h1) h2
    rw [← hd, List.getElem_replicate] at hr
    rw [hr, ← hc]
    have h3 : t % k < cs.size := by omega
    simp [madeCells, ht, hs]
    rw [getElem!_pos cs _ h3, getElem?_pos cs _ h3]
  · have h1 : (madeCells cs (n * k)).toList.length = n * k := by simp [madeCells]
    rw [List.getElem?_eq_none (by omega), List.getElem?_eq_none (by omega)]
theorem sizeI : (Try.prog.info? 3).map (·.size) = some 1 := by kernel_rfl
theorem sizeO : (Try.prog.info? 39).map (·.size) = some 4 := by kernel_rfl
theorem take_rep {α : Type} (j n m : Nat) (y z : α) (h : j + m ≤ n) : (List.replicate j y ++ List.replicate (n - j) z).take j ++ List.replicate m y ++ (List.replicate j y ++ List.replicate (n - j) z).drop (j + (List.replicate m y).length) = List.replicate (j + m) y ++ List.replicate (n - (j + m)) z := by
  rw [List.length_replicate, List.take_left' (by simp), List.drop_append, List.length_replicate, List.drop_eq_nil_of_le (by simp), List.nil_append, List.replicate_append_replicate, List.drop_replicate]
  congr 2
  omega

/-- n of them are made. -/
theorem madeI (w : World) (n : Nat) (hn : n ≤ 65536) : ∃ w1, (Instr.makeSlice 22 (.int .i64 (n : Nat)) (.int .i64 (n : Nat))).run Try.prog w = .ok (.slice (some ⟨w.heap.size, 0, none⟩) n n) w1 ∧
    OwnAt ic 1 3 w1 w.heap.size n (List.replicate n (0 : Int)) ∧ Below w.heap.size w w1 := by
  obtain ⟨i0, hi, hz0, hz1, hz2⟩ := info_parts infoInt
  obtain ⟨w1, h1, h2, h3⟩ := run_makeSlice_full (P := Try.prog) w w.heap.size 22 3 i0 _ 1 Try.underlying22 hi hz0 hz1 .i64 .i64 n (by omega) (by rw [hz2]; omega) (by unfold maxLen; omega) (Nat.le_refl _)
  refine ⟨w1, h1, ?_, ⟨h3.os, h3.tape, h3.output, h3.size, fun k hk => h3.block k hk (by simp)⟩⟩
  have e : (madeCells (Value.int .i64 0).cells (n * 1)).toList = (List.replicate n (0 : Int)).flatMap ic := made_flat ic_len (by decide) _ (0 : Int) rfl n
  rcases h2.2 with ⟨e', _⟩ | ⟨g, cap, cur, e', hB, hg, hc, hm, hs, ht⟩
  · cases e'
  · cases e'
    refine ⟨⟨cur, hg, hs, ?_⟩, by rw [List.length_replicate]; exact Nat.le_refl _, hm⟩
    rw [List.length_replicate, ht, e]

set_option maxHeartbeats 16000000 in
set_option maxRecDepth 100000 in
theorem repeatI (v : Value) (y : Int ) (n : Nat) (hn0 : 1 ≤ n) (hn : n ≤ 8) (w : World) (h : Sl ic 1 w v [y]) :
    Calls Try.prog 30 #[v, .int .i64 n] w fun e w' => ∃ v', e = .returned v' ∧ Own ic 1 3 w' w.heap.size v' (List.replicate n y) ∧ Below w.heap.size w w' := by
  obtain ⟨hl, a, cap, rfl, hnil, hc⟩ := id h
  obtain ⟨b, off, rfl, hlt, hcell⟩ := hc (by simp)
  have HSl := Lib.hid h
  have HSrc : Hid (∀ j v, (ic y)[j]? = some v → w.cell? ((⟨b, off, none⟩ : Addr).add j) = some v) := Lib.hid (fun j v hv => by
    rw [add_plain']
    have := hcell 0 (by simp) j v hv
    simpa using this)
  have HLt := Lib.hid hlt
  obtain ⟨w1, hm1, hm2, hm3⟩ := madeI w n (by omega)
  have HM2 := Lib.hid hm2; have HM3 := Lib.hid hm3
  clear h hl hnil hc hlt hcell hm2 hm3
  have hn2 : ¬ (9223372036854775807 : Nat) < n := by omega
  go_enter Try.func30 , Try.ntmps30 
  go_upto_region 7 with (go_at_call 28; refine (mul_any n hn _).mono ?_; rintro e w5 ⟨rfl, rfl⟩)
  have HW1 : Hid (OwnAt ic 1 3 (w1.setCells w.heap.size 0 (ic y)) w.heap.size n (List.replicate 1 y ++ List.replicate (n - 1) (0 : Int))) := Lib.hid (by
    have h1 := HM2.out.put ic_len 0 [y] (by simp; omega)
    have e : (List.replicate n (0 : Int)).take 0 ++ [y] ++ (List.replicate n (0 : Int)).drop (0 + [y].length) = List.replicate 1 y ++ List.replicate (n - 1) (0 : Int) := by simp [List.drop_replicate]
    rw [e, Nat.zero_mul, List.flatMap_cons, List.flatMap_nil, List.append_nil] at h1
    exact h1)
  have HB1 := Lib.hid (Below.setCells HM3.out (Nat.le_refl _) 0 (ic y))
  have hcp := run_copy_m (P := Try.prog) w1 22 22 3 3 w.heap.size 0 n n ⟨b, off, none⟩ 1 cap 1 1 (ic y) Try.underlying22 sizeI (by show min 1 n = 1; omega) rfl (fun j v hv => by rw [add_plain']; exact (HM3.out.cell (p := ⟨b, off + j, none⟩) HLt.out).trans (by have := HSrc.out j v hv; rwa [add_plain'] at this)) (fun j hj => HM2.out.some _ (by have : (ic y).length = 1 := rfl; rw [this] at hj; omega)) (fun j _ => HM2.out.thaw _) (ic_one y)
  go_upto_region 8 with fail
  clear hcp
  generalize w1.setCells w.heap.size 0 (ic y) = W1 at HW1 HB1 ⊢
  clear hm1 HM2 HM3
  go_loopw [8] (fun vi wr => ∃ j : Nat, 1 ≤ j ∧ j ≤ n ∧ vi = .int .i64 j ∧ OwnAt ic 1 3 wr w.heap.size n (List.replicate j y ++ List.replicate (n - j) (0 : Int)) ∧ Below w.heap.size w wr) (fun i _ => n - (intOf i).toNat)
  case atStart => exact ⟨1, by omega, hn0, rfl, HW1.out, HB1.out⟩
  case round =>
    obtain ⟨j, hj1, hjn, rfl, ho, hb⟩ := hrel
    have HO := Lib.hid ho; have HB := Lib.hid hb
    clear ho hb
    by_cases hlt : j < n
    · have hlt' : (j : Int) < n := by omega
      have hj0 : (0 : Int) ≤ j := by omega
      have hj9 : (j : Int) ≤ n := by omega
      obtain ⟨m, hm⟩ : ∃ m, min j (n - j) = m := ⟨_, rfl⟩
      have hm1 : 1 ≤ m := by omega
      have hmj : m ≤ j := by omega
      have hmn : j + m ≤ n := by omega
      have HOd : Hid (OwnAt ic 1 3 wr.drew w.heap.size n (List.replicate j y ++ List.replicate (n - j) (0 : Int))) := Lib.hid ⟨HO.out.ex, HO.out.le, HO.out.max⟩
      have HW2 : Hid (OwnAt ic 1 3 (wr.drew.setCells w.heap.size (j * 1 ) ((List.replicate m y).flatMap ic )) w.heap.size n (List.replicate (j + m) y ++ List.replicate (n - (j + m)) (0 : Int))) := Lib.hid (by
        have h1 := HOd.out.put ic_len j (List.replicate m y) (by simp; omega)
        rw [take_rep j n m y _ hmn] at h1
        exact h1)
      have HB2 := Lib.hid (Below.setCells (below_drew HB.out) (Nat.le_refl _) (j * 1 ) ((List.replicate m y).flatMap ic ))
      have HSr : Hid (∀ t v, ((List.replicate m y).flatMap ic )[t]? = some v → wr.drew.cell? ((⟨w.heap.size, 0, none⟩ : Addr).add t) = some v) := Lib.hid (fun t v hv => by
        rw [add_plain', Nat.zero_add]
        have hl := (List.getElem?_eq_some_iff.1 hv).1
        rw [flat_len ic_len, List.length_replicate] at hl
        have hmk : m * 1 ≤ j * 1 := Nat.mul_le_mul_right _ hmj
        have hnk : j * 1 ≤ n * 1 := Nat.mul_le_mul_right _ hjn
        refine HOd.out.cells t v (by rw [List.length_append, List.length_replicate, List.length_replicate, show j + (n - j) = n by omega]; omega) ?_
        rw [List.flatMap_append, List.getElem?_append_left (by rw [flat_len ic_len, List.length_replicate]; omega), ← hv]
        have e : List.replicate j y = List.replicate m y ++ List.replicate (j - m) y := by rw [List.replicate_append_replicate]; congr 1; omega
        rw [e, List.flatMap_append, List.getElem?_append_left (by rw [flat_len ic_len, List.length_replicate]; exact hl)])
      have HCe : Hid (∀ t, t < ((List.replicate m y).flatMap ic ).length → (wr.drew.cell? ⟨w.heap.size, j * 1 + t, none⟩).isSome = true) := Lib.hid (fun t ht => HOd.out.some _ (by
        rw [flat_len ic_len, List.length_replicate] at ht
        have hnk : (j + m) * 1 ≤ n * 1 := Nat.mul_le_mul_right _ hmn
        rw [Nat.add_mul] at hnk
        omega))
      have HFr : Hid (∀ t, t < ((List.replicate m y).flatMap ic ).length → wr.drew.frozen? ⟨w.heap.size, j * 1 + t, none⟩ = false) := Lib.hid (fun t _ => HOd.out.thaw _)
      have hcp := run_copy_m (P := Try.prog) wr.drew 22 22 3 3 w.heap.size (j * 1 ) (n - j) (n - j) ⟨w.heap.size, 0, none⟩ j n 1 m ((List.replicate m y).flatMap ic ) Try.underlying22 sizeI (by show min j (n - j) = m; omega) (by rw [flat_len ic_len, List.length_replicate]) HSr.out HCe.out HFr.out (fun u hu => by obtain ⟨q, hq, hu⟩ := List.mem_flatMap.1 hu; exact ic_one _ u hu)
      try rw [Nat.mul_one] at hcp HW2 HB2
      go_upto_region 9 with fail
      go_region
      generalize wr.drew.setCells w.heap.size _ ((List.replicate m y).flatMap ic ) = W2 at HW2 HB2 ⊢
      clear hcp
      go_wp2
      go_roundw
      case rel => exact ⟨j + m, by omega, by omega, by go_num, HW2.out, HB2.out⟩
      case measure => simp [intOf]; omega
    · obtain rfl : j = n := by omega
      have HO2 := Lib.hid (HO.out)
      rw [Nat.sub_self, List.replicate_zero, List.append_nil] at HO2
      go_wp2
      go_ret
      have hown := HO2.out.own (B := w.heap.size) ic_len (Nat.le_refl _)
      rw [List.length_replicate] at hown
      exact ⟨_, rfl, hown, HB.out⟩

/-- n of them are made. -/
theorem madeO (w : World) (n : Nat) (hn : n ≤ 65536) : ∃ w1, (Instr.makeSlice 24 (.int .i64 (n : Nat)) (.int .i64 (n : Nat))).run Try.prog w = .ok (.slice (some ⟨w.heap.size, 0, none⟩) n n) w1 ∧
    OwnAt oc 4 39 w1 w.heap.size n (List.replicate n (⟨0, false, 0, 0⟩ : OsdV)) ∧ Below w.heap.size w w1 := by
  obtain ⟨i0, hi, hz0, hz1, hz2⟩ := info_parts infoOsd
  obtain ⟨w1, h1, h2, h3⟩ := run_makeSlice_full (P := Try.prog) w w.heap.size 24 39 i0 _ 4 Try.underlying24 hi hz0 hz1 .i64 .i64 n (by omega) (by rw [hz2]; omega) (by unfold maxLen; omega) (Nat.le_refl _)
  refine ⟨w1, h1, ?_, ⟨h3.os, h3.tape, h3.output, h3.size, fun k hk => h3.block k hk (by simp)⟩⟩
  have e : (madeCells (Value.agg #[.int .i64 0, .bool false, .int .i64 0, .int .i64 0]).cells (n * 4)).toList = (List.replicate n (⟨0, false, 0, 0⟩ : OsdV)).flatMap oc := made_flat oc_len (by decide) _ (⟨0, false, 0, 0⟩ : OsdV) rfl n
  rcases h2.2 with ⟨e', _⟩ | ⟨g, cap, cur, e', hB, hg, hc, hm, hs, ht⟩
  · cases e'
  · cases e'
    refine ⟨⟨cur, hg, hs, ?_⟩, by rw [List.length_replicate]; exact Nat.le_refl _, hm⟩
    rw [List.length_replicate, ht, e]

set_option maxHeartbeats 16000000 in
set_option maxRecDepth 100000 in
theorem repeatO (v : Value) (y : OsdV ) (n : Nat) (hn0 : 1 ≤ n) (hn : n ≤ 8) (w : World) (h : Sl oc 4 w v [y]) :
    Calls Try.prog 13 #[v, .int .i64 n] w fun e w' => ∃ v', e = .returned v' ∧ Own oc 4 39 w' w.heap.size v' (List.replicate n y) ∧ Below w.heap.size w w' := by
  obtain ⟨hl, a, cap, rfl, hnil, hc⟩ := id h
  obtain ⟨b, off, rfl, hlt, hcell⟩ := hc (by simp)
  have HSl := Lib.hid h
  have HSrc : Hid (∀ j v, (oc y)[j]? = some v → w.cell? ((⟨b, off, none⟩ : Addr).add j) = some v) := Lib.hid (fun j v hv => by
    rw [add_plain']
    have := hcell 0 (by simp) j v hv
    simpa using this)
  have HLt := Lib.hid hlt
  obtain ⟨w1, hm1, hm2, hm3⟩ := madeO w n (by omega)
  have HM2 := Lib.hid hm2; have HM3 := Lib.hid hm3
  clear h hl hnil hc hlt hcell hm2 hm3
  have hn2 : ¬ (9223372036854775807 : Nat) < n := by omega
  go_enter Try.func13 , Try.ntmps13 
  go_upto_region 7 with (go_at_call 28; refine (mul_any n hn _).mono ?_; rintro e w5 ⟨rfl, rfl⟩)
  have HW1 : Hid (OwnAt oc 4 39 (w1.setCells w.heap.size 0 (oc y)) w.heap.size n (List.replicate 1 y ++ List.replicate (n - 1) (⟨0, false, 0, 0⟩ : OsdV))) := Lib.hid (by
    have h1 := HM2.out.put oc_len 0 [y] (by simp; omega)
    have e : (List.replicate n (⟨0, false, 0, 0⟩ : OsdV)).take 0 ++ [y] ++ (List.replicate n (⟨0, false, 0, 0⟩ : OsdV)).drop (0 + [y].length) = List.replicate 1 y ++ List.replicate (n - 1) (⟨0, false, 0, 0⟩ : OsdV) := by simp [List.drop_replicate]
    rw [e, Nat.zero_mul, List.flatMap_cons, List.flatMap_nil, List.append_nil] at h1
    exact h1)
  have HB1 := Lib.hid (Below.setCells HM3.out (Nat.le_refl _) 0 (oc y))
  have hcp := run_copy_m (P := Try.prog) w1 24 24 3 39 w.heap.size 0 n n ⟨b, off, none⟩ 1 cap 4 1 (oc y) Try.underlying24 sizeO (by show min 1 n = 1; omega) rfl (fun j v hv => by rw [add_plain']; exact (HM3.out.cell (p := ⟨b, off + j, none⟩) HLt.out).trans (by have := HSrc.out j v hv; rwa [add_plain'] at this)) (fun j hj => HM2.out.some _ (by have : (oc y).length = 4 := rfl; rw [this] at hj; omega)) (fun j _ => HM2.out.thaw _) (oc_one y)
  go_upto_region 8 with fail
  clear hcp
  generalize w1.setCells w.heap.size 0 (oc y) = W1 at HW1 HB1 ⊢
  clear hm1 HM2 HM3
  go_loopw [8] (fun vi wr => ∃ j : Nat, 1 ≤ j ∧ j ≤ n ∧ vi = .int .i64 j ∧ OwnAt oc 4 39 wr w.heap.size n (List.replicate j y ++ List.replicate (n - j) (⟨0, false, 0, 0⟩ : OsdV)) ∧ Below w.heap.size w wr) (fun i _ => n - (intOf i).toNat)
  case atStart => exact ⟨1, by omega, hn0, rfl, HW1.out, HB1.out⟩
  case round =>
    obtain ⟨j, hj1, hjn, rfl, ho, hb⟩ := hrel
    have HO := Lib.hid ho; have HB := Lib.hid hb
    clear ho hb
    by_cases hlt : j < n
    · have hlt' : (j : Int) < n := by omega
      have hj0 : (0 : Int) ≤ j := by omega
      have hj9 : (j : Int) ≤ n := by omega
      obtain ⟨m, hm⟩ : ∃ m, min j (n - j) = m := ⟨_, rfl⟩
      have hm1 : 1 ≤ m := by omega
      have hmj : m ≤ j := by omega
      have hmn : j + m ≤ n := by omega
      have HOd : Hid (OwnAt oc 4 39 wr.drew w.heap.size n (List.replicate j y ++ List.replicate (n - j) (⟨0, false, 0, 0⟩ : OsdV))) := Lib.hid ⟨HO.out.ex, HO.out.le, HO.out.max⟩
      have HW2 : Hid (OwnAt oc 4 39 (wr.drew.setCells w.heap.size (j * 4 ) ((List.replicate m y).flatMap oc )) w.heap.size n (List.replicate (j + m) y ++ List.replicate (n - (j + m)) (⟨0, false, 0, 0⟩ : OsdV))) := Lib.hid (by
        have h1 := HOd.out.put oc_len j (List.replicate m y) (by simp; omega)
        rw [take_rep j n m y _ hmn] at h1
        exact h1)
      have HB2 := Lib.hid (Below.setCells (below_drew HB.out) (Nat.le_refl _) (j * 4 ) ((List.replicate m y).flatMap oc ))
      have HSr : Hid (∀ t v, ((List.replicate m y).flatMap oc )[t]? = some v → wr.drew.cell? ((⟨w.heap.size, 0, none⟩ : Addr).add t) = some v) := Lib.hid (fun t v hv => by
        rw [add_plain', Nat.zero_add]
        have hl := (List.getElem?_eq_some_iff.1 hv).1
        rw [flat_len oc_len, List.length_replicate] at hl
        have hmk : m * 4 ≤ j * 4 := Nat.mul_le_mul_right _ hmj
        have hnk : j * 4 ≤ n * 4 := Nat.mul_le_mul_right _ hjn
        refine HOd.out.cells t v (by rw [List.length_append, List.length_replicate, List.length_replicate, show j + (n - j) = n by omega]; omega) ?_
        rw [List.flatMap_append, List.getElem?_append_left (by rw [flat_len oc_len, List.length_replicate]; omega), ← hv]
        have e : List.replicate j y = List.replicate m y ++ List.replicate (j - m) y := by rw [List.replicate_append_replicate]; congr 1; omega
        rw [e, List.flatMap_append, List.getElem?_append_left (by rw [flat_len oc_len, List.length_replicate]; exact hl)])
      have HCe : Hid (∀ t, t < ((List.replicate m y).flatMap oc ).length → (wr.drew.cell? ⟨w.heap.size, j * 4 + t, none⟩).isSome = true) := Lib.hid (fun t ht => HOd.out.some _ (by
        rw [flat_len oc_len, List.length_replicate] at ht
        have hnk : (j + m) * 4 ≤ n * 4 := Nat.mul_le_mul_right _ hmn
        rw [Nat.add_mul] at hnk
        omega))
      have HFr : Hid (∀ t, t < ((List.replicate m y).flatMap oc ).length → wr.drew.frozen? ⟨w.heap.size, j * 4 + t, none⟩ = false) := Lib.hid (fun t _ => HOd.out.thaw _)
      have hcp := run_copy_m (P := Try.prog) wr.drew 24 24 3 39 w.heap.size (j * 4 ) (n - j) (n - j) ⟨w.heap.size, 0, none⟩ j n 4 m ((List.replicate m y).flatMap oc ) Try.underlying24 sizeO (by show min j (n - j) = m; omega) (by rw [flat_len oc_len, List.length_replicate]) HSr.out HCe.out HFr.out (fun u hu => by obtain ⟨q, hq, hu⟩ := List.mem_flatMap.1 hu; exact oc_one _ u hu)
      try rw [Nat.mul_one] at hcp HW2 HB2
      go_upto_region 9 with fail
      go_region
      generalize wr.drew.setCells w.heap.size _ ((List.replicate m y).flatMap oc ) = W2 at HW2 HB2 ⊢
      clear hcp
      go_wp2
      go_roundw
      case rel => exact ⟨j + m, by omega, by omega, by go_num, HW2.out, HB2.out⟩
      case measure => simp [intOf]; omega
    · obtain rfl : j = n := by omega
      have HO2 := Lib.hid (HO.out)
      rw [Nat.sub_self, List.replicate_zero, List.append_nil] at HO2
      go_wp2
      go_ret
      have hown := HO2.out.own (B := w.heap.size) oc_len (Nat.le_refl _)
      rw [List.length_replicate] at hown
      exact ⟨_, rfl, hown, HB.out⟩
end Go.Proofs.Ytbelemfdkbgjiaa.crush

namespace Go.Proofs.Ytbelemfdkbgjiaa.crush
open Go.RowKit
open Go.Proofs.Ytbelemfdkbgjiaa.kit Go.Proofs.Ytbelemfdkbgjiaa.own
open Go.Proofs.Ytbelemfdkbgjiaa.cm (Fld)
open Go.Proofs.Ytbelemfdkbgjiaa.code (fcells infoFz SlF)
set_option linter.unusedVariables false

def nums (c : IncV) : List Int := [c.kind, c.osd, c.client, c.num, c.pool.size, c.pool.min, c.pool.pgs, c.pool.dom]
def fldN (n : Int) : Fld := ⟨1, n, { data := #[] }, false⟩
def flds (c : IncV) : List Fld := (nums c).map fldN
theorem fcells_len (f : Fld) : (fcells f).length = 4 := rfl
theorem fcells_one (f : Fld) : ∀ v ∈ fcells f, v.oneCell' = true := by
  intro v hv
  simp [fcells] at hv
  rcases hv with rfl | rfl | rfl | rfl <;> rfl
theorem slF_of {w : World} {v : Value} {fs : List Fld} (h : Sl fcells 4 w v fs) : SlF w v fs := by
  obtain ⟨hl, a, cap, rfl, hn, hc⟩ := h
  refine ⟨hl, a, cap, rfl, fun h0 => ?_⟩
  obtain ⟨b, off, rfl, hlt, hcell⟩ := hc h0
  refine ⟨b, off, rfl, hlt, fun j hj => ?_⟩
  have h1 := hcell j hj
  exact ⟨h1 0 _ rfl, h1 1 _ rfl, h1 2 _ rfl, h1 3 _ rfl⟩

set_option maxHeartbeats 16000000 in
set_option maxRecDepth 100000 in
theorem fields_any (c : IncV) (w : World) : Calls Try.prog 34 #[c.val] w fun e w' => ∃ v, e = .returned v ∧ Own fcells 4 97 w' w.heap.size v (flds c) ∧ Below w.heap.size w w' := by
  obtain ⟨k, o, cl, n, a, b, p, d⟩ := c
  unfold IncV.val flds nums
  simp only
  go_enter Try.func34, Try.ntmps34
  go_wp2_with fail
  have hb0 : Below w.heap.size w (((w.alloc (.cells #[.int .i64 k, .int .i64 o, .int .i64 cl, .int .i64 n, .int .i64 a, .int .i64 b, .int .i64 p, .int .i64 d] 35)).alloc (.cells #[.int .i64 a, .int .i64 b, .int .i64 p, .int .i64 d] 33)).alloc (.cells #[.int .i64 k, .int .i64 o, .int .i64 cl, .int .i64 n, .int .i64 a, .int .i64 b, .int .i64 p, .int .i64 d] 102)) :=
    ((below_new w _).alloc (by simp) _).alloc (by simp; omega) _
  have HB0 := Lib.hid hb0
  clear hb0
  generalize (((w.alloc (.cells #[.int .i64 k, .int .i64 o, .int .i64 cl, .int .i64 n, .int .i64 a, .int .i64 b, .int .i64 p, .int .i64 d] 35)).alloc (.cells #[.int .i64 a, .int .i64 b, .int .i64 p, .int .i64 d] 33)).alloc (.cells #[.int .i64 k, .int .i64 o, .int .i64 cl, .int .i64 n, .int .i64 a, .int .i64 b, .int .i64 p, .int .i64 d] 102)) = W0 at HB0 ⊢
  obtain ⟨fl, hfl⟩ : ∃ fl, fl = [fldN k, fldN o, fldN cl, fldN n, fldN a, fldN b, fldN p, fldN d] := ⟨_, rfl⟩
  have HFl := Lib.hid hfl
  clear hfl
  go_loopw [5, 28] (fun v5 vi wr => ∃ i : Nat, i ≤ 8 ∧ vi = .int .i64 i ∧ Own fcells 4 97 wr w.heap.size v5 (fl.take i) ∧ Below w.heap.size w wr) (fun _ v _ => 8 - (intOf v).toNat)
  case atStart => exact ⟨0, by omega, rfl, by rw [List.take_zero]; exact Own.nil _ _ _, HB0.out⟩
  case round =>
    obtain ⟨i, hi, rfl, ho, hbw⟩ := hrel
    have hfl := HFl.out
    subst hfl
    by_cases hlt : i < 8
    · have h8 : i = 0 ∨ i = 1 ∨ i = 2 ∨ i = 3 ∨ i = 4 ∨ i = 5 ∨ i = 6 ∨ i = 7 := by omega
      obtain ⟨a9, c9, rfl⟩ := ho.slice
      have HO := Lib.hid ho; have HB := Lib.hid hbw
      clear ho hbw hi hlt
      rcases h8 with rfl | rfl | rfl | rfl | rfl | rfl | rfl | rfl
      all_goals simp only [List.take_succ_cons, List.take_zero, List.length_cons, List.length_nil, Nat.zero_add, Nat.reduceAdd] at HO ⊢
      · have hix : ∀ w, (Instr.index 102 (.agg #[.int .i64 k, .int .i64 o, .int .i64 cl, .int .i64 n, .int .i64 a, .int .i64 b, .int .i64 p, .int .i64 d]) (.int .i64 0)).run Try.prog w = .ok (.int .i64 k) w := fun w => by kernel_rfl
        have hba := below_new wr (.cells #[.int .i64 1, .int .i64 k, .string { data := #[] }, .bool false] 97)
        have HNew := Lib.hid (sl_new fcells_len wr (fldN k) 97 wr.heap.size rfl)
        have HOa := Lib.hid (HO.out.below hba)
        have HBa := Lib.hid (HB.out.trans (hba.mono HB.out.size))
        clear hba
        go_wp2_with (at_builtin; refine app1Q fcells_len fcells_one (by decide) rfl _ _ 67 rfl w.heap.size 97 _ (by rfl) 40 Try.underlying67 infoFz _ ([] : List Fld) rfl HOa.out _ (fldN k) rfl HNew.out (by simp; unfold maxLen; omega) (by simp) HBa.out.size ?_; intro v10 w10 ho hk _ _; obtain ⟨a10, c10, rfl⟩ := ho.slice; have HO10 := Lib.hid ho; have HB10 := Lib.hid (HBa.out.trans hk.toBelow); clear ho hk)
        go_roundw
        case rel => exact ⟨1, by omega, by go_num, HO10.out, HB10.out⟩
        case measure => simp [intOf]
      · have hix : ∀ w, (Instr.index 102 (.agg #[.int .i64 k, .int .i64 o, .int .i64 cl, .int .i64 n, .int .i64 a, .int .i64 b, .int .i64 p, .int .i64 d]) (.int .i64 1)).run Try.prog w = .ok (.int .i64 o) w := fun w => by kernel_rfl
        have hba := below_new wr (.cells #[.int .i64 1, .int .i64 o, .string { data := #[] }, .bool false] 97)
        have HNew := Lib.hid (sl_new fcells_len wr (fldN o) 97 wr.heap.size rfl)
        have HOa := Lib.hid (HO.out.below hba)
        have HBa := Lib.hid (HB.out.trans (hba.mono HB.out.size))
        clear hba
        go_wp2_with (at_builtin; refine app1Q fcells_len fcells_one (by decide) rfl _ _ 67 rfl w.heap.size 97 _ (by rfl) 40 Try.underlying67 infoFz _ [fldN k] rfl HOa.out _ (fldN o) rfl HNew.out (by simp; unfold maxLen; omega) (by simp) HBa.out.size ?_; intro v10 w10 ho hk _ _; obtain ⟨a10, c10, rfl⟩ := ho.slice; have HO10 := Lib.hid ho; have HB10 := Lib.hid (HBa.out.trans hk.toBelow); clear ho hk)
        go_roundw
        case rel => exact ⟨2, by omega, by go_num, HO10.out, HB10.out⟩
        case measure => simp [intOf]
      · have hix : ∀ w, (Instr.index 102 (.agg #[.int .i64 k, .int .i64 o, .int .i64 cl, .int .i64 n, .int .i64 a, .int .i64 b, .int .i64 p, .int .i64 d]) (.int .i64 2)).run Try.prog w = .ok (.int .i64 cl) w := fun w => by kernel_rfl
        have hba := below_new wr (.cells #[.int .i64 1, .int .i64 cl, .string { data := #[] }, .bool false] 97)
        have HNew := Lib.hid (sl_new fcells_len wr (fldN cl) 97 wr.heap.size rfl)
        have HOa := Lib.hid (HO.out.below hba)
        have HBa := Lib.hid (HB.out.trans (hba.mono HB.out.size))
        clear hba
        go_wp2_with (at_builtin; refine app1Q fcells_len fcells_one (by decide) rfl _ _ 67 rfl w.heap.size 97 _ (by rfl) 40 Try.underlying67 infoFz _ [fldN k, fldN o] rfl HOa.out _ (fldN cl) rfl HNew.out (by simp; unfold maxLen; omega) (by simp) HBa.out.size ?_; intro v10 w10 ho hk _ _; obtain ⟨a10, c10, rfl⟩ := ho.slice; have HO10 := Lib.hid ho; have HB10 := Lib.hid (HBa.out.trans hk.toBelow); clear ho hk)
        go_roundw
        case rel => exact ⟨3, by omega, by go_num, HO10.out, HB10.out⟩
        case measure => simp [intOf]
      · have hix : ∀ w, (Instr.index 102 (.agg #[.int .i64 k, .int .i64 o, .int .i64 cl, .int .i64 n, .int .i64 a, .int .i64 b, .int .i64 p, .int .i64 d]) (.int .i64 3)).run Try.prog w = .ok (.int .i64 n) w := fun w => by kernel_rfl
        have hba := below_new wr (.cells #[.int .i64 1, .int .i64 n, .string { data := #[] }, .bool false] 97)
        have HNew := Lib.hid (sl_new fcells_len wr (fldN n) 97 wr.heap.size rfl)
        have HOa := Lib.hid (HO.out.below hba)
        have HBa := Lib.hid (HB.out.trans (hba.mono HB.out.size))
        clear hba
        go_wp2_with (at_builtin; refine app1Q fcells_len fcells_one (by decide) rfl _ _ 67 rfl w.heap.size 97 _ (by rfl) 40 Try.underlying67 infoFz _ [fldN k, fldN o, fldN cl] rfl HOa.out _ (fldN n) rfl HNew.out (by simp; unfold maxLen; omega) (by simp) HBa.out.size ?_; intro v10 w10 ho hk _ _; obtain ⟨a10, c10, rfl⟩ := ho.slice; have HO10 := Lib.hid ho; have HB10 := Lib.hid (HBa.out.trans hk.toBelow); clear ho hk)
        go_roundw
        case rel => exact ⟨4, by omega, by go_num, HO10.out, HB10.out⟩
        case measure => simp [intOf]
      · have hix : ∀ w, (Instr.index 102 (.agg #[.int .i64 k, .int .i64 o, .int .i64 cl, .int .i64 n, .int .i64 a, .int .i64 b, .int .i64 p, .int .i64 d]) (.int .i64 4)).run Try.prog w = .ok (.int .i64 a) w := fun w => by kernel_rfl
        have hba := below_new wr (.cells #[.int .i64 1, .int .i64 a, .string { data := #[] }, .bool false] 97)
        have HNew := Lib.hid (sl_new fcells_len wr (fldN a) 97 wr.heap.size rfl)
        have HOa := Lib.hid (HO.out.below hba)
        have HBa := Lib.hid (HB.out.trans (hba.mono HB.out.size))
        clear hba
        go_wp2_with (at_builtin; refine app1Q fcells_len fcells_one (by decide) rfl _ _ 67 rfl w.heap.size 97 _ (by rfl) 40 Try.underlying67 infoFz _ [fldN k, fldN o, fldN cl, fldN n] rfl HOa.out _ (fldN a) rfl HNew.out (by simp; unfold maxLen; omega) (by simp) HBa.out.size ?_; intro v10 w10 ho hk _ _; obtain ⟨a10, c10, rfl⟩ := ho.slice; have HO10 := Lib.hid ho; have HB10 := Lib.hid (HBa.out.trans hk.toBelow); clear ho hk)
        go_roundw
        case rel => exact ⟨5, by omega, by go_num, HO10.out, HB10.out⟩
        case measure => simp [intOf]
      · have hix : ∀ w, (Instr.index 102 (.agg #[.int .i64 k, .int .i64 o, .int .i64 cl, .int .i64 n, .int .i64 a, .int .i64 b, .int .i64 p, .int .i64 d]) (.int .i64 5)).run Try.prog w = .ok (.int .i64 b) w := fun w => by kernel_rfl
        have hba := below_new wr (.cells #[.int .i64 1, .int .i64 b, .string { data := #[] }, .bool false] 97)
        have HNew := Lib.hid (sl_new fcells_len wr (fldN b) 97 wr.heap.size rfl)
        have HOa := Lib.hid (HO.out.below hba)
        have HBa := Lib.hid (HB.out.trans (hba.mono HB.out.size))
        clear hba
        go_wp2_with (at_builtin; refine app1Q fcells_len fcells_one (by decide) rfl _ _ 67 rfl w.heap.size 97 _ (by rfl) 40 Try.underlying67 infoFz _ [fldN k, fldN o, fldN cl, fldN n, fldN a] rfl HOa.out _ (fldN b) rfl HNew.out (by simp; unfold maxLen; omega) (by simp) HBa.out.size ?_; intro v10 w10 ho hk _ _; obtain ⟨a10, c10, rfl⟩ := ho.slice; have HO10 := Lib.hid ho; have HB10 := Lib.hid (HBa.out.trans hk.toBelow); clear ho hk)
        go_roundw
        case rel => exact ⟨6, by omega, by go_num, HO10.out, HB10.out⟩
        case measure => simp [intOf]
      · have hix : ∀ w, (Instr.index 102 (.agg #[.int .i64 k, .int .i64 o, .int .i64 cl, .int .i64 n, .int .i64 a, .int .i64 b, .int .i64 p, .int .i64 d]) (.int .i64 6)).run Try.prog w = .ok (.int .i64 p) w := fun w => by kernel_rfl
        have hba := below_new wr (.cells #[.int .i64 1, .int .i64 p, .string { data := #[] }, .bool false] 97)
        have HNew := Lib.hid (sl_new fcells_len wr (fldN p) 97 wr.heap.size rfl)
        have HOa := Lib.hid (HO.out.below hba)
        have HBa := Lib.hid (HB.out.trans (hba.mono HB.out.size))
        clear hba
        go_wp2_with (at_builtin; refine app1Q fcells_len fcells_one (by decide) rfl _ _ 67 rfl w.heap.size 97 _ (by rfl) 40 Try.underlying67 infoFz _ [fldN k, fldN o, fldN cl, fldN n, fldN a, fldN b] rfl HOa.out _ (fldN p) rfl HNew.out (by simp; unfold maxLen; omega) (by simp) HBa.out.size ?_; intro v10 w10 ho hk _ _; obtain ⟨a10, c10, rfl⟩ := ho.slice; have HO10 := Lib.hid ho; have HB10 := Lib.hid (HBa.out.trans hk.toBelow); clear ho hk)
        go_roundw
        case rel => exact ⟨7, by omega, by go_num, HO10.out, HB10.out⟩
        case measure => simp [intOf]
      · have hix : ∀ w, (Instr.index 102 (.agg #[.int .i64 k, .int .i64 o, .int .i64 cl, .int .i64 n, .int .i64 a, .int .i64 b, .int .i64 p, .int .i64 d]) (.int .i64 7)).run Try.prog w = .ok (.int .i64 d) w := fun w => by kernel_rfl
        have hba := below_new wr (.cells #[.int .i64 1, .int .i64 d, .string { data := #[] }, .bool false] 97)
        have HNew := Lib.hid (sl_new fcells_len wr (fldN d) 97 wr.heap.size rfl)
        have HOa := Lib.hid (HO.out.below hba)
        have HBa := Lib.hid (HB.out.trans (hba.mono HB.out.size))
        clear hba
        go_wp2_with (at_builtin; refine app1Q fcells_len fcells_one (by decide) rfl _ _ 67 rfl w.heap.size 97 _ (by rfl) 40 Try.underlying67 infoFz _ [fldN k, fldN o, fldN cl, fldN n, fldN a, fldN b, fldN p] rfl HOa.out _ (fldN d) rfl HNew.out (by simp; unfold maxLen; omega) (by simp) HBa.out.size ?_; intro v10 w10 ho hk _ _; obtain ⟨a10, c10, rfl⟩ := ho.slice; have HO10 := Lib.hid ho; have HB10 := Lib.hid (HBa.out.trans hk.toBelow); clear ho hk)
        go_roundw
        case rel => exact ⟨8, by omega, by go_num, HO10.out, HB10.out⟩
        case measure => simp [intOf]
    · obtain rfl : i = 8 := by omega
      obtain ⟨a9, c9, rfl⟩ := ho.slice
      have HO := Lib.hid ho; have HB := Lib.hid hbw
      clear ho hbw
      go_wp2
      go_ret
      exact ⟨_, rfl, HO.out, HB.out⟩

theorem inR_iff {x a b : Int} : inR x a b = true ↔ a ≤ x ∧ x ≤ b := by unfold inR; simp
theorem osd_eq {c : IncV} (h : c = osdOf c) : c.client = 0 ∧ c.pool = noPool := by
  obtain ⟨k, o, cl, n, a, b, p, d⟩ := c
  simp [osdOf] at h
  exact ⟨h.1, h.2⟩
theorem pool_eq {c : IncV} (h : c = poolOf c) : c.osd = 0 ∧ c.client = 0 ∧ c.num = 0 := by
  obtain ⟨k, o, cl, n, a, b, p, d⟩ := c
  simp [poolOf] at h
  exact ⟨h.1, h.2.1, h.2.2⟩
theorem ban_eq {c : IncV} (h : c = banOfI c) : c.osd = 0 ∧ c.pool = noPool := by
  obtain ⟨k, o, cl, n, a, b, p, d⟩ := c
  simp [banOfI] at h
  exact ⟨h.1, h.2⟩
/-- The numbers of a change that is one. -/
theorem okInc_nums {c : IncV} (h : okInc c = true) : ∀ n ∈ nums c, 0 ≤ n ∧ n ≤ 1073741824 := by
  have hk : 1 ≤ c.kind ∧ c.kind ≤ 6 := by
    unfold okInc at h
    repeat' split at h
    all_goals first | (cases h; done) | omega
  have hall : (0 ≤ c.osd ∧ c.osd ≤ 7) ∧ (0 ≤ c.client ∧ c.client ≤ 3) ∧ (0 ≤ c.num ∧ c.num ≤ 1073741824) ∧ (0 ≤ c.pool.size ∧ c.pool.size ≤ 3) ∧ (0 ≤ c.pool.min ∧ c.pool.min ≤ 3) ∧ (0 ≤ c.pool.pgs ∧ c.pool.pgs ≤ 8) ∧ (0 ≤ c.pool.dom ∧ c.pool.dom ≤ 2) := by
    unfold okInc isOsd okBoot okWeight okId okPool okBan okBoot at h
    split at h
    · simp only [Bool.and_eq_true, decide_eq_true_iff, inR_iff] at h
      obtain ⟨h1, h2⟩ := osd_eq h.1.1
      rw [h1, h2]; simp only [noPool]; omega
    · split at h
      · simp only [Bool.and_eq_true, decide_eq_true_iff, inR_iff] at h
        obtain ⟨h1, h2⟩ := osd_eq h.1.1
        rw [h1, h2]; simp only [noPool]; omega
      · split at h
        · simp only [Bool.and_eq_true, decide_eq_true_iff, inR_iff] at h
          obtain ⟨h1, h2⟩ := osd_eq h.1.1
          rw [h1, h2]; simp only [noPool]; omega
        · split at h
          · simp only [Bool.and_eq_true, decide_eq_true_iff, inR_iff] at h
            obtain ⟨h1, h2, h3⟩ := pool_eq h.1
            rw [h1, h2, h3]; omega
          · split at h
            · simp only [Bool.and_eq_true, decide_eq_true_iff, inR_iff] at h
              obtain ⟨h1, h2⟩ := ban_eq h.1
              rw [h1, h2]; simp only [noPool]; omega
            · cases h
  intro n hn
  simp only [nums, List.mem_cons, List.not_mem_nil, or_false] at hn
  rcases hn with rfl | rfl | rfl | rfl | rfl | rfl | rfl | rfl <;> omega
theorem fldN_ok {n : Int} (h : 0 ≤ n ∧ n ≤ 1073741824) : (fldN n).Ok ∧ (fldN n).fit = true := by
  refine ⟨⟨by show (-9223372036854775808 : Int) ≤ 1; decide, by show (1 : Int) ≤ 9223372036854775807; decide, by show _ ≤ n; omega, by show n ≤ _; omega, by show (0 : Nat) ≤ maxLen; unfold maxLen; omega⟩, ?_⟩
  unfold Fld.fit fldN
  have h0 := h.1
  simp [h0]
theorem flds_ok {c : IncV} (h : okInc c = true) : ∀ f ∈ flds c, f.fit = true ∧ f.Ok := by
  intro f hf
  obtain ⟨n, hn, rfl⟩ := List.mem_map.1 hf
  exact ⟨(fldN_ok (okInc_nums h n hn)).2, (fldN_ok (okInc_nums h n hn)).1⟩
theorem fldN_bytes (n : Int) : (fldN n).bytes = Go.Proofs.Ytbelemfdkbgjiaa.cm.numB n.toNat := by unfold Fld.bytes fldN; rw [if_pos rfl]
theorem flds_len (c : IncV) : ((flds c).flatMap Fld.bytes).length ≤ 80 := by
  have h : ∀ l : List Int, ((l.map fldN).flatMap Fld.bytes).length ≤ l.length * 10 := by
    intro l
    induction l with
    | nil => simp
    | cons x r ih =>
      rw [List.map_cons, List.flatMap_cons, List.length_append, fldN_bytes]
      have := Go.Proofs.Ytbelemfdkbgjiaa.cm.numB_len x.toNat
      simp only [List.length_cons]
      omega
  have := h (nums c)
  simp only [nums, List.length_cons, List.length_nil] at this
  exact this
/-- A change's text. -/
def incT (c : IncV) : ByteArray := strOfNums (((flds c).flatMap Fld.bytes).map fun n : Nat => (n : Int))
def encE (c : IncV) : ByteArray := if okInc c then incT c else { data := #[] }

set_option maxHeartbeats 8000000 in
theorem Encode_any (c : IncV) (w : World) : Calls Try.prog 15 #[c.val] w fun e w' => e = .returned (.string (encE c)) ∧ Below w.heap.size w w' := by
  have HI := Lib.hid (fun w => Inc_any c w)
  have HF := Lib.hid (fun w => fields_any c w)
  have HX := Lib.hid (ibx_new w c)
  have HB := Lib.hid (below_new w (.cells #[.int .i64 c.kind, .int .i64 c.osd, .int .i64 c.client, .int .i64 c.num, .int .i64 c.pool.size, .int .i64 c.pool.min, .int .i64 c.pool.pgs, .int .i64 c.pool.dom] 35))
  have HE := Lib.hid (show ∀ q, okInc c = q → (q = true → encE c = strOfNums ((Go.Proofs.Ytbelemfdkbgjiaa.cm.bytesL (flds c)).map fun n : Nat => (n : Int))) ∧ (q = false → encE c = { data := #[] }) from fun q hq => by
    subst hq
    refine ⟨fun h => ?_, fun h => by unfold encE; rw [h]; rfl⟩
    have hf : Go.Proofs.Ytbelemfdkbgjiaa.cm.fits (flds c) = true := List.all_eq_true.2 fun f hf => (flds_ok h f hf).1
    unfold encE incT Go.Proofs.Ytbelemfdkbgjiaa.cm.bytesL
    rw [if_pos h, if_pos hf])
  have HC := Lib.hid (fun (h : okInc c = true) (sl : Value) (w : World) (hs : SlF w sl (flds c)) => Go.Proofs.Ytbelemfdkbgjiaa.code.Fields_any sl (flds c) w hs (fun f hf => (flds_ok h f hf).2) (by have := flds_len c; omega) (fun f hf => by obtain ⟨n, _, rfl⟩ := List.mem_map.1 hf; show (0 : Nat) ≤ _; omega))
  obtain ⟨q, hq⟩ : ∃ q, okInc c = q := ⟨_, rfl⟩
  have HE2 := Lib.hid (HE.out q hq)
  rw [hq] at HI
  simp only [hq] at HC
  generalize encE c = ee at HE2 ⊢
  generalize flds c = fl at HF HE2 HC
  unfold IncV.val at HI HF ⊢
  clear HE hq
  go_enter Try.func15, Try.ntmps15
  cases q with
  | false =>
    have he := Lib.hid (HE2.out.2 rfl)
    go_wp2_with (go_at_call 32; refine (HI.out _).mono ?_; rintro e w5 ⟨rfl, hb⟩; have HB5 := Lib.hid (HB.out.trans (hb.mono HB.out.size)); clear hb)
    go_ret
    exact ⟨by rw [he.out]; rfl, HB5.out⟩
  | true =>
    have he := Lib.hid (HE2.out.1 rfl)
    go_wp2_with (first
      | (go_at_call 32; refine (HI.out _).mono ?_; rintro e w5 ⟨rfl, hb⟩; have HB5 := Lib.hid (HB.out.trans (hb.mono HB.out.size)); obtain ⟨c0, c1, c2, c3, c4, c5, c6, c7⟩ := (HX.out.keep hb).cells; clear hb)
      | (go_at_call 34; refine (HF.out _).mono ?_; rintro e w6 ⟨v6, rfl, ho, hb⟩; obtain ⟨a6, c6', rfl⟩ := ho.slice; have HB6 := Lib.hid (HB5.out.trans (hb.mono HB5.out.size)); have HO6 := Lib.hid (ho.read fcells_len); clear hb ho)
      | (go_at_call 33; refine (HC.out (by first | trivial | rfl) _ w6 (slF_of HO6.out)).mono ?_; rintro e w7 ⟨v7, rfl, ho, hb⟩; have HB7 := Lib.hid (HB6.out.trans (hb.mono HB6.out.size)); have hconv := conv_bytes (P := Try.prog) 70 5 9 Try.underlying70 Try.underlying5 Try.underlying9 ho.read; clear hb ho))
    go_ret
    exact ⟨by rw [he.out]; rfl, HB7.out⟩
end Go.Proofs.Ytbelemfdkbgjiaa.crush

namespace Go.Proofs.Ytbelemfdkbgjiaa.crush
open Go.RowKit
open Go.Proofs.Ytbelemfdkbgjiaa.kit Go.Proofs.Ytbelemfdkbgjiaa.own
open Go.Proofs.Ytbelemfdkbgjiaa.cm (Fld txtN)
open Go.Proofs.Ytbelemfdkbgjiaa.code (fcells infoFz SlF SlB SlK OwnF rA rField ReadS Read_any str_bytes)
set_option linter.unusedVariables false

/-- What 'Whole' says. -/
def WholeG (w : World) (R0 : Except Int (List Fld × List Nat)) (e : Ending) (w' : World) : Prop :=
  Below w.heap.size w w' ∧
    match R0 with
    | .ok (fs, []) => ∃ v, e = .returned (.tuple #[v, .int .i64 0]) ∧ OwnF w' w.heap.size v fs
    | .ok (_, _ :: _) => e = .returned (.tuple #[.slice none 0 0, .int .i64 10])
    | .error er => e = .returned (.tuple #[.slice none 0 0, .int .i64 er]) ∧ er ≠ 0

set_option maxHeartbeats 4000000 in
set_option maxRecDepth 100000 in
theorem wholeG_any (bv kv : Value) (bs : List Nat) (ks : List Int) (w : World) (hb : SlB w bv bs (fun _ => True)) (h8 : ∀ c ∈ bs, c < 256) (hk : SlK w kv ks) (hlen : ks.length ≤ 1000000000000) :
    Calls Try.prog 29 #[bv, kv] w (WholeG w (rA rField [] ks bs)) := by
  have HR := Lib.hid (Read_any bv kv bs ks w hb h8 hk hlen)
  obtain ⟨hl, a, cap, rfl, hle, _⟩ := hb
  clear h8 hk hlen
  obtain ⟨R0, hR0⟩ : ∃ R0, rA rField [] ks bs = R0 := ⟨_, rfl⟩
  rw [hR0] at HR ⊢
  clear hR0
  cases R0 with
  | error er =>
    go_enter Try.func29, Try.ntmps29
    go_wp2_with fail
    refine HR.out.mono ?_
    rintro e w1 ⟨hb1, rfl, hne⟩
    have HB1 := Lib.hid hb1
    have hne' : True → (er != 0) = true := fun _ => by simpa using hne
    have HNe := Lib.hid hne
    clear hb1 hne HR
    go_wp2
    go_ret2
    exact ⟨HB1.out, rfl, HNe.out⟩
  | ok q =>
    obtain ⟨fs, rr⟩ := q
    cases rr with
    | nil =>
      go_enter Try.func29, Try.ntmps29
      go_wp2_with fail
      refine HR.out.mono ?_
      rintro e w1 ⟨hb1, v, rfl, ho⟩
      have HB1 := Lib.hid hb1; have HO := Lib.hid ho
      rw [show ((bs.length : Int) - (([] : List Nat).length : Int)) = (bs.length : Int) by simp]
      have hn : ¬ ((bs.length : Int) < (bs.length : Int)) := by omega
      clear hb1 ho HR
      go_wp2
      go_ret2
      exact ⟨HB1.out, v, rfl, HO.out⟩
    | cons c r =>
      go_enter Try.func29, Try.ntmps29
      go_wp2_with fail
      refine HR.out.mono ?_
      rintro e w1 ⟨hb1, v, rfl, ho⟩
      have HB1 := Lib.hid hb1
      obtain ⟨z, hz⟩ : ∃ z : Int, ((bs.length : Int) - ((c :: r).length : Int)) = z := ⟨_, rfl⟩
      have hn : z < (bs.length : Int) := by rw [← hz, List.length_cons]; omega
      rw [hz]
      clear hb1 ho HR hz
      go_wp2
      go_ret2
      exact ⟨HB1.out, rfl⟩

theorem slK_of {w : World} {v : Value} {ks : List Int} (h : Sl ic 1 w v ks) : SlK w v ks := by
  obtain ⟨hl, a, cap, rfl, hn, hc⟩ := h
  refine ⟨hl, a, cap, rfl, fun h0 => ?_⟩
  obtain ⟨b, off, rfl, hlt, hcell⟩ := hc h0
  refine ⟨b, off, rfl, fun j hj => ?_⟩
  have := icell_at (hcell j hj)
  rw [Nat.mul_one] at this
  rw [List.getD_eq_getElem?_getD, List.getElem?_eq_getElem hj]
  exact this
theorem slF_to {w : World} {B : Nat} {v : Value} {fs : List Fld} (h : OwnF w B v fs) : Own fcells 4 97 w B v fs := h
theorem rA_len {rd : Int → List Nat → Except Int (Fld × List Nat)} : ∀ (ks : List Int) (acc : List Fld) (bs : List Nat) (fs : List Fld) (r : List Nat), rA rd acc ks bs = .ok (fs, r) → fs.length = acc.length + ks.length
  | [], acc, bs, fs, r, h => by
    have : (acc, bs) = (fs, r) := by simpa [rA] using h
    cases this; simp
  | k :: ks, acc, bs, fs, r, h => by
    rw [rA] at h
    cases hq : rd k bs with
    | error e => rw [hq] at h; cases h
    | ok q =>
      obtain ⟨f, r'⟩ := q
      rw [hq] at h
      have := rA_len ks (acc ++ [f]) r' fs r h
      rw [this, List.length_append]; simp; omega

def incOfL (fs : List Fld) : IncV := ⟨(fs.getD 0 ⟨0, 0, { data := #[] }, false⟩).num, (fs.getD 1 ⟨0, 0, { data := #[] }, false⟩).num, (fs.getD 2 ⟨0, 0, { data := #[] }, false⟩).num, (fs.getD 3 ⟨0, 0, { data := #[] }, false⟩).num,
  ⟨(fs.getD 4 ⟨0, 0, { data := #[] }, false⟩).num, (fs.getD 5 ⟨0, 0, { data := #[] }, false⟩).num, (fs.getD 6 ⟨0, 0, { data := #[] }, false⟩).num, (fs.getD 7 ⟨0, 0, { data := #[] }, false⟩).num⟩⟩
set_option maxHeartbeats 4000000 in
theorem num_any (N : Nat) (b off cap : Nat) (i : Nat) (hi : i < 8) (n : Int) (w : World) (hN : w.cell? ⟨N, 0, none⟩ = some (.slice (some ⟨b, off, none⟩) 8 cap)) (hc : w.cell? ⟨b, off + i * 4 + 1, none⟩ = some (.int .i64 n)) :
    Calls Try.prog 58 #[.int .i64 i, .pointer (some ⟨N, 0, none⟩)] w fun e w' => e = .returned (.int .i64 n) ∧ w' = w := by
  have hi' : (i : Int) < 8 := by omega
  have hi0 : (0 : Int) ≤ i := by omega
  go_enter Try.func58, Try.ntmps58
  go_wp2
  go_ret
  exact ⟨rfl, rfl⟩

theorem IBx.thaw {W : World} {N : Nat} {c : IncV} (h : IBx W N c) (j : Nat) : W.frozen? ⟨N, j, none⟩ = false := by
  unfold IBx at h
  simp [World.frozen?, h]
theorem IBx.there {W : World} {N : Nat} {c : IncV} (h : IBx W N c) : W.there N 0 8 := by
  unfold IBx at h
  intro j hj
  match j, hj with
  | 0, _ => simp [World.cell?, World.frozen?, h]
  | 1, _ => simp [World.cell?, World.frozen?, h]
  | 2, _ => simp [World.cell?, World.frozen?, h]
  | 3, _ => simp [World.cell?, World.frozen?, h]
  | 4, _ => simp [World.cell?, World.frozen?, h]
  | 5, _ => simp [World.cell?, World.frozen?, h]
  | 6, _ => simp [World.cell?, World.frozen?, h]
  | 7, _ => simp [World.cell?, World.frozen?, h]
theorem IBx.put {W : World} {N : Nat} {c : IncV} (h : IBx W N c) (c' : IncV) : IBx (W.setCells N 0 c'.cells) N c' := heap_setCells N _ c'.cells 0 W _ h
theorem IncV.one (c : IncV) : ∀ v ∈ c.cells, v.oneCell' = true := by
  intro v hv
  simp only [IncV.cells, List.mem_cons, List.not_mem_nil, or_false] at hv
  rcases hv with rfl | rfl | rfl | rfl | rfl | rfl | rfl | rfl <;> rfl
theorem IBx.range {W : World} {N : Nat} {c : IncV} (h : IBx W N c) : W.rangeAt N 0 [.int .i64 c.kind, .int .i64 c.osd, .int .i64 c.client, .int .i64 c.num, .int .i64 c.pool.size, .int .i64 c.pool.min, .int .i64 c.pool.pgs, .int .i64 c.pool.dom] := cells_range (l := [.int .i64 c.kind, .int .i64 c.osd, .int .i64 c.client, .int .i64 c.num, .int .i64 c.pool.size, .int .i64 c.pool.min, .int .i64 c.pool.pgs, .int .i64 c.pool.dom]) h

set_option maxHeartbeats 16000000 in
set_option maxRecDepth 100000 in
theorem incOf_any (v : Value) (fs : List Fld) (hf : fs.length = 8) (w : World) (h : Sl fcells 4 w v fs) : Calls Try.prog 31 #[v] w fun e w' => e = .returned (incOfL fs).val ∧ Below w.heap.size w w' := by
  obtain ⟨hl, a, cap, rfl, hnil, hc⟩ := id h
  obtain ⟨b, off, rfl, hlt, hcell⟩ := hc (by omega)
  rw [hf]
  have hmf : ∀ (fn : Fn) (first cap : Array Value) (w : World), (Instr.makeFunc fn first cap).run Try.prog w = .ok (.func fn first cap) w := fun _ _ _ _ => rfl
  have mixed : Try.prog.follows .mixedOrders = true := by kernel_rfl
  have HC : Hid (∀ i, i < 8 → ∀ u, Below w.heap.size w u → u.cell? ⟨b, off + i * 4 + 1, none⟩ = some (.int .i64 (fs.getD i ⟨0, 0, { data := #[] }, false⟩).num)) := Lib.hid (fun i hi u hu => by
    have h1 := (hcell i (by omega)) 1 _ rfl
    have h2 : fs.getD i ⟨0, 0, { data := #[] }, false⟩ = fs[i]'(by omega) := by rw [List.getD_eq_getElem?_getD, List.getElem?_eq_getElem (by omega)]; rfl
    rw [h2]
    exact (hu.cell (p := ⟨b, off + i * 4 + 1, none⟩) hlt).trans h1)
  unfold incOfL IncV.val
  simp only
  obtain ⟨n0, h0⟩ : ∃ n, (fs.getD 0 ⟨0, 0, { data := #[] }, false⟩).num = n := ⟨_, rfl⟩
  obtain ⟨n1, h1⟩ : ∃ n, (fs.getD 1 ⟨0, 0, { data := #[] }, false⟩).num = n := ⟨_, rfl⟩
  obtain ⟨n2, h2⟩ : ∃ n, (fs.getD 2 ⟨0, 0, { data := #[] }, false⟩).num = n := ⟨_, rfl⟩
  obtain ⟨n3, h3⟩ : ∃ n, (fs.getD 3 ⟨0, 0, { data := #[] }, false⟩).num = n := ⟨_, rfl⟩
  obtain ⟨n4, h4⟩ : ∃ n, (fs.getD 4 ⟨0, 0, { data := #[] }, false⟩).num = n := ⟨_, rfl⟩
  obtain ⟨n5, h5⟩ : ∃ n, (fs.getD 5 ⟨0, 0, { data := #[] }, false⟩).num = n := ⟨_, rfl⟩
  obtain ⟨n6, h6⟩ : ∃ n, (fs.getD 6 ⟨0, 0, { data := #[] }, false⟩).num = n := ⟨_, rfl⟩
  obtain ⟨n7, h7⟩ : ∃ n, (fs.getD 7 ⟨0, 0, { data := #[] }, false⟩).num = n := ⟨_, rfl⟩
  have HC0 := Lib.hid (HC.out 0 (by omega)); have HC1 := Lib.hid (HC.out 1 (by omega)); have HC2 := Lib.hid (HC.out 2 (by omega)); have HC3 := Lib.hid (HC.out 3 (by omega))
  have HC4 := Lib.hid (HC.out 4 (by omega)); have HC5 := Lib.hid (HC.out 5 (by omega)); have HC6 := Lib.hid (HC.out 6 (by omega)); have HC7 := Lib.hid (HC.out 7 (by omega))
  rw [h0] at HC0 ⊢; rw [h1] at HC1 ⊢; rw [h2] at HC2 ⊢; rw [h3] at HC3 ⊢; rw [h4] at HC4 ⊢; rw [h5] at HC5 ⊢; rw [h6] at HC6 ⊢; rw [h7] at HC7 ⊢
  clear HC h hl hnil hc hlt hcell hf h0 h1 h2 h3 h4 h5 h6 h7
  go_enter Try.func31, Try.ntmps31
  go_upto_region 2 with fail
  have hb1 : Below w.heap.size w (w.alloc (.cells #[.slice (some ⟨b, off, none⟩) 8 cap] 67)) := below_new w _
  have hb2 : Below w.heap.size w ((w.alloc (.cells #[.slice (some ⟨b, off, none⟩) 8 cap] 67)).alloc (.cells #[.int .i64 0, .int .i64 0, .int .i64 0, .int .i64 0, .int .i64 0, .int .i64 0, .int .i64 0, .int .i64 0] 35)) := hb1.alloc (by simp) _
  have hk := alloc_at w (.cells #[.slice (some ⟨b, off, none⟩) 8 cap] 67)
  have hr := alloc_at (w.alloc (.cells #[.slice (some ⟨b, off, none⟩) 8 cap] 67)) (.cells #[.int .i64 0, .int .i64 0, .int .i64 0, .int .i64 0, .int .i64 0, .int .i64 0, .int .i64 0, .int .i64 0] 35)
  rw [World.size_alloc] at hr
  have hk2 := ((below_new (w.alloc (.cells #[.slice (some ⟨b, off, none⟩) 8 cap] 67)) (.cells #[.int .i64 0, .int .i64 0, .int .i64 0, .int .i64 0, .int .i64 0, .int .i64 0, .int .i64 0, .int .i64 0] 35)).block w.heap.size (by simp)).trans hk
  have HB2 := Lib.hid hb2; have HR := Lib.hid hr; have HK2 := Lib.hid hk2
  clear hb1 hk hb2 hr hk2
  generalize ((w.alloc (.cells #[.slice (some ⟨b, off, none⟩) 8 cap] 67)).alloc (.cells #[.int .i64 0, .int .i64 0, .int .i64 0, .int .i64 0, .int .i64 0, .int .i64 0, .int .i64 0, .int .i64 0] 35)) = W at HB2 HR HK2 ⊢
  have c0 := HC0.out W HB2.out; have c1 := HC1.out W HB2.out; have c2 := HC2.out W HB2.out; have c3 := HC3.out W HB2.out
  have c4 := HC4.out W HB2.out; have c5 := HC5.out W HB2.out; have c6 := HC6.out W HB2.out; have c7 := HC7.out W HB2.out
  have k0 := box_cell HK2.out
  have HNum := Lib.hid (fun (i : Nat) (hi : i < 8) n (hc : W.drew.cell? ⟨b, off + i * 4 + 1, none⟩ = some (.int .i64 n)) => num_any w.heap.size b off cap i hi n W.drew k0 hc)
  have HQ0 := Lib.hid (show Calls Try.prog 58 #[.int .i64 0, .pointer (some ⟨w.heap.size, 0, none⟩)] W.drew (fun e w' => e = .returned (.int .i64 n0) ∧ w' = W.drew) from HNum.out 0 (by omega) n0 c0)
  have HQ1 := Lib.hid (show Calls Try.prog 58 #[.int .i64 1, .pointer (some ⟨w.heap.size, 0, none⟩)] W.drew (fun e w' => e = .returned (.int .i64 n1) ∧ w' = W.drew) from HNum.out 1 (by omega) n1 c1)
  have HQ2 := Lib.hid (show Calls Try.prog 58 #[.int .i64 2, .pointer (some ⟨w.heap.size, 0, none⟩)] W.drew (fun e w' => e = .returned (.int .i64 n2) ∧ w' = W.drew) from HNum.out 2 (by omega) n2 c2)
  have HQ4 := Lib.hid (show Calls Try.prog 58 #[.int .i64 4, .pointer (some ⟨w.heap.size, 0, none⟩)] W.drew (fun e w' => e = .returned (.int .i64 n4) ∧ w' = W.drew) from HNum.out 4 (by omega) n4 c4)
  have HQ5 := Lib.hid (show Calls Try.prog 58 #[.int .i64 5, .pointer (some ⟨w.heap.size, 0, none⟩)] W.drew (fun e w' => e = .returned (.int .i64 n5) ∧ w' = W.drew) from HNum.out 5 (by omega) n5 c5)
  have HQ6 := Lib.hid (show Calls Try.prog 58 #[.int .i64 6, .pointer (some ⟨w.heap.size, 0, none⟩)] W.drew (fun e w' => e = .returned (.int .i64 n6) ∧ w' = W.drew) from HNum.out 6 (by omega) n6 c6)
  have HQ7 := Lib.hid (show Calls Try.prog 58 #[.int .i64 7, .pointer (some ⟨w.heap.size, 0, none⟩)] W.drew (fun e w' => e = .returned (.int .i64 n7) ∧ w' = W.drew) from HNum.out 7 (by omega) n7 c7)
  clear HC0 HC1 HC2 HC3 HC4 HC5 HC6 HC7 HNum
  clear c0 c1 c2 c4 c5 c6 c7
  go_still_tail 20, (by kernel_rfl)
  still_call HQ0.out
  repeat still_step
  still_call HQ1.out
  repeat still_step
  still_call HQ2.out
  repeat still_step
  still_call HQ4.out
  repeat still_step
  still_call HQ5.out
  repeat still_step
  still_call HQ6.out
  repeat still_step
  still_call HQ7.out
  repeat still_step
  refine wpStill_nil ?_
  change wpList _ _ _ _ _ W.drew
  have HI := Lib.hid (show IBx W.drew (w.heap.size + 1) ⟨0, 0, 0, 0, ⟨0, 0, 0, 0⟩⟩ from HR.out)
  have hT := HI.out.there
  have HF := Lib.hid (HI.out.put ⟨n0, n1, n2, n3, ⟨n4, n5, n6, n7⟩⟩)
  have HBf := Lib.hid (Below.setCells (below_drew HB2.out) (b := w.heap.size + 1) (by omega) 0 (IncV.cells ⟨n0, n1, n2, n3, ⟨n4, n5, n6, n7⟩⟩))
  refine wpList_store_mid rfl 35 (.tmp 2) (.tmp 24) rfl (w.heap.size + 1) 0 (IncV.cells ⟨n0, n1, n2, n3, ⟨n4, n5, n6, n7⟩⟩).toArray rfl rfl hT sizeInc (all_oneCell_toArray (IncV.one _)) ?_
  generalize W.drew.setCells (w.heap.size + 1) 0 _ = W9 at HF HBf ⊢
  clear k0 c3 hT
  go_wp2_with fail
  refine bodyPost_ret (ret_cell rfl rfl HF.out.range Try.underlying35 rfl sizeInc) rfl ?_
  exact ⟨rfl, HBf.out⟩
end Go.Proofs.Ytbelemfdkbgjiaa.crush

namespace Go.Proofs.Ytbelemfdkbgjiaa.crush
open Go.RowKit
open Go.Proofs.Ytbelemfdkbgjiaa.kit Go.Proofs.Ytbelemfdkbgjiaa.own
open Go.Proofs.Ytbelemfdkbgjiaa.cm (Fld txtN)
open Go.Proofs.Ytbelemfdkbgjiaa.code (fcells infoFz SlF SlB SlK OwnF rA rField ReadS Read_any str_bytes)
set_option linter.unusedVariables false

def incZ : IncV := ⟨0, 0, 0, 0, ⟨0, 0, 0, 0⟩⟩
/-- What a text is read as. -/
def decR (R0 : Except Int (List Fld × List Nat)) : Int × IncV :=
  match R0 with
  | .ok (fs, []) => if okInc (incOfL fs) then (0, incOfL fs) else (14, incZ)
  | _ => (10, incZ)
def decB (bs : List Nat) : Int × IncV := decR (rA rField [] [1, 1, 1, 1, 1, 1, 1, 1] bs)
def DecS (w : World) (r : Int × IncV) (e : Ending) (w' : World) : Prop := e = .returned (.tuple #[r.2.val, .int .i64 r.1]) ∧ Below w.heap.size w w'
theorem txtN_8 (s : ByteArray) : ∀ c ∈ txtN s, c < 256 := by
  intro c hc
  obtain ⟨b, _, rfl⟩ := List.mem_map.1 hc
  exact b.toNat_lt

set_option maxHeartbeats 16000000 in
set_option maxRecDepth 100000 in
theorem Decode_any (s : ByteArray) (hs : s.size ≤ 100000000000) (w : World) : Calls Try.prog 14 #[.string s] w (DecS w (decB (txtN s))) := by
  -- the result's box
  have hb1 := below_new w (.cells #[.int .i64 0, .int .i64 0, .int .i64 0, .int .i64 0, .int .i64 0, .int .i64 0, .int .i64 0, .int .i64 0] 35)
  have HI1 := Lib.hid (ibx_new w incZ)
  have HB1 := Lib.hid hb1
  generalize hW1 : (w.alloc (.cells #[.int .i64 0, .int .i64 0, .int .i64 0, .int .i64 0, .int .i64 0, .int .i64 0, .int .i64 0, .int .i64 0] 35)) = W1 at HB1
  have HI1' := Lib.hid (show IBx W1 w.heap.size incZ from by rw [← hW1]; exact HI1.out)
  obtain ⟨cp, W2, hcv, hsb, hb2⟩ := str_bytes W1 s hs
  have hlenB : (txtN s).length = s.size := by unfold txtN; rw [List.length_map, Array.length_toList]; rfl
  have HSB := Lib.hid hsb; have HB2 := Lib.hid hb2
  have hnk := sl_new ic_len W2 1 3 W2.heap.size rfl
  have hb3 := below_new W2 (.cells (ic 1).toArray 3)
  have HNk := Lib.hid hnk; have HB3 := Lib.hid hb3
  have HR := Lib.hid (fun u (h : Sl ic 1 u (.slice (some ⟨W2.heap.size, 0, none⟩) 1 1) [1]) => repeatI _ 1 8 (by omega) (by omega) u h)
  have H8 := Lib.hid (txtN_8 s)
  have HWh := Lib.hid (fun bv kv u (hb : SlB u bv (txtN s) (fun _ => True)) (hk : SlK u kv [1, 1, 1, 1, 1, 1, 1, 1]) => wholeG_any bv kv (txtN s) [1, 1, 1, 1, 1, 1, 1, 1] u hb H8.out hk (by decide))
  obtain ⟨R0, hR0⟩ : ∃ R0, rA rField [] [1, 1, 1, 1, 1, 1, 1, 1] (txtN s) = R0 := ⟨_, rfl⟩
  have HR0 := Lib.hid hR0
  have hdec : decB (txtN s) = decR R0 := by unfold decB; rw [hR0]
  have hlen8 : ∀ fs r, R0 = .ok (fs, r) → fs.length = 8 := fun fs r h => by rw [← hR0] at h; exact rA_len _ _ _ _ _ h
  rw [hdec]
  have HL8 := Lib.hid hlen8
  rw [hR0] at HWh
  clear hb1 hsb hb2 hnk hb3 hR0 hdec hlen8 hs HI1
  go_enter Try.func14, Try.ntmps14
  cases R0 with
  | error er =>
    go_upto_region 2 with (first
      | (go_at_call 30; refine (HR.out _ HNk.out).mono ?_; rintro e w5 ⟨v5, rfl, ho, hb⟩; obtain ⟨a5, c5, rfl⟩ := ho.slice; have HB5 := Lib.hid (HB3.out.trans (hb.mono HB3.out.size)); have HK5 := Lib.hid (slK_of (ho.read ic_len)); clear ho hb)
      | (go_at_call 29; refine (HWh.out _ _ w5 (HSB.out.keep (row := none) ⟨HB5.out.os, HB5.out.tape, HB5.out.output, HB5.out.size, fun k hk _ => HB5.out.block k hk⟩ (fun b _ e => by cases e)) HK5.out).mono ?_; rintro e w6 ⟨hb6, rfl, hne⟩))
    have HB26 := Lib.hid (HB2.out.trans ((HB5.out.trans (hb6.mono HB5.out.size)).mono HB2.out.size))
    have HI6 := Lib.hid (HI1'.out.keep HB26.out)
    have HBw6 := Lib.hid (HB1.out.trans (HB26.out.mono HB1.out.size))
    clear hb6 hcv HSB HWh HR HK5 HNk HB3 HB5 HB2 HB26 H8
    have hne' : True → (er != 0) = true := fun _ => by simpa using hne
    have HNe := Lib.hid hne
    clear hne
    have hT := HI6.out.there
    have HF := Lib.hid (HI6.out.put incZ)
    have HBf := Lib.hid (Below.setCells HBw6.out (b := w.heap.size) (Nat.le_refl _) 0 (IncV.cells incZ))
    go_wp2_with (refine wpList_store_mid rfl 35 _ _ rfl w.heap.size 0 (IncV.cells incZ).toArray rfl rfl hT sizeInc (all_oneCell_toArray (IncV.one _)) ?_)
    refine bodyPost_ret (ret_cell_tmp rfl rfl HF.out.range Try.underlying35 rfl sizeInc) rfl ?_
    exact ⟨rfl, HBf.out⟩
  | ok q =>
    obtain ⟨fs, rr⟩ := q
    cases rr with
    | cons c r =>
      go_upto_region 2 with (first
        | (go_at_call 30; refine (HR.out _ HNk.out).mono ?_; rintro e w5 ⟨v5, rfl, ho, hb⟩; obtain ⟨a5, c5, rfl⟩ := ho.slice; have HB5 := Lib.hid (HB3.out.trans (hb.mono HB3.out.size)); have HK5 := Lib.hid (slK_of (ho.read ic_len)); clear ho hb)
        | (go_at_call 29; refine (HWh.out _ _ w5 (HSB.out.keep (row := none) ⟨HB5.out.os, HB5.out.tape, HB5.out.output, HB5.out.size, fun k hk _ => HB5.out.block k hk⟩ (fun b _ e => by cases e)) HK5.out).mono ?_; rintro e w6 ⟨hb6, rfl⟩))
      have HB26 := Lib.hid (HB2.out.trans ((HB5.out.trans (hb6.mono HB5.out.size)).mono HB2.out.size))
      have HI6 := Lib.hid (HI1'.out.keep HB26.out)
      have HBw6 := Lib.hid (HB1.out.trans (HB26.out.mono HB1.out.size))
      clear hb6 hcv HSB HWh HR HK5 HNk HB3 HB5 HB2 HB26 H8
      have hT := HI6.out.there
      have HF := Lib.hid (HI6.out.put incZ)
      have HBf := Lib.hid (Below.setCells HBw6.out (b := w.heap.size) (Nat.le_refl _) 0 (IncV.cells incZ))
      go_wp2_with (refine wpList_store_mid rfl 35 _ _ rfl w.heap.size 0 (IncV.cells incZ).toArray rfl rfl hT sizeInc (all_oneCell_toArray (IncV.one _)) ?_)
      refine bodyPost_ret (ret_cell_tmp rfl rfl HF.out.range Try.underlying35 rfl sizeInc) rfl ?_
      exact ⟨rfl, HBf.out⟩
    | nil =>
      go_upto_region 2 with (first
        | (go_at_call 30; refine (HR.out _ HNk.out).mono ?_; rintro e w5 ⟨v5, rfl, ho, hb⟩; obtain ⟨a5, c5, rfl⟩ := ho.slice; have HB5 := Lib.hid (HB3.out.trans (hb.mono HB3.out.size)); have HK5 := Lib.hid (slK_of (ho.read ic_len)); clear ho hb)
        | (go_at_call 29; refine (HWh.out _ _ w5 (HSB.out.keep (row := none) ⟨HB5.out.os, HB5.out.tape, HB5.out.output, HB5.out.size, fun k hk _ => HB5.out.block k hk⟩ (fun b _ e => by cases e)) HK5.out).mono ?_; rintro e w6 ⟨hb6, v6, rfl, ho6⟩))
      obtain ⟨a6, c6, rfl⟩ := (slF_to ho6).slice
      have HO6 := Lib.hid ((slF_to ho6).read fcells_len)
      have hfl := HL8.out fs [] rfl
      rw [hfl] at HO6 ⊢
      clear ho6
      have HB26 := Lib.hid (HB2.out.trans ((HB5.out.trans (hb6.mono HB5.out.size)).mono HB2.out.size))
      have HI6 := Lib.hid (HI1'.out.keep HB26.out)
      have HBw6 := Lib.hid (HB1.out.trans (HB26.out.mono HB1.out.size))
      clear hb6 hcv HSB HWh HR HK5 HNk HB3 HB5 HB2 HB26 H8
      have HIo := Lib.hid (incOf_any _ fs hfl w6 HO6.out)
      have HIn := Lib.hid (fun u => Inc_any (incOfL fs) u)
      have hdr : decR (.ok (fs, [])) = if okInc (incOfL fs) then (0, incOfL fs) else (14, incZ) := rfl
      obtain ⟨q, hq⟩ : ∃ q, okInc (incOfL fs) = q := ⟨_, rfl⟩
      rw [hq] at HIn hdr
      generalize incOfL fs = cc at HIo HIn hq hdr
      have HDr := Lib.hid hdr
      clear hdr hq hfl HL8 HR0
      have HBn := Lib.hid (fun (u : World) => below_new u (.cells #[.int .i64 cc.kind, .int .i64 cc.osd, .int .i64 cc.client, .int .i64 cc.num, .int .i64 cc.pool.size, .int .i64 cc.pool.min, .int .i64 cc.pool.pgs, .int .i64 cc.pool.dom] 35))
      have HXn := Lib.hid (fun (u : World) => ibx_new u cc)
      unfold IncV.val at HIo HIn
      go_upto_region 5 with (go_at_call 31; refine HIo.out.mono ?_; rintro e w7 ⟨rfl, hb7⟩; have HB7 := Lib.hid (HBw6.out.trans (hb7.mono HBw6.out.size)); have HI7 := Lib.hid (HI6.out.keep hb7); clear hb7)
      have HX8 := Lib.hid (HXn.out w7)
      have HB8 := Lib.hid (HB7.out.trans ((HBn.out w7).mono HB7.out.size))
      have HI8 := Lib.hid (HI7.out.keep (HBn.out w7))
      generalize (w7.alloc (.cells #[.int .i64 cc.kind, .int .i64 cc.osd, .int .i64 cc.client, .int .i64 cc.num, .int .i64 cc.pool.size, .int .i64 cc.pool.min, .int .i64 cc.pool.pgs, .int .i64 cc.pool.dom] 35)) = w8 at HX8 HB8 HI8 ⊢
      obtain ⟨M, hM⟩ : ∃ M, w7.heap.size = M := ⟨_, rfl⟩
      rw [hM] at HX8 ⊢
      obtain ⟨c0, c1, c2, c3, c4, c5, c6, c7⟩ := HX8.out.cells
      clear hM HI7 HB7 HIo HI6 HBw6 HBn HXn
      have hT := HI8.out.there
      have HIz := Lib.hid (fun u (h : IBx u w.heap.size incZ) => h.there)
      clear hT
      cases q with
      | false =>
        go_wp2_with (first
          | (go_at_call 32; refine (HIn.out _).mono ?_; rintro e w9 ⟨rfl, hb⟩; have HB9 := Lib.hid (HB8.out.trans (hb.mono HB8.out.size)); have HI9 := Lib.hid (HI8.out.keep hb); clear hb c0 c1 c2 c3 c4 c5 c6 c7)
          | (refine wpList_store_mid rfl 35 _ _ rfl w.heap.size 0 (IncV.cells incZ).toArray rfl rfl HI9.out.there sizeInc (all_oneCell_toArray (IncV.one _)) ?_))
        refine bodyPost_ret (ret_cell_tmp rfl rfl (HI9.out.put incZ).range Try.underlying35 rfl sizeInc) rfl ?_
        rw [HDr.out]
        exact ⟨rfl, Below.setCells HB9.out (b := w.heap.size) (Nat.le_refl _) 0 (IncV.cells incZ)⟩
      | true =>
        go_wp2_with (first
          | (go_at_call 32; refine (HIn.out _).mono ?_; rintro e w9 ⟨rfl, hb⟩; have HB9 := Lib.hid (HB8.out.trans (hb.mono HB8.out.size)); have HI9 := Lib.hid (HI8.out.keep hb); clear c0 c1 c2 c3 c4 c5 c6 c7; obtain ⟨c0, c1, c2, c3, c4, c5, c6, c7⟩ := (HX8.out.keep hb).cells; clear hb)
          | (refine wpList_store_mid rfl 35 _ _ rfl w.heap.size 0 (IncV.cells cc).toArray rfl rfl HI9.out.there sizeInc (all_oneCell_toArray (IncV.one _)) ?_; clear c0 c1 c2 c3 c4 c5 c6 c7))
        refine bodyPost_ret (ret_cell_tmp rfl rfl (HI9.out.put cc).range Try.underlying35 rfl sizeInc) rfl ?_
        rw [HDr.out]
        exact ⟨rfl, Below.setCells HB9.out (b := w.heap.size) (Nat.le_refl _) 0 (IncV.cells cc)⟩
end Go.Proofs.Ytbelemfdkbgjiaa.crush

namespace Go.Proofs.Ytbelemfdkbgjiaa.crush
open Go.RowKit
open Go.Proofs.Ytbelemfdkbgjiaa.kit Go.Proofs.Ytbelemfdkbgjiaa.own
set_option linter.unusedVariables false

def MapV.tick (m : MapV) : MapV := ⟨m.epoch + 1, m.hosts, m.osds, m.pools, m.bans⟩
theorem SheetG.tick {w : World} {B S g cap : Nat} {m : MapV} (h : SheetG w B S g cap m) : SheetG (w.setCell ⟨S, 0, none⟩ (.int .i64 (m.epoch + 1))) B S g cap m.tick := by
  obtain ⟨h0, hg, vh, vp, vb, h1, h2, h3, h4, h5⟩ := h
  obtain ⟨cur, hc, -⟩ := h3.ex
  have hne : g ≠ S := fun e => by subst e; unfold MBox at h1; rw [h1] at hc; cases hc
  have hS : w.heap[S]? = some (.cells #[.int .i64 m.epoch, vh, .slice (some ⟨g, 0, none⟩) m.osds.length cap, vp, vb] 55 (0, 0)) := h1
  refine ⟨h0, hg, vh, vp, vb, ?_, h2.far hS (by decide) _ _, h3.block (heap_setCell_other _ _ _ _ hne), h4.far hS (by decide) _ _, h5.far hS (by decide) _ _⟩
  have := heap_setCell_same w S 0 _ _ (.int .i64 (m.epoch + 1)) hS
  exact this
/-- What 'change' comes to. -/
def ChS (B S g cap : Nat) (m : MapV) (w : World) (e : Ending) (w' : World) : Prop := ∃ b, e = .returned (.bool b) ∧ SheetG w' B S g cap m ∧ Below B w w'
def NextS (B S g cap : Nat) (m : MapV) (w : World) (e : Ending) (w' : World) : Prop := (∃ v, e = .returned v) ∧ SheetG w' B S g cap m ∧ Below B w w'

set_option maxHeartbeats 16000000 in
set_option maxRecDepth 100000 in
theorem next_any (c : IncV) (B S g cap : Nat) (m m' : MapV) (w : World) (h : SheetG w B S g cap m) (hB : B ≤ w.heap.size) (hI : I64 m.epoch) (hm : m'.epoch = m.epoch)
    (HCh : ∀ u, Below w.heap.size w u → Calls Try.prog 23 #[.pointer (some ⟨S, 0, none⟩), c.val] u (ChS B S g cap m' u)) :
    Calls Try.prog 17 #[.pointer (some ⟨S, 0, none⟩), c.val] w (NextS B S g cap (if m.epoch < 4096 then m'.tick else m) w) := by
  obtain ⟨k, o, cl, n, a, b, p, d⟩ := c
  unfold IncV.val at HCh ⊢
  simp only at HCh ⊢
  have hb := below_new w (.cells #[.int .i64 k, .int .i64 o, .int .i64 cl, .int .i64 n, .int .i64 a, .int .i64 b, .int .i64 p, .int .i64 d] 35)
  have HB := Lib.hid hb; have HG := Lib.hid (h.keep hb); have HC := Lib.hid HCh; have HBB := Lib.hid hB; have HM := Lib.hid hm
  have HX := Lib.hid (ibx_new w ⟨k, o, cl, n, ⟨a, b, p, d⟩⟩)
  clear h hb HCh hB hm
  obtain ⟨-, -, vh, vp, vb, hmb, -⟩ := id HG.out
  obtain ⟨e0, -, -, -, -⟩ := hmb.cells
  clear hmb
  go_enter Try.func17, Try.ntmps17
  by_cases he : m.epoch < 4096
  · rw [if_pos he]
    unfold I64 at hI
    obtain ⟨ep, hep⟩ : ∃ ep, m.epoch = ep := ⟨_, rfl⟩
    have HEp := Lib.hid hep
    rw [hep] at e0 he hI
    have hI1 := hI.1
    clear hI hep
    go_wp2_with (go_at_call 23; refine (HC.out _ HB.out).mono ?_; rintro e w5 ⟨b5, rfl, hg, hb⟩; have HG5 := Lib.hid hg; have HB5 := Lib.hid ((HB.out.mono HBB.out).trans hb); clear hb e0; obtain ⟨-, -, vh5, vp5, vb5, hmb, -⟩ := id hg; obtain ⟨e0, -, -, -, -⟩ := hmb.cells; have t0 := hmb.thaw 0; rw [HM.out, HEp.out] at e0; have HTk := Lib.hid HG5.out.tick; have HBt := Lib.hid (HB5.out.setCell (p := ⟨S, 0, none⟩) HG5.out.1 (.int .i64 (ep + 1))); rw [HM.out, HEp.out] at HTk; clear hmb hg)
    go_end0
    exact ⟨⟨_, rfl⟩, HTk.out, HBt.out⟩
  · rw [if_neg he]
    go_wp2
    go_end0
    exact ⟨⟨_, rfl⟩, HG.out, HB.out.mono HBB.out⟩

theorem Own.setCells_far {α : Type} {enc : α → List Value} {k e B : Nat} {W : World} {v : Value} {xs : List α} (h : Own enc k e W B v xs) {N : Nat} (hN : N < B) (o : Nat) (vs : List Value) : Own enc k e (W.setCells N o vs) B v xs := by
  induction vs generalizing W o with
  | nil => exact h
  | cons u r ih => exact ih (h.setOther (fun e => by have := (h.blk _ e).1; omega) o u) (o + 1)
/-- A map is handed back, in rows of the call's own. -/
def AppS (w : World) (m : MapV) (e : Ending) (w' : World) : Prop := ∃ vh vo vp vb, e = .returned (.agg #[.int .i64 m.epoch, vh, vo, vp, vb]) ∧ MapO w' w.heap.size vh vo vp vb m ∧ Below w.heap.size w w'
theorem MapO.read {w : World} {B : Nat} {vh vo vp vb : Value} {m : MapV} (h : MapO w B vh vo vp vb m) : MapR w (.agg #[.int .i64 m.epoch, vh, vo, vp, vb]) m := ⟨_, _, _, _, rfl, h.1.read ic_len, h.2.1.read oc_len, h.2.2.1.read pc_len, h.2.2.2.read bc_len⟩
theorem MapO.below {w w' : World} {B : Nat} {vh vo vp vb : Value} {m : MapV} (h : MapO w B vh vo vp vb m) (hb : Below w.heap.size w w') : MapO w' B vh vo vp vb m := ⟨h.1.below hb, h.2.1.below hb, h.2.2.1.below hb, h.2.2.2.below hb⟩
theorem MapO.mono {w : World} {B B' : Nat} {vh vo vp vb : Value} {m : MapV} (h : MapO w B vh vo vp vb m) (hB : B' ≤ B) : MapO w B' vh vo vp vb m := ⟨h.1.mono hB, h.2.1.mono hB, h.2.2.1.mono hB, h.2.2.2.mono hB⟩
theorem MapO.far {w : World} {B : Nat} {vh vo vp vb : Value} {m : MapV} (h : MapO w B vh vo vp vb m) {N : Nat} (hN : N < B) (o : Nat) (vs : List Value) : MapO (w.setCells N o vs) B vh vo vp vb m := ⟨h.1.setCells_far hN o vs, h.2.1.setCells_far hN o vs, h.2.2.1.setCells_far hN o vs, h.2.2.2.setCells_far hN o vs⟩
theorem map_one (ep : Int) (a1 a2 a3 a4 : Option Addr) (n1 n2 n3 n4 c1 c2 c3 c4 : Nat) : (#[Value.int .i64 ep, .slice a1 n1 c1, .slice a2 n2 c2, .slice a3 n3 c3, .slice a4 n4 c4] : Array Value).all (·.oneCell') = true := by simp [Value.oneCell']

set_option maxHeartbeats 16000000 in
set_option maxRecDepth 100000 in
theorem Apply_any (v : Value) (c : IncV) (m m' : MapV) (w : World) (h : MapR w v m) (hs : m.Small) (hn : m.osds ≠ []) (hI : I64 m.epoch) (hm : m'.epoch = m.epoch)
    (HCh : ∀ B S g cap u, w.heap.size ≤ B → B ≤ u.heap.size → SheetG u B S g cap m → Calls Try.prog 23 #[.pointer (some ⟨S, 0, none⟩), c.val] u (ChS B S g cap m' u)) :
    Calls Try.prog 7 #[v, c.val] w (AppS w (if m.epoch < 4096 then m'.tick else m)) := by
  have hr := h
  obtain ⟨vh, vo, vp, vb, rfl, h1, h2, h3, h4⟩ := h
  obtain ⟨ah, ch, rfl⟩ := h1.slice
  obtain ⟨ao, co, rfl⟩ := h2.slice
  obtain ⟨ap, cp, rfl⟩ := h3.slice
  obtain ⟨ab, cb, rfl⟩ := h4.slice
  have HCp := Lib.hid (fun u (hu : Below w.heap.size w u) => copied_any _ m u (hr.keep hu) hs)
  have HNx := Lib.hid (fun B S g cap u (h1 : w.heap.size ≤ B) (h2 : B ≤ u.heap.size) (h3 : SheetG u B S g cap m) => next_any c B S g cap m m' u h3 h2 hI hm (fun u' hu => HCh B S g cap u' h1 (Nat.le_trans h2 hu.size) (h3.keep hu)))
  have HOp := Lib.hid (fun u B S (h : SheetAt u B S m) => h.open hn)
  obtain ⟨k, o, cl, n, a, b, p, d⟩ := c
  unfold IncV.val at HNx ⊢
  simp only at HNx ⊢
  clear hr hs hn hI hm HCh h1 h2 h3 h4
  generalize (if m.epoch < 4096 then m'.tick else m) = mr at HNx ⊢
  generalize m.hosts.length = Lh at HCp ⊢
  generalize m.osds.length = Lo at HCp ⊢
  generalize m.pools.length = Lp at HCp ⊢
  generalize m.bans.length = Lb at HCp ⊢
  generalize m.epoch = ep at HCp ⊢
  obtain ⟨W3, hW3⟩ : ∃ W3, (((w.alloc (.cells #[.int .i64 ep, .slice ah Lh ch, .slice ao Lo co, .slice ap Lp cp, .slice ab Lb cb] 28)).alloc (.cells #[.int .i64 k, .int .i64 o, .int .i64 cl, .int .i64 n, .int .i64 a, .int .i64 b, .int .i64 p, .int .i64 d] 35)).alloc (.cells #[.int .i64 0, .slice none 0 0, .slice none 0 0, .slice none 0 0, .slice none 0 0] 28)) = W3 := ⟨_, rfl⟩
  have hB3 : Below w.heap.size w W3 := by rw [← hW3]; exact ((below_new w _).alloc (by simp) _).alloc (by simp; omega) _
  have hX0 : MBox W3 w.heap.size 28 ep (.slice ah Lh ch) (.slice ao Lo co) (.slice ap Lp cp) (.slice ab Lb cb) := by
    unfold MBox; rw [← hW3]; simp only [alloc_heap, Array.getElem?_push, Array.size_push]
    repeat (first | rw [if_pos trivial] | rw [if_pos (by omega)] | rw [if_neg (by omega)])
  have hX1 : IBx W3 (w.heap.size + 1) ⟨k, o, cl, n, ⟨a, b, p, d⟩⟩ := by
    unfold IBx; rw [← hW3]; simp only [alloc_heap, Array.getElem?_push, Array.size_push]
    repeat (first | rw [if_pos trivial] | rw [if_pos (by omega)] | rw [if_neg (by omega)])
  have hX2 : MBox W3 (w.heap.size + 1 + 1) 28 0 (.slice none 0 0) (.slice none 0 0) (.slice none 0 0) (.slice none 0 0) := by
    unfold MBox; rw [← hW3]; simp only [alloc_heap, Array.getElem?_push, Array.size_push]
    repeat (first | rw [if_pos trivial] | rw [if_pos (by omega)] | rw [if_neg (by omega)])
  have HB3 := Lib.hid hB3; have HX0 := Lib.hid hX0; have HX1 := Lib.hid hX1; have HX2 := Lib.hid hX2
  clear hB3 hX0 hX1 hX2
  go_enter Try.func7, Try.ntmps7
  go_upto_region 1 with fail
  clear hW3
  obtain ⟨l0, l1, l2, l3, l4⟩ := HX0.out.cells
  go_upto_region 2 with (go_at_call 16; refine (HCp.out _ HB3.out).mono ?_; rintro e w4 ⟨S, rfl, hsh, hb⟩; obtain ⟨g, cap, hg⟩ := HOp.out _ _ _ hsh; have HG4 := Lib.hid hg; have HB34 := Lib.hid hb; have HX14 := Lib.hid (HX1.out.keep hb); have HX24 := Lib.hid (HX2.out.keep hb); clear hb hsh hg l0 l1 l2 l3 l4)
  obtain ⟨c0, c1, c2, c3, c4, c5, c6, c7⟩ := HX14.out.cells
  simp only at c0 c1 c2 c3 c4 c5 c6 c7
  have HSz := Lib.hid HB3.out.size; have HLt := Lib.hid HX2.out.lt
  go_upto_region 3 with (go_at_call 17; refine (HNx.out _ S g cap w4 HSz.out HB34.out.size HG4.out).mono ?_; rintro e w5 ⟨⟨v5, rfl⟩, hg, hb⟩; have HG5 := Lib.hid hg; have HX25 := Lib.hid (show MBox w5 (w.heap.size + 1 + 1) 28 0 (.slice none 0 0) (.slice none 0 0) (.slice none 0 0) (.slice none 0 0) from (hb.block _ HLt.out).trans HX24.out); have HB5 := Lib.hid (HB3.out.trans ((HB34.out.trans hb).mono HSz.out)); clear hb hg c0 c1 c2 c3 c4 c5 c6 c7)
  obtain ⟨hS, hgB, vh5, vp5, vb5, hmb, r1, r2, r3, r4⟩ := id HG5.out
  obtain ⟨xh, yh, rfl⟩ := r1.slice
  obtain ⟨xp, yp, rfl⟩ := r3.slice
  obtain ⟨xb, yb, rfl⟩ := r4.slice
  obtain ⟨l0, l1, l2, l3, l4⟩ := hmb.cells
  have HR1 := Lib.hid r1; have HR2 := Lib.hid (r2.own oc_len hgB); have HR3 := Lib.hid r3; have HR4 := Lib.hid r4
  have HT := Lib.hid HX25.out.there
  have HP := Lib.hid (HX25.out.put mr.epoch (.slice xh mr.hosts.length yh) (.slice (some ⟨g, 0, none⟩) mr.osds.length cap) (.slice xp mr.pools.length yp) (.slice xb mr.bans.length yb))
  have HF1 := Lib.hid (HR1.out.setCells_far (N := w.heap.size + 1 + 1) HLt.out 0 [.int .i64 mr.epoch, .slice xh mr.hosts.length yh, .slice (some ⟨g, 0, none⟩) mr.osds.length cap, .slice xp mr.pools.length yp, .slice xb mr.bans.length yb])
  have HF2 := Lib.hid (HR2.out.setCells_far (N := w.heap.size + 1 + 1) HLt.out 0 [.int .i64 mr.epoch, .slice xh mr.hosts.length yh, .slice (some ⟨g, 0, none⟩) mr.osds.length cap, .slice xp mr.pools.length yp, .slice xb mr.bans.length yb])
  have HF3 := Lib.hid (HR3.out.setCells_far (N := w.heap.size + 1 + 1) HLt.out 0 [.int .i64 mr.epoch, .slice xh mr.hosts.length yh, .slice (some ⟨g, 0, none⟩) mr.osds.length cap, .slice xp mr.pools.length yp, .slice xb mr.bans.length yb])
  have HF4 := Lib.hid (HR4.out.setCells_far (N := w.heap.size + 1 + 1) HLt.out 0 [.int .i64 mr.epoch, .slice xh mr.hosts.length yh, .slice (some ⟨g, 0, none⟩) mr.osds.length cap, .slice xp mr.pools.length yp, .slice xb mr.bans.length yb])
  have HBf := Lib.hid (Below.setCells HB5.out (b := w.heap.size + 1 + 1) (by omega) 0 [.int .i64 mr.epoch, .slice xh mr.hosts.length yh, .slice (some ⟨g, 0, none⟩) mr.osds.length cap, .slice xp mr.pools.length yp, .slice xb mr.bans.length yb])
  clear hmb r1 r2 r3 r4 HG5 HG4 HX14 HX24 HB34 HNx HCp HOp
  go_wp2_with (refine wpList_store_mid rfl 28 _ _ rfl (w.heap.size + 1 + 1) 0 #[.int .i64 mr.epoch, .slice xh mr.hosts.length yh, .slice (some ⟨g, 0, none⟩) mr.osds.length cap, .slice xp mr.pools.length yp, .slice xb mr.bans.length yb] rfl rfl HT.out sizeMap (map_one _ _ _ _ _ _ _ _ _ _ _ _ _) ?_)
  refine bodyPost_ret (ret_cell rfl rfl HP.out.range Try.underlying28 rfl sizeMap) rfl ?_
  exact ⟨_, _, _, _, rfl, ⟨HF1.out.mono HSz.out, HF2.out.mono HSz.out, HF3.out.mono HSz.out, HF4.out.mono HSz.out⟩, HBf.out⟩
end Go.Proofs.Ytbelemfdkbgjiaa.crush

namespace Go.Proofs.Ytbelemfdkbgjiaa.crush
open Go.RowKit
open Go.Proofs.Ytbelemfdkbgjiaa.kit Go.Proofs.Ytbelemfdkbgjiaa.own
set_option linter.unusedVariables false

set_option maxHeartbeats 16000000 in
set_option maxRecDepth 100000 in
theorem Changes_any (v : Value) (c : IncV) (m : MapV) (r : Bool) (w : World) (h : MapR w v m) (hs : m.Small) (hn : m.osds ≠ [])
    (HCh : ∀ B S g cap u, w.heap.size ≤ B → B ≤ u.heap.size → SheetG u B S g cap m → Calls Try.prog 23 #[.pointer (some ⟨S, 0, none⟩), c.val] u fun e w' => e = .returned (.bool r) ∧ Below B u w') :
    Calls Try.prog 10 #[v, c.val] w fun e w' => e = .returned (.bool r) ∧ Below w.heap.size w w' := by
  have hr := h
  obtain ⟨vh, vo, vp, vb, rfl, h1, h2, h3, h4⟩ := h
  obtain ⟨ah, ch, rfl⟩ := h1.slice
  obtain ⟨ao, co, rfl⟩ := h2.slice
  obtain ⟨ap, cp, rfl⟩ := h3.slice
  obtain ⟨ab, cb, rfl⟩ := h4.slice
  have HCp := Lib.hid (fun u (hu : Below w.heap.size w u) => copied_any _ m u (hr.keep hu) hs)
  have HNx := Lib.hid HCh
  have HOp := Lib.hid (fun u B S (h : SheetAt u B S m) => h.open hn)
  obtain ⟨k, o, cl, n, a, b, p, d⟩ := c
  unfold IncV.val at HNx ⊢
  simp only at HNx ⊢
  clear hr hs hn HCh h1 h2 h3 h4
  generalize m.hosts.length = Lh at HCp ⊢
  generalize m.osds.length = Lo at HCp ⊢
  generalize m.pools.length = Lp at HCp ⊢
  generalize m.bans.length = Lb at HCp ⊢
  generalize m.epoch = ep at HCp ⊢
  obtain ⟨W3, hW3⟩ : ∃ W3, ((w.alloc (.cells #[.int .i64 ep, .slice ah Lh ch, .slice ao Lo co, .slice ap Lp cp, .slice ab Lb cb] 28)).alloc (.cells #[.int .i64 k, .int .i64 o, .int .i64 cl, .int .i64 n, .int .i64 a, .int .i64 b, .int .i64 p, .int .i64 d] 35)) = W3 := ⟨_, rfl⟩
  have hB3 : Below w.heap.size w W3 := by rw [← hW3]; exact (below_new w _).alloc (by simp) _
  have hX0 : MBox W3 w.heap.size 28 ep (.slice ah Lh ch) (.slice ao Lo co) (.slice ap Lp cp) (.slice ab Lb cb) := by
    unfold MBox; rw [← hW3]; simp only [alloc_heap, Array.getElem?_push, Array.size_push]
    repeat (first | rw [if_pos trivial] | rw [if_pos (by omega)] | rw [if_neg (by omega)])
  have hX1 : IBx W3 (w.heap.size + 1) ⟨k, o, cl, n, ⟨a, b, p, d⟩⟩ := by
    unfold IBx; rw [← hW3]; simp only [alloc_heap, Array.getElem?_push, Array.size_push]
    repeat (first | rw [if_pos trivial] | rw [if_pos (by omega)] | rw [if_neg (by omega)])
  have HB3 := Lib.hid hB3
  have HD := Lib.hid (below_drew (Below.refl W3.heap.size W3))
  have HBd := Lib.hid (HB3.out.trans (HD.out.mono HB3.out.size))
  have HC0 : Hid (∀ u, Below W3.heap.size W3 u → u.cell? ⟨w.heap.size, 0, none⟩ = some (.int .i64 ep) ∧ u.cell? ⟨w.heap.size, 1, none⟩ = some (.slice ah Lh ch) ∧ u.cell? ⟨w.heap.size, 2, none⟩ = some (.slice ao Lo co) ∧ u.cell? ⟨w.heap.size, 3, none⟩ = some (.slice ap Lp cp) ∧ u.cell? ⟨w.heap.size, 4, none⟩ = some (.slice ab Lb cb)) := Lib.hid (fun u hu => (hX0.keep hu).cells)
  have HC1 := Lib.hid (fun u (hu : Below W3.heap.size W3 u) => (hX1.keep hu).cells)
  simp only at HC1
  clear hB3 hX0 hX1
  have m0 := HC0.out _ HD.out
  have i0 := HC1.out _ HD.out
  go_enter Try.func10, Try.ntmps10
  go_upto_region 1 with fail
  clear hW3
  go_region_held3 (fun u => (u.cell? ⟨w.heap.size, 0, none⟩ = some (.int .i64 ep) ∧ u.cell? ⟨w.heap.size, 1, none⟩ = some (.slice ah Lh ch) ∧ u.cell? ⟨w.heap.size, 2, none⟩ = some (.slice ao Lo co) ∧ u.cell? ⟨w.heap.size, 3, none⟩ = some (.slice ap Lp cp) ∧ u.cell? ⟨w.heap.size, 4, none⟩ = some (.slice ab Lb cb)) ∧ u.cell? ⟨w.heap.size + 1, 0, none⟩ = some (.int .i64 k) ∧ u.cell? ⟨w.heap.size + 1, 1, none⟩ = some (.int .i64 o) ∧ u.cell? ⟨w.heap.size + 1, 2, none⟩ = some (.int .i64 cl) ∧ u.cell? ⟨w.heap.size + 1, 3, none⟩ = some (.int .i64 n) ∧ u.cell? ⟨w.heap.size + 1, 4, none⟩ = some (.int .i64 a) ∧ u.cell? ⟨w.heap.size + 1, 5, none⟩ = some (.int .i64 b) ∧ u.cell? ⟨w.heap.size + 1, 6, none⟩ = some (.int .i64 p) ∧ u.cell? ⟨w.heap.size + 1, 7, none⟩ = some (.int .i64 d))
    (first | exact ⟨m0, i0⟩ | exact ⟨HC0.out _ HB5.out, HC1.out _ HB5.out⟩ | exact ⟨HC0.out _ HB4.out, HC1.out _ HB4.out⟩)
    (first
      | (go_at_call 16; refine (HCp.out _ HBd.out).mono ?_; rintro e w4 ⟨S, rfl, hsh, hb⟩; obtain ⟨g, cap, hg⟩ := HOp.out _ _ _ hsh; have HG4 := Lib.hid hg; have HB4 : Hid (Below W3.heap.size W3 w4) := Lib.hid (HD.out.trans (hb.mono HD.out.size)); have HS4 : Hid (W3.heap.size ≤ w4.heap.size) := Lib.hid HB4.out.size; clear hb hsh hg)
      | (go_at_call 23; refine (HNx.out W3.heap.size S g cap w4 HB3.out.size HS4.out HG4.out).mono ?_; rintro e w5 ⟨rfl, hb⟩; have HB5 : Hid (Below W3.heap.size W3 w5) := Lib.hid (HB4.out.trans hb); clear hb))
  have HBe := Lib.hid (HB3.out.trans (HB5.out.mono HB3.out.size))
  clear m0 i0
  go_wp2
  go_ret
  exact ⟨rfl, HBe.out⟩
end Go.Proofs.Ytbelemfdkbgjiaa.crush

namespace Go.Proofs.Ytbelemfdkbgjiaa.crush
open Go.RowKit
open Go.Proofs.Ytbelemfdkbgjiaa.kit Go.Proofs.Ytbelemfdkbgjiaa.own
set_option linter.unusedVariables false

theorem ltBan_trans {a b c : BanV} (h1 : ltBan a b = true) (h2 : ltBan b c = true) : ltBan a c = true := by
  simp only [ltBan, Bool.or_eq_true, Bool.and_eq_true, decide_eq_true_eq] at h1 h2 ⊢
  omega
theorem bans_lt {xs : List BanV} : ∀ n, n ≤ xs.length → okBansF xs n = true → ∀ j k (hk : k < xs.length), k < n → ∀ (hj : j < k), ltBan (xs[j]'(by omega)) xs[k] = true := by
  intro n
  induction n with
  | zero => intro _ _ j k _ h; omega
  | succ n ih =>
    intro hn h j k hk hkn hj
    have hs := okBansF_step (l := xs) (k := n) (by omega)
    rw [h] at hs
    have hs := hs.symm
    simp only [Bool.and_eq_true, Bool.or_eq_true, decide_eq_true_eq] at hs
    obtain ⟨h1, -, h2⟩ := hs
    rcases Nat.lt_or_ge k n with h3 | h3
    · exact ih (by omega) h1 j k hk h3 hj
    · obtain rfl : k = n := by omega
      have h4 : ltBan (xs[k - 1]'(by omega)) xs[k] = true := by
        rcases h2 with h2 | h2
        · omega
        · rw [List.getD_eq_getElem?_getD, List.getElem?_eq_getElem (by omega), Option.getD_some] at h2
          rw [← ordB_lt]; exact decide_eq_true h2
      rcases Nat.lt_or_ge j (k - 1) with h5 | h5
      · exact ltBan_trans (ih (by omega) h1 j (k - 1) (by omega) (by omega) h5) h4
      · obtain rfl : j = k - 1 := by omega
        exact h4
theorem while_iff {α : Type} {p : α → Bool} : ∀ (xs : List α), (∀ j k (hk : k < xs.length) (hj : j < k), p xs[k] = true → p (xs[j]'(by omega)) = true) → ∀ k (hk : k < xs.length), p xs[k] = true ↔ k < (xs.takeWhile p).length := by
  intro xs
  induction xs with
  | nil => intro _ k hk; exact absurd hk (Nat.not_lt_zero _)
  | cons x xs ih =>
    intro hm k hk
    cases hx : p x with
    | true =>
      rw [List.takeWhile_cons_of_pos hx, List.length_cons]
      cases k with
      | zero => simp [hx]
      | succ k =>
        have := ih (fun j k hk hj h => hm (j + 1) (k + 1) (by simpa using hk) (by omega) (by simpa using h)) k (by simpa using hk)
        simpa using this
    | false =>
      rw [List.takeWhile_cons_of_neg (by simp [hx])]
      refine ⟨fun h => ?_, fun h => absurd h (Nat.not_lt_zero _)⟩
      cases k with
      | zero => rw [List.getElem_cons_zero, hx] at h; cases h
      | succ k =>
        have := hm 0 (k + 1) hk (by omega) h
        rw [List.getElem_cons_zero, hx] at this; cases this
theorem bans_pos {xs : List BanV} (h : okBans xs = true) (y : BanV) : ∀ k (hk : k < xs.length), ordB xs[k] y < 0 ↔ k < posB xs y := by
  intro k hk
  unfold okBans at h
  rw [Bool.and_eq_true] at h
  have := while_iff (p := fun x => decide (ordB x y < 0)) xs (fun j k hk hj h2 => by
    rw [ordB_lt] at h2 ⊢
    exact ltBan_trans (bans_lt _ (Nat.le_refl _) h.1 j k hk hk hj) h2) k hk
  unfold posB
  rw [← this]
  simp
/-- What a change changes, and whether it does. -/
def chE (c : IncV) (m : MapV) : MapV × Bool :=
  if okInc c = false then (m, false)
  else if c.kind = 1 then setO bootO c.num c.osd.toNat m
  else if c.kind = 2 then setO downO c.num c.osd.toNat m
  else if c.kind = 3 then setO weighO c.num c.osd.toNat m
  else if c.kind = 4 then setO thruO c.num c.osd.toNat m
  else if c.kind = 5 then poolE c.pool m
  else banE (banV c) m
theorem osd_nat {c : IncV} (h : okInc c = true) (hk : c.kind = 1 ∨ c.kind = 2 ∨ c.kind = 3 ∨ c.kind = 4) : c.osd = (c.osd.toNat : Int) := by
  have h1 : isOsd c = true := by
    unfold okInc at h
    split at h
    · exact (Bool.and_eq_true .. ▸ h).1
    · split at h
      · exact (Bool.and_eq_true .. ▸ h).1
      · split at h
        · exact (Bool.and_eq_true .. ▸ h).1
        · omega
  unfold isOsd okId inR at h1
  simp only [Bool.and_eq_true, decide_eq_true_eq] at h1
  omega
theorem kind_six {c : IncV} (h : okInc c = true) (h1 : ¬ c.kind = 1) (h2 : ¬ c.kind = 2) (h3 : ¬ c.kind = 3) (h4 : ¬ c.kind = 4) (h5 : ¬ c.kind = 5) : c.kind = 6 := by
  unfold okInc at h
  rw [if_neg (by omega), if_neg h3, if_neg h4, if_neg h5] at h
  by_cases h6 : c.kind = 6
  · exact h6
  · rw [if_neg h6] at h; cases h
theorem change_any (c : IncV) (m : MapV) (hb : okBans m.bans = true) (B S g cap : Nat) (w : World) (h : SheetG w B S g cap m) (hB : B ≤ w.heap.size) :
    Calls Try.prog 23 #[.pointer (some ⟨S, 0, none⟩), c.val] w (StO B S g cap (chE c m) w) := by
  cases hok : okInc c with
  | false =>
    unfold chE
    rw [if_pos hok]
    exact change0_any c hok B S g cap m w h hB
  | true =>
    unfold chE
    rw [if_neg (by rw [hok]; decide)]
    by_cases k1 : c.kind = 1
    · rw [if_pos k1]; exact change1_any c k1 _ (osd_nat hok (by omega)) hok B S g cap m w h hB
    · by_cases k2 : c.kind = 2
      · rw [if_neg k1, if_pos k2]; exact change2_any c k2 _ (osd_nat hok (by omega)) hok B S g cap m w h hB
      · by_cases k3 : c.kind = 3
        · rw [if_neg k1, if_neg k2, if_pos k3]; exact change3_any c k3 _ (osd_nat hok (by omega)) hok B S g cap m w h hB
        · by_cases k4 : c.kind = 4
          · rw [if_neg k1, if_neg k2, if_neg k3, if_pos k4]; exact change4_any c k4 _ (osd_nat hok (by omega)) hok B S g cap m w h hB
          · by_cases k5 : c.kind = 5
            · rw [if_neg k1, if_neg k2, if_neg k3, if_neg k4, if_pos k5]; exact change5_any c k5 hok B S g cap m w h hB
            · have k6 := kind_six hok k1 k2 k3 k4 k5
              rw [if_neg k1, if_neg k2, if_neg k3, if_neg k4, if_neg k5]
              have hl : m.bans.length ≤ 64 := by
                unfold okBans at hb
                simp only [Bool.and_eq_true, decide_eq_true_eq] at hb
                exact hb.2
              exact change6_any c k6 hok B S g cap m w h hB hl (bans_pos hb _)
theorem chE_epoch (c : IncV) (m : MapV) : (chE c m).1.epoch = m.epoch := by
  have hs : ∀ (f : Int → Int → OsdV → Option OsdV) (n : Int) (i : Nat), (setO f n i m).1.epoch = m.epoch := fun f n i => by
    unfold setO
    cases m.osds[i]? with
    | none => rfl
    | some o =>
      simp only
      cases f n m.epoch o <;> rfl
  unfold chE
  repeat' split
  all_goals first | rfl | exact hs _ _ _ | (unfold poolE; split <;> rfl) | (unfold banE; split <;> rfl)
/-- The map behind a change. -/
def appE (c : IncV) (m : MapV) : MapV := if m.epoch < 4096 then (chE c m).1.tick else m
theorem Apply_all (v : Value) (c : IncV) (m : MapV) (w : World) (h : MapR w v m) (hs : m.Small) (hn : m.osds ≠ []) (hI : I64 m.epoch) (hb : okBans m.bans = true) :
    Calls Try.prog 7 #[v, c.val] w (AppS w (appE c m)) :=
  Apply_any v c m _ w h hs hn hI (chE_epoch c m) (fun B S g cap u h1 h2 h3 => (change_any c m hb B S g cap u h3 h2).mono (by
    rintro e w' ⟨he, hg, hb⟩
    exact ⟨_, he, hg, hb⟩))
theorem Changes_all (v : Value) (c : IncV) (m : MapV) (w : World) (h : MapR w v m) (hs : m.Small) (hn : m.osds ≠ []) (hb : okBans m.bans = true) :
    Calls Try.prog 10 #[v, c.val] w fun e w' => e = .returned (.bool (chE c m).2) ∧ Below w.heap.size w w' :=
  Changes_any v c m _ w h hs hn (fun B S g cap u h1 h2 h3 => (change_any c m hb B S g cap u h3 h2).mono (by
    rintro e w' ⟨he, hg, hb⟩
    exact ⟨he, hb⟩))
theorem Fit_all (v : Value) (m : MapV) (w : World) (h : MapR w v m) : Calls Try.prog 8 #[v] w fun e w' => e = .returned (.bool (okMap m)) ∧ Below w.heap.size w w' :=
  Fit_any v m w h (fun vb u hu => fitBans_any vb m.bans u hu)
end Go.Proofs.Ytbelemfdkbgjiaa.crush

namespace Go.Proofs.Ytbelemfdkbgjiaa.crush
open Go.RowKit
open Go.Proofs.Ytbelemfdkbgjiaa.kit Go.Proofs.Ytbelemfdkbgjiaa.own
set_option linter.unusedVariables false

theorem unOsd_iff (e : Int) (o : OsdV) : unOsd e o = false ↔ ((1 ≤ o.boot ∧ o.boot ≤ 1073741824) ∨ (o.boot = 0 ∧ o.up = false)) ∧ 0 ≤ o.wt ∧ o.wt ≤ 1048576 ∧ 0 ≤ o.thru ∧ o.thru ≤ e := by
  unfold unOsd okBoot okWeight inR
  cases o.up <;> simp <;> omega
theorem unOsd_up {e : Int} {o : OsdV} (h : unOsd e o = false) : unOsd (e + 1) o = false := by
  rw [unOsd_iff] at h ⊢
  exact ⟨h.1, h.2.1, h.2.2.1, h.2.2.2.1, by omega⟩
theorem osds_iff (e : Int) (hs : List Int) (l : List OsdV) : okOsds e hs l = true ↔ l.length = hs.length ∧ ∀ o ∈ l, unOsd e o = false := by
  unfold okOsds
  rw [Bool.and_eq_true, decide_eq_true_eq, Bool.not_eq_true', List.any_eq_false]
  simp
theorem osds_set {e : Int} {hs : List Int} {l : List OsdV} (h : okOsds e hs l = true) (i : Nat) (o : OsdV) (ho : unOsd (e + 1) o = false) : okOsds (e + 1) hs (l.set i o) = true := by
  rw [osds_iff] at h ⊢
  refine ⟨by rw [List.length_set]; exact h.1, fun x hx => ?_⟩
  rcases List.mem_or_eq_of_mem_set hx with h1 | rfl
  · exact unOsd_up (h.2 x h1)
  · exact ho
theorem osds_up {e : Int} {hs : List Int} {l : List OsdV} (h : okOsds e hs l = true) : okOsds (e + 1) hs l = true := by
  rw [osds_iff] at h ⊢
  exact ⟨h.1, fun x hx => unOsd_up (h.2 x hx)⟩
/-- A storage node's part is fit behind a change, and its numbers never fall. -/
theorem boot_fit {n e : Int} {o o' : OsdV} (h : unOsd e o = false) (hn : okBoot n = true) (hb : bootO n e o = some o') : unOsd (e + 1) o' = false ∧ o.boot ≤ o'.boot ∧ o.thru ≤ o'.thru := by
  unfold bootO at hb
  split at hb
  · cases hb
  · cases hb
    rw [unOsd_iff] at h ⊢
    unfold okBoot inR at hn
    simp only [Bool.and_eq_true, decide_eq_true_eq] at hn
    refine ⟨⟨Or.inl hn, h.2.1, h.2.2.1, h.2.2.2.1, by have := h.2.2.2.2; simp only; omega⟩, by simp only; omega, Int.le_refl _⟩
theorem down_fit {n e : Int} {o o' : OsdV} (h : unOsd e o = false) (hb : downO n e o = some o') : unOsd (e + 1) o' = false ∧ o.boot ≤ o'.boot ∧ o.thru ≤ o'.thru := by
  unfold downO at hb
  split at hb
  · cases hb
  · cases hb
    rw [unOsd_iff] at h ⊢
    refine ⟨⟨h.1.imp id (fun h2 => ⟨h2.1, rfl⟩), h.2.1, h.2.2.1, h.2.2.2.1, by have := h.2.2.2.2; simp only; omega⟩, Int.le_refl _, Int.le_refl _⟩
theorem weigh_fit {n e : Int} {o o' : OsdV} (h : unOsd e o = false) (hn : okWeight n = true) (hb : weighO n e o = some o') : unOsd (e + 1) o' = false ∧ o.boot ≤ o'.boot ∧ o.thru ≤ o'.thru := by
  unfold weighO at hb
  split at hb
  · cases hb
  · cases hb
    rw [unOsd_iff] at h ⊢
    unfold okWeight inR at hn
    simp only [Bool.and_eq_true, decide_eq_true_eq] at hn
    refine ⟨⟨h.1, hn.1, hn.2, h.2.2.2.1, by have := h.2.2.2.2; simp only; omega⟩, Int.le_refl _, Int.le_refl _⟩
theorem thru_fit {n e : Int} {o o' : OsdV} (h : unOsd e o = false) (hb : thruO n e o = some o') : unOsd (e + 1) o' = false ∧ o.boot ≤ o'.boot ∧ o.thru ≤ o'.thru := by
  unfold thruO at hb
  split at hb
  · cases hb
  · rename_i h1
    cases hb
    rw [unOsd_iff] at h ⊢
    simp only [not_or] at h1
    have h3 := h.2.2.2.1
    refine ⟨⟨h.1, h.2.1, h.2.2.1, by simp only; omega, by simp only; omega⟩, Int.le_refl _, by simp only; omega⟩
def Grows (m m' : MapV) : Prop := m'.epoch = m.epoch + 1 ∧ m'.hosts = m.hosts ∧ m'.osds.length = m.osds.length ∧ (∀ i (h : i < m.osds.length) (h' : i < m'.osds.length), m.osds[i].boot ≤ m'.osds[i].boot ∧ m.osds[i].thru ≤ m'.osds[i].thru) ∧ (∃ ps, m'.pools = m.pools ++ ps) ∧ (∀ b ∈ m.bans, b ∈ m'.bans) ∧ m.bans.length ≤ m'.bans.length
theorem okMap_iff (m : MapV) : okMap m = true ↔ (0 ≤ m.epoch ∧ m.epoch ≤ 4096) ∧ okHosts m.hosts = true ∧ okOsds m.epoch m.hosts m.osds = true ∧ okPools m.pools = true ∧ okBans m.bans = true := by
  unfold okMap inR
  simp only [Bool.and_eq_true, decide_eq_true_eq]
theorem tick_fit {m : MapV} (h : okMap m = true) (he : m.epoch < 4096) : okMap m.tick = true ∧ Grows m m.tick := by
  rw [okMap_iff] at h
  refine ⟨(okMap_iff _).2 ⟨⟨by show 0 ≤ m.epoch + 1; omega, by show m.epoch + 1 ≤ 4096; omega⟩, h.2.1, osds_up h.2.2.1, h.2.2.2⟩, rfl, rfl, rfl, fun i _ _ => ⟨Int.le_refl _, Int.le_refl _⟩, ⟨[], (List.append_nil _).symm⟩, fun _ h => h, Nat.le_refl _⟩
theorem setO_fit {f : Int → Int → OsdV → Option OsdV} {n : Int} (i : Nat) {m : MapV} (hf : ∀ o o', unOsd m.epoch o = false → f n m.epoch o = some o' → unOsd (m.epoch + 1) o' = false ∧ o.boot ≤ o'.boot ∧ o.thru ≤ o'.thru) (h : okMap m = true) (he : m.epoch < 4096) :
    okMap (setO f n i m).1.tick = true ∧ Grows m (setO f n i m).1.tick := by
  unfold setO
  cases hi : m.osds[i]? with
  | none => exact tick_fit h he
  | some o =>
    cases ho : f n m.epoch o with
    | none => simp only [ho]; exact tick_fit h he
    | some o' =>
      simp only [ho]
      rw [okMap_iff] at h
      have hos := (osds_iff _ _ _).1 h.2.2.1
      obtain ⟨hil, hio⟩ := List.getElem?_eq_some_iff.1 hi
      obtain ⟨g1, g2, g3⟩ := hf o o' (hos.2 o (by rw [← hio]; exact List.getElem_mem hil)) ho
      refine ⟨(okMap_iff _).2 ⟨⟨by show 0 ≤ m.epoch + 1; omega, by show m.epoch + 1 ≤ 4096; omega⟩, h.2.1, osds_set h.2.2.1 i o' g1, h.2.2.2⟩, rfl, rfl, List.length_set, fun j h1 h2 => ?_, ⟨[], (List.append_nil _).symm⟩, fun _ h => h, Nat.le_refl _⟩
      have h2' : j < (m.osds.set i o').length := h2
      have e : (m.osds.set i o')[j]'h2' = if i = j then o' else m.osds[j] := List.getElem_set ..
      show m.osds[j].boot ≤ ((m.osds.set i o')[j]'h2').boot ∧ m.osds[j].thru ≤ ((m.osds.set i o')[j]'h2').thru
      rw [e]
      by_cases hj : i = j
      · subst hj
        rw [if_pos rfl, hio]
        exact ⟨g2, g3⟩
      · rw [if_neg hj]
        exact ⟨Int.le_refl _, Int.le_refl _⟩
theorem pool_fit {p : PoolV} {m : MapV} (hp : okPool p = true) (h : okMap m = true) (he : m.epoch < 4096) : okMap (poolE p m).1.tick = true ∧ Grows m (poolE p m).1.tick := by
  unfold poolE
  by_cases h2 : 2 ≤ m.pools.length
  · rw [if_pos h2]; exact tick_fit h he
  · rw [if_neg h2]
    rw [okMap_iff] at h
    refine ⟨(okMap_iff _).2 ⟨⟨by show 0 ≤ m.epoch + 1; omega, by show m.epoch + 1 ≤ 4096; omega⟩, h.2.1, osds_up h.2.2.1, ?_, h.2.2.2.2⟩, rfl, rfl, rfl, fun i _ _ => ⟨Int.le_refl _, Int.le_refl _⟩, ⟨[p], rfl⟩, fun _ h => h, Nat.le_refl _⟩
    have h4 := h.2.2.2.1
    show okPools (m.pools ++ [p]) = true
    unfold okPools at h4 ⊢
    rw [Bool.and_eq_true, Bool.not_eq_true', decide_eq_true_eq] at h4
    rw [List.any_append, h4.2, List.length_append, List.length_singleton, decide_eq_true (by omega : m.pools.length + 1 ≤ 2)]
    simp [hp]
end Go.Proofs.Ytbelemfdkbgjiaa.crush

namespace Go.Proofs.Ytbelemfdkbgjiaa.crush
open Go.RowKit
open Go.Proofs.Ytbelemfdkbgjiaa.kit Go.Proofs.Ytbelemfdkbgjiaa.own
set_option linter.unusedVariables false

theorem okBans_iff (l : List BanV) : okBans l = true ↔ (∀ b ∈ l, okBan b.client b.inst = true) ∧ l.Pairwise (fun a b => ltBan a b = true) ∧ l.length ≤ 64 := by
  unfold okBans
  rw [Bool.and_eq_true, decide_eq_true_eq]
  constructor
  · rintro ⟨h, h64⟩
    refine ⟨fun b hb => ?_, List.pairwise_iff_getElem.2 (fun i j hi hj hij => bans_lt _ (Nat.le_refl _) h i j hj hj hij), h64⟩
    obtain ⟨k, hk, rfl⟩ := List.getElem_of_mem hb
    have h1 : okBansF l (k + 1) = true := by
      cases hh : okBansF l (k + 1) with
      | true => rfl
      | false => rw [okBansF_false hh _ hk] at h; cases h
    rw [okBansF_step hk] at h1
    simp only [Bool.and_eq_true] at h1
    exact h1.2.1
  · rintro ⟨ha, hp, h64⟩
    refine ⟨?_, h64⟩
    have : ∀ n, n ≤ l.length → okBansF l n = true := by
      intro n
      induction n with
      | zero => intro _; rfl
      | succ n ih =>
        intro hn
        rw [okBansF_step (by omega), ih (by omega), ha _ (List.getElem_mem (by omega)), Bool.true_and, Bool.true_and, Bool.or_eq_true]
        by_cases h0 : n = 0
        · exact .inl (by simp [h0])
        · right
          rw [ordB_lt, List.getD_eq_getElem?_getD, List.getElem?_eq_getElem (by omega), Option.getD_some]
          exact List.pairwise_iff_getElem.1 hp (n - 1) n (by omega) (by omega) (by omega)
    exact this _ (Nat.le_refl _)
theorem ltBan_other {x y : BanV} (h1 : ¬ ordB x y < 0) (h2 : ¬ ordB x y = 0) : ltBan y x = true := by
  have e1 : ltBan x y = false := by rw [← ordB_lt]; exact decide_eq_false h1
  unfold ordB first2 cmp3 at h2
  unfold ltBan at e1 ⊢
  simp only [Bool.or_eq_false_iff, Bool.and_eq_false_imp, decide_eq_false_iff_not, decide_eq_true_eq, Bool.or_eq_true, Bool.and_eq_true] at e1 ⊢
  by_cases q1 : x.client < y.client
  · exact absurd q1 e1.1
  · by_cases q2 : y.client < x.client
    · exact .inl q2
    · have q3 : x.client = y.client := by omega
      refine .inr ⟨q3.symm, ?_⟩
      have q4 := e1.2 q3
      by_cases q5 : y.inst < x.inst
      · exact q5
      · exact absurd (by simp [q1, q2, q4, q5]) h2
theorem ban_fit {y : BanV} {m : MapV} (hy : okBan y.client y.inst = true) (h : okMap m = true) (he : m.epoch < 4096) : okMap (banE y m).1.tick = true ∧ Grows m (banE y m).1.tick := by
  unfold banE
  cases hq : (atBan m.bans y (posB m.bans y) || decide (64 ≤ m.bans.length)) with
  | true => rw [if_pos rfl]; exact tick_fit h he
  | false =>
    rw [if_neg (by decide)]
    rw [okMap_iff] at h
    rw [Bool.or_eq_false_iff, decide_eq_false_iff_not] at hq
    have hb := h.2.2.2.2
    have hpos := bans_pos hb y
    have hple := posB_le m.bans y
    generalize posB m.bans y = p at hq hpos hple ⊢
    obtain ⟨h1, h2, h3⟩ := (okBans_iff _).1 hb
    have hlo : ∀ a ∈ m.bans.take p, ltBan a y = true := fun a ha => by
      obtain ⟨k, hk, rfl⟩ := List.getElem_of_mem ha
      rw [List.length_take] at hk
      rw [List.getElem_take, ← ordB_lt]
      exact decide_eq_true ((hpos k (by omega)).2 (by omega))
    have hhi : ∀ b ∈ m.bans.drop p, ltBan y b = true := fun b hbm => by
      obtain ⟨k, hk, rfl⟩ := List.getElem_of_mem hbm
      rw [List.length_drop] at hk
      rw [List.getElem_drop]
      have hp0 : p < m.bans.length := by omega
      have hat : ¬ ordB m.bans[p] y = 0 := by
        have := hq.1
        unfold atBan at this
        rw [List.getElem?_eq_getElem hp0] at this
        exact of_decide_eq_false this
      have hfirst := ltBan_other (fun hh => absurd ((hpos p hp0).1 hh) (Nat.lt_irrefl _)) hat
      cases k with
      | zero => exact hfirst
      | succ k => exact ltBan_trans hfirst (List.pairwise_iff_getElem.1 h2 p (p + (k + 1)) hp0 (by omega) (by omega))
    refine ⟨(okMap_iff _).2 ⟨⟨by show 0 ≤ m.epoch + 1; omega, by show m.epoch + 1 ≤ 4096; omega⟩, h.2.1, osds_up h.2.2.1, h.2.2.2.1, ?_⟩, rfl, rfl, rfl, fun i _ _ => ⟨Int.le_refl _, Int.le_refl _⟩, ⟨[], (List.append_nil _).symm⟩, fun b hbm => ?_, ?_⟩
    · refine (okBans_iff _).2 ⟨fun b hbm => ?_, ?_, ?_⟩
      · rcases List.mem_append.1 hbm with h5 | h5
        · exact h1 b (List.mem_of_mem_take h5)
        · rcases List.mem_cons.1 h5 with rfl | h5
          · exact hy
          · exact h1 b (List.mem_of_mem_drop h5)
      · refine List.pairwise_append.2 ⟨h2.sublist (List.take_sublist _ _), List.pairwise_cons.2 ⟨hhi, h2.sublist (List.drop_sublist _ _)⟩, fun a ha b hbm => ?_⟩
        rcases List.mem_cons.1 hbm with rfl | h5
        · exact hlo a ha
        · exact ltBan_trans (hlo a ha) (hhi b h5)
      · show (m.bans.take p ++ y :: m.bans.drop p).length ≤ 64
        simp
        omega
    · show b ∈ m.bans.take p ++ y :: m.bans.drop p
      rw [← List.take_append_drop p m.bans] at hbm
      rcases List.mem_append.1 hbm with h5 | h5
      · exact List.mem_append_left _ h5
      · exact List.mem_append_right _ (List.mem_cons_of_mem _ h5)
    · show m.bans.length ≤ (m.bans.take p ++ y :: m.bans.drop p).length
      simp
      omega
theorem grow_all (c : IncV) {m : MapV} (h : okMap m = true) (he : m.epoch < 4096) : okMap (appE c m) = true ∧ Grows m (appE c m) := by
  unfold appE
  rw [if_pos he]
  unfold chE
  cases hok : okInc c with
  | false => rw [if_pos rfl]; exact tick_fit h he
  | true =>
    rw [if_neg (by decide)]
    have ho := hok
    unfold okInc at ho
    by_cases k1 : c.kind = 1
    · rw [if_pos (Or.inl k1), Bool.and_eq_true] at ho
      rw [if_pos k1]
      exact setO_fit _ (fun o o' h1 h2 => boot_fit h1 ho.2 h2) h he
    · by_cases k2 : c.kind = 2
      · rw [if_neg k1, if_pos k2]
        exact setO_fit _ (fun o o' h1 h2 => down_fit h1 h2) h he
      · rw [if_neg (by omega)] at ho
        by_cases k3 : c.kind = 3
        · rw [if_pos k3, Bool.and_eq_true] at ho
          rw [if_neg k1, if_neg k2, if_pos k3]
          exact setO_fit _ (fun o o' h1 h2 => weigh_fit h1 ho.2 h2) h he
        · rw [if_neg k3] at ho
          by_cases k4 : c.kind = 4
          · rw [if_neg k1, if_neg k2, if_neg k3, if_pos k4]
            exact setO_fit _ (fun o o' h1 h2 => thru_fit h1 h2) h he
          · rw [if_neg k4] at ho
            by_cases k5 : c.kind = 5
            · rw [if_pos k5, Bool.and_eq_true] at ho
              rw [if_neg k1, if_neg k2, if_neg k3, if_neg k4, if_pos k5]
              exact pool_fit ho.2 h he
            · have k6 := kind_six hok k1 k2 k3 k4 k5
              rw [if_neg k5, if_pos k6, Bool.and_eq_true] at ho
              rw [if_neg k1, if_neg k2, if_neg k3, if_neg k4, if_neg k5]
              exact ban_fit ho.2 h he
end Go.Proofs.Ytbelemfdkbgjiaa.crush

namespace Go.Proofs.Ytbelemfdkbgjiaa.crush
open Go.RowKit
open Go.Proofs.Ytbelemfdkbgjiaa.kit Go.Proofs.Ytbelemfdkbgjiaa.own
set_option linter.unusedVariables false

theorem setO_twice {f : Int → Int → OsdV → Option OsdV} {n : Int} (i : Nat) (m : MapV) (hn : ∀ e o, f n e o = none → f n (e + 1) o = none) (hs : ∀ e o o', f n e o = some o' → f n (e + 1) o' = none) :
    (setO f n i (setO f n i m).1.tick).2 = false := by
  cases hi : m.osds[i]? with
  | none =>
    have e1 : setO f n i m = (m, false) := by unfold setO; rw [hi]
    rw [e1]
    unfold setO
    rw [show m.tick.osds[i]? = none from hi]
  | some o =>
    obtain ⟨hil, -⟩ := List.getElem?_eq_some_iff.1 hi
    cases ho : f n m.epoch o with
    | none =>
      have e1 : setO f n i m = (m, false) := by unfold setO; rw [hi]; simp only [ho]
      rw [e1]
      unfold setO
      rw [show m.tick.osds[i]? = some o from hi]
      simp only [show f n m.tick.epoch o = none from hn _ _ ho]
    | some o' =>
      have e1 : setO f n i m = (putOsd m i o', true) := by unfold setO; rw [hi]; simp only [ho]
      rw [e1]
      unfold setO
      rw [show (putOsd m i o').tick.osds[i]? = some o' from by show (m.osds.set i o')[i]? = some o'; rw [List.getElem?_set_self hil]]
      simp only [show f n (putOsd m i o').tick.epoch o' = none from hs _ _ _ ho]
theorem boot_twice (n : Int) (i : Nat) (m : MapV) : (setO bootO n i (setO bootO n i m).1.tick).2 = false :=
  setO_twice i m (fun e o h => h) (fun e o o' h => by
    unfold bootO at h ⊢
    split at h
    · cases h
    · cases h; exact if_pos (Int.le_refl _))
theorem down_twice (n : Int) (i : Nat) (m : MapV) : (setO downO n i (setO downO n i m).1.tick).2 = false :=
  setO_twice i m (fun e o h => h) (fun e o o' h => by
    unfold downO at h ⊢
    split at h
    · cases h
    · cases h; exact if_pos (Or.inl rfl))
theorem weigh_twice (n : Int) (i : Nat) (m : MapV) : (setO weighO n i (setO weighO n i m).1.tick).2 = false :=
  setO_twice i m (fun e o h => h) (fun e o o' h => by
    unfold weighO at h ⊢
    split at h
    · cases h
    · cases h; exact if_pos rfl)
theorem ordB_self (y : BanV) : ordB y y = 0 := by
  unfold ordB first2 cmp3
  simp
theorem ban_twice {y : BanV} {m : MapV} (hy : okBan y.client y.inst = true) (h : okMap m = true) (he : m.epoch < 4096) : (banE y (banE y m).1.tick).2 = false := by
  have hf := ban_fit hy h he
  cases hq : (atBan m.bans y (posB m.bans y) || decide (64 ≤ m.bans.length)) with
  | true =>
    have e1 : banE y m = (m, false) := by unfold banE; rw [hq]; exact if_pos rfl
    rw [e1]
    unfold banE
    rw [show (atBan m.tick.bans y (posB m.tick.bans y) || decide (64 ≤ m.tick.bans.length)) = true from hq, if_pos rfl]
  | false =>
    have e1 : banE y m = (⟨m.epoch, m.hosts, m.osds, m.pools, m.bans.take (posB m.bans y) ++ y :: m.bans.drop (posB m.bans y)⟩, true) := by unfold banE; rw [hq]; exact if_neg (by decide)
    rw [e1] at hf ⊢
    have hb := ((okMap_iff _).1 hf.1).2.2.2.2
    have hpos0 := bans_pos ((okMap_iff _).1 h).2.2.2.2 y
    have hple := posB_le m.bans y
    generalize posB m.bans y = p at hb hpos0 hple ⊢
    have hb' : okBans (m.bans.take p ++ y :: m.bans.drop p) = true := hb
    have hpos := bans_pos hb' y
    have hlen : (m.bans.take p ++ y :: m.bans.drop p).length = m.bans.length + 1 := by simp; omega
    have hlt : (m.bans.take p).length = p := by rw [List.length_take]; omega
    have hy2 : (m.bans.take p ++ y :: m.bans.drop p)[p]? = some y := by
      rw [List.getElem?_append_right (by omega), hlt, Nat.sub_self]; rfl
    obtain ⟨hpl, hpy⟩ := List.getElem?_eq_some_iff.1 hy2
    have hge : posB (m.bans.take p ++ y :: m.bans.drop p) y ≤ p := by
      rcases Nat.lt_or_ge p (posB (m.bans.take p ++ y :: m.bans.drop p) y) with h1 | h1
      · have := (hpos p hpl).2 h1
        rw [hpy, ordB_self] at this
        omega
      · exact h1
    have hle : p ≤ posB (m.bans.take p ++ y :: m.bans.drop p) y := by
      rcases Nat.lt_or_ge (posB (m.bans.take p ++ y :: m.bans.drop p) y) p with h1 | h1
      · have h2 := (hpos0 (posB (m.bans.take p ++ y :: m.bans.drop p) y) (by omega)).2 h1
        have h3 := (hpos (posB (m.bans.take p ++ y :: m.bans.drop p) y) (by omega)).1 (by
          rw [List.getElem_append_left (by omega), List.getElem_take]; exact h2)
        omega
      · exact h1
    have hpe : posB (m.bans.take p ++ y :: m.bans.drop p) y = p := by omega
    have hat : atBan (m.bans.take p ++ y :: m.bans.drop p) y p = true := by unfold atBan; rw [hy2]; simp [ordB_self]
    unfold banE
    rw [if_pos (by
      show (atBan (m.bans.take p ++ y :: m.bans.drop p) y (posB (m.bans.take p ++ y :: m.bans.drop p) y) || _) = true
      rw [hpe, hat]; rfl)]
/-- Behind a change the change changes nothing more: but a pool, and an up_thru that the epoch now lets in. -/
theorem chE_twice (c : IncV) {m : MapV} (h : okMap m = true) (he : m.epoch < 4096) (h4 : ¬ c.kind = 4) (h5 : ¬ c.kind = 5) : (chE c (appE c m)).2 = false := by
  unfold appE
  rw [if_pos he]
  cases hok : okInc c with
  | false =>
    have e : ∀ x, chE c x = (x, false) := fun x => by unfold chE; rw [if_pos hok]
    rw [e]
  | true =>
    have hno : ¬ okInc c = false := by rw [hok]; decide
    by_cases k1 : c.kind = 1
    · have e : ∀ x, chE c x = setO bootO c.num c.osd.toNat x := fun x => by unfold chE; rw [if_neg hno, if_pos k1]
      rw [e, e]; exact boot_twice _ _ _
    · by_cases k2 : c.kind = 2
      · have e : ∀ x, chE c x = setO downO c.num c.osd.toNat x := fun x => by unfold chE; rw [if_neg hno, if_neg k1, if_pos k2]
        rw [e, e]; exact down_twice _ _ _
      · by_cases k3 : c.kind = 3
        · have e : ∀ x, chE c x = setO weighO c.num c.osd.toNat x := fun x => by unfold chE; rw [if_neg hno, if_neg k1, if_neg k2, if_pos k3]
          rw [e, e]; exact weigh_twice _ _ _
        · have k6 := kind_six hok k1 k2 k3 h4 h5
          have e : ∀ x, chE c x = banE (banV c) x := fun x => by unfold chE; rw [if_neg hno, if_neg k1, if_neg k2, if_neg k3, if_neg h4, if_neg h5]
          have ho := hok
          unfold okInc at ho
          rw [if_neg (by omega), if_neg k3, if_neg h4, if_neg h5, if_pos k6, Bool.and_eq_true] at ho
          rw [e, e]
          exact ban_twice ho.2 h he
end Go.Proofs.Ytbelemfdkbgjiaa.crush

namespace Go.Proofs.Ytbelemfdkbgjiaa.crush
open Go.RowKit
open Go.Proofs.Ytbelemfdkbgjiaa.kit Go.Proofs.Ytbelemfdkbgjiaa.own
set_option linter.unusedVariables false

def osd0 : OsdV := ⟨0, false, 65536, 0⟩
def firstE (hs : List Int) : MapV := if okHosts hs then ⟨0, hs, List.replicate hs.length osd0, [], []⟩ else ⟨0, [], [], [], []⟩
theorem okHosts_len {hs : List Int} (h : okHosts hs = true) : 1 ≤ hs.length ∧ hs.length ≤ 8 := by
  unfold okHosts at h
  rw [Bool.and_eq_true] at h
  have h1 := h.1
  unfold inR at h1
  simp only [Bool.and_eq_true, decide_eq_true_iff] at h1
  omega

set_option maxHeartbeats 16000000 in
set_option maxRecDepth 100000 in
theorem First_any (v : Value) (hs : List Int) (w : World) (h : Sl ic 1 w v hs) : Calls Try.prog 4 #[v] w (AppS w (firstE hs)) := by
  have hb := below_new w (.cells #[.int .i64 0, .slice none 0 0, .slice none 0 0, .slice none 0 0, .slice none 0 0] 28)
  have hx := mbox_new w 28 0 (.slice none 0 0) (.slice none 0 0) (.slice none 0 0) (.slice none 0 0)
  have HF := Lib.hid (fun u (hu : Below w.heap.size w u) => fitHosts_any v hs u (h.keep hu))
  have HOk := Lib.hid (fun (e : okHosts hs = true) => okHosts_len e)
  obtain ⟨q, hq⟩ : ∃ q, okHosts hs = q := ⟨_, rfl⟩
  rw [hq] at HF
  have HE : Hid (firstE hs = if q then ⟨0, hs, List.replicate hs.length osd0, [], []⟩ else ⟨0, [], [], [], []⟩) := Lib.hid (by unfold firstE; rw [hq])
  have HQ := Lib.hid hq
  have HCl := Lib.hid (fun (hl : hs.length ≤ 8) u (hu : Below w.heap.size w u) => cloneI v hs u (h.keep hu) (by omega))
  have HRp := Lib.hid (fun (hl : 1 ≤ hs.length ∧ hs.length ≤ 8) v u (hv : Sl oc 4 u v [osd0]) => repeatO v osd0 hs.length hl.1 hl.2 u hv)
  have HNw := Lib.hid (fun (u : World) => sl_new oc_len u osd0 39 u.heap.size rfl)
  have HBn := Lib.hid (fun (u : World) => below_new u (.cells (oc osd0).toArray 39))
  obtain ⟨a, c, rfl⟩ := h.slice
  have HB := Lib.hid hb; have HX := Lib.hid hx
  obtain ⟨L, hL⟩ : ∃ L, hs.length = L := ⟨_, rfl⟩
  have HL := Lib.hid hL
  rw [hL] at HF HCl HRp HOk ⊢
  clear h hb hx hq hL
  go_enter Try.func4, Try.ntmps4
  go_upto_region 1 with fail
  generalize (w.alloc (.cells #[.int .i64 0, .slice none 0 0, .slice none 0 0, .slice none 0 0, .slice none 0 0] 28)) = W at HB HX ⊢
  cases q with
  | false =>
    go_wp2_with (first
      | (go_at_call 11; refine (HF.out _ HB.out).mono ?_; rintro e w5 ⟨rfl, hb⟩; have HB5 := Lib.hid (HB.out.trans (hb.mono HB.out.size)); have HX5 := Lib.hid (HX.out.keep hb); clear hb)
      | (refine wpList_store_mid rfl 28 _ _ rfl w.heap.size 0 #[.int .i64 0, .slice none 0 0, .slice none 0 0, .slice none 0 0, .slice none 0 0] rfl rfl HX5.out.there sizeMap (map_one _ _ _ _ _ _ _ _ _ _ _ _ _) ?_))
    refine bodyPost_ret (ret_cell rfl rfl (HX5.out.put 0 (.slice none 0 0) (.slice none 0 0) (.slice none 0 0) (.slice none 0 0)).range Try.underlying28 rfl sizeMap) rfl ?_
    rw [HE.out]
    exact ⟨_, _, _, _, rfl, ⟨Own.nil _ _ _, Own.nil _ _ _, Own.nil _ _ _, Own.nil _ _ _⟩, Below.setCells HB5.out (b := w.heap.size) (Nat.le_refl _) 0 _⟩
  | true =>
    have hl8 := HOk.out HQ.out
    go_upto_region 3 with (go_at_call 11; refine (HF.out _ HB.out).mono ?_; rintro e w5 ⟨rfl, hb⟩; have HB5 := Lib.hid (HB.out.trans (hb.mono HB.out.size)); have HX5 := Lib.hid (HX.out.keep hb); clear hb)
    go_wp2_with (first
      | (go_at_call 12; refine (HCl.out hl8.2 _ HB5.out).mono ?_; rintro e w6 ⟨v6, rfl, ho, hb⟩; obtain ⟨a6, c6, rfl⟩ := ho.slice; have HB6 := Lib.hid (HB5.out.trans (hb.mono HB5.out.size)); have HX6 := Lib.hid (HX5.out.keep hb); have HO6 := Lib.hid (ho.mono (show w.heap.size + 1 ≤ _ from HX5.out.lt)); have HS6 := Lib.hid (HNw.out w6); have HB7 := Lib.hid (HB6.out.trans ((HBn.out w6).mono HB6.out.size)); have HX7 := Lib.hid (HX6.out.keep (HBn.out w6)); have HO7 := Lib.hid (HO6.out.below (HBn.out w6)); clear ho hb)
      | (go_at_call 13; refine (HRp.out hl8 _ _ HS6.out).mono ?_; rintro e w8 ⟨v8, rfl, ho, hb⟩; obtain ⟨a8, c8, rfl⟩ := ho.slice; rw [List.length_replicate] at ho; have HB8 := Lib.hid (HB7.out.trans (hb.mono HB7.out.size)); have HX8 := Lib.hid (HX7.out.keep hb); have HO8 := Lib.hid (ho.mono (show w.heap.size + 1 ≤ _ from HX7.out.lt)); have HO78 := Lib.hid (HO7.out.below hb); clear ho hb)
      | (refine wpList_store_mid rfl 28 _ _ rfl w.heap.size 0 #[.int .i64 0, .slice a6 hs.length c6, .slice a8 L c8, .slice none 0 0, .slice none 0 0] rfl rfl HX8.out.there sizeMap (map_one _ _ _ _ _ _ _ _ _ _ _ _ _) ?_))
    refine bodyPost_ret (ret_cell rfl rfl (HX8.out.put 0 (.slice a6 hs.length c6) (.slice a8 L c8) (.slice none 0 0) (.slice none 0 0)).range Try.underlying28 rfl sizeMap) rfl ?_
    rw [HE.out, if_pos trivial]
    exact ⟨_, _, _, _, rfl, ⟨(HO78.out.setCells_far (Nat.lt_succ_self _) 0 _).mono (Nat.le_succ _), by rw [HL.out]; exact (HO8.out.setCells_far (Nat.lt_succ_self _) 0 _).mono (Nat.le_succ _), Own.nil _ _ _, Own.nil _ _ _⟩, Below.setCells HB8.out (b := w.heap.size) (Nat.le_refl _) 0 _⟩
end Go.Proofs.Ytbelemfdkbgjiaa.crush

namespace Go.Proofs.Ytbelemfdkbgjiaa.crush
open Go.RowKit
open Go.Proofs.Ytbelemfdkbgjiaa.kit Go.Proofs.Ytbelemfdkbgjiaa.own
set_option linter.unusedVariables false

theorem okMap_small {m : MapV} (h : okMap m = true) : m.Small ∧ m.osds ≠ [] ∧ I64 m.epoch ∧ okBans m.bans = true := by
  have h0 := (okMap_iff m).1 h
  have h1 := okHosts_len h0.2.1
  have h2 := ((osds_iff _ _ _).1 h0.2.2.1).1
  have h3 : m.pools.length ≤ 2 := by
    have := h0.2.2.2.1
    unfold okPools at this
    rw [Bool.and_eq_true, decide_eq_true_eq] at this
    exact this.1
  have h4 := ((okBans_iff _).1 h0.2.2.2.2).2.2
  refine ⟨?_, fun e => ?_, ?_, h0.2.2.2.2⟩
  · unfold MapV.Small
    omega
  · rw [e] at h2
    simp at h2
    omega
  · unfold I64
    omega
theorem first_ok {hs : List Int} (h : okHosts hs = true) : okMap (firstE hs) = true := by
  unfold firstE
  rw [if_pos h, okMap_iff]
  refine ⟨⟨Int.le_refl 0, by show (0 : Int) ≤ 4096; decide⟩, h, (osds_iff _ _ _).2 ⟨by simp, fun o ho => ?_⟩, by rfl, by rfl⟩
  rw [List.eq_of_mem_replicate ho]
  rfl
end Go.Proofs.Ytbelemfdkbgjiaa.crush

namespace Go.Proofs.Ytbelemfdkbgjiaa.crush
open Go.RowKit
open Go.Proofs.Ytbelemfdkbgjiaa.kit Go.Proofs.Ytbelemfdkbgjiaa.own
set_option linter.unusedVariables false

theorem eql_ban (x y : BanV) (w : World) : (binOp .eql 41 (.agg (bc x).toArray) (.agg (bc y).toArray)).run Try.prog w = .ok (.bool (decide (x = y))) w := by
  obtain ⟨k, o⟩ := x
  obtain ⟨k', o'⟩ := y
  simp only [bc]
  go_simp
  repeat' split
  all_goals simp [*]
def hasBan (xs : List BanV) (y : BanV) : Bool := xs.any fun x => decide (y = x)
def IdxB (w : World) (xs : List BanV) (y : BanV) (e : Ending) (w' : World) : Prop := ∃ i : Int, e = .returned (.int .i64 i) ∧ (decide (0 ≤ i) = hasBan xs y) ∧ Below w.heap.size w w'
set_option maxHeartbeats 8000000 in
set_option maxRecDepth 100000 in
theorem IndexB_any (v : Value) (xs : List BanV) (y : BanV) (w : World) (h : Sl bc 2 w v xs) : Calls Try.prog 47 #[v, .agg (bc y).toArray] w (IdxB w xs y) := by
  obtain ⟨hl, a, c, rfl, -, hc⟩ := h
  have HC := Lib.hid hc
  have HAll : Hid (∀ k, k = xs.length → (∀ j (h : j < xs.length), j < k → ¬ y = xs[j]) → hasBan xs y = false) := Lib.hid (fun k e h => by
    unfold hasBan
    cases hh : xs.any fun x => decide (y = x) with
    | false => rfl
    | true =>
      obtain ⟨x, hx, h2⟩ := List.any_eq_true.1 hh
      obtain ⟨j, hj, e2⟩ := List.getElem_of_mem hx
      exact absurd (by rw [e2]; exact of_decide_eq_true h2) (h j hj (by omega)))
  have HOne : Hid (∀ k (h : k < xs.length), y = xs[k] → hasBan xs y = true) := Lib.hid (fun k h e => List.any_eq_true.2 ⟨_, List.getElem_mem h, decide_eq_true e⟩)
  have HQ := fun x u => eql_ban y x u
  have hb := below_new w (.cells (bc y).toArray 41)
  have hx := alloc_at w (.cells (bc y).toArray 41)
  unfold IdxB
  generalize hasBan xs y = R at HAll HOne ⊢
  obtain ⟨L, hL⟩ : ∃ L, xs.length = L := ⟨_, rfl⟩
  have HL := Lib.hid hL
  rw [hL] at hl ⊢
  obtain ⟨yc, yn⟩ := y
  simp only [bc] at hb hx HQ ⊢
  obtain ⟨U, hU⟩ : ∃ U, w.alloc (.cells #[.int .i64 yc, .int .i64 yn] 41) = U := ⟨_, rfl⟩
  rw [hU] at hb
  have hx2 : U.heap[w.heap.size]? = some (.cells #[.int .i64 yc, .int .i64 yn] 41 (0, 0)) := by rw [← hU]; exact hx
  have HB := Lib.hid hb; have HX := Lib.hid hx2
  have HBm : Hid (∀ u, Below U.heap.size U u → u.cell? ⟨w.heap.size, 0, none⟩ = some (.int .i64 yc) ∧ u.cell? ⟨w.heap.size, 1, none⟩ = some (.int .i64 yn)) := Lib.hid (fun u hu => bbox_at (x := ⟨yc, yn⟩) ((hu.block _ (Array.getElem?_eq_some_iff.1 HX.out).1).trans HX.out))
  have HQh := Lib.hid HQ
  clear hc hL hb hx hx2 HQ
  go_enter Try.func47, Try.ntmps47
  go_wp2
  clear hU
  go_loopw [8] (fun vi wr => ∃ k : Nat, k ≤ L ∧ vi = .int .i64 k ∧ Hid (∀ j (h : j < xs.length), j < k → ¬ (⟨yc, yn⟩ : BanV) = xs[j]) ∧ Below U.heap.size U wr) (fun i _ => L - (intOf i).toNat)
  case atStart => exact ⟨0, by omega, rfl, Lib.hid (fun j h h2 => by omega), Below.refl _ _⟩
  case round =>
    obtain ⟨k, hk, rfl, HN, hbw⟩ := hrel
    have HBw := Lib.hid hbw
    clear hbw
    by_cases hlt : k < L
    · have hlt' : (k : Int) < L := by omega
      have hk0 : (0 : Int) ≤ k := by omega
      have hi : k < xs.length := by rw [HL.out]; exact hlt
      obtain ⟨b, off, rfl, hbl, hcell⟩ := HC.out (by omega)
      have hd := range_keep (hcell k hi) hbl (HB.out.trans (HBw.out.mono HB.out.size))
      obtain ⟨x, hxk⟩ : ∃ x, xs[k] = x := ⟨_, rfl⟩
      have HY := Lib.hid hxk
      have hQ := HQh.out x
      rw [hxk] at hd
      obtain ⟨xc, xn⟩ := x
      have HDw := Lib.hid (below_drew HBw.out)
      have hd := range_keep hd (Nat.lt_of_lt_of_le hbl (HB.out.trans (HBw.out.mono HB.out.size)).size) (below_drew (Below.refl wr.heap.size wr))
      have d0 : _ = some (Value.int .i64 xc) := hd 0 _ rfl
      have d1 : _ = some (Value.int .i64 xn) := hd 1 _ rfl
      simp only [Nat.add_zero] at d0
      obtain ⟨q, hq⟩ : ∃ q, decide ((⟨yc, yn⟩ : BanV) = ⟨xc, xn⟩) = q := ⟨_, rfl⟩
      rw [hq] at hQ
      simp only at hQ
      have HQq := Lib.hid hq
      obtain ⟨s0, s1⟩ := HBm.out _ HDw.out
      have HBx := Lib.hid (HB.out.trans (HDw.out.mono HB.out.size))
      clear hcell hbl hd hxk hq
      cases q with
      | true =>
        have HR : Hid (R = true) := Lib.hid (HOne.out k hi (by rw [HY.out]; exact of_decide_eq_true HQq.out))
        go_upto_region 4 with fail
        go_region_held3 (fun u => (u.cell? ⟨w.heap.size, 0, none⟩ = some (.int .i64 yc) ∧ u.cell? ⟨w.heap.size, 1, none⟩ = some (.int .i64 yn)) ∧ u.cell? ⟨b, off + k * 2, none⟩ = some (.int .i64 xc) ∧ u.cell? ⟨b, off + k * 2 + 1, none⟩ = some (.int .i64 xn))
          (first | exact ⟨⟨s0, s1⟩, d0, d1⟩)
          (first | fail)
        go_wp2
        go_ret
        exact ⟨_, rfl, by rw [HR.out]; simp, HBx.out⟩
      | false =>
        have HN2 : Hid (∀ j (h : j < xs.length), j < k + 1 → ¬ (⟨yc, yn⟩ : BanV) = xs[j]) := Lib.hid (fun j h h2 => by
          rcases Nat.lt_or_ge j k with h3 | h3
          · exact HN.out j h h3
          · obtain rfl : j = k := by omega
            rw [HY.out]; exact of_decide_eq_false HQq.out)
        go_upto_region 4 with fail
        go_region_held3 (fun u => (u.cell? ⟨w.heap.size, 0, none⟩ = some (.int .i64 yc) ∧ u.cell? ⟨w.heap.size, 1, none⟩ = some (.int .i64 yn)) ∧ u.cell? ⟨b, off + k * 2, none⟩ = some (.int .i64 xc) ∧ u.cell? ⟨b, off + k * 2 + 1, none⟩ = some (.int .i64 xn))
          (first | exact ⟨⟨s0, s1⟩, d0, d1⟩)
          (first | fail)
        clear hQ d0 d1 s0 s1
        go_wp2
        go_roundw
        case rel => exact ⟨k + 1, by omega, by go_num, HN2, HDw.out⟩
        case measure => simp [intOf]; omega
    · obtain rfl : k = L := by omega
      have HF := Lib.hid (HAll.out k HL.out.symm HN.out)
      have HBx := Lib.hid (HB.out.trans (HBw.out.mono HB.out.size))
      go_wp2
      go_ret
      exact ⟨_, rfl, by rw [HF.out]; rfl, HBx.out⟩

set_option maxHeartbeats 8000000 in
theorem ContainsB_any (v : Value) (xs : List BanV) (y : BanV) (w : World) (h : Sl bc 2 w v xs) : Calls Try.prog 22 #[v, .agg (bc y).toArray] w fun e w' => e = .returned (.bool (hasBan xs y)) ∧ Below w.heap.size w w' := by
  have HI := Lib.hid (fun u (hu : Below w.heap.size w u) => IndexB_any v xs y u (h.keep hu))
  have HB0 := Lib.hid (below_new w (.cells (bc y).toArray 41))
  obtain ⟨a, c, rfl⟩ := h.slice
  unfold IdxB at HI
  generalize hasBan xs y = R at HI ⊢
  generalize xs.length = L at HI ⊢
  obtain ⟨yc, yn⟩ := y
  simp only [bc] at HI HB0 ⊢
  clear h
  go_enter Try.func22, Try.ntmps22
  go_wp2_with (go_at_call 47; refine (HI.out _ HB0.out).mono ?_; rintro e w1 ⟨i, rfl, hi, hb⟩; have HH := Lib.hid hi; have HB := Lib.hid (HB0.out.trans (hb.mono HB0.out.size)); clear hi hb)
  go_ret
  exact ⟨by rw [← HH.out]; rfl, HB.out⟩

set_option maxHeartbeats 8000000 in
theorem Banned_any (v : Value) (m : MapV) (y : BanV) (w : World) (h : MapR w v m) : Calls Try.prog 9 #[v, .agg (bc y).toArray] w fun e w' => e = .returned (.bool (hasBan m.bans y)) ∧ Below w.heap.size w w' := by
  obtain ⟨vh, vo, vp, vb, rfl, h1, h2, h3, h4⟩ := h
  have HI := Lib.hid (fun u (hu : Below w.heap.size w u) => ContainsB_any vb m.bans y u (h4.keep hu))
  obtain ⟨ah, ch, rfl⟩ := h1.slice
  obtain ⟨ao, co, rfl⟩ := h2.slice
  obtain ⟨ap, cp, rfl⟩ := h3.slice
  obtain ⟨ab, cb, rfl⟩ := h4.slice
  have HB0 := Lib.hid ((below_new w (.cells #[.int .i64 m.epoch, .slice ah m.hosts.length ch, .slice ao m.osds.length co, .slice ap m.pools.length cp, .slice ab m.bans.length cb] 28)).alloc (by simp) (.cells (bc y).toArray 41))
  generalize hasBan m.bans y = R at HI ⊢
  generalize m.hosts.length = Lh at HB0 ⊢
  generalize m.osds.length = Lo at HB0 ⊢
  generalize m.pools.length = Lp at HB0 ⊢
  generalize m.bans.length = Lb at HI HB0 ⊢
  generalize m.epoch = ep at HB0 ⊢
  obtain ⟨yc, yn⟩ := y
  simp only [bc] at HI HB0 ⊢
  clear h1 h2 h3 h4
  go_enter Try.func9, Try.ntmps9
  go_wp2_with (go_at_call 22; refine (HI.out _ HB0.out).mono ?_; rintro e w1 ⟨rfl, hb⟩; have HB := Lib.hid (HB0.out.trans (hb.mono HB0.out.size)); clear hb)
  go_ret
  exact ⟨rfl, HB.out⟩

set_option maxHeartbeats 8000000 in
set_option maxRecDepth 100000 in
theorem rHosts_any (v : Value) (xs : List Int) (w : World) (h : Sl ic 1 w v xs) : Calls Try.prog 5 #[v] w fun e w' => e = .returned (.bool (okHosts xs)) ∧ w' = w := by
  obtain ⟨hl, a, c, rfl, -, hc⟩ := h
  have HC := Lib.hid hc
  have HBad : Hid (∀ k (h : k < xs.length), (xs[k] < 0 ∨ 7 < xs[k]) → okHosts xs = false) := Lib.hid (fun k h e => by
    unfold okHosts
    have : (xs.any fun h => !okId h) = true := List.any_eq_true.2 ⟨_, List.getElem_mem h, by unfold okId inR; simp; omega⟩
    rw [this]; simp)
  have HAll : Hid ((∀ j (h : j < xs.length), 0 ≤ xs[j] ∧ xs[j] ≤ 7) → ∀ K : Nat, xs.length = K → okHosts xs = inR K 1 8) := Lib.hid (fun h K hK => by
    subst hK
    unfold okHosts
    have : (xs.any fun h => !okId h) = false := List.any_eq_false.2 (fun x hx => by
      obtain ⟨j, hj, rfl⟩ := List.getElem_of_mem hx
      have := h j hj
      unfold okId inR; simp; omega)
    rw [this]; simp)
  generalize okHosts xs = R at HBad HAll ⊢
  obtain ⟨L, hL⟩ : ∃ L, xs.length = L := ⟨_, rfl⟩
  have HL := Lib.hid hL
  rw [hL] at hl ⊢
  clear hc hL
  go_enter Try.func5, Try.ntmps5
  go_wp2
  go_loopw [3] (fun vi wr => ∃ k : Nat, k ≤ L ∧ vi = .int .i64 k ∧ Hid (∀ j (h : j < xs.length), j < k → 0 ≤ xs[j] ∧ xs[j] ≤ 7) ∧ wr = w) (fun i _ => L - (intOf i).toNat)
  case atStart => exact ⟨0, by omega, rfl, Lib.hid (fun j h h2 => by omega), rfl⟩
  case round =>
    obtain ⟨k, hk, rfl, HN, rfl⟩ := hrel
    by_cases hlt : k < L
    · have hlt' : (k : Int) < L := by omega
      have hk0 : (0 : Int) ≤ k := by omega
      have hi : k < xs.length := by rw [HL.out]; exact hlt
      obtain ⟨b, off, rfl, hbl, hcell⟩ := HC.out (by omega)
      have d1 := icell_at (hcell k hi)
      rw [Nat.mul_one] at d1
      have hbad := HBad.out k hi
      obtain ⟨y, hy⟩ : ∃ y, xs[k] = y := ⟨_, rfl⟩
      have HY := Lib.hid hy
      rw [hy] at d1 hbad
      have HBd := Lib.hid hbad
      clear hcell hbl hy hbad
      by_cases h1 : y < 0
      · have HR := Lib.hid (HBd.out (Or.inl h1))
        go_wp2
        go_ret
        exact ⟨by rw [HR.out]; rfl, rfl⟩
      · by_cases h2 : 7 < y
        · have HR := Lib.hid (HBd.out (Or.inr h2))
          go_wp2
          go_ret
          exact ⟨by rw [HR.out]; rfl, rfl⟩
        · have HN2 : Hid (∀ j (h : j < xs.length), j < k + 1 → 0 ≤ xs[j] ∧ xs[j] ≤ 7) := Lib.hid (fun j h h3 => by
            rcases Nat.lt_or_ge j k with h4 | h4
            · exact HN.out j h h4
            · obtain rfl : j = k := by omega
              rw [HY.out]; omega)
          go_wp2
          clear d1
          go_roundw
          case rel => exact ⟨k + 1, by omega, by go_num, HN2, trivial⟩
          case measure => simp [intOf]; omega
    · obtain rfl : k = L := by omega
      have HF := Lib.hid (HAll.out (fun j h => HN.out j h (by rw [← HL.out]; exact h)) _ HL.out)
      by_cases h1 : (1 : Int) ≤ k
      · by_cases h2 : (k : Int) ≤ 8
        · go_wp2
          go_ret
          exact ⟨by rw [HF.out, inR]; simp [h1, h2], rfl⟩
        · go_wp2
          go_ret
          exact ⟨by rw [HF.out, inR]; simp [h1, h2], rfl⟩
      · go_wp2
        go_ret
        exact ⟨by have h3 : inR (k : Int) 1 8 = false := by { unfold inR; rw [decide_eq_false (by omega : ¬ (1 : Int) ≤ k)]; rfl }
                  rw [HF.out, h3]; rfl, rfl⟩
end Go.Proofs.Ytbelemfdkbgjiaa.crush

namespace Go.Proofs.Ytbelemfdkbgjiaa.crush
open Go.RowKit
open Go.Proofs.Ytbelemfdkbgjiaa.kit Go.Proofs.Ytbelemfdkbgjiaa.own
set_option linter.unusedVariables false

theorem setO_epoch (f : Int → Int → OsdV → Option OsdV) (n : Int) (i : Nat) (m : MapV) : (setO f n i m).1.epoch = m.epoch := by
  unfold setO
  cases m.osds[i]? with
  | none => rfl
  | some o =>
    simp only
    cases f n m.epoch o <;> rfl
theorem apply1_any (v : Value) (c : IncV) (hk : c.kind = 1) (i : Nat) (hc : c.osd = i) (hok : okInc c = true) (m : MapV) (w : World) (h : MapR w v m) (hs : m.Small) (hn : m.osds ≠ []) (hI : I64 m.epoch) :
    Calls Try.prog 7 #[v, c.val] w (AppS w (if m.epoch < 4096 then (setO bootO c.num i m).1.tick else m)) :=
  Apply_any v c m _ w h hs hn hI (setO_epoch _ _ _ _) (fun B S g cap u h1 h2 h3 => (change1_any c hk i hc hok B S g cap m u h3 h2).mono (by
    rintro e w' ⟨he, hg, hb⟩
    exact ⟨_, he, hg, hb⟩))
theorem apply2_any (v : Value) (c : IncV) (hk : c.kind = 2) (i : Nat) (hc : c.osd = i) (hok : okInc c = true) (m : MapV) (w : World) (h : MapR w v m) (hs : m.Small) (hn : m.osds ≠ []) (hI : I64 m.epoch) :
    Calls Try.prog 7 #[v, c.val] w (AppS w (if m.epoch < 4096 then (setO downO c.num i m).1.tick else m)) :=
  Apply_any v c m _ w h hs hn hI (setO_epoch _ _ _ _) (fun B S g cap u h1 h2 h3 => (change2_any c hk i hc hok B S g cap m u h3 h2).mono (by
    rintro e w' ⟨he, hg, hb⟩
    exact ⟨_, he, hg, hb⟩))

def awM0 : MapV := ⟨0, [0, 0, 1], [osd0, osd0, osd0], [], []⟩
def awM1 : MapV := ⟨1, [0, 0, 1], [osd0, ⟨3, true, 65536, 0⟩, osd0], [], []⟩
def awM2 : MapV := ⟨2, [0, 0, 1], [osd0, ⟨3, true, 65536, 0⟩, osd0], [], []⟩
def awM3 : MapV := ⟨3, [0, 0, 1], [osd0, ⟨3, false, 65536, 0⟩, osd0], [], []⟩
def awC1 : IncV := ⟨1, 1, 0, 3, ⟨0, 0, 0, 0⟩⟩
def awC2 : IncV := ⟨2, 1, 0, 2, ⟨0, 0, 0, 0⟩⟩
def awC3 : IncV := ⟨2, 1, 0, 3, ⟨0, 0, 0, 0⟩⟩
theorem aw_ok1 : okInc awC1 = true := by decide +kernel
theorem aw_ok2 : okInc awC2 = true := by decide +kernel
theorem aw_ok3 : okInc awC3 = true := by decide +kernel
theorem aw_first : firstE [0, 0, 1] = awM0 := by rfl
theorem aw_s1 : (if awM0.epoch < 4096 then (setO bootO awC1.num 1 awM0).1.tick else awM0) = awM1 := by rfl
theorem aw_s2 : (if awM1.epoch < 4096 then (setO downO awC2.num 1 awM1).1.tick else awM1) = awM2 := by rfl
theorem aw_s3 : (if awM2.epoch < 4096 then (setO downO awC3.num 1 awM2).1.tick else awM2) = awM3 := by rfl
theorem aw_fit : okMap awM3 = true := by decide +kernel
theorem aw_enc : encE awC1 = { data := #[1, 1, 0, 3, 0, 0, 0, 0] } := by decide +kernel
theorem aw_dec : decB [] = (10, incZ) := by rfl
theorem aw_sm0 : awM0.Small := by unfold MapV.Small awM0; decide
theorem aw_sm1 : awM1.Small := by unfold MapV.Small awM1; decide
theorem aw_sm2 : awM2.Small := by unfold MapV.Small awM2; decide
theorem sl_three (w : World) : Sl ic 1 (w.alloc (.cells #[.int .i64 0, .int .i64 0, .int .i64 1] 3)) (.slice (some ⟨w.heap.size, 0, none⟩) 3 3) [0, 0, 1] := by
  refine ⟨by simp, _, _, rfl, fun h => (by cases h), fun _ => ⟨w.heap.size, 0, rfl, by simp, fun j hj i u hu => ?_⟩⟩
  have hj3 : j < 3 := hj
  rw [World.cell?_alloc_at _ _ _ _ rfl]
  rcases (show j = 0 ∨ j = 1 ∨ j = 2 by omega) with rfl | rfl | rfl
  all_goals
    cases i with
    | zero => simpa [ic] using hu
    | succ i => simp [ic] at hu

theorem osds_at {w : World} {B : Nat} {v : Value} {xs : List OsdV} {L : Nat} (h : Own oc 4 39 w B v xs) (hL : xs.length = L) (h0 : 0 < L) : ∃ b off c, v = .slice (some (⟨b, off, none⟩ : Addr)) L c ∧ b < w.heap.size ∧ ∀ j (hj : j < xs.length), w.rangeAt b (off + j * 4) (oc xs[j]) := by
  subst hL
  obtain ⟨_, a, c, rfl, -, hc⟩ := h.read oc_len
  obtain ⟨b, off, rfl, hlt, hcell⟩ := hc (by omega)
  exact ⟨b, off, c, rfl, hlt, hcell⟩
theorem aw_put {W w2 : World} {M : Nat} {t : TypeId} {ep : Int} {a1 a2 a3 a4 : Value} (hM : MBox W M t ep a1 a2 a3 a4) (hb : Below W.heap.size W w2) {vh vo vp vb : Value} {m' : MapV} (ho : MapO w2 W.heap.size vh vo vp vb m') :
    MBox (w2.setCells M 0 [.int .i64 m'.epoch, vh, vo, vp, vb]) M t m'.epoch vh vo vp vb ∧ MapO (w2.setCells M 0 [.int .i64 m'.epoch, vh, vo, vp, vb]) (M + 1) vh vo vp vb m' :=
  ⟨(hM.keep hb).put _ _ _ _ _, (ho.far hM.lt 0 _).mono hM.lt⟩

set_option maxHeartbeats 16000000 in
set_option maxRecDepth 100000 in
theorem awake_any (w : World) : Calls Try.prog 6 #[] w fun e w' => e = .returned (.bool true) ∧ Below w.heap.size w w' := by
  have HB0 := Lib.hid (below_new w (.cells #[.int .i64 0, .int .i64 0, .int .i64 1] 3))
  have HFi := Lib.hid (First_any _ [0, 0, 1] _ (sl_three w))
  rw [aw_first] at HFi
  have HA1 := Lib.hid (fun v u (h : MapR u v awM0) => apply1_any v awC1 rfl 1 rfl aw_ok1 awM0 u h aw_sm0 (by decide) (by unfold I64; decide))
  have HA2 := Lib.hid (fun v u (h : MapR u v awM1) => apply2_any v awC2 rfl 1 rfl aw_ok2 awM1 u h aw_sm1 (by decide) (by unfold I64; decide))
  have HA3 := Lib.hid (fun v u (h : MapR u v awM2) => apply2_any v awC3 rfl 1 rfl aw_ok3 awM2 u h aw_sm2 (by decide) (by unfold I64; decide))
  rw [aw_s1] at HA1
  rw [aw_s2] at HA2
  rw [aw_s3] at HA3
  have HEn := Lib.hid (fun u => Encode_any awC1 u)
  rw [aw_enc] at HEn
  have HDe := Lib.hid (fun u => Decode_any { data := #[] } (by decide) u)
  have HFt := Lib.hid (fun v u (h : MapR u v awM3) => Fit_any v awM3 u h (fun vb u h => fitBans_nil vb u h))
  rw [aw_fit] at HFt
  have hdt : decB (Go.Proofs.Ytbelemfdkbgjiaa.cm.txtN { data := #[] }) = (10, incZ) := aw_dec
  rw [hdt] at HDe
  unfold DecS at HDe
  unfold awC1 IncV.val at HA1 HEn
  unfold awC2 IncV.val at HA2
  unfold awC3 IncV.val at HA3
  unfold incZ IncV.val at HDe
  simp only at HA1 HA2 HA3 HEn HDe
  clear hdt
  go_enter Try.func6, Try.ntmps6
  go_upto_region 2 with (go_at_call 4; refine HFi.out.mono ?_; rintro e w1 ⟨vh1, vo1, vp1, vb1, rfl, ho, hb⟩; obtain ⟨b1, d1, rfl⟩ := ho.1.slice; obtain ⟨b2, d2, rfl⟩ := ho.2.1.slice; obtain ⟨b3, d3, rfl⟩ := ho.2.2.1.slice; obtain ⟨b4, d4, rfl⟩ := ho.2.2.2.slice; have HO1 := Lib.hid ho.read; have HB1 := Lib.hid (HB0.out.trans (hb.mono HB0.out.size)); clear hb ho)
  have hbn := below_new w1 (.cells #[.int .i64 awM0.epoch, .slice b1 awM0.hosts.length d1, .slice b2 awM0.osds.length d2, .slice b3 awM0.pools.length d3, .slice b4 awM0.bans.length d4] 28)
  have HXx1 := Lib.hid (mbox_new w1 28 awM0.epoch (.slice b1 awM0.hosts.length d1) (.slice b2 awM0.osds.length d2) (.slice b3 awM0.pools.length d3) (.slice b4 awM0.bans.length d4))
  have HRd1 := Lib.hid (HO1.out.keep hbn)
  have HBx1 := Lib.hid (HB1.out.trans (hbn.mono HB1.out.size))
  have HMw := Lib.hid HB1.out.size
  clear hbn
  generalize (w1.alloc (.cells #[.int .i64 awM0.epoch, .slice b1 awM0.hosts.length d1, .slice b2 awM0.osds.length d2, .slice b3 awM0.pools.length d3, .slice b4 awM0.bans.length d4] 28)) = U1 at HXx1 HRd1 HBx1 ⊢
  obtain ⟨l0, l1, l2, l3, l4⟩ := HXx1.out.cells
  go_upto_region 3 with (first
    | (go_at_call 7; refine (HA1.out _ _ HRd1.out).mono ?_; rintro e w2 ⟨vh2, vo2, vp2, vb2, rfl, ho, hb⟩; obtain ⟨x1, y1, rfl⟩ := ho.1.slice; obtain ⟨x2, y2, rfl⟩ := ho.2.1.slice; obtain ⟨x3, y3, rfl⟩ := ho.2.2.1.slice; obtain ⟨x4, y4, rfl⟩ := ho.2.2.2.slice; have HPt2 := Lib.hid (aw_put HXx1.out hb ho); have HT2 := Lib.hid (HXx1.out.keep hb).there; have HBl2 := Lib.hid (Below.setCells (HBx1.out.trans (hb.mono HBx1.out.size)) HMw.out 0 [.int .i64 awM1.epoch, .slice x1 awM1.hosts.length y1, .slice x2 awM1.osds.length y2, .slice x3 awM1.pools.length y3, .slice x4 awM1.bans.length y4]); clear ho hb)
    | (refine wpList_store_mid rfl 28 _ _ rfl w1.heap.size 0 #[.int .i64 awM1.epoch, .slice x1 awM1.hosts.length y1, .slice x2 awM1.osds.length y2, .slice x3 awM1.pools.length y3, .slice x4 awM1.bans.length y4] rfl rfl HT2.out sizeMap (map_one _ _ _ _ _ _ _ _ _ _ _ _ _) ?_))
  have HXx2 := Lib.hid HPt2.out.1
  have HOx2 := Lib.hid HPt2.out.2
  have HBx2 := Lib.hid HBl2.out
  generalize w2.setCells w1.heap.size 0 _ = U2 at HXx2 HOx2 HBx2 ⊢
  have HRd2 := Lib.hid HOx2.out.read
  clear HPt2 HT2 HBl2
  clear l0 l1 l2 l3 l4
  obtain ⟨l0, l1, l2, l3, l4⟩ := HXx2.out.cells
  go_upto_region 4 with (first
    | (go_at_call 7; refine (HA2.out _ _ HRd2.out).mono ?_; rintro e w3 ⟨vh3, vo3, vp3, vb3, rfl, ho, hb⟩; obtain ⟨x1, y1, rfl⟩ := ho.1.slice; obtain ⟨x2, y2, rfl⟩ := ho.2.1.slice; obtain ⟨x3, y3, rfl⟩ := ho.2.2.1.slice; obtain ⟨x4, y4, rfl⟩ := ho.2.2.2.slice; have HPt3 := Lib.hid (aw_put HXx2.out hb ho); have HT3 := Lib.hid (HXx2.out.keep hb).there; have HBl3 := Lib.hid (Below.setCells (HBx2.out.trans (hb.mono HBx2.out.size)) HMw.out 0 [.int .i64 awM2.epoch, .slice x1 awM2.hosts.length y1, .slice x2 awM2.osds.length y2, .slice x3 awM2.pools.length y3, .slice x4 awM2.bans.length y4]); clear ho hb)
    | (refine wpList_store_mid rfl 28 _ _ rfl w1.heap.size 0 #[.int .i64 awM2.epoch, .slice x1 awM2.hosts.length y1, .slice x2 awM2.osds.length y2, .slice x3 awM2.pools.length y3, .slice x4 awM2.bans.length y4] rfl rfl HT3.out sizeMap (map_one _ _ _ _ _ _ _ _ _ _ _ _ _) ?_))
  have HXx3 := Lib.hid HPt3.out.1
  have HOx3 := Lib.hid HPt3.out.2
  have HBx3 := Lib.hid HBl3.out
  generalize w3.setCells w1.heap.size 0 _ = U3 at HXx3 HOx3 HBx3 ⊢
  have HRd3 := Lib.hid HOx3.out.read
  clear HPt3 HT3 HBl3
  clear l0 l1 l2 l3 l4
  obtain ⟨l0, l1, l2, l3, l4⟩ := HXx3.out.cells
  have HLd := Lib.hid (⟨l0, l1, l2, l3, l4⟩ : _ ∧ _ ∧ _ ∧ _ ∧ _)
  obtain ⟨bb, off, cc, he, hlt, hcl⟩ := osds_at HOx3.out.2.1 rfl (L := 3) (by omega)
  cases he
  obtain ⟨d1, d2, d3, d4⟩ := ocells4 (hcl 1 (by decide))
  have e1 : awM2.osds[1]'(by decide) = ⟨3, true, 65536, 0⟩ := rfl
  rw [e1] at d1 d2 d3 d4
  simp only at d1 d2 d3 d4
  rw [show awM2.epoch = 2 from rfl] at l0
  rw [show awM2.osds.length = 3 from rfl] at l2
  clear e1 hcl
  go_upto_region 6 with fail
  clear d1 d2 d3 d4 l0 l1 l2 l3 l4 hlt
  obtain ⟨l0, l1, l2, l3, l4⟩ := HLd.out
  clear HLd
  go_upto_region 7 with (first
    | (go_at_call 7; refine (HA3.out _ _ HRd3.out).mono ?_; rintro e w4 ⟨vh4, vo4, vp4, vb4, rfl, ho, hb⟩; obtain ⟨x1, y1, rfl⟩ := ho.1.slice; obtain ⟨x2, y2, rfl⟩ := ho.2.1.slice; obtain ⟨x3, y3, rfl⟩ := ho.2.2.1.slice; obtain ⟨x4, y4, rfl⟩ := ho.2.2.2.slice; have HPt4 := Lib.hid (aw_put HXx3.out hb ho); have HT4 := Lib.hid (HXx3.out.keep hb).there; have HBl4 := Lib.hid (Below.setCells (HBx3.out.trans (hb.mono HBx3.out.size)) HMw.out 0 [.int .i64 awM3.epoch, .slice x1 awM3.hosts.length y1, .slice x2 awM3.osds.length y2, .slice x3 awM3.pools.length y3, .slice x4 awM3.bans.length y4]); clear ho hb)
    | (refine wpList_store_mid rfl 28 _ _ rfl w1.heap.size 0 #[.int .i64 awM3.epoch, .slice x1 awM3.hosts.length y1, .slice x2 awM3.osds.length y2, .slice x3 awM3.pools.length y3, .slice x4 awM3.bans.length y4] rfl rfl HT4.out sizeMap (map_one _ _ _ _ _ _ _ _ _ _ _ _ _) ?_))
  have HXx4 := Lib.hid HPt4.out.1
  have HOx4 := Lib.hid HPt4.out.2
  have HBx4 := Lib.hid HBl4.out
  generalize w4.setCells w1.heap.size 0 _ = U4 at HXx4 HOx4 HBx4 ⊢
  have HRd4 := Lib.hid HOx4.out.read
  clear HPt4 HT4 HBl4
  clear l0 l1 l2 l3 l4
  obtain ⟨l0, l1, l2, l3, l4⟩ := HXx4.out.cells
  have HLd := Lib.hid (⟨l0, l1, l2, l3, l4⟩ : _ ∧ _ ∧ _ ∧ _ ∧ _)
  obtain ⟨bb, off, cc, he, hlt, hcl⟩ := osds_at HOx4.out.2.1 rfl (L := 3) (by omega)
  cases he
  obtain ⟨d1, d2, d3, d4⟩ := ocells4 (hcl 1 (by decide))
  have e1 : awM3.osds[1]'(by decide) = ⟨3, false, 65536, 0⟩ := rfl
  rw [e1] at d1 d2 d3 d4
  simp only at d1 d2 d3 d4
  rw [show awM3.epoch = 3 from rfl] at l0
  rw [show awM3.osds.length = 3 from rfl] at l2
  clear e1 hcl
  go_upto_region 8 with (go_at_call 14; refine (HDe.out _).mono ?_; rintro e w5 ⟨rfl, hb⟩; have HX5 := Lib.hid (HXx4.out.keep hb); have HR5 := Lib.hid (HRd4.out.keep hb); have HO5 := Lib.hid (HOx4.out.below hb); have HB5 := Lib.hid (HBx4.out.trans (hb.mono HBx4.out.size)); clear hb d1 d2 d3 d4 l0 l1 l2 l3 l4 hlt HLd)
  have hbn := below_new w5 (.cells #[.int .i64 0, .int .i64 0, .int .i64 0, .int .i64 0, .int .i64 0, .int .i64 0, .int .i64 0, .int .i64 0] 35)
  have HX6 := Lib.hid (HX5.out.keep hbn); have HR6 := Lib.hid (HR5.out.keep hbn); have HO6 := Lib.hid (HO5.out.below hbn); have HB6 := Lib.hid (HB5.out.trans (hbn.mono HB5.out.size))
  clear hbn
  generalize w5.alloc (.cells #[.int .i64 0, .int .i64 0, .int .i64 0, .int .i64 0, .int .i64 0, .int .i64 0, .int .i64 0, .int .i64 0] 35) = U6 at HX6 HR6 HO6 HB6 ⊢
  obtain ⟨l0, l1, l2, l3, l4⟩ := HX6.out.cells
  obtain ⟨bb5, off5, cc5, he, hlt, hcl⟩ := osds_at HO6.out.2.1 rfl (L := 3) (by omega)
  cases he
  obtain ⟨d1, d2, d3, d4⟩ := ocells4 (hcl 1 (by decide))
  rw [show awM3.osds[1]'(by decide) = ⟨3, false, 65536, 0⟩ from rfl] at d1 d2 d3 d4
  simp only at d1 d2 d3 d4
  rw [show awM3.osds.length = 3 from rfl] at l2
  clear hcl
  go_wp2_with (first
    | (go_at_call 15; refine (HEn.out _).mono ?_; rintro e w7 ⟨rfl, hb⟩; have HX7 := Lib.hid (HX6.out.keep hb); have HR7 := Lib.hid (HR6.out.keep hb); have HB7 := Lib.hid (HB6.out.trans (hb.mono HB6.out.size)); clear hb d1 d2 d3 d4 l0 l1 l2 l3 l4 hlt; obtain ⟨l0, l1, l2, l3, l4⟩ := HX7.out.cells)
    | (go_at_call 8; refine (HFt.out _ _ HR7.out).mono ?_; rintro e w8 ⟨rfl, hb⟩; have HB8 := Lib.hid (HB7.out.trans (hb.mono HB7.out.size)); clear hb))
  go_ret
  exact ⟨rfl, HB8.out⟩
end Go.Proofs.Ytbelemfdkbgjiaa.crush

namespace Go.Proofs.Ytbelemfdkbgjiaa.crush
open Go.ChangeShapes Go.WideShapes Go.ChangeAt Go.RowKit
open Go.Proofs.Ytbelemfdkbgjiaa.kit Go.Proofs.Ytbelemfdkbgjiaa.own Go.Proofs.Ytbelemfdkbgjiaa.lift
set_option linter.unusedVariables false

theorem own : ownKnob Try.prog.godebug = none := by kernel_rfl
theorem laidOut : laidOutB Try.prog = true := by kernel_rfl
theorem incCells : Try.prog.cellsOf 35 = 8 ∧ Try.prog.cellsOf 33 = 4 ∧ Try.prog.cellsOf 3 = 1 ∧ Try.prog.cellsOf 2 = 1 := ⟨by kernel_rfl, by kernel_rfl, by kernel_rfl, by kernel_rfl⟩
theorem list8 {α : Type} : ∀ (l : List α), l.length = 8 → ∃ a b c d e f g h, l = [a, b, c, d, e, f, g, h]
  | [a, b, c, d, e, f, g, h], _ => ⟨a, b, c, d, e, f, g, h, rfl⟩
theorem list5 {α : Type} : ∀ (l : List α), l.length = 5 → ∃ a b c d e, l = [a, b, c, d, e]
  | [a, b, c, d, e], _ => ⟨a, b, c, d, e, rfl⟩
theorem list4' {α : Type} : ∀ (l : List α), l.length = 4 → ∃ a b c d, l = [a, b, c, d]
  | [a, b, c, d], _ => ⟨a, b, c, d, rfl⟩

set_option maxRecDepth 100000 in
theorem inc_cells {H : Type} {enc : TypeId × Value → H} {W : World} {base n : Nat} {sp : Nat → Bool} {held : Bool} {cs : List Value} {d : DataW H} {p : List MemPlace}
    (h : DataW.trod enc Try.prog W base sp held n 35 cs = some (d, p)) :
    ∃ c : IncV, cs = [.int .i64 c.kind, .int .i64 c.osd, .int .i64 c.client, .int .i64 c.num, .int .i64 c.pool.size, .int .i64 c.pool.min, .int .i64 c.pool.pgs, .int .i64 c.pool.dom] ∧ (Lit.int .i64 c.kind).wf = true ∧ (Lit.int .i64 c.osd).wf = true ∧ (Lit.int .i64 c.client).wf = true ∧ (Lit.int .i64 c.num).wf = true := by
  obtain ⟨xs, n', hn, hx, hlen, hxs, hg⟩ := DataW.trod_struct Try.underlying35 h
  obtain ⟨e8, e4, e1, e2⟩ := incCells
  rw [e8] at hlen
  have hxs' : xs.length = 5 := hxs
  obtain ⟨c0, c1, c2, c3, c4, c5, c6, c7, rfl⟩ := list8 cs hlen
  obtain ⟨y0, y1, y2, y3, y4, rfl⟩ := list5 xs hxs'
  have q0 : DataW.trod enc Try.prog W base sp held n' 3 (List.take (Try.prog.cellsOf 3) (List.drop 0 [c0, c1, c2, c3, c4, c5, c6, c7])) = some y0 := hg 0 _ rfl
  have q1 : DataW.trod enc Try.prog W base sp held n' 3 (List.take (Try.prog.cellsOf 3) (List.drop 1 [c0, c1, c2, c3, c4, c5, c6, c7])) = some y1 := hg 1 _ rfl
  have q2 : DataW.trod enc Try.prog W base sp held n' 3 (List.take (Try.prog.cellsOf 3) (List.drop 2 [c0, c1, c2, c3, c4, c5, c6, c7])) = some y2 := hg 2 _ rfl
  have q3 : DataW.trod enc Try.prog W base sp held n' 2 (List.take (Try.prog.cellsOf 2) (List.drop 3 [c0, c1, c2, c3, c4, c5, c6, c7])) = some y3 := hg 3 _ rfl
  have q4 : DataW.trod enc Try.prog W base sp held n' 33 (List.take (Try.prog.cellsOf 33) (List.drop 4 [c0, c1, c2, c3, c4, c5, c6, c7])) = some y4 := hg 4 _ rfl
  rw [e1] at q0 q1 q2
  rw [e2] at q3
  rw [e4] at q4
  have g0 : DataW.trod enc Try.prog W base sp held n' 3 [c0] = some y0 := q0
  have g1 : DataW.trod enc Try.prog W base sp held n' 3 [c1] = some y1 := q1
  have g2 : DataW.trod enc Try.prog W base sp held n' 3 [c2] = some y2 := q2
  have g3 : DataW.trod enc Try.prog W base sp held n' 2 [c3] = some y3 := q3
  have g4 : DataW.trod enc Try.prog W base sp held n' 33 [c4, c5, c6, c7] = some y4 := q4
  clear hg hxs hxs' hlen q0 q1 q2 q3 q4
  obtain ⟨xs, m, hm, hx2, hlen, hxs, hg⟩ := DataW.trod_struct Try.underlying33 g4
  have hxs' : xs.length = 4 := hxs
  obtain ⟨z4, z5, z6, z7, rfl⟩ := list4' xs hxs'
  have q4 : DataW.trod enc Try.prog W base sp held m 3 (List.take (Try.prog.cellsOf 3) (List.drop 0 [c4, c5, c6, c7])) = some z4 := hg 0 _ rfl
  have q5 : DataW.trod enc Try.prog W base sp held m 3 (List.take (Try.prog.cellsOf 3) (List.drop 1 [c4, c5, c6, c7])) = some z5 := hg 1 _ rfl
  have q6 : DataW.trod enc Try.prog W base sp held m 3 (List.take (Try.prog.cellsOf 3) (List.drop 2 [c4, c5, c6, c7])) = some z6 := hg 2 _ rfl
  have q7 : DataW.trod enc Try.prog W base sp held m 3 (List.take (Try.prog.cellsOf 3) (List.drop 3 [c4, c5, c6, c7])) = some z7 := hg 3 _ rfl
  rw [e1] at q4 q5 q6 q7
  have k4 : DataW.trod enc Try.prog W base sp held m 3 [c4] = some z4 := q4
  have k5 : DataW.trod enc Try.prog W base sp held m 3 [c5] = some z5 := q5
  have k6 : DataW.trod enc Try.prog W base sp held m 3 [c6] = some z6 := q6
  have k7 : DataW.trod enc Try.prog W base sp held m 3 [c7] = some z7 := q7
  clear hg hxs hxs' hlen q4 q5 q6 q7
  obtain ⟨a0, ha0, rfl, hw0⟩ := DataW.trod_int Try.underlying3 g0
  obtain ⟨a1, ha1, rfl, hw1⟩ := DataW.trod_int Try.underlying3 g1
  obtain ⟨a2, ha2, rfl, hw2⟩ := DataW.trod_int Try.underlying3 g2
  obtain ⟨a3, ha3, rfl, hw3⟩ := DataW.trod_int Try.underlying2 g3
  obtain ⟨a4, ha4, rfl, hw4⟩ := DataW.trod_int Try.underlying3 k4
  obtain ⟨a5, ha5, rfl, hw5⟩ := DataW.trod_int Try.underlying3 k5
  obtain ⟨a6, ha6, rfl, hw6⟩ := DataW.trod_int Try.underlying3 k6
  obtain ⟨a7, ha7, rfl, hw7⟩ := DataW.trod_int Try.underlying3 k7
  cases ha0; cases ha1; cases ha2; cases ha3; cases ha4; cases ha5; cases ha6; cases ha7
  exact ⟨⟨a0, a1, a2, a3, ⟨a4, a5, a6, a7⟩⟩, rfl, hw0, hw1, hw2, hw3⟩

set_option maxRecDepth 100000 in
theorem inc_open {H : Type} {enc : TypeId × Value → H} {W : World} {r : Reach} {base : Nat} {v : Value} {d : DataW H} {p : List MemPlace}
    (hval : Value.okWide Try.prog W r base 35 v) (h : DataW.Trod enc Try.prog W 0 (fun _ => true) true 35 v d p) :
    ∃ c : IncV, v = c.val ∧ (Lit.int .i64 c.kind).wf = true ∧ (Lit.int .i64 c.osd).wf = true ∧ (Lit.int .i64 c.client).wf = true ∧ (Lit.int .i64 c.num).wf = true := by
  obtain ⟨cs, rfl, hs⟩ := okWide_struct Try.underlying35 hval
  obtain ⟨fuel, hf⟩ := h
  obtain ⟨c, hc, h0⟩ := inc_cells hf
  refine ⟨c, ?_, h0⟩
  unfold IncV.val
  simp only [Value.cells] at hc
  congr 1
  exact Array.ext' hc
end Go.Proofs.Ytbelemfdkbgjiaa.crush

namespace Go.Proofs.Ytbelemfdkbgjiaa.crush
open Go.ChangeShapes Go.WideShapes Go.ChangeAt Go.RowKit
open Go.Proofs.Ytbelemfdkbgjiaa.kit Go.Proofs.Ytbelemfdkbgjiaa.own Go.Proofs.Ytbelemfdkbgjiaa.lift
set_option linter.unusedVariables false

/-- The slice has room for what it holds. -/
def CapM (v : Value) (n : Nat) : Prop := ∃ a c, v = .slice a n c ∧ n ≤ c ∧ c ≤ 9223372036854775807
def numM {H : Type} : DataW H → Int
  | .lit (.int _ a) => a
  | _ => 0
theorem list1M {α : Type} : ∀ (l : List α), l.length = 1 → ∃ a, l = [a]
  | [a], _ => ⟨a, rfl⟩

set_option maxRecDepth 100000 in
theorem intsM_open {H : Type} {enc : TypeId × Value → H} {W : World} {r : Reach} {base : Nat} {v : Value} {d : DataW H} {p : List MemPlace}
    (hval : Value.okWide Try.prog W r base 22 v) (h : DataW.Trod enc Try.prog W 0 (fun _ => true) true 22 v d p) :
    ∃ ns : List Int, Sl ic 1 W v ns ∧ (∀ z ∈ ns, I64 z) ∧ CapM v ns.length := by
  obtain ⟨a0, len, cap, rfl⟩ := okWide_slice Try.underlying22 hval
  obtain ⟨fuel, hf⟩ := h
  rcases Deep.open_slice Try.underlying22 hf with ⟨hcs, hx⟩ | ⟨a, len', cap', m, n, D, Pl, hcs, _, hl, hcap, hm, hx, hi⟩
  · simp [Value.cells] at hcs
    obtain ⟨rfl, rfl, rfl⟩ := hcs
    exact ⟨[], Sl.nil _, by simp, ⟨_, _, rfl, Nat.le_refl _, by omega⟩⟩
  · simp [Value.cells] at hcs
    obtain ⟨rfl, rfl, rfl⟩ := hcs
    simp only [if_true] at hm
    subst hm
    have each : ∀ i, i < m → ∃ z : Int, numM (D i) = z ∧ I64 z ∧ W.cell? ((a.add (i * 1)).add 0) = some (.int .i64 z) := by
      intro i him
      obtain ⟨cs', hc, ht⟩ := hi i him
      rw [incCells.2.2.1] at hc
      obtain ⟨c0, rfl⟩ := list1M cs' (World.cells?_some hc).2.1
      obtain ⟨z0, hz0, h2, hw0⟩ := DataW.trod_int Try.underlying3 ht
      cases hz0
      obtain ⟨h2, -⟩ := Prod.mk.inj h2
      refine ⟨z0, by rw [h2]; rfl, ?_, ?_⟩
      · have h0 : -9223372036854775808 ≤ z0 ∧ z0 ≤ 9223372036854775807 := by simpa [Lit.wf, IntKind.min, IntKind.max, IntKind.signed, IntKind.bits] using hw0
        exact h0
      · exact (World.cells?_some hc).2.2 0 (by omega)
    have hlen : ((List.range len).map fun i => numM (D i)).length = len := by simp
    refine ⟨(List.range len).map fun i => numM (D i), ⟨by rw [hlen]; unfold maxLen at hcap; omega, some a, m, by rw [hlen], (fun h => by cases h), fun hp => ?_⟩, ?_, ⟨_, _, by rw [hlen], by rw [hlen]; omega, by unfold maxLen at hcap; omega⟩⟩
    · rw [hlen] at hp
      obtain ⟨b, off, spot⟩ := a
      obtain ⟨f0, _, _, c0⟩ := each 0 (by omega)
      obtain rfl : spot = none := by simpa [Addr.add] using World.cell?_spot c0
      refine ⟨b, off, rfl, ?_, ?_⟩
      · have := cell?_lt c0
        simpa [Addr.add] using this
      · intro j hj
        rw [hlen] at hj
        obtain ⟨f, hf, _, c0⟩ := each j (by omega)
        have e : ((List.range len).map fun i => numM (D i))[j]'(by rw [hlen]; exact hj) = f := by simp [hf]
        rw [e]
        rw [add_plain', add_plain'] at c0
        intro i u hu
        match i, hu with
        | 0, hu => simp [ic] at hu; subst hu; exact c0
        | i + 1, hu => simp [ic] at hu
    · intro f hf
      obtain ⟨i, hi', rfl⟩ := List.mem_map.1 hf
      obtain ⟨f, h1, h2, _⟩ := each i (by have := List.mem_range.1 hi'; omega)
      rw [h1]; exact h2

set_option maxRecDepth 100000 in
/-- Changes that came in. -/
theorem incs_open {H : Type} {enc : TypeId × Value → H} {W : World} {r : Reach} {base : Nat} {v : Value} {d : DataW H} {p : List MemPlace}
    (hval : Value.okWide Try.prog W r base 23 v) (h : DataW.Trod enc Try.prog W 0 (fun _ => true) true 23 v d p) :
    ∃ cs : List IncV, Sl IncV.cells 8 W v cs ∧ CapM v cs.length := by
  obtain ⟨a0, len, cap, rfl⟩ := okWide_slice Try.underlying23 hval
  obtain ⟨fuel, hf⟩ := h
  rcases Deep.open_slice Try.underlying23 hf with ⟨hcs, hx⟩ | ⟨a, len', cap', m, n, D, Pl, hcs, _, hl, hcap, hm, hx, hi⟩
  · simp [Value.cells] at hcs
    obtain ⟨rfl, rfl, rfl⟩ := hcs
    exact ⟨[], Sl.nil _, ⟨_, _, rfl, Nat.le_refl _, by omega⟩⟩
  · simp [Value.cells] at hcs
    obtain ⟨rfl, rfl, rfl⟩ := hcs
    simp only [if_true] at hm
    subst hm
    have each : ∀ i, i < m → ∃ c : IncV, ∀ j, j < 8 → W.cell? ((a.add (i * 8)).add j) = (IncV.cells c)[j]? := by
      intro i him
      obtain ⟨cs', hc, ht⟩ := hi i him
      rw [incCells.1] at hc
      obtain ⟨c, rfl, -⟩ := inc_cells ht
      exact ⟨c, (World.cells?_some hc).2.2⟩
    have hch : ∃ f : Nat → IncV, ∀ i, i < m → ∀ j, j < 8 → W.cell? ((a.add (i * 8)).add j) = (IncV.cells (f i))[j]? :=
      ⟨fun i => if h : i < m then (each i h).choose else ⟨0, 0, 0, 0, ⟨0, 0, 0, 0⟩⟩, fun i him => by simp only [him, dif_pos]; exact (each i him).choose_spec⟩
    obtain ⟨f, hf⟩ := hch
    have hlen : ((List.range len).map f).length = len := by simp
    refine ⟨(List.range len).map f, ⟨by rw [hlen]; unfold maxLen at hcap; omega, some a, m, by rw [hlen], (fun h => by cases h), fun hp => ?_⟩, ⟨_, _, by rw [hlen], by rw [hlen]; omega, by unfold maxLen at hcap; omega⟩⟩
    rw [hlen] at hp
    obtain ⟨b, off, spot⟩ := a
    have c0 := hf 0 (by omega) 0 (by omega)
    have c0' : W.cell? (((⟨b, off, spot⟩ : Addr).add (0 * 8)).add 0) = some (.int .i64 (f 0).kind) := c0
    obtain rfl : spot = none := by simpa [Addr.add] using World.cell?_spot c0'
    refine ⟨b, off, rfl, ?_, ?_⟩
    · have := cell?_lt c0'
      simpa [Addr.add] using this
    · intro j hj i u hu
      rw [hlen] at hj
      have e : ((List.range len).map f)[j]'(by rw [hlen]; exact hj) = f j := by simp
      rw [e] at hu
      have hi8 : i < 8 := (List.getElem?_eq_some_iff.1 hu).1
      have := hf j (by omega) i hi8
      rw [add_plain', add_plain', hu] at this
      exact this
end Go.Proofs.Ytbelemfdkbgjiaa.crush

namespace Go.Proofs.Ytbelemfdkbgjiaa.crush
open Go.ChangeShapes Go.WideShapes Go.ChangeAt Go.RowKit
open Go.Proofs.Ytbelemfdkbgjiaa.kit Go.Proofs.Ytbelemfdkbgjiaa.own Go.Proofs.Ytbelemfdkbgjiaa.lift
set_option linter.unusedVariables false

theorem sl_elem {α : Type} {enc : α → List Value} {k : Nat} {W : World} {a : Option Addr} {L cap : Nat} {xs : List α} (h : Sl enc k W (.slice a L cap) xs) (j : Nat) (hj : j < xs.length) :
    ∃ b off, a = some ⟨b, off, none⟩ ∧ b < W.heap.size ∧ W.rangeAt b (off + j * k) (enc xs[j]) := by
  obtain ⟨_, a', c', he, -, hcell⟩ := h
  cases he
  obtain ⟨b, off, rfl, hbl, hc⟩ := hcell (by omega)
  exact ⟨b, off, rfl, hbl, hc j hj⟩
theorem mapR_rows {W : World} {em : Int} {vh vo vp vb : Value} {m : MapV} (h : MapR W (.agg #[.int .i64 em, vh, vo, vp, vb]) m) : Sl ic 1 W vh m.hosts ∧ Sl oc 4 W vo m.osds ∧ Sl pc 4 W vp m.pools ∧ Sl bc 2 W vb m.bans := by
  obtain ⟨_, _, _, _, he, h1, h2, h3, h4⟩ := h
  simp at he
  obtain ⟨-, rfl, rfl, rfl, rfl⟩ := he
  exact ⟨h1, h2, h3, h4⟩
theorem neq_pool (x : PoolV) (w : World) : (binOp .neq 33 (.agg (pc x).toArray) (.agg (pc x).toArray)).run Try.prog w = .ok (.bool false) w := by
  obtain ⟨a, b, c, d⟩ := x
  simp only [pc]
  go_simp
theorem hasBan_mem {xs : List BanV} {y : BanV} (h : y ∈ xs) : hasBan xs y = true := List.any_eq_true.2 ⟨y, h, decide_eq_true rfl⟩
/-- Between two rounds: the map so far lies in the box M. -/
def GrowI (M : Nat) (w : World) (k : Nat) (W : World) : Prop := ∃ (m : MapV) (ah ao ap ab : Option Addr) (ch co cp cb : Nat), okMap m = true ∧ m.epoch = (k : Int) ∧ MBox W M 28 m.epoch (.slice ah m.hosts.length ch) (.slice ao m.osds.length co) (.slice ap m.pools.length cp) (.slice ab m.bans.length cb) ∧
  MapR W (.agg #[.int .i64 m.epoch, .slice ah m.hosts.length ch, .slice ao m.osds.length co, .slice ap m.pools.length cp, .slice ab m.bans.length cb]) m ∧ Below w.heap.size w W ∧ w.heap.size ≤ M
/-- What stands behind Apply: the old map, the change, the new map, each in its box. -/
structure GrowS (M C N : Nat) (w : World) (c : IncV) (m n : MapV) (em en : Int) (vh vo vp vb xh xo xp xb : Value) (W : World) : Prop where
  bel : Below w.heap.size w W
  hM : w.heap.size ≤ M
  hC : M < C
  hN : C < N
  mb : MBox W M 28 em vh vo vp vb
  mo : MapR W (.agg #[.int .i64 em, vh, vo, vp, vb]) m
  cb : IBx W C c
  nb : MBox W N 28 en xh xo xp xb
  no : MapR W (.agg #[.int .i64 en, xh, xo, xp, xb]) n
  own : MapO W (C + 1) xh xo xp xb n
theorem GrowS.keep {M C N : Nat} {w : World} {c : IncV} {m n : MapV} {em en : Int} {vh vo vp vb xh xo xp xb : Value} {W W' : World} (h : GrowS M C N w c m n em en vh vo vp vb xh xo xp xb W) (hb : Below W.heap.size W W') : GrowS M C N w c m n em en vh vo vp vb xh xo xp xb W' :=
  ⟨h.bel.trans (hb.mono h.bel.size), h.hM, h.hC, h.hN, h.mb.keep hb, h.mo.keep hb, h.cb.keep hb, h.nb.keep hb, h.no.keep hb, h.own.below hb⟩
theorem growS_new {M C : Nat} {w W2 w3 W4 : World} {c : IncV} {m n : MapV} {em : Int} {vh vo vp vb xh xo xp xb : Value} (hB : Below w.heap.size w W2) (hM : w.heap.size ≤ M) (hC : M < C) (hm : MBox W2 M 28 em vh vo vp vb) (hr : MapR W2 (.agg #[.int .i64 em, vh, vo, vp, vb]) m) (hx : IBx W2 C c)
    (ho : MapO w3 W2.heap.size xh xo xp xb n) (hb : Below W2.heap.size W2 w3) (hb4 : Below w3.heap.size w3 W4) (hn : MBox W4 w3.heap.size 28 n.epoch xh xo xp xb) : GrowS M C w3.heap.size w c m n em n.epoch vh vo vp vb xh xo xp xb W4 := by
  have hC2 : C < W2.heap.size := (Array.getElem?_eq_some_iff.1 hx).1
  have hb24 : Below W2.heap.size W2 W4 := hb.trans (hb4.mono hb.size)
  exact ⟨hB.trans (hb24.mono hB.size), hM, hC, Nat.lt_of_lt_of_le hC2 hb.size, hm.keep hb24, hr.keep hb24, hx.keep hb24, hn, (ho.below hb4).read, (ho.below hb4).mono hC2⟩

theorem okMap_lens {m : MapV} (h : okMap m = true) : m.osds.length ≤ 8 ∧ m.pools.length ≤ 2 ∧ m.bans.length ≤ 64 := by
  have h0 := (okMap_iff m).1 h
  have h1 := okHosts_len h0.2.1
  have h2 := ((osds_iff _ _ _).1 h0.2.2.1).1
  have h3 : m.pools.length ≤ 2 := by
    have := h0.2.2.2.1
    unfold okPools at this
    rw [Bool.and_eq_true, decide_eq_true_eq] at this
    exact this.1
  have h4 := ((okBans_iff _).1 h0.2.2.2.2).2.2
  exact ⟨by omega, h3, h4⟩
theorem growI_next {M C N k : Nat} {w W : World} {c : IncV} {m n : MapV} {em : Int} {vh vo vp vb : Value} {xh xo xp xb : Option Addr} {lh ch lo co lp cp lb cb : Nat} (h : GrowS M C N w c m n em ((k : Int) + 1) vh vo vp vb (.slice xh lh ch) (.slice xo lo co) (.slice xp lp cp) (.slice xb lb cb) W) (hk : okMap n = true) (he : n.epoch = (k : Int) + 1)
    (e1 : n.hosts.length = lh) (e2 : n.osds.length = lo) (e3 : n.pools.length = lp) (e4 : n.bans.length = lb) :
    GrowI M w (k + 1) (W.setCells M 0 [.int .i64 ((k : Int) + 1), .slice xh lh ch, .slice xo lo co, .slice xp lp cp, .slice xb lb cb]) := by
  subst e1 e2 e3 e4
  have h1 := (h.own.far (N := M) (Nat.lt_succ_of_lt h.hC) 0 [.int .i64 ((k : Int) + 1), .slice xh n.hosts.length ch, .slice xo n.osds.length co, .slice xp n.pools.length cp, .slice xb n.bans.length cb]).read
  have h2 := h.mb.put ((k : Int) + 1) (.slice xh n.hosts.length ch) (.slice xo n.osds.length co) (.slice xp n.pools.length cp) (.slice xb n.bans.length cb)
  have h3 := Below.setCells h.bel (b := M) h.hM 0 [.int .i64 ((k : Int) + 1), .slice xh n.hosts.length ch, .slice xo n.osds.length co, .slice xp n.pools.length cp, .slice xb n.bans.length cb]
  refine ⟨n, xh, xo, xp, xb, ch, co, cp, cb, hk, by rw [he]; push_cast; rfl, ?_, h1, h3, h.hM⟩
  rw [he]
  exact h2

set_option maxHeartbeats 64000000 in
set_option maxRecDepth 100000 in
theorem walkGrow (v0 v1 : Value) (hs : List Int) (cs : List IncV) (w : World) (h0 : Sl ic 1 w v0 hs) (h1 : Sl IncV.cells 8 w v1 cs) (hcap : CapM v1 cs.length) :
    Calls Try.prog 3 #[v0, v1] w fun e w' => e = .returned (.bool true) ∧ Below w.heap.size w w' := by
  obtain ⟨m0, hm0⟩ : ∃ m0, min cs.length 300 = m0 := ⟨_, rfl⟩
  have h300 : m0 ≤ 300 := by omega
  have HFi := Lib.hid (First_any v0 hs w h0)
  have HHo := Lib.hid (fun u (hu : Below w.heap.size w u) => rHosts_any v0 hs u (h0.keep hu))
  have HFo := Lib.hid (fun (e : okHosts hs = true) => first_ok e)
  have HFe : Hid (okHosts hs = true → (firstE hs).epoch = 0) := Lib.hid (fun e => by unfold firstE; rw [if_pos e])
  obtain ⟨a0, c0, rfl⟩ := h0.slice
  generalize firstE hs = mf at HFi HFo HFe
  obtain ⟨q, hq⟩ : ∃ q, okHosts hs = q := ⟨_, rfl⟩
  rw [hq] at HHo HFo HFe
  generalize hs.length = Lh at HFi HHo ⊢
  obtain ⟨a1, c1, rfl, hc1, hc2⟩ := hcap
  have HL := Lib.hid h1
  have hl1 := h1.1
  have HLt : Hid (∀ k, k < m0 → ∃ b off, a1 = some ⟨b, off, none⟩ ∧ b < w.heap.size ∧ ∃ c : IncV, ∀ j, j < 8 → w.cell? ⟨b, off + k * 8 + j, none⟩ = (IncV.cells c)[j]?) := Lib.hid (fun k hk => by
    obtain ⟨_, a', c', he, -, hcell⟩ := h1
    cases he
    obtain ⟨b, off, rfl, hbl, hc⟩ := hcell (by omega)
    refine ⟨b, off, rfl, hbl, cs[k]'(by omega), fun j hj => ?_⟩
    have : j < (IncV.cells (cs[k]'(by omega))).length := hj
    rw [List.getElem?_eq_getElem this]
    exact hc k (by omega) j _ (List.getElem?_eq_getElem this))
  have HNil : Hid (a1 = none → m0 = 0 ∧ cs.length = 0 ∧ c1 = 0) := Lib.hid (fun e => by
    subst e
    obtain ⟨e1, -, e2⟩ := h1.empty_of_nil
    subst e1
    exact ⟨by rw [← hm0]; rfl, rfl, e2⟩)
  generalize cs.length = L at hm0 hc1 hl1 HNil HL ⊢
  clear h0 h1 hq HL
  have hmi : min (L : Int) 300 = m0 := by omega
  have hm00 : (0 : Int) ≤ m0 := by omega
  have hmc : m0 ≤ c1 := by omega
  go_enter Try.func3, Try.ntmps3
  go_upto_region 2 with (go_at_call 4; refine HFi.out.mono ?_; rintro e w1 ⟨vh, vo, vp, vb, rfl, ho, hb⟩; obtain ⟨ah, ch, rfl⟩ := ho.1.slice; obtain ⟨ao, co, rfl⟩ := ho.2.1.slice; obtain ⟨ap, cp, rfl⟩ := ho.2.2.1.slice; obtain ⟨ab, cb, rfl⟩ := ho.2.2.2.slice; have HO1 := Lib.hid ho; have HB1 := Lib.hid hb; clear ho hb)
  have HBa := Lib.hid (below_new w1 (.cells #[.int .i64 mf.epoch, .slice ah mf.hosts.length ch, .slice ao mf.osds.length co, .slice ap mf.pools.length cp, .slice ab mf.bans.length cb] 28))
  have HMa := Lib.hid (mbox_new w1 28 mf.epoch (.slice ah mf.hosts.length ch) (.slice ao mf.osds.length co) (.slice ap mf.pools.length cp) (.slice ab mf.bans.length cb))
  generalize (w1.alloc (.cells #[.int .i64 mf.epoch, .slice ah mf.hosts.length ch, .slice ao mf.osds.length co, .slice ap mf.pools.length cp, .slice ab mf.bans.length cb] 28)) = W1 at HBa HMa ⊢
  obtain ⟨M, hM⟩ : ∃ M, w1.heap.size = M := ⟨_, rfl⟩
  have HMs : Hid (w.heap.size ≤ M) := Lib.hid (by rw [← hM]; exact HB1.out.size)
  rw [hM] at HMa ⊢
  have HB2 := Lib.hid (HB1.out.trans (HBa.out.mono HB1.out.size))
  clear hM HFi
  cases q with
  | false =>
    go_wp2_with (first
      | (go_at_call 5; refine (HHo.out _ HB2.out).mono ?_; rintro e w2 ⟨rfl, rfl⟩)
      | (go_at_call 6; refine (awake_any _).mono ?_; rintro e w7 ⟨rfl, hb⟩; have HB7 := Lib.hid (HB2.out.trans (hb.mono HB2.out.size)); clear hb))
    go_ret
    exact ⟨rfl, HB7.out⟩
  | true =>
    have HOk := Lib.hid (HFo.out rfl)
    have HEp := Lib.hid (HFe.out rfl)
    clear HFo HFe
    cases a1 with
    | none =>
      obtain ⟨e1, e2, e3⟩ := HNil.out rfl
      subst e1 e2 e3
      go_upto_region 5 with (go_at_call 5; refine (HHo.out _ HB2.out).mono ?_; rintro e w2 ⟨rfl, rfl⟩)
      go_wp2
      go_loopw [27] (fun vi wr => vi = .int .i64 0 ∧ Below w.heap.size w wr) (fun _ _ => 0)
      case atStart => exact ⟨rfl, HB2.out⟩
      case round =>
        obtain ⟨rfl, hbw⟩ := hrel
        have HBw := Lib.hid hbw
        clear hbw
        go_wp2_with (go_at_call 6; refine (awake_any _).mono ?_; rintro e w7 ⟨rfl, hb⟩; have HB7 := Lib.hid (HBw.out.trans (hb.mono HBw.out.size)); clear hb)
        go_ret
        exact ⟨rfl, HB7.out⟩
    | some a1 =>
      go_upto_region 5 with (go_at_call 5; refine (HHo.out _ HB2.out).mono ?_; rintro e w2 ⟨rfl, rfl⟩)
      have HG0 : Hid (GrowI M w 0 w2) := Lib.hid ⟨mf, _, _, _, _, _, _, _, _, HOk.out, HEp.out, HMa.out, HO1.out.read.keep HBa.out, HB2.out, HMs.out⟩
      clear HMa HBa HO1 HB1 HB2 HOk HEp HNil HHo
      go_wp2
      go_loopw [27] (fun vi wr => ∃ k : Nat, k ≤ m0 ∧ vi = .int .i64 k ∧ GrowI M w k wr) (fun i _ => m0 - (intOf i).toNat)
      case atStart => exact ⟨0, by omega, rfl, HG0.out⟩
      case round =>
        obtain ⟨k, hk, rfl, hg⟩ := hrel
        obtain ⟨m, xah, xao, xap, xab, xch, xco, xcp, xcb, hmk, hep, hmb, hmr, hbw, -⟩ := hg
        have HBw := Lib.hid hbw
        by_cases hlt : k < m0
        · have hlt' : (k : Int) < m0 := by omega
          have hk0 : (0 : Int) ≤ k := by omega
          have hkt : k < 300 := by omega
          obtain ⟨b, off, he, hbl, c, hc⟩ := HLt.out k hlt
          cases he
          have hme : m.epoch < 4096 := by omega
          obtain ⟨hsm, hne, hI, hbn⟩ := okMap_small hmk
          have HAp := Lib.hid (fun u v (h : MapR u v m) => Apply_all v c m u h hsm hne hI hbn)
          obtain ⟨hnk, hgr⟩ := grow_all c hmk hme
          have HTw := Lib.hid (chE_twice c hmk hme)
          obtain ⟨nn, hnn⟩ : ∃ nn, appE c m = nn := ⟨_, rfl⟩
          rw [hnn] at HAp hnk hgr HTw
          obtain ⟨nsm, nne, nI, nbn⟩ := okMap_small hnk
          have HFt := Lib.hid (fun u v (h : MapR u v nn) => Fit_all v nn u h)
          rw [hnk] at HFt
          have HBd := Lib.hid (fun u v y (h : MapR u v nn) => Banned_any v nn y u h)
          have HCg := Lib.hid (fun u v (h : MapR u v nn) => Changes_all v c nn u h nsm nne nbn)
          have HNk := Lib.hid hnk
          obtain ⟨g1, g2, g3, g4, ⟨ps, g5⟩, g6, g7⟩ := hgr
          have HG4 := Lib.hid g4; have HG5 := Lib.hid g5; have HG6 := Lib.hid g6
          have g5l : m.pools.length ≤ nn.pools.length := by rw [g5, List.length_append]; omega
          rw [hep] at hmb hmr g1
          have HG1 := Lib.hid g1; have HG3 := Lib.hid g3; have HG5l := Lib.hid g5l; have HG7 := Lib.hid g7
          obtain ⟨q1, q2, q3⟩ := okMap_lens hmk
          clear hmk hnk hsm hne hI hbn nsm nne nI nbn hnn hme g1 g2 g3 g4 g5 g6 g7 g5l hep
          obtain ⟨kk, o, cl, n, ⟨a, bb, p, d⟩⟩ := c
          have d0 : wr.cell? ⟨b, off + k * 8, none⟩ = some (.int .i64 kk) := (HBw.out.cell (p := ⟨b, off + k * 8, none⟩) hbl).trans (hc 0 (by omega))
          have d1 : wr.cell? ⟨b, off + k * 8 + 1, none⟩ = some (.int .i64 o) := (HBw.out.cell (p := ⟨b, off + k * 8 + 1, none⟩) hbl).trans (hc 1 (by omega))
          have d2 : wr.cell? ⟨b, off + k * 8 + 2, none⟩ = some (.int .i64 cl) := (HBw.out.cell (p := ⟨b, off + k * 8 + 2, none⟩) hbl).trans (hc 2 (by omega))
          have d3 : wr.cell? ⟨b, off + k * 8 + 3, none⟩ = some (.int .i64 n) := (HBw.out.cell (p := ⟨b, off + k * 8 + 3, none⟩) hbl).trans (hc 3 (by omega))
          have d4 : wr.cell? ⟨b, off + k * 8 + 4, none⟩ = some (.int .i64 a) := (HBw.out.cell (p := ⟨b, off + k * 8 + 4, none⟩) hbl).trans (hc 4 (by omega))
          have d5 : wr.cell? ⟨b, off + k * 8 + 5, none⟩ = some (.int .i64 bb) := (HBw.out.cell (p := ⟨b, off + k * 8 + 5, none⟩) hbl).trans (hc 5 (by omega))
          have d6 : wr.cell? ⟨b, off + k * 8 + 6, none⟩ = some (.int .i64 p) := (HBw.out.cell (p := ⟨b, off + k * 8 + 6, none⟩) hbl).trans (hc 6 (by omega))
          have d7 : wr.cell? ⟨b, off + k * 8 + 7, none⟩ = some (.int .i64 d) := (HBw.out.cell (p := ⟨b, off + k * 8 + 7, none⟩) hbl).trans (hc 7 (by omega))
          unfold IncV.val at HAp HCg
          simp only at HAp HCg
          have hb2 := below_new wr (.cells #[.int .i64 kk, .int .i64 o, .int .i64 cl, .int .i64 n, .int .i64 a, .int .i64 bb, .int .i64 p, .int .i64 d] 35)
          have hx2 := ibx_new wr ⟨kk, o, cl, n, ⟨a, bb, p, d⟩⟩
          simp only at hx2
          have HMb := Lib.hid (hmb.keep hb2); have HMr := Lib.hid (hmr.keep hb2); have HX := Lib.hid hx2; have HBx := Lib.hid hb2
          have HMl := Lib.hid hmb.lt
          clear hmb hmr hb2 hx2 hc hbl hbw
          go_upto_region 7 with fail
          clear d0 d1 d2 d3 d4 d5 d6 d7
          generalize (wr.alloc (.cells #[.int .i64 kk, .int .i64 o, .int .i64 cl, .int .i64 n, .int .i64 a, .int .i64 bb, .int .i64 p, .int .i64 d] 35)) = W2 at HMb HMr HX HBx ⊢
          obtain ⟨C, hC⟩ : ∃ C, wr.heap.size = C := ⟨_, rfl⟩
          have HWC : Hid (w.heap.size ≤ C) := Lib.hid (by rw [← hC]; exact HBw.out.size)
          have HB2 : Hid (Below w.heap.size w W2) := Lib.hid (HBw.out.trans (HBx.out.mono HBw.out.size))
          rw [hC] at HX HMl ⊢
          clear hC HBx
          obtain ⟨c0, c1', c2', c3, c4, c5, c6, c7⟩ := HX.out.cells
          obtain ⟨l0, l1, l2, l3, l4⟩ := HMb.out.cells
          simp only at c0 c1' c2' c3 c4 c5 c6 c7
          go_upto_region 8 with (go_at_call 7; refine (HAp.out _ _ HMr.out).mono ?_; rintro e w3 ⟨yh, yo, yp, yb, rfl, ho, hb⟩; have HO3 := Lib.hid ho; have HB3 := Lib.hid hb; obtain ⟨yah, ych, rfl⟩ := ho.1.slice; obtain ⟨yao, yco, rfl⟩ := ho.2.1.slice; obtain ⟨yap, ycp, rfl⟩ := ho.2.2.1.slice; obtain ⟨yab, ycb, rfl⟩ := ho.2.2.2.slice; clear ho hb)
          have hb4 := below_new w3 (.cells #[.int .i64 nn.epoch, .slice yah nn.hosts.length ych, .slice yao nn.osds.length yco, .slice yap nn.pools.length ycp, .slice yab nn.bans.length ycb] 28)
          have hn4 := mbox_new w3 28 nn.epoch (.slice yah nn.hosts.length ych) (.slice yao nn.osds.length yco) (.slice yap nn.pools.length ycp) (.slice yab nn.bans.length ycb)
          generalize (w3.alloc (.cells #[.int .i64 nn.epoch, .slice yah nn.hosts.length ych, .slice yao nn.osds.length yco, .slice yap nn.pools.length ycp, .slice yab nn.bans.length ycb] 28)) = W4 at hb4 hn4 ⊢
          have HS := Lib.hid (growS_new HB2.out HMs.out HMl.out HMb.out HMr.out HX.out HO3.out HB3.out hb4 hn4)
          clear hb4 hn4 HO3 HB3 HB2 HMb HMr HX c0 c1' c2' c3 c4 c5 c6 c7 l0 l1 l2 l3 l4
          generalize w3.heap.size = N at HS ⊢
          obtain ⟨Lg, hLg⟩ : ∃ L, nn.hosts.length = L := ⟨_, rfl⟩
          obtain ⟨Lo, hLo⟩ : ∃ L, m.osds.length = L := ⟨_, rfl⟩
          obtain ⟨Lp, hLp⟩ : ∃ L, m.pools.length = L := ⟨_, rfl⟩
          obtain ⟨Lb, hLb⟩ : ∃ L, m.bans.length = L := ⟨_, rfl⟩
          obtain ⟨Lq, hLq⟩ : ∃ L, nn.pools.length = L := ⟨_, rfl⟩
          obtain ⟨Lc, hLc⟩ : ∃ L, nn.bans.length = L := ⟨_, rfl⟩
          have hlp : ¬ Lq < Lp := by have := HG5l.out; omega
          have hlb : ¬ Lc < Lb := by have := HG7.out; omega
          rw [hLo] at q1; rw [hLp] at q2; rw [hLb] at q3
          rw [HG1.out, HG3.out, hLg, hLo, hLp, hLb, hLq, hLc] at HS
          rw [HG1.out, HG3.out, hLg, hLo, hLq, hLc]
          have HLg := Lib.hid hLg
          have HLo := Lib.hid hLo; have HLp := Lib.hid hLp; have HLb := Lib.hid hLb; have HLq := Lib.hid hLq; have HLc := Lib.hid hLc
          clear hLo hLp hLb hLq hLc hLg
          obtain ⟨n0, n1, n2, n3, n4⟩ := HS.out.nb.cells
          go_upto_region 10 with (go_at_call 8; refine (HFt.out _ _ HS.out.no).mono ?_; rintro e w5 ⟨rfl, hb⟩; have HS5 := Lib.hid (HS.out.keep hb); clear hb n0 n1 n2 n3 n4; obtain ⟨n0, n1, n2, n3, n4⟩ := HS5.out.nb.cells; obtain ⟨l0, l1, l2, l3, l4⟩ := HS5.out.mb.cells)
          clear HS n0 n1 n2 n3 n4
          have HS := HS5
          clear HS5
          go_wp2
          clear l0 l1 l2 l3 l4
          have mixed : Try.prog.follows .mixedOrders = true := by kernel_rfl
          go_loopw [75] (fun vi wr2 => ∃ j : Nat, j ≤ Lo ∧ vi = .int .i64 j ∧ Below w5.heap.size w5 wr2) (fun i _ => Lo - (intOf i).toNat)
          case atStart => exact ⟨0, by omega, rfl, Below.refl _ _⟩
          case round =>
            obtain ⟨j, hj, rfl, hb⟩ := hrel
            have HBr := Lib.hid hb
            by_cases hjl : j < Lo
            · have hjl' : (j : Int) < Lo := by omega
              have hj0 : (0 : Int) ≤ j := by omega
              have hj1 : j < m.osds.length := by rw [HLo.out]; exact hjl
              have hj2 : j < nn.osds.length := by rw [HG3.out]; exact hj1
              obtain ⟨b1, o1, he1, hbl1, hr1⟩ := sl_elem (mapR_rows (HS.out.keep hb).mo).2.1 j hj1
              obtain ⟨b2, o2, he2, hbl2, hr2⟩ := sl_elem (mapR_rows (HS.out.keep hb).no).2.1 j hj2
              cases he1; cases he2
              obtain ⟨g1, g2⟩ := HG4.out j hj1 hj2
              generalize m.osds[j] = x at hr1 g1 g2
              generalize nn.osds[j] = y at hr2 g1 g2
              obtain ⟨xb, xu, xw, xt⟩ := x
              obtain ⟨yb, yu, yw, yt⟩ := y
              simp only at g1 g2
              have g1' : ¬ yb < xb := by omega
              have g2' : ¬ yt < xt := by omega
              have hb6 := below_new wr (.cells #[.int .i64 xb, .bool xu, .int .i64 xw, .int .i64 xt] 39)
              have hx6 := alloc_at wr (.cells #[.int .i64 xb, .bool xu, .int .i64 xw, .int .i64 xt] 39)
              have e0 : wr.cell? ⟨b1, o1 + j * 4, none⟩ = some (.int .i64 xb) := hr1 0 _ rfl
              have e1 : wr.cell? ⟨b1, o1 + j * 4 + 1, none⟩ = some (.bool xu) := hr1 1 _ rfl
              have e2 : wr.cell? ⟨b1, o1 + j * 4 + 2, none⟩ = some (.int .i64 xw) := hr1 2 _ rfl
              have e3 : wr.cell? ⟨b1, o1 + j * 4 + 3, none⟩ = some (.int .i64 xt) := hr1 3 _ rfl
              have HY := Lib.hid (range_keep hr2 hbl2 hb6)
              have HX6 := Lib.hid hx6; have HB6 := Lib.hid (hb.trans (hb6.mono hb.size))
              clear hr1 hr2 hbl1 hbl2 hb6 hx6 hb g1 g2 hj1 hj2
              go_upto_region 13 with fail
              generalize (wr.alloc (.cells #[.int .i64 xb, .bool xu, .int .i64 xw, .int .i64 xt] 39)) = W6 at HY HX6 HB6 ⊢
              generalize wr.heap.size = X6 at HX6 ⊢
              clear e0 e1 e2 e3
              obtain ⟨-, -, n2, -, -⟩ := (HS.out.keep HB6.out).nb.cells
              have y0 : W6.cell? ⟨b2, o2 + j * 4, none⟩ = some (.int .i64 yb) := HY.out 0 _ rfl
              have y3 : W6.cell? ⟨b2, o2 + j * 4 + 3, none⟩ = some (.int .i64 yt) := HY.out 3 _ rfl
              have s0 : W6.cell? ⟨X6, 0, none⟩ = some (.int .i64 xb) := by simp [World.cell?, HX6.out]
              have s3 : W6.cell? ⟨X6, 3, none⟩ = some (.int .i64 xt) := by simp [World.cell?, HX6.out]
              go_quiet (fail)
              have HB7 := Lib.hid (HB6.out.drewN' nq)
              clear n2 y0 y3 s0 s3 g1' g2'
              go_wp2
              go_roundw
              case rel => exact ⟨j + 1, by omega, by go_num, HB7.out⟩
              case measure => simp [intOf]; omega
            · have hjl' : ¬ ((j : Int) < Lo) := by omega
              have HS2 := Lib.hid (HS.out.keep hb)
              clear hb HBr HS
              obtain ⟨W7, rfl⟩ : ∃ W7, W7 = wr := ⟨_, rfl⟩
              obtain ⟨l0, l1, l2, l3, l4⟩ := HS2.out.mb.cells
              go_wp2
              clear l0 l1 l2 l3 l4
              go_loopw [104] (fun vi wr2 => ∃ j : Nat, j ≤ Lp ∧ vi = .int .i64 j ∧ Below W7.heap.size W7 wr2) (fun i _ => Lp - (intOf i).toNat)
              case atStart => exact ⟨0, by omega, rfl, Below.refl _ _⟩
              case round =>
                obtain ⟨i, hi, rfl, hb⟩ := hrel
                have HBr := Lib.hid hb
                by_cases hil : i < Lp
                · have hil' : (i : Int) < Lp := by omega
                  have hi0 : (0 : Int) ≤ i := by omega
                  have hi1 : i < m.pools.length := by rw [HLp.out]; exact hil
                  have hiq : i < Lq := by omega
                  have hiq' : (i : Int) < Lq := by omega
                  have hi2 : i < nn.pools.length := by rw [HLq.out]; exact hiq
                  obtain ⟨b1, o1, he1, hbl1, hr1⟩ := sl_elem (mapR_rows (HS2.out.keep hb).mo).2.2.1 i hi1
                  obtain ⟨b2, o2, he2, hbl2, hr2⟩ := sl_elem (mapR_rows (HS2.out.keep hb).no).2.2.1 i hi2
                  cases he1; cases he2
                  have hsame : nn.pools[i] = m.pools[i] := by
                    have h1 := HG5.out
                    have h2 : nn.pools[i]? = m.pools[i]? := by rw [h1, List.getElem?_append_left hi1]
                    rw [List.getElem?_eq_getElem hi2, List.getElem?_eq_getElem hi1] at h2
                    exact Option.some.inj h2
                  rw [hsame] at hr2
                  generalize m.pools[i] = x at hr1 hr2
                  have hQ := fun u => neq_pool x u
                  obtain ⟨xa, xb, xc, xd⟩ := x
                  simp only [pc] at hQ
                  have hb6 := below_new wr (.cells #[.int .i64 xa, .int .i64 xb, .int .i64 xc, .int .i64 xd] 33)
                  have hx6 := alloc_at wr (.cells #[.int .i64 xa, .int .i64 xb, .int .i64 xc, .int .i64 xd] 33)
                  have e0 : wr.cell? ⟨b1, o1 + i * 4, none⟩ = some (.int .i64 xa) := hr1 0 _ rfl
                  have e1 : wr.cell? ⟨b1, o1 + i * 4 + 1, none⟩ = some (.int .i64 xb) := hr1 1 _ rfl
                  have e2 : wr.cell? ⟨b1, o1 + i * 4 + 2, none⟩ = some (.int .i64 xc) := hr1 2 _ rfl
                  have e3 : wr.cell? ⟨b1, o1 + i * 4 + 3, none⟩ = some (.int .i64 xd) := hr1 3 _ rfl
                  have HY := Lib.hid (range_keep hr2 hbl2 hb6)
                  have HX6 := Lib.hid hx6; have HB6 := Lib.hid (hb.trans (hb6.mono hb.size)); have HQ := Lib.hid hQ
                  clear hr1 hr2 hbl1 hbl2 hb6 hx6 hb hi1 hi2 hsame hQ
                  go_upto_region 19 with fail
                  generalize (wr.alloc (.cells #[.int .i64 xa, .int .i64 xb, .int .i64 xc, .int .i64 xd] 33)) = W6 at HY HX6 HB6 ⊢
                  generalize wr.heap.size = X6 at HX6 ⊢
                  clear e0 e1 e2 e3
                  obtain ⟨-, -, -, n3, -⟩ := (HS2.out.keep HB6.out).nb.cells
                  have y0 : W6.cell? ⟨b2, o2 + i * 4, none⟩ = some (.int .i64 xa) := HY.out 0 _ rfl
                  have y1 : W6.cell? ⟨b2, o2 + i * 4 + 1, none⟩ = some (.int .i64 xb) := HY.out 1 _ rfl
                  have y2 : W6.cell? ⟨b2, o2 + i * 4 + 2, none⟩ = some (.int .i64 xc) := HY.out 2 _ rfl
                  have y3 : W6.cell? ⟨b2, o2 + i * 4 + 3, none⟩ = some (.int .i64 xd) := HY.out 3 _ rfl
                  have s0 : W6.cell? ⟨X6, 0, none⟩ = some (.int .i64 xa) := by simp [World.cell?, HX6.out]
                  have s1 : W6.cell? ⟨X6, 1, none⟩ = some (.int .i64 xb) := by simp [World.cell?, HX6.out]
                  have s2 : W6.cell? ⟨X6, 2, none⟩ = some (.int .i64 xc) := by simp [World.cell?, HX6.out]
                  have s3 : W6.cell? ⟨X6, 3, none⟩ = some (.int .i64 xd) := by simp [World.cell?, HX6.out]
                  have hQ := HQ.out
                  go_quiet (fail)
                  have HB7 := Lib.hid (HB6.out.drewN' nq)
                  clear n3 y0 y1 y2 y3 s0 s1 s2 s3 hQ
                  go_wp2
                  go_roundw
                  case rel => exact ⟨i + 1, by omega, by go_num, HB7.out⟩
                  case measure => simp [intOf]; omega
                · have hil' : ¬ ((i : Int) < Lp) := by omega
                  have HS3 := Lib.hid (HS2.out.keep hb)
                  clear hb HBr HS2
                  obtain ⟨W8, rfl⟩ : ∃ W8, W8 = wr := ⟨_, rfl⟩
                  obtain ⟨l0, l1, l2, l3, l4⟩ := HS3.out.mb.cells
                  go_wp2
                  clear l0 l1 l2 l3 l4
                  go_loopw [120] (fun vi wr2 => ∃ j : Nat, j ≤ Lb ∧ vi = .int .i64 j ∧ Below W8.heap.size W8 wr2) (fun i _ => Lb - (intOf i).toNat)
                  case atStart => exact ⟨0, by omega, rfl, Below.refl _ _⟩
                  case round =>
                    obtain ⟨e, hei, rfl, hb⟩ := hrel
                    have HBr := Lib.hid hb
                    by_cases hel : e < Lb
                    · have hel' : (e : Int) < Lb := by omega
                      have he0 : (0 : Int) ≤ e := by omega
                      have he1 : e < m.bans.length := by rw [HLb.out]; exact hel
                      obtain ⟨b1, o1, hea, hbl1, hr1⟩ := sl_elem (mapR_rows (HS3.out.keep hb).mo).2.2.2 e he1
                      cases hea
                      have HHas := Lib.hid (hasBan_mem (HG6.out _ (List.getElem_mem he1)))
                      generalize m.bans[e] = x at hr1 HHas
                      have HBx := Lib.hid (fun u v (h : MapR u v nn) => HBd.out u v x h)
                      rw [HHas.out] at HBx
                      obtain ⟨xc, xn⟩ := x
                      simp only [bc] at HBx
                      have hb6 := below_new wr (.cells #[.int .i64 xc, .int .i64 xn] 41)
                      have hx6 := alloc_at wr (.cells #[.int .i64 xc, .int .i64 xn] 41)
                      have e0 : wr.cell? ⟨b1, o1 + e * 2, none⟩ = some (.int .i64 xc) := hr1 0 _ rfl
                      have e1 : wr.cell? ⟨b1, o1 + e * 2 + 1, none⟩ = some (.int .i64 xn) := hr1 1 _ rfl
                      have HX6 := Lib.hid hx6; have HB6 := Lib.hid (hb.trans (hb6.mono hb.size))
                      clear hr1 hbl1 hb6 hx6 hb he1
                      go_upto_region 25 with fail
                      generalize (wr.alloc (.cells #[.int .i64 xc, .int .i64 xn] 41)) = W6 at HX6 HB6 ⊢
                      generalize wr.heap.size = X6 at HX6 ⊢
                      clear e0 e1
                      have HS6 := Lib.hid (HS3.out.keep HB6.out)
                      obtain ⟨n0, n1, n2, n3, n4⟩ := HS6.out.nb.cells
                      have s0 : W6.cell? ⟨X6, 0, none⟩ = some (.int .i64 xc) := by simp [World.cell?, HX6.out]
                      have s1 : W6.cell? ⟨X6, 1, none⟩ = some (.int .i64 xn) := by simp [World.cell?, HX6.out]
                      go_wp2_with (go_at_call 9; refine (HBx.out _ _ HS6.out.no).mono ?_; rintro e w9 ⟨rfl, hb⟩; have HB9 := Lib.hid (HB6.out.trans (hb.mono HB6.out.size)); clear hb n0 n1 n2 n3 n4 s0 s1)
                      go_roundw
                      case rel => exact ⟨e + 1, by omega, by go_num, HB9.out⟩
                      case measure => simp [intOf]; omega
                    · have hel' : ¬ ((e : Int) < Lb) := by omega
                      have HS4 := Lib.hid (HS3.out.keep hb)
                      clear hb HBr HS3
                      obtain ⟨W9, rfl⟩ : ∃ W9, W9 = wr := ⟨_, rfl⟩
                      obtain ⟨n0, n1, n2, n3, n4⟩ := HS4.out.nb.cells
                      obtain ⟨c0, c1', c2', c3, c4, c5, c6, c7⟩ := HS4.out.cb.cells
                      simp only at c0 c1' c2' c3 c4 c5 c6 c7
                      obtain ⟨r, hr⟩ : ∃ r, (chE ⟨kk, o, cl, n, ⟨a, bb, p, d⟩⟩ nn).2 = r := ⟨_, rfl⟩
                      rw [hr] at HTw HCg
                      (try simp only at HTw)
                      have hcs : r = false ∨ (r = true ∧ kk = 5) ∨ (r = true ∧ ¬ kk = 5 ∧ kk = 4) := by
                        cases r with
                        | false => exact .inl rfl
                        | true =>
                          by_cases h5 : kk = 5
                          · exact .inr (.inl ⟨rfl, h5⟩)
                          · by_cases h4 : kk = 4
                            · exact .inr (.inr ⟨rfl, h5, h4⟩)
                            · exact absurd (HTw.out h4 h5) (by decide)
                      clear hr
                      have hcs' : r = false ∨ (r = true ∧ (True → (kk != 5) = false)) ∨ (r = true ∧ (True → (kk != 5) = true) ∧ (True → (kk != 4) = false)) := by
                        rcases hcs with h | ⟨h, h2⟩ | ⟨h, h2, h3⟩
                        · exact .inl h
                        · exact .inr (.inl ⟨h, fun _ => by simp [h2]⟩)
                        · exact .inr (.inr ⟨h, fun _ => by simp [h2], fun _ => by simp [h3]⟩)
                      clear hcs
                      rcases hcs' with rfl | ⟨rfl, k5⟩ | ⟨rfl, k5, k4⟩
                      all_goals
                        go_upto_region 30 with (go_at_call 10; refine (HCg.out _ _ HS4.out.no).mono ?_; rintro e w9 ⟨rfl, hb⟩; have HS5 := Lib.hid (HS4.out.keep hb); clear hb n0 n1 n2 n3 n4 c0 c1' c2' c3 c4 c5 c6 c7; obtain ⟨n0, n1, n2, n3, n4⟩ := HS5.out.nb.cells; obtain ⟨c0, c1', c2', c3, c4, c5, c6, c7⟩ := HS5.out.cb.cells; simp only at c0)
                        clear c0 c1' c2' c3 c4 c5 c6 c7
                        have HGn : Hid (GrowI M w (k + 1) (w9.setCells M 0 (#[.int .i64 ((k : Int) + 1), .slice yah Lg ych, .slice yao Lo yco, .slice yap Lq ycp, .slice yab Lc ycb] : Array Value).toList)) := Lib.hid (growI_next HS5.out HNk.out HG1.out HLg.out (HG3.out.trans HLo.out) HLq.out HLc.out)
                        go_wp2_with (refine wpList_store_mid rfl 28 _ _ rfl M 0 #[.int .i64 ((k : Int) + 1), .slice yah Lg ych, .slice yao Lo yco, .slice yap Lq ycp, .slice yab Lc ycb] rfl rfl HS5.out.mb.there sizeMap (map_one _ _ _ _ _ _ _ _ _ _ _ _ _) ?_; clear n0 n1 n2 n3 n4; generalize (w9.setCells M 0 (#[.int .i64 ((k : Int) + 1), .slice yah Lg ych, .slice yao Lo yco, .slice yap Lq ycp, .slice yab Lc ycb] : Array Value).toList) = W10 at HGn ⊢)
                        go_roundw
                        case rel => exact ⟨k + 1, by omega, by go_num, HGn.out⟩
                        case measure => simp [intOf]; omega
        · have hlt' : ¬ ((k : Int) < m0) := by omega
          clear hmk hep hmb hmr hbw
          go_wp2_with (go_at_call 6; refine (awake_any _).mono ?_; rintro e w7 ⟨rfl, hb⟩; have HB7 := Lib.hid (HBw.out.trans (hb.mono HBw.out.size)); clear hb)
          go_ret
          exact ⟨rfl, HB7.out⟩

--LIFT
set_option maxRecDepth 100000 in
theorem liftedGrow (os : Os) (started : os.Started) (H : Type) (enc : TypeId × Value → H) :
    ReturnsInHanded {} Try.checked os 3 .any (Rows.mapsGrowSpec.pre6 enc Try.prog Try.f3 Rows.mapsGrowRow.domain false) (Rows.mapsGrowSpec.post enc Try.prog Try.f3 false true false false) := by
  refine lift.law (C := Try.checked) own started (by kernel_rfl) Try.func3
    (ChangeSpec.witness6 (enc := enc) (C := Try.checked) false ⟨#[], #[.slice none 0 0, .slice none 0 0], []⟩ 8 (by kernel_rfl) (by kernel_rfl) (by kernel_rfl) (by kernel_rfl)) laidOut (by kernel_rfl) 4 Try.underlying4 (by kernel_rfl) rfl ?_ ?_
  · intro ds hd
    match ds, hd with
    | [_, _], _ => rfl
  · intro W base args ds ps hg
    have hA : DataW.TrodAll enc Try.prog W 0 (fun _ => true) true Try.f3.params.toList args.toList ds ps := hg.read
    have hval : ∀ (j : Nat) t v, Try.f3.params[j]? = some t → args[j]? = some v → Value.okWide Try.prog W .any base t v := hg.ok
    rw [Try.params3] at hA hval
    obtain ⟨v0, vs0, d0, ds0, p0, q0, hargs, rfl, rfl, h0, r0⟩ := trodAll_cons hA
    obtain ⟨v1, vs1, d1, ds1, p1, q1, rfl, rfl, rfl, h1, r1⟩ := trodAll_cons r0
    obtain ⟨rfl, rfl, rfl⟩ := trodAll_nil r1
    obtain rfl : args = #[v0, v1] := by cases args; simp_all
    obtain ⟨fs0, hs0, hok0, hcap0⟩ := intsM_open (hval 0 22 v0 rfl rfl) h0
    obtain ⟨fs1, hs1, hcap1⟩ := incs_open (hval 1 23 v1 rfl rfl) h1
    exact walkGrow v0 v1 fs0 fs1 W hs0 hs1 hcap1

theorem grow_holds : Rows.MapsGrowSaid :=
  OpenClaim.holds_of_wide 3 Try.f3 rfl rfl rfl rfl rfl rfl rfl ⟨rfl, rfl, rfl, rfl, rfl⟩ rfl rfl rfl rfl rfl (by kernel_rfl) Try.func3 (by kernel_rfl)
    (of_decide_eq_true (by kernel_rfl)) (by unfold Func.isWrapper; first | (rw [if_pos (by decide +kernel)]; kernel_rfl) | (rw [if_neg (by decide +kernel)]; exact ⟨rfl, rfl⟩))
    (fun os started H enc _ => liftedGrow os started H enc)

#print axioms grow_holds
end Go.Proofs.Ytbelemfdkbgjiaa.crush
