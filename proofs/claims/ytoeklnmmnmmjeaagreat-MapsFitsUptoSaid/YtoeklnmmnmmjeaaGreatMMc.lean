/- Texts laid together: CodeKeyText, CodeRPart, CodeRPickP, CodeReadP, CodeReadW, CodeReadK, CodeBackM, CodeForth, CodeSame, MapsText, CodeRef, CodeKey, CodeRefF, CodeRefL, MapsREnc, MapsRNum, MapsRead, MapsRRead, MapsRRd8, MapsDec, MapsRDec. -/
import Derived.Test.YtoeklnmmnmmjeaaGreatRows
import Derived.Test.YtoeklnmmnmmjeaaGreatCodeRField
import Derived.Test.YtoeklnmmnmmjeaaGreatCodeReadL
import Derived.Test.YtoeklnmmnmmjeaaGreatCodePut
import Derived.Deep.LoopGhost
import Derived.WalkMore
import Derived.Test.YtoeklnmmnmmjeaaGreatCodeRPick
import Derived.Deep.RegionWith
import Derived.Shelf.Abstract
import Derived.Deep.QuietTactic
import Derived.BigQuiet
import Derived.Lib.ConvBytes
import Derived.Test.YtoeklnmmnmmjeaaGreatCodeMath
import Derived.Test.YtoeklnmmnmmjeaaGreatCodeRFit
import Derived.Test.YtoeklnmmnmmjeaaGreatCodeSize
import Derived.Test.YtoeklnmmnmmjeaaGreatMapsInc
import Derived.Test.YtoeklnmmnmmjeaaGreatRuleApp
import Derived.Test.YtoeklnmmnmmjeaaGreatCodeField
import Derived.Test.YtoeklnmmnmmjeaaGreatCodePick
import Derived.Test.YtoeklnmmnmmjeaaGreatCodeWrite
import Derived.IntWalk
import Derived.Test.YtoeklnmmnmmjeaaGreatMapsRInc
import Derived.Test.YtoeklnmmnmmjeaaGreatMMb
import Derived.StillTailTactics
import Derived.Deep.RegionHeld3
namespace Go.Proofs.YtoeklnmmnmmjeaaGreat.code
open Go.RowKit
open Go.Proofs.YtoeklnmmnmmjeaaGreat.kit Go.Proofs.YtoeklnmmnmmjeaaGreat.cm
set_option linter.unusedVariables false

/-- A text of a key, up to its end. -/
def rKT : List Nat → List Nat → Except Int (List Nat × List Nat)
  | _, [] => .error 11
  | acc, [c] => .error 11
  | acc, c :: d :: r => if c = 0 then (if d = 1 then .ok (acc, r) else if d = 255 then rKT (acc ++ [0]) r else .error 10) else rKT (acc ++ [c]) (d :: r)
  termination_by _ bs => bs.length
def rKeyText (bs : List Nat) : Except Int (List Nat × List Nat) := rKT [] bs

theorem rKT_step (acc : List Nat) (c : Nat) (r : List Nat) (hc : c ≠ 0) : rKT acc (c :: r) = rKT (acc ++ [c]) r := by
  cases r with
  | nil => rw [rKT, rKT]
  | cons d r => rw [rKT, if_neg hc]

theorem grown_below {N rb : Nat} {W a b : World} (hN : W.heap.size = N) (hg : W.grownBy a (some rb)) (hb : Below N a b) : W.grownBy b (some rb) :=
  ⟨hb.os.trans hg.os, hb.tape.trans hg.tape, hb.output.trans hg.output, Nat.le_trans hg.size hb.size, fun k hk hne => (hb.block k (by omega)).trans (hg.block k hk hne)⟩
theorem own_over {N rb e : Nat} {kd : IntKind} {a b : World} {v : Value} {ns : List Nat} (h : OwnI a N e kd v ns) (hg : a.grownBy b (some rb)) (hrb : rb < N) : OwnI b N e kd v ns := by
  refine World.ownsRow.kept h hg ?_
  rcases h.2 with ⟨rfl, _⟩ | ⟨g, cap, cur, rfl, hB, _⟩
  · exact .inl rfl
  · refine .inr fun e => ?_
    have e' : g = rb := by simpa [Value.ownBlock] using e
    omega

end Go.Proofs.YtoeklnmmnmmjeaaGreat.code

namespace Go.Proofs.YtoeklnmmnmmjeaaGreat.code
open Go.RowKit
open Go.Proofs.YtoeklnmmnmmjeaaGreat.kit Go.Proofs.YtoeklnmmnmmjeaaGreat.cm
set_option linter.unusedVariables false

def unsign (x : Nat) : Int := (x : Int) - 9223372036854775808
/-- What a part is handed out as where it can't be taken. -/
def zP (kind : Int) : Fld := if kind = 2 then ⟨2, -9223372036854775808, { data := #[] }, false⟩ else noF kind
def rPart (kind : Int) (bs : List Nat) : Except Int (Fld × List Nat) :=
  if kind = 1 then mapR (fun x : Nat => ⟨kind, (x : Int), { data := #[] }, false⟩) (rLongW 9223372036854775807 bs)
  else if kind = 2 then mapR (fun x => ⟨kind, unsign x, { data := #[] }, false⟩) (rLong bs)
  else if kind = 3 then mapR (fun x : Nat => ⟨kind, (x : Int), { data := #[] }, false⟩) (rLongW 4294967295 bs)
  else if kind = 4 then mapR (fun l => ⟨kind, 0, tx l, false⟩) (rKeyText bs)
  else if kind = 5 then mapR (fun b => ⟨kind, 0, { data := #[] }, b⟩) (rTruth bs)
  else .error 27

theorem rLong_bound {L : Nat} {bs : List Nat} {y : Nat} {er : Int} {W3 : World} {rb : Nat} (h8 : ∀ c ∈ bs, c < 256) (h : (∃ r, rLong bs = .ok (y, r) ∧ er = 0 ∧ Rest L W3 rb r) ∨ (rLong bs = .error er ∧ y = 0 ∧ er ≠ 0)) : y < 18446744073709551616 := by
  rcases h with ⟨r, h, _⟩ | ⟨_, rfl, _⟩
  · exact rLong_lt h8 h
  · omega

theorem unsign_eq (y : Nat) (hy : y < 18446744073709551616) : wrap64 (bits BinOp.xor IntKind.u64 (y : Int) 9223372036854775808) = unsign y := by
  have h0 : -9223372036854775808 ≤ wrap64 y := by unfold wrap64; omega
  have h1 : wrap64 y ≤ 9223372036854775807 := by unfold wrap64; omega
  have h := sign_eq (wrap64 y) h0 h1
  have hw : IntKind.u64.wrap (wrap64 y) = (y : Int) := by rw [wrap_u64']; unfold wrap64; omega
  rw [hw] at h
  rw [h]
  unfold unsign wrap64
  omega

theorem part_end {L : Nat} {W : World} {rb : Nat} {kind : Int} {bs : List Nat} {W2 W3 : World} (HT : Two L W rb kind bs W2) (hg : W2.grownBy W3 (some rb)) (o : Nat) (u : Value) (f : Fld) (er : Int) (R' : Except Int (Fld × List Nat))
    (hr : (∃ r, R' = .ok (f, r) ∧ er = 0 ∧ Rest L W3 rb r) ∨ (R' = .error er ∧ f = zP kind ∧ er ≠ 0)) (cs : List Value) :
    RdP L Fld.val (zP kind) W rb R' (.returned (.tuple #[f.val, .int .i64 er])) ((W3.setCell ⟨W.heap.size + 1, o, none⟩ u).setCells W.heap.size 0 cs) := by
  have hs := HT.size
  have hrl := HT.rlt
  have hL := HT.L
  have g0 : W.grownBy W2 (some rb) := ⟨HT.below.os, HT.below.tape, HT.below.output, HT.below.size, fun k hk _ => HT.below.block k hk⟩
  have g2 : W3.grownBy (W3.setCell ⟨W.heap.size + 1, o, none⟩ u) (some (W.heap.size + 1)) := Lib.grownBy_setCell W3 _ o u
  have g3 := grownBy_setCells (W3.setCell ⟨W.heap.size + 1, o, none⟩ u) W.heap.size cs 0
  have gA : W.grownBy W3 (some rb) := Lib.grownBy_trans g0 hg
  have gB := gA.andThen g2 (fun j e => .inl (by have : W.heap.size + 1 = j := by simpa using e
                                                omega))
  have gC := gB.andThen g3 (fun j e => .inl (by have : W.heap.size = j := by simpa using e
                                                omega))
  rcases hr with ⟨r, hR, h0, hrest⟩ | ⟨hR, hf, h0⟩
  · rw [hR, h0]
    exact ⟨rfl, (hrest.far g2 (by omega) (by omega)).far g3 hL (by omega), gC⟩
  · rw [hR, hf]
    exact ⟨rfl, h0, gC⟩

end Go.Proofs.YtoeklnmmnmmjeaaGreat.code

namespace Go.Proofs.YtoeklnmmnmmjeaaGreat.code
open Go.RowKit
open Go.Proofs.YtoeklnmmnmmjeaaGreat.kit Go.Proofs.YtoeklnmmnmmjeaaGreat.cm
set_option linter.unusedVariables false

theorem pick_endP {L : Nat} {W W1 W3 : World} {rb : Nat} {k : Int} {f : Fld} {er : Int} {R' : Except Int (Fld × List Nat)} (hb : Below W.heap.size W W1) (hg : W1.drew.grownBy W3 (some rb)) (hrl : rb < W.heap.size) (hL : L ≤ W.heap.size)
    (hr : (∃ r, R' = .ok (f, r) ∧ er = 0 ∧ Rest L W3 rb r) ∨ (R' = .error er ∧ f = zP k ∧ er ≠ 0)) (cs : List Value) :
    RdP L Fld.val (zP k) W rb R' (.returned (.tuple #[f.val, .int .i64 er])) (W3.setCells W.heap.size 0 cs) := by
  have g0 : W.grownBy W1.drew (some rb) := ⟨hb.os, hb.tape, hb.output, hb.size, fun k hk _ => hb.block k hk⟩
  have gA : W.grownBy W3 (some rb) := Lib.grownBy_trans g0 hg
  have g3 := grownBy_setCells W3 W.heap.size cs 0
  have gC := gA.andThen g3 (fun j e => .inl (by have : W.heap.size = j := by simpa using e
                                                omega))
  rcases hr with ⟨r, hR, h0, hrest⟩ | ⟨hR, hf, h0⟩
  · rw [hR, h0]
    exact ⟨rfl, hrest.far g3 hL (by omega), gC⟩
  · rw [hR, hf]
    exact ⟨rfl, h0, gC⟩

end Go.Proofs.YtoeklnmmnmmjeaaGreat.code

namespace Go.Proofs.YtoeklnmmnmmjeaaGreat.code
open Go.RowKit
open Go.Proofs.YtoeklnmmnmmjeaaGreat.kit Go.Proofs.YtoeklnmmnmmjeaaGreat.cm Go.Proofs.YtoeklnmmnmmjeaaGreat.iter
set_option linter.unusedVariables false
attribute [local go_sem] Oper.semAt_some

end Go.Proofs.YtoeklnmmnmmjeaaGreat.code

namespace Go.Proofs.YtoeklnmmnmmjeaaGreat.code
open Go.RowKit
open Go.Proofs.YtoeklnmmnmmjeaaGreat.kit Go.Proofs.YtoeklnmmnmmjeaaGreat.cm
set_option linter.unusedVariables false

theorem OwnF.base {W : World} {N M : Nat} {v : Value} {fs : List Fld} (h : OwnF W N v fs) (hm : M ≤ N) : OwnF W M v fs := by
  refine ⟨h.1, ?_⟩
  rcases h.2 with h | ⟨g, cap, cur, h1, h2, h3⟩
  · exact .inl h
  · exact .inr ⟨g, cap, cur, h1, Nat.le_trans hm h2, h3⟩

/-- A reader over bytes, laid anew. -/
theorem rest_new {w : World} {bv : Value} {bs : List Nat} (h8 : ∀ c ∈ bs, c < 256) (hb : SlB w bv bs (fun _ => True)) : Rest w.heap.size (w.alloc (.cells #[bv] 183)) w.heap.size bs := by
  refine ⟨h8, bv, heap_alloc_last w _, ?_⟩
  obtain ⟨hl, a, cap, rfl, hle, hc⟩ := hb
  refine ⟨hl, a, cap, rfl, hle, fun h0 => ?_⟩
  obtain ⟨b, off, rfl, _, hlt, hcell⟩ := hc h0
  have hbel : Below w.heap.size w (w.alloc (.cells #[.slice (some ⟨b, off, none⟩) bs.length cap] 183)) := (Below.refl _ _).alloc (Nat.le_refl _) _
  exact ⟨b, off, rfl, ⟨by omega, hlt⟩, Nat.lt_of_lt_of_le hlt hbel.size, fun j hj => (hbel.cell (p := ⟨b, _, none⟩) hlt).trans (hcell j hj)⟩

/-- What 'Read' says. -/
def ReadS (w : World) (bs : List Nat) (R0 : Except Int (List Fld × List Nat)) (e : Ending) (w' : World) : Prop :=
  Below w.heap.size w w' ∧
    match R0 with
    | .ok (fs, rr) => ∃ v, e = .returned (.tuple #[v, .int .i64 ((bs.length : Int) - (rr.length : Int)), .int .i64 0]) ∧ OwnF w' w.heap.size v fs
    | .error er => e = .returned (.tuple #[.slice none 0 0, .int .i64 0, .int .i64 er]) ∧ er ≠ 0

set_option maxHeartbeats 4000000 in
set_option maxRecDepth 100000 in
theorem Read_any (bv kv : Value) (bs : List Nat) (ks : List Int) (w : World) (hb : SlB w bv bs (fun _ => True)) (h8 : ∀ c ∈ bs, c < 256) (hk : SlK w kv ks) (hlen : ks.length ≤ 1000000000000) :
    Calls Tryz.prog 105 #[bv, kv] w (ReadS w bs (rA rField [] ks bs)) := by
  have hrn := rest_new h8 hb
  have hbel : Below w.heap.size w (w.alloc (.cells #[bv] 183)) := (Below.refl _ _).alloc (Nat.le_refl _) _
  have hk1 := hk.below hbel
  have hold : ∀ b off n c, kv = .slice (some ⟨b, off, none⟩) n c → 0 < n → b ≠ w.heap.size := by
    obtain ⟨hl, a, cap, rfl, hc⟩ := hk
    intro b off n c e hn
    cases e
    obtain ⟨b', off', e', hcell⟩ := hc hn
    cases e'
    have h1 := hcell 0 hn
    have := cell_lt (a := ⟨b, off + 0, none⟩) (by rw [h1]; simp)
    have h2 : b < w.heap.size := this
    omega
  have hsz : (w.alloc (.cells #[bv] 183)).heap.size = w.heap.size + 1 := by simp
  have H := Lib.hid (read_field (L := w.heap.size) kv ks w.heap.size bs _ hk1 hold hrn (by rw [hsz]; omega) hlen)
  obtain ⟨hbl, a, cap, rfl, hle, hc⟩ := hb
  have HB := Lib.hid hbel; have HSZ := Lib.hid hsz; have HRN := Lib.hid hrn
  clear hrn hbel hk1 hold hsz hk h8 hc hle
  obtain ⟨R0, hR0⟩ : ∃ R0, rA rField [] ks bs = R0 := ⟨_, rfl⟩
  rw [hR0] at H ⊢
  clear hR0
  have hmf : ∀ (fn : Fn) (first cap : Array Value) (w : World), (Instr.makeFunc fn first cap).run Tryz.prog w = .ok (.func fn first cap) w := fun _ _ _ _ => rfl
  go_enter Tryz.func105, Tryz.ntmps105
  go_wp2_with fail
  refine H.out.mono ?_
  cases R0 with
  | error er =>
    rintro e W1 ⟨hg, rfl, hne⟩
    have hne' : True → (er != 0) = true := fun _ => by simpa using hne
    have HG := Lib.hid hg; have HNE := Lib.hid hne
    clear hg hne H
    go_wp2
    go_ret3
    exact ⟨⟨HG.out.os, HG.out.tape, HG.out.output, by have := HG.out.size; have := HSZ.out; omega, fun k hk => (HG.out.block k (by have := HSZ.out; omega) (by simp; omega)).trans (HB.out.block k hk)⟩, rfl, HNE.out⟩
  | ok p =>
    obtain ⟨fs, rr⟩ := p
    rintro e W1 ⟨hg, ⟨v, rfl, ho⟩, hr⟩
    obtain ⟨_, rv, hrv, hrl, ra, rcap, rfl, hrle, hrc⟩ := hr
    have c0 := box_cell hrv
    have HG := Lib.hid hg; have HO := Lib.hid ho
    clear hg ho H hrv hrc hrle
    go_wp2
    go_quiet (fail)
    go_wp2
    go_ret3
    exact ⟨⟨HG.out.os, HG.out.tape, HG.out.output, by have := HG.out.size; have := HSZ.out; show w.heap.size ≤ W1.heap.size; omega, fun k hk => (HG.out.block k (by have := HSZ.out; omega) (by simp; omega)).trans (HB.out.block k hk)⟩, v, rfl, (HO.out.base (by rw [HSZ.out]; omega))⟩

end Go.Proofs.YtoeklnmmnmmjeaaGreat.code

namespace Go.Proofs.YtoeklnmmnmmjeaaGreat.code
open Go.RowKit
open Go.Proofs.YtoeklnmmnmmjeaaGreat.kit Go.Proofs.YtoeklnmmnmmjeaaGreat.cm
set_option linter.unusedVariables false

/-- '[]byte(s)'. -/
theorem str_bytes (w : World) (s : ByteArray) (hs : s.size ≤ 100000000000) : ∃ cap W1, (convert 9 79 (.string s)).run Tryz.prog w = .ok (.slice (some ⟨w.heap.size, 0, none⟩) s.size cap) W1 ∧
    SlB W1 (.slice (some ⟨w.heap.size, 0, none⟩) s.size cap) (txtN s) (fun _ => True) ∧ Below w.heap.size w W1 := by
  refine ⟨_, _, Lib.run_convert_string_bytes (P := Tryz.prog) w 9 79 5 s Tryz.underlying9 Tryz.underlying79 Tryz.underlying5, ?_, ?_⟩
  · have e : (txtN s).length = s.size := by unfold txtN; rw [List.length_map, Array.length_toList]; rfl
    refine ⟨by omega, _, _, by rw [e], by rw [e]; exact grownCap_ge _ _ _ _, fun _ => ⟨w.heap.size, 0, rfl, trivial, by rw [Lib.bytesWorld_size]; omega, fun j hj => ?_⟩⟩
    rw [e] at hj
    rw [Nat.zero_add, Lib.bytesWorld_cell w _ s j hj]
    have hj' : j < s.data.toList.length := by rw [Array.length_toList]; exact hj
    simp [txtN, List.getD, List.getElem?_eq_getElem hj']
  · exact ⟨rfl, rfl, rfl, by rw [Lib.bytesWorld_size]; omega, fun k hk => Lib.bytesWorld_at_old w _ s k hk⟩

/-- What 'ReadKey' says. -/
def ReadKS (w : World) (R0 : Except Int (List Fld × List Nat)) (e : Ending) (w' : World) : Prop :=
  Below w.heap.size w w' ∧
    match R0 with
    | .ok (fs, []) => ∃ v, e = .returned (.tuple #[v, .int .i64 0]) ∧ OwnF w' w.heap.size v fs
    | .ok (_, _ :: _) => e = .returned (.tuple #[.slice none 0 0, .int .i64 10])
    | .error er => e = .returned (.tuple #[.slice none 0 0, .int .i64 er]) ∧ er ≠ 0

end Go.Proofs.YtoeklnmmnmmjeaaGreat.code

namespace Go.Proofs.YtoeklnmmnmmjeaaGreat.code
open Go.RowKit
open Go.Proofs.YtoeklnmmnmmjeaaGreat.kit Go.Proofs.YtoeklnmmnmmjeaaGreat.cm
set_option linter.unusedVariables false
set_option linter.constructorNameAsVariable false

def B8 (bs : List Nat) : Prop := ∀ c ∈ bs, c < 256
theorem B8.tail {c : Nat} {bs : List Nat} (h : B8 (c :: bs)) : B8 bs := fun d hd => h d (by simp [hd])
theorem B8.head {c : Nat} {bs : List Nat} (h : B8 (c :: bs)) : c < 256 := h c (by simp)
theorem B8.right {a b : List Nat} (h : B8 (a ++ b)) : B8 b := fun d hd => h d (by simp [hd])
theorem B8.left {a b : List Nat} (h : B8 (a ++ b)) : B8 a := fun d hd => h d (by simp [hd])

theorem numG_back : ∀ (k i x : Nat) (bs : List Nat) (y : Nat) (r : List Nat), i + k = 9 → x < 128 ^ i → B8 bs → numG k i x bs = .ok (y, r) → ∃ d, y = x + d * 128 ^ i ∧ bs = numF (k + 1) d ++ r ∧ (0 < i → 0 < d)
  | 0, i, x, [], y, r, _, _, _, h => by simp [numG] at h
  | k + 1, i, x, [], y, r, _, _, _, h => by simp [numG] at h
  | 0, i, x, c :: bs, y, r, hi, hx, h8, h => by
    rw [numG] at h
    split at h
    · rename_i hc
      injection h with h
      obtain ⟨rfl, rfl⟩ := Prod.mk.inj h
      obtain rfl : i = 9 := by omega
      exact ⟨1, by omega, by rw [hc]; rfl, fun _ => by omega⟩
    · cases h
  | k + 1, i, x, c :: bs, y, r, hi, hx, h8, h => by
    rw [numG] at h
    split at h
    · cases h
    · rename_i h0
      split at h
      · rename_i hc
        injection h with h
        obtain ⟨rfl, rfl⟩ := Prod.mk.inj h
        refine ⟨c, rfl, ?_, fun hi0 => ?_⟩
        · rw [numF, if_pos hc]; rfl
        · rcases Nat.eq_zero_or_pos c with hc0 | hc0
          · exact absurd ⟨hc0, hi0⟩ h0
          · exact hc0
      · rename_i hc
        have hc8 := h8.head
        have hx2 : x + (c - 128) * 128 ^ i < 128 ^ (i + 1) := by
          rw [Nat.pow_succ]
          have h1 : (c - 128) * 128 ^ i ≤ 127 * 128 ^ i := Nat.mul_le_mul_right _ (by omega)
          omega
        obtain ⟨d, h1, h2, h3⟩ := numG_back k (i + 1) _ bs y r (by omega) hx2 h8.tail h
        have hd := h3 (by omega)
        refine ⟨(c - 128) + 128 * d, ?_, ?_, fun _ => by omega⟩
        · rw [h1, Nat.pow_succ, Nat.add_mul, Nat.mul_comm (128 ^ i) 128, ← Nat.mul_assoc, Nat.mul_comm d 128, Nat.add_assoc]
        · rw [numF, if_neg (by omega), show ((c - 128) + 128 * d) % 128 + 128 = c by omega, show ((c - 128) + 128 * d) / 128 = d by omega, h2]
          rfl
theorem rNum_back {bs : List Nat} {y : Nat} {r : List Nat} (h8 : B8 bs) (h : rNum bs = .ok (y, r)) : bs = numB y ++ r := by
  obtain ⟨d, h1, h2, _⟩ := numG_back 9 0 0 bs y r rfl (by omega) h8 h
  obtain rfl : d = y := by omega
  exact h2
theorem rCount_back {bs : List Nat} {y : Nat} {r : List Nat} (h8 : B8 bs) (h : rCount bs = .ok (y, r)) : bs = numB y ++ r ∧ y ≤ 9223372036854775807 := by
  unfold rCount at h
  split at h
  · cases h
  · rename_i x r' hx
    split at h
    · cases h
    · injection h with h
      obtain ⟨rfl, rfl⟩ := Prod.mk.inj h
      exact ⟨rNum_back h8 hx, by omega⟩
theorem rWord_back {bs : List Nat} {y : Nat} {r : List Nat} (h8 : B8 bs) (h : rWord bs = .ok (y, r)) : bs = lowB y ++ r ∧ y ≤ 4294967295 := by
  match bs, h8, h with
  | [], _, h => simp [rWord] at h
  | [a], _, h => simp [rWord] at h
  | [a, b], _, h => simp [rWord] at h
  | [a, b, c], _, h => simp [rWord] at h
  | a :: b :: c :: d :: bs, h8, h =>
    simp [rWord, List.getD] at h
    obtain ⟨rfl, rfl⟩ := h
    have ha := h8 a (by simp); have hb := h8 b (by simp); have hc := h8 c (by simp); have hd := h8 d (by simp)
    refine ⟨?_, by omega⟩
    unfold lowB
    rw [show (a + 256 * b + 65536 * c + 16777216 * d) % 256 = a by omega, show (a + 256 * b + 65536 * c + 16777216 * d) / 256 % 256 = b by omega, show (a + 256 * b + 65536 * c + 16777216 * d) / 65536 % 256 = c by omega, show (a + 256 * b + 65536 * c + 16777216 * d) / 16777216 % 256 = d by omega]
    rfl
theorem high_fold : ∀ (k : Nat) (l : List Nat), l.length = k → B8 l → ∀ x, highF k (l.foldl (fun x c => x * 256 + c) x) = l
  | 0, l, hl, _, x => by rw [List.eq_nil_of_length_eq_zero hl]; rfl
  | k + 1, l, hl, h8, x => by
    have hne : l ≠ [] := by intro e; rw [e] at hl; simp at hl
    have hc := List.dropLast_concat_getLast hne
    have h8' : B8 (l.dropLast ++ [l.getLast hne]) := by rw [hc]; exact h8
    have ih := high_fold k l.dropLast (by simp [hl]) h8'.left x
    have hlast := h8'.right (l.getLast hne) (by simp)
    conv => lhs; rw [← hc]
    rw [List.foldl_append, List.foldl_cons, List.foldl_nil, highF]
    generalize l.dropLast.foldl (fun x c => x * 256 + c) x = z at ih
    rw [show (z * 256 + l.getLast hne) / 256 = z by omega, show (z * 256 + l.getLast hne) % 256 = l.getLast hne by omega, ih, hc]
theorem rLong_back {bs : List Nat} {y : Nat} {r : List Nat} (h8 : B8 bs) (h : rLong bs = .ok (y, r)) : bs = highB y ++ r := by
  unfold rLong at h
  split at h
  · cases h
  · rename_i hl
    injection h with h
    obtain ⟨rfl, rfl⟩ := Prod.mk.inj h
    rw [highB, high_fold 8 (bs.take 8) (by rw [List.length_take]; omega) (fun c hc => h8 c (List.mem_of_mem_take hc)) 0, List.take_append_drop]
theorem rLongW_back {most : Nat} {bs : List Nat} {y : Nat} {r : List Nat} (h8 : B8 bs) (h : rLongW most bs = .ok (y, r)) : bs = highB y ++ r ∧ y ≤ most := by
  unfold rLongW at h
  split at h
  · cases h
  · rename_i x r' hx
    split at h
    · cases h
    · injection h with h
      obtain ⟨rfl, rfl⟩ := Prod.mk.inj h
      exact ⟨rLong_back h8 hx, by omega⟩
theorem txtN_tx (l : List Nat) (h8 : B8 l) : txtN (tx l) = l := by
  unfold txtN tx
  rw [strOfNums_data, List.map_map, List.map_map]
  apply List.ext_getElem
  · simp
  · intro i h1 h2
    have := h8 _ (List.getElem_mem h2)
    simp; omega
theorem tx_size (l : List Nat) : (tx l).size = l.length := by unfold tx; rw [strOfNums_size]; simp
theorem rText_back {bs l r : List Nat} (h8 : B8 bs) (h : rText bs = .ok (l, r)) : bs = numB l.length ++ l ++ r ∧ B8 l ∧ l.length ≤ bs.length := by
  unfold rText at h
  split at h
  · cases h
  · rename_i n r' hn
    obtain ⟨h1, _⟩ := rCount_back h8 hn
    split at h
    · cases h
    · rename_i hl
      injection h with h
      obtain ⟨rfl, rfl⟩ := Prod.mk.inj h
      have e : (r'.take n).length = n := by rw [List.length_take]; omega
      refine ⟨by rw [e, List.append_assoc, List.take_append_drop]; exact h1, fun c hc => h8 c ?_, ?_⟩
      · rw [h1]; exact List.mem_append_right _ (List.mem_of_mem_take hc)
      · rw [e, h1, List.length_append]; omega
theorem rTruth_back {bs : List Nat} {b : Bool} {r : List Nat} (h : rTruth bs = .ok (b, r)) : bs = flagB b ++ r := by
  match bs, h with
  | [], h => simp [rTruth] at h
  | c :: bs, h =>
    rw [rTruth] at h
    split at h
    · cases h
    · injection h with h
      obtain ⟨rfl, rfl⟩ := Prod.mk.inj h
      rcases (by omega : c = 0 ∨ c = 1) with rfl | rfl <;> rfl
theorem rKT_back (acc bs : List Nat) : ∀ (s r : List Nat), rKT acc bs = .ok (s, r) → ∃ t, s = acc ++ t ∧ bs = escN t ++ [0, 1] ++ r := by
  induction acc, bs using rKT.induct with
  | case1 acc => intro s r h; simp [rKT] at h
  | case2 acc c => intro s r h; simp [rKT] at h
  | case3 acc r' =>
    intro s r h
    rw [rKT] at h
    simp at h
    obtain ⟨rfl, rfl⟩ := h
    exact ⟨[], by simp, rfl⟩
  | case4 acc r' h1 ih =>
    intro s r h
    rw [rKT] at h
    simp at h
    obtain ⟨t, rfl, h2⟩ := ih s r h
    exact ⟨0 :: t, by simp, by rw [h2]; simp [escN]⟩
  | case5 acc d r' h1 h2 =>
    intro s r h
    rw [rKT] at h
    simp [h1, h2] at h
  | case6 acc c d r' hc ih =>
    intro s r h
    rw [rKT, if_neg hc] at h
    obtain ⟨t, rfl, h2⟩ := ih s r h
    exact ⟨c :: t, by simp, by rw [h2]; simp [escN, hc]⟩
theorem rKeyText_back {bs l r : List Nat} (h : rKeyText bs = .ok (l, r)) : bs = escN l ++ [0, 1] ++ r := by
  obtain ⟨t, h1, h2⟩ := rKT_back [] bs l r h
  rw [List.nil_append] at h1
  rw [h1]; exact h2
theorem escN_mem : ∀ (l : List Nat) (c : Nat), c ∈ l → c ∈ escN l
  | d :: l, c, h => by
    rw [escN]
    rcases List.mem_cons.1 h with rfl | h
    · apply List.mem_append_left
      split
      · rename_i e; simp [e]
      · simp
    · exact List.mem_append_right _ (escN_mem l c h)
theorem escN_ge : ∀ l, l.length ≤ (escN l).length
  | [] => by simp
  | d :: l => by
    rw [escN, List.length_append, List.length_cons]
    have := escN_ge l
    split <;> simp <;> omega

theorem zig_unzig (x : Nat) : zig (unzig x) = x := by
  unfold zig unzig
  split <;> split <;> omega

theorem mapR_ok {α : Type} {g : α → Fld} {R : Except Int (α × List Nat)} {f : Fld} {r : List Nat} (h : mapR g R = .ok (f, r)) : ∃ x, R = .ok (x, r) ∧ f = g x := by
  cases R with
  | error e => simp [mapR] at h
  | ok p =>
    obtain ⟨x, r'⟩ := p
    rw [mapR] at h
    injection h with h
    obtain ⟨rfl, rfl⟩ := Prod.mk.inj h
    exact ⟨x, rfl, rfl⟩

/-- What is known of a field that was read. -/
def Good (n : Nat) (f : Fld) : Prop := f.fit = true ∧ f.Ok ∧ f.text.size ≤ n

theorem rField_back {k : Int} {bs : List Nat} {f : Fld} {r : List Nat} (h8 : B8 bs) (hl : bs.length ≤ 1048576) (h : rField k bs = .ok (f, r)) : bs = f.bytes ++ r ∧ Good bs.length f := by
  have ht0 : (({ data := #[] } : ByteArray)).size ≤ maxLen := by simp [maxLen, ByteArray.size]
  unfold rField at h
  split at h
  · rename_i hk
    obtain ⟨x, hx, rfl⟩ := mapR_ok h
    obtain ⟨h1, h2⟩ := rCount_back h8 hx
    subst hk
    refine ⟨by rw [h1]; simp [Fld.bytes], by simp [Fld.fit], ⟨by simp, by simp, by first | (simp; done) | (simp; omega), by first | (simp; done) | (simp; omega), ht0⟩, by simp [ByteArray.size]⟩
  split at h
  · rename_i hk
    obtain ⟨x, hx, rfl⟩ := mapR_ok h
    have h1 := rNum_back h8 hx
    have h2 := numG_lt 9 0 0 bs x r rfl (by omega) h8 hx
    subst hk
    refine ⟨by rw [h1]; simp [Fld.bytes, zig_unzig], by simp [Fld.fit], ⟨by simp, by simp, ?_, ?_, ht0⟩, by simp [ByteArray.size]⟩
    · simp only [unzig]; split <;> omega
    · simp only [unzig]; split <;> omega
  split at h
  · rename_i hk
    obtain ⟨x, hx, rfl⟩ := mapR_ok h
    obtain ⟨h1, h2⟩ := rWord_back h8 hx
    subst hk
    refine ⟨by rw [h1]; simp [Fld.bytes], ?_, ⟨by simp, by simp, by first | (simp; done) | (simp; omega), by first | (simp; done) | (simp; omega), ht0⟩, by simp [ByteArray.size]⟩
    simp [Fld.fit]; omega
  split at h
  · rename_i hk
    obtain ⟨x, hx, rfl⟩ := mapR_ok h
    obtain ⟨h1, h2, h3⟩ := rText_back h8 hx
    subst hk
    refine ⟨by simp only [Fld.bytes]; simp [tx_size, txtN_tx x h2]; rw [← List.append_assoc]; exact h1, by simp [Fld.fit], ⟨by simp, by simp, by simp, by simp, by simp only [tx_size]; unfold maxLen; omega⟩, by simp only [tx_size]; exact h3⟩
  split at h
  · rename_i hk
    obtain ⟨x, hx, rfl⟩ := mapR_ok h
    have h1 := rTruth_back hx
    subst hk
    exact ⟨by rw [h1]; simp [Fld.bytes], by simp [Fld.fit], ⟨by simp, by simp, by simp, by simp, ht0⟩, by simp [ByteArray.size]⟩
  · cases h

theorem rPart_back {k : Int} {bs : List Nat} {f : Fld} {r : List Nat} (h8 : B8 bs) (hl : bs.length ≤ 1048576) (h : rPart k bs = .ok (f, r)) : bs = f.part ++ r ∧ Good bs.length f := by
  have ht0 : (({ data := #[] } : ByteArray)).size ≤ maxLen := by simp [maxLen, ByteArray.size]
  unfold rPart at h
  split at h
  · rename_i hk
    obtain ⟨x, hx, rfl⟩ := mapR_ok h
    obtain ⟨h1, h2⟩ := rLongW_back h8 hx
    subst hk
    refine ⟨by rw [h1]; simp [Fld.part], by simp [Fld.fit], ⟨by simp, by simp, by first | (simp; done) | (simp; omega), by first | (simp; done) | (simp; omega), ht0⟩, by simp [ByteArray.size]⟩
  split at h
  · rename_i hk
    obtain ⟨x, hx, rfl⟩ := mapR_ok h
    have h1 := rLong_back h8 hx
    have h2 := rLong_lt h8 hx
    subst hk
    refine ⟨by rw [h1]; simp [Fld.part, unsign], by simp [Fld.fit], ⟨by simp, by simp, ?_, ?_, ht0⟩, by simp [ByteArray.size]⟩
    · simp only [unsign]; omega
    · simp only [unsign]; omega
  split at h
  · rename_i hk
    obtain ⟨x, hx, rfl⟩ := mapR_ok h
    obtain ⟨h1, h2⟩ := rLongW_back h8 hx
    subst hk
    refine ⟨by rw [h1]; simp [Fld.part], ?_, ⟨by simp, by simp, by first | (simp; done) | (simp; omega), by first | (simp; done) | (simp; omega), ht0⟩, by simp [ByteArray.size]⟩
    simp [Fld.fit]; omega
  split at h
  · rename_i hk
    obtain ⟨x, hx, rfl⟩ := mapR_ok h
    have h1 := rKeyText_back hx
    subst hk
    have h2 : B8 x := fun c hc => h8 c (by rw [h1]; exact List.mem_append_left _ (List.mem_append_left _ (escN_mem x c hc)))
    have h3 : x.length ≤ bs.length := by rw [h1, List.length_append, List.length_append]; have := escN_ge x; omega
    refine ⟨by simp only [Fld.part]; simp [txtN_tx x h2]; simpa using h1, by simp [Fld.fit], ⟨by simp, by simp, by simp, by simp, by simp only [tx_size]; unfold maxLen; omega⟩, by simp only [tx_size]; exact h3⟩
  split at h
  · rename_i hk
    obtain ⟨x, hx, rfl⟩ := mapR_ok h
    have h1 := rTruth_back hx
    subst hk
    exact ⟨by rw [h1]; simp [Fld.part], by simp [Fld.fit], ⟨by simp, by simp, by simp, by simp, ht0⟩, by simp [ByteArray.size]⟩
  · cases h

/-- A row that was read is the row that was written. -/
theorem rA_back {rd : Int → List Nat → Except Int (Fld × List Nat)} {wr : Fld → List Nat} (hb : ∀ k bs f r, B8 bs → bs.length ≤ 1048576 → rd k bs = .ok (f, r) → bs = wr f ++ r ∧ Good bs.length f) :
    ∀ (ks : List Int) (acc : List Fld) (bs : List Nat) (fs : List Fld) (rr : List Nat), B8 bs → bs.length ≤ 1048576 → rA rd acc ks bs = .ok (fs, rr) → ∃ gs, fs = acc ++ gs ∧ bs = gs.flatMap wr ++ rr ∧ ∀ g ∈ gs, Good 1048576 g
  | [], acc, bs, fs, rr, _, _, h => by
    rw [rA] at h
    injection h with h
    obtain ⟨rfl, rfl⟩ := Prod.mk.inj h
    exact ⟨[], by simp, by simp, by simp⟩
  | k :: ks, acc, bs, fs, rr, h8, hl, h => by
    rw [rA] at h
    split at h
    · cases h
    · rename_i f r hf
      obtain ⟨h1, h2⟩ := hb k bs f r h8 hl hf
      have h8' : B8 r := by rw [h1] at h8; exact h8.right
      have hl' : r.length ≤ 1048576 := by rw [h1, List.length_append] at hl; omega
      obtain ⟨gs, rfl, h3, h4⟩ := rA_back hb ks (acc ++ [f]) r fs rr h8' hl' h
      refine ⟨f :: gs, by simp, by rw [List.flatMap_cons, List.append_assoc, ← h3]; exact h1, fun g hg => ?_⟩
      rcases List.mem_cons.1 hg with rfl | hg
      · exact ⟨h2.1, h2.2.1, Nat.le_trans h2.2.2 hl⟩
      · exact h4 g hg

end Go.Proofs.YtoeklnmmnmmjeaaGreat.code

namespace Go.Proofs.YtoeklnmmnmmjeaaGreat.code
open Go.RowKit
open Go.Proofs.YtoeklnmmnmmjeaaGreat.kit Go.Proofs.YtoeklnmmnmmjeaaGreat.cm
set_option linter.unusedVariables false
set_option linter.constructorNameAsVariable false

theorem numG_forth : ∀ (k i x d : Nat) (r : List Nat), i + k = 9 → (0 < i → 0 < d) → x + d * 128 ^ i < 18446744073709551616 → numG k i x (numF (k + 1) d ++ r) = .ok (x + d * 128 ^ i, r)
  | 0, i, x, d, r, hi, h0, hy => by
    obtain rfl : i = 9 := by omega
    have hd : d = 1 := by have := h0 (by omega); omega
    subst hd
    rfl
  | k + 1, i, x, d, r, hi, h0, hy => by
    by_cases hd : d < 128
    · rw [numF, if_pos hd, List.cons_append, List.nil_append, numG, if_neg (by intro h; have := h0 h.2; omega), if_pos hd]
    · rw [numF, if_neg hd, List.cons_append, numG, if_neg (by omega), if_neg (by omega)]
      have e : x + (d % 128 + 128 - 128) * 128 ^ i + d / 128 * 128 ^ (i + 1) = x + d * 128 ^ i := by
        rw [Nat.pow_succ, Nat.add_assoc, show d % 128 + 128 - 128 = d % 128 by omega, show d / 128 * (128 ^ i * 128) = 128 * (d / 128) * 128 ^ i by rw [Nat.mul_comm (128 ^ i) 128, ← Nat.mul_assoc, Nat.mul_comm (d / 128) 128], ← Nat.add_mul]
        rw [show d % 128 + 128 * (d / 128) = d by omega]
      rw [← e]
      exact numG_forth k (i + 1) _ (d / 128) r (by omega) (fun _ => by omega) (by rw [e]; exact hy)
theorem rNum_forth (y : Nat) (r : List Nat) (hy : y < 18446744073709551616) : rNum (numB y ++ r) = .ok (y, r) := by
  have := numG_forth 9 0 0 y r rfl (by omega) (by omega)
  rw [show 0 + y * 128 ^ 0 = y by omega] at this
  exact this
theorem rCount_forth (y : Nat) (r : List Nat) (hy : y ≤ 9223372036854775807) : rCount (numB y ++ r) = .ok (y, r) := by
  unfold rCount
  rw [rNum_forth y r (by omega)]
  simp only
  rw [if_neg (by omega)]
theorem rWord_forth (y : Nat) (r : List Nat) (hy : y ≤ 4294967295) : rWord (lowB y ++ r) = .ok (y, r) := by
  have e : rWord (lowB y ++ r) = .ok (y % 256 + 256 * (y / 256 % 256) + 65536 * (y / 65536 % 256) + 16777216 * (y / 16777216 % 256), r) := by
    unfold rWord lowB
    rw [if_neg (by simp only [List.length_append, List.length_cons, List.length_nil]; omega)]
    rfl
  rw [e, show y % 256 + 256 * (y / 256 % 256) + 65536 * (y / 65536 % 256) + 16777216 * (y / 16777216 % 256) = y by omega]
theorem fold_high : ∀ (k y x : Nat), y < 256 ^ k → (highF k y).foldl (fun x c => x * 256 + c) x = x * 256 ^ k + y
  | 0, y, x, h => by simp at h; subst h; simp [highF]
  | k + 1, y, x, h => by
    rw [highF, List.foldl_append, List.foldl_cons, List.foldl_nil, fold_high k (y / 256) x (by rw [Nat.pow_succ] at h; omega), Nat.pow_succ, Nat.add_mul, Nat.mul_assoc]
    omega
theorem rLong_forth (y : Nat) (r : List Nat) (hy : y < 18446744073709551616) : rLong (highB y ++ r) = .ok (y, r) := by
  have hl := highB_len y
  unfold rLong
  rw [if_neg (by rw [List.length_append, hl]; omega), List.take_left' hl, List.drop_left' hl, highB, fold_high 8 y 0 (by omega)]
  simp
theorem rLongW_forth (most y : Nat) (r : List Nat) (hy : y ≤ most) (hm : most < 18446744073709551616) : rLongW most (highB y ++ r) = .ok (y, r) := by
  unfold rLongW
  rw [rLong_forth y r (by omega)]
  simp only
  rw [if_neg (by omega)]
theorem rText_forth (l r : List Nat) (hl : l.length ≤ 9223372036854775807) : rText (numB l.length ++ l ++ r) = .ok (l, r) := by
  unfold rText
  rw [List.append_assoc, rCount_forth _ _ hl]
  simp only
  rw [if_neg (by rw [List.length_append]; omega), List.take_left' rfl, List.drop_left' rfl]
theorem rTruth_forth (b : Bool) (r : List Nat) : rTruth (flagB b ++ r) = .ok (b, r) := by cases b <;> rfl
theorem rKT_forth : ∀ (t acc r : List Nat), rKT acc (escN t ++ [0, 1] ++ r) = .ok (acc ++ t, r)
  | [], acc, r => by
    show rKT acc (0 :: 1 :: r) = _
    rw [rKT]; simp
  | c :: t, acc, r => by
    have ih := rKT_forth t
    by_cases hc : c = 0
    · subst hc
      have e : escN (0 :: t) ++ [0, 1] ++ r = 0 :: 255 :: (escN t ++ [0, 1] ++ r) := by simp [escN]
      rw [e, rKT]
      simp only [if_true]
      rw [if_neg (by omega), ih (acc ++ [0]) r]
      simp
    · have e : escN (c :: t) ++ [0, 1] ++ r = c :: (escN t ++ [0, 1] ++ r) := by simp [escN, hc]
      rw [e, rKT_step acc c _ hc, ih (acc ++ [c]) r]
      simp
theorem rKeyText_forth (l r : List Nat) : rKeyText (escN l ++ [0, 1] ++ r) = .ok (l, r) := by
  have := rKT_forth l [] r
  rw [List.nil_append] at this
  exact this
theorem tx_txtN (s : ByteArray) : tx (txtN s) = s := by
  obtain ⟨⟨l⟩⟩ := s
  apply ByteArray.ext
  apply Array.ext'
  unfold tx txtN
  rw [strOfNums_data, List.map_map, List.map_map]
  conv => rhs; rw [← List.map_id l]
  apply List.map_congr_left
  intro c _
  simp
theorem txtN_length (s : ByteArray) : (txtN s).length = s.size := by simp [txtN]
theorem unzig_zig (x : Int) : unzig (zig x) = x := by
  unfold zig unzig
  split <;> split <;> omega
theorem no_text {t : ByteArray} (h : t.toList = []) : t = { data := #[] } := by
  rw [Lib.toList_data] at h
  obtain ⟨⟨x⟩⟩ := t
  simp at h; subst h; rfl
theorem zig_less {x : Int} (h0 : -9223372036854775808 ≤ x) (h1 : x ≤ 9223372036854775807) : zig x < 18446744073709551616 := by
  unfold zig; split <;> omega
theorem fit_cases {f : Fld} (h : f.fit = true) : (∃ n, 0 ≤ n ∧ f = ⟨1, n, { data := #[] }, false⟩) ∨ (∃ n, f = ⟨2, n, { data := #[] }, false⟩) ∨ (∃ n, 0 ≤ n ∧ n ≤ 4294967295 ∧ f = ⟨3, n, { data := #[] }, false⟩) ∨ (∃ t, f = ⟨4, 0, t, false⟩) ∨ ∃ b, f = ⟨5, 0, { data := #[] }, b⟩ := by
  obtain ⟨k, n, t, b⟩ := f
  unfold Fld.fit at h
  simp only at h
  split at h
  · rename_i e; subst e; simp at h; obtain ⟨⟨h1, h2⟩, h3⟩ := h; rw [no_text h2, h3]; exact .inl ⟨n, h1, rfl⟩
  split at h
  · rename_i e; subst e; simp at h; obtain ⟨h2, h3⟩ := h; rw [no_text h2, h3]; exact .inr (.inl ⟨n, rfl⟩)
  split at h
  · rename_i e; subst e; simp at h; obtain ⟨⟨⟨h1, h4⟩, h2⟩, h3⟩ := h; rw [no_text h2, h3]; exact .inr (.inr (.inl ⟨n, h1, h4, rfl⟩))
  split at h
  · rename_i e; subst e; simp at h; obtain ⟨h2, h3⟩ := h; rw [h2, h3]; exact .inr (.inr (.inr (.inl ⟨t, rfl⟩)))
  split at h
  · rename_i e; subst e; simp at h; obtain ⟨h2, h3⟩ := h; rw [h2, no_text h3]; exact .inr (.inr (.inr (.inr ⟨b, rfl⟩)))
  · cases h

theorem rField_forth {f : Fld} (h : f.fit = true) (ho : f.Ok) (r : List Nat) : rField f.kind (f.bytes ++ r) = .ok (f, r) := by
  obtain ⟨_, _, h0, h1, ht⟩ := ho
  unfold maxLen at ht
  rcases fit_cases h with ⟨n, hn, rfl⟩ | ⟨n, rfl⟩ | ⟨n, hn, hm, rfl⟩ | ⟨t, rfl⟩ | ⟨b, rfl⟩ <;> simp only at h0 h1 ht
  · simp only [rField, Fld.bytes, if_true]
    rw [rCount_forth _ _ (by omega), mapR, Int.toNat_of_nonneg hn]
  · show mapR _ (rNum (numB (zig n) ++ r)) = _
    rw [rNum_forth _ _ (zig_less h0 h1), mapR, unzig_zig]
  · simp [rField, Fld.bytes]
    rw [rWord_forth _ _ (by omega), mapR, Int.toNat_of_nonneg hn]
  · show mapR _ (rText (numB t.size ++ txtN t ++ r)) = _
    rw [← txtN_length t, rText_forth _ _ (by rw [txtN_length]; omega), mapR, tx_txtN]
  · show mapR _ (rTruth (flagB b ++ r)) = _
    rw [rTruth_forth, mapR]
theorem rPart_forth {f : Fld} (h : f.fit = true) (ho : f.Ok) (r : List Nat) : rPart f.kind (f.part ++ r) = .ok (f, r) := by
  obtain ⟨_, _, h0, h1, ht⟩ := ho
  rcases fit_cases h with ⟨n, hn, rfl⟩ | ⟨n, rfl⟩ | ⟨n, hn, hm, rfl⟩ | ⟨t, rfl⟩ | ⟨b, rfl⟩ <;> simp only at h0 h1 ht
  · show mapR _ (rLongW 9223372036854775807 (highB n.toNat ++ r)) = _
    rw [rLongW_forth _ _ _ (by omega) (by omega), mapR, Int.toNat_of_nonneg hn]
  · simp [rPart, Fld.part]
    rw [rLong_forth _ _ (by omega), mapR, unsign, Int.toNat_of_nonneg (by omega), Int.add_sub_cancel]
  · show mapR _ (rLongW 4294967295 (highB n.toNat ++ r)) = _
    rw [rLongW_forth _ _ _ (by omega) (by omega), mapR, Int.toNat_of_nonneg hn]
  · show mapR _ (rKeyText (escN (txtN t) ++ [0, 1] ++ r)) = _
    rw [rKeyText_forth, mapR, tx_txtN]
  · show mapR _ (rTruth (flagB b ++ r)) = _
    rw [rTruth_forth, mapR]
theorem rA_forth {rd : Int → List Nat → Except Int (Fld × List Nat)} {wr : Fld → List Nat} (hb : ∀ f : Fld, f.fit = true → f.Ok → ∀ r, rd f.kind (wr f ++ r) = .ok (f, r)) :
    ∀ (gs acc : List Fld) (r : List Nat), (∀ g ∈ gs, g.fit = true ∧ g.Ok) → rA rd acc (gs.map fun g => g.kind) (gs.flatMap wr ++ r) = .ok (acc ++ gs, r)
  | [], acc, r, _ => by simp [rA]
  | g :: gs, acc, r, h => by
    have hg := h g (List.mem_cons_self ..)
    rw [List.map_cons, List.flatMap_cons, List.append_assoc, rA, hb g hg.1 hg.2]
    simp only
    rw [rA_forth hb gs (acc ++ [g]) r (fun g' h' => h g' (List.mem_cons_of_mem _ h'))]
    simp
/-- What is written of fit fields is read as those fields, nothing left. -/
theorem row_forth (gs : List Fld) (h : ∀ g ∈ gs, g.fit = true ∧ g.Ok) : rA rField [] (gs.map fun g => g.kind) (gs.flatMap Fld.bytes) = .ok (gs, []) := by
  have := rA_forth (rd := rField) (wr := Fld.bytes) (fun f h1 h2 r => rField_forth h1 h2 r) gs [] [] h
  simpa using this
theorem key_forth (gs : List Fld) (h : ∀ g ∈ gs, g.fit = true ∧ g.Ok) : rA rPart [] (gs.map fun g => g.kind) (gs.flatMap Fld.part) = .ok (gs, []) := by
  have := rA_forth (rd := rPart) (wr := Fld.part) (fun f h1 h2 r => rPart_forth h1 h2 r) gs [] [] h
  simpa using this

end Go.Proofs.YtoeklnmmnmmjeaaGreat.code

namespace Go.Proofs.YtoeklnmmnmmjeaaGreat.code
open Go.RowKit
open Go.Proofs.YtoeklnmmnmmjeaaGreat.kit Go.Proofs.YtoeklnmmnmmjeaaGreat.cm
set_option linter.unusedVariables false

theorem fit_kind {f : Fld} (h : f.fit = true) : ((f.kind.toNat : Nat) : Int) = f.kind ∧ f.kind.toNat < 256 := by
  rcases fit_cases h with ⟨n, hn, rfl⟩ | ⟨n, rfl⟩ | ⟨n, hn, hx, rfl⟩ | ⟨t, rfl⟩ | ⟨b, rfl⟩ <;> exact ⟨rfl, by simp⟩

/-- A slice of kinds of the call's own, as a row of kinds. -/
theorem OwnI.toK {w : World} {B e : Nat} {v : Value} {fs : List Fld} (hf : ∀ f ∈ fs, f.fit = true) (h : OwnI w B e .i64 v (fs.map fun f => f.kind.toNat)) : SlK w v (fs.map fun f => f.kind) := by
  obtain ⟨hl, a, cap, rfl, hc⟩ := h.read
  rw [List.length_map] at hl hc ⊢
  refine ⟨by rw [List.length_map]; exact hl, a, cap, by rw [List.length_map], fun h0 => ?_⟩
  rw [List.length_map] at h0
  obtain ⟨b, off, rfl, hcell⟩ := hc h0
  refine ⟨b, off, rfl, fun j hj => ?_⟩
  rw [List.length_map] at hj
  rw [hcell j hj]
  have e : (((fs.map fun f => f.kind.toNat).getD j 0 : Nat) : Int) = (fs.map fun f => f.kind).getD j 0 := by
    simp only [List.getD, List.getElem?_map, List.getElem?_eq_getElem hj, Option.map_some, Option.getD_some]
    exact (fit_kind (hf _ (List.getElem_mem hj))).1
  rw [e]

/-- What 'Whole' says of bytes that are just those of some fields. -/
def WholeS (w : World) (fs : List Fld) (e : Ending) (w' : World) : Prop :=
  Below w.heap.size w w' ∧ ∃ v, e = .returned (.tuple #[v, .int .i64 0]) ∧ OwnF w' w.heap.size v fs

set_option maxHeartbeats 4000000 in
set_option maxRecDepth 100000 in
theorem Whole_any (bv kv : Value) (bs : List Nat) (ks : List Int) (fs : List Fld) (w : World) (hb : SlB w bv bs (fun _ => True)) (h8 : ∀ c ∈ bs, c < 256) (hk : SlK w kv ks) (hlen : ks.length ≤ 1000000000000) (hr : rA rField [] ks bs = .ok (fs, [])) :
    Calls Tryz.prog 53 #[bv, kv] w (WholeS w fs) := by
  have HR := Lib.hid (Read_any bv kv bs ks w hb h8 hk hlen)
  rw [hr] at HR
  obtain ⟨hl, a, cap, rfl, hle, _⟩ := hb
  clear h8 hk hlen hr
  go_enter Tryz.func53, Tryz.ntmps53
  go_wp2_with fail
  refine HR.out.mono ?_
  rintro e w1 ⟨hb1, v, rfl, ho⟩
  have HB1 := Lib.hid hb1; have HO := Lib.hid ho
  rw [show ((bs.length : Int) - (([] : List Nat).length : Int)) = (bs.length : Int) by simp]
  have hn : ¬ ((bs.length : Int) < (bs.length : Int)) := by omega
  clear hb1 ho HR
  go_wp2
  go_ret2
  exact ⟨HB1.out, v, rfl, HO.out⟩

end Go.Proofs.YtoeklnmmnmmjeaaGreat.code

namespace Go.Proofs.YtoeklnmmnmmjeaaGreat.crush
open Go.RowKit
open Go.Proofs.YtoeklnmmnmmjeaaGreat.kit Go.Proofs.YtoeklnmmnmmjeaaGreat.own
open Go.Proofs.YtoeklnmmnmmjeaaGreat.cm (Fld)
open Go.Proofs.YtoeklnmmnmmjeaaGreat.code (fcells infoFz SlF)
set_option linter.unusedVariables false

def nums (c : IncV) : List Int := [c.kind, c.osd, c.client, c.num, c.pool.size, c.pool.min, c.pool.pgs, c.pool.dom]
def fldN (n : Int) : Fld := ⟨1, n, { data := #[] }, false⟩
def flds (c : IncV) : List Fld := (nums c).map fldN
theorem fcells_len (f : Fld) : (fcells f).length = 4 := rfl
theorem fcells_one (f : Fld) : ∀ v ∈ fcells f, v.oneCell' = true := by
  intro v hv
  simp [fcells] at hv
  rcases hv with rfl | rfl | rfl | rfl <;> rfl
theorem slF_of {w : World} {v : Value} {fs : List Fld} (h : Sl fcells 4 w v fs) : SlF w v fs := by
  obtain ⟨hl, a, cap, rfl, hn, hc⟩ := h
  refine ⟨hl, a, cap, rfl, fun h0 => ?_⟩
  obtain ⟨b, off, rfl, hlt, hcell⟩ := hc h0
  refine ⟨b, off, rfl, hlt, fun j hj => ?_⟩
  have h1 := hcell j hj
  exact ⟨h1 0 _ rfl, h1 1 _ rfl, h1 2 _ rfl, h1 3 _ rfl⟩

set_option maxHeartbeats 16000000 in
set_option maxRecDepth 100000 in
theorem fields_any (c : IncV) (w : World) : Calls Tryz.prog 78 #[c.val] w fun e w' => ∃ v, e = .returned v ∧ Own fcells 4 86 w' w.heap.size v (flds c) ∧ Below w.heap.size w w' := by
  obtain ⟨k, o, cl, n, a, b, p, d⟩ := c
  unfold IncV.val flds nums
  simp only
  go_enter Tryz.func78, Tryz.ntmps78
  go_wp2_with fail
  have hb0 : Below w.heap.size w (((w.alloc (.cells #[.int .i64 k, .int .i64 o, .int .i64 cl, .int .i64 n, .int .i64 a, .int .i64 b, .int .i64 p, .int .i64 d] 31)).alloc (.cells #[.int .i64 a, .int .i64 b, .int .i64 p, .int .i64 d] 29)).alloc (.cells #[.int .i64 k, .int .i64 o, .int .i64 cl, .int .i64 n, .int .i64 a, .int .i64 b, .int .i64 p, .int .i64 d] 103)) :=
    ((below_new w _).alloc (by simp) _).alloc (by simp; omega) _
  have HB0 := Lib.hid hb0
  clear hb0
  generalize (((w.alloc (.cells #[.int .i64 k, .int .i64 o, .int .i64 cl, .int .i64 n, .int .i64 a, .int .i64 b, .int .i64 p, .int .i64 d] 31)).alloc (.cells #[.int .i64 a, .int .i64 b, .int .i64 p, .int .i64 d] 29)).alloc (.cells #[.int .i64 k, .int .i64 o, .int .i64 cl, .int .i64 n, .int .i64 a, .int .i64 b, .int .i64 p, .int .i64 d] 103)) = W0 at HB0 ⊢
  obtain ⟨fl, hfl⟩ : ∃ fl, fl = [fldN k, fldN o, fldN cl, fldN n, fldN a, fldN b, fldN p, fldN d] := ⟨_, rfl⟩
  have HFl := Lib.hid hfl
  clear hfl
  go_loopw [5, 28] (fun v5 vi wr => ∃ i : Nat, i ≤ 8 ∧ vi = .int .i64 i ∧ Own fcells 4 86 wr w.heap.size v5 (fl.take i) ∧ Below w.heap.size w wr) (fun _ v _ => 8 - (intOf v).toNat)
  case atStart => exact ⟨0, by omega, rfl, by rw [List.take_zero]; exact Own.nil _ _ _, HB0.out⟩
  case round =>
    obtain ⟨i, hi, rfl, ho, hbw⟩ := hrel
    have hfl := HFl.out
    subst hfl
    by_cases hlt : i < 8
    · have h8 : i = 0 ∨ i = 1 ∨ i = 2 ∨ i = 3 ∨ i = 4 ∨ i = 5 ∨ i = 6 ∨ i = 7 := by omega
      obtain ⟨a9, c9, rfl⟩ := ho.slice
      have HO := Lib.hid ho; have HB := Lib.hid hbw
      clear ho hbw hi hlt
      rcases h8 with rfl | rfl | rfl | rfl | rfl | rfl | rfl | rfl
      all_goals simp only [List.take_succ_cons, List.take_zero, List.length_cons, List.length_nil, Nat.zero_add, Nat.reduceAdd] at HO ⊢
      · have hix : ∀ w, (Instr.index 103 (.agg #[.int .i64 k, .int .i64 o, .int .i64 cl, .int .i64 n, .int .i64 a, .int .i64 b, .int .i64 p, .int .i64 d]) (.int .i64 0)).run Tryz.prog w = .ok (.int .i64 k) w := fun w => by kernel_rfl
        have hba := below_new wr (.cells #[.int .i64 1, .int .i64 k, .string { data := #[] }, .bool false] 86)
        have HNew := Lib.hid (sl_new fcells_len wr (fldN k) 86 wr.heap.size rfl)
        have HOa := Lib.hid (HO.out.below hba)
        have HBa := Lib.hid (HB.out.trans (hba.mono HB.out.size))
        clear hba
        go_wp2_with (at_builtin; refine app1Q fcells_len fcells_one (by decide) rfl _ _ 76 rfl w.heap.size 86 _ (by rfl) 40 Tryz.underlying76 infoFz _ ([] : List Fld) rfl HOa.out _ (fldN k) rfl HNew.out (by simp; unfold maxLen; omega) (by simp) HBa.out.size ?_; intro v10 w10 ho hk _ _; obtain ⟨a10, c10, rfl⟩ := ho.slice; have HO10 := Lib.hid ho; have HB10 := Lib.hid (HBa.out.trans hk.toBelow); clear ho hk)
        go_roundw
        case rel => exact ⟨1, by omega, by go_num, HO10.out, HB10.out⟩
        case measure => simp [intOf]
      · have hix : ∀ w, (Instr.index 103 (.agg #[.int .i64 k, .int .i64 o, .int .i64 cl, .int .i64 n, .int .i64 a, .int .i64 b, .int .i64 p, .int .i64 d]) (.int .i64 1)).run Tryz.prog w = .ok (.int .i64 o) w := fun w => by kernel_rfl
        have hba := below_new wr (.cells #[.int .i64 1, .int .i64 o, .string { data := #[] }, .bool false] 86)
        have HNew := Lib.hid (sl_new fcells_len wr (fldN o) 86 wr.heap.size rfl)
        have HOa := Lib.hid (HO.out.below hba)
        have HBa := Lib.hid (HB.out.trans (hba.mono HB.out.size))
        clear hba
        go_wp2_with (at_builtin; refine app1Q fcells_len fcells_one (by decide) rfl _ _ 76 rfl w.heap.size 86 _ (by rfl) 40 Tryz.underlying76 infoFz _ [fldN k] rfl HOa.out _ (fldN o) rfl HNew.out (by simp; unfold maxLen; omega) (by simp) HBa.out.size ?_; intro v10 w10 ho hk _ _; obtain ⟨a10, c10, rfl⟩ := ho.slice; have HO10 := Lib.hid ho; have HB10 := Lib.hid (HBa.out.trans hk.toBelow); clear ho hk)
        go_roundw
        case rel => exact ⟨2, by omega, by go_num, HO10.out, HB10.out⟩
        case measure => simp [intOf]
      · have hix : ∀ w, (Instr.index 103 (.agg #[.int .i64 k, .int .i64 o, .int .i64 cl, .int .i64 n, .int .i64 a, .int .i64 b, .int .i64 p, .int .i64 d]) (.int .i64 2)).run Tryz.prog w = .ok (.int .i64 cl) w := fun w => by kernel_rfl
        have hba := below_new wr (.cells #[.int .i64 1, .int .i64 cl, .string { data := #[] }, .bool false] 86)
        have HNew := Lib.hid (sl_new fcells_len wr (fldN cl) 86 wr.heap.size rfl)
        have HOa := Lib.hid (HO.out.below hba)
        have HBa := Lib.hid (HB.out.trans (hba.mono HB.out.size))
        clear hba
        go_wp2_with (at_builtin; refine app1Q fcells_len fcells_one (by decide) rfl _ _ 76 rfl w.heap.size 86 _ (by rfl) 40 Tryz.underlying76 infoFz _ [fldN k, fldN o] rfl HOa.out _ (fldN cl) rfl HNew.out (by simp; unfold maxLen; omega) (by simp) HBa.out.size ?_; intro v10 w10 ho hk _ _; obtain ⟨a10, c10, rfl⟩ := ho.slice; have HO10 := Lib.hid ho; have HB10 := Lib.hid (HBa.out.trans hk.toBelow); clear ho hk)
        go_roundw
        case rel => exact ⟨3, by omega, by go_num, HO10.out, HB10.out⟩
        case measure => simp [intOf]
      · have hix : ∀ w, (Instr.index 103 (.agg #[.int .i64 k, .int .i64 o, .int .i64 cl, .int .i64 n, .int .i64 a, .int .i64 b, .int .i64 p, .int .i64 d]) (.int .i64 3)).run Tryz.prog w = .ok (.int .i64 n) w := fun w => by kernel_rfl
        have hba := below_new wr (.cells #[.int .i64 1, .int .i64 n, .string { data := #[] }, .bool false] 86)
        have HNew := Lib.hid (sl_new fcells_len wr (fldN n) 86 wr.heap.size rfl)
        have HOa := Lib.hid (HO.out.below hba)
        have HBa := Lib.hid (HB.out.trans (hba.mono HB.out.size))
        clear hba
        go_wp2_with (at_builtin; refine app1Q fcells_len fcells_one (by decide) rfl _ _ 76 rfl w.heap.size 86 _ (by rfl) 40 Tryz.underlying76 infoFz _ [fldN k, fldN o, fldN cl] rfl HOa.out _ (fldN n) rfl HNew.out (by simp; unfold maxLen; omega) (by simp) HBa.out.size ?_; intro v10 w10 ho hk _ _; obtain ⟨a10, c10, rfl⟩ := ho.slice; have HO10 := Lib.hid ho; have HB10 := Lib.hid (HBa.out.trans hk.toBelow); clear ho hk)
        go_roundw
        case rel => exact ⟨4, by omega, by go_num, HO10.out, HB10.out⟩
        case measure => simp [intOf]
      · have hix : ∀ w, (Instr.index 103 (.agg #[.int .i64 k, .int .i64 o, .int .i64 cl, .int .i64 n, .int .i64 a, .int .i64 b, .int .i64 p, .int .i64 d]) (.int .i64 4)).run Tryz.prog w = .ok (.int .i64 a) w := fun w => by kernel_rfl
        have hba := below_new wr (.cells #[.int .i64 1, .int .i64 a, .string { data := #[] }, .bool false] 86)
        have HNew := Lib.hid (sl_new fcells_len wr (fldN a) 86 wr.heap.size rfl)
        have HOa := Lib.hid (HO.out.below hba)
        have HBa := Lib.hid (HB.out.trans (hba.mono HB.out.size))
        clear hba
        go_wp2_with (at_builtin; refine app1Q fcells_len fcells_one (by decide) rfl _ _ 76 rfl w.heap.size 86 _ (by rfl) 40 Tryz.underlying76 infoFz _ [fldN k, fldN o, fldN cl, fldN n] rfl HOa.out _ (fldN a) rfl HNew.out (by simp; unfold maxLen; omega) (by simp) HBa.out.size ?_; intro v10 w10 ho hk _ _; obtain ⟨a10, c10, rfl⟩ := ho.slice; have HO10 := Lib.hid ho; have HB10 := Lib.hid (HBa.out.trans hk.toBelow); clear ho hk)
        go_roundw
        case rel => exact ⟨5, by omega, by go_num, HO10.out, HB10.out⟩
        case measure => simp [intOf]
      · have hix : ∀ w, (Instr.index 103 (.agg #[.int .i64 k, .int .i64 o, .int .i64 cl, .int .i64 n, .int .i64 a, .int .i64 b, .int .i64 p, .int .i64 d]) (.int .i64 5)).run Tryz.prog w = .ok (.int .i64 b) w := fun w => by kernel_rfl
        have hba := below_new wr (.cells #[.int .i64 1, .int .i64 b, .string { data := #[] }, .bool false] 86)
        have HNew := Lib.hid (sl_new fcells_len wr (fldN b) 86 wr.heap.size rfl)
        have HOa := Lib.hid (HO.out.below hba)
        have HBa := Lib.hid (HB.out.trans (hba.mono HB.out.size))
        clear hba
        go_wp2_with (at_builtin; refine app1Q fcells_len fcells_one (by decide) rfl _ _ 76 rfl w.heap.size 86 _ (by rfl) 40 Tryz.underlying76 infoFz _ [fldN k, fldN o, fldN cl, fldN n, fldN a] rfl HOa.out _ (fldN b) rfl HNew.out (by simp; unfold maxLen; omega) (by simp) HBa.out.size ?_; intro v10 w10 ho hk _ _; obtain ⟨a10, c10, rfl⟩ := ho.slice; have HO10 := Lib.hid ho; have HB10 := Lib.hid (HBa.out.trans hk.toBelow); clear ho hk)
        go_roundw
        case rel => exact ⟨6, by omega, by go_num, HO10.out, HB10.out⟩
        case measure => simp [intOf]
      · have hix : ∀ w, (Instr.index 103 (.agg #[.int .i64 k, .int .i64 o, .int .i64 cl, .int .i64 n, .int .i64 a, .int .i64 b, .int .i64 p, .int .i64 d]) (.int .i64 6)).run Tryz.prog w = .ok (.int .i64 p) w := fun w => by kernel_rfl
        have hba := below_new wr (.cells #[.int .i64 1, .int .i64 p, .string { data := #[] }, .bool false] 86)
        have HNew := Lib.hid (sl_new fcells_len wr (fldN p) 86 wr.heap.size rfl)
        have HOa := Lib.hid (HO.out.below hba)
        have HBa := Lib.hid (HB.out.trans (hba.mono HB.out.size))
        clear hba
        go_wp2_with (at_builtin; refine app1Q fcells_len fcells_one (by decide) rfl _ _ 76 rfl w.heap.size 86 _ (by rfl) 40 Tryz.underlying76 infoFz _ [fldN k, fldN o, fldN cl, fldN n, fldN a, fldN b] rfl HOa.out _ (fldN p) rfl HNew.out (by simp; unfold maxLen; omega) (by simp) HBa.out.size ?_; intro v10 w10 ho hk _ _; obtain ⟨a10, c10, rfl⟩ := ho.slice; have HO10 := Lib.hid ho; have HB10 := Lib.hid (HBa.out.trans hk.toBelow); clear ho hk)
        go_roundw
        case rel => exact ⟨7, by omega, by go_num, HO10.out, HB10.out⟩
        case measure => simp [intOf]
      · have hix : ∀ w, (Instr.index 103 (.agg #[.int .i64 k, .int .i64 o, .int .i64 cl, .int .i64 n, .int .i64 a, .int .i64 b, .int .i64 p, .int .i64 d]) (.int .i64 7)).run Tryz.prog w = .ok (.int .i64 d) w := fun w => by kernel_rfl
        have hba := below_new wr (.cells #[.int .i64 1, .int .i64 d, .string { data := #[] }, .bool false] 86)
        have HNew := Lib.hid (sl_new fcells_len wr (fldN d) 86 wr.heap.size rfl)
        have HOa := Lib.hid (HO.out.below hba)
        have HBa := Lib.hid (HB.out.trans (hba.mono HB.out.size))
        clear hba
        go_wp2_with (at_builtin; refine app1Q fcells_len fcells_one (by decide) rfl _ _ 76 rfl w.heap.size 86 _ (by rfl) 40 Tryz.underlying76 infoFz _ [fldN k, fldN o, fldN cl, fldN n, fldN a, fldN b, fldN p] rfl HOa.out _ (fldN d) rfl HNew.out (by simp; unfold maxLen; omega) (by simp) HBa.out.size ?_; intro v10 w10 ho hk _ _; obtain ⟨a10, c10, rfl⟩ := ho.slice; have HO10 := Lib.hid ho; have HB10 := Lib.hid (HBa.out.trans hk.toBelow); clear ho hk)
        go_roundw
        case rel => exact ⟨8, by omega, by go_num, HO10.out, HB10.out⟩
        case measure => simp [intOf]
    · obtain rfl : i = 8 := by omega
      obtain ⟨a9, c9, rfl⟩ := ho.slice
      have HO := Lib.hid ho; have HB := Lib.hid hbw
      clear ho hbw
      go_wp2
      go_ret
      exact ⟨_, rfl, HO.out, HB.out⟩

theorem inR_iff {x a b : Int} : inR x a b = true ↔ a ≤ x ∧ x ≤ b := by unfold inR; simp
theorem osd_eq {c : IncV} (h : c = osdOf c) : c.client = 0 ∧ c.pool = noPool := by
  obtain ⟨k, o, cl, n, a, b, p, d⟩ := c
  simp [osdOf] at h
  exact ⟨h.1, h.2⟩
theorem pool_eq {c : IncV} (h : c = poolOf c) : c.osd = 0 ∧ c.client = 0 ∧ c.num = 0 := by
  obtain ⟨k, o, cl, n, a, b, p, d⟩ := c
  simp [poolOf] at h
  exact ⟨h.1, h.2.1, h.2.2⟩
theorem ban_eq {c : IncV} (h : c = banOfI c) : c.osd = 0 ∧ c.pool = noPool := by
  obtain ⟨k, o, cl, n, a, b, p, d⟩ := c
  simp [banOfI] at h
  exact ⟨h.1, h.2⟩
/-- The numbers of a change that is one. -/
theorem okInc_nums {c : IncV} (h : okInc c = true) : ∀ n ∈ nums c, 0 ≤ n ∧ n ≤ 1073741824 := by
  have hk : 1 ≤ c.kind ∧ c.kind ≤ 6 := by
    unfold okInc at h
    repeat' split at h
    all_goals first | (cases h; done) | omega
  have hall : (0 ≤ c.osd ∧ c.osd ≤ 7) ∧ (0 ≤ c.client ∧ c.client ≤ 3) ∧ (0 ≤ c.num ∧ c.num ≤ 1073741824) ∧ (0 ≤ c.pool.size ∧ c.pool.size ≤ 3) ∧ (0 ≤ c.pool.min ∧ c.pool.min ≤ 3) ∧ (0 ≤ c.pool.pgs ∧ c.pool.pgs ≤ 8) ∧ (0 ≤ c.pool.dom ∧ c.pool.dom ≤ 2) := by
    unfold okInc isOsd okBoot okWeight okId okPool okBan okBoot at h
    split at h
    · simp only [Bool.and_eq_true, decide_eq_true_iff, inR_iff] at h
      obtain ⟨h1, h2⟩ := osd_eq h.1.1
      rw [h1, h2]; simp only [noPool]; omega
    · split at h
      · simp only [Bool.and_eq_true, decide_eq_true_iff, inR_iff] at h
        obtain ⟨h1, h2⟩ := osd_eq h.1.1
        rw [h1, h2]; simp only [noPool]; omega
      · split at h
        · simp only [Bool.and_eq_true, decide_eq_true_iff, inR_iff] at h
          obtain ⟨h1, h2⟩ := osd_eq h.1.1
          rw [h1, h2]; simp only [noPool]; omega
        · split at h
          · simp only [Bool.and_eq_true, decide_eq_true_iff, inR_iff] at h
            obtain ⟨h1, h2, h3⟩ := pool_eq h.1
            rw [h1, h2, h3]; omega
          · split at h
            · simp only [Bool.and_eq_true, decide_eq_true_iff, inR_iff] at h
              obtain ⟨h1, h2⟩ := ban_eq h.1
              rw [h1, h2]; simp only [noPool]; omega
            · cases h
  intro n hn
  simp only [nums, List.mem_cons, List.not_mem_nil, or_false] at hn
  rcases hn with rfl | rfl | rfl | rfl | rfl | rfl | rfl | rfl <;> omega
theorem fldN_ok {n : Int} (h : 0 ≤ n ∧ n ≤ 1073741824) : (fldN n).Ok ∧ (fldN n).fit = true := by
  refine ⟨⟨by show (-9223372036854775808 : Int) ≤ 1; decide, by show (1 : Int) ≤ 9223372036854775807; decide, by show _ ≤ n; omega, by show n ≤ _; omega, by show (0 : Nat) ≤ maxLen; unfold maxLen; omega⟩, ?_⟩
  unfold Fld.fit fldN
  have h0 := h.1
  simp [h0]
theorem flds_ok {c : IncV} (h : okInc c = true) : ∀ f ∈ flds c, f.fit = true ∧ f.Ok := by
  intro f hf
  obtain ⟨n, hn, rfl⟩ := List.mem_map.1 hf
  exact ⟨(fldN_ok (okInc_nums h n hn)).2, (fldN_ok (okInc_nums h n hn)).1⟩
theorem fldN_bytes (n : Int) : (fldN n).bytes = Go.Proofs.YtoeklnmmnmmjeaaGreat.cm.numB n.toNat := by unfold Fld.bytes fldN; rw [if_pos rfl]
theorem flds_len (c : IncV) : ((flds c).flatMap Fld.bytes).length ≤ 80 := by
  have h : ∀ l : List Int, ((l.map fldN).flatMap Fld.bytes).length ≤ l.length * 10 := by
    intro l
    induction l with
    | nil => simp
    | cons x r ih =>
      rw [List.map_cons, List.flatMap_cons, List.length_append, fldN_bytes]
      have := Go.Proofs.YtoeklnmmnmmjeaaGreat.cm.numB_len x.toNat
      simp only [List.length_cons]
      omega
  have := h (nums c)
  simp only [nums, List.length_cons, List.length_nil] at this
  exact this
/-- A change's text. -/
def incT (c : IncV) : ByteArray := strOfNums (((flds c).flatMap Fld.bytes).map fun n : Nat => (n : Int))
def encE (c : IncV) : ByteArray := if okInc c then incT c else { data := #[] }

set_option maxHeartbeats 8000000 in
theorem Encode_any (c : IncV) (w : World) : Calls Tryz.prog 22 #[c.val] w fun e w' => e = .returned (.string (encE c)) ∧ Below w.heap.size w w' := by
  have HI := Lib.hid (fun w => Inc_any c w)
  have HF := Lib.hid (fun w => fields_any c w)
  have HX := Lib.hid (ibx_new w c)
  have HB := Lib.hid (below_new w (.cells #[.int .i64 c.kind, .int .i64 c.osd, .int .i64 c.client, .int .i64 c.num, .int .i64 c.pool.size, .int .i64 c.pool.min, .int .i64 c.pool.pgs, .int .i64 c.pool.dom] 31))
  have HE := Lib.hid (show ∀ q, okInc c = q → (q = true → encE c = strOfNums ((Go.Proofs.YtoeklnmmnmmjeaaGreat.cm.bytesL (flds c)).map fun n : Nat => (n : Int))) ∧ (q = false → encE c = { data := #[] }) from fun q hq => by
    subst hq
    refine ⟨fun h => ?_, fun h => by unfold encE; rw [h]; rfl⟩
    have hf : Go.Proofs.YtoeklnmmnmmjeaaGreat.cm.fits (flds c) = true := List.all_eq_true.2 fun f hf => (flds_ok h f hf).1
    unfold encE incT Go.Proofs.YtoeklnmmnmmjeaaGreat.cm.bytesL
    rw [if_pos h, if_pos hf])
  have HC := Lib.hid (fun (h : okInc c = true) (sl : Value) (w : World) (hs : SlF w sl (flds c)) => Go.Proofs.YtoeklnmmnmmjeaaGreat.code.Fields_any sl (flds c) w hs (fun f hf => (flds_ok h f hf).2) (by have := flds_len c; omega) (fun f hf => by obtain ⟨n, _, rfl⟩ := List.mem_map.1 hf; show (0 : Nat) ≤ _; omega))
  obtain ⟨q, hq⟩ : ∃ q, okInc c = q := ⟨_, rfl⟩
  have HE2 := Lib.hid (HE.out q hq)
  rw [hq] at HI
  simp only [hq] at HC
  generalize encE c = ee at HE2 ⊢
  generalize flds c = fl at HF HE2 HC
  unfold IncV.val at HI HF ⊢
  clear HE hq
  go_enter Tryz.func22, Tryz.ntmps22
  cases q with
  | false =>
    have he := Lib.hid (HE2.out.2 rfl)
    go_wp2_with (go_at_call 20; refine (HI.out _).mono ?_; rintro e w5 ⟨rfl, hb⟩; have HB5 := Lib.hid (HB.out.trans (hb.mono HB.out.size)); clear hb)
    go_ret
    exact ⟨by rw [he.out]; rfl, HB5.out⟩
  | true =>
    have he := Lib.hid (HE2.out.1 rfl)
    go_wp2_with (first
      | (go_at_call 20; refine (HI.out _).mono ?_; rintro e w5 ⟨rfl, hb⟩; have HB5 := Lib.hid (HB.out.trans (hb.mono HB.out.size)); obtain ⟨c0, c1, c2, c3, c4, c5, c6, c7⟩ := (HX.out.keep hb).cells; clear hb)
      | (go_at_call 78; refine (HF.out _).mono ?_; rintro e w6 ⟨v6, rfl, ho, hb⟩; obtain ⟨a6, c6', rfl⟩ := ho.slice; have HB6 := Lib.hid (HB5.out.trans (hb.mono HB5.out.size)); have HO6 := Lib.hid (ho.read fcells_len); clear hb ho)
      | (go_at_call 77; refine (HC.out (by first | trivial | rfl) _ w6 (slF_of HO6.out)).mono ?_; rintro e w7 ⟨v7, rfl, ho, hb⟩; have HB7 := Lib.hid (HB6.out.trans (hb.mono HB6.out.size)); have hconv := conv_bytes (P := Tryz.prog) 79 5 9 Tryz.underlying79 Tryz.underlying5 Tryz.underlying9 ho.read; clear hb ho))
    go_ret
    exact ⟨by rw [he.out]; rfl, HB7.out⟩
end Go.Proofs.YtoeklnmmnmmjeaaGreat.crush

namespace Go.Proofs.YtoeklnmmnmmjeaaGreat.code
open Go.RowKit
open Go.Proofs.YtoeklnmmnmmjeaaGreat.kit Go.Proofs.YtoeklnmmnmmjeaaGreat.cm
set_option linter.unusedVariables false

set_option maxHeartbeats 4000000 in
set_option maxRecDepth 100000 in
theorem rnumber_any (x : Nat) (hx : x < 18446744073709551616) (B : Nat) (v : Value) (ns : List Nat) (w : World) (hown : OwnI w B 5 .u8 v ns) (hB : B ≤ w.heap.size) (hlen : ns.length ≤ 1000000000000) :
    Calls Tryz.prog 161 #[v, .int .u64 x] w (Lays w B (ns ++ numB x)) := by
  have HH := Lib.hid hown; have HB := Lib.hid hB
  have HX := Lib.hid (show x < 128 ^ 10 by omega)
  have H64 := Lib.hid hx
  clear hown hB hx
  go_enter Tryz.func161, Tryz.ntmps161
  go_wp2
  go_loopw [0, 1] (fun v' vx wr => ∃ (k y : Nat) (acc : List Nat), k ≤ 9 ∧ y < 18446744073709551616 ∧ y < 128 ^ (10 - k) ∧ vx = .int .u64 y ∧ OwnI wr B 5 .u8 v' acc ∧ acc ++ numF (10 - k) y = ns ++ numB x ∧ acc.length = ns.length + k ∧ Kept B 5 w wr) (fun _ i _ => (intOf i).toNat)
  case atStart => exact ⟨0, x, ns, by omega, H64.out, HX.out, rfl, HH.out, rfl, rfl, Kept.refl _ _ _⟩
  case round =>
    obtain ⟨k, y, acc, hk, hy, hyk, rfl, ho, he, hl, hkp⟩ := hrel
    have HO := Lib.hid ho; have HE := Lib.hid he; have HK := Lib.hid hkp; have HYK := Lib.hid hyk; have HY := Lib.hid hy
    have hsz : B ≤ wr.heap.size := Nat.le_trans HB.out hkp.size
    clear ho he hkp hyk hy
    by_cases h128 : 128 ≤ y
    · have h128' : (128 : Int) ≤ y := by omega
      obtain ⟨c, hc⟩ : ∃ c : Nat, c = y % 128 + 128 := ⟨_, rfl⟩
      obtain ⟨z, hz⟩ : ∃ z : Nat, z = y / 128 := ⟨_, rfl⟩
      have r1 : True → (y : Int) % 128 + 128 = (c : Int) := fun _ => by omega
      have r2 : True → (y : Int) / 128 = (z : Int) := fun _ => by omega
      have r3 : True → (c : Int) % 256 = (c : Int) := fun _ => by omega
      have r4 : True → IntKind.u64.wrap (z : Int) = (z : Int) := fun _ => wrap_nat z (by have := HY.out; omega)
      have HC := Lib.hid hc; have HZ := Lib.hid hz
      have hzy : z < y := by omega
      clear hc hz
      go_wp2_with (at_builtin; refine app1K rfl (.tmp 7) (.tmp 12) 79 rfl B 5 .u8 1 Tryz.underlying79 infoByte _ acc rfl HO.out c _ rfl _ rfl rfl ?_ ?_ hsz ?_)
      case refine_1 => unfold maxLen; omega
      case refine_2 => omega
      intro v1 w1 ho1 hk1
      have HO1 := Lib.hid ho1; have HK1 := Lib.hid (HK.out.trans hk1)
      clear ho1 hk1
      go_wp2
      go_roundw
      case rel =>
        have hk8 : k ≤ 8 := by
          have h1 := HYK.out
          rcases Nat.lt_or_ge k 9 with g | g
          · omega
          · obtain rfl : k = 9 := by omega
            simp at h1; omega
        have e1 := HE.out
        rw [show 10 - k = 10 - (k + 1) + 1 by omega, numF, if_neg (by omega), ← HC.out, ← HZ.out] at e1
        refine ⟨k + 1, z, acc ++ [c], by omega, by have := HY.out; omega, ?_, rfl, HO1.out, by rw [List.append_assoc]; exact e1, by rw [List.length_append, hl]; rfl, HK1.out⟩
        have h1 := HYK.out
        rw [show 10 - k = 10 - (k + 1) + 1 by omega, Nat.pow_succ] at h1
        rw [HZ.out]
        exact Nat.div_lt_of_lt_mul (by rw [Nat.mul_comm]; exact h1)
      case measure => simp [intOf]; omega
    · have h128' : ¬ (128 : Int) ≤ y := by omega
      have r1 : True → (y : Int) % 256 = (y : Int) := fun _ => by omega
      go_wp2_with (at_builtin; refine app1K rfl (.tmp 16) (.tmp 19) 79 rfl B 5 .u8 1 Tryz.underlying79 infoByte _ acc rfl HO.out y _ rfl _ rfl rfl ?_ ?_ hsz ?_)
      case refine_1 => unfold maxLen; omega
      case refine_2 => omega
      intro v1 w1 ho1 hk1
      have HO1 := Lib.hid ho1; have HK1 := Lib.hid (HK.out.trans hk1)
      clear ho1 hk1
      go_wp2
      go_ret
      have e1 := HE.out
      rw [show 10 - k = 10 - (k + 1) + 1 by omega, numF, if_pos (by omega)] at e1
      exact ⟨⟨v1, rfl, by rw [← e1]; exact HO1.out⟩, HK1.out⟩

set_option maxHeartbeats 4000000 in
set_option maxRecDepth 100000 in
theorem rzig_any (x : Int) (h0 : -9223372036854775808 ≤ x) (h1 : x ≤ 9223372036854775807) (w : World) : Calls Tryz.prog 162 #[.int .i64 x] w fun e w' => e = .returned (.int .u64 (zig x)) ∧ w = w' := by
  by_cases hx : x < 0
  · go_enter Tryz.func162, Tryz.ntmps162
    go_wp2
    go_ret
    exact ⟨ret_int (by unfold zig; rw [if_pos hx]; omega), rfl⟩
  · go_enter Tryz.func162, Tryz.ntmps162
    go_wp2
    go_ret
    exact ⟨ret_int (by unfold zig; rw [if_neg (by omega)]; omega), rfl⟩

end Go.Proofs.YtoeklnmmnmmjeaaGreat.code

namespace Go.Proofs.YtoeklnmmnmmjeaaGreat.code
open Go.RowKit
open Go.Proofs.YtoeklnmmnmmjeaaGreat.kit Go.Proofs.YtoeklnmmnmmjeaaGreat.cm Go.Proofs.YtoeklnmmnmmjeaaGreat.iter
set_option linter.unusedVariables false
attribute [local go_sem] Oper.semAt_some

set_option maxHeartbeats 4000000 in
set_option maxRecDepth 100000 in
theorem fields_any (sl : Value) (fs : List Fld) (w : World) (hs : SlF w sl fs) (hok : ∀ f ∈ fs, f.Ok) (hlen : (fs.flatMap Fld.bytes).length ≤ 800000000000) (htx : ∀ f ∈ fs, f.text.size ≤ 100000000000) :
    Calls Tryz.prog 77 #[sl] w fun e w' => ∃ v, e = .returned v ∧ OwnI w' w.heap.size 5 .u8 v (bytesL fs) ∧ Below w.heap.size w w' := by
  have H := Lib.hid (write_putField sl fs w hs hok hlen htx)
  clear hs hok hlen htx
  go_enter Tryz.func77, Tryz.ntmps77
  go_wp2_with fail
  refine H.out.mono ?_
  rintro e w' ⟨v, rfl, ho, hb⟩
  have HO := Lib.hid ho; have HB := Lib.hid hb
  clear ho hb H
  go_wp2
  go_ret
  exact ⟨v, rfl, HO.out, HB.out⟩

end Go.Proofs.YtoeklnmmnmmjeaaGreat.code

namespace Go.Proofs.YtoeklnmmnmmjeaaGreat.code
open Go.RowKit
open Go.Proofs.YtoeklnmmnmmjeaaGreat.kit Go.Proofs.YtoeklnmmnmmjeaaGreat.cm
set_option linter.unusedVariables false

/-- 'append(v, s...)' of a text. -/
theorem app_str {P : Program} {wr : World} {ops : Array Oper} {rest : List Oper} {o : Oper} {a : Act} {Q : Exit → Act → World → Prop} (hgd : o.guard = none) (s x : Operand) (t u : TypeId)
    (ho : o.op = .call { callee := .builtin .append, args := #[s, x], argTypes := #[t, u] })
    (B e : Nat) (ht : P.underlying t = some (.slice e)) (hu : P.underlying u = some .string) (hi : (P.info? e).map (fun i => (i.zero, i.size, i.bytes)) = some (some (.int .u8 0), 1, 1))
    (v : Value) (ns : List Nat) (hs : a.eval s = v) (hown : OwnI wr B e .u8 v ns) (str : ByteArray) (hx : a.eval x = .string str)
    (h63 : ns.length + str.size ≤ maxLen) (hb : ns.length + str.size ≤ 140737488355328) (hB : B ≤ wr.heap.size)
    (h : ∀ v' w', OwnI w' B e .u8 v' (ns ++ txtN str) → Kept B e wr w' → wpList P ops Q rest (a.put o.dst v') w') : wpList P ops Q (o :: rest) a wr := by
  obtain ⟨i0, hi, hz0, hz1, hz2⟩ := info_parts hi
  refine Lib.wpList_append_own_string wr hgd s x t u ho B e i0 ht hu hi hz0 hz1 hz2 v ns.length (ns.map fun n : Nat => Value.int .u8 (n : Int)) hs hown str hx h63 hb hB ?_
  intro v' w' h2 h3 _
  refine h v' w' ?_ (Kept.grown hB hown h3)
  unfold OwnI
  rw [strCells_txt] at h2
  rw [List.length_append, txtN_len, List.map_append]
  exact h2

set_option maxHeartbeats 4000000 in
set_option maxRecDepth 100000 in
theorem rone_any (f : Fld) (hf : f.Ok) (hfit : f.fit = true) (hs : f.text.size ≤ 100000000000) (B : Nat) (v : Value) (ns : List Nat) (w : World) (hown : OwnI w B 5 .u8 v ns) (hB : B ≤ w.heap.size) (hlen : ns.length ≤ 900000000000) :
    Calls Tryz.prog 120 #[v, f.val] w (Lays w B (ns ++ f.bytes)) := by
  obtain ⟨k, n, t, b⟩ := f
  obtain ⟨k0, k1, n0, n1, ht⟩ := hf
  have hbel : Below w.heap.size w (w.alloc (.cells #[.int .i64 k, .int .i64 n, .string t, .bool b] 86)) := (Below.refl _ _).alloc (Nat.le_refl _) _
  have hk0 := Kept.of_below (e := 5) hB hbel
  have hc0 := heap_alloc_last w (.cells #[.int .i64 k, .int .i64 n, .string t, .bool b] 86)
  have HO := Lib.hid (hown.below hbel)
  have HB := Lib.hid hB
  have HS := Lib.hid (Nat.le_trans hB hbel.size)
  have HK := Lib.hid hk0
  have HC := Lib.hid hc0
  clear hown hB hbel hk0 hc0
  simp only [Fld.fit] at hfit
  simp only at k0 k1 n0 n1 ht hs
  unfold Fld.val Fld.bytes
  simp only
  by_cases h1 : k = 1
  · subst h1
    simp at hfit
    obtain ⟨x, rfl⟩ : ∃ x : Nat, n = x := ⟨n.toNat, by omega⟩
    have hw : True → IntKind.u64.wrap (x : Int) = (x : Int) := fun _ => wrap_nat x (by omega)
    have HX := Lib.hid (show x < 18446744073709551616 by omega)
    clear n0 n1 hfit k0 k1
    go_enter Tryz.func120, Tryz.ntmps120
    go_wp2_with fail
    refine (rnumber_any x HX.out B v ns _ HO.out HS.out (by omega)).mono ?_
    rintro e w1 ⟨⟨v', rfl, ho⟩, hk⟩
    have HO1 := Lib.hid ho; have HK1 := Lib.hid (HK.out.trans hk)
    clear ho hk
    go_wp2
    go_ret
    exact ⟨⟨v', rfl, by simpa using HO1.out⟩, HK1.out⟩
  by_cases h2 : k = 2
  · subst h2
    have HN0 := Lib.hid n0; have HN1 := Lib.hid n1
    clear n0 n1 hfit k0 k1 h1
    go_enter Tryz.func120, Tryz.ntmps120
    go_wp2_with fail
    refine (rzig_any n HN0.out HN1.out _).mono ?_
    rintro e w1 ⟨rfl, rfl⟩
    go_wp2_with fail
    refine (rnumber_any (zig n) (zig_lt n HN0.out HN1.out) B v ns _ HO.out HS.out (by omega)).mono ?_
    rintro e w1 ⟨⟨v', rfl, ho⟩, hk⟩
    have HO1 := Lib.hid ho; have HK1 := Lib.hid (HK.out.trans hk)
    clear ho hk
    go_wp2
    go_ret
    exact ⟨⟨v', rfl, by simpa using HO1.out⟩, HK1.out⟩
  by_cases h3 : k = 3
  · subst h3
    simp at hfit
    obtain ⟨x, rfl⟩ : ∃ x : Nat, n = x := ⟨n.toNat, by omega⟩
    have HX := Lib.hid (show x < 4294967296 by omega)
    have hx := HX.out
    clear n0 n1 hfit k0 k1 h1 h2
    go_enter Tryz.func120, Tryz.ntmps120
    go_wp2_with (at_builtin; refine appN rfl (.tmp 23) (.tmp 39) 79 rfl B 5 .u8 1 Tryz.underlying79 infoByte v ns rfl (HO.out.below ((Below.refl _ _).alloc (Nat.le_refl _) _)) (w.heap.size + 1) 0 4 4 (lowB x) rfl rfl ?_ ?_ ?_ ?_ ?_)
    case refine_1 =>
      intro j hj
      rw [World.cell?_alloc_at _ _ _ _ (by simp)]
      match j, hj with
      | 0, _ => simp [lowB]
      | 1, _ => simp [lowB]
      | 2, _ => simp [lowB]
      | 3, _ => simp [lowB, Nat.mod_eq_of_lt (show x / 16777216 < 256 by omega)]
    case refine_2 => unfold maxLen; omega
    case refine_3 => omega
    case refine_4 => have := HS.out; rw [World.size_alloc]; omega
    intro v' w' ho hk
    have HO1 := Lib.hid ho; have HK1 := Lib.hid (HK.out.trans ((Kept.of_below HS.out ((Below.refl _ _).alloc (Nat.le_refl _) _)).trans hk))
    clear ho hk
    go_wp2
    go_ret
    exact ⟨⟨v', rfl, by simpa using HO1.out⟩, HK1.out⟩
  by_cases h4 : k = 4
  · subst h4
    have hw : True → IntKind.u64.wrap (t.size : Int) = (t.size : Int) := fun _ => wrap_nat t.size (by omega)
    have HT := Lib.hid (show t.size < 18446744073709551616 by omega)
    have HL := Lib.hid (show ns.length ≤ 1000000000000 by omega)
    have hnb := numB_len t.size
    clear n0 n1 hfit k0 k1 h1 h2 h3
    go_enter Tryz.func120, Tryz.ntmps120
    go_wp2_with fail
    refine (rnumber_any t.size HT.out B v ns _ HO.out HS.out HL.out).mono ?_
    rintro e w1 ⟨⟨v1, rfl, ho1⟩, hk1⟩
    have hc1 : w1.cell? ⟨w.heap.size, 2, none⟩ = some (.string t) := Kept.boxCell hk1 (show (86 : Nat) ≠ 5 by decide) HC.out 2
    have hsz1 : B ≤ w1.heap.size := Nat.le_trans HS.out hk1.size
    have HO1 := Lib.hid ho1; have HK1 := Lib.hid (HK.out.trans hk1)
    clear ho1 hk1
    go_wp2_with (at_builtin; refine app_str rfl (.tmp 49) (.tmp 51) 79 9 rfl B 5 Tryz.underlying79 Tryz.underlying9 infoByte v1 _ rfl HO1.out t rfl ?_ ?_ hsz1 ?_)
    case refine_1 => rw [List.length_append]; unfold maxLen; omega
    case refine_2 => rw [List.length_append]; omega
    intro v2 w2 ho2 hk2
    have HO2 := Lib.hid ho2; have HK2 := Lib.hid (HK1.out.trans hk2)
    clear ho2 hk2
    go_wp2
    go_ret
    exact ⟨⟨v2, rfl, HO2.out⟩, HK2.out⟩
  have h5 : k = 5 := by
    rcases Decidable.em (k = 5) with h | h
    · exact h
    · simp [h1, h2, h3, h4, h] at hfit
  subst h5
  clear n0 n1 hfit k0 k1 h1 h2 h3 h4
  cases b with
  | true =>
    go_enter Tryz.func120, Tryz.ntmps120
    go_wp2_with (at_builtin; refine app1K rfl (.tmp 55) (.tmp 56) 79 rfl B 5 .u8 1 Tryz.underlying79 infoByte v ns rfl HO.out 1 1 (by decide) (w.heap.size + 1) (by simp) rfl ?_ ?_ HS.out ?_)
    case refine_1 => unfold maxLen; omega
    case refine_2 => omega
    intro v1 w1 ho hk
    have HO1 := Lib.hid ho; have HK1 := Lib.hid (HK.out.trans hk)
    clear ho hk
    go_wp2
    go_ret
    exact ⟨⟨v1, rfl, by simpa [flagB, flagN] using HO1.out⟩, HK1.out⟩
  | false =>
    go_enter Tryz.func120, Tryz.ntmps120
    go_wp2_with (at_builtin; refine app1K rfl (.tmp 58) (.tmp 59) 79 rfl B 5 .u8 1 Tryz.underlying79 infoByte v ns rfl HO.out 0 0 (by decide) (w.heap.size + 1) (by simp) rfl ?_ ?_ HS.out ?_)
    case refine_1 => unfold maxLen; omega
    case refine_2 => omega
    intro v1 w1 ho hk
    have HO1 := Lib.hid ho; have HK1 := Lib.hid (HK.out.trans hk)
    clear ho hk
    go_wp2
    go_ret
    exact ⟨⟨v1, rfl, by simpa [flagB, flagN] using HO1.out⟩, HK1.out⟩

end Go.Proofs.YtoeklnmmnmmjeaaGreat.code

namespace Go.Proofs.YtoeklnmmnmmjeaaGreat.code
open Go.RowKit
open Go.Proofs.YtoeklnmmnmmjeaaGreat.kit Go.Proofs.YtoeklnmmnmmjeaaGreat.cm
set_option linter.unusedVariables false

set_option maxHeartbeats 4000000 in
set_option maxRecDepth 100000 in
theorem rfits_any (sl : Value) (fs : List Fld) (w : World) (hs : SlF w sl fs) :
    Calls Tryz.prog 119 #[sl] w fun e w' => e = .returned (.bool (fits fs)) ∧ Below w.heap.size w w' := by
  obtain ⟨hl, a, cap, rfl, hc⟩ := id hs
  have HS := Lib.hid hs
  obtain ⟨L, hL⟩ : ∃ L, fs.length = L := ⟨_, rfl⟩
  have HL := Lib.hid hL
  rw [hL] at hl ⊢
  clear hs hc hL
  go_enter Tryz.func119, Tryz.ntmps119
  go_wp2
  go_loopw [3] (fun i wr => ∃ k : Nat, k ≤ L ∧ i = .int .i64 k ∧ (fs.take k).all Fld.fit = true ∧ Below w.heap.size w wr) (fun i _ => L - (intOf i).toNat)
  case atStart => exact ⟨0, by omega, rfl, rfl, Below.refl _ _⟩
  case round =>
    obtain ⟨k, hk, rfl, hfit, hb⟩ := hrel
    have HB := Lib.hid hb; have HFit := Lib.hid hfit
    clear hb hfit
    by_cases hlt : k < L
    · have hlt' : (k : Int) < L := by omega
      have hi : k < fs.length := by rw [HL.out]; exact hlt
      have hs2 : SlF wr (.slice a fs.length cap) fs := HS.out.below HB.out
      obtain ⟨_, a', cap', he, hcell⟩ := hs2
      cases he
      obtain ⟨b, off, rfl, hbl, hcell⟩ := hcell (by omega)
      obtain ⟨h1, h2, h3, h4⟩ := hcell k hi
      obtain ⟨f, hf⟩ : ∃ f, fs[k] = f := ⟨_, rfl⟩
      rw [hf] at h1 h2 h3 h4
      have HF := Lib.hid hf
      clear hcell hf
      go_wp2_with fail
      refine (rfit_any f wr).mono ?_
      rintro e w2 ⟨rfl, hb2⟩
      have HB2 := Lib.hid (HB.out.trans (hb2.mono HB.out.size))
      clear hb2 h1 h2 h3 h4
      by_cases hft : f.fit = true
      · rw [hft]
        go_wp2
        go_roundw
        case rel => exact ⟨k + 1, by omega, by go_num, by rw [take_next (by rw [HL.out]; exact hlt) HF.out, List.all_append, HFit.out]; simp [hft], HB2.out⟩
        case measure => simp [intOf]; omega
      · have hft' : f.fit = false := by simpa using hft
        rw [hft']
        go_wp2
        go_ret
        refine ⟨?_, HB2.out⟩
        have : fits fs = false := by
          have hm : f ∈ fs := by rw [← HF.out]; exact List.getElem_mem _
          cases hq : fits fs with
          | false => rfl
          | true => exact absurd (List.all_eq_true.1 hq f hm) (by simp [hft'])
        rw [this]; rfl
    · obtain rfl : k = L := by omega
      go_wp2
      go_ret
      refine ⟨?_, HB.out⟩
      have h := HFit.out
      rw [← HL.out, List.take_length] at h
      rw [show fits fs = true from h]; rfl

set_option maxHeartbeats 4000000 in
set_option maxRecDepth 100000 in
theorem rFields_any (sl : Value) (fs : List Fld) (w : World) (hs : SlF w sl fs) (hok : ∀ f ∈ fs, f.Ok) (hlen : (fs.flatMap Fld.bytes).length ≤ 800000000000) (htx : ∀ f ∈ fs, f.text.size ≤ 100000000000) :
    Calls Tryz.prog 79 #[sl] w fun e w' => ∃ v, e = .returned v ∧ OwnI w' w.heap.size 5 .u8 v (bytesL fs) ∧ Below w.heap.size w w' := by
  obtain ⟨hl, a, cap, rfl, hc⟩ := id hs
  have HS := Lib.hid hs; have HOK := Lib.hid hok; have HTX := Lib.hid htx
  obtain ⟨L, hL⟩ : ∃ L, fs.length = L := ⟨_, rfl⟩
  have HL := Lib.hid hL
  rw [hL] at hl ⊢
  clear hs hok htx hc hL
  go_enter Tryz.func79, Tryz.ntmps79
  go_wp2_with fail
  refine (rfits_any _ fs w (by have := HS.out; rwa [HL.out] at this)).mono ?_
  rintro e w1 ⟨rfl, hb1⟩
  have HB1 := Lib.hid hb1
  clear hb1
  by_cases hft : fits fs = true
  · rw [hft]
    have HFT := Lib.hid hft
    clear hft
    go_wp2
    go_loopw [3, 4] (fun v' i wr => ∃ k : Nat, k ≤ L ∧ i = .int .i64 k ∧ OwnI wr w.heap.size 5 .u8 v' ((fs.take k).flatMap Fld.bytes) ∧ Below w.heap.size w wr) (fun _ i _ => L - (intOf i).toNat)
    case atStart => exact ⟨0, by omega, rfl, OwnI.nil _ _ _ _, HB1.out⟩
    case round =>
      obtain ⟨k, hk, rfl, ho, hb⟩ := hrel
      have HB := Lib.hid hb; have HO := Lib.hid ho
      clear ho hb
      by_cases hlt : k < L
      · have hlt' : (k : Int) < L := by omega
        have hi : k < fs.length := by rw [HL.out]; exact hlt
        have hs2 : SlF wr (.slice a fs.length cap) fs := HS.out.below HB.out
        obtain ⟨_, a', cap', he, hcell⟩ := hs2
        cases he
        obtain ⟨b, off, rfl, hbl, hcell⟩ := hcell (by omega)
        obtain ⟨h1, h2, h3, h4⟩ := hcell k hi
        obtain ⟨f, hf⟩ : ∃ f, fs[k] = f := ⟨_, rfl⟩
        rw [hf] at h1 h2 h3 h4
        have hmem : f ∈ fs := by rw [← hf]; exact List.getElem_mem _
        have hokf := Lib.hid (HOK.out f hmem); have htxf := Lib.hid (HTX.out f hmem)
        have hff := Lib.hid (show f.fit = true from List.all_eq_true.1 HFT.out f hmem)
        have HLF := Lib.hid (show ((fs.take k).flatMap Fld.bytes).length ≤ 900000000000 by
          have h1 : fs.flatMap Fld.bytes = (fs.take k).flatMap Fld.bytes ++ (fs.drop k).flatMap Fld.bytes := by rw [← List.flatMap_append, List.take_append_drop]
          rw [h1, List.length_append] at hlen
          omega)
        have HF := Lib.hid hf
        clear hcell hf hmem
        go_wp2_with fail
        refine (rone_any f hokf.out hff.out htxf.out w.heap.size _ _ wr HO.out HB.out.size HLF.out).mono ?_
        rintro e w2 ⟨⟨v2, rfl, ho2⟩, hk2⟩
        have HO2 := Lib.hid ho2; have HB2 := Lib.hid (HB.out.trans hk2.toBelow)
        clear ho2 hk2 h1 h2 h3 h4
        go_wp2
        go_roundw
        case rel => exact ⟨k + 1, by omega, by go_num, by rw [take_next (by rw [HL.out]; exact hlt) HF.out, List.flatMap_append]; simpa using HO2.out, HB2.out⟩
        case measure => simp [intOf]; omega
      · obtain rfl : k = L := by omega
        go_wp2
        go_ret
        refine ⟨_, rfl, ?_, HB.out⟩
        rw [bytesL, if_pos HFT.out]
        have h := HO.out
        rw [← HL.out, List.take_length] at h
        exact h
  · have hft' : fits fs = false := by simpa using hft
    rw [hft']
    go_wp2
    go_ret
    refine ⟨_, rfl, ?_, HB1.out⟩
    rw [bytesL, if_neg hft]
    exact OwnI.nil _ _ _ _

end Go.Proofs.YtoeklnmmnmmjeaaGreat.code

namespace Go.Proofs.YtoeklnmmnmmjeaaGreat.crush
open Go.RowKit
open Go.Proofs.YtoeklnmmnmmjeaaGreat.kit Go.Proofs.YtoeklnmmnmmjeaaGreat.own
open Go.Proofs.YtoeklnmmnmmjeaaGreat.cm (Fld)
open Go.Proofs.YtoeklnmmnmmjeaaGreat.code (fcells infoFz SlF)
set_option linter.unusedVariables false

set_option maxHeartbeats 16000000 in
set_option maxRecDepth 100000 in
theorem rEncode_any (c : IncV) (w : World) : Calls Tryz.prog 23 #[c.val] w fun e w' => e = .returned (.string (encE c)) ∧ Below w.heap.size w w' := by
  have HI := Lib.hid (fun w => rInc_any c w)
  have HX := Lib.hid (ibx_new w c)
  have HB := Lib.hid (below_new w (.cells #[.int .i64 c.kind, .int .i64 c.osd, .int .i64 c.client, .int .i64 c.num, .int .i64 c.pool.size, .int .i64 c.pool.min, .int .i64 c.pool.pgs, .int .i64 c.pool.dom] 31))
  have HE := Lib.hid (show ∀ q, okInc c = q → (q = true → encE c = strOfNums ((Go.Proofs.YtoeklnmmnmmjeaaGreat.cm.bytesL (flds c)).map fun n : Nat => (n : Int))) ∧ (q = false → encE c = { data := #[] }) from fun q hq => by
    subst hq
    refine ⟨fun h => ?_, fun h => by unfold encE; rw [h]; rfl⟩
    have hf : Go.Proofs.YtoeklnmmnmmjeaaGreat.cm.fits (flds c) = true := List.all_eq_true.2 fun f hf => (flds_ok h f hf).1
    unfold encE incT Go.Proofs.YtoeklnmmnmmjeaaGreat.cm.bytesL
    rw [if_pos h, if_pos hf])
  have HC := Lib.hid (fun (h : okInc c = true) (sl : Value) (w : World) (hs : SlF w sl (flds c)) => Go.Proofs.YtoeklnmmnmmjeaaGreat.code.rFields_any sl (flds c) w hs (fun f hf => (flds_ok h f hf).2) (by have := flds_len c; omega) (fun f hf => by obtain ⟨n, _, rfl⟩ := List.mem_map.1 hf; show (0 : Nat) ≤ _; omega))
  obtain ⟨q, hq⟩ : ∃ q, okInc c = q := ⟨_, rfl⟩
  have HE2 := Lib.hid (HE.out q hq)
  rw [hq] at HI
  simp only [hq] at HC
  generalize encE c = ee at HE2 ⊢
  obtain ⟨fl, hfl0⟩ : ∃ fl, flds c = fl := ⟨_, rfl⟩
  rw [hfl0] at HE2 HC
  obtain ⟨k, o, cl, n, a, b, p, d⟩ := c
  have HFl := Lib.hid (show fl = [fldN k, fldN o, fldN cl, fldN n, fldN a, fldN b, fldN p, fldN d] from hfl0.symm)
  unfold IncV.val at HI ⊢
  clear HE hq hfl0
  simp only at HI HB HX ⊢
  go_enter Tryz.func23, Tryz.ntmps23
  cases q with
  | false =>
    have he := Lib.hid (HE2.out.2 rfl)
    go_wp2_with (go_at_call 21; refine (HI.out _).mono ?_; rintro e w5 ⟨rfl, hb⟩; have HB5 := Lib.hid (HB.out.trans (hb.mono HB.out.size)); clear hb)
    go_ret
    exact ⟨by rw [he.out]; rfl, HB5.out⟩
  | true =>
    have he := Lib.hid (HE2.out.1 rfl)
    go_upto_region 5 with (go_at_call 21; refine (HI.out _).mono ?_; rintro e w5 ⟨rfl, hb⟩; have HB5 := Lib.hid (HB.out.trans (hb.mono HB.out.size)); obtain ⟨c0, c1, c2, c3, c4, c5, c6, c7⟩ := (HX.out.keep hb).cells; clear hb)
    clear c0 c1 c2 c3 c4 c5 c6 c7
    go_wp2
    go_loopw [3, 30] (fun v5 vi wr => ∃ i : Nat, i ≤ 8 ∧ vi = .int .i64 i ∧ Own fcells 4 86 wr w.heap.size v5 (fl.take i) ∧ Below w.heap.size w wr) (fun _ v _ => 8 - (intOf v).toNat)
    case atStart => exact ⟨0, by omega, rfl, by rw [List.take_zero]; exact Own.nil _ _ _, HB5.out⟩
    case round =>
      obtain ⟨i, hi, rfl, ho, hbw⟩ := hrel
      have hfl := HFl.out
      subst hfl
      by_cases hlt : i < 8
      · have h8 : i = 0 ∨ i = 1 ∨ i = 2 ∨ i = 3 ∨ i = 4 ∨ i = 5 ∨ i = 6 ∨ i = 7 := by omega
        obtain ⟨a9, c9, rfl⟩ := ho.slice
        have HO := Lib.hid ho; have HB := Lib.hid hbw
        clear ho hbw hi hlt
        rcases h8 with rfl | rfl | rfl | rfl | rfl | rfl | rfl | rfl
        all_goals simp only [List.take_succ_cons, List.take_zero, List.length_cons, List.length_nil, Nat.zero_add, Nat.reduceAdd] at HO ⊢
        · have hix : ∀ w, (Instr.index 103 (.agg #[.int .i64 k, .int .i64 o, .int .i64 cl, .int .i64 n, .int .i64 a, .int .i64 b, .int .i64 p, .int .i64 d]) (.int .i64 0)).run Tryz.prog w = .ok (.int .i64 k) w := fun w => by kernel_rfl
          have hba := below_new wr (.cells #[.int .i64 1, .int .i64 k, .string { data := #[] }, .bool false] 86)
          have HNew := Lib.hid (sl_new fcells_len wr (fldN k) 86 wr.heap.size rfl)
          have HOa := Lib.hid (HO.out.below hba)
          have HBa := Lib.hid (HB.out.trans (hba.mono HB.out.size))
          clear hba
          go_wp2_with (at_builtin; refine app1Q fcells_len fcells_one (by decide) rfl _ _ 76 rfl w.heap.size 86 _ (by rfl) 40 Tryz.underlying76 infoFz _ ([] : List Fld) rfl HOa.out _ (fldN k) rfl HNew.out (by simp; unfold maxLen; omega) (by simp) HBa.out.size ?_; intro v10 w10 ho hk _ _; obtain ⟨a10, c10, rfl⟩ := ho.slice; have HO10 := Lib.hid ho; have HB10 := Lib.hid (HBa.out.trans hk.toBelow); clear ho hk)
          go_roundw
          case rel => exact ⟨1, by omega, by go_num, HO10.out, HB10.out⟩
          case measure => simp [intOf]
        · have hix : ∀ w, (Instr.index 103 (.agg #[.int .i64 k, .int .i64 o, .int .i64 cl, .int .i64 n, .int .i64 a, .int .i64 b, .int .i64 p, .int .i64 d]) (.int .i64 1)).run Tryz.prog w = .ok (.int .i64 o) w := fun w => by kernel_rfl
          have hba := below_new wr (.cells #[.int .i64 1, .int .i64 o, .string { data := #[] }, .bool false] 86)
          have HNew := Lib.hid (sl_new fcells_len wr (fldN o) 86 wr.heap.size rfl)
          have HOa := Lib.hid (HO.out.below hba)
          have HBa := Lib.hid (HB.out.trans (hba.mono HB.out.size))
          clear hba
          go_wp2_with (at_builtin; refine app1Q fcells_len fcells_one (by decide) rfl _ _ 76 rfl w.heap.size 86 _ (by rfl) 40 Tryz.underlying76 infoFz _ [fldN k] rfl HOa.out _ (fldN o) rfl HNew.out (by simp; unfold maxLen; omega) (by simp) HBa.out.size ?_; intro v10 w10 ho hk _ _; obtain ⟨a10, c10, rfl⟩ := ho.slice; have HO10 := Lib.hid ho; have HB10 := Lib.hid (HBa.out.trans hk.toBelow); clear ho hk)
          go_roundw
          case rel => exact ⟨2, by omega, by go_num, HO10.out, HB10.out⟩
          case measure => simp [intOf]
        · have hix : ∀ w, (Instr.index 103 (.agg #[.int .i64 k, .int .i64 o, .int .i64 cl, .int .i64 n, .int .i64 a, .int .i64 b, .int .i64 p, .int .i64 d]) (.int .i64 2)).run Tryz.prog w = .ok (.int .i64 cl) w := fun w => by kernel_rfl
          have hba := below_new wr (.cells #[.int .i64 1, .int .i64 cl, .string { data := #[] }, .bool false] 86)
          have HNew := Lib.hid (sl_new fcells_len wr (fldN cl) 86 wr.heap.size rfl)
          have HOa := Lib.hid (HO.out.below hba)
          have HBa := Lib.hid (HB.out.trans (hba.mono HB.out.size))
          clear hba
          go_wp2_with (at_builtin; refine app1Q fcells_len fcells_one (by decide) rfl _ _ 76 rfl w.heap.size 86 _ (by rfl) 40 Tryz.underlying76 infoFz _ [fldN k, fldN o] rfl HOa.out _ (fldN cl) rfl HNew.out (by simp; unfold maxLen; omega) (by simp) HBa.out.size ?_; intro v10 w10 ho hk _ _; obtain ⟨a10, c10, rfl⟩ := ho.slice; have HO10 := Lib.hid ho; have HB10 := Lib.hid (HBa.out.trans hk.toBelow); clear ho hk)
          go_roundw
          case rel => exact ⟨3, by omega, by go_num, HO10.out, HB10.out⟩
          case measure => simp [intOf]
        · have hix : ∀ w, (Instr.index 103 (.agg #[.int .i64 k, .int .i64 o, .int .i64 cl, .int .i64 n, .int .i64 a, .int .i64 b, .int .i64 p, .int .i64 d]) (.int .i64 3)).run Tryz.prog w = .ok (.int .i64 n) w := fun w => by kernel_rfl
          have hba := below_new wr (.cells #[.int .i64 1, .int .i64 n, .string { data := #[] }, .bool false] 86)
          have HNew := Lib.hid (sl_new fcells_len wr (fldN n) 86 wr.heap.size rfl)
          have HOa := Lib.hid (HO.out.below hba)
          have HBa := Lib.hid (HB.out.trans (hba.mono HB.out.size))
          clear hba
          go_wp2_with (at_builtin; refine app1Q fcells_len fcells_one (by decide) rfl _ _ 76 rfl w.heap.size 86 _ (by rfl) 40 Tryz.underlying76 infoFz _ [fldN k, fldN o, fldN cl] rfl HOa.out _ (fldN n) rfl HNew.out (by simp; unfold maxLen; omega) (by simp) HBa.out.size ?_; intro v10 w10 ho hk _ _; obtain ⟨a10, c10, rfl⟩ := ho.slice; have HO10 := Lib.hid ho; have HB10 := Lib.hid (HBa.out.trans hk.toBelow); clear ho hk)
          go_roundw
          case rel => exact ⟨4, by omega, by go_num, HO10.out, HB10.out⟩
          case measure => simp [intOf]
        · have hix : ∀ w, (Instr.index 103 (.agg #[.int .i64 k, .int .i64 o, .int .i64 cl, .int .i64 n, .int .i64 a, .int .i64 b, .int .i64 p, .int .i64 d]) (.int .i64 4)).run Tryz.prog w = .ok (.int .i64 a) w := fun w => by kernel_rfl
          have hba := below_new wr (.cells #[.int .i64 1, .int .i64 a, .string { data := #[] }, .bool false] 86)
          have HNew := Lib.hid (sl_new fcells_len wr (fldN a) 86 wr.heap.size rfl)
          have HOa := Lib.hid (HO.out.below hba)
          have HBa := Lib.hid (HB.out.trans (hba.mono HB.out.size))
          clear hba
          go_wp2_with (at_builtin; refine app1Q fcells_len fcells_one (by decide) rfl _ _ 76 rfl w.heap.size 86 _ (by rfl) 40 Tryz.underlying76 infoFz _ [fldN k, fldN o, fldN cl, fldN n] rfl HOa.out _ (fldN a) rfl HNew.out (by simp; unfold maxLen; omega) (by simp) HBa.out.size ?_; intro v10 w10 ho hk _ _; obtain ⟨a10, c10, rfl⟩ := ho.slice; have HO10 := Lib.hid ho; have HB10 := Lib.hid (HBa.out.trans hk.toBelow); clear ho hk)
          go_roundw
          case rel => exact ⟨5, by omega, by go_num, HO10.out, HB10.out⟩
          case measure => simp [intOf]
        · have hix : ∀ w, (Instr.index 103 (.agg #[.int .i64 k, .int .i64 o, .int .i64 cl, .int .i64 n, .int .i64 a, .int .i64 b, .int .i64 p, .int .i64 d]) (.int .i64 5)).run Tryz.prog w = .ok (.int .i64 b) w := fun w => by kernel_rfl
          have hba := below_new wr (.cells #[.int .i64 1, .int .i64 b, .string { data := #[] }, .bool false] 86)
          have HNew := Lib.hid (sl_new fcells_len wr (fldN b) 86 wr.heap.size rfl)
          have HOa := Lib.hid (HO.out.below hba)
          have HBa := Lib.hid (HB.out.trans (hba.mono HB.out.size))
          clear hba
          go_wp2_with (at_builtin; refine app1Q fcells_len fcells_one (by decide) rfl _ _ 76 rfl w.heap.size 86 _ (by rfl) 40 Tryz.underlying76 infoFz _ [fldN k, fldN o, fldN cl, fldN n, fldN a] rfl HOa.out _ (fldN b) rfl HNew.out (by simp; unfold maxLen; omega) (by simp) HBa.out.size ?_; intro v10 w10 ho hk _ _; obtain ⟨a10, c10, rfl⟩ := ho.slice; have HO10 := Lib.hid ho; have HB10 := Lib.hid (HBa.out.trans hk.toBelow); clear ho hk)
          go_roundw
          case rel => exact ⟨6, by omega, by go_num, HO10.out, HB10.out⟩
          case measure => simp [intOf]
        · have hix : ∀ w, (Instr.index 103 (.agg #[.int .i64 k, .int .i64 o, .int .i64 cl, .int .i64 n, .int .i64 a, .int .i64 b, .int .i64 p, .int .i64 d]) (.int .i64 6)).run Tryz.prog w = .ok (.int .i64 p) w := fun w => by kernel_rfl
          have hba := below_new wr (.cells #[.int .i64 1, .int .i64 p, .string { data := #[] }, .bool false] 86)
          have HNew := Lib.hid (sl_new fcells_len wr (fldN p) 86 wr.heap.size rfl)
          have HOa := Lib.hid (HO.out.below hba)
          have HBa := Lib.hid (HB.out.trans (hba.mono HB.out.size))
          clear hba
          go_wp2_with (at_builtin; refine app1Q fcells_len fcells_one (by decide) rfl _ _ 76 rfl w.heap.size 86 _ (by rfl) 40 Tryz.underlying76 infoFz _ [fldN k, fldN o, fldN cl, fldN n, fldN a, fldN b] rfl HOa.out _ (fldN p) rfl HNew.out (by simp; unfold maxLen; omega) (by simp) HBa.out.size ?_; intro v10 w10 ho hk _ _; obtain ⟨a10, c10, rfl⟩ := ho.slice; have HO10 := Lib.hid ho; have HB10 := Lib.hid (HBa.out.trans hk.toBelow); clear ho hk)
          go_roundw
          case rel => exact ⟨7, by omega, by go_num, HO10.out, HB10.out⟩
          case measure => simp [intOf]
        · have hix : ∀ w, (Instr.index 103 (.agg #[.int .i64 k, .int .i64 o, .int .i64 cl, .int .i64 n, .int .i64 a, .int .i64 b, .int .i64 p, .int .i64 d]) (.int .i64 7)).run Tryz.prog w = .ok (.int .i64 d) w := fun w => by kernel_rfl
          have hba := below_new wr (.cells #[.int .i64 1, .int .i64 d, .string { data := #[] }, .bool false] 86)
          have HNew := Lib.hid (sl_new fcells_len wr (fldN d) 86 wr.heap.size rfl)
          have HOa := Lib.hid (HO.out.below hba)
          have HBa := Lib.hid (HB.out.trans (hba.mono HB.out.size))
          clear hba
          go_wp2_with (at_builtin; refine app1Q fcells_len fcells_one (by decide) rfl _ _ 76 rfl w.heap.size 86 _ (by rfl) 40 Tryz.underlying76 infoFz _ [fldN k, fldN o, fldN cl, fldN n, fldN a, fldN b, fldN p] rfl HOa.out _ (fldN d) rfl HNew.out (by simp; unfold maxLen; omega) (by simp) HBa.out.size ?_; intro v10 w10 ho hk _ _; obtain ⟨a10, c10, rfl⟩ := ho.slice; have HO10 := Lib.hid ho; have HB10 := Lib.hid (HBa.out.trans hk.toBelow); clear ho hk)
          go_roundw
          case rel => exact ⟨8, by omega, by go_num, HO10.out, HB10.out⟩
          case measure => simp [intOf]
      · obtain rfl : i = 8 := by omega
        obtain ⟨a9, c9, rfl⟩ := ho.slice
        have HO := Lib.hid ho; have HB := Lib.hid hbw
        clear ho hbw
        go_wp2_with (go_at_call 79; refine (HC.out (by first | trivial | rfl) _ wr (slF_of (HO.out.read fcells_len))).mono ?_; rintro e w7 ⟨v7, rfl, ho, hb⟩; have HB7 := Lib.hid (HB.out.trans (hb.mono HB.out.size)); have hconv := conv_bytes (P := Tryz.prog) 79 5 9 Tryz.underlying79 Tryz.underlying5 Tryz.underlying9 ho.read; clear hb ho)
        go_ret
        exact ⟨by rw [he.out]; rfl, HB7.out⟩
end Go.Proofs.YtoeklnmmnmmjeaaGreat.crush

namespace Go.Proofs.YtoeklnmmnmmjeaaGreat.crush
open Go.RowKit
open Go.Proofs.YtoeklnmmnmmjeaaGreat.kit Go.Proofs.YtoeklnmmnmmjeaaGreat.own
open Go.Proofs.YtoeklnmmnmmjeaaGreat.cm (Fld)
open Go.Proofs.YtoeklnmmnmmjeaaGreat.code (SlB rNum numG)
set_option linter.unusedVariables false

/-- What a read number comes to. -/
def RNumS (L : Nat) (w : World) (R0 : Except Int (Nat × List Nat)) (e : Ending) (w' : World) : Prop := w' = w ∧
  match R0 with
  | .ok (x, r) => e = .returned (.tuple #[.int .u64 (x : Int), .int .i64 ((L : Int) - (r.length : Int)), .int .i64 0])
  | .error er => e = .returned (.tuple #[.int .u64 0, .int .i64 0, .int .i64 er])
theorem drop_getD {bs : List Nat} {i : Nat} (h : i < bs.length) : bs.drop i = bs.getD i 0 :: bs.drop (i + 1) := by
  rw [List.drop_eq_getElem_cons h, List.getD_eq_getElem?_getD, List.getElem?_eq_getElem h, Option.getD_some]
theorem wrap_u64n (n : Nat) (h : n < 18446744073709551616) : IntKind.u64.wrap (n : Int) = (n : Int) := by
  rw [IntKind.wrap_u64]; omega
theorem rnum_step (x c i : Nat) (hx : x < 128 ^ i) (hi : i ≤ 8) (hc : c < 256) : ∃ s y : Nat, (IntKind.u64.wrap ((c : Int) % 128 * 2 ^ (7 * i)) = (s : Int)) ∧ IntKind.u64.wrap ((x : Int) + (s : Int)) = (y : Int) ∧ y = x + c % 128 * 128 ^ i ∧ y < 128 ^ (i + 1) := by
  have hp : (2 : Nat) ^ (7 * i) = 128 ^ i := by rw [Nat.pow_mul]
  have h8 : 128 ^ i ≤ 128 ^ 8 := Nat.pow_le_pow_right (by omega) hi
  have h88 : (128 : Nat) ^ 8 = 72057594037927936 := by decide
  have hd : c % 128 ≤ 127 := by omega
  have hm : c % 128 * 128 ^ i ≤ 127 * 128 ^ i := Nat.mul_le_mul_right _ hd
  have hb : c % 128 * 128 ^ i < 9223372036854775808 := by omega
  have e3 : (c : Int) % 128 * 2 ^ (7 * i) = ((c % 128 * 128 ^ i : Nat) : Int) := by rw [← hp]; push_cast; rfl
  refine ⟨c % 128 * 128 ^ i, x + c % 128 * 128 ^ i, ?_, ?_, rfl, ?_⟩
  · rw [e3, wrap_u64n _ (by omega)]
  · rw [← Int.natCast_add, wrap_u64n _ (by omega)]
  · rw [Nat.pow_succ]; omega
theorem rnum_last (x : Nat) (hx : x < 9223372036854775808) : IntKind.u64.wrap ((x : Int) + 9223372036854775808) = ((x + 9223372036854775808 : Nat) : Int) := by
  exact wrap_u64n (x + 9223372036854775808) (by omega)
set_option maxHeartbeats 8000000 in
set_option maxRecDepth 100000 in
theorem rReadNumber_any (v : Value) (bs : List Nat) (w : World) (h : SlB w v bs (fun _ => True)) (h8 : ∀ c ∈ bs, c < 256) :
    Calls Tryz.prog 189 #[v] w (RNumS bs.length w (rNum bs)) := by
  obtain ⟨hl, a, cap, rfl, hle, hc⟩ := h
  have HC := Lib.hid hc; have H8 := Lib.hid h8
  obtain ⟨L, hL⟩ : ∃ L, bs.length = L := ⟨_, rfl⟩
  have HL := Lib.hid hL
  rw [hL] at hl hle ⊢
  have HLl := Lib.hid hl; have HLe := Lib.hid hle
  have hl2 : L ≤ 140737488351232 := hl
  clear hc h8 hL hle hl hl2
  go_enter Tryz.func189, Tryz.ntmps189
  go_wp2_with fail
  go_loopw [5, 6] (fun vx vi wr => ∃ (i x : Nat), i ≤ 9 ∧ i ≤ L ∧ x < 128 ^ i ∧ vx = .int .u64 x ∧ vi = .int .i64 i ∧ numG (9 - i) i x (bs.drop i) = rNum bs ∧ wr = w) (fun _ i _ => 9 - (intOf i).toNat)
  case atStart => exact ⟨0, 0, by omega, by omega, by omega, rfl, rfl, rfl, rfl⟩
  case round =>
    obtain ⟨i, x, hi, hiL, hx, rfl, rfl, hG, rfl⟩ := hrel
    have HX := Lib.hid hx; have HGg := Lib.hid hG
    clear hx hG
    by_cases hlt : i < L
    · have hlt' : (i : Int) < L := by omega
      have hi0 : (0 : Int) ≤ i := by omega
      have hib : i < bs.length := by rw [HL.out]; exact hlt
      obtain ⟨b, off, rfl, -, -, hcell⟩ := HC.out (by omega)
      have d0 := hcell i hib
      have hc8 := H8.out (bs.getD i 0) (by rw [List.getD_eq_getElem?_getD, List.getElem?_eq_getElem hib, Option.getD_some]; exact List.getElem_mem hib)
      have HDr := Lib.hid (drop_getD hib)
      generalize bs.getD i 0 = c at d0 hc8 HDr
      have HC8 := Lib.hid hc8
      obtain ⟨d, hd⟩ : ∃ d : Nat, d = c % 128 := ⟨_, rfl⟩
      have HD := Lib.hid hd
      clear hcell hib hd
      by_cases h9 : i < 9
      · have h9' : True → ((i : Int) == 9) = false := fun _ => by simp; omega
        obtain ⟨s, y, e1, e2, hy, hy9⟩ := rnum_step x c i HX.out (by omega) hc8
        have e1' : True → IntKind.u64.wrap ((c : Int) % 128 * 2 ^ (7 * i)) = (s : Int) := fun _ => e1
        have e2' : True → IntKind.u64.wrap ((x : Int) + (s : Int)) = (y : Int) := fun _ => e2
        have HY := Lib.hid hy; have HY9 := Lib.hid hy9
        clear e1 e2 hy hy9 hc8
        by_cases h0 : c = 0 ∧ 0 < i
        · obtain ⟨rfl, hi1⟩ := h0
          have hi1' : (0 : Int) < i := by omega
          go_wp2
          go_ret3
          have e : rNum bs = .error 10 := by
            rw [← HGg.out, HDr.out, show 9 - i = (8 - i) + 1 by omega, numG, if_pos ⟨rfl, hi1⟩]
          rw [e]
          exact ⟨rfl, rfl⟩
        · have hi1 : (0 < i ∧ (0 : Int) < i ∧ (True → ((c : Int) == 0) = false)) ∨ (¬ 0 < i ∧ ¬ (0 : Int) < i ∧ True) := by
            by_cases hi1 : 0 < i
            · exact .inl ⟨hi1, by omega, fun _ => by simp; omega⟩
            · exact .inr ⟨hi1, by omega, trivial⟩
          rcases hi1 with ⟨hi1, hi1', hc0⟩ | ⟨hi1, hi1', hc0⟩
          all_goals
            by_cases h128 : c < 128
            · have h128' : (c : Int) < 128 := by omega
              go_wp2
              go_ret3
              have e : rNum bs = .ok (y, bs.drop (i + 1)) := by
                rw [← HGg.out, HDr.out, show 9 - i = (8 - i) + 1 by omega, numG, if_neg h0, if_pos h128, HY.out, Nat.mod_eq_of_lt h128]
              rw [e]
              refine ⟨rfl, ?_⟩
              have e3 : ((L : Int) - ((bs.drop (i + 1)).length : Int)) = (i : Int) + 1 := by rw [List.length_drop, HL.out]; omega
              simp only [e3]
              rfl
            · have h128' : ¬ (c : Int) < 128 := by omega
              go_wp2
              go_roundw
              case rel =>
                have e : numG (9 - (i + 1)) (i + 1) y (bs.drop (i + 1)) = rNum bs := by
                  rw [← HGg.out, HDr.out, show 9 - i = (9 - (i + 1)) + 1 by omega, numG, if_neg h0, if_neg h128, HY.out, show c % 128 = c - 128 by have := HC8.out; omega]
                exact ⟨i + 1, y, by omega, by omega, HY9.out, rfl, by go_num, e, trivial⟩
              case measure => simp [intOf]; omega
      · obtain rfl : i = 9 := by omega
        have hx63 : x < 9223372036854775808 := by have := HX.out; simpa using this
        have e2 := rnum_last x hx63
        by_cases hc1 : c = 1
        · subst hc1
          obtain ⟨y, hy⟩ : ∃ y : Nat, y = x + 9223372036854775808 := ⟨_, rfl⟩
          rw [← hy] at e2
          have e2' : True → IntKind.u64.wrap ((x : Int) + 9223372036854775808) = (y : Int) := fun _ => e2
          have HY := Lib.hid hy
          clear hy hx63 e2 hc8
          go_wp2
          go_ret3
          have e : rNum bs = .ok (y, bs.drop 10) := by rw [← HGg.out, HDr.out, HY.out]; rfl
          rw [e]
          refine ⟨rfl, ?_⟩
          have e3 : ((L : Int) - ((bs.drop 10).length : Int)) = 10 := by rw [List.length_drop, HL.out]; omega
          simp only [e3]
          rfl
        · have e : rNum bs = .error 10 := by rw [← HGg.out, HDr.out, show 9 - 9 = 0 from rfl, numG, if_neg hc1]
          have HE := Lib.hid e
          clear e e2 hx63
          by_cases hc0 : c = 0
          · subst hc0
            go_wp2
            go_ret3
            rw [HE.out]
            exact ⟨rfl, rfl⟩
          · have h1 : (1 : Int) < c := by omega
            go_wp2
            go_ret3
            rw [HE.out]
            exact ⟨rfl, rfl⟩
    · have hlt' : ¬ ((i : Int) < L) := by omega
      have e : rNum bs = .error 11 := by
        rw [← HGg.out, List.drop_of_length_le (by rw [HL.out]; omega)]
        cases (9 - i) <;> rfl
      have HE := Lib.hid e
      clear e
      go_wp2
      go_ret3
      rw [HE.out]
      exact ⟨rfl, rfl⟩
end Go.Proofs.YtoeklnmmnmmjeaaGreat.crush

namespace Go.Proofs.YtoeklnmmnmmjeaaGreat.crush
open Go.RowKit
open Go.Proofs.YtoeklnmmnmmjeaaGreat.kit Go.Proofs.YtoeklnmmnmmjeaaGreat.own
open Go.Proofs.YtoeklnmmnmmjeaaGreat.cm (Fld txtN)
open Go.Proofs.YtoeklnmmnmmjeaaGreat.code (fcells infoFz SlF SlB SlK OwnF rA rField ReadS Read_any str_bytes)
set_option linter.unusedVariables false

/-- What 'Whole' says. -/
def WholeG (w : World) (R0 : Except Int (List Fld × List Nat)) (e : Ending) (w' : World) : Prop :=
  Below w.heap.size w w' ∧
    match R0 with
    | .ok (fs, []) => ∃ v, e = .returned (.tuple #[v, .int .i64 0]) ∧ OwnF w' w.heap.size v fs
    | .ok (_, _ :: _) => e = .returned (.tuple #[.slice none 0 0, .int .i64 10])
    | .error er => e = .returned (.tuple #[.slice none 0 0, .int .i64 er]) ∧ er ≠ 0

set_option maxHeartbeats 4000000 in
set_option maxRecDepth 100000 in
theorem wholeG_any (bv kv : Value) (bs : List Nat) (ks : List Int) (w : World) (hb : SlB w bv bs (fun _ => True)) (h8 : ∀ c ∈ bs, c < 256) (hk : SlK w kv ks) (hlen : ks.length ≤ 1000000000000) :
    Calls Tryz.prog 53 #[bv, kv] w (WholeG w (rA rField [] ks bs)) := by
  have HR := Lib.hid (Read_any bv kv bs ks w hb h8 hk hlen)
  obtain ⟨hl, a, cap, rfl, hle, _⟩ := hb
  clear h8 hk hlen
  obtain ⟨R0, hR0⟩ : ∃ R0, rA rField [] ks bs = R0 := ⟨_, rfl⟩
  rw [hR0] at HR ⊢
  clear hR0
  cases R0 with
  | error er =>
    go_enter Tryz.func53, Tryz.ntmps53
    go_wp2_with fail
    refine HR.out.mono ?_
    rintro e w1 ⟨hb1, rfl, hne⟩
    have HB1 := Lib.hid hb1
    have hne' : True → (er != 0) = true := fun _ => by simpa using hne
    have HNe := Lib.hid hne
    clear hb1 hne HR
    go_wp2
    go_ret2
    exact ⟨HB1.out, rfl, HNe.out⟩
  | ok q =>
    obtain ⟨fs, rr⟩ := q
    cases rr with
    | nil =>
      go_enter Tryz.func53, Tryz.ntmps53
      go_wp2_with fail
      refine HR.out.mono ?_
      rintro e w1 ⟨hb1, v, rfl, ho⟩
      have HB1 := Lib.hid hb1; have HO := Lib.hid ho
      rw [show ((bs.length : Int) - (([] : List Nat).length : Int)) = (bs.length : Int) by simp]
      have hn : ¬ ((bs.length : Int) < (bs.length : Int)) := by omega
      clear hb1 ho HR
      go_wp2
      go_ret2
      exact ⟨HB1.out, v, rfl, HO.out⟩
    | cons c r =>
      go_enter Tryz.func53, Tryz.ntmps53
      go_wp2_with fail
      refine HR.out.mono ?_
      rintro e w1 ⟨hb1, v, rfl, ho⟩
      have HB1 := Lib.hid hb1
      obtain ⟨z, hz⟩ : ∃ z : Int, ((bs.length : Int) - ((c :: r).length : Int)) = z := ⟨_, rfl⟩
      have hn : z < (bs.length : Int) := by rw [← hz, List.length_cons]; omega
      rw [hz]
      clear hb1 ho HR hz
      go_wp2
      go_ret2
      exact ⟨HB1.out, rfl⟩

theorem slK_of {w : World} {v : Value} {ks : List Int} (h : Sl ic 1 w v ks) : SlK w v ks := by
  obtain ⟨hl, a, cap, rfl, hn, hc⟩ := h
  refine ⟨hl, a, cap, rfl, fun h0 => ?_⟩
  obtain ⟨b, off, rfl, hlt, hcell⟩ := hc h0
  refine ⟨b, off, rfl, fun j hj => ?_⟩
  have := icell_at (hcell j hj)
  rw [Nat.mul_one] at this
  rw [List.getD_eq_getElem?_getD, List.getElem?_eq_getElem hj]
  exact this
theorem slF_to {w : World} {B : Nat} {v : Value} {fs : List Fld} (h : OwnF w B v fs) : Own fcells 4 86 w B v fs := h
theorem rA_len {rd : Int → List Nat → Except Int (Fld × List Nat)} : ∀ (ks : List Int) (acc : List Fld) (bs : List Nat) (fs : List Fld) (r : List Nat), rA rd acc ks bs = .ok (fs, r) → fs.length = acc.length + ks.length
  | [], acc, bs, fs, r, h => by
    have : (acc, bs) = (fs, r) := by simpa [rA] using h
    cases this; simp
  | k :: ks, acc, bs, fs, r, h => by
    rw [rA] at h
    cases hq : rd k bs with
    | error e => rw [hq] at h; cases h
    | ok q =>
      obtain ⟨f, r'⟩ := q
      rw [hq] at h
      have := rA_len ks (acc ++ [f]) r' fs r h
      rw [this, List.length_append]; simp; omega

def incOfL (fs : List Fld) : IncV := ⟨(fs.getD 0 ⟨0, 0, { data := #[] }, false⟩).num, (fs.getD 1 ⟨0, 0, { data := #[] }, false⟩).num, (fs.getD 2 ⟨0, 0, { data := #[] }, false⟩).num, (fs.getD 3 ⟨0, 0, { data := #[] }, false⟩).num,
  ⟨(fs.getD 4 ⟨0, 0, { data := #[] }, false⟩).num, (fs.getD 5 ⟨0, 0, { data := #[] }, false⟩).num, (fs.getD 6 ⟨0, 0, { data := #[] }, false⟩).num, (fs.getD 7 ⟨0, 0, { data := #[] }, false⟩).num⟩⟩
set_option maxHeartbeats 4000000 in
theorem num_any (N : Nat) (b off cap : Nat) (i : Nat) (hi : i < 8) (n : Int) (w : World) (hN : w.cell? ⟨N, 0, none⟩ = some (.slice (some ⟨b, off, none⟩) 8 cap)) (hc : w.cell? ⟨b, off + i * 4 + 1, none⟩ = some (.int .i64 n)) :
    Calls Tryz.prog 107 #[.int .i64 i, .pointer (some ⟨N, 0, none⟩)] w fun e w' => e = .returned (.int .i64 n) ∧ w' = w := by
  have hi' : (i : Int) < 8 := by omega
  have hi0 : (0 : Int) ≤ i := by omega
  go_enter Tryz.func107, Tryz.ntmps107
  go_wp2
  go_ret
  exact ⟨rfl, rfl⟩

theorem IBx.thaw {W : World} {N : Nat} {c : IncV} (h : IBx W N c) (j : Nat) : W.frozen? ⟨N, j, none⟩ = false := by
  unfold IBx at h
  simp [World.frozen?, h]
theorem IBx.there {W : World} {N : Nat} {c : IncV} (h : IBx W N c) : W.there N 0 8 := by
  unfold IBx at h
  intro j hj
  match j, hj with
  | 0, _ => simp [World.cell?, World.frozen?, h]
  | 1, _ => simp [World.cell?, World.frozen?, h]
  | 2, _ => simp [World.cell?, World.frozen?, h]
  | 3, _ => simp [World.cell?, World.frozen?, h]
  | 4, _ => simp [World.cell?, World.frozen?, h]
  | 5, _ => simp [World.cell?, World.frozen?, h]
  | 6, _ => simp [World.cell?, World.frozen?, h]
  | 7, _ => simp [World.cell?, World.frozen?, h]
theorem IBx.put {W : World} {N : Nat} {c : IncV} (h : IBx W N c) (c' : IncV) : IBx (W.setCells N 0 c'.cells) N c' := heap_setCells N _ c'.cells 0 W _ h
theorem IncV.one (c : IncV) : ∀ v ∈ c.cells, v.oneCell' = true := by
  intro v hv
  simp only [IncV.cells, List.mem_cons, List.not_mem_nil, or_false] at hv
  rcases hv with rfl | rfl | rfl | rfl | rfl | rfl | rfl | rfl <;> rfl
theorem IBx.range {W : World} {N : Nat} {c : IncV} (h : IBx W N c) : W.rangeAt N 0 [.int .i64 c.kind, .int .i64 c.osd, .int .i64 c.client, .int .i64 c.num, .int .i64 c.pool.size, .int .i64 c.pool.min, .int .i64 c.pool.pgs, .int .i64 c.pool.dom] := cells_range (l := [.int .i64 c.kind, .int .i64 c.osd, .int .i64 c.client, .int .i64 c.num, .int .i64 c.pool.size, .int .i64 c.pool.min, .int .i64 c.pool.pgs, .int .i64 c.pool.dom]) h

set_option maxHeartbeats 16000000 in
set_option maxRecDepth 100000 in
theorem incOf_any (v : Value) (fs : List Fld) (hf : fs.length = 8) (w : World) (h : Sl fcells 4 w v fs) : Calls Tryz.prog 55 #[v] w fun e w' => e = .returned (incOfL fs).val ∧ Below w.heap.size w w' := by
  obtain ⟨hl, a, cap, rfl, hnil, hc⟩ := id h
  obtain ⟨b, off, rfl, hlt, hcell⟩ := hc (by omega)
  rw [hf]
  have hmf : ∀ (fn : Fn) (first cap : Array Value) (w : World), (Instr.makeFunc fn first cap).run Tryz.prog w = .ok (.func fn first cap) w := fun _ _ _ _ => rfl
  have mixed : Tryz.prog.follows .mixedOrders = true := by kernel_rfl
  have HC : Hid (∀ i, i < 8 → ∀ u, Below w.heap.size w u → u.cell? ⟨b, off + i * 4 + 1, none⟩ = some (.int .i64 (fs.getD i ⟨0, 0, { data := #[] }, false⟩).num)) := Lib.hid (fun i hi u hu => by
    have h1 := (hcell i (by omega)) 1 _ rfl
    have h2 : fs.getD i ⟨0, 0, { data := #[] }, false⟩ = fs[i]'(by omega) := by rw [List.getD_eq_getElem?_getD, List.getElem?_eq_getElem (by omega)]; rfl
    rw [h2]
    exact (hu.cell (p := ⟨b, off + i * 4 + 1, none⟩) hlt).trans h1)
  unfold incOfL IncV.val
  simp only
  obtain ⟨n0, h0⟩ : ∃ n, (fs.getD 0 ⟨0, 0, { data := #[] }, false⟩).num = n := ⟨_, rfl⟩
  obtain ⟨n1, h1⟩ : ∃ n, (fs.getD 1 ⟨0, 0, { data := #[] }, false⟩).num = n := ⟨_, rfl⟩
  obtain ⟨n2, h2⟩ : ∃ n, (fs.getD 2 ⟨0, 0, { data := #[] }, false⟩).num = n := ⟨_, rfl⟩
  obtain ⟨n3, h3⟩ : ∃ n, (fs.getD 3 ⟨0, 0, { data := #[] }, false⟩).num = n := ⟨_, rfl⟩
  obtain ⟨n4, h4⟩ : ∃ n, (fs.getD 4 ⟨0, 0, { data := #[] }, false⟩).num = n := ⟨_, rfl⟩
  obtain ⟨n5, h5⟩ : ∃ n, (fs.getD 5 ⟨0, 0, { data := #[] }, false⟩).num = n := ⟨_, rfl⟩
  obtain ⟨n6, h6⟩ : ∃ n, (fs.getD 6 ⟨0, 0, { data := #[] }, false⟩).num = n := ⟨_, rfl⟩
  obtain ⟨n7, h7⟩ : ∃ n, (fs.getD 7 ⟨0, 0, { data := #[] }, false⟩).num = n := ⟨_, rfl⟩
  have HC0 := Lib.hid (HC.out 0 (by omega)); have HC1 := Lib.hid (HC.out 1 (by omega)); have HC2 := Lib.hid (HC.out 2 (by omega)); have HC3 := Lib.hid (HC.out 3 (by omega))
  have HC4 := Lib.hid (HC.out 4 (by omega)); have HC5 := Lib.hid (HC.out 5 (by omega)); have HC6 := Lib.hid (HC.out 6 (by omega)); have HC7 := Lib.hid (HC.out 7 (by omega))
  rw [h0] at HC0 ⊢; rw [h1] at HC1 ⊢; rw [h2] at HC2 ⊢; rw [h3] at HC3 ⊢; rw [h4] at HC4 ⊢; rw [h5] at HC5 ⊢; rw [h6] at HC6 ⊢; rw [h7] at HC7 ⊢
  clear HC h hl hnil hc hlt hcell hf h0 h1 h2 h3 h4 h5 h6 h7
  go_enter Tryz.func55, Tryz.ntmps55
  go_upto_region 2 with fail
  have hb1 : Below w.heap.size w (w.alloc (.cells #[.slice (some ⟨b, off, none⟩) 8 cap] 76)) := below_new w _
  have hb2 : Below w.heap.size w ((w.alloc (.cells #[.slice (some ⟨b, off, none⟩) 8 cap] 76)).alloc (.cells #[.int .i64 0, .int .i64 0, .int .i64 0, .int .i64 0, .int .i64 0, .int .i64 0, .int .i64 0, .int .i64 0] 31)) := hb1.alloc (by simp) _
  have hk := alloc_at w (.cells #[.slice (some ⟨b, off, none⟩) 8 cap] 76)
  have hr := alloc_at (w.alloc (.cells #[.slice (some ⟨b, off, none⟩) 8 cap] 76)) (.cells #[.int .i64 0, .int .i64 0, .int .i64 0, .int .i64 0, .int .i64 0, .int .i64 0, .int .i64 0, .int .i64 0] 31)
  rw [World.size_alloc] at hr
  have hk2 := ((below_new (w.alloc (.cells #[.slice (some ⟨b, off, none⟩) 8 cap] 76)) (.cells #[.int .i64 0, .int .i64 0, .int .i64 0, .int .i64 0, .int .i64 0, .int .i64 0, .int .i64 0, .int .i64 0] 31)).block w.heap.size (by simp)).trans hk
  have HB2 := Lib.hid hb2; have HR := Lib.hid hr; have HK2 := Lib.hid hk2
  clear hb1 hk hb2 hr hk2
  generalize ((w.alloc (.cells #[.slice (some ⟨b, off, none⟩) 8 cap] 76)).alloc (.cells #[.int .i64 0, .int .i64 0, .int .i64 0, .int .i64 0, .int .i64 0, .int .i64 0, .int .i64 0, .int .i64 0] 31)) = W at HB2 HR HK2 ⊢
  have c0 := HC0.out W HB2.out; have c1 := HC1.out W HB2.out; have c2 := HC2.out W HB2.out; have c3 := HC3.out W HB2.out
  have c4 := HC4.out W HB2.out; have c5 := HC5.out W HB2.out; have c6 := HC6.out W HB2.out; have c7 := HC7.out W HB2.out
  have k0 := box_cell HK2.out
  have HNum := Lib.hid (fun (i : Nat) (hi : i < 8) n (hc : W.drew.cell? ⟨b, off + i * 4 + 1, none⟩ = some (.int .i64 n)) => num_any w.heap.size b off cap i hi n W.drew k0 hc)
  have HQ0 := Lib.hid (show Calls Tryz.prog 107 #[.int .i64 0, .pointer (some ⟨w.heap.size, 0, none⟩)] W.drew (fun e w' => e = .returned (.int .i64 n0) ∧ w' = W.drew) from HNum.out 0 (by omega) n0 c0)
  have HQ1 := Lib.hid (show Calls Tryz.prog 107 #[.int .i64 1, .pointer (some ⟨w.heap.size, 0, none⟩)] W.drew (fun e w' => e = .returned (.int .i64 n1) ∧ w' = W.drew) from HNum.out 1 (by omega) n1 c1)
  have HQ2 := Lib.hid (show Calls Tryz.prog 107 #[.int .i64 2, .pointer (some ⟨w.heap.size, 0, none⟩)] W.drew (fun e w' => e = .returned (.int .i64 n2) ∧ w' = W.drew) from HNum.out 2 (by omega) n2 c2)
  have HQ4 := Lib.hid (show Calls Tryz.prog 107 #[.int .i64 4, .pointer (some ⟨w.heap.size, 0, none⟩)] W.drew (fun e w' => e = .returned (.int .i64 n4) ∧ w' = W.drew) from HNum.out 4 (by omega) n4 c4)
  have HQ5 := Lib.hid (show Calls Tryz.prog 107 #[.int .i64 5, .pointer (some ⟨w.heap.size, 0, none⟩)] W.drew (fun e w' => e = .returned (.int .i64 n5) ∧ w' = W.drew) from HNum.out 5 (by omega) n5 c5)
  have HQ6 := Lib.hid (show Calls Tryz.prog 107 #[.int .i64 6, .pointer (some ⟨w.heap.size, 0, none⟩)] W.drew (fun e w' => e = .returned (.int .i64 n6) ∧ w' = W.drew) from HNum.out 6 (by omega) n6 c6)
  have HQ7 := Lib.hid (show Calls Tryz.prog 107 #[.int .i64 7, .pointer (some ⟨w.heap.size, 0, none⟩)] W.drew (fun e w' => e = .returned (.int .i64 n7) ∧ w' = W.drew) from HNum.out 7 (by omega) n7 c7)
  clear HC0 HC1 HC2 HC3 HC4 HC5 HC6 HC7 HNum
  clear c0 c1 c2 c4 c5 c6 c7
  go_still_tail 20, (by kernel_rfl)
  still_call HQ0.out
  repeat still_step
  still_call HQ1.out
  repeat still_step
  still_call HQ2.out
  repeat still_step
  still_call HQ4.out
  repeat still_step
  still_call HQ5.out
  repeat still_step
  still_call HQ6.out
  repeat still_step
  still_call HQ7.out
  repeat still_step
  refine wpStill_nil ?_
  change wpList _ _ _ _ _ W.drew
  have HI := Lib.hid (show IBx W.drew (w.heap.size + 1) ⟨0, 0, 0, 0, ⟨0, 0, 0, 0⟩⟩ from HR.out)
  have hT := HI.out.there
  have HF := Lib.hid (HI.out.put ⟨n0, n1, n2, n3, ⟨n4, n5, n6, n7⟩⟩)
  have HBf := Lib.hid (Below.setCells (below_drew HB2.out) (b := w.heap.size + 1) (by omega) 0 (IncV.cells ⟨n0, n1, n2, n3, ⟨n4, n5, n6, n7⟩⟩))
  refine wpList_store_mid rfl 31 (.tmp 2) (.tmp 24) rfl (w.heap.size + 1) 0 (IncV.cells ⟨n0, n1, n2, n3, ⟨n4, n5, n6, n7⟩⟩).toArray rfl rfl hT sizeInc (all_oneCell_toArray (IncV.one _)) ?_
  generalize W.drew.setCells (w.heap.size + 1) 0 _ = W9 at HF HBf ⊢
  clear k0 c3 hT
  go_wp2_with fail
  refine bodyPost_ret (ret_cell rfl rfl HF.out.range Tryz.underlying31 rfl sizeInc) rfl ?_
  exact ⟨rfl, HBf.out⟩
end Go.Proofs.YtoeklnmmnmmjeaaGreat.crush

namespace Go.Proofs.YtoeklnmmnmmjeaaGreat.crush
open Go.RowKit
open Go.Proofs.YtoeklnmmnmmjeaaGreat.kit Go.Proofs.YtoeklnmmnmmjeaaGreat.own
open Go.Proofs.YtoeklnmmnmmjeaaGreat.cm (Fld)
open Go.Proofs.YtoeklnmmnmmjeaaGreat.code (SlB rNum rCount numG rField rA fcells infoFz SlK OwnF)
set_option linter.unusedVariables false

/-- What a read field comes to. -/
def RFldS (L : Nat) (w : World) (R0 : Except Int (Fld × List Nat)) (e : Ending) (w' : World) : Prop := Below w.heap.size w w' ∧
  match R0 with
  | .ok (f, r) => e = .returned (.tuple #[.agg (fcells f).toArray, .int .i64 ((L : Int) - (r.length : Int)), .int .i64 0])
  | .error er => er ≠ 0 ∧ e = .returned (.tuple #[.agg (fcells (fldN 0)).toArray, .int .i64 0, .int .i64 er])
theorem ret_cell_tmp2 {P : Program} {fn : Func} {t u u2 : Tmp} {T : TypeId} {tmps : Array Value} {w : World} {b : Nat} {cs : List Value} {d : TypeDesc} (h : fn.results = #[.cell t T, .tmp u, .tmp u2]) (ht : tmps.getD t undef = .pointer (some ⟨b, 0, none⟩))
    (hc : w.rangeAt b 0 cs) (hu : P.underlying T = some d) (hd : d.isRow = true) (hi : (P.info? T).map (·.size) = some cs.length) : (results fn tmps).run P w = .ok (.tuple #[.agg cs.toArray, tmps.getD u undef, tmps.getD u2 undef]) w := by
  have := run_loadVar_mid w b 0 T cs d hc hu hd hi
  have ht' : tmps[t]?.getD undef = .pointer (some ⟨b, 0, none⟩) := by simpa using ht
  simp [results, h, ht', asAddr, this]
theorem numG_err : ∀ (k i x : Nat) (bs : List Nat) (er : Int), numG k i x bs = .error er → er ≠ 0
  | k, i, x, [], er, h => by cases k <;> simp [numG] at h <;> omega
  | 0, i, x, c :: bs, er, h => by
    rw [numG] at h
    split at h
    · cases h
    · cases h; decide
  | k + 1, i, x, c :: bs, er, h => by
    rw [numG] at h
    split at h
    · cases h; decide
    · split at h
      · cases h
      · exact numG_err k (i + 1) _ bs er h
/-- The box of a field. -/
def FdBx (W : World) (N : Nat) (f : Fld) : Prop := W.heap[N]? = some (.cells (fcells f).toArray 86 (0, 0))
theorem FdBx.there {W : World} {N : Nat} {f : Fld} (h : FdBx W N f) : W.there N 0 4 := by
  unfold FdBx at h
  intro j hj
  match j, hj with
  | 0, _ => simp [World.cell?, World.frozen?, h, fcells]
  | 1, _ => simp [World.cell?, World.frozen?, h, fcells]
  | 2, _ => simp [World.cell?, World.frozen?, h, fcells]
  | 3, _ => simp [World.cell?, World.frozen?, h, fcells]
theorem FdBx.cells {W : World} {N : Nat} {f : Fld} (h : FdBx W N f) : W.cell? ⟨N, 0, none⟩ = some (.int .i64 f.kind) ∧ W.cell? ⟨N, 1, none⟩ = some (.int .i64 f.num) ∧ W.cell? ⟨N, 2, none⟩ = some (.string f.text) ∧ W.cell? ⟨N, 3, none⟩ = some (.bool f.is) := by
  unfold FdBx at h
  refine ⟨?_, ?_, ?_, ?_⟩ <;> simp [World.cell?, h, fcells]
theorem FdBx.thaw {W : World} {N : Nat} {f : Fld} (h : FdBx W N f) (j : Nat) : W.frozen? ⟨N, j, none⟩ = false := by
  unfold FdBx at h
  simp [World.frozen?, h]
theorem FdBx.put {W : World} {N : Nat} {f : Fld} (h : FdBx W N f) (f' : Fld) : FdBx (W.setCells N 0 (fcells f')) N f' := heap_setCells N _ (fcells f') 0 W _ h
theorem FdBx.range {W : World} {N : Nat} {f : Fld} (h : FdBx W N f) : W.rangeAt N 0 (fcells f) := cells_range h
theorem sizeFld : (Tryz.prog.info? 86).map (·.size) = some 4 := by kernel_rfl
theorem FdBx.num {W : World} {N : Nat} {n : Int} (h : FdBx W N (fldN n)) (m : Int) : FdBx (W.setCell ⟨N, 1, none⟩ (.int .i64 m)) N (fldN m) := heap_setCell_same W N 1 _ _ _ h

set_option maxHeartbeats 8000000 in
set_option maxRecDepth 100000 in
theorem rRead1_any (v : Value) (bs : List Nat) (w : World) (h : SlB w v bs (fun _ => True)) (h8 : ∀ c ∈ bs, c < 256) :
    Calls Tryz.prog 146 #[v, .int .i64 1] w (RFldS bs.length w (rField 1 bs)) := by
  have HN := Lib.hid (fun u (hu : Below w.heap.size w u) => rReadNumber_any v bs u (h.keep (row := none) ⟨hu.os, hu.tape, hu.output, hu.size, fun k hk _ => hu.block k hk⟩ (fun b _ e => by cases e)) h8)
  have e1 : rField 1 bs = match rNum bs with
      | .ok (x, r) => if 9223372036854775807 < x then .error 10 else .ok (fldN x, r)
      | .error er => .error er := by
    unfold rField rCount
    rw [if_pos rfl]
    cases rNum bs with
    | error er => rfl
    | ok q =>
      obtain ⟨x, r⟩ := q
      simp only
      split <;> rfl
  obtain ⟨RR, hRR⟩ : ∃ RR, rField 1 bs = RR := ⟨_, rfl⟩
  rw [hRR] at e1 ⊢
  have HErr := Lib.hid (fun er (h : rNum bs = .error er) => numG_err 9 0 0 bs er h)
  have HLt := Lib.hid (fun x r (h : rNum bs = .ok (x, r)) => Go.Proofs.YtoeklnmmnmmjeaaGreat.code.numG_lt 9 0 0 bs x r rfl (by omega) h8 h)
  obtain ⟨R0, hR0⟩ : ∃ R, rNum bs = R := ⟨_, rfl⟩
  rw [hR0] at HN HErr HLt e1
  have HE1 := Lib.hid e1
  obtain ⟨hl, a, cap, rfl, -, -⟩ := h
  generalize bs.length = L at HN hl ⊢
  clear hl h8 hR0 e1 hRR
  have hb2 : Below w.heap.size w ((w.alloc (.cells #[.int .i64 0, .int .i64 0, .string { data := #[] }, .bool false] 86)).alloc (.cells #[.int .i64 1, .int .i64 0, .string { data := #[] }, .bool false] 86)) := (below_new w _).alloc (by simp) _
  have hx0 : FdBx ((w.alloc (.cells #[.int .i64 0, .int .i64 0, .string { data := #[] }, .bool false] 86)).alloc (.cells #[.int .i64 1, .int .i64 0, .string { data := #[] }, .bool false] 86)) w.heap.size ⟨0, 0, { data := #[] }, false⟩ := by
    unfold FdBx
    simp only [alloc_heap, Array.getElem?_push, Array.size_push]
    repeat (first | rw [if_pos trivial] | rw [if_pos (by omega)] | rw [if_neg (by omega)])
    rfl
  have hx1 : FdBx ((w.alloc (.cells #[.int .i64 0, .int .i64 0, .string { data := #[] }, .bool false] 86)).alloc (.cells #[.int .i64 1, .int .i64 0, .string { data := #[] }, .bool false] 86)) (w.heap.size + 1) (fldN 0) := by
    unfold FdBx
    simp only [alloc_heap, Array.getElem?_push, Array.size_push]
    repeat (first | rw [if_pos trivial] | rw [if_pos (by omega)] | rw [if_neg (by omega)])
    rfl
  have HB := Lib.hid hb2; have HX0 := Lib.hid hx0; have HX1 := Lib.hid hx1
  clear hb2 hx0 hx1
  go_enter Tryz.func146, Tryz.ntmps146
  go_upto_region 2 with fail
  generalize ((w.alloc (.cells #[.int .i64 0, .int .i64 0, .string { data := #[] }, .bool false] 86)).alloc (.cells #[.int .i64 1, .int .i64 0, .string { data := #[] }, .bool false] 86)) = W at HB HX0 HX1 ⊢
  obtain ⟨l0, l1, l2, l3⟩ := HX1.out.cells
  have t1 := HX1.out.thaw 1
  dsimp only [fldN] at l0 l1 l2 l3
  unfold RNumS at HN
  cases R0 with
  | error er =>
    have hne := HErr.out er rfl
    have hne' : True → (er != 0) = true := fun _ => by simpa using hne
    have HNe := Lib.hid hne
    clear hne
    have HP := Lib.hid (HX0.out.put (fldN 0))
    have HBf := Lib.hid (Below.setCells HB.out (b := w.heap.size) (Nat.le_refl _) 0 (fcells (fldN 0)))
    go_wp2_with (first
      | (go_at_call 189; refine (HN.out _ HB.out).mono ?_; rintro e w5 ⟨rfl, rfl⟩)
      | (refine wpList_store_mid rfl 86 _ _ rfl w.heap.size 0 (fcells (fldN 0)).toArray rfl rfl HX0.out.there sizeFld (all_oneCell_toArray (fcells_one _)) ?_))
    refine bodyPost_ret (ret_cell_tmp2 rfl rfl HP.out.range Tryz.underlying86 rfl sizeFld) rfl ?_
    rw [HE1.out]
    exact ⟨HBf.out, HNe.out, rfl⟩
  | ok q =>
    obtain ⟨x, r⟩ := q
    have HLx := Lib.hid (HLt.out x r rfl)
    by_cases hx : 9223372036854775807 < x
    · have HR := Lib.hid (HE1.out.trans (if_pos hx))
      have hx' : True → decide ((9223372036854775807 : Int) < (x : Int)) = true := fun _ => by simp; omega
      clear hx
      have HP := Lib.hid (HX0.out.put (fldN 0))
      have HBf := Lib.hid (Below.setCells HB.out (b := w.heap.size) (Nat.le_refl _) 0 (fcells (fldN 0)))
      go_wp2_with (first
        | (go_at_call 189; refine (HN.out _ HB.out).mono ?_; rintro e w5 ⟨rfl, rfl⟩)
        | (refine wpList_store_mid rfl 86 _ _ rfl w.heap.size 0 (fcells (fldN 0)).toArray rfl rfl HX0.out.there sizeFld (all_oneCell_toArray (fcells_one _)) ?_))
      refine bodyPost_ret (ret_cell_tmp2 rfl rfl HP.out.range Tryz.underlying86 rfl sizeFld) rfl ?_
      rw [HR.out]
      exact ⟨HBf.out, by decide, rfl⟩
    · have HR := Lib.hid (HE1.out.trans (if_neg hx))
      have hx' : True → decide ((9223372036854775807 : Int) < (x : Int)) = false := fun _ => by simp; omega
      have hw : True → IntKind.i64.wrap (x : Int) = (x : Int) := fun _ => by rw [IntKind.wrap_i64]; omega
      clear hx
      have hX1 := HX1.out.num (x : Int)
      have hX0 : FdBx (W.setCell ⟨w.heap.size + 1, 1, none⟩ (.int .i64 (x : Int))) w.heap.size ⟨0, 0, { data := #[] }, false⟩ := (heap_setCell_other _ _ _ _ (by show w.heap.size ≠ w.heap.size + 1; omega)).trans HX0.out
      have HP := Lib.hid (hX0.put (fldN x))
      have HT := Lib.hid hX0.there
      have HBf := Lib.hid (Below.setCells (HB.out.setCell (p := ⟨w.heap.size + 1, 1, none⟩) (Nat.le_succ _) (.int .i64 (x : Int))) (b := w.heap.size) (Nat.le_refl _) 0 (fcells (fldN x)))
      obtain ⟨m0, m1, m2, m3⟩ := hX1.cells
      dsimp only [fldN] at m0 m1 m2 m3
      clear hX0 hX1
      go_wp2_with (first
        | (go_at_call 189; refine (HN.out _ HB.out).mono ?_; rintro e w5 ⟨rfl, rfl⟩)
        | (refine wpList_store_mid rfl 86 _ _ rfl w.heap.size 0 (fcells (fldN x)).toArray rfl rfl HT.out sizeFld (all_oneCell_toArray (fcells_one _)) ?_))
      refine bodyPost_ret (ret_cell_tmp2 rfl rfl HP.out.range Tryz.underlying86 rfl sizeFld) rfl ?_
      rw [HR.out]
      exact ⟨HBf.out, rfl⟩
end Go.Proofs.YtoeklnmmnmmjeaaGreat.crush

namespace Go.Proofs.YtoeklnmmnmmjeaaGreat.crush
open Go.RowKit
open Go.Proofs.YtoeklnmmnmmjeaaGreat.kit Go.Proofs.YtoeklnmmnmmjeaaGreat.own
open Go.Proofs.YtoeklnmmnmmjeaaGreat.cm (Fld)
open Go.Proofs.YtoeklnmmnmmjeaaGreat.code (SlB rNum rCount numG rField rA fcells infoFz SlK OwnF)
set_option linter.unusedVariables false

/-- What read fields come to. -/
def RRowS (L : Nat) (w : World) (R0 : Except Int (List Fld × List Nat)) (e : Ending) (w' : World) : Prop := Below w.heap.size w w' ∧
  match R0 with
  | .ok (fs, r) => ∃ v, e = .returned (.tuple #[v, .int .i64 ((L : Int) - (r.length : Int)), .int .i64 0]) ∧ Own fcells 4 86 w' w.heap.size v fs
  | .error er => er ≠ 0 ∧ e = .returned (.tuple #[.slice none 0 0, .int .i64 0, .int .i64 er])
/-- The rest of a row of bytes. -/
theorem slB_drop {w : World} {a : Option Addr} {L cap at_ : Nat} {bs : List Nat} (h : SlB w (.slice a L cap) bs (fun _ => True)) (hL : bs.length = L) (ha : at_ ≤ L) (a' : Option Addr) (cap' : Nat) (hc : L - at_ ≤ cap') (h' : ∀ b off, a = some ⟨b, off, none⟩ → at_ < L → a' = some ⟨b, off + at_, none⟩) :
    SlB w (.slice a' (L - at_) cap') (bs.drop at_) (fun _ => True) := by
  obtain ⟨h1, a0, c0, he, h2, h3⟩ := h
  have hlen : (bs.drop at_).length = L - at_ := by rw [List.length_drop, hL]
  simp only [Value.slice.injEq] at he
  obtain ⟨rfl, -, rfl⟩ := he
  refine ⟨by rw [hlen]; omega, a', cap', by rw [hlen], by rw [hlen]; exact hc, fun h0 => ?_⟩
  rw [hlen] at h0
  obtain ⟨b, off, rfl, -, hlt, hcell⟩ := h3 (by omega)
  refine ⟨b, off + at_, h' b off rfl (by omega), trivial, hlt, fun j hj => ?_⟩
  rw [hlen] at hj
  have := hcell (at_ + j) (by omega)
  rw [Nat.add_assoc, this, List.getD_eq_getElem?_getD, List.getD_eq_getElem?_getD, List.getElem?_drop]
theorem cell_ltn {w : World} {b o : Nat} {v : Value} (h : w.cell? ⟨b, o, none⟩ = some v) : b < w.heap.size := by
  unfold World.cell? at h
  cases hh : w.heap[b]? with
  | none => simp only [hh] at h; cases h
  | some o => exact (Array.getElem?_eq_some_iff.1 hh).1
theorem cell_keep {w w' : World} {b o : Nat} {v : Value} (h : w.cell? ⟨b, o, none⟩ = some v) (hb : Below w.heap.size w w') : w'.cell? ⟨b, o, none⟩ = some v := (hb.cell (p := ⟨b, o, none⟩) (cell_ltn h)).trans h
def set4 (W : World) (M : Nat) (f : Fld) : World := (((W.setCell ⟨M, 0, none⟩ (.int .i64 f.kind)).setCell ⟨M, 1, none⟩ (.int .i64 f.num)).setCell ⟨M, 2, none⟩ (.string f.text)).setCell ⟨M, 3, none⟩ (.bool f.is)
theorem FdBx.set4 {W : World} {M : Nat} {g : Fld} (h : FdBx W M g) (f : Fld) : FdBx (set4 W M f) M f := by
  have e1 := heap_setCell_same W M 0 _ _ (.int .i64 f.kind) h
  have e2 := heap_setCell_same _ M 1 _ _ (.int .i64 f.num) e1
  have e3 := heap_setCell_same _ M 2 _ _ (.string f.text) e2
  exact heap_setCell_same _ M 3 _ _ (.bool f.is) e3
theorem below_set4 {B : Nat} {w W : World} (h : Below B w W) {M : Nat} (hM : B ≤ M) (f : Fld) : Below B w (set4 W M f) :=
  (((h.setCell (p := ⟨M, 0, none⟩) hM _).setCell (p := ⟨M, 1, none⟩) hM _).setCell (p := ⟨M, 2, none⟩) hM _).setCell (p := ⟨M, 3, none⟩) hM _
theorem Own.set4 {B e : Nat} {W : World} {v : Value} {xs : List Fld} (h : Own fcells 4 e W B v xs) {M : Nat} (hM : v.ownBlock ≠ some M) (f : Fld) : Own fcells 4 e (_root_.Go.Proofs.YtoeklnmmnmmjeaaGreat.crush.set4 W M f) B v xs :=
  (((h.setOther hM 0 _).setOther hM 1 _).setOther hM 2 _).setOther hM 3 _
theorem set4_cell {w : World} {M b o : Nat} {v : Value} (h : w.cell? ⟨b, o, none⟩ = some v) (hne : b ≠ M) (u0 u1 u2 u3 : Value) : ((((w.setCell ⟨M, 0, none⟩ u0).setCell ⟨M, 1, none⟩ u1).setCell ⟨M, 2, none⟩ u2).setCell ⟨M, 3, none⟩ u3).cell? ⟨b, o, none⟩ = some v := by
  have e : ((((w.setCell ⟨M, 0, none⟩ u0).setCell ⟨M, 1, none⟩ u1).setCell ⟨M, 2, none⟩ u2).setCell ⟨M, 3, none⟩ u3).heap[b]? = w.heap[b]? := by
    rw [heap_setCell_other _ _ _ _ hne, heap_setCell_other _ _ _ _ hne, heap_setCell_other _ _ _ _ hne, heap_setCell_other _ _ _ _ hne]
  exact (World.cell?_of_block (a := ⟨b, o, none⟩) e).trans h
theorem numG_drop : ∀ (k i x : Nat) (bs : List Nat) (y : Nat) (r : List Nat), numG k i x bs = .ok (y, r) → ∃ j, r = bs.drop j ∧ j ≤ bs.length
  | k, i, x, [], y, r, h => by cases k <;> simp [numG] at h
  | 0, i, x, c :: bs, y, r, h => by
    rw [numG] at h
    split at h
    · cases h; exact ⟨1, rfl, by simp⟩
    · cases h
  | k + 1, i, x, c :: bs, y, r, h => by
    rw [numG] at h
    split at h
    · cases h
    · split at h
      · cases h; exact ⟨1, rfl, by simp⟩
      · obtain ⟨j, h1, h2⟩ := numG_drop k (i + 1) _ bs y r h
        exact ⟨j + 1, h1, by simpa using h2⟩
theorem rField1_ok {bs : List Nat} {f : Fld} {r : List Nat} (h : rField 1 bs = .ok (f, r)) : ∃ (x : Int) (j : Nat), f = fldN x ∧ r = bs.drop j ∧ j ≤ bs.length := by
  unfold rField rCount at h
  rw [if_pos rfl] at h
  cases hr : rNum bs with
  | error er => rw [hr] at h; cases h
  | ok q =>
    obtain ⟨y, r'⟩ := q
    rw [hr] at h
    obtain ⟨j, h1, h2⟩ := numG_drop _ _ _ _ _ _ hr
    simp only at h
    split at h
    · cases h
    · cases h; exact ⟨_, j, rfl, h1, h2⟩
set_option maxHeartbeats 16000000 in
set_option maxRecDepth 100000 in
theorem rRead_any (v kv : Value) (bs : List Nat) (ks : List Int) (w : World) (h : SlB w v bs (fun _ => True)) (h8 : ∀ c ∈ bs, c < 256) (hk : Sl ic 1 w kv ks) (h1 : ∀ k ∈ ks, k = 1) (hn : ks.length ≤ 1000) :
    Calls Tryz.prog 108 #[v, kv] w (RRowS bs.length w (rA rField [] ks bs)) := by
  have HR := Lib.hid (fun u v bs (h : SlB u v bs (fun _ => True)) (h8 : ∀ c ∈ bs, c < 256) => rRead1_any v bs u h h8)
  have HS := Lib.hid (fun u (hu : Below w.heap.size w u) => h.keep (row := none) (W' := u) ⟨hu.os, hu.tape, hu.output, hu.size, fun k hk _ => hu.block k hk⟩ (fun b _ e => by cases e))
  have H8 := Lib.hid h8; have H1 := Lib.hid h1
  obtain ⟨hl, a, cap, rfl, hle, -⟩ := h
  have HK := Lib.hid hk
  obtain ⟨ak, ck, rfl⟩ := hk.slice
  obtain ⟨L, hL⟩ : ∃ L, bs.length = L := ⟨_, rfl⟩
  have HL := Lib.hid hL
  rw [hL] at hl hle HS ⊢
  obtain ⟨n, hn'⟩ : ∃ n, ks.length = n := ⟨_, rfl⟩
  have HN := Lib.hid hn'
  rw [hn'] at HK hn ⊢
  obtain ⟨R0, hR0⟩ : ∃ R, rA rField [] ks bs = R := ⟨_, rfl⟩
  have HR0 := Lib.hid hR0
  rw [hR0]
  clear h8 h1 hL hn' hk hR0
  go_enter Tryz.func108, Tryz.ntmps108
  go_wp2_with fail
  go_loopw [7, 8, 9] (fun vl va vi wr => ∃ (i at_ : Nat) (fs : List Fld), i ≤ n ∧ at_ ≤ L ∧ fs.length = i ∧ va = .int .i64 at_ ∧ vi = .int .i64 i ∧ Own fcells 4 86 wr w.heap.size vl fs ∧ rA rField fs (ks.drop i) (bs.drop at_) = R0 ∧ Below w.heap.size w wr) (fun _ _ i _ => n - (intOf i).toNat)
  case atStart => exact ⟨0, 0, [], by omega, by omega, rfl, rfl, rfl, Own.nil _ _ _, HR0.out, Below.refl _ _⟩
  case round =>
    obtain ⟨i, at_, fs, hi, ha, hfl, rfl, rfl, ho, hA, hb⟩ := hrel
    obtain ⟨al, cl, rfl⟩ := ho.slice
    have HO := Lib.hid (show Own fcells 4 86 wr w.heap.size (.slice al i cl) fs from by rw [← hfl]; exact ho); have HA := Lib.hid hA; have HB := Lib.hid hb; have HFl := Lib.hid hfl
    clear hfl
    rw [HFl.out]
    by_cases hlt : i < n
    · have hlt' : (i : Int) < n := by omega
      have hi0 : (0 : Int) ≤ i := by omega
      have hat0 : (0 : Int) ≤ at_ := by omega
      have hat1 : (at_ : Int) ≤ L := by omega
      have hat2 : (L : Int) ≤ cap := by omega
      obtain ⟨bk, ok, hek, hbk, hrk⟩ := sl_elem (HK.out.keep hb) i (by rw [HN.out]; exact hlt)
      cases hek
      have d0 := icell_at hrk
      rw [H1.out _ (List.getElem_mem _), Nat.mul_one] at d0
      have HDw := Lib.hid (below_drew HB.out)
      have d0' : wr.drew.cell? ⟨bk, ok + i, none⟩ = some (.int .i64 1) := d0
      clear hrk hbk hb ho hA
      go_upto_region 6 with fail
      have hdl : (bs.drop at_).length = L - at_ := by rw [List.length_drop, HL.out]
      have HSd := Lib.hid (fun u (hu : Below w.heap.size w u) => slB_drop (HS.out u hu) HL.out ha (if cap = at_ then a else Option.map (fun x => x.add at_) a) (cap - at_) (by omega) (fun b off e h2 => by rw [if_neg (by omega), e]; exact congrArg some (add_plain' b off at_)))
      have H8d := Lib.hid (fun c (hc : c ∈ bs.drop at_) => H8.out c (List.mem_of_mem_drop hc))
      have HRr := Lib.hid (fun u (hu : Below w.heap.size w u) => HR.out u _ _ (HSd.out u hu) H8d.out)
      rw [hdl] at HRr
      have HKd : Hid (ks.drop i = 1 :: ks.drop (i + 1)) := Lib.hid (by rw [List.drop_eq_getElem_cons (by rw [HN.out]; exact hlt), H1.out _ (List.getElem_mem _)])
      obtain ⟨F, hF⟩ : ∃ F, rField 1 (bs.drop at_) = F := ⟨_, rfl⟩
      rw [hF] at HRr
      unfold RFldS at HRr
      cases F with
      | error er =>
        have he : Hid (R0 = .error er) := Lib.hid (by rw [← HA.out, HKd.out, Go.Proofs.YtoeklnmmnmmjeaaGreat.code.rA_err hF])
        clear hF hdl
        have HZb := Lib.hid (below_drew (below_new wr (.cells #[.int .i64 0, .int .i64 0, .string { data := #[] }, .bool false] 86)))
        have HZx := Lib.hid (show FdBx (wr.alloc (.cells #[.int .i64 0, .int .i64 0, .string { data := #[] }, .bool false] 86)).drew wr.heap.size ⟨0, 0, { data := #[] }, false⟩ from alloc_at wr _)
        have HBz := Lib.hid (HB.out.trans (HZb.out.mono HB.out.size))
        have HMw := Lib.hid HB.out.size
        have d0z := cell_keep d0 HZb.out
        dsimp only [fcells, fldN] at HRr
        go_region_held3 (fun u => u.cell? ⟨bk, ok + i, none⟩ = some (.int .i64 1))
          (first | (with_reducible exact d0') | (with_reducible exact d0z) | (with_reducible exact HD5.out) | (with_reducible exact HD6.out _) | (with_reducible exact HD7.out))
          (first
            | (go_at_call 146; refine (HRr.out _ HDw.out).mono ?_; rintro e w5 ⟨hb5, hne, rfl⟩; have HNe := Lib.hid hne; have hne' : True → (er != 0) = true := (fun _ => by simpa using hne); clear hne; have HB5 := Lib.hid (HDw.out.trans (hb5.mono HDw.out.size)); have HD5 := Lib.hid (cell_keep d0' hb5); have HD6 := Lib.hid (fun (o : Obj) => cell_keep d0' (hb5.alloc hb5.size o)); clear hb5; dsimp only)
            | (go_at_call 146; refine (HRr.out _ HBz.out).mono ?_; rintro e w5 ⟨hb5, hne, rfl⟩; have HNe := Lib.hid hne; have hne' : True → (er != 0) = true := (fun _ => by simpa using hne); clear hne; have HB5 := Lib.hid (HBz.out.trans (hb5.mono HBz.out.size)); have HD5 := Lib.hid (cell_keep d0z hb5); have HD7 := Lib.hid (set4_cell (M := wr.heap.size) (cell_keep d0z hb5) (by have := cell_ltn d0; omega) (.int .i64 1) (.int .i64 0) (.string { data := #[] }) (.bool false)); have hz5 := (show FdBx w5 wr.heap.size ⟨0, 0, { data := #[] }, false⟩ from (hb5.block _ (Array.getElem?_eq_some_iff.1 HZx.out).1).trans HZx.out); have HZ5 := Lib.hid hz5; obtain ⟨s0, s1, s2, s3⟩ := hz5.cells; have t0 := hz5.thaw 0; have t1 := hz5.thaw 1; have t2 := hz5.thaw 2; have t3 := hz5.thaw 3; clear hb5 hz5; dsimp only))
        all_goals
          generalize (if cap = at_ then a else Option.map (fun x => x.add at_) a) = sa
          go_wp2
          go_ret3
          rw [he.out]
          first | exact ⟨HB5.out.alloc HB5.out.size _, HNe.out, rfl⟩ | exact ⟨below_set4 HB5.out HMw.out (fldN 0), HNe.out, rfl⟩
      | ok q =>
        obtain ⟨f, r⟩ := q
        obtain ⟨x, j, rfl, hr, hj⟩ := rField1_ok hF
        have HA2 : Hid (rA rField (fs ++ [fldN x]) (ks.drop (i + 1)) (bs.drop (at_ + j)) = R0) := Lib.hid (by rw [← HA.out, HKd.out, Go.Proofs.YtoeklnmmnmmjeaaGreat.code.rA_ok hF, hr, List.drop_drop])
        have hjl : j ≤ L - at_ := by rw [← hdl]; exact hj
        have hrl : (((L - at_ : Nat) : Int) - (r.length : Int)) = (j : Int) := by rw [hr, List.length_drop, hdl]; omega
        simp only [hrl] at HRr
        have hsum : (at_ : Int) + (j : Int) ≤ 140737488351232 := by omega
        clear hF hdl hr hj hrl
        dsimp only [fcells, fldN] at HRr
        have HZb := Lib.hid (below_drew (below_new wr (.cells #[.int .i64 0, .int .i64 0, .string { data := #[] }, .bool false] 86)))
        have HZx := Lib.hid (show FdBx (wr.alloc (.cells #[.int .i64 0, .int .i64 0, .string { data := #[] }, .bool false] 86)).drew wr.heap.size ⟨0, 0, { data := #[] }, false⟩ from alloc_at wr _)
        have HBz := Lib.hid (HB.out.trans (HZb.out.mono HB.out.size))
        have HMw := Lib.hid HB.out.size
        have d0z := cell_keep d0 HZb.out
        go_region_held3 (fun u => u.cell? ⟨bk, ok + i, none⟩ = some (.int .i64 1))
          (first | (with_reducible exact d0') | (with_reducible exact d0z) | (with_reducible exact HD5.out) | (with_reducible exact HD6.out _) | (with_reducible exact HD7.out))
          (first
            | (go_at_call 146; refine (HRr.out _ HDw.out).mono ?_; rintro e w5 ⟨hb5, rfl⟩; have HB5 := Lib.hid (HDw.out.trans (hb5.mono HDw.out.size)); have HD5 := Lib.hid (cell_keep d0' hb5); have HD6 := Lib.hid (fun (o : Obj) => cell_keep d0' (hb5.alloc hb5.size o)); have HO5 := Lib.hid (HO.out.below ((show Below wr.heap.size wr wr.drew from below_drew (Below.refl _ _)).trans hb5)); clear hb5; dsimp only)
            | (go_at_call 146; refine (HRr.out _ HBz.out).mono ?_; rintro e w5 ⟨hb5, rfl⟩; have HB5 := Lib.hid (HBz.out.trans (hb5.mono HBz.out.size)); have HD5 := Lib.hid (cell_keep d0z hb5); have HD7 := Lib.hid (set4_cell (M := wr.heap.size) (cell_keep d0z hb5) (by have := cell_ltn d0; omega) (.int .i64 1) (.int .i64 x) (.string { data := #[] }) (.bool false)); have hz5 := (show FdBx w5 wr.heap.size ⟨0, 0, { data := #[] }, false⟩ from (hb5.block _ (Array.getElem?_eq_some_iff.1 HZx.out).1).trans HZx.out); have HZ5 := Lib.hid hz5; obtain ⟨s0, s1, s2, s3⟩ := hz5.cells; have t0 := hz5.thaw 0; have t1 := hz5.thaw 1; have t2 := hz5.thaw 2; have t3 := hz5.thaw 3; have HO5 := Lib.hid (HO.out.below (HZb.out.trans (hb5.mono HZb.out.size))); have hne5 : (Value.slice al i cl).ownBlock ≠ some wr.heap.size := (fun e => by have := (HO.out.blk _ e).2; omega); have HNe5 := Lib.hid hne5; clear hne5; clear hb5 hz5; dsimp only))
        all_goals
          first
          | (have HX6 := Lib.hid (show FdBx (set4 w5 wr.heap.size (fldN x)) wr.heap.size (fldN x) from HZ5.out.set4 (fldN x)); have HB6 := Lib.hid (show Below w.heap.size w (set4 w5 wr.heap.size (fldN x)) from below_set4 HB5.out HMw.out (fldN x)); have HO6 := Lib.hid (show Own fcells 4 86 (set4 w5 wr.heap.size (fldN x)) w.heap.size (.slice al i cl) fs from HO5.out.set4 HNe5.out (fldN x)); clear HB5 HO5 HZ5 s0 s1 s2 s3 t0 t1 t2 t3; unfold set4 at HX6 HB6 HO6; dsimp only [fldN] at HX6 HB6 HO6; generalize ((((w5.setCell ⟨wr.heap.size, 0, none⟩ (.int .i64 1)).setCell ⟨wr.heap.size, 1, none⟩ (.int .i64 x)).setCell ⟨wr.heap.size, 2, none⟩ (.string { data := #[] })).setCell ⟨wr.heap.size, 3, none⟩ (.bool false)) = W6 at HX6 HB6 HO6 ⊢; obtain ⟨N6, hN6⟩ : ∃ N, wr.heap.size = N := ⟨_, rfl⟩; rw [hN6] at HX6 ⊢; clear hN6)
          | (have HX6 := Lib.hid (show FdBx (w5.alloc (.cells #[.int .i64 1, .int .i64 x, .string { data := #[] }, .bool false] 86)) w5.heap.size (fldN x) from alloc_at w5 _); have HB6 := Lib.hid (show Below w.heap.size w (w5.alloc (.cells #[.int .i64 1, .int .i64 x, .string { data := #[] }, .bool false] 86)) from HB5.out.alloc HB5.out.size _); have HO6 := Lib.hid (show Own fcells 4 86 (w5.alloc (.cells #[.int .i64 1, .int .i64 x, .string { data := #[] }, .bool false] 86)) w.heap.size (.slice al i cl) fs from HO5.out.below (below_new w5 _)); generalize (w5.alloc (.cells #[.int .i64 1, .int .i64 x, .string { data := #[] }, .bool false] 86)) = W6 at HX6 HB6 HO6 ⊢; generalize w5.heap.size = N6 at HX6 ⊢; clear HB5 HO5)
        all_goals
          obtain ⟨q0, q1, q2, q3⟩ := (show FdBx W6 N6 (fldN x) from HX6.out).cells
          dsimp only [fldN] at q0 q1 q2 q3
          have HS6 := Lib.hid (sl_new fcells_len W6 (fldN x) 86 W6.heap.size rfl)
          have HO7 := Lib.hid (HO6.out.below (below_new W6 (.cells (fcells (fldN x)).toArray 86)))
          have HB7 := Lib.hid (HB6.out.trans ((below_new W6 (.cells (fcells (fldN x)).toArray 86)).mono HB6.out.size))
          clear d0 d0' d0z
          generalize (if cap = at_ then a else Option.map (fun x => x.add at_) a) = sa
          go_wp2_with (at_builtin; refine app1Q fcells_len fcells_one (by decide) rfl _ _ 76 rfl w.heap.size 86 _ (by rfl) 40 Tryz.underlying76 infoFz _ fs rfl HO7.out _ (fldN x) rfl HS6.out (by have := HFl.out; unfold maxLen; omega) (by have := HFl.out; omega) HB7.out.size ?_; intro v8 w8 ho hk _ _; obtain ⟨a8, c8, rfl⟩ := ho.slice; have HO8 := Lib.hid ho; have HB8 := Lib.hid (HB7.out.trans hk.toBelow); clear ho hk)
          go_roundw
          case rel => exact ⟨i + 1, at_ + j, fs ++ [fldN x], by omega, by omega, by rw [List.length_append, HFl.out]; rfl, by go_num, by go_num, by have h := HO8.out; rw [List.length_append] at h; exact h, HA2.out, HB8.out⟩
          case measure => simp [intOf]; omega
    · have hlt' : ¬ ((i : Int) < n) := by omega
      have he : Hid (R0 = .ok (fs, bs.drop at_)) := Lib.hid (by
        rw [← HA.out, List.drop_of_length_le (by rw [HN.out]; omega)]; rfl)
      have hdl : (bs.drop at_).length = L - at_ := by rw [List.length_drop, HL.out]
      have HDl : Hid ((L : Int) - ((bs.drop at_).length : Int) = at_) := Lib.hid (by rw [hdl]; omega)
      clear hdl hb ho hA
      go_wp2
      go_ret3
      rw [he.out]
      refine ⟨HB.out, .slice al i cl, by rw [HDl.out]; rfl, HO.out⟩
end Go.Proofs.YtoeklnmmnmmjeaaGreat.crush

namespace Go.Proofs.YtoeklnmmnmmjeaaGreat.crush
open Go.RowKit
open Go.Proofs.YtoeklnmmnmmjeaaGreat.kit Go.Proofs.YtoeklnmmnmmjeaaGreat.own
open Go.Proofs.YtoeklnmmnmmjeaaGreat.cm (Fld txtN)
open Go.Proofs.YtoeklnmmnmmjeaaGreat.code (fcells infoFz SlF SlB SlK OwnF rA rField ReadS Read_any str_bytes)
set_option linter.unusedVariables false

def incZ : IncV := ⟨0, 0, 0, 0, ⟨0, 0, 0, 0⟩⟩
/-- What a text is read as. -/
def decR (R0 : Except Int (List Fld × List Nat)) : Int × IncV :=
  match R0 with
  | .ok (fs, []) => if okInc (incOfL fs) then (0, incOfL fs) else (14, incZ)
  | _ => (10, incZ)
def decB (bs : List Nat) : Int × IncV := decR (rA rField [] [1, 1, 1, 1, 1, 1, 1, 1] bs)
def DecS (w : World) (r : Int × IncV) (e : Ending) (w' : World) : Prop := e = .returned (.tuple #[r.2.val, .int .i64 r.1]) ∧ Below w.heap.size w w'
theorem txtN_8 (s : ByteArray) : ∀ c ∈ txtN s, c < 256 := by
  intro c hc
  obtain ⟨b, _, rfl⟩ := List.mem_map.1 hc
  exact b.toNat_lt

set_option maxHeartbeats 16000000 in
set_option maxRecDepth 100000 in
theorem Decode_any (s : ByteArray) (hs : s.size ≤ 100000000000) (w : World) : Calls Tryz.prog 12 #[.string s] w (DecS w (decB (txtN s))) := by
  -- the result's box
  have hb1 := below_new w (.cells #[.int .i64 0, .int .i64 0, .int .i64 0, .int .i64 0, .int .i64 0, .int .i64 0, .int .i64 0, .int .i64 0] 31)
  have HI1 := Lib.hid (ibx_new w incZ)
  have HB1 := Lib.hid hb1
  generalize hW1 : (w.alloc (.cells #[.int .i64 0, .int .i64 0, .int .i64 0, .int .i64 0, .int .i64 0, .int .i64 0, .int .i64 0, .int .i64 0] 31)) = W1 at HB1
  have HI1' := Lib.hid (show IBx W1 w.heap.size incZ from by rw [← hW1]; exact HI1.out)
  obtain ⟨cp, W2, hcv, hsb, hb2⟩ := str_bytes W1 s hs
  have hlenB : (txtN s).length = s.size := by unfold txtN; rw [List.length_map, Array.length_toList]; rfl
  have HSB := Lib.hid hsb; have HB2 := Lib.hid hb2
  have hnk := sl_new ic_len W2 1 3 W2.heap.size rfl
  have hb3 := below_new W2 (.cells (ic 1).toArray 3)
  have HNk := Lib.hid hnk; have HB3 := Lib.hid hb3
  have HR := Lib.hid (fun u (h : Sl ic 1 u (.slice (some ⟨W2.heap.size, 0, none⟩) 1 1) [1]) => repeatI _ 1 8 (by omega) (by omega) u h)
  have H8 := Lib.hid (txtN_8 s)
  have HWh := Lib.hid (fun bv kv u (hb : SlB u bv (txtN s) (fun _ => True)) (hk : SlK u kv [1, 1, 1, 1, 1, 1, 1, 1]) => wholeG_any bv kv (txtN s) [1, 1, 1, 1, 1, 1, 1, 1] u hb H8.out hk (by decide))
  obtain ⟨R0, hR0⟩ : ∃ R0, rA rField [] [1, 1, 1, 1, 1, 1, 1, 1] (txtN s) = R0 := ⟨_, rfl⟩
  have HR0 := Lib.hid hR0
  have hdec : decB (txtN s) = decR R0 := by unfold decB; rw [hR0]
  have hlen8 : ∀ fs r, R0 = .ok (fs, r) → fs.length = 8 := fun fs r h => by rw [← hR0] at h; exact rA_len _ _ _ _ _ h
  rw [hdec]
  have HL8 := Lib.hid hlen8
  rw [hR0] at HWh
  clear hb1 hsb hb2 hnk hb3 hR0 hdec hlen8 hs HI1
  go_enter Tryz.func12, Tryz.ntmps12
  cases R0 with
  | error er =>
    go_upto_region 2 with (first
      | (go_at_call 54; refine (HR.out _ HNk.out).mono ?_; rintro e w5 ⟨v5, rfl, ho, hb⟩; obtain ⟨a5, c5, rfl⟩ := ho.slice; have HB5 := Lib.hid (HB3.out.trans (hb.mono HB3.out.size)); have HK5 := Lib.hid (slK_of (ho.read ic_len)); clear ho hb)
      | (go_at_call 53; refine (HWh.out _ _ w5 (HSB.out.keep (row := none) ⟨HB5.out.os, HB5.out.tape, HB5.out.output, HB5.out.size, fun k hk _ => HB5.out.block k hk⟩ (fun b _ e => by cases e)) HK5.out).mono ?_; rintro e w6 ⟨hb6, rfl, hne⟩))
    have HB26 := Lib.hid (HB2.out.trans ((HB5.out.trans (hb6.mono HB5.out.size)).mono HB2.out.size))
    have HI6 := Lib.hid (HI1'.out.keep HB26.out)
    have HBw6 := Lib.hid (HB1.out.trans (HB26.out.mono HB1.out.size))
    clear hb6 hcv HSB HWh HR HK5 HNk HB3 HB5 HB2 HB26 H8
    have hne' : True → (er != 0) = true := fun _ => by simpa using hne
    have HNe := Lib.hid hne
    clear hne
    have hT := HI6.out.there
    have HF := Lib.hid (HI6.out.put incZ)
    have HBf := Lib.hid (Below.setCells HBw6.out (b := w.heap.size) (Nat.le_refl _) 0 (IncV.cells incZ))
    go_wp2_with (refine wpList_store_mid rfl 31 _ _ rfl w.heap.size 0 (IncV.cells incZ).toArray rfl rfl hT sizeInc (all_oneCell_toArray (IncV.one _)) ?_)
    refine bodyPost_ret (ret_cell_tmp rfl rfl HF.out.range Tryz.underlying31 rfl sizeInc) rfl ?_
    exact ⟨rfl, HBf.out⟩
  | ok q =>
    obtain ⟨fs, rr⟩ := q
    cases rr with
    | cons c r =>
      go_upto_region 2 with (first
        | (go_at_call 54; refine (HR.out _ HNk.out).mono ?_; rintro e w5 ⟨v5, rfl, ho, hb⟩; obtain ⟨a5, c5, rfl⟩ := ho.slice; have HB5 := Lib.hid (HB3.out.trans (hb.mono HB3.out.size)); have HK5 := Lib.hid (slK_of (ho.read ic_len)); clear ho hb)
        | (go_at_call 53; refine (HWh.out _ _ w5 (HSB.out.keep (row := none) ⟨HB5.out.os, HB5.out.tape, HB5.out.output, HB5.out.size, fun k hk _ => HB5.out.block k hk⟩ (fun b _ e => by cases e)) HK5.out).mono ?_; rintro e w6 ⟨hb6, rfl⟩))
      have HB26 := Lib.hid (HB2.out.trans ((HB5.out.trans (hb6.mono HB5.out.size)).mono HB2.out.size))
      have HI6 := Lib.hid (HI1'.out.keep HB26.out)
      have HBw6 := Lib.hid (HB1.out.trans (HB26.out.mono HB1.out.size))
      clear hb6 hcv HSB HWh HR HK5 HNk HB3 HB5 HB2 HB26 H8
      have hT := HI6.out.there
      have HF := Lib.hid (HI6.out.put incZ)
      have HBf := Lib.hid (Below.setCells HBw6.out (b := w.heap.size) (Nat.le_refl _) 0 (IncV.cells incZ))
      go_wp2_with (refine wpList_store_mid rfl 31 _ _ rfl w.heap.size 0 (IncV.cells incZ).toArray rfl rfl hT sizeInc (all_oneCell_toArray (IncV.one _)) ?_)
      refine bodyPost_ret (ret_cell_tmp rfl rfl HF.out.range Tryz.underlying31 rfl sizeInc) rfl ?_
      exact ⟨rfl, HBf.out⟩
    | nil =>
      go_upto_region 2 with (first
        | (go_at_call 54; refine (HR.out _ HNk.out).mono ?_; rintro e w5 ⟨v5, rfl, ho, hb⟩; obtain ⟨a5, c5, rfl⟩ := ho.slice; have HB5 := Lib.hid (HB3.out.trans (hb.mono HB3.out.size)); have HK5 := Lib.hid (slK_of (ho.read ic_len)); clear ho hb)
        | (go_at_call 53; refine (HWh.out _ _ w5 (HSB.out.keep (row := none) ⟨HB5.out.os, HB5.out.tape, HB5.out.output, HB5.out.size, fun k hk _ => HB5.out.block k hk⟩ (fun b _ e => by cases e)) HK5.out).mono ?_; rintro e w6 ⟨hb6, v6, rfl, ho6⟩))
      obtain ⟨a6, c6, rfl⟩ := (slF_to ho6).slice
      have HO6 := Lib.hid ((slF_to ho6).read fcells_len)
      have hfl := HL8.out fs [] rfl
      rw [hfl] at HO6 ⊢
      clear ho6
      have HB26 := Lib.hid (HB2.out.trans ((HB5.out.trans (hb6.mono HB5.out.size)).mono HB2.out.size))
      have HI6 := Lib.hid (HI1'.out.keep HB26.out)
      have HBw6 := Lib.hid (HB1.out.trans (HB26.out.mono HB1.out.size))
      clear hb6 hcv HSB HWh HR HK5 HNk HB3 HB5 HB2 HB26 H8
      have HIo := Lib.hid (incOf_any _ fs hfl w6 HO6.out)
      have HIn := Lib.hid (fun u => Inc_any (incOfL fs) u)
      have hdr : decR (.ok (fs, [])) = if okInc (incOfL fs) then (0, incOfL fs) else (14, incZ) := rfl
      obtain ⟨q, hq⟩ : ∃ q, okInc (incOfL fs) = q := ⟨_, rfl⟩
      rw [hq] at HIn hdr
      generalize incOfL fs = cc at HIo HIn hq hdr
      have HDr := Lib.hid hdr
      clear hdr hq hfl HL8 HR0
      have HBn := Lib.hid (fun (u : World) => below_new u (.cells #[.int .i64 cc.kind, .int .i64 cc.osd, .int .i64 cc.client, .int .i64 cc.num, .int .i64 cc.pool.size, .int .i64 cc.pool.min, .int .i64 cc.pool.pgs, .int .i64 cc.pool.dom] 31))
      have HXn := Lib.hid (fun (u : World) => ibx_new u cc)
      unfold IncV.val at HIo HIn
      go_upto_region 5 with (go_at_call 55; refine HIo.out.mono ?_; rintro e w7 ⟨rfl, hb7⟩; have HB7 := Lib.hid (HBw6.out.trans (hb7.mono HBw6.out.size)); have HI7 := Lib.hid (HI6.out.keep hb7); clear hb7)
      have HX8 := Lib.hid (HXn.out w7)
      have HB8 := Lib.hid (HB7.out.trans ((HBn.out w7).mono HB7.out.size))
      have HI8 := Lib.hid (HI7.out.keep (HBn.out w7))
      generalize (w7.alloc (.cells #[.int .i64 cc.kind, .int .i64 cc.osd, .int .i64 cc.client, .int .i64 cc.num, .int .i64 cc.pool.size, .int .i64 cc.pool.min, .int .i64 cc.pool.pgs, .int .i64 cc.pool.dom] 31)) = w8 at HX8 HB8 HI8 ⊢
      obtain ⟨M, hM⟩ : ∃ M, w7.heap.size = M := ⟨_, rfl⟩
      rw [hM] at HX8 ⊢
      obtain ⟨c0, c1, c2, c3, c4, c5, c6, c7⟩ := HX8.out.cells
      clear hM HI7 HB7 HIo HI6 HBw6 HBn HXn
      have hT := HI8.out.there
      have HIz := Lib.hid (fun u (h : IBx u w.heap.size incZ) => h.there)
      clear hT
      cases q with
      | false =>
        go_wp2_with (first
          | (go_at_call 20; refine (HIn.out _).mono ?_; rintro e w9 ⟨rfl, hb⟩; have HB9 := Lib.hid (HB8.out.trans (hb.mono HB8.out.size)); have HI9 := Lib.hid (HI8.out.keep hb); clear hb c0 c1 c2 c3 c4 c5 c6 c7)
          | (refine wpList_store_mid rfl 31 _ _ rfl w.heap.size 0 (IncV.cells incZ).toArray rfl rfl HI9.out.there sizeInc (all_oneCell_toArray (IncV.one _)) ?_))
        refine bodyPost_ret (ret_cell_tmp rfl rfl (HI9.out.put incZ).range Tryz.underlying31 rfl sizeInc) rfl ?_
        rw [HDr.out]
        exact ⟨rfl, Below.setCells HB9.out (b := w.heap.size) (Nat.le_refl _) 0 (IncV.cells incZ)⟩
      | true =>
        go_wp2_with (first
          | (go_at_call 20; refine (HIn.out _).mono ?_; rintro e w9 ⟨rfl, hb⟩; have HB9 := Lib.hid (HB8.out.trans (hb.mono HB8.out.size)); have HI9 := Lib.hid (HI8.out.keep hb); clear c0 c1 c2 c3 c4 c5 c6 c7; obtain ⟨c0, c1, c2, c3, c4, c5, c6, c7⟩ := (HX8.out.keep hb).cells; clear hb)
          | (refine wpList_store_mid rfl 31 _ _ rfl w.heap.size 0 (IncV.cells cc).toArray rfl rfl HI9.out.there sizeInc (all_oneCell_toArray (IncV.one _)) ?_; clear c0 c1 c2 c3 c4 c5 c6 c7))
        refine bodyPost_ret (ret_cell_tmp rfl rfl (HI9.out.put cc).range Tryz.underlying31 rfl sizeInc) rfl ?_
        rw [HDr.out]
        exact ⟨rfl, Below.setCells HB9.out (b := w.heap.size) (Nat.le_refl _) 0 (IncV.cells cc)⟩
end Go.Proofs.YtoeklnmmnmmjeaaGreat.crush

namespace Go.Proofs.YtoeklnmmnmmjeaaGreat.crush
open Go.RowKit
open Go.Proofs.YtoeklnmmnmmjeaaGreat.kit Go.Proofs.YtoeklnmmnmmjeaaGreat.own
open Go.Proofs.YtoeklnmmnmmjeaaGreat.cm (Fld txtN)
open Go.Proofs.YtoeklnmmnmmjeaaGreat.code (SlB rNum rCount numG rField rA fcells infoFz SlK OwnF str_bytes)
set_option linter.unusedVariables false

set_option maxHeartbeats 4000000 in
set_option maxRecDepth 100000 in
theorem rWhole_any (bv kv : Value) (bs : List Nat) (ks : List Int) (w : World) (hb : SlB w bv bs (fun _ => True)) (h8 : ∀ c ∈ bs, c < 256) (hk : Sl ic 1 w kv ks) (h1 : ∀ k ∈ ks, k = 1) (hn : ks.length ≤ 1000) :
    Calls Tryz.prog 56 #[bv, kv] w (WholeG w (rA rField [] ks bs)) := by
  have HR := Lib.hid (rRead_any bv kv bs ks w hb h8 hk h1 hn)
  obtain ⟨hl, a, cap, rfl, hle, _⟩ := hb
  obtain ⟨ak, ck, rfl⟩ := hk.slice
  clear h8 hk h1 hn
  obtain ⟨R0, hR0⟩ : ∃ R0, rA rField [] ks bs = R0 := ⟨_, rfl⟩
  rw [hR0] at HR ⊢
  unfold RRowS at HR
  clear hR0
  cases R0 with
  | error er =>
    go_enter Tryz.func56, Tryz.ntmps56
    go_wp2_with fail
    refine HR.out.mono ?_
    rintro e w1 ⟨hb1, hne, rfl⟩
    have HB1 := Lib.hid hb1
    have hne' : True → (er != 0) = true := fun _ => by simpa using hne
    have hne'' : True → (er == 0) = false := fun _ => by simpa using hne
    have HNe := Lib.hid hne
    clear hb1 hne HR
    go_wp2
    go_ret2
    exact ⟨HB1.out, rfl, HNe.out⟩
  | ok q =>
    obtain ⟨fs, rr⟩ := q
    cases rr with
    | nil =>
      go_enter Tryz.func56, Tryz.ntmps56
      go_wp2_with fail
      refine HR.out.mono ?_
      rintro e w1 ⟨hb1, v, rfl, ho⟩
      have HB1 := Lib.hid hb1; have HO := Lib.hid ho
      rw [show ((bs.length : Int) - (([] : List Nat).length : Int)) = (bs.length : Int) by simp]
      have hne : True → ((bs.length : Int) != (bs.length : Int)) = false := fun _ => by simp
      clear hb1 ho HR
      go_wp2
      go_ret2
      exact ⟨HB1.out, v, rfl, HO.out⟩
    | cons c r =>
      go_enter Tryz.func56, Tryz.ntmps56
      go_wp2_with fail
      refine HR.out.mono ?_
      rintro e w1 ⟨hb1, v, rfl, ho⟩
      have HB1 := Lib.hid hb1
      obtain ⟨z, hz⟩ : ∃ z : Int, ((bs.length : Int) - ((c :: r).length : Int)) = z := ⟨_, rfl⟩
      have hne : True → (z != (bs.length : Int)) = true := fun _ => by rw [← hz, List.length_cons]; simp; omega
      rw [hz]
      clear hb1 ho HR hz
      go_wp2
      go_ret2
      exact ⟨HB1.out, rfl⟩
def sm (n : Int) : Int := min n 1073741824
set_option maxHeartbeats 4000000 in
theorem rsmall_any (n : Int) (w : World) : Calls Tryz.prog 57 #[.int .i64 n] w fun e w' => e = .returned (.int .i64 (sm n)) ∧ w' = w := by
  obtain ⟨m, hm⟩ : ∃ m, min n 1073741824 = m := ⟨_, rfl⟩
  have HM := Lib.hid hm
  unfold sm
  rw [hm]
  have hm' : True → min n 1073741824 = m := fun _ => hm
  clear hm
  go_enter Tryz.func57, Tryz.ntmps57
  go_wp2
  go_ret
  first | exact ⟨rfl, rfl⟩ | (refine ⟨?_, rfl⟩; rw [← HM.out]; rfl)
def smI (c : IncV) : IncV := ⟨sm c.kind, sm c.osd, sm c.client, c.num, ⟨sm c.pool.size, sm c.pool.min, sm c.pool.pgs, sm c.pool.dom⟩⟩
/-- What is a change has small numbers. -/
theorem okInc_low {c : IncV} (h : okInc c = true) : c.kind < 1073741824 ∧ c.osd < 1073741824 ∧ c.client < 1073741824 ∧ c.pool.size < 1073741824 ∧ c.pool.min < 1073741824 ∧ c.pool.pgs < 1073741824 ∧ c.pool.dom < 1073741824 := by
  obtain ⟨k, o, cl, n, ⟨a, b, p, d⟩⟩ := c
  by_cases hk : k = 1 ∨ k = 2 ∨ k = 3 ∨ k = 4
  · have e : ∃ lo hi : Int, (k = 1 ∧ lo = 1 ∧ hi = 1073741824) ∨ (k = 2 ∧ lo = 1 ∧ hi = 1073741824) ∨ (k = 3 ∧ lo = 0 ∧ hi = 1048576) ∨ (k = 4 ∧ lo = 1 ∧ hi = 1073741824) := by
      rcases hk with h | h | h | h
      · exact ⟨_, _, .inl ⟨h, rfl, rfl⟩⟩
      · exact ⟨_, _, .inr (.inl ⟨h, rfl, rfl⟩)⟩
      · exact ⟨_, _, .inr (.inr (.inl ⟨h, rfl, rfl⟩))⟩
      · exact ⟨_, _, .inr (.inr (.inr ⟨h, rfl, rfl⟩))⟩
    obtain ⟨lo, hi, e⟩ := e
    rw [okInc_osd k o cl n _ lo hi e] at h
    simp only [Bool.and_eq_true, decide_eq_true_eq] at h
    obtain ⟨h1, h2, h3, h4, h5⟩ := h
    unfold noPool at h5
    cases h5
    simp only
    omega
  · by_cases h5 : k = 5
    · subst h5
      rw [okInc_pool] at h
      unfold okPool inR at h
      simp only [Bool.and_eq_true, decide_eq_true_eq, IncV.mk.injEq] at h
      simp only
      omega
    · by_cases h6 : k = 6
      · subst h6
        rw [okInc_ban] at h
        simp only [Bool.and_eq_true, decide_eq_true_eq] at h
        obtain ⟨h1, h2, h3, h4, h5⟩ := h
        unfold noPool at h5
        cases h5
        simp only
        omega
      · rw [okInc_none k o cl n _ (by omega)] at h
        cases h
theorem sm_low {n : Int} (h : n < 1073741824) : sm n = n := by unfold sm; omega
theorem sm_back {n : Int} (h : sm n < 1073741824) : sm n = n := by unfold sm at h ⊢; omega
theorem smI_low {c : IncV} (h : okInc c = true) : smI c = c := by
  obtain ⟨h1, h2, h3, h4, h5, h6, h7⟩ := okInc_low h
  unfold smI
  rw [sm_low h1, sm_low h2, sm_low h3, sm_low h4, sm_low h5, sm_low h6, sm_low h7]
theorem okInc_sm (c : IncV) : okInc (smI c) = okInc c := by
  cases h : okInc c with
  | true => rw [smI_low h, h]
  | false =>
    cases h2 : okInc (smI c) with
    | false => rfl
    | true =>
      obtain ⟨h1, h2', h3, h4, h5, h6, h7⟩ := okInc_low h2
      have e : smI c = c := by
        unfold smI at h1 h2' h3 h4 h5 h6 h7 ⊢
        simp only at h1 h2' h3 h4 h5 h6 h7
        rw [sm_back h1, sm_back h2', sm_back h3, sm_back h4, sm_back h5, sm_back h6, sm_back h7]
      rw [e, h] at h2
      cases h2
end Go.Proofs.YtoeklnmmnmmjeaaGreat.crush
