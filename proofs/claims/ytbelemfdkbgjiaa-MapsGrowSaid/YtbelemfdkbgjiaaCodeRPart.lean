/- The reader takes a part of a key of a kind. -/
import Derived.Test.YtbelemfdkbgjiaaRows
import Derived.Test.YtbelemfdkbgjiaaCodeKeyText
namespace Go.Proofs.Ytbelemfdkbgjiaa.code
open Go.RowKit
open Go.Proofs.Ytbelemfdkbgjiaa.kit Go.Proofs.Ytbelemfdkbgjiaa.cm
set_option linter.unusedVariables false

def unsign (x : Nat) : Int := (x : Int) - 9223372036854775808
/-- What a part is handed out as where it can't be taken. -/
def zP (kind : Int) : Fld := if kind = 2 then ⟨2, -9223372036854775808, { data := #[] }, false⟩ else noF kind
def rPart (kind : Int) (bs : List Nat) : Except Int (Fld × List Nat) :=
  if kind = 1 then mapR (fun x : Nat => ⟨kind, (x : Int), { data := #[] }, false⟩) (rLongW 9223372036854775807 bs)
  else if kind = 2 then mapR (fun x => ⟨kind, unsign x, { data := #[] }, false⟩) (rLong bs)
  else if kind = 3 then mapR (fun x : Nat => ⟨kind, (x : Int), { data := #[] }, false⟩) (rLongW 4294967295 bs)
  else if kind = 4 then mapR (fun l => ⟨kind, 0, tx l, false⟩) (rKeyText bs)
  else if kind = 5 then mapR (fun b => ⟨kind, 0, { data := #[] }, b⟩) (rTruth bs)
  else .error 27

theorem rLong_bound {L : Nat} {bs : List Nat} {y : Nat} {er : Int} {W3 : World} {rb : Nat} (h8 : ∀ c ∈ bs, c < 256) (h : (∃ r, rLong bs = .ok (y, r) ∧ er = 0 ∧ Rest L W3 rb r) ∨ (rLong bs = .error er ∧ y = 0 ∧ er ≠ 0)) : y < 18446744073709551616 := by
  rcases h with ⟨r, h, _⟩ | ⟨_, rfl, _⟩
  · exact rLong_lt h8 h
  · omega

theorem unsign_eq (y : Nat) (hy : y < 18446744073709551616) : wrap64 (bits BinOp.xor IntKind.u64 (y : Int) 9223372036854775808) = unsign y := by
  have h0 : -9223372036854775808 ≤ wrap64 y := by unfold wrap64; omega
  have h1 : wrap64 y ≤ 9223372036854775807 := by unfold wrap64; omega
  have h := sign_eq (wrap64 y) h0 h1
  have hw : IntKind.u64.wrap (wrap64 y) = (y : Int) := by rw [wrap_u64']; unfold wrap64; omega
  rw [hw] at h
  rw [h]
  unfold unsign wrap64
  omega

theorem part_end {L : Nat} {W : World} {rb : Nat} {kind : Int} {bs : List Nat} {W2 W3 : World} (HT : Two L W rb kind bs W2) (hg : W2.grownBy W3 (some rb)) (o : Nat) (u : Value) (f : Fld) (er : Int) (R' : Except Int (Fld × List Nat))
    (hr : (∃ r, R' = .ok (f, r) ∧ er = 0 ∧ Rest L W3 rb r) ∨ (R' = .error er ∧ f = zP kind ∧ er ≠ 0)) (cs : List Value) :
    RdP L Fld.val (zP kind) W rb R' (.returned (.tuple #[f.val, .int .i64 er])) ((W3.setCell ⟨W.heap.size + 1, o, none⟩ u).setCells W.heap.size 0 cs) := by
  have hs := HT.size
  have hrl := HT.rlt
  have hL := HT.L
  have g0 : W.grownBy W2 (some rb) := ⟨HT.below.os, HT.below.tape, HT.below.output, HT.below.size, fun k hk _ => HT.below.block k hk⟩
  have g2 : W3.grownBy (W3.setCell ⟨W.heap.size + 1, o, none⟩ u) (some (W.heap.size + 1)) := Lib.grownBy_setCell W3 _ o u
  have g3 := grownBy_setCells (W3.setCell ⟨W.heap.size + 1, o, none⟩ u) W.heap.size cs 0
  have gA : W.grownBy W3 (some rb) := Lib.grownBy_trans g0 hg
  have gB := gA.andThen g2 (fun j e => .inl (by have : W.heap.size + 1 = j := by simpa using e
                                                omega))
  have gC := gB.andThen g3 (fun j e => .inl (by have : W.heap.size = j := by simpa using e
                                                omega))
  rcases hr with ⟨r, hR, h0, hrest⟩ | ⟨hR, hf, h0⟩
  · rw [hR, h0]
    exact ⟨rfl, (hrest.far g2 (by omega) (by omega)).far g3 hL (by omega), gC⟩
  · rw [hR, hf]
    exact ⟨rfl, h0, gC⟩

end Go.Proofs.Ytbelemfdkbgjiaa.code
