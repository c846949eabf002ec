/- 'Read' and 'Whole'. -/
import Derived.Test.YtlghbfgkhdnaoaaRows
import Derived.Test.YtlghbfgkhdnaoaaCodeReadL
import Derived.Deep.QuietTactic
import Derived.BigQuiet
namespace Go.Proofs.Ytlghbfgkhdnaoaa.code
open Go.RowKit
open Go.Proofs.Ytlghbfgkhdnaoaa.kit Go.Proofs.Ytlghbfgkhdnaoaa.cm
set_option linter.unusedVariables false

theorem OwnF.base {W : World} {N M : Nat} {v : Value} {fs : List Fld} (h : OwnF W N v fs) (hm : M ≤ N) : OwnF W M v fs := by
  refine ⟨h.1, ?_⟩
  rcases h.2 with h | ⟨g, cap, cur, h1, h2, h3⟩
  · exact .inl h
  · exact .inr ⟨g, cap, cur, h1, Nat.le_trans hm h2, h3⟩

/-- A reader over bytes, laid anew. -/
theorem rest_new {w : World} {bv : Value} {bs : List Nat} (h8 : ∀ c ∈ bs, c < 256) (hb : SlB w bv bs (fun _ => True)) : Rest w.heap.size (w.alloc (.cells #[bv] 125)) w.heap.size bs := by
  refine ⟨h8, bv, heap_alloc_last w _, ?_⟩
  obtain ⟨hl, a, cap, rfl, hle, hc⟩ := hb
  refine ⟨hl, a, cap, rfl, hle, fun h0 => ?_⟩
  obtain ⟨b, off, rfl, _, hlt, hcell⟩ := hc h0
  have hbel : Below w.heap.size w (w.alloc (.cells #[.slice (some ⟨b, off, none⟩) bs.length cap] 125)) := (Below.refl _ _).alloc (Nat.le_refl _) _
  exact ⟨b, off, rfl, ⟨by omega, hlt⟩, Nat.lt_of_lt_of_le hlt hbel.size, fun j hj => (hbel.cell (p := ⟨b, _, none⟩) hlt).trans (hcell j hj)⟩

/-- What 'Read' says. -/
def ReadS (w : World) (bs : List Nat) (R0 : Except Int (List Fld × List Nat)) (e : Ending) (w' : World) : Prop :=
  Below w.heap.size w w' ∧
    match R0 with
    | .ok (fs, rr) => ∃ v, e = .returned (.tuple #[v, .int .i64 ((bs.length : Int) - (rr.length : Int)), .int .i64 0]) ∧ OwnF w' w.heap.size v fs
    | .error er => e = .returned (.tuple #[.slice none 0 0, .int .i64 0, .int .i64 er]) ∧ er ≠ 0

set_option maxHeartbeats 4000000 in
set_option maxRecDepth 100000 in
theorem Read_any (bv kv : Value) (bs : List Nat) (ks : List Int) (w : World) (hb : SlB w bv bs (fun _ => True)) (h8 : ∀ c ∈ bs, c < 256) (hk : SlK w kv ks) (hlen : ks.length ≤ 1000000000000) :
    Calls Try.prog 59 #[bv, kv] w (ReadS w bs (rA rField [] ks bs)) := by
  have hrn := rest_new h8 hb
  have hbel : Below w.heap.size w (w.alloc (.cells #[bv] 125)) := (Below.refl _ _).alloc (Nat.le_refl _) _
  have hk1 := hk.below hbel
  have hold : ∀ b off n c, kv = .slice (some ⟨b, off, none⟩) n c → 0 < n → b ≠ w.heap.size := by
    obtain ⟨hl, a, cap, rfl, hc⟩ := hk
    intro b off n c e hn
    cases e
    obtain ⟨b', off', e', hcell⟩ := hc hn
    cases e'
    have h1 := hcell 0 hn
    have := cell_lt (a := ⟨b, off + 0, none⟩) (by rw [h1]; simp)
    have h2 : b < w.heap.size := this
    omega
  have hsz : (w.alloc (.cells #[bv] 125)).heap.size = w.heap.size + 1 := by simp
  have H := Lib.hid (read_field (L := w.heap.size) kv ks w.heap.size bs _ hk1 hold hrn (by rw [hsz]; omega) hlen)
  obtain ⟨hbl, a, cap, rfl, hle, hc⟩ := hb
  have HB := Lib.hid hbel; have HSZ := Lib.hid hsz; have HRN := Lib.hid hrn
  clear hrn hbel hk1 hold hsz hk h8 hc hle
  obtain ⟨R0, hR0⟩ : ∃ R0, rA rField [] ks bs = R0 := ⟨_, rfl⟩
  rw [hR0] at H ⊢
  clear hR0
  have hmf : ∀ (fn : Fn) (first cap : Array Value) (w : World), (Instr.makeFunc fn first cap).run Try.prog w = .ok (.func fn first cap) w := fun _ _ _ _ => rfl
  go_enter Try.func59, Try.ntmps59
  go_wp2_with fail
  refine H.out.mono ?_
  cases R0 with
  | error er =>
    rintro e W1 ⟨hg, rfl, hne⟩
    have hne' : True → (er != 0) = true := fun _ => by simpa using hne
    have HG := Lib.hid hg; have HNE := Lib.hid hne
    clear hg hne H
    go_wp2
    go_ret3
    exact ⟨⟨HG.out.os, HG.out.tape, HG.out.output, by have := HG.out.size; have := HSZ.out; omega, fun k hk => (HG.out.block k (by have := HSZ.out; omega) (by simp; omega)).trans (HB.out.block k hk)⟩, rfl, HNE.out⟩
  | ok p =>
    obtain ⟨fs, rr⟩ := p
    rintro e W1 ⟨hg, ⟨v, rfl, ho⟩, hr⟩
    obtain ⟨_, rv, hrv, hrl, ra, rcap, rfl, hrle, hrc⟩ := hr
    have c0 := box_cell hrv
    have HG := Lib.hid hg; have HO := Lib.hid ho
    clear hg ho H hrv hrc hrle
    go_wp2
    go_quiet (fail)
    go_wp2
    go_ret3
    exact ⟨⟨HG.out.os, HG.out.tape, HG.out.output, by have := HG.out.size; have := HSZ.out; show w.heap.size ≤ W1.heap.size; omega, fun k hk => (HG.out.block k (by have := HSZ.out; omega) (by simp; omega)).trans (HB.out.block k hk)⟩, v, rfl, (HO.out.base (by rw [HSZ.out]; omega))⟩

end Go.Proofs.Ytlghbfgkhdnaoaa.code
