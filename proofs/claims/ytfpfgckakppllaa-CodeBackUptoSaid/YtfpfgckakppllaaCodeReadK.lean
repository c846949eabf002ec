/- 'ReadKey'. -/
import Derived.Test.YtfpfgckakppllaaRows
import Derived.Test.YtfpfgckakppllaaCodeReadP
import Derived.Test.YtfpfgckakppllaaCodeReadW
import Derived.Lib.ConvBytes
namespace Go.Proofs.Ytfpfgckakppllaa.code
open Go.RowKit
open Go.Proofs.Ytfpfgckakppllaa.kit Go.Proofs.Ytfpfgckakppllaa.cm
set_option linter.unusedVariables false

/-- '[]byte(s)'. -/
theorem str_bytes (w : World) (s : ByteArray) (hs : s.size ≤ 100000000000) : ∃ cap W1, (convert 9 24 (.string s)).run Try.prog w = .ok (.slice (some ⟨w.heap.size, 0, none⟩) s.size cap) W1 ∧
    SlB W1 (.slice (some ⟨w.heap.size, 0, none⟩) s.size cap) (txtN s) (fun _ => True) ∧ Below w.heap.size w W1 := by
  refine ⟨_, _, Lib.run_convert_string_bytes (P := Try.prog) w 9 24 5 s Try.underlying9 Try.underlying24 Try.underlying5, ?_, ?_⟩
  · have e : (txtN s).length = s.size := by unfold txtN; rw [List.length_map, Array.length_toList]; rfl
    refine ⟨by omega, _, _, by rw [e], by rw [e]; exact grownCap_ge _ _ _ _, fun _ => ⟨w.heap.size, 0, rfl, trivial, by rw [Lib.bytesWorld_size]; omega, fun j hj => ?_⟩⟩
    rw [e] at hj
    rw [Nat.zero_add, Lib.bytesWorld_cell w _ s j hj]
    have hj' : j < s.data.toList.length := by rw [Array.length_toList]; exact hj
    simp [txtN, List.getD, List.getElem?_eq_getElem hj']
  · exact ⟨rfl, rfl, rfl, by rw [Lib.bytesWorld_size]; omega, fun k hk => Lib.bytesWorld_at_old w _ s k hk⟩

/-- What 'ReadKey' says. -/
def ReadKS (w : World) (R0 : Except Int (List Fld × List Nat)) (e : Ending) (w' : World) : Prop :=
  Below w.heap.size w w' ∧
    match R0 with
    | .ok (fs, []) => ∃ v, e = .returned (.tuple #[v, .int .i64 0]) ∧ OwnF w' w.heap.size v fs
    | .ok (_, _ :: _) => e = .returned (.tuple #[.slice none 0 0, .int .i64 10])
    | .error er => e = .returned (.tuple #[.slice none 0 0, .int .i64 er]) ∧ er ≠ 0

set_option maxHeartbeats 4000000 in
set_option maxRecDepth 100000 in
theorem ReadKey_any (s : ByteArray) (kv : Value) (ks : List Int) (w : World) (hs : s.size ≤ 100000000000) (h8 : ∀ c ∈ txtN s, c < 256) (hk : SlK w kv ks) (hlen : ks.length ≤ 1000000000000) :
    Calls Try.prog 10 #[.string s, kv] w (ReadKS w (rA rPart [] ks (txtN s))) := by
  obtain ⟨cap, W1, hcv, hsl, hb1⟩ := str_bytes w s hs
  have hrn := rest_new h8 hsl
  have hbel : Below W1.heap.size W1 (W1.alloc (.cells #[.slice (some ⟨w.heap.size, 0, none⟩) s.size cap] 48)) := (Below.refl _ _).alloc (Nat.le_refl _) _
  have hk0 := hk.below hb1
  have hk1 := hk0.below hbel
  have hold : ∀ b off n c, kv = .slice (some ⟨b, off, none⟩) n c → 0 < n → b ≠ W1.heap.size := by
    obtain ⟨hl, a, cap, rfl, hc⟩ := hk0
    intro b off n c e hn
    cases e
    obtain ⟨b', off', e', hcell⟩ := hc hn
    cases e'
    have h1 := hcell 0 hn
    have := cell_lt (a := ⟨b, off + 0, none⟩) (by rw [h1]; simp)
    have h2 : b < W1.heap.size := this
    omega
  have hsz : (W1.alloc (.cells #[.slice (some ⟨w.heap.size, 0, none⟩) s.size cap] 48)).heap.size = W1.heap.size + 1 := by simp
  have H := Lib.hid (read_part (L := W1.heap.size) kv ks W1.heap.size (txtN s) _ hk1 hold hrn (by rw [hsz]; omega) hlen)
  have HB1 := Lib.hid hb1
  have HB := Lib.hid hbel; have HSZ := Lib.hid hsz; have HRN := Lib.hid hrn
  clear hrn hbel hk1 hk0 hold hsz hk h8 hsl hb1
  obtain ⟨R0, hR0⟩ : ∃ R0, rA rPart [] ks (txtN s) = R0 := ⟨_, rfl⟩
  rw [hR0] at H ⊢
  clear hR0
  have hmf : ∀ (fn : Fn) (first cap : Array Value) (w : World), (Instr.makeFunc fn first cap).run Try.prog w = .ok (.func fn first cap) w := fun _ _ _ _ => rfl
  go_enter Try.func10, Try.ntmps10
  go_wp2_with fail
  refine H.out.mono ?_
  cases R0 with
  | error er =>
    rintro e W2 ⟨hg, rfl, hne⟩
    have hne' : True → (er != 0) = true := fun _ => by simpa using hne
    have HG := Lib.hid hg; have HNE := Lib.hid hne
    clear hg hne H hcv
    go_wp2
    go_ret2
    exact ⟨⟨HG.out.os.trans HB1.out.os, HG.out.tape.trans HB1.out.tape, HG.out.output.trans HB1.out.output, by have := HG.out.size; have := HSZ.out; have := HB1.out.size; omega, fun k hk => (HG.out.block k (by have := HSZ.out; have := HB1.out.size; omega) (by have := HB1.out.size; simp; omega)).trans ((HB.out.block k (by have := HB1.out.size; omega)).trans (HB1.out.block k hk))⟩, rfl, HNE.out⟩
  | ok p =>
    obtain ⟨fs, rr⟩ := p
    rintro e W2 ⟨hg, ⟨v, rfl, ho⟩, hr⟩
    obtain ⟨_, rv, hrv, hrl, ra, rcap, rfl, hrle, hrc⟩ := hr
    have c0 := box_cell hrv
    have HG := Lib.hid hg; have HO := Lib.hid ho
    have HBel : Hid (Below w.heap.size w W2) := ⟨HG.out.os.trans HB1.out.os, HG.out.tape.trans HB1.out.tape, HG.out.output.trans HB1.out.output, by have := HG.out.size; have := HSZ.out; have := HB1.out.size; omega, fun k hk => (HG.out.block k (by have := HSZ.out; have := HB1.out.size; omega) (by have := HB1.out.size; simp; omega)).trans ((HB.out.block k (by have := HB1.out.size; omega)).trans (HB1.out.block k hk))⟩
    clear hg ho H hrv hrc hrle hcv
    cases rr with
    | nil =>
      have HO2 := Lib.hid (HO.out.base (M := w.heap.size) (by have := HB1.out.size; have := HSZ.out; omega))
      go_wp2
      go_ret2
      exact ⟨HBel.out, v, rfl, HO2.out⟩
    | cons c rr =>
      have hpos : (0 : Int) < (rr.length : Int) + 1 := by omega
      go_wp2
      go_ret2
      exact ⟨HBel.out, rfl⟩

end Go.Proofs.Ytfpfgckakppllaa.code
