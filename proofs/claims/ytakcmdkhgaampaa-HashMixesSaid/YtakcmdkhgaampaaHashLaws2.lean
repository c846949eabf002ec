/- The law HashMixes: for every input it returns true and leaves its arguments as they were. Conditions: none. -/
import Derived.Test.YtakcmdkhgaampaaRows
import Derived.Test.YtakcmdkhgaampaaHashAwake
import Derived.Test.YtakcmdkhgaampaaLift
namespace Go.Proofs.Ytakcmdkhgaampaa.laws2
open Go.ChangeShapes Go.WideShapes Go.ChangeAt Go.RowKit
open Go.Proofs.Ytakcmdkhgaampaa.kit Go.Proofs.Ytakcmdkhgaampaa.hash
open Go.WideMaps Go.WideElems
open Go.ChangeMaps (open_string shut_string)
set_option linter.unusedVariables false

theorem own : ownKnob Try.prog.godebug = none := by kernel_rfl
theorem laidOut : laidOutB Try.prog = true := by kernel_rfl

set_option maxHeartbeats 2000000 in
theorem walkMixes (v : Value) (ns : List Nat) (s : ByteArray) (u : Value) (ms : List Nat) (w : World) (hv : SlI w .u32 v ns) (hn : ∀ n ∈ ns, n < 4294967296) (hs : s.size ≤ maxLen)
    (hu : SlI w .u64 u ms) (hm : ∀ n ∈ ms, hash6.U64 n) (hreach : ms.length * 8 ≤ 140737488351232) (hold : lift.OldAt w u) :
    Calls Try.prog 3 #[v, .string s, u] w fun e w' => e = .returned (.bool true) ∧ Below w.heap.size w w' := by
  have a1 := words_any v ns w hv hn
  have a2 := rwords_any v ns w hv hn
  have b1 := text_any s hs w
  have b2 := rtext_any s hs w
  have c1 := hash6.digest_any s hs w
  have c2 := hash6.rdigest_any s hs w
  have d1 := hash6.join_any u ms w hu hm
  have d2 := hash6.rjoin_any u ms w hu hm hreach hold
  generalize fin32 (mixL 2166136261 ns) = A at a1 a2
  generalize fin32 (mixT 2166136261 s.data.toList) = B at b1 b2
  generalize hash6.fin64 (hash6.mixT 14695981039346656037 s.data.toList) = C at c1 c2
  generalize hash6.fin64 (hash6.mixL 14695981039346656037 ms) = D at d1 d2
  have A1 := Lib.hid a1; have A2 := Lib.hid a2; have B1 := Lib.hid b1; have B2 := Lib.hid b2
  have C1 := Lib.hid c1; have C2 := Lib.hid c2; have D1 := Lib.hid d1; have D2 := Lib.hid d2
  clear a1 a2 b1 b2 c1 c2 d1 d2 hv hn hs hu hm hreach hold
  go_enter Try.func3, Try.ntmps3
  go_wp2_with fail
  refine A1.out.mono ?_
  rintro e w' ⟨rfl, rfl⟩
  go_wp2_with fail
  refine A2.out.mono ?_
  rintro e w' ⟨rfl, rfl⟩
  go_wp2_with fail
  refine B1.out.mono ?_
  rintro e w' ⟨rfl, rfl⟩
  go_wp2_with fail
  refine B2.out.mono ?_
  rintro e w' ⟨rfl, rfl⟩
  go_wp2_with fail
  refine C1.out.mono ?_
  rintro e w' ⟨rfl, rfl⟩
  go_wp2_with fail
  refine C2.out.mono ?_
  rintro e w' ⟨rfl, rfl⟩
  go_wp2_with fail
  refine D1.out.mono ?_
  rintro e w' ⟨rfl, rfl⟩
  go_wp2_with fail
  refine D2.out.mono ?_
  rintro e w1 ⟨rfl, hb⟩
  have HB := Lib.hid hb
  clear hb
  go_wp2_with fail
  refine (awake_any _).mono ?_
  rintro e w2 ⟨rfl, hb2⟩
  have HB2 := Lib.hid hb2
  clear hb2
  go_wp2
  go_ret
  exact ⟨rfl, HB.out.trans (HB2.out.mono HB.out.size)⟩

theorem cells32 : Try.prog.cellsOf 24 = 1 := by kernel_rfl
theorem cells64 : Try.prog.cellsOf 28 = 1 := by kernel_rfl
theorem bytes32 : Try.prog.bytesOf 24 = 4 := by kernel_rfl
theorem bytes64 : Try.prog.bytesOf 28 = 8 := by kernel_rfl

theorem weight {H : Type} {P : Program} {ts : List TypeId} {ds : List (DataW H)} (h : (DataW.weightsEach P ts ds).all (· ≤ reachBytes) = true) {j : Nat} {t : TypeId} {d : DataW H} (ht : ts[j]? = some t) (hd : ds[j]? = some d) : ∀ n ∈ d.weights P t, n ≤ reachBytes := by
  intro n hn
  have := List.all_eq_true.1 h _ (DataW.weights_mem_each ht hd n hn)
  simpa using this

set_option maxRecDepth 100000 in
theorem liftedMixes (os : Os) (started : os.Started) (H : Type) (enc : TypeId × Value → H) :
    ReturnsInHanded {} Try.checked os 3 .any (Rows.hashMixesSpec.pre6 enc Try.prog Try.f3 Rows.hashMixesRow.domain false) (Rows.hashMixesSpec.post enc Try.prog Try.f3 false true false false) := by
  refine lift.law (C := Try.checked) own started (by kernel_rfl) Try.func3
    (ChangeSpec.witness6 (enc := enc) (C := Try.checked) false ⟨#[], #[.slice none 0 0, .string ⟨#[]⟩, .slice none 0 0], []⟩ 8 (by kernel_rfl) (by kernel_rfl) (by kernel_rfl) (by kernel_rfl)) laidOut (by kernel_rfl) 4 Try.underlying4 (by kernel_rfl) rfl ?_ ?_
  · intro ds hd
    match ds, hd with
    | [_, _, _], _ => rfl
  · intro W base args ds ps hg
    have hA : DataW.TrodAll enc Try.prog W 0 (fun _ => true) true Try.f3.params.toList args.toList ds ps := hg.read
    have hval : ∀ (j : Nat) t v, Try.f3.params[j]? = some t → args[j]? = some v → Value.okWide Try.prog W .any base t v := hg.ok
    have hz : (DataW.weightsEach Try.prog Try.f3.params.toList ds).all (· ≤ reachBytes) = true := hg.sized
    rw [Try.params3] at hA hval hz
    obtain ⟨v0, vs0, d0, ds0, p0, q0, hargs, rfl, rfl, h0, r0⟩ := trodAll_cons hA
    obtain ⟨v1, vs1, d1, ds1, p1, q1, rfl, rfl, rfl, h1, r1⟩ := trodAll_cons r0
    obtain ⟨v2, vs2, d2, ds2, p2, q2, rfl, rfl, rfl, h2, r2⟩ := trodAll_cons r1
    obtain ⟨rfl, rfl, rfl⟩ := trodAll_nil r2
    obtain rfl : args = #[v0, v1, v2] := by cases args; simp_all
    obtain ⟨ns, hv, hn, _, _, _⟩ := lift.ints Try.underlying22 Try.underlying24 cells32 bytes32 (fun n h => (u32_pos n h).1) (hval 0 22 v0 rfl rfl) h0 (weight hz (j := 0) rfl rfl)
    obtain ⟨s, rfl, rfl, rfl, hs⟩ := open_string Try.underlying9 (hval 1 9 v1 rfl rfl) h1
    obtain ⟨ms, hu, hm, hold, hreach, _⟩ := lift.ints Try.underlying23 Try.underlying28 cells64 bytes64 (fun n h => (u64_pos n h).1) (hval 2 23 v2 rfl rfl) h2 (weight hz (j := 2) rfl rfl)
    exact walkMixes v0 ns s v2 ms W hv (fun n h => by have := u32_pos _ (hn n h); omega) hs hu (fun n h => by have := u64_pos _ (hm n h); unfold hash6.U64; omega) hreach hold

theorem mixes_holds : Rows.HashMixesSaid :=
  OpenClaim.holds_of_wide 3 Try.f3 rfl rfl rfl rfl rfl rfl rfl ⟨rfl, rfl, rfl, rfl, rfl⟩ rfl rfl rfl rfl rfl (by kernel_rfl) Try.func3 (by kernel_rfl)
    (of_decide_eq_true (by kernel_rfl)) (by unfold Func.isWrapper; first | (rw [if_pos (by decide +kernel)]; kernel_rfl) | (rw [if_neg (by decide +kernel)]; exact ⟨rfl, rfl⟩))
    (fun os started H enc _ => liftedMixes os started H enc)

#print axioms mixes_holds
end Go.Proofs.Ytakcmdkhgaampaa.laws2
