/- The law HashWords: for every input it returns true and leaves its arguments as they were. Conditions: none. -/
import Derived.Test.YtakcmdkhgaampaaRows
import Derived.Test.YtakcmdkhgaampaaHashAwake
import Derived.Test.YtakcmdkhgaampaaLift
import Derived.Deep.QuietTactic
import Derived.BigQuiet
import Derived.LoopN
import Derived.Laws.AppendOwnNone
namespace Go.Proofs.Ytakcmdkhgaampaa.laws3
open Go.ChangeShapes Go.WideShapes Go.ChangeAt Go.RowKit
open Go.Proofs.Ytakcmdkhgaampaa.kit Go.Proofs.Ytakcmdkhgaampaa.hash
open Go.WideMaps Go.WideElems
open Go.ChangeMaps (open_string shut_string)
set_option linter.unusedVariables false

theorem own : ownKnob Try.prog.godebug = none := by kernel_rfl
theorem laidOut : laidOutB Try.prog = true := by kernel_rfl

theorem cells32 : Try.prog.cellsOf 24 = 1 := by kernel_rfl
theorem cells64 : Try.prog.cellsOf 28 = 1 := by kernel_rfl
theorem bytes32 : Try.prog.bytesOf 24 = 4 := by kernel_rfl
theorem bytes64 : Try.prog.bytesOf 28 = 8 := by kernel_rfl

theorem weight {H : Type} {P : Program} {ts : List TypeId} {ds : List (DataW H)} (h : (DataW.weightsEach P ts ds).all (· ≤ reachBytes) = true) {j : Nat} {t : TypeId} {d : DataW H} (ht : ts[j]? = some t) (hd : ds[j]? = some d) : ∀ n ∈ d.weights P t, n ≤ reachBytes := by
  intro n hn
  have := List.all_eq_true.1 h _ (DataW.weights_mem_each ht hd n hn)
  simpa using this

theorem OwnI.drewN {w : World} {B e : Nat} {k : IntKind} {v : Value} {ns : List Nat} (h : OwnI w B e k v ns) (n : Nat) : OwnI (w.drewN n) B e k v ns := h
theorem _root_.Go.RowKit.Below.drewN {B : Nat} {a w : World} (h : Below B a w) (n : Nat) : Below B a (w.drewN n) := ⟨h.os, h.tape, h.output, h.size, h.block⟩

theorem mixT_ofNums : ∀ (bs : List Nat) (h : Nat), (∀ n ∈ bs, n < 256) → mixT h ((bs.map fun n : Nat => (n : Int)).map fun n => UInt8.ofNat n.toNat) = bs.foldl mixB h
  | [], _, _ => rfl
  | b :: bs, h, hb => by
    have := mixT_ofNums bs (mixB h b) (fun n hn => hb n (List.mem_cons_of_mem _ hn))
    have h1 := hb b (List.mem_cons_self ..)
    have h2 : (UInt8.ofNat (b : Int).toNat).toNat = b := by simp [Nat.mod_eq_of_lt h1]
    rw [List.map_cons, List.map_cons, List.foldl_cons, ← this, mixT, List.foldl_cons, h2, mixT]
theorem four_h (h b0 b1 b2 b3 x : Nat) (h0 : b0 = x % 256) (h1 : b1 = x / 256 % 256) (h2 : b2 = x / 65536 % 256) (h3 : b3 = x / 16777216) (hx : x < 4294967296) :
    [b0, b1, b2, b3].foldl mixB h = mixW 4 h x := by
  rw [List.foldl_cons, List.foldl_cons, List.foldl_cons, List.foldl_cons, List.foldl_nil, mixW, mixW, mixW, mixW, mixW]
  rw [show x / 256 / 256 = x / 65536 from by omega, show x / 65536 / 256 = x / 16777216 from by omega, show x / 16777216 % 256 = x / 16777216 from by omega, ← h0, ← h1, ← h2, ← h3]
/-- Four bytes of a word, as a text, are mixed as the word is. -/
theorem four (h b0 b1 b2 b3 x : Nat) (h0 : b0 = x % 256) (h1 : b1 = x / 256 % 256) (h2 : b2 = x / 65536 % 256) (h3 : b3 = x / 16777216) (hx : x < 4294967296) :
    mixT h (strOfNums ([b0, b1, b2, b3].map fun n : Nat => (n : Int))).data.toList = mixL h [x] := by
  rw [strOfNums_data, mixT_ofNums _ _ (by intro n hn; simp at hn; omega), four_h h b0 b1 b2 b3 x h0 h1 h2 h3 hx, mixL, List.foldl_cons, List.foldl_nil]

theorem words_one (x : Nat) (hx : x < 4294967296) (w : World) (n : Nat) (hn : n = w.heap.size) : Calls Try.prog 7 #[.slice (some ⟨n, 0, none⟩) 1 1] (w.alloc (.cells #[.int .u32 x] 24)) fun e w' => e = .returned (.int .u32 (fin32 (mixL 2166136261 [x]))) ∧ (w.alloc (.cells #[.int .u32 x] 24)) = w' :=
  words_any _ [x] _ ⟨by simp, some ⟨n, 0, none⟩, 1, rfl, fun _ => ⟨n, 0, rfl, fun j hj => by
    obtain rfl : j = 0 := by simp at hj; omega
    rw [World.cell?_alloc_at _ _ _ _ hn]; rfl⟩⟩ (by simpa using hx)

theorem SlI.below {w w' : World} {k : IntKind} {v : Value} {ns : List Nat} (h : SlI w k v ns) (ho : lift.OldAt w v) (hb : Below w.heap.size w w') : SlI w' k v ns := by
  obtain ⟨hl, a, cap, rfl, hc⟩ := h
  refine ⟨hl, a, cap, rfl, fun h0 => ?_⟩
  obtain ⟨b, off, rfl, hcell⟩ := hc h0
  exact ⟨b, off, rfl, fun j hj => (hb.cell (ho _ _ b off rfl h0)).trans (hcell j hj)⟩

theorem info32 : (Try.prog.info? 24).map (fun i => (i.zero, i.size, i.bytes)) = some (some (.int .u32 0), 1, 4) := by kernel_rfl

set_option maxHeartbeats 2000000 in
theorem walkWords (x : Nat) (hx : x < 4294967296) (v : Value) (ns : List Nat) (w : World) (hv : SlI w .u32 v ns) (hn : ∀ n ∈ ns, n < 4294967296) (hold : lift.OldAt w v) (hreach : ns.length * 4 ≤ 140737488351232) (hnil : lift.NilFit v) :
    Calls Try.prog 6 #[.int .u32 x, v] w fun e w' => e = .returned (.bool true) ∧ Below w.heap.size w w' := by
  obtain ⟨hl, a, cap, rfl, hc⟩ := id hv
  have HV := Lib.hid hv; have HN := Lib.hid hn; have HO := Lib.hid hold; have HC := Lib.hid hc; have HNil := Lib.hid hnil
  clear hv hn hold hc hnil
  obtain ⟨b0, e0⟩ : ∃ b0 : Nat, b0 = x % 256 := ⟨_, rfl⟩
  obtain ⟨b1, e1⟩ : ∃ b1 : Nat, b1 = x / 256 % 256 := ⟨_, rfl⟩
  obtain ⟨b2, e2⟩ : ∃ b2 : Nat, b2 = x / 65536 % 256 := ⟨_, rfl⟩
  obtain ⟨b3, e3⟩ : ∃ b3 : Nat, b3 = x / 16777216 := ⟨_, rfl⟩
  have h4 := four 2166136261 b0 b1 b2 b3 x e0 e1 e2 e3 hx
  have r0 : True → (x : Int) % 256 = (b0 : Int) := fun _ => by omega
  have r1 : True → (x : Int) / 256 % 256 = (b1 : Int) := fun _ => by omega
  have r2 : True → (x : Int) / 65536 % 256 = (b2 : Int) := fun _ => by omega
  have r3 : True → (x : Int) / 16777216 = (b3 : Int) := fun _ => by omega
  have hconv : (convert 37 9 (.slice (some ⟨w.heap.size, 0, none⟩) 4 4)).run Try.prog (w.alloc (.cells #[.int .u8 ((x : Int) % 256), .int .u8 ((x : Int) / 256 % 256), .int .u8 ((x : Int) / 65536 % 256), .int .u8 ((x : Int) / 16777216)] 5)) = .ok (.string (strOfNums ([b0, b1, b2, b3].map fun n : Nat => (n : Int)))) (w.alloc (.cells #[.int .u8 ((x : Int) % 256), .int .u8 ((x : Int) / 256 % 256), .int .u8 ((x : Int) / 65536 % 256), .int .u8 ((x : Int) / 16777216)] 5)) := by
    rw [r0 trivial, r1 trivial, r2 trivial, r3 trivial]
    exact conv_bytes (P := Try.prog) 37 5 9 Try.underlying37 Try.underlying5 Try.underlying9 (ns := [b0, b1, b2, b3]) ⟨by simp, some ⟨w.heap.size, 0, none⟩, 4, rfl, fun _ => ⟨w.heap.size, 0, rfl, fun j hj => by
      simp at hj
      rw [World.cell?_alloc_at _ _ _ _ rfl]
      match j, hj with
      | 0, _ => rfl
      | 1, _ => rfl
      | 2, _ => rfl
      | 3, _ => rfl⟩⟩
  have hs4 : (strOfNums ([b0, b1, b2, b3].map fun n : Nat => (n : Int))).size ≤ maxLen := by rw [strOfNums_size]; simp [maxLen]
  have ht := text_any _ hs4
  rw [h4] at ht
  generalize strOfNums ([b0, b1, b2, b3].map fun n : Nat => (n : Int)) = s4 at hconv ht
  have HT := Lib.hid ht
  clear ht hs4 h4 e0 e1 e2 e3 r0 r1 r2 r3
  obtain ⟨i0, hi, hz0, hz1, hz2⟩ := info_parts info32
  have HI := Lib.hid hi; have HZ0 := Lib.hid hz0; have HZ1 := Lib.hid hz1; have HZ2 := Lib.hid hz2
  clear hi hz0 hz1 hz2
  go_enter Try.func6, Try.ntmps6
  cases a with
  | none =>
    obtain ⟨h0, rfl⟩ := HNil.out _ _ rfl
    obtain rfl : ns = [] := List.eq_nil_of_length_eq_zero h0
    clear h0
    go_wp2_with (at_builtin; refine wpList_append_own_none rfl (.tmp 22) (.tmp 23) 22 rfl w.heap.size 24 i0 1 Try.underlying22 HI.out (.slice none 0 0) 0 [] rfl (World.ownsRow_nil _ _ _ _) rfl ?_)
    have HOwn := Lib.hid (OwnI.nil (w.alloc (.cells #[.int .u8 ((x : Int) % 256), .int .u8 ((x : Int) / 256 % 256), .int .u8 ((x : Int) / 65536 % 256), .int .u8 ((x : Int) / 16777216)] 5)) w.heap.size 24 .u32)
    have HBel := Lib.hid ((Below.refl w.heap.size w).alloc (Nat.le_refl _) (.cells #[.int .u8 ((x : Int) % 256), .int .u8 ((x : Int) / 256 % 256), .int .u8 ((x : Int) / 65536 % 256), .int .u8 ((x : Int) / 16777216)] 5))
    clear hconv
    generalize w.alloc (.cells #[.int .u8 ((x : Int) % 256), .int .u8 ((x : Int) / 256 % 256), .int .u8 ((x : Int) / 65536 % 256), .int .u8 ((x : Int) / 16777216)] 5) = w1 at *
    refine (words_any _ [] w1 HOwn.out.read HN.out).mono ?_
    rintro e w' ⟨rfl, rfl⟩
    go_wp2
    refine wp_loop_rounds 1 ?_
    rw [rounds_succ]
    have HB0 := HBel
    clear HBel HOwn
    generalize w1 = W0 at HB0 ⊢
    go_wp2_with fail
    refine (HT.out _).mono ?_
    rintro e w' ⟨rfl, rfl⟩
    go_wp2_with fail
    refine (words_one x hx _ _ rfl).mono ?_
    rintro e w' ⟨rfl, rfl⟩
    have HB1 := Lib.hid (HB0.out.alloc HB0.out.size (.cells #[.int .u32 (x : Int)] 24))
    clear HB0
    generalize W0.alloc (.cells #[.int .u32 (x : Int)] 24) = W1 at HB1 ⊢
    go_wp2_with fail
    refine (words_any _ [] W1 (SlI.below HV.out HO.out HB1.out) HN.out).mono ?_
    rintro e w' ⟨rfl, rfl⟩
    go_wp2_with fail
    refine (awake_any _).mono ?_
    rintro e w2 ⟨rfl, hb2⟩
    have HB2 := Lib.hid hb2
    clear hb2
    go_wp2
    go_ret
    exact ⟨rfl, HB1.out.trans (HB2.out.mono HB1.out.size)⟩
  | some a =>
    go_wp2_with (at_builtin; refine wpList_append_own _ rfl (.tmp 22) (.tmp 23) 22 rfl w.heap.size 24 i0 (.int .u32 0) 1 4 Try.underlying22 HI.out HZ0.out HZ1.out HZ2.out rfl (by decide) (.slice none 0 0) 0 [] rfl (World.ownsRow_nil _ _ _ _) a ns.length cap (ns.map fun n : Nat => Value.int .u32 (n : Int)) rfl (by simp) ?c1 ?c2 ?c3 ?c4 ?c5 ?_)
    case c1 =>
      intro j u hj
      have hjl : j < ns.length := by
        rcases Nat.lt_or_ge j ns.length with h | h
        · exact h
        · rw [List.getElem?_eq_none (by simpa using h)] at hj; cases hj
      obtain ⟨b, off, ha, hcell⟩ := HC.out (by omega)
      cases ha
      have hold := HO.out _ _ b off rfl (by omega)
      rw [add_plain', World.cell?_alloc_past _ _ _ hold, hcell j hjl]
      simpa [List.getD, hjl] using hj
    case c2 =>
      intro u hu
      obtain ⟨n, _, rfl⟩ := List.mem_map.1 hu
      rfl
    case c3 => unfold maxLen; omega
    case c4 => omega
    case c5 => simp
    intro v' w1 hown hg _
    have hbel := ((Below.refl w.heap.size w).alloc (Nat.le_refl _) (.cells #[.int .u8 ((x : Int) % 256), .int .u8 ((x : Int) / 256 % 256), .int .u8 ((x : Int) / 65536 % 256), .int .u8 ((x : Int) / 16777216)] 5)).grown hg (by simp) (by intro k hk; cases hk)
    have HBel := Lib.hid hbel
    have HOwn : Hid (OwnI w1 w.heap.size 24 .u32 v' ns) := by unfold Hid OwnI; simpa using hown
    clear hown hg hbel hconv
    obtain ⟨_, a', cap', rfl, hc'⟩ := HOwn.out.read
    have HC' := Lib.hid hc'
    clear hc'
    go_wp2_with fail
    refine (words_any _ ns w1 HOwn.out.read HN.out).mono ?_
    rintro e w' ⟨rfl, rfl⟩
    go_wp2
    go_loopw [29] (fun vi wr => ∃ k n : Nat, k ≤ ns.length ∧ vi = .int .i64 k ∧ wr = w1.drewN n) (fun i _ => ns.length - (intOf i).toNat)
    case atStart => exact ⟨0, 0, by omega, rfl, rfl⟩
    case round =>
      obtain ⟨k, n, hk, rfl, rfl⟩ := hrel
      by_cases hlt : k < ns.length
      · obtain ⟨b, off, ha, hcell⟩ := HC.out (by omega)
        cases ha
        have hold := HO.out _ _ b off rfl (by omega)
        obtain ⟨b', off', ha', hcell'⟩ := HC'.out (by omega)
        subst ha'
        have hc1 := hcell' k hlt
        have hc2 : w1.cell? ⟨b, off + k, none⟩ = some (.int .u32 (ns.getD k 0 : Nat)) := (HBel.out.cell hold).trans (hcell k hlt)
        generalize ns.getD k 0 = c at hc1 hc2
        have hlt' : (k : Int) < ns.length := by omega
        have hk0 : (0 : Int) ≤ k := by omega
        clear hcell hcell'
        go_wp2_with fail
        go_quiet (fail)
        go_wp2_with fail
        go_roundw
        case rel => exact ⟨k + 1, _, by omega, by go_num, rfl⟩
        case measure => simp [intOf]; omega
      · have HB0 := Lib.hid (HBel.out.drewN n)
        clear HBel HOwn HC HC'
        generalize w1.drewN n = W0 at HB0 ⊢
        go_wp2_with fail
        refine (HT.out _).mono ?_
        rintro e w' ⟨rfl, rfl⟩
        go_wp2_with fail
        refine (words_one x hx _ _ rfl).mono ?_
        rintro e w' ⟨rfl, rfl⟩
        have HB1 := Lib.hid (HB0.out.alloc HB0.out.size (.cells #[.int .u32 (x : Int)] 24))
        clear HB0
        generalize W0.alloc (.cells #[.int .u32 (x : Int)] 24) = W1 at HB1 ⊢
        go_wp2_with fail
        refine (words_any _ ns W1 (SlI.below HV.out HO.out HB1.out) HN.out).mono ?_
        rintro e w' ⟨rfl, rfl⟩
        go_wp2_with fail
        refine (awake_any _).mono ?_
        rintro e w2 ⟨rfl, hb2⟩
        have HB2 := Lib.hid hb2
        clear hb2
        go_wp2
        go_ret
        exact ⟨rfl, HB1.out.trans (HB2.out.mono HB1.out.size)⟩

set_option maxRecDepth 100000 in
theorem liftedWords (os : Os) (started : os.Started) (H : Type) (enc : TypeId × Value → H) :
    ReturnsInHanded {} Try.checked os 6 .any (Rows.hashWordsSpec.pre6 enc Try.prog Try.f6 Rows.hashWordsRow.domain false) (Rows.hashWordsSpec.post enc Try.prog Try.f6 false true false false) := by
  refine lift.law (C := Try.checked) own started (by kernel_rfl) Try.func6
    (ChangeSpec.witness6 (enc := enc) (C := Try.checked) false ⟨#[], #[.int .u32 0, .slice none 0 0], []⟩ 8 (by kernel_rfl) (by kernel_rfl) (by kernel_rfl) (by kernel_rfl)) laidOut (by kernel_rfl) 4 Try.underlying4 (by kernel_rfl) rfl ?_ ?_
  · intro ds hd
    match ds, hd with
    | [_, _], _ => rfl
  · intro W base args ds ps hg
    have hA : DataW.TrodAll enc Try.prog W 0 (fun _ => true) true Try.f6.params.toList args.toList ds ps := hg.read
    have hval : ∀ (j : Nat) t v, Try.f6.params[j]? = some t → args[j]? = some v → Value.okWide Try.prog W .any base t v := hg.ok
    have hz : (DataW.weightsEach Try.prog Try.f6.params.toList ds).all (· ≤ reachBytes) = true := hg.sized
    rw [Try.params6] at hA hval hz
    obtain ⟨v0, vs0, d0, ds0, p0, q0, hargs, rfl, rfl, h0, r0⟩ := trodAll_cons hA
    obtain ⟨v1, vs1, d1, ds1, p1, q1, rfl, rfl, rfl, h1, r1⟩ := trodAll_cons r0
    obtain ⟨rfl, rfl, rfl⟩ := trodAll_nil r1
    obtain rfl : args = #[v0, v1] := by cases args; simp_all
    obtain ⟨a0, rfl, rfl, rfl, w0⟩ := open_int Try.underlying24 (hval 0 24 v0 rfl rfl) h0
    have hb := u32_pos a0 w0
    obtain ⟨x, rfl⟩ := Int.eq_ofNat_of_zero_le hb.1
    obtain ⟨ns, hv, hn, hold, hreach, hnil⟩ := lift.ints Try.underlying22 Try.underlying24 cells32 bytes32 (fun n h => (u32_pos n h).1) (hval 1 22 v1 rfl rfl) h1 (weight hz (j := 1) rfl rfl)
    exact walkWords x (by omega) v1 ns W hv (fun n h => by have := u32_pos _ (hn n h); omega) hold hreach hnil

theorem words_holds : Rows.HashWordsSaid :=
  OpenClaim.holds_of_wide 6 Try.f6 rfl rfl rfl rfl rfl rfl rfl ⟨rfl, rfl, rfl, rfl, rfl⟩ rfl rfl rfl rfl rfl (by kernel_rfl) Try.func6 (by kernel_rfl)
    (of_decide_eq_true (by kernel_rfl)) (by unfold Func.isWrapper; first | (rw [if_pos (by decide +kernel)]; kernel_rfl) | (rw [if_neg (by decide +kernel)]; exact ⟨rfl, rfl⟩))
    (fun os started H enc _ => liftedWords os started H enc)

#print axioms words_holds
end Go.Proofs.Ytakcmdkhgaampaa.laws3
