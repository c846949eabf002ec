/- The walks of Seal: the program's and the document's. -/
import Derived.Test.YtkjenddmkmlbeaaDoorRows
import Derived.Test.YtkjenddmkmlbeaaDoorFrameSum
import Derived.Deep.Cut
import Derived.Laws.NewBlocks
namespace Go.Proofs.YtkjenddmkmlbeaaDoor.frame
open Go.RowKit
open Go.Proofs.YtkjenddmkmlbeaaDoor.kit Go.Proofs.YtkjenddmkmlbeaaDoor.own Go.Proofs.YtkjenddmkmlbeaaDoor.fm
set_option linter.unusedVariables false

theorem infoByte : (Tryd.prog.info? 5).map (fun i => (i.zero, i.size, i.bytes)) = some (some (.int .u8 0), 1, 1) := by kernel_rfl

/-- What a function that lays bytes behind a row of the call's own says. -/
def Lays (w : World) (B : Nat) (ns : List Nat) (e : Ending) (w' : World) : Prop := (∃ v', e = .returned v' ∧ OwnI w' B 5 .u8 v' ns) ∧ Kept B 5 w w'

set_option maxHeartbeats 4000000 in
set_option maxRecDepth 100000 in
theorem putLow_any (x n : Nat) (hx : x < 4294967296) (hn : n ≤ 4) (B : Nat) (v : Value) (ns : List Nat) (w : World) (hown : OwnI w B 5 .u8 v ns) (hB : B ≤ w.heap.size) (hlen : ns.length ≤ 1000000000000) :
    Calls Tryd.prog 17 #[v, .int .u32 x, .int .i64 n] w (Lays w B (ns ++ lowN n x)) := by
  have HH := Lib.hid hown; have HB := Lib.hid hB; have HLen := Lib.hid hlen; have HX := Lib.hid hx
  clear hown hB hlen hx
  go_enter Tryd.func17, Tryd.ntmps17
  go_wp2
  go_loopw [0, 1, 8] (fun vb vx vi wr => ∃ (k y : Nat) (ms : List Nat), k ≤ n ∧ vi = .int .i64 k ∧ vx = .int .u32 y ∧ y < 4294967296 ∧ ms ++ lowN (n - k) y = ns ++ lowN n x ∧ ms.length = ns.length + k ∧ OwnI wr B 5 .u8 vb ms ∧ Kept B 5 w wr) (fun _ _ i _ => n - (intOf i).toNat)
  case atStart => exact ⟨0, x, ns, by omega, rfl, rfl, HX.out, by simp, by simp, HH.out, Kept.refl _ _ _⟩
  case round =>
    obtain ⟨k, y, ms, hk, rfl, rfl, hy, hms, hml, ho, hkp⟩ := hrel
    have HO := Lib.hid ho; have HK := Lib.hid hkp; have HMs := Lib.hid hms; have HMl := Lib.hid hml; have HY := Lib.hid hy
    clear ho hkp hms hml
    by_cases hlt : k < n
    · have hltI : (k : Int) < n := by omega
      have e1 : True → (y : Int) % 256 = ((y % 256 : Nat) : Int) := fun _ => by omega
      have e2 : True → (y : Int) / 256 = ((y / 256 : Nat) : Int) := fun _ => by omega
      have HN : Hid ((ms ++ [y % 256]) ++ lowN (n - (k + 1)) (y / 256) = ns ++ lowN n x) := by
        unfold Hid
        rw [← HMs.out, show n - k = (n - (k + 1)) + 1 from by omega, lowN, List.append_assoc]; rfl
      have HY2 := Lib.hid (show y / 256 < 4294967296 by omega)
      generalize y % 256 = c at e1 HN
      generalize y / 256 = y2 at e2 HN HY2
      clear hy
      go_wp2_with (at_builtin; refine app1K rfl (.tmp 10) (.tmp 13) 22 rfl B 5 .u8 1 Tryd.underlying22 infoByte _ ms rfl HO.out c _ rfl _ rfl rfl ?_ ?_ ?_ ?_)
      case refine_1 => have := HMl.out; have := HLen.out; unfold maxLen; omega
      case refine_2 => have := HMl.out; have := HLen.out; omega
      case refine_3 => have := HB.out; have := HK.out.size; omega
      case refine_4 =>
        intro v' w' ho hk
        have HO' := Lib.hid ho; have HK' := Lib.hid hk
        clear ho hk
        go_wp2
        go_roundw
        case rel => exact ⟨k + 1, y2, ms ++ [c], by omega, by go_num, rfl, HY2.out, HN.out, by rw [List.length_append, HMl.out]; simp; omega, HO'.out, HK.out.trans HK'.out⟩
        case measure => simp [intOf]; omega
    · obtain rfl : k = n := by omega
      have HE : Hid (ms = ns ++ lowN k x) := by
        unfold Hid; have := HMs.out; rw [Nat.sub_self, lowN, List.append_nil] at this; exact this
      clear hy
      go_wp2
      go_ret
      exact ⟨⟨_, rfl, by rw [← HE.out]; exact HO.out⟩, HK.out⟩

/-- What is read as bytes. -/
def Bts (w : World) (v : Value) (ns : List Nat) : Prop := SlI w .u8 v ns ∧ (∀ n ∈ ns, n < 256) ∧ (∀ n c, v = .slice none n c → c = 0) ∧ (∀ a n c, v = .slice a n c → n ≤ c)
theorem Bts.keep {w w' : World} {v : Value} {ns : List Nat} (h : Bts w v ns) (hb : Below w.heap.size w w') : Bts w' v ns := ⟨h.1.keep hb, h.2⟩

set_option maxRecDepth 100000 in
theorem Seal_long (kind : Nat) (v : Value) (ns : List Nat) (w : World) (hv : SlI w .u8 v ns) (hlen : 1048575 < ns.length) :
    Calls Tryd.prog 7 #[.int .u8 kind, v] w fun e w' => e = .returned (.tuple #[.slice none 0 0, .int .i64 13]) ∧ w = w' := by
  obtain ⟨hl, a, cap, rfl, hc⟩ := hv
  generalize ns.length = L at hl hlen ⊢
  clear hc
  have hlI : (1048575 : Int) < L := by omega
  go_enter Tryd.func7, Tryd.ntmps7
  go_wp2
  go_ret2
  exact ⟨rfl, rfl⟩

set_option maxRecDepth 100000 in
theorem rSeal_long (kind : Nat) (v : Value) (ns : List Nat) (w : World) (hv : SlI w .u8 v ns) (hlen : 1048575 < ns.length) :
    Calls Tryd.prog 8 #[.int .u8 kind, v] w fun e w' => e = .returned (.tuple #[.slice none 0 0, .int .i64 13]) ∧ w = w' := by
  obtain ⟨hl, a, cap, rfl, hc⟩ := hv
  generalize ns.length = L at hl hlen ⊢
  clear hc
  have hlI : (1048575 : Int) < L := by omega
  go_enter Tryd.func8, Tryd.ntmps8
  go_wp2
  go_ret2
  exact ⟨rfl, rfl⟩

/-- What Seal of what is not too long says. -/
def SealP (w : World) (kind : Nat) (ns : List Nat) (e : Ending) (w' : World) : Prop := (∃ v', e = .returned (.tuple #[v', .int .i64 0]) ∧ OwnI w' w.heap.size 5 .u8 v' (sealed kind ns)) ∧ Below w.heap.size w w'

/-- A slice of the call's own with something in it. -/
theorem own_at {w : World} {B e : Nat} {k : IntKind} {v : Value} {ns : List Nat} (h : OwnI w B e k v ns) (h0 : 0 < ns.length) : ∃ g cap, v = .slice (some ⟨g, 0, none⟩) ns.length cap ∧ B ≤ g ∧ ns.length ≤ cap ∧ cap ≤ maxLen := by
  obtain ⟨h1, h2⟩ := id h
  rcases h2 with ⟨rfl, h0'⟩ | ⟨g, cap, cur, rfl, hB, hg, hc, hm, hs, ht⟩
  · omega
  · exact ⟨g, cap, rfl, hB, hc, hm⟩
theorem SlI.len {w : World} {k : IntKind} {a : Option Addr} {n cap : Nat} {ns : List Nat} (h : SlI w k (.slice a n cap) ns) : ns.length = n := by
  obtain ⟨_, a', cap', e, _⟩ := h
  cases e; rfl
theorem head_eq (kind : Nat) (ns : List Nat) : [167, kind] ++ lowN 3 ns.length ++ ns = 167 :: inner kind ns := by simp [inner]

theorem made_own (w : World) (L : Nat) (hL : L ≤ 1048575) : ∃ w1, (Instr.makeSlice 22 (.int .i64 0) (.int .i64 (5 + (L : Int) + 4))).run Tryd.prog w = .ok (.slice (some ⟨w.heap.size, 0, none⟩) 0 (L + 9)) w1 ∧
    OwnI w1 w.heap.size 5 .u8 (.slice (some ⟨w.heap.size, 0, none⟩) 0 (L + 9)) [] ∧ Below w.heap.size w w1 := by
  obtain ⟨i0, hi, hz0, hz1, hz2⟩ := info_parts infoByte
  obtain ⟨w1, h1, h2, h3⟩ := run_make_own (P := Tryd.prog) w w.heap.size 22 5 i0 (.int .u8 0) 1 Tryd.underlying22 hi hz0 hz1 .i64 .i64 (L + 9) (by rw [hz2]; omega) (by unfold maxLen; omega) (Nat.le_refl _)
  refine ⟨w1, ?_, h2, ⟨h3.os, h3.tape, h3.output, h3.size, fun k hk => h3.block k hk (by simp)⟩⟩
  rw [show (5 + (L : Int) + 4) = ((L + 9 : Nat) : Int) from by omega]
  exact h1

set_option maxHeartbeats 4000000 in
set_option maxRecDepth 100000 in
theorem Seal_ok (kind : Nat) (hk : kind < 256) (v : Value) (ns : List Nat) (w : World) (hv : Bts w v ns) (hn : Nib w) (hlen : ns.length ≤ 1048575) :
    Calls Tryd.prog 7 #[.int .u8 kind, v] w (SealP w kind ns) := by
  obtain ⟨hl, a, cap, rfl, hc⟩ := id hv.1
  have HV := Lib.hid hv; have HN := Lib.hid hn
  obtain ⟨L, hL⟩ : ∃ L, ns.length = L := ⟨_, rfl⟩
  have HL := Lib.hid hL
  rw [hL] at hl hlen ⊢
  have HVL := Lib.hid hv
  rw [hL] at HVL
  clear hc hv hn hL
  have hlI : ¬ (1048575 : Int) < L := by omega
  obtain ⟨w1, hmk, ho1, hb1⟩ := made_own w L hlen
  have HO1 := Lib.hid ho1; have HB1 := Lib.hid hb1
  clear ho1 hb1
  go_enter Tryd.func7, Tryd.ntmps7
  go_wp2_with (at_builtin; refine appN rfl (.tmp 15) (.tmp 17) 22 rfl w.heap.size 5 .u8 1 Tryd.underlying22 infoByte _ [] rfl (HO1.out.alloc _) w1.heap.size 0 2 2 [167, kind] rfl rfl ?_ ?_ ?_ ?_ ?_)
  case refine_1 =>
    intro j hj
    match j, hj with
    | 0, _ => rfl
    | 1, _ => rfl
  case refine_2 => simp [maxLen]
  case refine_4 => have := HB1.out.size; omega
  case refine_5 =>
    intro v2 w2 ho2 hk2
    have HO2 := Lib.hid ho2
    have HK2 := Lib.hid ((Kept.of_below (e := 5) HB1.out.size ((Below.refl w1.heap.size w1).alloc (Nat.le_refl _) (.cells #[.int .u8 167, .int .u8 (kind : Int)] 5))).trans hk2)
    have HB2 := Lib.hid (HB1.out.trans HK2.out.toBelow)
    clear ho2 hk2 hmk
    go_wp2_with fail
    refine (putLow_any L 3 (by omega) (by omega) w.heap.size v2 _ w2 HO2.out HB2.out.size (by simp)).mono ?_
    rintro e w3 ⟨⟨v3, rfl, ho3⟩, hk3⟩
    have HO3 := Lib.hid ho3
    have HB3 := Lib.hid (HB2.out.trans hk3.toBelow)
    clear ho3 hk3 HO2 HK2 HB2 HO1 HB1
    go_wp2_with (at_builtin; refine appS rfl (.tmp 24) (.tmp 25) 22 rfl w.heap.size 5 .u8 1 Tryd.underlying22 infoByte _ _ rfl HO3.out _ ns rfl (HVL.out.1.keep HB3.out) HVL.out.2.2.1 ?_ ?_ HB3.out.size ?_)
    case refine_1 => have := HL.out; simp [lowN_len, maxLen]; omega
    case refine_2 => have := HL.out; simp [lowN_len]; omega
    case refine_3 =>
      intro v4 w4 ho4 hk4
      have hh : [167, kind] ++ lowN 3 L ++ ns = 167 :: inner kind ns := by rw [← HL.out]; exact head_eq kind ns
      replace ho4 : OwnI w4 w.heap.size 5 .u8 v4 (167 :: inner kind ns) := by rw [← hh]; exact ho4
      obtain ⟨g, cap4, rfl, _, hc4, hm4⟩ := own_at ho4 (by simp)
      have HB4 := Lib.hid (HB3.out.trans hk4.toBelow)
      have HO4 := Lib.hid ho4
      have hlen4 : (167 :: inner kind ns).length = L + 5 := by rw [List.length_cons, inner_len, HL.out]
      have HS4 := Lib.hid (sub_read (lo := 1) (hi := (167 :: inner kind ns).length) (a' := some ⟨g, 0 + 1, none⟩) (cap' := cap4 - 1) ho4.read (by omega) (Nat.le_refl _) (fun _ b off e => by cases e; rfl))
      rw [hlen4] at hc4 HS4
      have HLn4 := Lib.hid hlen4
      rw [hlen4]
      unfold maxLen at hm4
      have hc4' : (cap4 : Int) ≠ 1 := by omega
      have HN4 := Lib.hid (HN.out.keep HB4.out)
      have HI := Lib.hid (inner_lt kind ns hk HVL.out.2.1)
      clear ho4 hk4 HO3 HB3 hh hlen4
      have HS5 : Hid (SlI w4 .u8 (.slice (some ⟨g, 1, none⟩) (L + 4) (cap4 - 1)) (inner kind ns)) := by
        have h := HS4.out
        rw [← HLn4.out, List.take_length] at h
        have e : (167 :: inner kind ns).length - 1 = L + 4 := by rw [HLn4.out]; omega
        rw [e] at h
        exact h
      have HO5 : Hid (OwnI w4 w.heap.size 5 .u8 (.slice (some ⟨g, 0, none⟩) (L + 5) cap4) (167 :: inner kind ns)) := by
        have h := HO4.out
        rw [HLn4.out] at h
        exact h
      clear HS4 HO4
      go_wp2_with fail
      refine (Sum_any _ _ _ HS5.out HI.out HN4.out).mono ?_
      rintro e w' ⟨rfl, rfl⟩
      have HCl := Lib.hid (crc_lt (inner kind ns))
      have HSd := Lib.hid (show (167 :: inner kind ns) ++ lowN 4 (crc (inner kind ns)) = sealed kind ns from rfl)
      generalize crc (inner kind ns) = c at HCl HSd
      go_wp2_with fail
      refine (putLow_any c 4 HCl.out (by omega) w.heap.size _ _ w4 HO5.out HB4.out.size (by rw [HLn4.out]; omega)).mono ?_
      rintro e w5 ⟨⟨v5, rfl, ho5⟩, hk5⟩
      rw [HSd.out] at ho5
      have HO6 := Lib.hid ho5
      have HB6 := Lib.hid (HB4.out.trans hk5.toBelow)
      clear ho5 hk5 HO5 HB4 HS5
      go_wp2
      go_ret2
      exact ⟨⟨v5, rfl, HO6.out⟩, HB6.out⟩

set_option maxHeartbeats 4000000 in
set_option maxRecDepth 100000 in
theorem rSeal_ok (kind : Nat) (hk : kind < 256) (v : Value) (ns : List Nat) (w : World) (hv : Bts w v ns) (hlen : ns.length ≤ 1048575) :
    Calls Tryd.prog 8 #[.int .u8 kind, v] w (SealP w kind ns) := by
  obtain ⟨hl, a, cap, rfl, hc⟩ := id hv.1
  obtain ⟨L, hL⟩ : ∃ L, ns.length = L := ⟨_, rfl⟩
  have HL := Lib.hid hL
  have HVL := Lib.hid hv
  rw [hL] at HVL
  rw [hL] at hl hlen ⊢
  clear hc hv hL
  have hlI : ¬ (1048575 : Int) < L := by omega
  go_enter Tryd.func8, Tryd.ntmps8
  go_upto_region 5 with fail
  have ho1 := own_built w 5 .u8 ([167, kind] ++ lowN 3 L) w.heap.size rfl #[Value.int .u8 167, Value.int .u8 (kind : Int), Value.int .u8 ((L : Int) % 256), Value.int .u8 ((L : Int) / 256 % 256), Value.int .u8 ((L : Int) / 65536)] (by
    simp only [lowN, List.cons_append, List.nil_append, List.map_cons, List.map_nil]
    rw [show (((L % 256 : Nat) : Int)) = (L : Int) % 256 from by omega, show (((L / 256 % 256 : Nat) : Int)) = (L : Int) / 256 % 256 from by omega, show (((L / 256 / 256 % 256 : Nat) : Int)) = (L : Int) / 65536 from by omega]
    rfl) w.heap.size (Nat.le_refl _) (by simp [lowN, maxLen])
  have HB1 := Lib.hid ((Below.refl w.heap.size w).alloc (Nat.le_refl _) (.cells #[Value.int .u8 167, Value.int .u8 (kind : Int), Value.int .u8 ((L : Int) % 256), Value.int .u8 ((L : Int) / 256 % 256), Value.int .u8 ((L : Int) / 65536)] 5))
  have e5 : ([167, kind] ++ lowN 3 L).length = 5 := by simp [lowN]
  rw [e5] at ho1
  generalize w.alloc (.cells _ 5) = w1 at HB1 ho1 ⊢
  have HO1 := Lib.hid ho1; have HE5 := Lib.hid e5
  clear ho1 e5
  generalize Value.slice (some ⟨w.heap.size, 0, none⟩) 5 5 = v1 at HO1 ⊢
  go_wp2_with (at_builtin; refine appS rfl (.tmp 24) (.tmp 25) 22 rfl w.heap.size 5 .u8 1 Tryd.underlying22 infoByte _ ([167, kind] ++ lowN 3 L) rfl HO1.out _ ns rfl (HVL.out.1.keep HB1.out) HVL.out.2.2.1 ?_ ?_ HB1.out.size ?_)
  case refine_1 => have := HL.out; simp [lowN_len, maxLen]; omega
  case refine_2 => have := HL.out; simp [lowN_len]; omega
  case refine_3 =>
    intro v4 w4 ho4 hk4
    have hh : [167, kind] ++ lowN 3 L ++ ns = 167 :: inner kind ns := by rw [← HL.out]; exact head_eq kind ns
    replace ho4 : OwnI w4 w.heap.size 5 .u8 v4 (167 :: inner kind ns) := by rw [← hh]; exact ho4
    obtain ⟨g, cap4, rfl, _, hc4, hm4⟩ := own_at ho4 (by simp)
    have HB4 := Lib.hid (HB1.out.trans hk4.toBelow)
    have hlen4 : (167 :: inner kind ns).length = L + 5 := by rw [List.length_cons, inner_len, HL.out]
    have h := sub_read (lo := 1) (hi := (167 :: inner kind ns).length) (a' := some ⟨g, 0 + 1, none⟩) (cap' := cap4 - 1) ho4.read (by omega) (Nat.le_refl _) (fun _ b off e => by cases e; rfl)
    rw [List.take_length] at h
    rw [hlen4] at hc4 h ho4
    have HS5 : Hid (SlI w4 .u8 (.slice (some ⟨g, 1, none⟩) (L + 4) (cap4 - 1)) (inner kind ns)) := h
    have HO5 := Lib.hid ho4
    have HLn4 := Lib.hid hlen4
    rw [hlen4]
    unfold maxLen at hm4
    have hc4' : (cap4 : Int) ≠ 1 := by omega
    have HI := Lib.hid (inner_lt kind ns hk HVL.out.2.1)
    clear ho4 hk4 hh hlen4 h HO1 HB1
    go_wp2_with fail
    refine (rSum_any _ _ _ HS5.out HI.out).mono ?_
    rintro e w' ⟨rfl, rfl⟩
    have hcl := crc_lt (inner kind ns)
    have HSd := Lib.hid (show (167 :: inner kind ns) ++ lowN 4 (crc (inner kind ns)) = sealed kind ns from rfl)
    generalize crc (inner kind ns) = c at hcl HSd
    have HCl := Lib.hid hcl
    clear hcl
    go_wp2_with (at_builtin; refine appN rfl (.tmp 30) (.tmp 42) 22 rfl w.heap.size 5 .u8 1 Tryd.underlying22 infoByte _ (167 :: inner kind ns) rfl (HO5.out.alloc _) w4.heap.size 0 4 4 (lowN 4 c) (lowN_len _ _) rfl ?_ ?_ ?_ ?_ ?_)
    case refine_1 =>
      intro j hj
      have := HCl.out
      match j, hj with
      | 0, _ => simp [lowN]
      | 1, _ => simp [lowN]
      | 2, _ => simp [lowN]; omega
      | 3, _ => simp [lowN]; omega
    case refine_2 => have := HLn4.out; rw [this]; unfold maxLen; omega
    case refine_3 => have := HLn4.out; rw [this]; omega
    case refine_4 => have := HB4.out.size; first | omega | (rw [World.size_alloc]; omega)
    case refine_5 =>
      intro v6 w6 ho6 hk6
      have HO6 : Hid (OwnI w6 w.heap.size 5 .u8 v6 (sealed kind ns)) := by unfold Hid; rw [← HSd.out]; exact ho6
      have HB6 := Lib.hid ((HB4.out.alloc HB4.out.size _).trans hk6.toBelow)
      clear ho6 hk6 HO5 HB4 HS5
      go_wp2
      go_ret2
      exact ⟨⟨v6, rfl, HO6.out⟩, HB6.out⟩

end Go.Proofs.YtkjenddmkmlbeaaDoor.frame
