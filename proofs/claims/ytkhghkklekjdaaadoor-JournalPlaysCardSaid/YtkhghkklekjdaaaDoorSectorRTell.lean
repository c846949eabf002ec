/- The document's device tells: Dirty, Image, Read; New. -/
import Derived.Test.YtkhghkklekjdaaaDoorRows
import Derived.Test.YtkhghkklekjdaaaDoorSectorRLay
import Derived.Lib.ConvBytes
namespace Go.Proofs.YtkhghkklekjdaaaDoor.sector
open Go.RowKit
open Go.Proofs.YtkhghkklekjdaaaDoor.kit Go.Proofs.YtkhghkklekjdaaaDoor.own
set_option linter.unusedVariables false

set_option maxHeartbeats 1000000 in
set_option maxRecDepth 100000 in
theorem rImage_any (w : World) (Z : Nat → Prop) (d : Nat) (m : Dev) (h : RAt w Z d m) :
    Calls Tryd.prog 23 #[.pointer (some ⟨d, 0, none⟩)] w (Makes w 5 .u8 m.laid) := by
  obtain ⟨ho, vd, vc, pk, hl⟩ := h
  have HL := Lib.hid hl
  have c1 := hl.cell 1
  simp [rCells] at c1
  have HLd := Lib.hid ho.laid
  have hn := ho.n
  obtain ⟨a, cap, rfl⟩ := own_any hl.down
  have hnil : ∀ n c, Value.slice a m.laid.length cap = .slice none n c → c = 0 := by
    intro n c e
    rcases hl.down.2 with ⟨h', _⟩ | ⟨g', cap', cur, h', _⟩
    · rw [h'] at e; cases e; rfl
    · rw [h'] at e; cases e
  have HNil := Lib.hid hnil
  clear hl ho hnil
  go_enter Tryd.func23, Tryd.ntmps23
  go_wp2_with (at_builtin; refine appS rfl (.tmp 4) (.tmp 8) 22 rfl w.heap.size 5 .u8 1 Tryd.underlying22 infoByte _ [] rfl (OwnI.nil _ _ _ _) _ m.laid rfl HL.out.down.read HNil.out ?_ ?_ (Nat.le_refl _) ?_)
  case refine_1 => have := HLd.out; simp [maxLen]; omega
  case refine_2 => have := HLd.out; simp; omega
  case refine_3 =>
    intro v' w' ho hk
    have HO : Hid (OwnI w' w.heap.size 5 .u8 v' m.laid) := ho
    have HK := Lib.hid hk.toBelow
    clear ho hk
    go_wp2
    go_ret
    exact ⟨⟨v', rfl, HO.out⟩, HK.out⟩

theorem own_cap {w : World} {B e n cap size : Nat} {g : Nat} {xs : List Value} (h : w.ownsRow B e size (.slice (some ⟨g, 0, none⟩) n cap) n xs) : n ≤ cap := by
  rcases h.2 with ⟨h', _⟩ | ⟨g', cap', cur, h', _, _, hc, _⟩
  · cases h'
  · cases h'; exact hc
theorem own_cap2 {w : World} {B e n cap : Nat} {g : Nat} {kd : IntKind} {ns : List Nat} (h : OwnI w B e kd (.slice (some ⟨g, 0, none⟩) n cap) ns) (hn : ns.length = n) : n ≤ cap := by
  subst hn; exact own_cap h
theorem conv_sector {w : World} {g n cap j : Nat} {L : List Nat} (h : OwnI w 0 5 .u8 (.slice (some ⟨g, 0, none⟩) (64 * n) cap) L) (hL : L.length = 64 * n) (hj : j < n) :
    (convert 22 9 (.slice (some ⟨g, j * 64, none⟩) ((j + 1) * 64 - j * 64) (cap - j * 64))).run Tryd.prog w = .ok (.string (strN (sectorOf L j))) w := by
  have hl := sectorOf_len hL hj
  have h64 : (j + 1) * 64 - j * 64 = (sectorOf L j).length := by rw [hl]; omega
  rw [h64]
  refine conv_sl ⟨by rw [hl]; omega, _, _, rfl, fun _ => ⟨g, j * 64, rfl, fun i hi => ?_⟩⟩
  rw [hl] at hi
  have h1 := SlI.cell h.read (j * 64 + i) (by rw [hL]; omega)
  rw [Nat.zero_add] at h1
  rw [h1]
  simp only [sectorOf, List.getD, List.getElem?_take, hi, if_true, List.getElem?_drop]
theorem str_bytes (w : World) (x : List Nat) (h8 : ∀ y ∈ x, y < 256) (hl : x.length ≤ 1000000) : ∃ v' w', (convert 9 22 (.string (strN x))).run Tryd.prog w = .ok v' w' ∧ (∃ b c, v' = .slice (some ⟨b, 0, none⟩) x.length c ∧ x.length ≤ c) ∧ SlI w' .u8 v' x ∧ Below w.heap.size w w' := by
  have hsz : (strN x).size = x.length := by unfold strN; rw [strOfNums_size]; simp
  refine ⟨_, _, Lib.run_convert_string_bytes w 9 22 5 (strN x) Tryd.underlying9 Tryd.underlying22 Tryd.underlying5, ⟨w.heap.size, _, by rw [hsz], by have := grownCap_ge w (strN x).size 0 5; rw [hsz] at this; exact this⟩, ?_, ?_⟩
  · rw [hsz]
    refine ⟨by omega, _, _, rfl, fun _ => ⟨w.heap.size, 0, rfl, fun j hj => ?_⟩⟩
    rw [Nat.zero_add, Lib.bytesWorld_cell w 5 (strN x) j (by rw [hsz]; exact hj)]
    have e : (strN x).data.toList.getD j 0 = UInt8.ofNat (x.getD j 0) := by
      simp [strN, strOfNums, List.getD, hj]
    rw [e, UInt8.toNat_ofNat']
    have : x.getD j 0 < 256 := by
      simp only [List.getD, List.getElem?_eq_getElem hj, Option.getD_some]
      exact h8 _ (List.getElem_mem hj)
    rw [show x.getD j 0 % 2 ^ 8 = x.getD j 0 by omega]
  · refine ⟨rfl, rfl, rfl, by rw [Lib.bytesWorld_size]; omega, fun k hk => Lib.bytesWorld_at_old w _ _ k hk⟩

/-- What the document's Read gives. -/
def RReads (w : World) (x : List Nat) (e : Ending) (w' : World) : Prop := ∃ b o n c, e = .returned (.tuple #[.slice (some ⟨b, o, none⟩) n c, .int .i64 0]) ∧ SlI w' .u8 (.slice (some ⟨b, o, none⟩) n c) x ∧ Below w.heap.size w w' ∧ n ≤ c

set_option maxRecDepth 100000 in
theorem rRead_dead (w : World) (Z : Nat → Prop) (d : Nat) (m : Dev) (h : RAt w Z d m) (hp : m.power = false) (k : Int) :
    Calls Tryd.prog 53 #[.pointer (some ⟨d, 0, none⟩), .int .i64 k] w fun e w' => e = .returned (.tuple #[.slice none 0 0, .int .i64 22]) ∧ w = w' := by
  obtain ⟨ho, vd, vc, pk, hl⟩ := h
  have c0 := hl.cell 0; have c3 := hl.cell 3
  simp [rCells, hp] at c0 c3
  clear hl ho hp
  go_enter Tryd.func53, Tryd.ntmps53
  go_wp2
  go_ret2
  exact ⟨rfl, rfl⟩

set_option maxRecDepth 100000 in
theorem rRead_number (w : World) (Z : Nat → Prop) (d : Nat) (m : Dev) (h : RAt w Z d m) (hp : m.power = true) (k : Int) (hk : ¬ (0 ≤ k ∧ k < (m.n : Int))) :
    Calls Tryd.prog 53 #[.pointer (some ⟨d, 0, none⟩), .int .i64 k] w fun e w' => e = .returned (.tuple #[.slice none 0 0, .int .i64 20]) ∧ w = w' := by
  have HS := Lib.hid (rSectors_any w Z d m h)
  obtain ⟨ho, vd, vc, pk, hl⟩ := h
  have c0 := hl.cell 0; have c3 := hl.cell 3
  simp [rCells, hp] at c0 c3
  clear hl ho hp
  generalize m.n = n at HS hk
  by_cases h0 : k < 0
  · clear hk
    go_enter Tryd.func53, Tryd.ntmps53
    go_wp2
    go_ret2
    exact ⟨rfl, rfl⟩
  · have h1 : (n : Int) ≤ k := by
      by_cases h : k < (n : Int)
      · exact absurd ⟨by omega, h⟩ hk
      · omega
    have h0' : 0 ≤ k := by omega
    clear hk h0
    go_enter Tryd.func53, Tryd.ntmps53
    go_wp2_with fail
    refine HS.out.mono ?_
    rintro e w' ⟨rfl, rfl⟩
    go_wp2
    go_ret2
    exact ⟨rfl, rfl⟩

set_option maxHeartbeats 4000000 in
set_option maxRecDepth 100000 in
theorem rRead_hit (w : World) (Z : Nat → Prop) (d : Nat) (m : Dev) (h : RAt w Z d m) (hp : m.power = true) (k : Nat) (hk : k < m.n) (hj : (keys m.cache).idxOf k < m.cache.length) :
    Calls Tryd.prog 53 #[.pointer (some ⟨d, 0, none⟩), .int .i64 k] w (RReads w (look m k)) := by
  have HS := Lib.hid (rSectors_any w Z d m h)
  obtain ⟨ho, vd, vc, pk, hl⟩ := h
  have HL := Lib.hid hl
  have c0 := hl.cell 0; have c2 := hl.cell 2; have c3 := hl.cell 3
  simp [rCells, hp] at c0 c2 c3
  have hin := ho.cache _ (nth_mem hj)
  have hj2 := idx_hit (ns := keys m.cache) (k := k) (by rw [keys_len]; exact hj)
  have e : look m k = nth m.cache ((keys m.cache).idxOf k) := by unfold look; rw [if_pos hj]
  rw [e]
  have hlen := ho.len
  generalize (keys m.cache).idxOf k = j at hj hin hj2 ⊢
  obtain ⟨v', w', hcv, ⟨b', c', hv', hcc⟩, hsl, hbl⟩ := str_bytes w (nth m.cache j) hin.2.2 (by rw [hin.2.1]; omega)
  rw [hin.2.1] at hv' hcc
  have HCc := Lib.hid hcc
  clear hcc
  subst hv'
  have HSl := Lib.hid hsl; have HBl := Lib.hid hbl; have HJ := Lib.hid hj2
  obtain ⟨g, cap, rfl, -, a1⟩ := hl.slot hj
  have hk0 : (0 : Int) ≤ (k : Int) := by omega
  have hkI : (k : Int) < (m.n : Int) := by omega
  clear hl ho hin hj2 hsl hbl e hp
  generalize nth m.cache j = x at a1 hcv HSl ⊢
  go_enter Tryd.func53, Tryd.ntmps53
  go_wp2_with fail
  refine HS.out.mono ?_
  rintro e w' ⟨rfl, rfl⟩
  go_wp2_with fail
  go_loop [6] (fun i => ∃ q : Nat, q ≤ j ∧ i = .int .i64 q) (fun i => m.cache.length - (intOf i).toNat)
  case atStart => exact ⟨0, by omega, rfl⟩
  case round =>
    obtain ⟨q, hq, rfl⟩ := hrel
    obtain ⟨g2, cap2, hg2, b0, -⟩ := HL.out.slot (j := q) (by omega)
    obtain rfl : g = g2 := by injection hg2 with h1; injection h1 with h1; injection h1
    clear hg2
    have hqI : (q : Int) < (m.cache.length : Int) := by omega
    have hq0 : (0 : Int) ≤ (q : Int) := by omega
    by_cases hqj : q = j
    · subst hqj
      rw [HJ.out.1] at b0
      go_wp2
      go_ret2
      exact ⟨b', 0, 64, c', rfl, HSl.out, HBl.out, HCc.out⟩
    · have hne := HJ.out.2 q (by omega)
      have e2 : True → ((((keys m.cache).getD q 0 : Nat) : Int) == (k : Int)) = false := fun _ => by rw [beq_eq_false_iff_ne]; omega
      generalize (keys m.cache).getD q 0 = y at b0 e2 hne
      clear hne hcv
      have HQ := Lib.hid hqj
      clear hqj
      go_wp2
      go_round
      case rel => exact ⟨q + 1, by have := HQ.out; omega, by go_num⟩
      case measure => simp [intOf]; omega

set_option maxHeartbeats 4000000 in
set_option maxRecDepth 100000 in
theorem rRead_miss (w : World) (Z : Nat → Prop) (d : Nat) (m : Dev) (h : RAt w Z d m) (hp : m.power = true) (k : Nat) (hk : k < m.n) (hj : ¬ (keys m.cache).idxOf k < m.cache.length) :
    Calls Tryd.prog 53 #[.pointer (some ⟨d, 0, none⟩), .int .i64 k] w (RReads w (look m k)) := by
  have HS := Lib.hid (rSectors_any w Z d m h)
  obtain ⟨ho, vd, vc, pk, hl⟩ := h
  have HL := Lib.hid hl
  have c0 := hl.cell 0; have c1 := hl.cell 1; have c2 := hl.cell 2; have c3 := hl.cell 3
  simp [rCells, hp] at c0 c1 c2 c3
  have hj2 := idx_miss (ns := keys m.cache) (k := k) (by rw [keys_len]; exact hj)
  have e : look m k = sectorOf m.laid k := by unfold look; rw [if_neg hj]
  rw [e]
  have hlen := ho.len
  have hx := sectorOf_len ho.laid hk
  have hx8 : ∀ y ∈ sectorOf m.laid k, y < 256 := fun y hy => ho.laidLt y (List.mem_of_mem_drop (List.mem_of_mem_take hy))
  obtain ⟨gd, cd, rfl⟩ := own_form hl.down (64 * m.n) ho.laid (by omega)
  have hcap := own_cap2 hl.down ho.laid
  have hconv := conv_sector hl.down ho.laid hk
  obtain ⟨v', w', hcv, ⟨b', c', hv', hcc⟩, hsl, hbl⟩ := str_bytes w (sectorOf m.laid k) hx8 (by rw [hx]; omega)
  rw [hx] at hv' hcc
  have HCc := Lib.hid hcc
  clear hcc
  subst hv'
  have HSl := Lib.hid hsl; have HBl := Lib.hid hbl; have HJ := Lib.hid hj2
  obtain ⟨ac, cc, rfl⟩ := own_any hl.cache
  have hk0 : (0 : Int) ≤ (k : Int) := by omega
  have hkI : (k : Int) < (m.n : Int) := by omega
  have hn4 := ho.n
  have b1 : (k : Int) * 64 < (cd : Int) := by omega
  have b2 : ((k : Int) + 1) * 64 ≤ (cd : Int) := by omega
  have b5 : (0 : Int) ≤ (k : Int) * 64 := by omega
  have b6 : (k : Int) * 64 ≤ ((k : Int) + 1) * 64 := by omega
  clear hl ho hj2 hsl hbl e hp hx hx8 hj
  generalize sectorOf m.laid k = x at hcv HSl hconv ⊢
  go_enter Tryd.func53, Tryd.ntmps53
  go_wp2_with fail
  refine HS.out.mono ?_
  rintro e w' ⟨rfl, rfl⟩
  go_wp2_with fail
  go_loop [6] (fun i => ∃ q : Nat, q ≤ m.cache.length ∧ i = .int .i64 q) (fun i => m.cache.length - (intOf i).toNat)
  case atStart => exact ⟨0, by omega, rfl⟩
  case round =>
    obtain ⟨q, hq, rfl⟩ := hrel
    have hq0 : (0 : Int) ≤ (q : Int) := by omega
    by_cases hqn : q < m.cache.length
    · obtain ⟨g2, cap2, hg2, b0, -⟩ := HL.out.slot (j := q) hqn
      have hac : ac = some ⟨g2, 0, none⟩ := by injection hg2
      subst hac
      clear hg2
      have hqI : (q : Int) < (m.cache.length : Int) := by omega
      have hne := HJ.out q (by rw [keys_len]; exact hqn)
      have e2 : True → ((((keys m.cache).getD q 0 : Nat) : Int) == (k : Int)) = false := fun _ => by rw [beq_eq_false_iff_ne]; omega
      generalize (keys m.cache).getD q 0 = y at b0 e2 hne
      clear hne hcv hconv b1 b2 b5 b6
      go_wp2
      go_round
      case rel => exact ⟨q + 1, by omega, by go_num⟩
      case measure => simp [intOf]; omega
    · obtain rfl : q = m.cache.length := by omega
      have hqI : ¬ ((m.cache.length : Nat) : Int) < ((m.cache.length : Nat) : Int) := by omega
      go_wp2
      go_ret2
      exact ⟨b', 0, 64, c', rfl, HSl.out, HBl.out, HCc.out⟩

end Go.Proofs.YtkhghkklekjdaaaDoor.sector
