/- Ways as the keys of a map, each with its place. -/
import Derived.Test.YtalnmbfmfeaohaaGreatRows
import Derived.Test.YtalnmbfmfeaohaaGreatFlightBase
import Derived.Maps.OwnSet
import Derived.DeepKeys4
namespace Go.Proofs.YtalnmbfmfeaohaaGreat.flight
open Go.RowKit Go.Maps
open Go.Proofs.YtalnmbfmfeaohaaGreat.kit Go.Proofs.YtalnmbfmfeaohaaGreat.own
set_option linter.unusedVariables false

theorem laidOut : laidOutB Tryz.prog = true := by kernel_rfl
theorem keyLaw : Keyed Tryz.prog 40 := Keyed.of_law (deep_law_laid laidOut (m := 2) (by omega) (of_decide_eq_true (by kernel_rfl)) (by kernel_rfl) (by kernel_rfl))
def Wy.Ok (x : Wy) : Prop := (-9223372036854775808 ≤ x.1 ∧ x.1 ≤ 9223372036854775807) ∧ (-9223372036854775808 ≤ x.2 ∧ x.2 ≤ 9223372036854775807)
theorem keyTy : Tryz.prog.keyType 40 = true := by kernel_rfl
theorem cellsWay : Tryz.prog.cellsOf 40 = 2 := by kernel_rfl
theorem cellsInt : Tryz.prog.cellsOf 3 = 1 := by kernel_rfl
/-- What a way reads as, as a key. -/
def wkey (x : Wy) : Lit := .string (keyBytes [.int .i64 x.1, .int .i64 x.2])
theorem keyInt (n : Nat) (a : Int) (ha : -9223372036854775808 ≤ a ∧ a ≤ 9223372036854775807) : Tryz.prog.keyLits (n + 1) 3 [.int .i64 a] = some [.int .i64 a] := by
  unfold Program.keyLits
  rw [Tryz.underlying3]
  simp only
  rw [if_pos ⟨trivial, by simp [Lit.wf, IntKind.min, IntKind.max, IntKind.signed, IntKind.bits]; exact ha⟩]
theorem key_some (x : Wy) (hx : x.Ok) : keyOf Tryz.prog 40 (.agg #[.int .i64 x.1, .int .i64 x.2]) = some (wkey x) := by
  obtain ⟨m, hm⟩ : ∃ m, Tryz.prog.types.size = m + 1 := ⟨Tryz.prog.types.size - 1, by have : (40 : Nat) < Tryz.prog.types.size := of_decide_eq_true (by kernel_rfl); omega⟩
  have hf : Value.formed Tryz.prog 40 (.agg #[.int .i64 x.1, .int .i64 x.2]) = true := by
    simp [Value.formed, Tryz.underlying40, cellsWay]
  have hl : Tryz.prog.keyLits (m + 1 + 1) 40 [.int .i64 x.1, .int .i64 x.2] = some [.int .i64 x.1, .int .i64 x.2] := by
    unfold Program.keyLits
    rw [Tryz.underlying40]
    simp only
    rw [if_pos ⟨by rw [cellsWay]; rfl, by simp⟩]
    simp only [List.mapM_cons, List.mapM_nil, cellsInt, List.drop_zero, List.take_succ_cons, List.take_zero, List.drop_succ_cons, keyInt m _ hx.1, keyInt m _ hx.2]
    rfl
  have hu := Tryz.underlying40
  unfold keyOf
  rw [hu]
  simp only
  rw [keyTy, hf, hm]
  simp only [Bool.and_self, if_true]
  rw [show ((Value.agg #[.int .i64 x.1, .int .i64 x.2]).cells).toList = [.int .i64 x.1, .int .i64 x.2] from rfl, hl]
  rfl
theorem wkey_inj (x y : Wy) (hx : x.Ok) (hy : y.Ok) (h : wkey x = wkey y) : x = y := by
  have := keyLaw.inj (key_some x hx) (by rw [h]; exact key_some y hy)
  injection this with e
  have e1 := congrArg (fun a => a[0]?) e
  have e2 := congrArg (fun a => a[1]?) e
  simp at e1 e2
  exact Prod.ext e1 e2


/-- Ways, each with its place. -/
def pmS (xs : List Wy) : DataW Unit × Nat := xs.foldl (fun s y => (s.1.put (wkey y) (.lit (.int .i64 s.2)), s.2 + 1)) (.map [], 0)
def pm (xs : List Wy) : DataW Unit := (pmS xs).1
theorem pmS_snd : ∀ (xs : List Wy) (s : DataW Unit × Nat), (xs.foldl (fun s y => (s.1.put (wkey y) (.lit (.int .i64 s.2)), s.2 + 1)) s).2 = s.2 + xs.length
  | [], s => rfl
  | x :: xs, s => by rw [List.foldl_cons, pmS_snd xs]; simp; omega
theorem pm_snoc (xs : List Wy) (y : Wy) : pm (xs ++ [y]) = (pm xs).put (wkey y) (.lit (.int .i64 xs.length)) := by
  have := pmS_snd xs (.map [], 0)
  unfold pm pmS
  rw [List.foldl_append]
  simp only [List.foldl_cons, List.foldl_nil]
  rw [this]
  simp
theorem pm_isMap : ∀ (xs : List Wy) (s : DataW Unit × Nat), IsMap s.1 → IsMap (xs.foldl (fun s y => (s.1.put (wkey y) (.lit (.int .i64 s.2)), s.2 + 1)) s).1
  | [], s, h => h
  | x :: xs, s, h => pm_isMap xs _ (h.put _ _)
theorem isMap_pm (xs : List Wy) : IsMap (pm xs) := pm_isMap xs _ isMap_empty
theorem take_snoc {α : Type} (xs : List α) (k : Nat) (h : k < xs.length) : xs.take (k + 1) = xs.take k ++ [xs[k]] := List.take_succ_eq_append_getElem h
theorem has_take (xs : List Wy) (hx : ∀ y ∈ xs, Wy.Ok y) (x : Wy) (ho : x.Ok) : ∀ k, k ≤ xs.length → Maps.has (pm (xs.take k)) (wkey x) = decide (x ∈ xs.take k)
  | 0, _ => rfl
  | k + 1, hk => by
    have ih := has_take xs hx x ho k (by omega)
    have hy := hx xs[k] (List.getElem_mem _)
    rw [take_snoc xs k (by omega), pm_snoc]
    by_cases e : x = xs[k]
    · rw [← e, has_put_same (isMap_pm _) (show WideAt.IsKeyLit (wkey x) from trivial)]
      simp
    · rw [has_put_other (fun h => e (wkey_inj x _ ho hy h)), ih, decide_eq_decide, List.mem_append]
      simp only [List.mem_singleton, e, or_false]
theorem has_pm (xs : List Wy) (hx : ∀ y ∈ xs, Wy.Ok y) (x : Wy) (ho : x.Ok) : Maps.has (pm xs) (wkey x) = decide (x ∈ xs) := by
  have := has_take xs hx x ho xs.length (Nat.le_refl _)
  rwa [List.take_length] at this
theorem at_take (xs : List Wy) (hx : ∀ y ∈ xs, Wy.Ok y) (hn : xs.Pairwise (· ≠ ·)) (i : Nat) (hi : i < xs.length) (z : DataW Unit) : ∀ k, k ≤ xs.length → i < k → (pm (xs.take k)).atKey (wkey xs[i]) z = .lit (.int .i64 i)
  | k + 1, hk, hik => by
    have hy := hx xs[k] (List.getElem_mem _)
    have hxi := hx xs[i] (List.getElem_mem _)
    rw [take_snoc xs k (by omega), pm_snoc]
    by_cases e : i = k
    · subst e
      rw [atKey_put_same (isMap_pm _) (show WideAt.IsKeyLit (wkey xs[i]) from trivial), List.length_take, Nat.min_eq_left (by omega)]
    · have hne : xs[i] ≠ xs[k] := (List.pairwise_iff_getElem.1 hn) i k hi (by omega) (by omega)
      rw [atKey_put_other (fun h => hne (wkey_inj _ _ hxi hy h))]
      exact at_take xs hx hn i hi z k (by omega) (by omega)
theorem at_pm (xs : List Wy) (hx : ∀ y ∈ xs, Wy.Ok y) (hn : xs.Pairwise (· ≠ ·)) (i : Nat) (hi : i < xs.length) (z : DataW Unit) : (pm xs).atKey (wkey xs[i]) z = .lit (.int .i64 i) := by
  have := at_take xs hx hn i hi z xs.length (Nat.le_refl _) hi
  rwa [List.take_length] at this

theorem zeroInt (w : World) : (zeroValue 3).run Tryz.prog w = .ok (.int .i64 0) w := by kernel_rfl
/-- A map of places stands in block b. -/
def PMap (w : World) (b : Nat) (xs : List Wy) : Prop := w.ownsMap Tryz.prog 40 (plainElem Tryz.prog 3) b xs.length (pm xs)
theorem grown_below {w w' : World} (h : Below w.heap.size w w') : w.grownBy w' none := ⟨h.os, h.tape, h.output, h.size, fun k hk _ => h.block k hk⟩
theorem PMap.keep {w w' : World} {b : Nat} {xs : List Wy} (h : PMap w b xs) (hb : Below w.heap.size w w') : PMap w' b xs := World.ownsMap.kept h (grown_below hb) (by simp)
theorem run_makeHint (n : Int) (w : World) : (Instr.makeMap 84 (some (.int .i64 n))).run Tryz.prog w = .ok (.map (some w.heap.size)) (w.alloc (.map #[] 0)) := by
  simp [Instr.makeMap, run_underlying Tryz.underlying84, asInt, asIntOf, Result.andThen]
def PlacesS (w : World) (xs : List Wy) (e : Ending) (w' : World) : Prop := ∃ b, e = .returned (.map (some b)) ∧ PMap w' b xs ∧ Below w.heap.size w w'

set_option maxHeartbeats 4000000 in
set_option maxRecDepth 100000 in
theorem placesOf_any (v : Value) (xs : List Wy) (w : World) (h : Sl wc 2 w v xs) (hok : ∀ y ∈ xs, Wy.Ok y) (hm : xs.length < maxLen) :
    Calls Tryz.prog 44 #[v] w (PlacesS w xs) := by
  obtain ⟨hl, a, cap, rfl, -, -⟩ := id h
  have HS := Lib.hid h; have HOk := Lib.hid hok; have HM := Lib.hid hm
  obtain ⟨L, hL⟩ : ∃ L, xs.length = L := ⟨_, rfl⟩
  have HL := Lib.hid hL
  rw [hL] at hl HS ⊢
  clear h hL hok hm
  have hmm := run_makeHint
  go_enter Tryz.func44, Tryz.ntmps44
  go_wp2
  clear hmm
  go_loopw [11] (fun i wr => ∃ (k : Nat), k ≤ L ∧ i = .int .i64 k ∧ PMap wr w.heap.size (xs.take k) ∧ Below w.heap.size w wr) (fun i _ => L - (intOf i).toNat)
  case atStart => exact ⟨0, by omega, rfl, World.ownsMap_made _ _ _ _, (Below.refl _ _).alloc (Nat.le_refl _) _⟩
  case round =>
    obtain ⟨k, hk, rfl, hp, hb⟩ := hrel
    have HB := Lib.hid hb; have HP := Lib.hid hp
    clear hb hp
    by_cases hlt : k < L
    · have hlt' : (k : Int) < L := by omega
      have hi : k < xs.length := by rw [HL.out]; exact hlt
      have hs2 : Sl wc 2 wr (.slice a L cap) xs := HS.out.keep HB.out
      obtain ⟨_, a', cap', he, -, hcell⟩ := hs2
      cases he
      obtain ⟨b, off, rfl, hbl, hcell⟩ := hcell (by omega)
      obtain ⟨c1, c2⟩ := wcells_at (hcell k hi)
      clear hcell hbl
      have hxo := HOk.out xs[k] (List.getElem_mem _)
      have ht := take_snoc xs k hi
      obtain ⟨x, hx⟩ : ∃ x, xs[k] = x := ⟨_, rfl⟩
      rw [hx] at c1 c2 hxo ht
      have HK := Lib.hid (key_some x hxo)
      obtain ⟨p, q⟩ := x
      simp only at c1 c2 HK
      have HT := Lib.hid ht
      clear hx ht hxo
      have hbA : Below wr.heap.size wr (wr.alloc (.cells #[.int .i64 p, .int .i64 q] 40)) := (Below.refl _ _).alloc (Nat.le_refl _) _
      have HBn := Lib.hid (HB.out.alloc (HB.out.size) (.cells #[.int .i64 p, .int .i64 q] 40))
      have HPn := Lib.hid (HP.out.keep hbA)
      have HLt : Hid ((xs.take k).length = k) := Lib.hid (by rw [List.length_take]; omega)
      clear hbA
      go_wp2_with (at_mapUpdate; refine wpList_mapUpdate_own _ rfl _ _ _ 84 rfl 40 3 keyLaw Tryz.underlying84 _ w.heap.size _ _ rfl HPn.out (by rw [HLt.out]; have := HM.out; rw [HL.out] at this; omega) _ _ _ rfl rfl HK.out _ [] (plainElem_int Tryz.underlying3 (a := (k : Int)) (WalkArith.wf_i64 (by omega))) ?_; intro w1 hown1 hgrow1)
      have HP1 : Hid (PMap w1 w.heap.size (xs.take (k + 1))) := Lib.hid (by
        unfold PMap
        rw [HT.out, pm_snoc, List.length_append, HLt.out]
        rw [HLt.out] at hown1
        exact hown1)
      have HB1 := Lib.hid (HBn.out.grown hgrow1 HBn.out.size (fun j hj => by cases hj; exact Nat.le_refl _))
      clear hown1 hgrow1
      go_wp2
      go_roundw
      case rel => exact ⟨k + 1, by omega, by go_num, HP1.out, HB1.out⟩
      case measure => simp [intOf]; omega
    · obtain rfl : k = L := by omega
      go_wp2
      go_ret
      refine ⟨_, rfl, ?_, HB.out⟩
      have := HP.out
      rwa [← HL.out, List.take_length] at this

end Go.Proofs.YtalnmbfmfeaohaaGreat.flight
