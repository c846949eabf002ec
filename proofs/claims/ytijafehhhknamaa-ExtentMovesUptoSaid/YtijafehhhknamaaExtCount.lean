/- How often each sector is told. -/
import Derived.Test.YtijafehhhknamaaRows
import Derived.Test.YtijafehhhknamaaExtHeld
import Derived.Test.YtijafehhhknamaaExtR
namespace Go.Proofs.Ytijafehhhknamaa.ext
open Go.RowKit
open Go.Proofs.Ytijafehhhknamaa.kit Go.Proofs.Ytijafehhhknamaa.own
set_option linter.unusedVariables false

theorem cells1_count (a k : Int) : ∀ m : Nat, ((List.range m).map fun i : Nat => a + (i : Int)).count k = if a ≤ k ∧ k < a + (m : Int) then 1 else 0
  | 0 => by
    rw [if_neg (by omega)]; rfl
  | m + 1 => by
    rw [List.range_succ, List.map_append, List.count_append, cells1_count a k m]
    simp only [List.map_cons, List.map_nil, List.count_singleton, beq_iff_eq]
    by_cases h1 : a ≤ k ∧ k < a + (m : Int)
    · rw [if_pos h1, if_neg (by omega), if_pos (by omega)]
    · by_cases h2 : a + (m : Int) = k
      · rw [if_neg h1, if_pos h2, if_pos (by omega)]
      · rw [if_neg h1, if_neg h2, if_neg (by omega)]
theorem sec1_count (x : Wy) (k : Int) : (sec1 x).count k = if inE k x = true then 1 else 0 := by
  unfold sec1
  rw [cells1_count]
  by_cases h : x.1 ≤ k ∧ k < x.1 + x.2
  · rw [if_pos (by omega), if_pos ((inE_iff k x).2 h)]
  · rw [if_neg (by omega), if_neg (fun h' => h ((inE_iff k x).1 h'))]
theorem sec_count (k : Int) : ∀ xs : List Wy, (secE xs).count k = cnt xs k
  | [] => rfl
  | x :: r => by
    have e : secE (x :: r) = sec1 x ++ secE r := rfl
    rw [e, List.count_append, sec_count k r, sec1_count, cnt_cons]
    omega
/-- All sectors, of what is free and of what is held. -/
def allS (free : List Wy) (hs : List (List Wy)) : List Int := secE free ++ hs.flatMap secE
theorem held_count (k : Int) : ∀ hs : List (List Wy), (hs.flatMap secE).count k = cnts hs k
  | [] => rfl
  | h :: r => by rw [List.flatMap_cons, List.count_append, held_count k r, sec_count, cnts_cons]
theorem allS_count (free : List Wy) (hs : List (List Wy)) (k : Int) : (allS free hs).count k = cnt free k + cnts hs k := by
  unfold allS
  rw [List.count_append, sec_count, held_count]
theorem allS_in {t : Int} {free : List Wy} {hs : List (List Wy)} (h : Placed t free hs) (k : Int) (hk : k ∈ allS free hs) : 0 ≤ k ∧ k < t := by
  have h1 := List.count_pos_iff.2 hk
  rw [allS_count] at h1
  by_cases hh : 0 ≤ k ∧ k < t
  · exact hh
  · have := h.none k hh; omega
/-- What has been seen. -/
def seenF (n : Nat) (S : List Int) : List Int := (List.range n).map fun j : Nat => ((S.count (j : Int) : Nat) : Int)
theorem seenF_len (n : Nat) (S : List Int) : (seenF n S).length = n := by simp [seenF]
theorem seenF_at (n : Nat) (S : List Int) (j : Nat) (hj : j < (seenF n S).length) : (seenF n S)[j] = ((S.count (j : Int) : Nat) : Int) := by simp [seenF]
theorem seenF_nil (n : Nat) : seenF n [] = List.replicate n 0 := by
  apply List.ext_getElem
  · rw [seenF_len, List.length_replicate]
  · intro j h1 h2
    rw [seenF_at, List.getElem_replicate]
    rfl
theorem seenF_set (n : Nat) (S : List Int) (i : Nat) (hi : i < (seenF n S).length) : (seenF n S).set i ((seenF n S)[i] + 1) = seenF n (S ++ [(i : Int)]) := by
  apply List.ext_getElem
  · rw [List.length_set, seenF_len, seenF_len]
  · intro j h1 h2
    have hj : j < (seenF n S).length := by rw [List.length_set] at h1; exact h1
    have e1 := seenF_at n S i hi
    have e2 := seenF_at n S j hj
    have e3 := seenF_at n (S ++ [(i : Int)]) j h2
    rw [List.count_append, List.count_singleton] at e3
    rw [List.getElem_set, e3]
    by_cases h : i = j
    · subst h
      rw [if_pos rfl, e1, if_pos (show ((i : Int) == (i : Int)) = true by simp)]
      omega
    · rw [if_neg h, e2, if_neg (show ¬ ((i : Int) == (j : Int)) = true by rw [beq_iff_eq]; omega)]
      omega
theorem seenF_full {n : Nat} {free : List Wy} {hs : List (List Wy)} (h : Placed n free hs) : seenF n (allS free hs) = List.replicate n 1 := by
  apply List.ext_getElem
  · rw [seenF_len, List.length_replicate]
  · intro j h1 h2
    rw [seenF_len] at h1
    rw [seenF_at, List.getElem_replicate, allS_count, h.one j (by omega) (by omega)]
    rfl
/-- The next sector is told for the first time. -/
theorem seen_fresh {n : Nat} {free : List Wy} {hs : List (List Wy)} (h : Placed n free hs) (k : Nat) (hk : k < (allS free hs).length) : ∃ z : Nat, (allS free hs)[k] = (z : Int) ∧ z < n ∧
    (∃ hz : z < (seenF n ((allS free hs).take k)).length, (seenF n ((allS free hs).take k))[z] = 0) ∧ (seenF n ((allS free hs).take k)).set z 1 = seenF n ((allS free hs).take (k + 1)) := by
  have hin := allS_in h _ (List.getElem_mem hk)
  obtain ⟨z, hz⟩ : ∃ z : Nat, (allS free hs)[k] = (z : Int) := ⟨((allS free hs)[k]).toNat, by omega⟩
  rw [hz] at hin
  have hzn : z < (seenF n ((allS free hs).take k)).length := by rw [seenF_len]; omega
  have htk : (allS free hs).take (k + 1) = (allS free hs).take k ++ [(z : Int)] := by rw [List.take_succ_eq_append_getElem hk, hz]
  have hle : ((allS free hs).take (k + 1)).count (z : Int) ≤ 1 := by
    refine Nat.le_trans ((List.take_sublist _ _).count_le _) ?_
    rw [allS_count]
    exact h.le _
  rw [htk, List.count_append, List.count_singleton, if_pos (by simp)] at hle
  have h0 : (seenF n ((allS free hs).take k))[z] = 0 := by rw [seenF_at]; omega
  refine ⟨z, hz, by omega, ⟨hzn, h0⟩, ?_⟩
  have := seenF_set n ((allS free hs).take k) z hzn
  rw [h0] at this
  rw [htk, ← this]
  rfl

/-- The first ones of a slice. -/
theorem sl_take {α : Type} {enc : α → List Value} {k : Nat} {W : World} {a : Option Addr} {L cap j : Nat} {xs : List α} (h : Sl enc k W (.slice a L cap) xs) (hL : xs.length = L) (hj : j ≤ L) : Sl enc k W (.slice a j cap) (xs.take j) := by
  subst hL
  obtain ⟨hl, a', c, he, hn, hcell⟩ := h
  cases he
  have e1 : (xs.take j).length = j := by rw [List.length_take]; omega
  refine ⟨by omega, a, cap, by rw [e1], hn, fun h0 => ?_⟩
  rw [e1] at h0
  obtain ⟨b', off', rfl, hb, hcell⟩ := hcell (by omega)
  refine ⟨b', _, rfl, hb, fun i hi => ?_⟩
  have h2 := hcell i (by rw [List.length_take] at hi; omega)
  rw [List.getElem_take]
  exact h2
/-- The last ones of a slice. -/
theorem sl_drop {α : Type} {enc : α → List Value} {k : Nat} {W : World} {b off L cap j : Nat} {xs : List α} (h : Sl enc k W (.slice (some ⟨b, off, none⟩) L cap) xs) (hL : xs.length = L) (hj : j ≤ L) (A : Addr) (hA : j < L → A = ⟨b, off + j * k, none⟩) : Sl enc k W (.slice (some A) (L - j) (cap - j)) (xs.drop j) := by
  subst hL
  obtain ⟨hl, a, c, he, hn, hcell⟩ := h
  cases he
  have e1 : (xs.drop j).length = xs.length - j := List.length_drop
  refine ⟨by omega, some A, cap - j, by rw [e1], (fun h => by cases h), fun h0 => ?_⟩
  rw [e1] at h0
  obtain rfl := hA (by omega)
  obtain ⟨b', off', e, hb, hcell⟩ := hcell (by omega)
  cases e
  refine ⟨b, _, rfl, hb, fun i hi => ?_⟩
  have h2 := hcell (j + i) (by omega)
  rw [List.getElem_drop]
  have e2 : off + j * k + i * k = off + (j + i) * k := by rw [Nat.add_mul]; omega
  rw [e2]
  exact h2

/-- One of what is held is taken out, the row lies anew. -/
theorem HeldAt.out {W W' : World} {B B' : Nat} {v v' : Value} {svs : List SV} {hs : List (List Wy)} (h : HeldAt W B v svs hs) (hk : Kept B' 22 W W') (i : Nat) (hr : Own vc 1 22 W' B' v' (svs.take i ++ svs.drop (i + 1))) : HeldAt W' B' v' (svs.take i ++ svs.drop (i + 1)) (hs.take i ++ hs.drop (i + 1)) := by
  have hl := h.len
  refine ⟨hr, by simp [hl], fun j h1 h2 => ?_⟩
  have key : ∀ m (a : m < hs.length) (b : m < svs.length), OwE W' (.slice svs[m].1 svs[m].2.1 svs[m].2.2) hs[m] := fun m a b => Own.typed (h.each m a b) hk (by decide)
  by_cases hj : j < i
  · have a1 : j < hs.length := by
      rw [List.length_append, List.length_take, List.length_drop] at h1
      omega
    have e1 : (hs.take i ++ hs.drop (i + 1))[j] = hs[j] := by
      rw [List.getElem_append_left (by rw [List.length_take]; omega), List.getElem_take]
    have e2 : (svs.take i ++ svs.drop (i + 1))[j] = svs[j]'(by omega) := by
      rw [List.getElem_append_left (by rw [List.length_take]; omega), List.getElem_take]
    rw [e1, e2]
    exact key j a1 (by omega)
  · by_cases hi : i ≤ hs.length
    · have h1' := h1
      rw [List.length_append, List.length_take, List.length_drop] at h1'
      have a1 : j + 1 < hs.length := by omega
      have e1 : (hs.take i ++ hs.drop (i + 1))[j] = hs[j + 1] := by
        rw [List.getElem_append_right (by rw [List.length_take]; omega), List.getElem_drop]
        congr 1
        rw [List.length_take]; omega
      have e2 : (svs.take i ++ svs.drop (i + 1))[j] = svs[j + 1]'(by omega) := by
        rw [List.getElem_append_right (by rw [List.length_take]; omega), List.getElem_drop]
        congr 1
        rw [List.length_take]; omega
      rw [e1, e2]
      exact key (j + 1) a1 (by omega)
    · have h1' := h1
      rw [List.length_append, List.length_take, List.length_drop] at h1'
      omega
/-- One more is held. -/
theorem HeldAt.add {W W' : World} {B B' : Nat} {v v' : Value} {svs : List SV} {hs : List (List Wy)} (h : HeldAt W B v svs hs) (hk : Kept B' 22 W W') {sv : SV} {xs : List Wy} (hx : OwE W (.slice sv.1 sv.2.1 sv.2.2) xs) (hr : Own vc 1 22 W' B' v' (svs ++ [sv])) : HeldAt W' B' v' (svs ++ [sv]) (hs ++ [xs]) := by
  have hl := h.len
  refine ⟨hr, by simp [hl], fun j h1 h2 => ?_⟩
  by_cases hj : j < hs.length
  · have e1 : (hs ++ [xs])[j] = hs[j] := List.getElem_append_left hj
    have e2 : (svs ++ [sv])[j] = svs[j]'(by omega) := List.getElem_append_left (by omega)
    rw [e1, e2]
    exact Own.typed (h.each j hj (by omega)) hk (by decide)
  · obtain rfl : j = hs.length := by simp at h1; omega
    have e1 : (hs ++ [xs])[hs.length] = xs := by simp
    have e2 : (svs ++ [sv])[hs.length] = sv := by simp [hl]
    rw [e1, e2]
    exact Own.typed hx hk (by decide)

end Go.Proofs.Ytijafehhhknamaa.ext
