/- The document's hosts. -/
import Derived.Test.YtngmcolbpdinmaaRows
import Derived.Test.YtngmcolbpdinmaaRuleOnce
import Derived.Test.YtngmcolbpdinmaaRuleApp
import Derived.Test.YtngmcolbpdinmaaRuleLow
namespace Go.Proofs.Ytngmcolbpdinmaa.crush
open Go.RowKit
open Go.Proofs.Ytngmcolbpdinmaa.kit Go.Proofs.Ytngmcolbpdinmaa.own
set_option linter.unusedVariables false

theorem sl_take {α : Type} {enc : α → List Value} {k : Nat} {w : World} {ax : Addr} {cx : Nat} {xs : List α} (h : Sl enc k w (.slice (some ax) xs.length cx) xs) (i : Nat) (hi : i ≤ xs.length) : Sl enc k w (.slice (some ax) i cx) (xs.take i) := by
  obtain ⟨h1, a, c, he, h2, h3⟩ := h
  have hlen : (xs.take i).length = i := by rw [List.length_take]; omega
  refine ⟨by rw [hlen]; exact Nat.le_trans hi h1, some ax, cx, by rw [hlen], (by intro e; cases e), fun hp => ?_⟩
  rw [hlen] at hp
  obtain ⟨b, off, ha, hb, hr⟩ := h3 (by omega)
  cases he
  refine ⟨b, off, ha, hb, fun j hj => ?_⟩
  rw [List.getElem_take]
  exact hr j (by omega)
theorem sl_drop {α : Type} {enc : α → List Value} {k : Nat} {w : World} {bk off cx : Nat} {xs : List α} (h : Sl enc k w (.slice (some ⟨bk, off, none⟩) xs.length cx) xs) (i : Nat) (hi : i ≤ xs.length) (A : Addr) (c2 : Nat) (hA : i < xs.length → A = ⟨bk, off + i * k, none⟩) : Sl enc k w (.slice (some A) (xs.length - i) c2) (xs.drop i) := by
  obtain ⟨h1, a, c, he, h2, h3⟩ := h
  have hlen : (xs.drop i).length = xs.length - i := List.length_drop ..
  refine ⟨by rw [hlen]; omega, some A, c2, by rw [hlen], (by intro e; cases e), fun hp => ?_⟩
  rw [hlen] at hp
  obtain ⟨b, o, ha, hb, hr⟩ := h3 (by omega)
  cases he
  cases ha
  refine ⟨_, off + i * k, by rw [hA (by omega)], hb, fun j hj => ?_⟩
  rw [List.getElem_drop]
  have := hr (i + j) (by rw [List.length_drop] at hj; omega)
  rw [Nat.add_mul, ← Nat.add_assoc] at this
  exact this

/-- One more host, where it belongs. -/
theorem once_step (hs : List Int) (i : Nat) (hi : i < hs.length) (k k' : Nat) (hk : k ≤ (onceL (hs.take i)).length)
    (hlt : ∀ j (h : j < (onceL (hs.take i)).length), j < k → (onceL (hs.take i))[j] < hs[i])
    (hge : ∀ (h : k < (onceL (hs.take i)).length), hs[i] ≤ (onceL (hs.take i))[k])
    (hk' : k' = if h : k < (onceL (hs.take i)).length then (if (onceL (hs.take i))[k] = hs[i] then k + 1 else k) else k) :
    (onceL (hs.take i)).take k ++ [hs[i]] ++ (onceL (hs.take i)).drop k' = onceL (hs.take (i + 1)) := by
  have hp := onceL_lt (hs.take i)
  have hm := onceL_mem (hs.take i)
  have htk : hs.take (i + 1) = hs.take i ++ [hs[i]] := List.take_succ_eq_append_getElem hi
  generalize onceL (hs.take i) = l at hk hlt hge hk' hp hm ⊢
  generalize hs[i] = z at hlt hge hk' htk ⊢
  have hk1 : k' = k ∨ k' = k + 1 ∧ ∃ h : k < l.length, l[k] = z := by
    rw [hk']
    split
    · rename_i h
      split
      · rename_i h2; exact .inr ⟨rfl, h, h2⟩
      · exact .inl rfl
    · exact .inl rfl
  have hgt : ∀ y ∈ l.drop k', z < y := by
    intro y hy
    obtain ⟨j, hj, rfl⟩ := List.getElem_of_mem hy
    rw [List.length_drop] at hj
    rw [List.getElem_drop]
    rw [List.pairwise_iff_getElem] at hp
    rcases hk1 with h | ⟨h, hkl, he⟩
    · have hkl : k < l.length := by omega
      have h1 := hge hkl
      have hne : l[k] ≠ z := by
        intro e
        rw [dif_pos hkl, if_pos e] at hk'
        omega
      subst h
      by_cases hj0 : j = 0
      · subst hj0
        simp only [Nat.add_zero]
        omega
      · have := hp k' (k' + j) hkl (by omega) (by omega)
        omega
    · subst h
      have := hp k (k + 1 + j) hkl (by omega) (by omega)
      omega
  have hle : ∀ y ∈ l.take k, y < z := by
    intro y hy
    obtain ⟨j, hj, rfl⟩ := List.getElem_of_mem hy
    rw [List.length_take] at hj
    rw [List.getElem_take]
    exact hlt j (by omega) (by omega)
  refine rising_once ?_ ?_
  · rw [List.append_assoc, List.pairwise_append]
    refine ⟨hp.sublist (List.take_sublist _ _), ?_, ?_⟩
    · rw [List.singleton_append, List.pairwise_cons]
      exact ⟨hgt, hp.sublist (List.drop_sublist _ _)⟩
    · intro a ha b hb
      have h1 := hle a ha
      rcases List.mem_append.1 hb with hb | hb
      · rw [List.mem_singleton.1 hb]; exact h1
      · have := hgt b hb; omega
  · intro y
    rw [htk, List.mem_append, List.mem_append, List.mem_append, ← hm y]
    constructor
    · rintro ((h | h) | h)
      · exact .inl (List.mem_of_mem_take h)
      · exact .inr h
      · exact .inl (List.mem_of_mem_drop h)
    · rintro (h | h)
      · rw [← List.take_append_drop k l] at h
        rcases List.mem_append.1 h with h | h
        · exact .inl (.inl h)
        · rcases hk1 with e | ⟨e, hkl, he⟩
          · subst e; exact .inr h
          · rw [List.drop_eq_getElem_cons hkl] at h
            rcases List.mem_cons.1 h with h | h
            · rw [h, he]; exact .inl (.inr (by simp))
            · subst e; exact .inr h
      · exact .inl (.inr h)
--HOSTS
theorem sl_takeL {α : Type} {enc : α → List Value} {k : Nat} {w : World} {ax : Addr} {cx L : Nat} {xs : List α} (h : Sl enc k w (.slice (some ax) L cx) xs) (hL : xs.length = L) (i : Nat) (hi : i ≤ L) : Sl enc k w (.slice (some ax) i cx) (xs.take i) := by
  subst hL; exact sl_take h i hi
theorem sl_dropL {α : Type} {enc : α → List Value} {k : Nat} {w : World} {bk off cx L : Nat} {xs : List α} (h : Sl enc k w (.slice (some ⟨bk, off, none⟩) L cx) xs) (hL : xs.length = L) (i : Nat) (hi : i ≤ L) (A : Addr) (c2 : Nat) (hA : i < L → A = ⟨bk, off + i * k, none⟩) : Sl enc k w (.slice (some A) (L - i) c2) (xs.drop i) := by
  subst hL; exact sl_drop h i hi A c2 hA
theorem once_nil : onceL [] = [] := List.eq_nil_of_length_eq_zero (by have := onceL_len []; simpa using this)
theorem int_at' {w : World} {v : Value} {xs : List Int} {L : Nat} (h : Sl ic 1 w v xs) (hL : xs.length = L) {j : Nat} (hj : j < L) : ∃ b off c, v = .slice (some (⟨b, off, none⟩ : Addr)) L c ∧ b < w.heap.size ∧ ∀ j (hj : j < xs.length), w.cell? ⟨b, off + j, none⟩ = some (.int .i64 xs[j]) := by
  subst hL
  exact int_at h hj
theorem OwnAt_cell {w : World} {B g cap ol : Nat} {l : List Int} (h : Own ic 1 3 w B (.slice (some ⟨g, 0, none⟩) ol cap) l) (hol : l.length = ol) (k : Nat) (hk : k < l.length) : w.cell? ⟨g, k, none⟩ = some (.int .i64 l[k]) := by
  subst hol
  rcases h.at with ⟨h, _⟩ | ⟨g2, cap2, h, _, hat⟩
  · cases h
  · cases h
    exact icells_at hat k hk
set_option maxHeartbeats 16000000 in
set_option maxRecDepth 100000 in
theorem rHosts_any (v : Value) (hs : List Int) (w : World) (h : Sl ic 1 w v hs) (hl : hs.length ≤ 65536) : Calls Try.prog 44 #[v] w (NumI w (onceL hs)) := by
  obtain ⟨a, c, rfl⟩ := h.slice
  have HS := Lib.hid h; have HLs := Lib.hid hl
  have mixed : Try.prog.follows .mixedOrders = true := by kernel_rfl
  obtain ⟨L, hL⟩ : ∃ L, hs.length = L := ⟨_, rfl⟩
  have HL := Lib.hid hL
  rw [hL] at HS hl HLs ⊢
  clear h hL
  go_enter Try.func44, Try.ntmps44
  go_wp2
  go_loopw [3, 4] (fun v3 v4 wr => ∃ i : Nat, i ≤ L ∧ v4 = .int .i64 i ∧ Own ic 1 3 wr w.heap.size v3 (onceL (hs.take i)) ∧ Below w.heap.size w wr) (fun _ i _ => L - (intOf i).toNat)
  case atStart => exact ⟨0, by omega, rfl, by rw [List.take_zero, once_nil]; exact Own.nil _ _ _, Below.refl _ _⟩
  case round =>
    obtain ⟨i, hi, rfl, ho, hb⟩ := hrel
    by_cases hlt : i < L
    · have hlt' : (i : Int) < L := by omega
      have hi0 : (0 : Int) ≤ i := by omega
      have hil : i < hs.length := by rw [HL.out]; exact hlt
      have HStep := Lib.hid (once_step hs i hil)
      have HLl : Hid ((onceL (hs.take i)).length ≤ i) := Lib.hid (by have := onceL_len (hs.take i); rw [List.length_take] at this; omega)
      have hat := HS.out.keep hb
      obtain ⟨b2, off, c2', he, hbl, hcell⟩ := int_at' hat HL.out (by omega)
      have HCz : Hid (∀ u, Below wr.heap.size wr u → u.cell? ⟨b2, off + i, none⟩ = some (.int .i64 hs[i])) := Lib.hid (fun u hu => by
        have := hcell i hil
        rw [← this]
        simp only [World.cell?, hu.block b2 hbl])
      obtain ⟨rfl, rfl⟩ : a = some ⟨b2, off, none⟩ ∧ c = c2' := by cases he; exact ⟨rfl, rfl⟩
      generalize hs[i] = z at HCz HStep
      rcases ho.at with ⟨rfl, h0⟩ | ⟨g, cap, rfl, hB, hat3⟩
      · have HB := Lib.hid hb
        rw [h0] at HStep
        have HOn : Hid ([z] = onceL (hs.take (i + 1))) := Lib.hid (by
          have := HStep.out 0 0 (by simp) (fun j h => by simp at h) (fun h => by simp at h) (by simp)
          simpa using this)
        obtain ⟨W, rfl⟩ : ∃ W, W = wr := ⟨_, rfl⟩
        clear hat hcell he hbl ho hb h0 HStep HLl
        go_upto_region 5 with fail
        go_wp2
        go_loopw [6] (fun v6 wr2 => v6 = .int .i64 0 ∧ wr2 = W) (fun k _ => 0)
        case atStart => exact ⟨rfl, rfl⟩
        case round =>
          obtain ⟨rfl, rfl⟩ := hrel
          have cz := HCz.out _ (Below.refl _ _)
          go_upto_region 7 with fail
          go_quiet (fail)
          have HB3 := Lib.hid ((Below.refl wr.heap.size wr).drewN' nq)
          have cz3 := HCz.out _ HB3.out
          generalize wr.drewN nq = W3 at HB3 cz3 ⊢
          clear cz
          have HBw3 := Lib.hid (HB.out.trans (HB3.out.mono HB.out.size))
          go_upto_region 11 with (first
            | (at_builtin; refine appSl ic_len ic_one (by decide) rfl _ _ 22 rfl W3.heap.size 3 _ (by rfl) 8 Try.underlying22 infoInt _ [] rfl (Own.nil _ _ _) _ [] rfl (Sl.nil (enc := ic) (k := 1) W3) (by unfold maxLen; simp) (by simp) (Nat.le_refl _) ?_; intro v4 w4 ho4 hk4; rw [List.nil_append] at ho4; obtain ⟨x4, y4, rfl⟩ := ho4.slice; have HO4 := Lib.hid ho4; have HBa := Lib.hid (hk4.toBelow.trans ((below_new w4 (.cells #[.int .i64 z] 3)).mono hk4.toBelow.size)); have HOa := Lib.hid (ho4.below (below_new w4 (.cells #[.int .i64 z] 3))); have HNw : Hid (Sl ic 1 (w4.alloc (.cells #[.int .i64 z] 3)) (.slice (some ⟨w4.heap.size, 0, none⟩) 1 1) [z]) := Lib.hid (sl_new ic_len w4 z _ _ rfl); have cz4 := HCz.out w4 (HB3.out.trans (hk4.toBelow.mono HB3.out.size)); clear ho4 hk4 cz3)
            | (at_builtin; go_loud (refine appSl ic_len ic_one (by decide) rfl _ _ 22 rfl W3.heap.size 3 _ (by rfl) 8 Try.underlying22 infoInt _ [] rfl HOa.out _ [z] rfl HNw.out (by unfold maxLen; simp) (by simp) HBa.out.size ?_); intro v5 w5 ho5 hk5; rw [List.nil_append] at ho5; obtain ⟨x5, y5, rfl⟩ := ho5.slice; have HO5 := Lib.hid ho5; have HB5 := Lib.hid (HBa.out.trans hk5.toBelow); clear ho5 hk5 cz4))
          go_quiet (fail)
          have HB6 := Lib.hid (HB5.out.drewN' nq)
          have HO6 := Lib.hid (HO5.out.below ((Below.refl w5.heap.size w5).drewN' nq))
          generalize w5.drewN nq = W6 at HB6 HO6 ⊢
          go_upto_region 13 with fail
          go_wp2_with (at_builtin; go_loud (refine appSl ic_len ic_one (by decide) rfl _ _ 22 rfl W3.heap.size 3 _ (by rfl) 8 Try.underlying22 infoInt _ [z] rfl HO6.out _ [] rfl (Sl.nil (enc := ic) (k := 1) W6) (by unfold maxLen; simp) (by simp) HB6.out.size ?_); intro v8 w8 ho8 hk8; rw [List.append_nil, HOn.out] at ho8; obtain ⟨x8, y8, rfl⟩ := ho8.slice; have HO8 := Lib.hid (ho8.mono HBw3.out.size); have HB8 := Lib.hid (HBw3.out.trans ((HB6.out.trans hk8.toBelow).mono HBw3.out.size)); clear ho8 hk8)
          go_roundw
          case rel => exact ⟨i + 1, by omega, by go_num, HO8.out, HB8.out⟩
          case measure => simp [intOf]; omega
      · have HO := Lib.hid ho; have HB := Lib.hid hb
        have hat3c := hat3.le
        have hat3m := hat3.max
        generalize onceL (hs.take i) = l at HO HStep HLl hat3c ⊢
        obtain ⟨ol, hol⟩ : ∃ ol, l.length = ol := ⟨_, rfl⟩
        have HOl := Lib.hid hol
        rw [hol] at HO HLl ⊢
        have hcp1 : ol ≤ cap := by have := hat3c; omega
        have hcp2 : cap ≤ 9223372036854775807 := by have := hat3m; unfold maxLen at this; omega
        clear hat3c hat3m
        have hol9 : ol ≤ 65536 := by have := HLl.out; omega
        clear hat hcell he hbl ho hb hB hat3 hol
        obtain ⟨W, rfl⟩ : ∃ W, W = wr := ⟨_, rfl⟩
        go_upto_region 5 with fail
        go_wp2
        go_loopw [6] (fun v6 wr2 => ∃ k : Nat, k ≤ ol ∧ v6 = .int .i64 k ∧ (∀ j (h : j < l.length), j < k → l[j] < z) ∧ Below W.heap.size W wr2) (fun k _ => ol - (intOf k).toNat)
        case atStart => exact ⟨0, by omega, rfl, fun j _ h => by omega, Below.refl _ _⟩
        case round =>
          obtain ⟨k, hk, rfl, hlow, hbi⟩ := hrel
          have HBi := Lib.hid hbi; have HLow := Lib.hid hlow; have HKl := Lib.hid hk
          have cz := HCz.out _ hbi
          clear hbi hlow
          by_cases hko : k < ol
          · have hko' : (k : Int) < ol := by omega
            have hk0 : (0 : Int) ≤ k := by omega
            have hkl : k < l.length := by rw [HOl.out]; exact hko
            have HCk : Hid (∀ u, Below W.heap.size W u → u.cell? ⟨g, k, none⟩ = some (.int .i64 l[k])) := Lib.hid (fun u hu => by
              have := HO.out.below hu
              have h9 := OwnAt_cell this HOl.out k hkl
              exact h9)
            have HNx : Hid (∀ (y : Int), (∃ h : k < l.length, l[k] = y) → y < z → ∀ j (h : j < l.length), j < k + 1 → l[j] < z) := Lib.hid (fun y hy hyz j h hj => by
              rcases Nat.lt_or_ge j k with h1 | h1
              · exact HLow.out j h h1
              · obtain rfl : j = k := by omega
                obtain ⟨_, hy⟩ := hy
                rw [hy]; exact hyz)
            have ck := HCk.out _ HBi.out
            obtain ⟨y, hy⟩ : ∃ y, l[k] = y := ⟨_, rfl⟩
            rw [hy] at HCk ck
            have HY := Lib.hid (show ∃ h : k < l.length, l[k] = y from ⟨hkl, hy⟩)
            clear hkl hy
            by_cases hyz : y < z
            · have HN := Lib.hid (HNx.out y HY.out hyz)
              clear HNx
              go_upto_region 7 with fail
              go_quiet (fail)
              have HB3 := Lib.hid (HBi.out.drewN' nq)
              clear ck cz
              go_wp2
              go_roundw
              case rel => exact ⟨k + 1, by omega, by go_num, HN.out, HB3.out⟩
              case measure => simp [intOf]; omega
            · clear HNx
              by_cases hyq : y = z
              · have HCmp := Lib.hid hyq
                clear hyq
                go_upto_region 7 with fail
                go_quiet (fail)
                have HB3 := Lib.hid (HBi.out.drewN' nq)
                have cz3 := HCz.out _ HB3.out
                have ck3 := HCk.out _ HB3.out

                generalize wr.drewN nq = W3 at HB3 cz3 ck3 ⊢
                clear cz ck
                have HO3 := Lib.hid (HO.out.below HB3.out)
                have HT3 := Lib.hid (sl_takeL (HO3.out.read ic_len) HOl.out k HKl.out)
                obtain ⟨tk, htk⟩ : ∃ tk, l.take k = tk := ⟨_, rfl⟩
                have hTl : tk.length = k := by rw [← htk, List.length_take, HOl.out]; have := HKl.out; omega
                have hTl2 : (tk ++ [z]).length = k + 1 := by rw [List.length_append, hTl]; rfl
                have HTk := Lib.hid htk; have HTl := Lib.hid hTl; have HTl2 := Lib.hid hTl2
                rw [htk] at HT3
                clear htk hTl hTl2
                have HBw3 := Lib.hid (HB.out.trans (HB3.out.mono HB.out.size))
                go_upto_region 11 with (first
                  | (at_builtin; refine appSl ic_len ic_one (by decide) rfl _ _ 22 rfl W3.heap.size 3 _ (by rfl) 8 Try.underlying22 infoInt _ [] rfl (Own.nil _ _ _) _ tk rfl HT3.out (by have := HLs.out; have := HKl.out; have := HTl.out; have := HOl.out; unfold maxLen; simp; omega) (by have := HLs.out; have := HKl.out; have := HTl.out; have := HOl.out; simp; omega) (Nat.le_refl _) ?_; intro v4 w4 ho4 hk4; rw [List.nil_append] at ho4; obtain ⟨x4, y4, rfl⟩ := ho4.slice; rw [HTl.out] at ho4 ⊢; have HO4 := Lib.hid ho4; have HB4 := Lib.hid hk4.toBelow; have HBa := Lib.hid (hk4.toBelow.trans ((below_new w4 (.cells #[.int .i64 z] 3)).mono hk4.toBelow.size)); have HOa := Lib.hid (ho4.below (below_new w4 (.cells #[.int .i64 z] 3))); have HNw : Hid (Sl ic 1 (w4.alloc (.cells #[.int .i64 z] 3)) (.slice (some ⟨w4.heap.size, 0, none⟩) 1 1) [z]) := Lib.hid (sl_new ic_len w4 z _ _ rfl); have cz4 := HCz.out w4 (HB3.out.trans (hk4.toBelow.mono HB3.out.size)); clear ho4 hk4 cz3)
                  | (at_builtin; go_loud (refine appSl ic_len ic_one (by decide) rfl _ _ 22 rfl W3.heap.size 3 _ (by rfl) 8 Try.underlying22 infoInt _ tk rfl HOa.out _ [z] rfl HNw.out (by have := HLs.out; have := HKl.out; have := HTl.out; have := HOl.out; unfold maxLen; simp; omega) (by have := HLs.out; have := HKl.out; have := HTl.out; have := HOl.out; simp; omega) HBa.out.size ?_); intro v5 w5 ho5 hk5; obtain ⟨x5, y5, rfl⟩ := ho5.slice; rw [HTl2.out] at ho5 ⊢; have HO5 := Lib.hid ho5; have HB5 := Lib.hid (HBa.out.trans hk5.toBelow); clear ho5 hk5 cz4))
                have cz5 := HCz.out w5 (HB3.out.trans (HB5.out.mono HB3.out.size))
                have ck5 := HCk.out w5 (HB3.out.trans (HB5.out.mono HB3.out.size))
                have heq : True → (y == z) = true := fun _ => by rw [HCmp.out]; simp
                go_quiet (fail)
                have HB6 := Lib.hid (HB5.out.drewN' nq)
                have HO6 := Lib.hid (HO5.out.below ((Below.refl w5.heap.size w5).drewN' nq))
                have HS6 := Lib.hid ((HO3.out.below (HB6.out)).read ic_len)
                generalize w5.drewN nq = W6 at HB6 HO6 HS6 ⊢
                clear cz5 ck5 heq
                obtain ⟨A, hA⟩ : ∃ A : Addr, (if cap = k + 1 then some (⟨g, 0, none⟩ : Addr) else some ⟨g, k + 1, none⟩) = some A := by split <;> exact ⟨_, rfl⟩
                have hA2 : k + 1 < ol → A = ⟨g, 0 + (k + 1) * 1, none⟩ := by
                  intro hlo
                  rw [if_neg (by omega)] at hA
                  cases hA
                  simp
                have HS8 := Lib.hid (sl_dropL HS6.out HOl.out (k + 1) (by omega) A (cap - (k + 1)) hA2)
                have HRow : Hid ((tk ++ [z]) ++ l.drop (k + 1) = onceL (hs.take (i + 1))) := Lib.hid (by
                  rw [← HTk.out]
                  refine HStep.out k (k + 1) (by rw [HOl.out]; exact HKl.out) HLow.out ?_ ?_
                  · intro hkl; obtain ⟨_, e⟩ := HY.out; rw [e, HCmp.out]; exact Int.le_refl _
                  · obtain ⟨hkl, e⟩ := HY.out; rw [dif_pos hkl, if_pos (e.trans HCmp.out)])
                have HDl : Hid ((l.drop (k + 1)).length = ol - (k + 1)) := Lib.hid (by rw [List.length_drop, HOl.out])
                clear hA2
                go_upto_region 13 with fail
                go_wp2_with (at_builtin; go_loud (refine appSl ic_len ic_one (by decide) rfl _ _ 22 rfl W3.heap.size 3 _ (by rfl) 8 Try.underlying22 infoInt _ (tk ++ [z]) rfl HO6.out _ (l.drop (k + 1)) rfl HS8.out (by have := HLs.out; have := HKl.out; have := HTl.out; have := HOl.out; unfold maxLen; simp; omega) (by have := HLs.out; have := HKl.out; have := HTl.out; have := HOl.out; simp; omega) HB6.out.size ?_); intro v8 w8 ho8 hk8; rw [HRow.out] at ho8; obtain ⟨x8, y8, rfl⟩ := ho8.slice; have HO8 := Lib.hid (ho8.mono HBw3.out.size); have HB8 := Lib.hid (HBw3.out.trans ((HB6.out.trans hk8.toBelow).mono HBw3.out.size)); clear ho8 hk8)
                clear hA
                go_roundw
                case rel => exact ⟨i + 1, by omega, by go_num, HO8.out, HB8.out⟩
                case measure => simp [intOf]; omega
              · have HCmp := Lib.hid hyq
                clear hyq
                go_upto_region 7 with fail
                go_quiet (fail)
                have HB3 := Lib.hid (HBi.out.drewN' nq)
                have cz3 := HCz.out _ HB3.out
                have ck3 := HCk.out _ HB3.out

                generalize wr.drewN nq = W3 at HB3 cz3 ck3 ⊢
                clear cz ck
                have HO3 := Lib.hid (HO.out.below HB3.out)
                have HT3 := Lib.hid (sl_takeL (HO3.out.read ic_len) HOl.out k HKl.out)
                obtain ⟨tk, htk⟩ : ∃ tk, l.take k = tk := ⟨_, rfl⟩
                have hTl : tk.length = k := by rw [← htk, List.length_take, HOl.out]; have := HKl.out; omega
                have hTl2 : (tk ++ [z]).length = k + 1 := by rw [List.length_append, hTl]; rfl
                have HTk := Lib.hid htk; have HTl := Lib.hid hTl; have HTl2 := Lib.hid hTl2
                rw [htk] at HT3
                clear htk hTl hTl2
                have HBw3 := Lib.hid (HB.out.trans (HB3.out.mono HB.out.size))
                go_upto_region 11 with (first
                  | (at_builtin; refine appSl ic_len ic_one (by decide) rfl _ _ 22 rfl W3.heap.size 3 _ (by rfl) 8 Try.underlying22 infoInt _ [] rfl (Own.nil _ _ _) _ tk rfl HT3.out (by have := HLs.out; have := HKl.out; have := HTl.out; have := HOl.out; unfold maxLen; simp; omega) (by have := HLs.out; have := HKl.out; have := HTl.out; have := HOl.out; simp; omega) (Nat.le_refl _) ?_; intro v4 w4 ho4 hk4; rw [List.nil_append] at ho4; obtain ⟨x4, y4, rfl⟩ := ho4.slice; rw [HTl.out] at ho4 ⊢; have HO4 := Lib.hid ho4; have HB4 := Lib.hid hk4.toBelow; have HBa := Lib.hid (hk4.toBelow.trans ((below_new w4 (.cells #[.int .i64 z] 3)).mono hk4.toBelow.size)); have HOa := Lib.hid (ho4.below (below_new w4 (.cells #[.int .i64 z] 3))); have HNw : Hid (Sl ic 1 (w4.alloc (.cells #[.int .i64 z] 3)) (.slice (some ⟨w4.heap.size, 0, none⟩) 1 1) [z]) := Lib.hid (sl_new ic_len w4 z _ _ rfl); have cz4 := HCz.out w4 (HB3.out.trans (hk4.toBelow.mono HB3.out.size)); clear ho4 hk4 cz3)
                  | (at_builtin; go_loud (refine appSl ic_len ic_one (by decide) rfl _ _ 22 rfl W3.heap.size 3 _ (by rfl) 8 Try.underlying22 infoInt _ tk rfl HOa.out _ [z] rfl HNw.out (by have := HLs.out; have := HKl.out; have := HTl.out; have := HOl.out; unfold maxLen; simp; omega) (by have := HLs.out; have := HKl.out; have := HTl.out; have := HOl.out; simp; omega) HBa.out.size ?_); intro v5 w5 ho5 hk5; obtain ⟨x5, y5, rfl⟩ := ho5.slice; rw [HTl2.out] at ho5 ⊢; have HO5 := Lib.hid ho5; have HB5 := Lib.hid (HBa.out.trans hk5.toBelow); clear ho5 hk5 cz4))
                have cz5 := HCz.out w5 (HB3.out.trans (HB5.out.mono HB3.out.size))
                have ck5 := HCk.out w5 (HB3.out.trans (HB5.out.mono HB3.out.size))
                have heq : True → (y == z) = false := fun _ => by have := HCmp.out; simp; omega
                go_quiet (fail)
                have HB6 := Lib.hid (HB5.out.drewN' nq)
                have HO6 := Lib.hid (HO5.out.below ((Below.refl w5.heap.size w5).drewN' nq))
                have HS6 := Lib.hid ((HO3.out.below (HB6.out)).read ic_len)
                generalize w5.drewN nq = W6 at HB6 HO6 HS6 ⊢
                clear cz5 ck5 heq
                obtain ⟨A, hA⟩ : ∃ A : Addr, (⟨g, k, none⟩ : Addr) = A := ⟨_, rfl⟩
                have hA2 : k < ol → A = ⟨g, 0 + (k) * 1, none⟩ := by
                  intro hlo
                  rw [← hA]
                  simp
                have HS8 := Lib.hid (sl_dropL HS6.out HOl.out (k) (by omega) A (cap - (k)) hA2)
                have HRow : Hid ((tk ++ [z]) ++ l.drop (k) = onceL (hs.take (i + 1))) := Lib.hid (by
                  rw [← HTk.out]
                  refine HStep.out k (k) (by rw [HOl.out]; exact HKl.out) HLow.out ?_ ?_
                  · intro hkl; obtain ⟨_, e⟩ := HY.out; rw [e]; omega
                  · obtain ⟨hkl, e⟩ := HY.out; rw [dif_pos hkl, if_neg (fun h => HCmp.out (e.symm.trans h))])
                have HDl : Hid ((l.drop (k)).length = ol - (k)) := Lib.hid (by rw [List.length_drop, HOl.out])
                clear hA2
                subst hA
                go_upto_region 13 with fail
                go_wp2_with (at_builtin; go_loud (refine appSl ic_len ic_one (by decide) rfl _ _ 22 rfl W3.heap.size 3 _ (by rfl) 8 Try.underlying22 infoInt _ (tk ++ [z]) rfl HO6.out _ (l.drop (k)) rfl HS8.out (by have := HLs.out; have := HKl.out; have := HTl.out; have := HOl.out; unfold maxLen; simp; omega) (by have := HLs.out; have := HKl.out; have := HTl.out; have := HOl.out; simp; omega) HB6.out.size ?_); intro v8 w8 ho8 hk8; rw [HRow.out] at ho8; obtain ⟨x8, y8, rfl⟩ := ho8.slice; have HO8 := Lib.hid (ho8.mono HBw3.out.size); have HB8 := Lib.hid (HBw3.out.trans ((HB6.out.trans hk8.toBelow).mono HBw3.out.size)); clear ho8 hk8)
                go_roundw
                case rel => exact ⟨i + 1, by omega, by go_num, HO8.out, HB8.out⟩
                case measure => simp [intOf]; omega
          · obtain rfl : k = ol := by omega
            go_upto_region 7 with fail
            go_quiet (fail)
            have HB3 := Lib.hid (HBi.out.drewN' nq)
            have cz3 := HCz.out _ HB3.out

            generalize wr.drewN nq = W3 at HB3 cz3 ⊢
            clear cz 
            have HO3 := Lib.hid (HO.out.below HB3.out)
            have HT3 := Lib.hid (sl_takeL (HO3.out.read ic_len) HOl.out k HKl.out)
            obtain ⟨tk, htk⟩ : ∃ tk, l.take k = tk := ⟨_, rfl⟩
            have hTl : tk.length = k := by rw [← htk, List.length_take, HOl.out]; have := HKl.out; omega
            have hTl2 : (tk ++ [z]).length = k + 1 := by rw [List.length_append, hTl]; rfl
            have HTk := Lib.hid htk; have HTl := Lib.hid hTl; have HTl2 := Lib.hid hTl2
            rw [htk] at HT3
            clear htk hTl hTl2
            have HBw3 := Lib.hid (HB.out.trans (HB3.out.mono HB.out.size))
            go_upto_region 11 with (first
              | (at_builtin; refine appSl ic_len ic_one (by decide) rfl _ _ 22 rfl W3.heap.size 3 _ (by rfl) 8 Try.underlying22 infoInt _ [] rfl (Own.nil _ _ _) _ tk rfl HT3.out (by have := HLs.out; have := HKl.out; have := HTl.out; have := HOl.out; unfold maxLen; simp; omega) (by have := HLs.out; have := HKl.out; have := HTl.out; have := HOl.out; simp; omega) (Nat.le_refl _) ?_; intro v4 w4 ho4 hk4; rw [List.nil_append] at ho4; obtain ⟨x4, y4, rfl⟩ := ho4.slice; rw [HTl.out] at ho4 ⊢; have HO4 := Lib.hid ho4; have HB4 := Lib.hid hk4.toBelow; have HBa := Lib.hid (hk4.toBelow.trans ((below_new w4 (.cells #[.int .i64 z] 3)).mono hk4.toBelow.size)); have HOa := Lib.hid (ho4.below (below_new w4 (.cells #[.int .i64 z] 3))); have HNw : Hid (Sl ic 1 (w4.alloc (.cells #[.int .i64 z] 3)) (.slice (some ⟨w4.heap.size, 0, none⟩) 1 1) [z]) := Lib.hid (sl_new ic_len w4 z _ _ rfl); have cz4 := HCz.out w4 (HB3.out.trans (hk4.toBelow.mono HB3.out.size)); clear ho4 hk4 cz3)
              | (at_builtin; go_loud (refine appSl ic_len ic_one (by decide) rfl _ _ 22 rfl W3.heap.size 3 _ (by rfl) 8 Try.underlying22 infoInt _ tk rfl HOa.out _ [z] rfl HNw.out (by have := HLs.out; have := HKl.out; have := HTl.out; have := HOl.out; unfold maxLen; simp; omega) (by have := HLs.out; have := HKl.out; have := HTl.out; have := HOl.out; simp; omega) HBa.out.size ?_); intro v5 w5 ho5 hk5; obtain ⟨x5, y5, rfl⟩ := ho5.slice; rw [HTl2.out] at ho5 ⊢; have HO5 := Lib.hid ho5; have HB5 := Lib.hid (HBa.out.trans hk5.toBelow); clear ho5 hk5 cz4))
            have cz5 := HCz.out w5 (HB3.out.trans (HB5.out.mono HB3.out.size))
            go_quiet (fail)
            have HB6 := Lib.hid (HB5.out.drewN' nq)
            have HO6 := Lib.hid (HO5.out.below ((Below.refl w5.heap.size w5).drewN' nq))
            have HS6 := Lib.hid ((HO3.out.below (HB6.out)).read ic_len)
            generalize w5.drewN nq = W6 at HB6 HO6 HS6 ⊢
            clear cz5 
            obtain ⟨A, hA⟩ : ∃ A : Addr, (if cap = k then some (⟨g, 0, none⟩ : Addr) else some ⟨g, k, none⟩) = some A := by split <;> exact ⟨_, rfl⟩
            have hA2 : k < k → A = ⟨g, 0 + k * 1, none⟩ := fun h => absurd h (Nat.lt_irrefl _)
            have HS8 := Lib.hid (sl_dropL HS6.out HOl.out (k) (by omega) A (cap - (k)) hA2)
            rw [Nat.sub_self] at HS8
            have HRow : Hid ((tk ++ [z]) ++ l.drop (k) = onceL (hs.take (i + 1))) := Lib.hid (by
              rw [← HTk.out]
              refine HStep.out k (k) (by rw [HOl.out]; exact HKl.out) HLow.out ?_ ?_
              · intro hkl; exfalso; have := HOl.out; omega
              · rw [dif_neg (fun hkl => by have := HOl.out; omega)])
            have HDl : Hid ((l.drop (k)).length = k - (k)) := Lib.hid (by rw [List.length_drop, HOl.out])
            clear hA2
            go_upto_region 13 with fail
            go_wp2_with (at_builtin; go_loud (refine appSl ic_len ic_one (by decide) rfl _ _ 22 rfl W3.heap.size 3 _ (by rfl) 8 Try.underlying22 infoInt _ (tk ++ [z]) rfl HO6.out _ (l.drop (k)) rfl HS8.out (by have := HLs.out; have := HKl.out; have := HTl.out; have := HOl.out; unfold maxLen; simp; omega) (by have := HLs.out; have := HKl.out; have := HTl.out; have := HOl.out; simp; omega) HB6.out.size ?_); intro v8 w8 ho8 hk8; rw [HRow.out] at ho8; obtain ⟨x8, y8, rfl⟩ := ho8.slice; have HO8 := Lib.hid (ho8.mono HBw3.out.size); have HB8 := Lib.hid (HBw3.out.trans ((HB6.out.trans hk8.toBelow).mono HBw3.out.size)); clear ho8 hk8)
            clear hA
            go_roundw
            case rel => exact ⟨i + 1, by omega, by go_num, HO8.out, HB8.out⟩
            case measure => simp [intOf]; omega
    · obtain rfl : i = L := by omega
      have e : hs.take i = hs := List.take_of_length_le (by rw [HL.out]; omega)
      rw [e] at ho
      obtain ⟨a3, c3, rfl⟩ := ho.slice
      have HO := Lib.hid ho; have HB := Lib.hid hb
      clear ho hb
      go_wp2
      go_ret
      exact ⟨_, rfl, HO.out, HB.out⟩
end Go.Proofs.Ytngmcolbpdinmaa.crush
