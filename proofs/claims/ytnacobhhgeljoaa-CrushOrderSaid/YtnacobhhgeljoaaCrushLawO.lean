/- CrushOrder: the statement is proved as it is given, for every input. -/
import Derived.Test.YtnacobhhgeljoaaRows
import Derived.Test.YtnacobhhgeljoaaCrushLawM
import Derived.Maps.AppendAt
namespace Go.Proofs.Ytnacobhhgeljoaa.crush
open Go.ChangeShapes Go.WideShapes Go.ChangeAt Go.RowKit
open Go.Proofs.Ytnacobhhgeljoaa.kit Go.Proofs.Ytnacobhhgeljoaa.own Go.Proofs.Ytnacobhhgeljoaa.lift
set_option linter.unusedVariables false

theorem Cost_bel (x : Nat) (id r : Int) (hx : x < 4294967296) (w : World) :
    Calls Try.prog 12 #[.int .u32 x, .int .i64 id, .int .i64 r] w fun e w' => e = .returned (.int .i64 (costN x id r)) ∧ Below w.heap.size w w' :=
  (Cost_any x id r hx w).mono (fun e w' ⟨h1, h2⟩ => ⟨h1, by rw [h2]; exact below_new _ _⟩)
theorem min_wt (z : Int) : min (max z 0) 1048576 = (wtN z : Int) := by unfold wtN; omega

theorem step_appSl {α : Type} {enc : α → List Value} {k : Nat} (hk : ∀ x, (enc x).length = k) (h1 : ∀ x, ∀ v ∈ enc x, v.oneCell' = true) (hk0 : 0 < k) {P : Program} {ops : Array Oper} {o : Oper} {a : Act} {w : World} {K : Act → World → Prop} {Q : Exit → Act → World → Prop} {E : Prop} (hgd : o.guard = none) (s x : Operand) (t : TypeId)
    (ho : o.op = .call { callee := .builtin .append, args := #[s, x], argTypes := #[t, t] })
    (B e : Nat) (z : Value) (hz : z.cells.size = k) (bytes : Nat) (ht : P.underlying t = some (.slice e)) (hi : (P.info? e).map (fun i => (i.zero, i.size, i.bytes)) = some (some z, k, bytes))
    (v : Value) (xs : List α) (hs : a.eval s = v) (hown : Own enc k e w B v xs) (ax : Addr) (m cx : Nat) (ys : List α) (hx : a.eval x = .slice (some ax) m cx) (hr : Sl enc k w (.slice (some ax) m cx) ys)
    (h63 : xs.length + ys.length ≤ maxLen) (hb : (xs.length + ys.length) * bytes ≤ 140737488355328) (hB : B ≤ w.heap.size)
    (h : ∀ v' w', Own enc k e w' B v' (xs ++ ys) → Kept B e w w' → K (a.put o.dst v') w') :
    if Region.wanted o (yielded ops a.tmps) = true then Oper.wp P o a w K Q else E := by
  obtain ⟨hl, ax', cx', he, hnil, hc⟩ := hr
  obtain ⟨rfl, rfl, rfl⟩ : ax' = some ax ∧ m = ys.length ∧ cx' = cx := by cases he; exact ⟨rfl, rfl, rfl⟩
  clear he
  obtain ⟨i0, hi, hz0, hz1, hz2⟩ := info_parts hi
  obtain ⟨b, off, spot⟩ := ax
  have news : ∀ (j : Nat) u, (ys.flatMap enc)[j]? = some u → w.cell? ((⟨b, off, spot⟩ : Addr).add j) = some u := by
    intro j u hu
    have hj : j < ys.length * k := by have := (List.getElem?_eq_some_iff.1 hu).1; rwa [flat_len hk] at this
    have hq : j / k < ys.length := (Nat.div_lt_iff_lt_mul hk0).2 hj
    obtain ⟨b', off', e', hlt, hcell⟩ := hc (Nat.lt_of_le_of_lt (Nat.zero_le _) hq)
    cases e'
    have hd : j = (j / k) * k + j % k := (Nat.div_add_mod' j k).symm
    rw [hd, flat_at hk ys (j / k) (j % k) hq (Nat.mod_lt _ hk0)] at hu
    rw [add_plain', hd, ← Nat.add_assoc]
    exact hcell (j / k) hq (j % k) u hu
  have hone : ∀ u ∈ ys.flatMap enc, u.oneCell' = true := by
    intro u hu
    obtain ⟨y, _, hy⟩ := List.mem_flatMap.1 hu
    exact h1 y u hy
  rw [if_pos (by simp [Region.wanted, hgd])]
  obtain ⟨v', w', hr, h2, h3, h4, h5⟩ := run_append_own_at (P := P) w B t o.type e i0 z k bytes ht hi hz0 hz1 hz2 hz hk0 v xs.length (xs.flatMap enc) hown ⟨b, off, spot⟩ ys.length cx' (ys.flatMap enc) (flat_len hk ys) news hone h63 hb hB
  unfold Oper.wp execOp
  simp only [ho, resolve, invoke, builtin, Sem.run_bind, Sem.run_pure, Result.andThen_ok, List.map_toArray, List.map_cons, List.map_nil, hs, hx, hr]
  refine h v' w' ?_ (Kept.grown hB hown h3)
  unfold Own
  rw [List.length_append, List.flatMap_append]
  exact h2
theorem sl_take {α : Type} {enc : α → List Value} {k : Nat} {w : World} {ax : Addr} {cx : Nat} {xs : List α} (h : Sl enc k w (.slice (some ax) xs.length cx) xs) (i : Nat) (hi : i ≤ xs.length) : Sl enc k w (.slice (some ax) i cx) (xs.take i) := by
  obtain ⟨h1, a, c, he, h2, h3⟩ := h
  have hlen : (xs.take i).length = i := by rw [List.length_take]; omega
  refine ⟨by rw [hlen]; exact Nat.le_trans hi h1, some ax, cx, by rw [hlen], (by intro e; cases e), fun hp => ?_⟩
  rw [hlen] at hp
  obtain ⟨b, off, ha, hb, hr⟩ := h3 (by omega)
  cases he
  refine ⟨b, off, ha, hb, fun j hj => ?_⟩
  rw [List.getElem_take]
  exact hr j (by omega)
theorem sl_drop {α : Type} {enc : α → List Value} {k : Nat} {w : World} {bk off cx : Nat} {xs : List α} (h : Sl enc k w (.slice (some ⟨bk, off, none⟩) xs.length cx) xs) (i : Nat) (hi : i ≤ xs.length) (A : Addr) (c2 : Nat) (hA : i < xs.length → A = ⟨bk, off + i * k, none⟩) : Sl enc k w (.slice (some A) (xs.length - i) c2) (xs.drop i) := by
  obtain ⟨h1, a, c, he, h2, h3⟩ := h
  have hlen : (xs.drop i).length = xs.length - i := List.length_drop ..
  refine ⟨by rw [hlen]; omega, some A, c2, by rw [hlen], (by intro e; cases e), fun hp => ?_⟩
  rw [hlen] at hp
  obtain ⟨b, o, ha, hb, hr⟩ := h3 (by omega)
  cases he
  cases ha
  refine ⟨_, off + i * k, by rw [hA (by omega)], hb, fun j hj => ?_⟩
  rw [List.getElem_drop]
  have := hr (i + j) (by rw [List.length_drop] at hj; omega)
  rw [Nat.add_mul, ← Nat.add_assoc] at this
  exact this

/-- Where place i of the turned list stood. -/
def turnF (n k i : Nat) : Nat := if i < n - k then i + k else i + k - n
theorem turn_at {α : Type} (xs : List α) (k i : Nat) (hk : k ≤ xs.length) (hi : i < xs.length) : (xs.drop k ++ xs.take k)[i]? = xs[turnF xs.length k i]? := by
  unfold turnF
  by_cases h : i < xs.length - k
  · rw [if_pos h, List.getElem?_append_left (by rw [List.length_drop]; exact h), List.getElem?_drop, Nat.add_comm]
  · rw [if_neg h, List.getElem?_append_right (by rw [List.length_drop]; omega), List.length_drop, List.getElem?_take, if_pos (by omega)]
    congr 1
    omega
theorem turn_math (x : Nat) (r : Int) (xs : List It) (k : Nat) (hk : k < xs.length) (hA : Apart (keys x r xs)) :
    (pick (keys x r xs) = none ∧ pick (keys x r (xs.drop k ++ xs.take k)) = none) ∨
    ∃ a b y, pick (keys x r xs) = some a ∧ pick (keys x r (xs.drop k ++ xs.take k)) = some b ∧ a < xs.length ∧ b < xs.length ∧ xs[a]? = some y ∧ (xs.drop k ++ xs.take k)[b]? = some y := by
  have hl : (xs.drop k ++ xs.take k).length = xs.length := by rw [List.length_append, List.length_drop, List.length_take]; omega
  have hkey : ∀ i, i < xs.length → (keys x r (xs.drop k ++ xs.take k))[i]? = (keys x r xs)[turnF xs.length k i]? := by
    intro i hi
    unfold keys
    rw [List.getElem?_map, List.getElem?_map, turn_at xs k i (by omega) hi]
  have hc : ∀ i, i < xs.length → cO (keys x r (xs.drop k ++ xs.take k)) i = cO (keys x r xs) (turnF xs.length k i) := fun i hi => by unfold cO List.getD; rw [hkey i hi]
  have hw : ∀ i, i < xs.length → wO (keys x r (xs.drop k ++ xs.take k)) i = wO (keys x r xs) (turnF xs.length k i) := fun i hi => by unfold wO List.getD; rw [hkey i hi]
  have hf : ∀ i, i < xs.length → turnF xs.length k i < xs.length := fun i hi => by unfold turnF; split <;> omega
  have hs : ∀ j, j < xs.length → ∃ i, i < xs.length ∧ turnF xs.length k i = j := by
    intro j hj
    by_cases h : k ≤ j
    · refine ⟨j - k, by omega, ?_⟩
      unfold turnF
      rw [if_pos (by omega)]
      omega
    · refine ⟨j + xs.length - k, by omega, ?_⟩
      unfold turnF
      rw [if_neg (by omega)]
      omega
  cases hp : pick (keys x r (xs.drop k ++ xs.take k)) with
  | none =>
    refine .inl ⟨pick_none.2 fun j hj => ?_, rfl⟩
    rw [keys_len] at hj
    obtain ⟨i, hi, rfl⟩ := hs j hj
    rw [← hw i hi]
    exact pick_none.1 hp i (by rw [keys_len, hl]; exact hi)
  | some b =>
    have hb := pick_is.1 hp
    have hbl := hb.1
    rw [keys_len, hl] at hbl
    have hm := moved_is (ks := keys x r xs) (f := turnF xs.length k) hA (by rw [keys_len, keys_len, hl]) (by rw [keys_len]; exact hf) (by rw [keys_len]; exact hs) (by rw [keys_len]; exact hc) (by rw [keys_len]; exact hw) hb
    refine .inr ⟨turnF xs.length k b, b, xs[turnF xs.length k b]'(hf b hbl), pick_is.2 hm, rfl, hf b hbl, hbl, by simp [hf b hbl], ?_⟩
    rw [turn_at xs k b (by omega) hbl]
    simp [hf b hbl]

/-- The rows so far hold no two alike. -/
def ApartTo (ks : List Ky) (n m : Nat) : Prop := (∀ i j, i < n → j < i → cO ks i * wO ks j ≠ cO ks j * wO ks i) ∧ ∀ j, j < m → cO ks n * wO ks j ≠ cO ks j * wO ks n

set_option maxHeartbeats 32000000 in
set_option maxRecDepth 100000 in
theorem walkOrder (v : Value) (xs : List It) (turn : Int) (x : Nat) (r : Int) (hx : x < 4294967296) (w : World) (h : Sl wc 2 w v xs) (hcf : CapFit v xs.length) :
    Calls Try.prog 7 #[v, .int .i64 turn, .int .u32 x, .int .i64 r] w fun e w' => e = .returned (.bool true) ∧ Below w.heap.size w w' := by
  obtain ⟨a, c, rfl, hc1, hc2⟩ := hcf
  have HS := Lib.hid h
  obtain ⟨L, hL⟩ : ∃ L, xs.length = L := ⟨_, rfl⟩
  have HL := Lib.hid hL
  rw [hL] at HS hc1 ⊢
  have HXl := Lib.hid hx; have HCp := Lib.hid (And.intro hc1 hc2)
  clear h hL hx hc1 hc2
  rcases Nat.eq_zero_or_pos L with h0 | h0
  · subst h0
    go_enter Try.func7, Try.ntmps7
    go_wp2_with (go_at_call 9; refine (awake_any _).mono ?_; rintro e w1 ⟨rfl, hb⟩; have HB := Lib.hid hb; clear hb)
    go_ret
    exact ⟨rfl, HB.out⟩
  · have hz : True → ((L : Int) == 0) = false := fun _ => by rw [beq_eq_false_iff_ne]; omega
    by_cases h40 : L ≤ 40
    · have hf : True → decide ((L : Int) ≤ 40) = true := fun _ => by rw [decide_eq_true_iff]; omega
      obtain ⟨ks, hks⟩ : ∃ ks, keys x r xs = ks := ⟨_, rfl⟩
      have HKs := Lib.hid hks
      have mixed : Try.prog.follows .mixedOrders = true := by kernel_rfl
      clear hks
      go_enter Try.func7, Try.ntmps7
      go_upto_region 3 with (go_at_call 8; refine (few_any _ _ _ _).mono ?_; rintro e w1 ⟨rfl, rfl⟩)
      clear hf hz
      go_wp2
      go_loopw [28] (fun vi wr => ∃ i : Nat, i ≤ L ∧ vi = .int .i64 i ∧ ApartTo ks i 0 ∧ Below w.heap.size w wr) (fun i _ => L - (intOf i).toNat)
      case atStart => exact ⟨0, by omega, rfl, ⟨fun i j h => by omega, fun j h => by omega⟩, Below.refl _ _⟩
      case round =>
        obtain ⟨i, hi, rfl, hap, hbw⟩ := hrel
        have HAp := Lib.hid hap; have HB := Lib.hid hbw
        clear hap hbw
        by_cases hlt : i < L
        · have hlt' : (i : Int) < L := by omega
          go_wp2
          go_loopw [32] (fun vj wr2 => ∃ j : Nat, j ≤ i ∧ vj = .int .i64 j ∧ ApartTo ks i j ∧ Below w.heap.size w wr2) (fun j _ => i - (intOf j).toNat)
          case atStart => exact ⟨0, by omega, rfl, HAp.out, HB.out⟩
          case round =>
            obtain ⟨j, hj, rfl, hap, hbw⟩ := hrel
            have HAp2 := Lib.hid hap; have HB2 := Lib.hid hbw
            have HSr := Lib.hid (HS.out.keep hbw)
            clear hap hbw
            by_cases hlj : j < i
            · have hlj' : (j : Int) < i := by omega
              have hjL : (j : Int) < L := by omega
              have hj0 : (0 : Int) ≤ j := by omega
              have hi0 : (0 : Int) ≤ i := by omega
              have hi1 : i < xs.length := by rw [HL.out]; exact hlt
              have hj1 : j < xs.length := by omega
              obtain ⟨_, a', cap', he, -, hcell⟩ := HSr.out
              have he' : a = a' ∧ c = cap' := by cases he; exact ⟨rfl, rfl⟩
              obtain ⟨rfl, rfl⟩ := he'
              clear he
              obtain ⟨b, off, rfl, hbl, hcell⟩ := hcell (by omega)
              obtain ⟨⟨p, q⟩, hy⟩ : ∃ y, xs[i] = y := ⟨_, rfl⟩
              obtain ⟨⟨s, t⟩, hz⟩ : ∃ y, xs[j] = y := ⟨_, rfl⟩
              have hk1 := keys_at x r xs i hi1
              have hk2 := keys_at x r xs j hj1
              rw [HKs.out, hy] at hk1
              rw [HKs.out, hz] at hk2
              have HK1 := Lib.hid hk1; have HK2 := Lib.hid hk2
              have HC4 : Hid (∀ u, Below wr.heap.size wr u → (u.cell? ⟨b, off + i * 2, none⟩ = some (.int .i64 p) ∧ u.cell? ⟨b, off + i * 2 + 1, none⟩ = some (.int .i64 q)) ∧ (u.cell? ⟨b, off + j * 2, none⟩ = some (.int .i64 s) ∧ u.cell? ⟨b, off + j * 2 + 1, none⟩ = some (.int .i64 t))) := Lib.hid (fun u hu => by
                have h1 := wcells_at (range_keep (hcell i hi1) hbl hu)
                have h2 := wcells_at (range_keep (hcell j hj1) hbl hu)
                rw [hy] at h1
                rw [hz] at h2
                exact ⟨h1, h2⟩)
              obtain ⟨⟨d1, d2⟩, d3, d4⟩ := HC4.out wr.drew (below_drew (Below.refl _ _))
              have m1 : True → min (max t 0) 1048576 = (wtN t : Int) := fun _ => min_wt t
              have m2 : True → min (max q 0) 1048576 = (wtN q : Int) := fun _ => min_wt q
              have HWq := Lib.hid (wtN_le q)
              have HWt := Lib.hid (wtN_le t)
              clear hy hz hk1 hk2 hcell hbl
              generalize wtN q = wq at m2 HWq HK1
              generalize wtN t = wt at m1 HWt HK2
              have e1 : True → IntKind.i64.wrap ((costN x p r : Int) * (wt : Int)) = ((costN x p r * wt : Nat) : Int) := fun _ => low_prod (costN_le _ _ _) HWt.out
              have e2 : True → IntKind.i64.wrap ((costN x s r : Int) * (wq : Int)) = ((costN x s r * wq : Nat) : Int) := fun _ => low_prod (costN_le _ _ _) HWq.out
              generalize hP : costN x p r * wt = P at e1
              generalize hQ : costN x s r * wq = Q at e2
              have HP := Lib.hid hP; have HQ := Lib.hid hQ
              clear hP hQ
              go_upto_region 9 with fail
              --R9
              have HD5 : Hid (Below wr.heap.size wr wr.drew) := Lib.hid (below_drew (Below.refl _ _))
              refine wp_region_held_drew (S := fun u => (u.cell? ⟨b, off + i * 2, none⟩ = some (.int .i64 p) ∧ u.cell? ⟨b, off + i * 2 + 1, none⟩ = some (.int .i64 q)) ∧ (u.cell? ⟨b, off + j * 2, none⟩ = some (.int .i64 s) ∧ u.cell? ⟨b, off + j * 2 + 1, none⟩ = some (.int .i64 t))) (by kernel_rfl) (⟨⟨d1, d2⟩, d3, d4⟩) (fun hHeld => ?_)
              refine wpAnyH_take (i := 0) (oi := { dst := some 35, op := Op.move (Operand.tmp 2), type := 23, pos := "law.go:115", after := #[], guard := none }) (v := ?_) rfl (by kernel_rfl) (by kernel_rfl) (by kernel_rfl) (fun _ _ _ h => h) (Or.inl ⟨by rfl, ?_⟩) hHeld ?_
              rotate_left 1
              · intro W hSw
                (try dsimp only at hSw)
                go_simp
                try with_reducible rfl
              try simp only [Act.put, List.setIfInBounds_toArray, List.set_cons_zero, List.set_cons_succ]
              refine wpAnyH_take (i := 1) (oi := { dst := some 36, op := Op.move (Operand.tmp 0), type := 22, pos := "law.go:115", after := #[], guard := none }) (v := ?_) rfl (by kernel_rfl) (by kernel_rfl) (by kernel_rfl) (fun _ _ _ h => h) (Or.inl ⟨by rfl, ?_⟩) hHeld ?_
              rotate_left 1
              · intro W hSw
                (try dsimp only at hSw)
                go_simp
                try with_reducible rfl
              try simp only [Act.put, List.setIfInBounds_toArray, List.set_cons_zero, List.set_cons_succ]
              refine wpAnyH_take (i := 2) (oi := { dst := some 37, op := Op.move (Operand.tmp 9), type := 3, pos := "law.go:115", after := #[], guard := none }) (v := ?_) rfl (by kernel_rfl) (by kernel_rfl) (by kernel_rfl) (fun _ _ _ h => h) (Or.inl ⟨by rfl, ?_⟩) hHeld ?_
              rotate_left 1
              · intro W hSw
                (try dsimp only at hSw)
                go_simp
                try with_reducible rfl
              try simp only [Act.put, List.setIfInBounds_toArray, List.set_cons_zero, List.set_cons_succ]
              refine wpAnyH_take (i := 3) (oi := { dst := some 38, op := Op.indexAddr 22 (Operand.tmp 36) (Operand.tmp 37), type := 0, pos := "law.go:115", after := #[{ on := 1, ground := Ground.data }, { on := 2, ground := Ground.data }], guard := none }) (v := ?_) rfl (by kernel_rfl) (by kernel_rfl) (by kernel_rfl) (fun _ _ _ h => h) (Or.inl ⟨by rfl, ?_⟩) hHeld ?_
              rotate_left 1
              · intro W hSw
                (try dsimp only at hSw)
                go_simp
                try with_reducible rfl
              try simp only [Act.put, List.setIfInBounds_toArray, List.set_cons_zero, List.set_cons_succ]
              refine wpAnyH_take (i := 4) (oi := { dst := some 39, op := Op.fieldAddr 33 (Operand.tmp 38) 0, type := 0, pos := "law.go:115", after := #[{ on := 3, ground := Ground.data }], guard := none }) (v := ?_) rfl (by kernel_rfl) (by kernel_rfl) (by kernel_rfl) (fun _ _ _ h => h) (Or.inl ⟨by rfl, ?_⟩) hHeld ?_
              rotate_left 1
              · intro W hSw
                (try dsimp only at hSw)
                go_simp
                try with_reducible rfl
              try simp only [Act.put, List.setIfInBounds_toArray, List.set_cons_zero, List.set_cons_succ]
              refine wpAnyH_take (i := 5) (oi := { dst := some 40, op := Op.load 3 (Operand.tmp 39), type := 3, pos := "law.go:115", after := #[{ on := 4, ground := Ground.data }], guard := none }) (v := ?_) rfl (by kernel_rfl) (by kernel_rfl) (by kernel_rfl) (fun _ _ _ h => h) (Or.inl ⟨by rfl, ?_⟩) hHeld ?_
              rotate_left 1
              · intro W hSw
                (try dsimp only at hSw)
                go_simp
                try with_reducible rfl
              try simp only [Act.put, List.setIfInBounds_toArray, List.set_cons_zero, List.set_cons_succ]
              refine wpAnyH_take (i := 6) (oi := { dst := some 41, op := Op.move (Operand.tmp 3), type := 3, pos := "law.go:115", after := #[], guard := none }) (v := ?_) rfl (by kernel_rfl) (by kernel_rfl) (by kernel_rfl) (fun _ _ _ h => h) (Or.inl ⟨by rfl, ?_⟩) hHeld ?_
              rotate_left 1
              · intro W hSw
                (try dsimp only at hSw)
                go_simp
                try with_reducible rfl
              try simp only [Act.put, List.setIfInBounds_toArray, List.set_cons_zero, List.set_cons_succ]
              refine wpAnyH_take (i := 8) (oi := { dst := some 43, op := Op.move (Operand.tmp 0), type := 22, pos := "law.go:115", after := #[], guard := none }) (v := ?_) rfl (by kernel_rfl) (by kernel_rfl) (by kernel_rfl) (fun _ _ _ h => h) (Or.inl ⟨by rfl, ?_⟩) hHeld ?_
              rotate_left 1
              · intro W hSw
                (try dsimp only at hSw)
                go_simp
                try with_reducible rfl
              try simp only [Act.put, List.setIfInBounds_toArray, List.set_cons_zero, List.set_cons_succ]
              refine wpAnyH_take (i := 9) (oi := { dst := some 44, op := Op.move (Operand.tmp 10), type := 3, pos := "law.go:115", after := #[], guard := none }) (v := ?_) rfl (by kernel_rfl) (by kernel_rfl) (by kernel_rfl) (fun _ _ _ h => h) (Or.inl ⟨by rfl, ?_⟩) hHeld ?_
              rotate_left 1
              · intro W hSw
                (try dsimp only at hSw)
                go_simp
                try with_reducible rfl
              try simp only [Act.put, List.setIfInBounds_toArray, List.set_cons_zero, List.set_cons_succ]
              refine wpAnyH_take (i := 10) (oi := { dst := some 45, op := Op.indexAddr 22 (Operand.tmp 43) (Operand.tmp 44), type := 0, pos := "law.go:115", after := #[{ on := 8, ground := Ground.data }, { on := 9, ground := Ground.data }], guard := none }) (v := ?_) rfl (by kernel_rfl) (by kernel_rfl) (by kernel_rfl) (fun _ _ _ h => h) (Or.inl ⟨by rfl, ?_⟩) hHeld ?_
              rotate_left 1
              · intro W hSw
                (try dsimp only at hSw)
                go_simp
                try with_reducible rfl
              try simp only [Act.put, List.setIfInBounds_toArray, List.set_cons_zero, List.set_cons_succ]
              refine wpAnyH_take (i := 11) (oi := { dst := some 46, op := Op.fieldAddr 33 (Operand.tmp 45) 1, type := 0, pos := "law.go:115", after := #[{ on := 10, ground := Ground.data }], guard := none }) (v := ?_) rfl (by kernel_rfl) (by kernel_rfl) (by kernel_rfl) (fun _ _ _ h => h) (Or.inl ⟨by rfl, ?_⟩) hHeld ?_
              rotate_left 1
              · intro W hSw
                (try dsimp only at hSw)
                go_simp
                try with_reducible rfl
              try simp only [Act.put, List.setIfInBounds_toArray, List.set_cons_zero, List.set_cons_succ]
              refine wpAnyH_take (i := 12) (oi := { dst := some 47, op := Op.load 2 (Operand.tmp 46), type := 2, pos := "law.go:115", after := #[{ on := 11, ground := Ground.data }], guard := none }) (v := ?_) rfl (by kernel_rfl) (by kernel_rfl) (by kernel_rfl) (fun _ _ _ h => h) (Or.inl ⟨by rfl, ?_⟩) hHeld ?_
              rotate_left 1
              · intro W hSw
                (try dsimp only at hSw)
                go_simp
                try with_reducible rfl
              try simp only [Act.put, List.setIfInBounds_toArray, List.set_cons_zero, List.set_cons_succ]
              refine wpAnyH_take (i := 13) (oi := { dst := some 48, op := Op.call { callee := Callee.builtin Builtin.max, args := #[Operand.tmp 47, Operand.const (Value.int IntKind.i64 0)], argTypes := #[2, 2] }, type := 2, pos := "law.go:115", after := #[{ on := 12, ground := Ground.data }], guard := none }) (v := ?_) rfl (by kernel_rfl) (by kernel_rfl) (by kernel_rfl) (fun _ _ _ h => h) (Or.inl ⟨by rfl, ?_⟩) hHeld ?_
              rotate_left 1
              · intro W hSw
                (try dsimp only at hSw)
                go_simp
                try with_reducible rfl
              try simp only [Act.put, List.setIfInBounds_toArray, List.set_cons_zero, List.set_cons_succ]
              refine wpAnyH_take (i := 14) (oi := { dst := some 49, op := Op.call { callee := Callee.builtin Builtin.min, args := #[Operand.tmp 48, Operand.const (Value.int IntKind.i64 1048576)], argTypes := #[2, 2] }, type := 2, pos := "law.go:115", after := #[{ on := 13, ground := Ground.data }], guard := none }) (v := ?_) rfl (by kernel_rfl) (by kernel_rfl) (by kernel_rfl) (fun _ _ _ h => h) (Or.inl ⟨by rfl, ?_⟩) hHeld ?_
              rotate_left 1
              · intro W hSw
                (try dsimp only at hSw)
                go_simp
                try with_reducible rfl
              try simp only [Act.put, List.setIfInBounds_toArray, List.set_cons_zero, List.set_cons_succ]
              refine wpAnyH_take (i := 16) (oi := { dst := some 51, op := Op.move (Operand.tmp 2), type := 23, pos := "law.go:115", after := #[], guard := none }) (v := ?_) rfl (by kernel_rfl) (by kernel_rfl) (by kernel_rfl) (fun _ _ _ h => h) (Or.inl ⟨by rfl, ?_⟩) hHeld ?_
              rotate_left 1
              · intro W hSw
                (try dsimp only at hSw)
                go_simp
                try with_reducible rfl
              try simp only [Act.put, List.setIfInBounds_toArray, List.set_cons_zero, List.set_cons_succ]
              refine wpAnyH_take (i := 17) (oi := { dst := some 52, op := Op.move (Operand.tmp 0), type := 22, pos := "law.go:115", after := #[], guard := none }) (v := ?_) rfl (by kernel_rfl) (by kernel_rfl) (by kernel_rfl) (fun _ _ _ h => h) (Or.inl ⟨by rfl, ?_⟩) hHeld ?_
              rotate_left 1
              · intro W hSw
                (try dsimp only at hSw)
                go_simp
                try with_reducible rfl
              try simp only [Act.put, List.setIfInBounds_toArray, List.set_cons_zero, List.set_cons_succ]
              refine wpAnyH_take (i := 18) (oi := { dst := some 53, op := Op.move (Operand.tmp 10), type := 3, pos := "law.go:115", after := #[], guard := none }) (v := ?_) rfl (by kernel_rfl) (by kernel_rfl) (by kernel_rfl) (fun _ _ _ h => h) (Or.inl ⟨by rfl, ?_⟩) hHeld ?_
              rotate_left 1
              · intro W hSw
                (try dsimp only at hSw)
                go_simp
                try with_reducible rfl
              try simp only [Act.put, List.setIfInBounds_toArray, List.set_cons_zero, List.set_cons_succ]
              refine wpAnyH_take (i := 19) (oi := { dst := some 54, op := Op.indexAddr 22 (Operand.tmp 52) (Operand.tmp 53), type := 0, pos := "law.go:115", after := #[{ on := 17, ground := Ground.data }, { on := 18, ground := Ground.data }], guard := none }) (v := ?_) rfl (by kernel_rfl) (by kernel_rfl) (by kernel_rfl) (fun _ _ _ h => h) (Or.inl ⟨by rfl, ?_⟩) hHeld ?_
              rotate_left 1
              · intro W hSw
                (try dsimp only at hSw)
                go_simp
                try with_reducible rfl
              try simp only [Act.put, List.setIfInBounds_toArray, List.set_cons_zero, List.set_cons_succ]
              refine wpAnyH_take (i := 20) (oi := { dst := some 55, op := Op.fieldAddr 33 (Operand.tmp 54) 0, type := 0, pos := "law.go:115", after := #[{ on := 19, ground := Ground.data }], guard := none }) (v := ?_) rfl (by kernel_rfl) (by kernel_rfl) (by kernel_rfl) (fun _ _ _ h => h) (Or.inl ⟨by rfl, ?_⟩) hHeld ?_
              rotate_left 1
              · intro W hSw
                (try dsimp only at hSw)
                go_simp
                try with_reducible rfl
              try simp only [Act.put, List.setIfInBounds_toArray, List.set_cons_zero, List.set_cons_succ]
              refine wpAnyH_take (i := 21) (oi := { dst := some 56, op := Op.load 3 (Operand.tmp 55), type := 3, pos := "law.go:115", after := #[{ on := 20, ground := Ground.data }], guard := none }) (v := ?_) rfl (by kernel_rfl) (by kernel_rfl) (by kernel_rfl) (fun _ _ _ h => h) (Or.inl ⟨by rfl, ?_⟩) hHeld ?_
              rotate_left 1
              · intro W hSw
                (try dsimp only at hSw)
                go_simp
                try with_reducible rfl
              try simp only [Act.put, List.setIfInBounds_toArray, List.set_cons_zero, List.set_cons_succ]
              refine wpAnyH_take (i := 22) (oi := { dst := some 57, op := Op.move (Operand.tmp 3), type := 3, pos := "law.go:115", after := #[], guard := none }) (v := ?_) rfl (by kernel_rfl) (by kernel_rfl) (by kernel_rfl) (fun _ _ _ h => h) (Or.inl ⟨by rfl, ?_⟩) hHeld ?_
              rotate_left 1
              · intro W hSw
                (try dsimp only at hSw)
                go_simp
                try with_reducible rfl
              try simp only [Act.put, List.setIfInBounds_toArray, List.set_cons_zero, List.set_cons_succ]
              refine wpAnyH_take (i := 24) (oi := { dst := some 59, op := Op.move (Operand.tmp 0), type := 22, pos := "law.go:115", after := #[], guard := none }) (v := ?_) rfl (by kernel_rfl) (by kernel_rfl) (by kernel_rfl) (fun _ _ _ h => h) (Or.inl ⟨by rfl, ?_⟩) hHeld ?_
              rotate_left 1
              · intro W hSw
                (try dsimp only at hSw)
                go_simp
                try with_reducible rfl
              try simp only [Act.put, List.setIfInBounds_toArray, List.set_cons_zero, List.set_cons_succ]
              refine wpAnyH_take (i := 25) (oi := { dst := some 60, op := Op.move (Operand.tmp 9), type := 3, pos := "law.go:115", after := #[], guard := none }) (v := ?_) rfl (by kernel_rfl) (by kernel_rfl) (by kernel_rfl) (fun _ _ _ h => h) (Or.inl ⟨by rfl, ?_⟩) hHeld ?_
              rotate_left 1
              · intro W hSw
                (try dsimp only at hSw)
                go_simp
                try with_reducible rfl
              try simp only [Act.put, List.setIfInBounds_toArray, List.set_cons_zero, List.set_cons_succ]
              refine wpAnyH_take (i := 26) (oi := { dst := some 61, op := Op.indexAddr 22 (Operand.tmp 59) (Operand.tmp 60), type := 0, pos := "law.go:115", after := #[{ on := 24, ground := Ground.data }, { on := 25, ground := Ground.data }], guard := none }) (v := ?_) rfl (by kernel_rfl) (by kernel_rfl) (by kernel_rfl) (fun _ _ _ h => h) (Or.inl ⟨by rfl, ?_⟩) hHeld ?_
              rotate_left 1
              · intro W hSw
                (try dsimp only at hSw)
                go_simp
                try with_reducible rfl
              try simp only [Act.put, List.setIfInBounds_toArray, List.set_cons_zero, List.set_cons_succ]
              refine wpAnyH_take (i := 27) (oi := { dst := some 62, op := Op.fieldAddr 33 (Operand.tmp 61) 1, type := 0, pos := "law.go:115", after := #[{ on := 26, ground := Ground.data }], guard := none }) (v := ?_) rfl (by kernel_rfl) (by kernel_rfl) (by kernel_rfl) (fun _ _ _ h => h) (Or.inl ⟨by rfl, ?_⟩) hHeld ?_
              rotate_left 1
              · intro W hSw
                (try dsimp only at hSw)
                go_simp
                try with_reducible rfl
              try simp only [Act.put, List.setIfInBounds_toArray, List.set_cons_zero, List.set_cons_succ]
              refine wpAnyH_take (i := 28) (oi := { dst := some 63, op := Op.load 2 (Operand.tmp 62), type := 2, pos := "law.go:115", after := #[{ on := 27, ground := Ground.data }], guard := none }) (v := ?_) rfl (by kernel_rfl) (by kernel_rfl) (by kernel_rfl) (fun _ _ _ h => h) (Or.inl ⟨by rfl, ?_⟩) hHeld ?_
              rotate_left 1
              · intro W hSw
                (try dsimp only at hSw)
                go_simp
                try with_reducible rfl
              try simp only [Act.put, List.setIfInBounds_toArray, List.set_cons_zero, List.set_cons_succ]
              refine wpAnyH_take (i := 29) (oi := { dst := some 64, op := Op.call { callee := Callee.builtin Builtin.max, args := #[Operand.tmp 63, Operand.const (Value.int IntKind.i64 0)], argTypes := #[2, 2] }, type := 2, pos := "law.go:115", after := #[{ on := 28, ground := Ground.data }], guard := none }) (v := ?_) rfl (by kernel_rfl) (by kernel_rfl) (by kernel_rfl) (fun _ _ _ h => h) (Or.inl ⟨by rfl, ?_⟩) hHeld ?_
              rotate_left 1
              · intro W hSw
                (try dsimp only at hSw)
                go_simp
                try with_reducible rfl
              try simp only [Act.put, List.setIfInBounds_toArray, List.set_cons_zero, List.set_cons_succ]
              refine wpAnyH_take (i := 30) (oi := { dst := some 65, op := Op.call { callee := Callee.builtin Builtin.min, args := #[Operand.tmp 64, Operand.const (Value.int IntKind.i64 1048576)], argTypes := #[2, 2] }, type := 2, pos := "law.go:115", after := #[{ on := 29, ground := Ground.data }], guard := none }) (v := ?_) rfl (by kernel_rfl) (by kernel_rfl) (by kernel_rfl) (fun _ _ _ h => h) (Or.inl ⟨by rfl, ?_⟩) hHeld ?_
              rotate_left 1
              · intro W hSw
                (try dsimp only at hSw)
                go_simp
                try with_reducible rfl
              try simp only [Act.put, List.setIfInBounds_toArray, List.set_cons_zero, List.set_cons_succ]
              refine wpAnyH_ready (rs := [7]) (by kernel_rfl) (by simp) ?_
              refine AllReadyH.cons (o := { dst := some 42, op := Op.call { callee := Callee.value (Operand.func 12), args := #[Operand.tmp 35, Operand.tmp 40, Operand.tmp 41], argTypes := #[23, 3, 3] }, type := 2, pos := "law.go:115", after := #[{ on := 0, ground := Ground.data }, { on := 5, ground := Ground.data }, { on := 6, ground := Ground.data }], guard := none }) rfl (fun K7 hK7 => ?_) ?_
              · go_simp
                refine (Cost_bel _ _ _ HXl.out _).mono ?_
                rintro e w6 ⟨rfl, hb⟩
                have HB6 : Hid (Below wr.heap.size wr w6) := Lib.hid (HD5.out.trans (hb.mono HD5.out.size))
                clear hb
                try dsimp only
                refine hK7.out _ _ (HC4.out _ HB6.out) (fun hHeld => ?_)
                clear hK7 K7
                try simp only [Act.put, List.setIfInBounds_toArray, List.set_cons_zero, List.set_cons_succ]
                refine wpAnyH_take (i := 15) (oi := { dst := some 50, op := Op.binOp BinOp.mul 2 (Operand.tmp 42) (Operand.tmp 49) 2, type := 2, pos := "law.go:115", after := #[{ on := 7, ground := Ground.data }, { on := 14, ground := Ground.data }], guard := none }) (v := ?_) rfl (by kernel_rfl) (by kernel_rfl) (by kernel_rfl) (fun _ _ _ h => h) (Or.inl ⟨by rfl, ?_⟩) hHeld ?_
                rotate_left 1
                · intro W hSw
                  (try dsimp only at hSw)
                  go_simp
                  try with_reducible rfl
                try simp only [Act.put, List.setIfInBounds_toArray, List.set_cons_zero, List.set_cons_succ]
                refine wpAnyH_ready (rs := [23]) (by kernel_rfl) (by simp) ?_
                refine AllReadyH.cons (o := { dst := some 58, op := Op.call { callee := Callee.value (Operand.func 12), args := #[Operand.tmp 51, Operand.tmp 56, Operand.tmp 57], argTypes := #[23, 3, 3] }, type := 2, pos := "law.go:115", after := #[{ on := 16, ground := Ground.data }, { on := 21, ground := Ground.data }, { on := 22, ground := Ground.data }, { on := 7, ground := Ground.chain }], guard := none }) rfl (fun K7 hK7 => ?_) ?_
                · go_simp
                  refine (Cost_bel _ _ _ HXl.out _).mono ?_
                  rintro e w7 ⟨rfl, hb⟩
                  have HB7 : Hid (Below wr.heap.size wr w7) := Lib.hid (HB6.out.trans (hb.mono HB6.out.size))
                  clear hb
                  try dsimp only
                  refine hK7.out _ _ (HC4.out _ HB7.out) (fun hHeld => ?_)
                  clear hK7 K7
                  try simp only [Act.put, List.setIfInBounds_toArray, List.set_cons_zero, List.set_cons_succ]
                  refine wpAnyH_take (i := 31) (oi := { dst := some 66, op := Op.binOp BinOp.mul 2 (Operand.tmp 58) (Operand.tmp 65) 2, type := 2, pos := "law.go:115", after := #[{ on := 23, ground := Ground.data }, { on := 30, ground := Ground.data }], guard := none }) (v := ?_) rfl (by kernel_rfl) (by kernel_rfl) (by kernel_rfl) (fun _ _ _ h => h) (Or.inl ⟨by rfl, ?_⟩) hHeld ?_
                  rotate_left 1
                  · intro W hSw
                    (try dsimp only at hSw)
                    go_simp
                    try with_reducible rfl
                  try simp only [Act.put, List.setIfInBounds_toArray, List.set_cons_zero, List.set_cons_succ]
                  refine wpAnyH_take (i := 32) (oi := { dst := some 67, op := Op.binOp BinOp.eql 2 (Operand.tmp 50) (Operand.tmp 66) 2, type := 4, pos := "law.go:115", after := #[{ on := 15, ground := Ground.data }, { on := 31, ground := Ground.data }], guard := none }) (v := ?_) rfl (by kernel_rfl) (by kernel_rfl) (by kernel_rfl) (fun _ _ _ h => h) (Or.inl ⟨by rfl, ?_⟩) hHeld ?_
                  rotate_left 1
                  · intro W hSw
                    (try dsimp only at hSw)
                    go_simp
                    try with_reducible rfl
                  try simp only [Act.put, List.setIfInBounds_toArray, List.set_cons_zero, List.set_cons_succ]
                  refine wpAnyH_done (by kernel_rfl) ?_ _
                  have HBl : Hid (Below w.heap.size w w7) := Lib.hid (HB2.out.trans (HB7.out.mono HB2.out.size))
                  clear e1 e2 d1 d2 d3 d4 m1 m2 hHeld
                  by_cases hpq : P = Q
                  · subst hpq
                    go_wp2_with (go_at_call 9; refine (awake_any _).mono ?_; rintro e w9 ⟨rfl, hb⟩; have HB9 := Lib.hid (HBl.out.trans (hb.mono HBl.out.size)); clear hb)
                    go_ret
                    exact ⟨rfl, HB9.out⟩
                  · have HN : Hid (ApartTo ks i (j + 1)) := Lib.hid ⟨HAp2.out.1, fun j' h => by
                      by_cases e : j' = j
                      · subst e; rw [HK1.out.1, HK2.out.2, HK2.out.1, HK1.out.2, HP.out, HQ.out]; exact hpq
                      · exact HAp2.out.2 j' (by omega)⟩
                    go_wp2
                    go_roundw
                    case rel => exact ⟨j + 1, by omega, by go_num, HN.out, HBl.out⟩
                    case measure => simp [intOf]; omega
                exact AllReadyH.nil
              exact AllReadyH.nil
              --R9E
            · obtain rfl : j = i := by omega
              go_wp2
              go_roundw
              case rel => exact ⟨j + 1, by omega, by go_num, ⟨fun i' j' h1 h2 => by
                by_cases e : i' = j
                · subst e; exact HAp2.out.2 j' h2
                · exact HAp2.out.1 i' j' (by omega) h2, fun j' h => by omega⟩, HB2.out⟩
              case measure => simp [intOf]; omega
        · obtain rfl : i = L := by omega
          have HA : Hid (Apart ks) := Lib.hid (fun i' j' h1 h2 => HAp.out.1 i' j' (by rw [← HKs.out, keys_len, HL.out] at h1; exact h1) h2)
          obtain ⟨k, hkL, hik⟩ := idx_of turn i h0 (by omega)
          have hik' : True → wrap64 ((IntKind.u64.wrap turn).tmod (i : Int)) = (k : Int) := fun _ => hik
          have hkI : (k : Int) < i := by omega
          have hkI0 : (0 : Int) ≤ k := by omega
          have HSr := Lib.hid (HS.out.keep HB.out)
          have hHL : xs.length = i := HL.out
          obtain ⟨_, a', cap', he, -, hcell⟩ := HSr.out
          have he' : a = a' ∧ c = cap' := by cases he; exact ⟨rfl, rfl⟩
          obtain ⟨rfl, rfl⟩ := he'
          clear he
          obtain ⟨b, off, rfl, hbl, hcell⟩ := hcell (by omega)
          have hle := HCp.out.1
          clear hik hcell hbl hi hlt HAp
          have hkc : k ≤ c := by omega
          have hki : k ≤ i := by omega
          have hck : ¬ c = k := by omega
          have hic : (i : Int) ≤ c := by omega
          go_upto_region 14 with fail
          --R14
          have HDw : Hid True := Lib.hid trivial
          have HBn : Hid (Below wr.heap.size wr (wr.alloc (.cells #[] 33)).drew) := Lib.hid (below_drew (below_new wr (.cells #[] 33)))
          have HO0 : Hid (Own wc 2 33 (wr.alloc (.cells #[] 33)).drew wr.heap.size (.slice (some ⟨wr.heap.size, 0, none⟩) 0 0) []) := Lib.hid (own_none (enc := wc) (k := 2) (e := 33) wr wr.heap.size (Nat.le_refl _))
          have HTk : Hid (∀ u, Below wr.heap.size wr u → Sl wc 2 u (.slice (some ⟨b, off, none⟩) k c) (xs.take k)) := Lib.hid (fun u hu => sl_take (by rw [hHL]; exact HSr.out.keep hu) k (by omega))
          have HDr : Hid (Sl wc 2 (wr.alloc (.cells #[] 33)).drew (.slice (some ⟨b, off + k * 2, none⟩) (i - k) (c - k)) (xs.drop k)) := Lib.hid (by
            have h1 := sl_drop (xs := xs) (by rw [hHL]; exact HSr.out.keep HBn.out) k (by omega) ⟨b, off + k * 2, none⟩ (c - k) (fun _ => rfl)
            rw [hHL] at h1
            exact h1)
          refine wp_region_held_drew (S := fun _ => True) (by kernel_rfl) (trivial) (fun hHeld => ?_)
          refine wpAnyH_take (i := 1) (oi := { dst := some 79, op := Op.move (Operand.tmp 0), type := 22, pos := "law.go:121", after := #[], guard := none }) (v := ?_) rfl (by kernel_rfl) (by kernel_rfl) (by kernel_rfl) (fun _ _ _ h => h) (Or.inl ⟨by rfl, ?_⟩) hHeld ?_
          rotate_left 1
          · intro W hSw
            (try dsimp only at hSw)
            go_simp
            try with_reducible rfl
          try simp only [Act.put, List.setIfInBounds_toArray, List.set_cons_zero, List.set_cons_succ]
          refine wpAnyH_take (i := 2) (oi := { dst := some 80, op := Op.move (Operand.tmp 11), type := 3, pos := "law.go:121", after := #[], guard := none }) (v := ?_) rfl (by kernel_rfl) (by kernel_rfl) (by kernel_rfl) (fun _ _ _ h => h) (Or.inl ⟨by rfl, ?_⟩) hHeld ?_
          rotate_left 1
          · intro W hSw
            (try dsimp only at hSw)
            go_simp
            try with_reducible rfl
          try simp only [Act.put, List.setIfInBounds_toArray, List.set_cons_zero, List.set_cons_succ]
          refine wpAnyH_take (i := 3) (oi := { dst := some 81, op := Op.slice 22 (Operand.tmp 79) (some (Operand.tmp 80)) none none, type := 22, pos := "law.go:121", after := #[{ on := 1, ground := Ground.data }, { on := 2, ground := Ground.data }], guard := none }) (v := ?_) rfl (by kernel_rfl) (by kernel_rfl) (by kernel_rfl) (fun _ _ _ h => h) (Or.inl ⟨by rfl, ?_⟩) hHeld ?_
          rotate_left 1
          · intro W hSw
            (try dsimp only at hSw)
            go_simp
            try with_reducible rfl
          try simp only [Act.put, List.setIfInBounds_toArray, List.set_cons_zero, List.set_cons_succ]
          refine wpAnyH_take (i := 5) (oi := { dst := some 83, op := Op.move (Operand.tmp 0), type := 22, pos := "law.go:121", after := #[], guard := none }) (v := ?_) rfl (by kernel_rfl) (by kernel_rfl) (by kernel_rfl) (fun _ _ _ h => h) (Or.inl ⟨by rfl, ?_⟩) hHeld ?_
          rotate_left 1
          · intro W hSw
            (try dsimp only at hSw)
            go_simp
            try with_reducible rfl
          try simp only [Act.put, List.setIfInBounds_toArray, List.set_cons_zero, List.set_cons_succ]
          refine wpAnyH_take (i := 6) (oi := { dst := some 84, op := Op.move (Operand.tmp 11), type := 3, pos := "law.go:121", after := #[], guard := none }) (v := ?_) rfl (by kernel_rfl) (by kernel_rfl) (by kernel_rfl) (fun _ _ _ h => h) (Or.inl ⟨by rfl, ?_⟩) hHeld ?_
          rotate_left 1
          · intro W hSw
            (try dsimp only at hSw)
            go_simp
            try with_reducible rfl
          try simp only [Act.put, List.setIfInBounds_toArray, List.set_cons_zero, List.set_cons_succ]
          refine wpAnyH_take (i := 7) (oi := { dst := some 85, op := Op.slice 22 (Operand.tmp 83) none (some (Operand.tmp 84)) none, type := 22, pos := "law.go:121", after := #[{ on := 5, ground := Ground.data }, { on := 6, ground := Ground.data }], guard := none }) (v := ?_) rfl (by kernel_rfl) (by kernel_rfl) (by kernel_rfl) (fun _ _ _ h => h) (Or.inl ⟨by rfl, ?_⟩) hHeld ?_
          rotate_left 1
          · intro W hSw
            (try dsimp only at hSw)
            go_simp
            try with_reducible rfl
          try simp only [Act.put, List.setIfInBounds_toArray, List.set_cons_zero, List.set_cons_succ]
          refine wpAnyH_ready (rs := [0]) (by kernel_rfl) (by simp) ?_
          refine AllReadyH.cons (o := { dst := some 78, op := Op.buildSlice 22 0 #[], type := 22, pos := "law.go:121", after := #[], guard := none }) rfl (fun K7 hK7 => ?_) ?_
          · go_simp
            refine hK7.out _ _ (trivial) (fun hHeld => ?_)
            clear hK7 K7
            try simp only [Act.put, List.setIfInBounds_toArray, List.set_cons_zero, List.set_cons_succ]
            refine wpAnyH_ready (rs := [4]) (by kernel_rfl) (by simp) ?_
            refine AllReadyH.cons (o := { dst := some 82, op := Op.call { callee := Callee.builtin Builtin.append, args := #[Operand.tmp 78, Operand.tmp 81], argTypes := #[22, 22] }, type := 22, pos := "law.go:121", after := #[{ on := 0, ground := Ground.data }, { on := 3, ground := Ground.data }], guard := none }) rfl (fun K7 hK7 => ?_) ?_
            · refine step_appSl wc_len wc_one (by decide) rfl (.tmp 78) (.tmp 81) 22 rfl wr.heap.size 33 _ (by rfl) 16 Try.underlying22 infoItm _ [] rfl HO0.out _ _ _ (xs.drop k) rfl HDr.out (by rw [List.length_drop, hHL]; unfold maxLen; simp only [List.length_nil]; omega) (by rw [List.length_drop, hHL]; simp only [List.length_nil]; omega) HBn.out.size ?_
              intro v5 w5 ho5 hk5
              rw [List.nil_append] at ho5
              have HO5 := Lib.hid ho5
              have HK5 := Lib.hid (HBn.out.trans hk5.toBelow)
              have HTk5 := Lib.hid (HTk.out w5 HK5.out)
              clear ho5 hk5
              refine hK7.out _ _ (trivial) (fun hHeld => ?_)
              clear hK7 K7
              try simp only [Act.put, List.setIfInBounds_toArray, List.set_cons_zero, List.set_cons_succ]
              refine wpAnyH_ready (rs := [8]) (by kernel_rfl) (by simp) ?_
              refine AllReadyH.cons (o := { dst := some 86, op := Op.call { callee := Callee.builtin Builtin.append, args := #[Operand.tmp 82, Operand.tmp 85], argTypes := #[22, 22] }, type := 22, pos := "law.go:121", after := #[{ on := 4, ground := Ground.data }, { on := 7, ground := Ground.data }, { on := 4, ground := Ground.chain }], guard := none }) rfl (fun K7 hK7 => ?_) ?_
              · refine step_appSl wc_len wc_one (by decide) rfl (.tmp 82) (.tmp 85) 22 rfl wr.heap.size 33 _ (by rfl) 16 Try.underlying22 infoItm _ (xs.drop k) rfl HO5.out _ _ _ (xs.take k) rfl HTk5.out (by rw [List.length_drop, List.length_take, hHL]; unfold maxLen; omega) (by rw [List.length_drop, List.length_take, hHL]; omega) HK5.out.size ?_
                intro v6 w6 ho6 hk6
                have HO6 := Lib.hid ho6
                have HK6 := Lib.hid (HK5.out.trans hk6.toBelow)
                clear ho6 hk6
                refine hK7.out _ _ (trivial) (fun hHeld => ?_)
                clear hK7 K7
                try simp only [Act.put, List.setIfInBounds_toArray, List.set_cons_zero, List.set_cons_succ]
                refine wpAnyH_take (i := 9) (oi := { dst := some 12, op := Op.assign (Operand.tmp 86), type := 22, pos := "law.go:121", after := #[{ on := 8, ground := Ground.data }, { on := 8, ground := Ground.chain }, { on := 0, ground := Ground.phase }, { on := 1, ground := Ground.phase }, { on := 2, ground := Ground.phase }, { on := 3, ground := Ground.phase }, { on := 4, ground := Ground.phase }, { on := 5, ground := Ground.phase }, { on := 6, ground := Ground.phase }, { on := 7, ground := Ground.phase }, { on := 8, ground := Ground.phase }], guard := none }) (v := ?_) rfl (by kernel_rfl) (by kernel_rfl) (by kernel_rfl) (fun _ _ _ h => h) (Or.inl ⟨by rfl, ?_⟩) hHeld ?_
                rotate_left 1
                · intro W hSw
                  (try dsimp only at hSw)
                  go_simp
                  try with_reducible rfl
                try simp only [Act.put, List.setIfInBounds_toArray, List.set_cons_zero, List.set_cons_succ]
                refine wpAnyH_done (by kernel_rfl) ?_ _
                have HMt := Lib.hid (turn_math x r xs k (by rw [hHL]; exact hkL) (by rw [HKs.out]; exact HA.out))
                have hml : (xs.drop k ++ xs.take k).length = i := by rw [List.length_append, List.length_drop, List.length_take, hHL]; omega
                have HOr := Lib.hid (HO6.out.read wc_len)
                obtain ⟨ax6, cx6, rfl⟩ := HO6.out.slice
                rw [hml] at HOr ⊢
                have HSr6 := Lib.hid (HSr.out.keep HK6.out)
                have HB6 := Lib.hid (HB.out.trans (HK6.out.mono HB.out.size))
                generalize xs.drop k ++ xs.take k = ms at HMt hml HOr
                have HC1 := Lib.hid (Choose_any (.slice (some ⟨b, off, none⟩) i c) xs x r HXl.out (by rw [hHL]; omega) w6 HSr6.out)
                unfold chosen at HC1
                generalize pick (keys x r xs) = o1 at HMt HC1
                have HC2 := Lib.hid (fun W => Choose_any (.slice ax6 i cx6) ms x r HXl.out (by rw [hml]; omega) W)
                unfold chosen at HC2
                generalize pick (keys x r ms) = o2 at HMt HC2
                clear HO0 HTk HDr HO5 HTk5 HBn HK5 HO6 hck hki hkc hic hkI hkI0 hik' hHeld HDw HA HKs HSr HCp hle
                go_wp2_with fail
                refine HC1.out.mono ?_
                rintro e w7 ⟨rfl, hb⟩
                have HB7 := Lib.hid (HB6.out.trans (hb.mono HB6.out.size))
                have HOr7 := Lib.hid (HOr.out.keep hb)
                have HSr7 := Lib.hid (HSr6.out.keep hb)
                clear hb HC1
                go_upto_region 16 with fail
                go_wp2_with fail
                refine (HC2.out _ HOr7.out).mono ?_
                rintro e w8 ⟨rfl, hb⟩
                have HB8 := Lib.hid (HB7.out.trans (hb.mono HB7.out.size))
                have HOr8 := Lib.hid (HOr7.out.keep hb)
                have HSr8 := Lib.hid (HSr7.out.keep hb)
                clear hb HC2
                rcases HMt.out with ⟨rfl, rfl⟩ | ⟨a1, b1, ⟨p, q⟩, rfl, rfl, ha1, hb1, hya, hyb⟩
                · simp only [Option.getD_none, Option.isSome_none]
                  go_upto_region 17 with fail
                  --R17A
                  refine wp_region_held_drew (S := fun _ => True) (by kernel_rfl) (trivial) (fun hHeld => ?_)
                  refine wpAnyH_take (i := 0) (oi := { dst := some 101, op := Op.move (Operand.tmp 14), type := 4, pos := "law.go:124", after := #[], guard := none }) (v := ?_) rfl (by kernel_rfl) (by kernel_rfl) (by kernel_rfl) (fun _ _ _ h => h) (Or.inl ⟨by rfl, ?_⟩) hHeld ?_
                  rotate_left 1
                  · intro W hSw
                    (try dsimp only at hSw)
                    go_simp
                    try with_reducible rfl
                  try simp only [Act.put, List.setIfInBounds_toArray, List.set_cons_zero, List.set_cons_succ]
                  refine wpAnyH_take (i := 1) (oi := { dst := some 102, op := Op.move (Operand.tmp 16), type := 4, pos := "law.go:124", after := #[], guard := none }) (v := ?_) rfl (by kernel_rfl) (by kernel_rfl) (by kernel_rfl) (fun _ _ _ h => h) (Or.inl ⟨by rfl, ?_⟩) hHeld ?_
                  rotate_left 1
                  · intro W hSw
                    (try dsimp only at hSw)
                    go_simp
                    try with_reducible rfl
                  try simp only [Act.put, List.setIfInBounds_toArray, List.set_cons_zero, List.set_cons_succ]
                  refine wpAnyH_take (i := 2) (oi := { dst := some 103, op := Op.binOp BinOp.eql 4 (Operand.tmp 101) (Operand.tmp 102) 4, type := 4, pos := "law.go:124", after := #[{ on := 0, ground := Ground.data }, { on := 1, ground := Ground.data }], guard := none }) (v := ?_) rfl (by kernel_rfl) (by kernel_rfl) (by kernel_rfl) (fun _ _ _ h => h) (Or.inl ⟨by rfl, ?_⟩) hHeld ?_
                  rotate_left 1
                  · intro W hSw
                    (try dsimp only at hSw)
                    go_simp
                    try with_reducible rfl
                  try simp only [Act.put, List.setIfInBounds_toArray, List.set_cons_zero, List.set_cons_succ]
                  refine wpAnyH_take (i := 3) (oi := { dst := some 104, op := Op.move (Operand.tmp 103), type := 4, pos := "law.go:124", after := #[{ on := 2, ground := Ground.data }], guard := none }) (v := ?_) rfl (by kernel_rfl) (by kernel_rfl) (by kernel_rfl) (fun _ _ _ h => h) (Or.inl ⟨by rfl, ?_⟩) hHeld ?_
                  rotate_left 1
                  · intro W hSw
                    (try dsimp only at hSw)
                    go_simp
                    try with_reducible rfl
                  try simp only [Act.put, List.setIfInBounds_toArray, List.set_cons_zero, List.set_cons_succ]
                  refine wpAnyH_take (i := 4) (oi := { dst := some 105, op := Op.move (Operand.tmp 14), type := 4, pos := "law.go:124", after := #[{ on := 3, ground := Ground.guard }], guard := some (3, true) }) (v := ?_) rfl (by kernel_rfl) (by kernel_rfl) (by kernel_rfl) (fun _ _ _ h => h) (Or.inl ⟨by rfl, ?_⟩) hHeld ?_
                  rotate_left 1
                  · intro W hSw
                    (try dsimp only at hSw)
                    go_simp
                    try with_reducible rfl
                  try simp only [Act.put, List.setIfInBounds_toArray, List.set_cons_zero, List.set_cons_succ]
                  refine wpAnyH_take (i := 5) (oi := { dst := some 106, op := Op.unOp UnOp.not 4 (Operand.tmp 105), type := 4, pos := "law.go:124", after := #[{ on := 4, ground := Ground.data }, { on := 3, ground := Ground.guard }], guard := some (3, true) }) (v := ?_) rfl (by kernel_rfl) (by kernel_rfl) (by kernel_rfl) (fun _ _ _ h => h) (Or.inl ⟨by rfl, ?_⟩) hHeld ?_
                  rotate_left 1
                  · intro W hSw
                    (try dsimp only at hSw)
                    go_simp
                    try with_reducible rfl
                  try simp only [Act.put, List.setIfInBounds_toArray, List.set_cons_zero, List.set_cons_succ]
                  refine wpAnyH_take (i := 6) (oi := { dst := some 107, op := Op.move (Operand.tmp 106), type := 4, pos := "law.go:124", after := #[{ on := 5, ground := Ground.data }, { on := 3, ground := Ground.chain }, { on := 3, ground := Ground.guard }], guard := some (3, true) }) (v := ?_) rfl (by kernel_rfl) (by kernel_rfl) (by kernel_rfl) (fun _ _ _ h => h) (Or.inl ⟨by rfl, ?_⟩) hHeld ?_
                  rotate_left 1
                  · intro W hSw
                    (try dsimp only at hSw)
                    go_simp
                    try with_reducible rfl
                  try simp only [Act.put, List.setIfInBounds_toArray, List.set_cons_zero, List.set_cons_succ]
                  refine wpAnyH_take (i := 7) (oi := { dst := some 108, op := Op.move (Operand.tmp 0), type := 22, pos := "law.go:124", after := #[{ on := 6, ground := Ground.guard }], guard := some (6, false) }) (v := undef) rfl (by kernel_rfl) (by kernel_rfl) (by kernel_rfl) (fun _ _ _ h => h) (Or.inr ⟨by rfl, rfl⟩) hHeld ?_
                  try simp only [Act.put, List.setIfInBounds_toArray, List.set_cons_zero, List.set_cons_succ]
                  refine wpAnyH_take (i := 8) (oi := { dst := some 109, op := Op.move (Operand.tmp 13), type := 3, pos := "law.go:124", after := #[{ on := 6, ground := Ground.guard }], guard := some (6, false) }) (v := undef) rfl (by kernel_rfl) (by kernel_rfl) (by kernel_rfl) (fun _ _ _ h => h) (Or.inr ⟨by rfl, rfl⟩) hHeld ?_
                  try simp only [Act.put, List.setIfInBounds_toArray, List.set_cons_zero, List.set_cons_succ]
                  refine wpAnyH_take (i := 9) (oi := { dst := some 110, op := Op.indexAddr 22 (Operand.tmp 108) (Operand.tmp 109), type := 0, pos := "law.go:124", after := #[{ on := 7, ground := Ground.data }, { on := 8, ground := Ground.data }, { on := 6, ground := Ground.guard }], guard := some (6, false) }) (v := undef) rfl (by kernel_rfl) (by kernel_rfl) (by kernel_rfl) (fun _ _ _ h => h) (Or.inr ⟨by rfl, rfl⟩) hHeld ?_
                  try simp only [Act.put, List.setIfInBounds_toArray, List.set_cons_zero, List.set_cons_succ]
                  refine wpAnyH_take (i := 10) (oi := { dst := some 111, op := Op.load 33 (Operand.tmp 110), type := 33, pos := "law.go:124", after := #[{ on := 9, ground := Ground.data }, { on := 6, ground := Ground.guard }], guard := some (6, false) }) (v := undef) rfl (by kernel_rfl) (by kernel_rfl) (by kernel_rfl) (fun _ _ _ h => h) (Or.inr ⟨by rfl, rfl⟩) hHeld ?_
                  try simp only [Act.put, List.setIfInBounds_toArray, List.set_cons_zero, List.set_cons_succ]
                  refine wpAnyH_take (i := 11) (oi := { dst := some 112, op := Op.move (Operand.tmp 12), type := 22, pos := "law.go:124", after := #[{ on := 6, ground := Ground.guard }], guard := some (6, false) }) (v := undef) rfl (by kernel_rfl) (by kernel_rfl) (by kernel_rfl) (fun _ _ _ h => h) (Or.inr ⟨by rfl, rfl⟩) hHeld ?_
                  try simp only [Act.put, List.setIfInBounds_toArray, List.set_cons_zero, List.set_cons_succ]
                  refine wpAnyH_take (i := 12) (oi := { dst := some 113, op := Op.move (Operand.tmp 15), type := 3, pos := "law.go:124", after := #[{ on := 6, ground := Ground.guard }], guard := some (6, false) }) (v := undef) rfl (by kernel_rfl) (by kernel_rfl) (by kernel_rfl) (fun _ _ _ h => h) (Or.inr ⟨by rfl, rfl⟩) hHeld ?_
                  try simp only [Act.put, List.setIfInBounds_toArray, List.set_cons_zero, List.set_cons_succ]
                  refine wpAnyH_take (i := 13) (oi := { dst := some 114, op := Op.indexAddr 22 (Operand.tmp 112) (Operand.tmp 113), type := 0, pos := "law.go:124", after := #[{ on := 11, ground := Ground.data }, { on := 12, ground := Ground.data }, { on := 6, ground := Ground.guard }], guard := some (6, false) }) (v := undef) rfl (by kernel_rfl) (by kernel_rfl) (by kernel_rfl) (fun _ _ _ h => h) (Or.inr ⟨by rfl, rfl⟩) hHeld ?_
                  try simp only [Act.put, List.setIfInBounds_toArray, List.set_cons_zero, List.set_cons_succ]
                  refine wpAnyH_take (i := 14) (oi := { dst := some 115, op := Op.load 33 (Operand.tmp 114), type := 33, pos := "law.go:124", after := #[{ on := 13, ground := Ground.data }, { on := 6, ground := Ground.guard }], guard := some (6, false) }) (v := undef) rfl (by kernel_rfl) (by kernel_rfl) (by kernel_rfl) (fun _ _ _ h => h) (Or.inr ⟨by rfl, rfl⟩) hHeld ?_
                  try simp only [Act.put, List.setIfInBounds_toArray, List.set_cons_zero, List.set_cons_succ]
                  refine wpAnyH_take (i := 15) (oi := { dst := some 116, op := Op.binOp BinOp.eql 33 (Operand.tmp 111) (Operand.tmp 115) 33, type := 4, pos := "law.go:124", after := #[{ on := 10, ground := Ground.data }, { on := 14, ground := Ground.data }, { on := 6, ground := Ground.guard }], guard := some (6, false) }) (v := undef) rfl (by kernel_rfl) (by kernel_rfl) (by kernel_rfl) (fun _ _ _ h => h) (Or.inr ⟨by rfl, rfl⟩) hHeld ?_
                  try simp only [Act.put, List.setIfInBounds_toArray, List.set_cons_zero, List.set_cons_succ]
                  refine wpAnyH_take (i := 16) (oi := { dst := some 117, op := Op.pick (Operand.tmp 107) (Operand.const (Value.bool true)) (Operand.tmp 116), type := 4, pos := "law.go:124", after := #[{ on := 6, ground := Ground.data }, { on := 15, ground := Ground.data }, { on := 3, ground := Ground.guard }], guard := some (3, true) }) (v := ?_) rfl (by kernel_rfl) (by kernel_rfl) (by kernel_rfl) (fun _ _ _ h => h) (Or.inl ⟨by rfl, ?_⟩) hHeld ?_
                  rotate_left 1
                  · intro W hSw
                    (try dsimp only at hSw)
                    go_simp
                    try with_reducible rfl
                  try simp only [Act.put, List.setIfInBounds_toArray, List.set_cons_zero, List.set_cons_succ]
                  refine wpAnyH_take (i := 17) (oi := { dst := some 118, op := Op.pick (Operand.tmp 104) (Operand.tmp 117) (Operand.const (Value.bool false)), type := 4, pos := "law.go:124", after := #[{ on := 3, ground := Ground.data }, { on := 16, ground := Ground.data }], guard := none }) (v := ?_) rfl (by kernel_rfl) (by kernel_rfl) (by kernel_rfl) (fun _ _ _ h => h) (Or.inl ⟨by rfl, ?_⟩) hHeld ?_
                  rotate_left 1
                  · intro W hSw
                    (try dsimp only at hSw)
                    go_simp
                    try with_reducible rfl
                  try simp only [Act.put, List.setIfInBounds_toArray, List.set_cons_zero, List.set_cons_succ]
                  refine wpAnyH_take (i := 18) (oi := { dst := some 119, op := Op.move (Operand.tmp 118), type := 4, pos := "law.go:124", after := #[{ on := 17, ground := Ground.data }, { on := 6, ground := Ground.chain }], guard := none }) (v := ?_) rfl (by kernel_rfl) (by kernel_rfl) (by kernel_rfl) (fun _ _ _ h => h) (Or.inl ⟨by rfl, ?_⟩) hHeld ?_
                  rotate_left 1
                  · intro W hSw
                    (try dsimp only at hSw)
                    go_simp
                    try with_reducible rfl
                  try simp only [Act.put, List.setIfInBounds_toArray, List.set_cons_zero, List.set_cons_succ]
                  refine wpAnyH_ready (rs := [19]) (by kernel_rfl) (by simp) ?_
                  refine AllReadyH.cons (o := { dst := some 120, op := Op.call { callee := Callee.value (Operand.func 9), args := #[], argTypes := #[] }, type := 4, pos := "law.go:124", after := #[{ on := 18, ground := Ground.chain }, { on := 18, ground := Ground.guard }], guard := some (18, true) }) rfl (fun K7 hK7 => ?_) ?_
                  · go_simp
                    refine (awake_any _).mono ?_
                    rintro e w9 ⟨rfl, hb⟩
                    have HB9 : Hid (Below w8.heap.size w8 w9) := Lib.hid ((below_drew (Below.refl _ w8)).trans hb)
                    clear hb
                    try dsimp only
                    refine hK7.out _ _ (trivial) (fun hHeld => ?_)
                    clear hK7 K7
                    try simp only [Act.put, List.setIfInBounds_toArray, List.set_cons_zero, List.set_cons_succ]
                    refine wpAnyH_take (i := 20) (oi := { dst := some 121, op := Op.pick (Operand.tmp 119) (Operand.tmp 120) (Operand.const (Value.bool false)), type := 4, pos := "law.go:124", after := #[{ on := 18, ground := Ground.data }, { on := 19, ground := Ground.data }], guard := none }) (v := ?_) rfl (by kernel_rfl) (by kernel_rfl) (by kernel_rfl) (fun _ _ _ h => h) (Or.inl ⟨by rfl, ?_⟩) hHeld ?_
                    rotate_left 1
                    · intro W hSw
                      (try dsimp only at hSw)
                      go_simp
                      try with_reducible rfl
                    try simp only [Act.put, List.setIfInBounds_toArray, List.set_cons_zero, List.set_cons_succ]
                    refine wpAnyH_take (i := 21) (oi := { dst := some 8, op := Op.assign (Operand.tmp 121), type := 4, pos := "law.go:124", after := #[{ on := 20, ground := Ground.data }, { on := 19, ground := Ground.chain }, { on := 0, ground := Ground.phase }, { on := 1, ground := Ground.phase }, { on := 2, ground := Ground.phase }, { on := 3, ground := Ground.phase }, { on := 4, ground := Ground.phase }, { on := 5, ground := Ground.phase }, { on := 6, ground := Ground.phase }, { on := 7, ground := Ground.phase }, { on := 8, ground := Ground.phase }, { on := 9, ground := Ground.phase }, { on := 10, ground := Ground.phase }, { on := 11, ground := Ground.phase }, { on := 12, ground := Ground.phase }, { on := 13, ground := Ground.phase }, { on := 14, ground := Ground.phase }, { on := 15, ground := Ground.phase }, { on := 16, ground := Ground.phase }, { on := 17, ground := Ground.phase }, { on := 18, ground := Ground.phase }, { on := 19, ground := Ground.phase }, { on := 20, ground := Ground.phase }], guard := none }) (v := ?_) rfl (by kernel_rfl) (by kernel_rfl) (by kernel_rfl) (fun _ _ _ h => h) (Or.inl ⟨by rfl, ?_⟩) hHeld ?_
                    rotate_left 1
                    · intro W hSw
                      (try dsimp only at hSw)
                      go_simp
                      try with_reducible rfl
                    try simp only [Act.put, List.setIfInBounds_toArray, List.set_cons_zero, List.set_cons_succ]
                    refine wpAnyH_done (by kernel_rfl) ?_ _
                    go_wp2
                    go_ret
                    exact ⟨rfl, HB8.out.trans (HB9.out.mono HB8.out.size)⟩
                  exact AllReadyH.nil
                  --R17AE
                · simp only [Option.getD_some, Option.isSome_some]
                  rw [hHL] at ha1 hb1
                  obtain ⟨_, a', cap', he, -, hcell⟩ := HSr8.out
                  obtain ⟨b', off', e', hbl, hcell⟩ := hcell (by omega)
                  have hra := hcell a1 (by rw [hHL]; exact ha1)
                  have ea : xs[a1]'(by rw [hHL]; exact ha1) = (p, q) := by rw [List.getElem?_eq_getElem (by rw [hHL]; exact ha1)] at hya; exact Option.some.inj hya
                  have hbb : b' = b ∧ off' = off := by cases he; cases e'; exact ⟨rfl, rfl⟩
                  obtain ⟨rfl, rfl⟩ := hbb
                  rw [ea] at hra
                  clear he e' hcell hbl
                  obtain ⟨_, a2, cap2, he, -, hcell⟩ := HOr8.out
                  obtain ⟨b2, off2, rfl, hbl, hcell⟩ := hcell (by omega)
                  have hrb := hcell b1 (by rw [hml]; exact hb1)
                  have eb : ms[b1]'(by rw [hml]; exact hb1) = (p, q) := by rw [List.getElem?_eq_getElem (by rw [hml]; exact hb1)] at hyb; exact Option.some.inj hyb
                  rw [eb] at hrb
                  have hq2 : ax6 = some ⟨b2, off2, none⟩ ∧ cx6 = cap2 := by cases he; exact ⟨rfl, rfl⟩
                  obtain ⟨rfl, rfl⟩ := hq2
                  have HC17 : Hid (∀ u, Below w8.heap.size w8 u → (u.cell? ⟨b', off' + a1 * 2, none⟩ = some (.int .i64 p) ∧ u.cell? ⟨b', off' + a1 * 2 + 1, none⟩ = some (.int .i64 q)) ∧ (u.cell? ⟨b2, off2 + b1 * 2, none⟩ = some (.int .i64 p) ∧ u.cell? ⟨b2, off2 + b1 * 2 + 1, none⟩ = some (.int .i64 q))) := Lib.hid (fun u hu => ⟨wcells_at (range_keep hra (cell_lt (hra 0 _ rfl)) hu), wcells_at (range_keep hrb hbl hu)⟩)
                  obtain ⟨⟨s1, s2⟩, s3, s4⟩ := HC17.out w8.drew (below_drew (Below.refl _ _))
                  have i1 : (a1 : Int) < i := by omega
                  have i2 : (0 : Int) ≤ a1 := by omega
                  have i3 : (b1 : Int) < i := by omega
                  have i4 : (0 : Int) ≤ b1 := by omega
                  clear hra hrb hcell hbl hya hyb ea eb
                  go_upto_region 17 with fail
                  --R17B
                  refine wp_region_held_drew (S := fun u => (u.cell? ⟨b', off' + a1 * 2, none⟩ = some (.int .i64 p) ∧ u.cell? ⟨b', off' + a1 * 2 + 1, none⟩ = some (.int .i64 q)) ∧ (u.cell? ⟨b2, off2 + b1 * 2, none⟩ = some (.int .i64 p) ∧ u.cell? ⟨b2, off2 + b1 * 2 + 1, none⟩ = some (.int .i64 q))) (by kernel_rfl) (⟨⟨s1, s2⟩, s3, s4⟩) (fun hHeld => ?_)
                  refine wpAnyH_take (i := 0) (oi := { dst := some 101, op := Op.move (Operand.tmp 14), type := 4, pos := "law.go:124", after := #[], guard := none }) (v := ?_) rfl (by kernel_rfl) (by kernel_rfl) (by kernel_rfl) (fun _ _ _ h => h) (Or.inl ⟨by rfl, ?_⟩) hHeld ?_
                  rotate_left 1
                  · intro W hSw
                    (try dsimp only at hSw)
                    go_simp
                    try with_reducible rfl
                  try simp only [Act.put, List.setIfInBounds_toArray, List.set_cons_zero, List.set_cons_succ]
                  refine wpAnyH_take (i := 1) (oi := { dst := some 102, op := Op.move (Operand.tmp 16), type := 4, pos := "law.go:124", after := #[], guard := none }) (v := ?_) rfl (by kernel_rfl) (by kernel_rfl) (by kernel_rfl) (fun _ _ _ h => h) (Or.inl ⟨by rfl, ?_⟩) hHeld ?_
                  rotate_left 1
                  · intro W hSw
                    (try dsimp only at hSw)
                    go_simp
                    try with_reducible rfl
                  try simp only [Act.put, List.setIfInBounds_toArray, List.set_cons_zero, List.set_cons_succ]
                  refine wpAnyH_take (i := 2) (oi := { dst := some 103, op := Op.binOp BinOp.eql 4 (Operand.tmp 101) (Operand.tmp 102) 4, type := 4, pos := "law.go:124", after := #[{ on := 0, ground := Ground.data }, { on := 1, ground := Ground.data }], guard := none }) (v := ?_) rfl (by kernel_rfl) (by kernel_rfl) (by kernel_rfl) (fun _ _ _ h => h) (Or.inl ⟨by rfl, ?_⟩) hHeld ?_
                  rotate_left 1
                  · intro W hSw
                    (try dsimp only at hSw)
                    go_simp
                    try with_reducible rfl
                  try simp only [Act.put, List.setIfInBounds_toArray, List.set_cons_zero, List.set_cons_succ]
                  refine wpAnyH_take (i := 3) (oi := { dst := some 104, op := Op.move (Operand.tmp 103), type := 4, pos := "law.go:124", after := #[{ on := 2, ground := Ground.data }], guard := none }) (v := ?_) rfl (by kernel_rfl) (by kernel_rfl) (by kernel_rfl) (fun _ _ _ h => h) (Or.inl ⟨by rfl, ?_⟩) hHeld ?_
                  rotate_left 1
                  · intro W hSw
                    (try dsimp only at hSw)
                    go_simp
                    try with_reducible rfl
                  try simp only [Act.put, List.setIfInBounds_toArray, List.set_cons_zero, List.set_cons_succ]
                  refine wpAnyH_take (i := 4) (oi := { dst := some 105, op := Op.move (Operand.tmp 14), type := 4, pos := "law.go:124", after := #[{ on := 3, ground := Ground.guard }], guard := some (3, true) }) (v := ?_) rfl (by kernel_rfl) (by kernel_rfl) (by kernel_rfl) (fun _ _ _ h => h) (Or.inl ⟨by rfl, ?_⟩) hHeld ?_
                  rotate_left 1
                  · intro W hSw
                    (try dsimp only at hSw)
                    go_simp
                    try with_reducible rfl
                  try simp only [Act.put, List.setIfInBounds_toArray, List.set_cons_zero, List.set_cons_succ]
                  refine wpAnyH_take (i := 5) (oi := { dst := some 106, op := Op.unOp UnOp.not 4 (Operand.tmp 105), type := 4, pos := "law.go:124", after := #[{ on := 4, ground := Ground.data }, { on := 3, ground := Ground.guard }], guard := some (3, true) }) (v := ?_) rfl (by kernel_rfl) (by kernel_rfl) (by kernel_rfl) (fun _ _ _ h => h) (Or.inl ⟨by rfl, ?_⟩) hHeld ?_
                  rotate_left 1
                  · intro W hSw
                    (try dsimp only at hSw)
                    go_simp
                    try with_reducible rfl
                  try simp only [Act.put, List.setIfInBounds_toArray, List.set_cons_zero, List.set_cons_succ]
                  refine wpAnyH_take (i := 6) (oi := { dst := some 107, op := Op.move (Operand.tmp 106), type := 4, pos := "law.go:124", after := #[{ on := 5, ground := Ground.data }, { on := 3, ground := Ground.chain }, { on := 3, ground := Ground.guard }], guard := some (3, true) }) (v := ?_) rfl (by kernel_rfl) (by kernel_rfl) (by kernel_rfl) (fun _ _ _ h => h) (Or.inl ⟨by rfl, ?_⟩) hHeld ?_
                  rotate_left 1
                  · intro W hSw
                    (try dsimp only at hSw)
                    go_simp
                    try with_reducible rfl
                  try simp only [Act.put, List.setIfInBounds_toArray, List.set_cons_zero, List.set_cons_succ]
                  refine wpAnyH_take (i := 7) (oi := { dst := some 108, op := Op.move (Operand.tmp 0), type := 22, pos := "law.go:124", after := #[{ on := 6, ground := Ground.guard }], guard := some (6, false) }) (v := ?_) rfl (by kernel_rfl) (by kernel_rfl) (by kernel_rfl) (fun _ _ _ h => h) (Or.inl ⟨by rfl, ?_⟩) hHeld ?_
                  rotate_left 1
                  · intro W hSw
                    (try dsimp only at hSw)
                    go_simp
                    try with_reducible rfl
                  try simp only [Act.put, List.setIfInBounds_toArray, List.set_cons_zero, List.set_cons_succ]
                  refine wpAnyH_take (i := 8) (oi := { dst := some 109, op := Op.move (Operand.tmp 13), type := 3, pos := "law.go:124", after := #[{ on := 6, ground := Ground.guard }], guard := some (6, false) }) (v := ?_) rfl (by kernel_rfl) (by kernel_rfl) (by kernel_rfl) (fun _ _ _ h => h) (Or.inl ⟨by rfl, ?_⟩) hHeld ?_
                  rotate_left 1
                  · intro W hSw
                    (try dsimp only at hSw)
                    go_simp
                    try with_reducible rfl
                  try simp only [Act.put, List.setIfInBounds_toArray, List.set_cons_zero, List.set_cons_succ]
                  refine wpAnyH_take (i := 9) (oi := { dst := some 110, op := Op.indexAddr 22 (Operand.tmp 108) (Operand.tmp 109), type := 0, pos := "law.go:124", after := #[{ on := 7, ground := Ground.data }, { on := 8, ground := Ground.data }, { on := 6, ground := Ground.guard }], guard := some (6, false) }) (v := ?_) rfl (by kernel_rfl) (by kernel_rfl) (by kernel_rfl) (fun _ _ _ h => h) (Or.inl ⟨by rfl, ?_⟩) hHeld ?_
                  rotate_left 1
                  · intro W hSw
                    (try dsimp only at hSw)
                    go_simp
                    try with_reducible rfl
                  try simp only [Act.put, List.setIfInBounds_toArray, List.set_cons_zero, List.set_cons_succ]
                  refine wpAnyH_take (i := 10) (oi := { dst := some 111, op := Op.load 33 (Operand.tmp 110), type := 33, pos := "law.go:124", after := #[{ on := 9, ground := Ground.data }, { on := 6, ground := Ground.guard }], guard := some (6, false) }) (v := ?_) rfl (by kernel_rfl) (by kernel_rfl) (by kernel_rfl) (fun _ _ _ h => h) (Or.inl ⟨by rfl, ?_⟩) hHeld ?_
                  rotate_left 1
                  · intro W hSw
                    (try dsimp only at hSw)
                    go_simp
                    try with_reducible rfl
                  try simp only [Act.put, List.setIfInBounds_toArray, List.set_cons_zero, List.set_cons_succ]
                  refine wpAnyH_take (i := 11) (oi := { dst := some 112, op := Op.move (Operand.tmp 12), type := 22, pos := "law.go:124", after := #[{ on := 6, ground := Ground.guard }], guard := some (6, false) }) (v := ?_) rfl (by kernel_rfl) (by kernel_rfl) (by kernel_rfl) (fun _ _ _ h => h) (Or.inl ⟨by rfl, ?_⟩) hHeld ?_
                  rotate_left 1
                  · intro W hSw
                    (try dsimp only at hSw)
                    go_simp
                    try with_reducible rfl
                  try simp only [Act.put, List.setIfInBounds_toArray, List.set_cons_zero, List.set_cons_succ]
                  refine wpAnyH_take (i := 12) (oi := { dst := some 113, op := Op.move (Operand.tmp 15), type := 3, pos := "law.go:124", after := #[{ on := 6, ground := Ground.guard }], guard := some (6, false) }) (v := ?_) rfl (by kernel_rfl) (by kernel_rfl) (by kernel_rfl) (fun _ _ _ h => h) (Or.inl ⟨by rfl, ?_⟩) hHeld ?_
                  rotate_left 1
                  · intro W hSw
                    (try dsimp only at hSw)
                    go_simp
                    try with_reducible rfl
                  try simp only [Act.put, List.setIfInBounds_toArray, List.set_cons_zero, List.set_cons_succ]
                  refine wpAnyH_take (i := 13) (oi := { dst := some 114, op := Op.indexAddr 22 (Operand.tmp 112) (Operand.tmp 113), type := 0, pos := "law.go:124", after := #[{ on := 11, ground := Ground.data }, { on := 12, ground := Ground.data }, { on := 6, ground := Ground.guard }], guard := some (6, false) }) (v := ?_) rfl (by kernel_rfl) (by kernel_rfl) (by kernel_rfl) (fun _ _ _ h => h) (Or.inl ⟨by rfl, ?_⟩) hHeld ?_
                  rotate_left 1
                  · intro W hSw
                    (try dsimp only at hSw)
                    go_simp
                    try with_reducible rfl
                  try simp only [Act.put, List.setIfInBounds_toArray, List.set_cons_zero, List.set_cons_succ]
                  refine wpAnyH_take (i := 14) (oi := { dst := some 115, op := Op.load 33 (Operand.tmp 114), type := 33, pos := "law.go:124", after := #[{ on := 13, ground := Ground.data }, { on := 6, ground := Ground.guard }], guard := some (6, false) }) (v := ?_) rfl (by kernel_rfl) (by kernel_rfl) (by kernel_rfl) (fun _ _ _ h => h) (Or.inl ⟨by rfl, ?_⟩) hHeld ?_
                  rotate_left 1
                  · intro W hSw
                    (try dsimp only at hSw)
                    go_simp
                    try with_reducible rfl
                  try simp only [Act.put, List.setIfInBounds_toArray, List.set_cons_zero, List.set_cons_succ]
                  refine wpAnyH_take (i := 15) (oi := { dst := some 116, op := Op.binOp BinOp.eql 33 (Operand.tmp 111) (Operand.tmp 115) 33, type := 4, pos := "law.go:124", after := #[{ on := 10, ground := Ground.data }, { on := 14, ground := Ground.data }, { on := 6, ground := Ground.guard }], guard := some (6, false) }) (v := ?_) rfl (by kernel_rfl) (by kernel_rfl) (by kernel_rfl) (fun _ _ _ h => h) (Or.inl ⟨by rfl, ?_⟩) hHeld ?_
                  rotate_left 1
                  · intro W hSw
                    (try dsimp only at hSw)
                    go_simp
                    try with_reducible rfl
                  try simp only [Act.put, List.setIfInBounds_toArray, List.set_cons_zero, List.set_cons_succ]
                  refine wpAnyH_take (i := 16) (oi := { dst := some 117, op := Op.pick (Operand.tmp 107) (Operand.const (Value.bool true)) (Operand.tmp 116), type := 4, pos := "law.go:124", after := #[{ on := 6, ground := Ground.data }, { on := 15, ground := Ground.data }, { on := 3, ground := Ground.guard }], guard := some (3, true) }) (v := ?_) rfl (by kernel_rfl) (by kernel_rfl) (by kernel_rfl) (fun _ _ _ h => h) (Or.inl ⟨by rfl, ?_⟩) hHeld ?_
                  rotate_left 1
                  · intro W hSw
                    (try dsimp only at hSw)
                    go_simp
                    try with_reducible rfl
                  try simp only [Act.put, List.setIfInBounds_toArray, List.set_cons_zero, List.set_cons_succ]
                  refine wpAnyH_take (i := 17) (oi := { dst := some 118, op := Op.pick (Operand.tmp 104) (Operand.tmp 117) (Operand.const (Value.bool false)), type := 4, pos := "law.go:124", after := #[{ on := 3, ground := Ground.data }, { on := 16, ground := Ground.data }], guard := none }) (v := ?_) rfl (by kernel_rfl) (by kernel_rfl) (by kernel_rfl) (fun _ _ _ h => h) (Or.inl ⟨by rfl, ?_⟩) hHeld ?_
                  rotate_left 1
                  · intro W hSw
                    (try dsimp only at hSw)
                    go_simp
                    try with_reducible rfl
                  try simp only [Act.put, List.setIfInBounds_toArray, List.set_cons_zero, List.set_cons_succ]
                  refine wpAnyH_take (i := 18) (oi := { dst := some 119, op := Op.move (Operand.tmp 118), type := 4, pos := "law.go:124", after := #[{ on := 17, ground := Ground.data }, { on := 6, ground := Ground.chain }], guard := none }) (v := ?_) rfl (by kernel_rfl) (by kernel_rfl) (by kernel_rfl) (fun _ _ _ h => h) (Or.inl ⟨by rfl, ?_⟩) hHeld ?_
                  rotate_left 1
                  · intro W hSw
                    (try dsimp only at hSw)
                    go_simp
                    try with_reducible rfl
                  try simp only [Act.put, List.setIfInBounds_toArray, List.set_cons_zero, List.set_cons_succ]
                  refine wpAnyH_ready (rs := [19]) (by kernel_rfl) (by simp) ?_
                  refine AllReadyH.cons (o := { dst := some 120, op := Op.call { callee := Callee.value (Operand.func 9), args := #[], argTypes := #[] }, type := 4, pos := "law.go:124", after := #[{ on := 18, ground := Ground.chain }, { on := 18, ground := Ground.guard }], guard := some (18, true) }) rfl (fun K7 hK7 => ?_) ?_
                  · go_simp
                    refine (awake_any _).mono ?_
                    rintro e w9 ⟨rfl, hb⟩
                    have HB9 : Hid (Below w8.heap.size w8 w9) := Lib.hid ((below_drew (Below.refl _ w8)).trans hb)
                    clear hb
                    try dsimp only
                    refine hK7.out _ _ (HC17.out _ HB9.out) (fun hHeld => ?_)
                    clear hK7 K7
                    try simp only [Act.put, List.setIfInBounds_toArray, List.set_cons_zero, List.set_cons_succ]
                    refine wpAnyH_take (i := 20) (oi := { dst := some 121, op := Op.pick (Operand.tmp 119) (Operand.tmp 120) (Operand.const (Value.bool false)), type := 4, pos := "law.go:124", after := #[{ on := 18, ground := Ground.data }, { on := 19, ground := Ground.data }], guard := none }) (v := ?_) rfl (by kernel_rfl) (by kernel_rfl) (by kernel_rfl) (fun _ _ _ h => h) (Or.inl ⟨by rfl, ?_⟩) hHeld ?_
                    rotate_left 1
                    · intro W hSw
                      (try dsimp only at hSw)
                      go_simp
                      try with_reducible rfl
                    try simp only [Act.put, List.setIfInBounds_toArray, List.set_cons_zero, List.set_cons_succ]
                    refine wpAnyH_take (i := 21) (oi := { dst := some 8, op := Op.assign (Operand.tmp 121), type := 4, pos := "law.go:124", after := #[{ on := 20, ground := Ground.data }, { on := 19, ground := Ground.chain }, { on := 0, ground := Ground.phase }, { on := 1, ground := Ground.phase }, { on := 2, ground := Ground.phase }, { on := 3, ground := Ground.phase }, { on := 4, ground := Ground.phase }, { on := 5, ground := Ground.phase }, { on := 6, ground := Ground.phase }, { on := 7, ground := Ground.phase }, { on := 8, ground := Ground.phase }, { on := 9, ground := Ground.phase }, { on := 10, ground := Ground.phase }, { on := 11, ground := Ground.phase }, { on := 12, ground := Ground.phase }, { on := 13, ground := Ground.phase }, { on := 14, ground := Ground.phase }, { on := 15, ground := Ground.phase }, { on := 16, ground := Ground.phase }, { on := 17, ground := Ground.phase }, { on := 18, ground := Ground.phase }, { on := 19, ground := Ground.phase }, { on := 20, ground := Ground.phase }], guard := none }) (v := ?_) rfl (by kernel_rfl) (by kernel_rfl) (by kernel_rfl) (fun _ _ _ h => h) (Or.inl ⟨by rfl, ?_⟩) hHeld ?_
                    rotate_left 1
                    · intro W hSw
                      (try dsimp only at hSw)
                      go_simp
                      try with_reducible rfl
                    try simp only [Act.put, List.setIfInBounds_toArray, List.set_cons_zero, List.set_cons_succ]
                    refine wpAnyH_done (by kernel_rfl) ?_ _
                    go_wp2
                    go_ret
                    exact ⟨rfl, HB8.out.trans (HB9.out.mono HB8.out.size)⟩
                  exact AllReadyH.nil
                  --R17BE
              exact AllReadyH.nil
            exact AllReadyH.nil
          exact AllReadyH.nil
          --R14E
    · have hf : True → decide ((L : Int) ≤ 40) = false := fun _ => by rw [decide_eq_false_iff_not]; omega
      go_enter Try.func7, Try.ntmps7
      go_wp2_with (first | (go_at_call 9; refine (awake_any _).mono ?_; rintro e w1 ⟨rfl, hb⟩; have HB := Lib.hid hb; clear hb) | (go_at_call 8; refine (few_any _ _ _ _).mono ?_; rintro e w1 ⟨rfl, rfl⟩))
      go_ret
      exact ⟨rfl, HB.out⟩

--LIFT
set_option maxRecDepth 100000 in
theorem liftedOrder (os : Os) (started : os.Started) (H : Type) (enc : TypeId × Value → H) :
    ReturnsInHanded {} Try.checked os 7 .any (Rows.crushOrderSpec.pre6 enc Try.prog Try.f7 Rows.crushOrderRow.domain false) (Rows.crushOrderSpec.post enc Try.prog Try.f7 false true false false) := by
  refine lift.law (C := Try.checked) own started (by kernel_rfl) Try.func7
    (ChangeSpec.witness6 (enc := enc) (C := Try.checked) false ⟨#[], #[.slice none 0 0, .int .i64 0, .int .u32 0, .int .i64 0], []⟩ 8 (by kernel_rfl) (by kernel_rfl) (by kernel_rfl) (by kernel_rfl)) laidOut (by kernel_rfl) 4 Try.underlying4 (by kernel_rfl) rfl ?_ ?_
  · intro ds hd
    match ds, hd with
    | [_, _, _, _], _ => rfl
  · intro W base args ds ps hg
    have hA : DataW.TrodAll enc Try.prog W 0 (fun _ => true) true Try.f7.params.toList args.toList ds ps := hg.read
    have hval : ∀ (j : Nat) t v, Try.f7.params[j]? = some t → args[j]? = some v → Value.okWide Try.prog W .any base t v := hg.ok
    rw [Try.params7] at hA hval
    obtain ⟨v0, vs0, d0, ds0, p0, q0, hargs, rfl, rfl, h0, r0⟩ := trodAll_cons hA
    obtain ⟨v1, vs1, d1, ds1, p1, q1, rfl, rfl, rfl, h1, r1⟩ := trodAll_cons r0
    obtain ⟨v2, vs2, d2, ds2, p2, q2, rfl, rfl, rfl, h2, r2⟩ := trodAll_cons r1
    obtain ⟨v3, vs3, d3, ds3, p3, q3, rfl, rfl, rfl, h3, r3⟩ := trodAll_cons r2
    obtain ⟨rfl, rfl, rfl⟩ := trodAll_nil r3
    obtain rfl : args = #[v0, v1, v2, v3] := by cases args; simp_all
    obtain ⟨fs0, hs0, hok0, hcap0, hbulk0⟩ := itm_open (hval 0 22 v0 rfl rfl) h0
    obtain ⟨z1, rfl, rfl, rfl, w1⟩ := open_int Try.underlying3 (hval 1 3 v1 rfl rfl) h1
    obtain ⟨z2, rfl, rfl, rfl, w2⟩ := open_int Try.underlying23 (hval 2 23 v2 rfl rfl) h2
    have u2 := u32_pos z2 w2
    obtain ⟨n2, rfl⟩ : ∃ n : Nat, z2 = n := ⟨z2.toNat, by omega⟩
    obtain ⟨z3, rfl, rfl, rfl, w3⟩ := open_int Try.underlying3 (hval 3 3 v3 rfl rfl) h3
    exact walkOrder v0 fs0 z1 n2 z3 (by omega) W hs0 hcap0

theorem order_holds : Rows.CrushOrderSaid :=
  OpenClaim.holds_of_wide 7 Try.f7 rfl rfl rfl rfl rfl rfl rfl ⟨rfl, rfl, rfl, rfl, rfl⟩ rfl rfl rfl rfl rfl (by kernel_rfl) Try.func7 (by kernel_rfl)
    (of_decide_eq_true (by kernel_rfl)) (by unfold Func.isWrapper; first | (rw [if_pos (by decide +kernel)]; kernel_rfl) | (rw [if_neg (by decide +kernel)]; exact ⟨rfl, rfl⟩))
    (fun os started H enc _ => liftedOrder os started H enc)

#print axioms order_holds
end Go.Proofs.Ytnacobhhgeljoaa.crush
