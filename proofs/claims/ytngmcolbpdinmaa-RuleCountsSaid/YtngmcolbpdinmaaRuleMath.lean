/- Plain mathematics of the layer rule: hosts, their nodes, tries, places. No program is named here. -/
import Derived.Test.YtngmcolbpdinmaaCrushMath
namespace Go.Proofs.Ytngmcolbpdinmaa.crush

set_option linter.unusedVariables false

/-- One of each run of equals. -/
def compW {α : Type} [DecidableEq α] : List α → List α
  | [] => []
  | [x] => [x]
  | x :: y :: r => if x = y then compW (y :: r) else x :: compW (y :: r)
theorem compW_ne {α : Type} [DecidableEq α] : ∀ (l : List α), l ≠ [] → compW l ≠ []
  | [], h => absurd rfl h
  | [x], _ => by simp [compW]
  | x :: y :: r, _ => by
    rw [compW]
    split
    · exact compW_ne (y :: r) (by simp)
    · simp
theorem compW_snoc {α : Type} [DecidableEq α] : ∀ (l : List α) (h : l ≠ []) (x : α), compW (l ++ [x]) = if l.getLast h = x then compW l else compW l ++ [x]
  | [], h, _ => absurd rfl h
  | [y], _, x => by
    show compW [y, x] = _
    rw [compW]
    by_cases e : y = x <;> simp [e, compW]
  | z :: y :: r, _, x => by
    have ih := compW_snoc (y :: r) (by simp) x
    show compW (z :: y :: (r ++ [x])) = _
    rw [compW, show y :: (r ++ [x]) = (y :: r) ++ [x] from rfl, ih]
    have e1 : (z :: y :: r).getLast (by simp) = (y :: r).getLast (by simp) := by simp
    rw [e1, compW]
    split <;> split <;> simp
theorem compW_take {α : Type} [DecidableEq α] (xs : List α) (m : Nat) (hm : m + 1 < xs.length) : compW (xs.take (m + 2)) = if xs[m] = xs[m + 1] then compW (xs.take (m + 1)) else compW (xs.take (m + 1)) ++ [xs[m + 1]] := by
  have h1 : xs.take (m + 2) = xs.take (m + 1) ++ [xs[m + 1]] := List.take_succ_eq_append_getElem hm
  have hne : xs.take (m + 1) ≠ [] := by
    intro e
    have h := congrArg List.length e
    rw [List.length_take, List.length_nil] at h
    omega
  have hl : (xs.take (m + 1)).getLast hne = xs[m] := by
    rw [List.getLast_eq_getElem]
    simp [List.getElem_take, Nat.min_eq_left (show m + 1 ≤ xs.length from Nat.le_of_lt hm)]
  rw [h1, compW_snoc _ hne, hl]
theorem compW_len {α : Type} [DecidableEq α] : ∀ (l : List α), (compW l).length ≤ l.length
  | [] => by simp [compW]
  | [x] => by simp [compW]
  | x :: y :: r => by
    have ih := compW_len (y :: r)
    rw [compW]
    split <;> simp only [List.length_cons] at * <;> omega
theorem compW_mem {α : Type} [DecidableEq α] : ∀ (l : List α) (z : α), z ∈ compW l ↔ z ∈ l
  | [], z => by simp [compW]
  | [x], z => by simp [compW]
  | x :: y :: r, z => by
    have ih := compW_mem (y :: r) z
    rw [compW]
    split
    · rename_i e; subst e; rw [ih]; simp
    · rw [List.mem_cons, ih]; simp
theorem compW_self {α : Type} [DecidableEq α] : ∀ (l : List α), (∀ i (h : i + 1 < l.length), l[i] ≠ l[i + 1]) → compW l = l
  | [], _ => rfl
  | [x], _ => rfl
  | x :: y :: r, h => by
    have h0 := h 0 (by simp)
    simp only [List.getElem_cons_zero, List.getElem_cons_succ] at h0
    rw [compW, if_neg h0, compW_self (y :: r) (fun i hi => by
      have := h (i + 1) (by simp only [List.length_cons] at hi ⊢; omega)
      simpa using this)]
/-- Rising numbers, each unlike its neighbour, are strictly rising. -/
theorem compW_lt : ∀ (l : List Int), l.Pairwise (· ≤ ·) → (compW l).Pairwise (· < ·)
  | [], _ => by simp [compW]
  | [x], _ => by simp [compW]
  | x :: y :: r, h => by
    have h2 := List.pairwise_cons.1 h
    have ih := compW_lt (y :: r) h2.2
    rw [compW]
    split
    · exact ih
    · rename_i hne
      refine List.pairwise_cons.2 ⟨fun z hz => ?_, ih⟩
      have hz' := (compW_mem (y :: r) z).1 hz
      have h3 := h2.1 y (by simp)
      rcases List.mem_cons.1 hz' with rfl | hz2
      · omega
      · have := (List.pairwise_cons.1 h2.2).1 z hz2; omega

/-- Numbers in their order. -/
def sortI (xs : List Int) : List Int := xs.mergeSort fun x y => decide (x ≤ y)
theorem sortI_len (xs : List Int) : (sortI xs).length = xs.length := by unfold sortI; exact List.length_mergeSort ..
theorem sortI_le (xs : List Int) : (sortI xs).Pairwise (· ≤ ·) := by
  unfold sortI
  have h := List.pairwise_mergeSort (le := fun x y : Int => decide (x ≤ y)) (fun a b c h1 h2 => by simp at *; omega) (fun a b => by simp; omega) xs
  exact h.imp (fun h => by simpa using h)
/-- The numbers of a row, each once, rising. -/
def onceL (xs : List Int) : List Int := compW (sortI xs)
theorem onceL_len (xs : List Int) : (onceL xs).length ≤ xs.length := by
  unfold onceL
  have := compW_len (sortI xs)
  rw [sortI_len] at this
  exact this
theorem onceL_mem (xs : List Int) (z : Int) : z ∈ onceL xs ↔ z ∈ xs := by
  unfold onceL
  rw [compW_mem]
  unfold sortI
  exact List.mem_mergeSort
theorem onceL_lt (xs : List Int) : (onceL xs).Pairwise (· < ·) := compW_lt _ (sortI_le xs)
theorem nodup_of_lt {l : List Int} (h : l.Pairwise (· < ·)) : l.Nodup := h.imp (fun h => by omega)
theorem onceL_nodup (xs : List Int) : (onceL xs).Nodup := nodup_of_lt (onceL_lt xs)

/-- Two strictly rising rows of the same numbers are the same. -/
theorem rising_ext : ∀ {a b : List Int}, a.Pairwise (· < ·) → b.Pairwise (· < ·) → (∀ z, z ∈ a ↔ z ∈ b) → a = b
  | [], [], _, _, _ => rfl
  | [], y :: b, _, _, h => by have := (h y).2 (by simp); cases this
  | x :: a, [], _, _, h => by have := (h x).1 (by simp); cases this
  | x :: a, y :: b, ha, hb, h => by
    have ha' := List.pairwise_cons.1 ha
    have hb' := List.pairwise_cons.1 hb
    have hxy : x = y := by
      have h1 := (h x).1 (by simp)
      have h2 := (h y).2 (by simp)
      rcases List.mem_cons.1 h1 with e | h1
      · exact e
      · rcases List.mem_cons.1 h2 with e | h2
        · exact e.symm
        · have := hb'.1 x h1; have := ha'.1 y h2; omega
    subst hxy
    congr 1
    refine rising_ext ha'.2 hb'.2 (fun z => ⟨fun hz => ?_, fun hz => ?_⟩)
    · rcases List.mem_cons.1 ((h z).1 (by simp [hz])) with e | h1
      · have := ha'.1 z hz; omega
      · exact h1
    · rcases List.mem_cons.1 ((h z).2 (by simp [hz])) with e | h1
      · have := hb'.1 z hz; omega
      · exact h1
theorem rising_once {a xs : List Int} (ha : a.Pairwise (· < ·)) (h : ∀ z, z ∈ a ↔ z ∈ xs) : a = onceL xs :=
  rising_ext ha (onceL_lt xs) (fun z => by rw [onceL_mem]; exact h z)

/-- Different numbers out of a row are no more than it. -/
theorem nodup_sub_len {α : Type} [DecidableEq α] : ∀ {a b : List α}, a.Nodup → (∀ z ∈ a, z ∈ b) → a.length ≤ b.length
  | [], _, _, _ => Nat.zero_le _
  | x :: a, b, h, hs => by
    have h' := List.nodup_cons.1 h
    have hx : x ∈ b := hs x (by simp)
    have ih := nodup_sub_len (a := a) (b := b.erase x) h'.2 (fun z hz => by
      have : z ≠ x := fun e => h'.1 (e ▸ hz)
      exact (List.mem_erase_of_ne this).2 (hs z (by simp [hz])))
    rw [List.length_erase_of_mem hx] at ih
    have := List.length_pos_of_mem hx
    rw [List.length_cons]
    omega
theorem pigeon {α : Type} [DecidableEq α] {a b : List α} (ha : a.Nodup) (hs : ∀ z ∈ a, z ∈ b) (hl : b.length ≤ a.length) : ∀ z ∈ b, z ∈ a := by
  intro z hz
  by_cases h : z ∈ a
  · exact h
  · have := nodup_sub_len (a := z :: a) (b := b) (List.nodup_cons.2 ⟨h, ha⟩) (fun y hy => by
      rcases List.mem_cons.1 hy with rfl | hy
      · exact hz
      · exact hs y hy)
    rw [List.length_cons] at this
    omega
theorem nodup_len_eq {α : Type} [DecidableEq α] {a b : List α} (ha : a.Nodup) (hb : b.Nodup) (h : ∀ z, z ∈ a ↔ z ∈ b) : a.length = b.length :=
  Nat.le_antisymm (nodup_sub_len ha (fun z hz => (h z).1 hz)) (nodup_sub_len hb (fun z hz => (h z).2 hz))
theorem once_len_nodup (xs : List Int) : (onceL xs).length = xs.length ↔ xs.Nodup := by
  constructor
  · intro h
    -- by erasing: if one stood twice, the once-row would be shorter
    by_cases hn : xs.Nodup
    · exact hn
    · exfalso
      have key : ∀ l : List Int, ¬ l.Nodup → ∃ m : List Int, m.length < l.length ∧ ∀ z, z ∈ l → z ∈ m := by
        intro l
        induction l with
        | nil => intro h; exact absurd List.nodup_nil h
        | cons x l ih =>
          intro h
          by_cases hx : x ∈ l
          · exact ⟨l, by simp, fun z hz => by rcases List.mem_cons.1 hz with rfl | hz <;> assumption⟩
          · obtain ⟨m, h1, h2⟩ := ih (fun hl => h (List.nodup_cons.2 ⟨hx, hl⟩))
            exact ⟨x :: m, by simp; omega, fun z hz => by rcases List.mem_cons.1 hz with rfl | hz <;> simp [*]⟩
      obtain ⟨m, h1, h2⟩ := key xs hn
      have := nodup_sub_len (onceL_nodup xs) (fun z hz => h2 z ((onceL_mem xs z).1 hz))
      omega
  · intro h
    exact nodup_len_eq (onceL_nodup xs) h (onceL_mem xs)

/-- A node's weight as it counts. -/
def wtAt (ws : List Int) (i : Nat) : Int := max 0 (min (ws.getD i 0) 1048576)
theorem wtAt_range (ws : List Int) (i : Nat) : 0 ≤ wtAt ws i ∧ wtAt ws i ≤ 1048576 := by unfold wtAt; omega
/-- A host's weight, of the first n nodes. -/
def hostW (hs ws : List Int) (h : Int) : Nat → Int
  | 0 => 0
  | n + 1 => if hs.getD n 0 = h then min (hostW hs ws h n + wtAt ws n) 1048576 else hostW hs ws h n
theorem hostW_range (hs ws : List Int) (h : Int) : ∀ n, 0 ≤ hostW hs ws h n ∧ hostW hs ws h n ≤ 1048576
  | 0 => by simp [hostW]
  | n + 1 => by
    have := hostW_range hs ws h n
    have := wtAt_range ws n
    rw [hostW]
    split <;> omega
/-- The nodes of a host, of the first n. -/
def nodesOf (hs ws : List Int) (h : Int) : Nat → List It
  | 0 => []
  | n + 1 => if hs.getD n 0 = h then nodesOf hs ws h n ++ [((n : Int), wtAt ws n)] else nodesOf hs ws h n
theorem nodesOf_len (hs ws : List Int) (h : Int) : ∀ n, (nodesOf hs ws h n).length ≤ n
  | 0 => by simp [nodesOf]
  | n + 1 => by
    have := nodesOf_len hs ws h n
    rw [nodesOf]
    split
    · simp; omega
    · omega
theorem nodesOf_mem (hs ws : List Int) (h : Int) (y : It) : ∀ n, y ∈ nodesOf hs ws h n → ∃ k, k < n ∧ y = ((k : Int), wtAt ws k) ∧ hs.getD k 0 = h
  | 0, hy => by simp [nodesOf] at hy
  | n + 1, hy => by
    rw [nodesOf] at hy
    by_cases e : hs.getD n 0 = h
    · rw [if_pos e] at hy
      rcases List.mem_append.1 hy with hy | hy
      · obtain ⟨k, h1, h2⟩ := nodesOf_mem hs ws h y n hy
        exact ⟨k, by omega, h2⟩
      · exact ⟨n, by omega, List.mem_singleton.1 hy, e⟩
    · rw [if_neg e] at hy
      obtain ⟨k, h1, h2⟩ := nodesOf_mem hs ws h y n hy
      exact ⟨k, by omega, h2⟩
def itemsE (hs ws : List Int) : List It := (onceL hs).map fun h => (h, hostW hs ws h hs.length)
def nodesE (hs ws : List Int) : List (List It) := (onceL hs).map fun h => nodesOf hs ws h hs.length
theorem itemsE_len (hs ws : List Int) : (itemsE hs ws).length = (onceL hs).length := by simp [itemsE]
theorem nodesE_len (hs ws : List Int) : (nodesE hs ws).length = (onceL hs).length := by simp [nodesE]
/-- The domain of each node. -/
def domsE (d : Int) (hs : List Int) : List Int := if d = 2 then hs else (List.range hs.length).map fun i : Nat => (i : Int)
theorem domsE_len (d : Int) (hs : List Int) : (domsE d hs).length = hs.length := by unfold domsE; split <;> simp
/-- What a try gives. -/
def tryP (items : List It) (nodes : List (List It)) (x : Nat) (r : Int) : Option Nat :=
  match pick (keys x r items) with
  | none => none
  | some i => match pick (keys x (r + 64) (nodes.getD i [])) with
    | none => none
    | some k => some ((nodes.getD i []).getD k (0, 0)).1.toNat
def hasD (doms : List Int) (l : List Nat) (v : Nat) : Bool := l.any fun a => doms.getD a 0 == doms.getD v 0
def put1 (doms : List Int) (l : List Nat) (v : Nat) : List Nat := if hasD doms l v then l else l ++ [v]
def putO (doms : List Int) (l : List Nat) : Option Nat → List Nat
  | some v => put1 doms l v
  | none => l
/-- What is found in the first n tries. -/
def placeF (t : Nat → Option Nat) (doms : List Int) (size : Int) : Nat → List Nat
  | 0 => []
  | r + 1 => if ((placeF t doms size r).length : Int) < size then putO doms (placeF t doms size r) (t r) else placeF t doms size r
theorem put1_len (doms : List Int) (l : List Nat) (v : Nat) : (put1 doms l v).length ≤ l.length + 1 := by unfold put1; split <;> simp
theorem putO_len (doms : List Int) (l : List Nat) (v : Option Nat) : (putO doms l v).length ≤ l.length + 1 := by
  cases v
  · simp [putO]
  · exact put1_len _ _ _
theorem placeF_len (t : Nat → Option Nat) (doms : List Int) (size : Int) : ∀ n, (placeF t doms size n).length ≤ n ∧ ((placeF t doms size n).length : Int) ≤ max size 0
  | 0 => by simp [placeF]; omega
  | r + 1 => by
    obtain ⟨h1, h2⟩ := placeF_len t doms size r
    have := putO_len doms (placeF t doms size r) (t r)
    rw [placeF]
    split <;> omega
def tryE (hs ws : List Int) (x : Nat) (r : Nat) : Option Nat := tryP (itemsE hs ws) (nodesE hs ws) x r
/-- P12.3. -/
def placeE (hs ws : List Int) (x : Nat) (size d : Int) : List Nat := placeF (tryE hs ws x) (domsE d hs) size 64
/-- The nodes with a weight, their domains. -/
def withD (hs ws : List Int) (d : Int) : Nat → List Int
  | 0 => []
  | n + 1 => if 0 < wtAt ws n then withD hs ws d n ++ [(domsE d hs).getD n 0] else withD hs ws d n
def mostE (hs ws : List Int) (size d : Int) : Nat := min size.toNat (onceL (withD hs ws d hs.length)).length
theorem withD_len (hs ws : List Int) (d : Int) : ∀ n, (withD hs ws d n).length ≤ n
  | 0 => by simp [withD]
  | n + 1 => by
    have := withD_len hs ws d n
    rw [withD]
    split
    · simp; omega
    · omega
theorem withD_mem (hs ws : List Int) (d z : Int) : ∀ n, z ∈ withD hs ws d n ↔ ∃ k, k < n ∧ 0 < wtAt ws k ∧ z = (domsE d hs).getD k 0
  | 0 => by simp [withD]
  | n + 1 => by
    have ih := withD_mem hs ws d z n
    rw [withD]
    by_cases h : 0 < wtAt ws n
    · rw [if_pos h, List.mem_append, ih]
      constructor
      · rintro (⟨k, h1, h2⟩ | h1)
        · exact ⟨k, by omega, h2⟩
        · exact ⟨n, by omega, h, List.mem_singleton.1 h1⟩
      · rintro ⟨k, h1, h2, h3⟩
        by_cases e : k = n
        · subst e; exact .inr (List.mem_singleton.2 h3)
        · exact .inl ⟨k, by omega, h2, h3⟩
    · rw [if_neg h, ih]
      constructor
      · rintro ⟨k, h1, h2⟩; exact ⟨k, by omega, h2⟩
      · rintro ⟨k, h1, h2, h3⟩
        by_cases e : k = n
        · subst e; exact absurd h2 h
        · exact ⟨k, by omega, h2, h3⟩

/-- What a try gives is a node with a weight. -/
theorem tryE_some {hs ws : List Int} {x r v : Nat} (h : tryE hs ws x r = some v) : v < hs.length ∧ 0 < wtAt ws v := by
  unfold tryE tryP at h
  cases hp : pick (keys x r (itemsE hs ws)) with
  | none => rw [hp] at h; cases h
  | some i =>
    rw [hp] at h
    simp only at h
    cases hq : pick (keys x ((r : Int) + 64) ((nodesE hs ws).getD i [])) with
    | none => rw [hq] at h; cases h
    | some k =>
      rw [hq] at h
      have hv : (((nodesE hs ws).getD i []).getD k (0, 0)).1.toNat = v := by simpa using h
      have h1 := pick_is.1 hq
      have hk := h1.1
      have h2 := h1.2.1
      rw [keys_len] at hk
      have h3 : wO (keys x ((r : Int) + 64) ((nodesE hs ws).getD i [])) k = wtN (((nodesE hs ws).getD i []).getD k (0, 0)).2 := by
        generalize ((nodesE hs ws).getD i []) = l at hk
        unfold wO keys
        simp [List.getD_eq_getElem?_getD, List.getElem?_eq_getElem hk, keyOf]
      rw [h3, wtN_pos] at h2
      have hi : i < (nodesE hs ws).length := by
        have := pick_lt hp
        rw [keys_len, itemsE_len] at this
        rw [nodesE_len]; exact this
      have e1 : (nodesE hs ws).getD i [] = nodesOf hs ws ((onceL hs)[i]'(by rw [nodesE_len] at hi; exact hi)) hs.length := by
        rw [List.getD_eq_getElem?_getD, List.getElem?_eq_getElem hi]
        simp [nodesE]
      rw [e1] at hv h2 hk
      rw [List.getD_eq_getElem?_getD, List.getElem?_eq_getElem hk] at hv h2
      simp only [Option.getD_some] at hv h2
      obtain ⟨m, h5, h6, _⟩ := nodesOf_mem _ _ _ _ _ (List.getElem_mem hk)
      rw [h6] at hv h2
      simp only [Int.toNat_natCast] at hv h2
      subst hv
      exact ⟨h5, by omega⟩
theorem tryP_none {items : List It} {x x' : Nat} {r r' : Int} (h : pick (keys x r items) = none) : pick (keys x' r' items) = none := by
  rw [pick_none] at h ⊢
  intro j hj
  rw [keys_len] at hj h
  have h2 := h j hj
  clear h
  unfold wO keys at h2 ⊢
  simp [List.getD_eq_getElem?_getD, List.getElem?_eq_getElem hj, keyOf] at h2 ⊢
  exact h2

/-- The domains of what is found: each once. -/
theorem placeF_dom (t : Nat → Option Nat) (doms : List Int) (size : Int) : ∀ n, ((placeF t doms size n).map fun a => doms.getD a 0).Nodup
  | 0 => by simp [placeF]
  | r + 1 => by
    have ih := placeF_dom t doms size r
    rw [placeF]
    split
    · cases ht : t r with
      | none => exact ih
      | some v =>
        show ((put1 doms _ v).map _).Nodup
        unfold put1
        split
        · exact ih
        · rename_i hh
          rw [List.map_append, List.nodup_append]
          refine ⟨ih, by simp, ?_⟩
          intro a ha b hb hab
          simp at hb
          subst hb
          obtain ⟨c, hc, rfl⟩ := List.mem_map.1 ha
          apply hh
          unfold hasD
          rw [List.any_eq_true]
          exact ⟨c, hc, by simpa using hab⟩
    · exact ih
theorem placeF_mem (t : Nat → Option Nat) (doms : List Int) (size : Int) (P : Nat → Prop) (hP : ∀ r v, t r = some v → P v) : ∀ n, ∀ a ∈ placeF t doms size n, P a
  | 0, a, h => by simp [placeF] at h
  | r + 1, a, h => by
    have ih := placeF_mem t doms size P hP r
    rw [placeF] at h
    split at h
    · cases ht : t r with
      | none => rw [ht] at h; exact ih a h
      | some v =>
        rw [ht] at h
        have h : a ∈ put1 doms _ v := h
        unfold put1 at h
        split at h
        · exact ih a h
        · rcases List.mem_append.1 h with h | h
          · exact ih a h
          · rw [List.mem_singleton.1 h]; exact hP r v ht
    · exact ih a h
/-- Behind the end nothing more is found. -/
theorem placeF_stay (t : Nat → Option Nat) (doms : List Int) (size : Int) (r : Nat) (h : ∀ k, r ≤ k → ((placeF t doms size r).length : Int) < size → putO doms (placeF t doms size r) (t k) = placeF t doms size r) : ∀ m, placeF t doms size (r + m) = placeF t doms size r
  | 0 => rfl
  | m + 1 => by
    have ih := placeF_stay t doms size r h m
    show placeF t doms size (r + m + 1) = _
    rw [placeF, ih]
    split
    · rename_i hl
      exact h (r + m) (by omega) hl
    · rfl
theorem placeE_full {hs ws : List Int} {x : Nat} {size d : Int} {r : Nat} (h : (placeF (tryE hs ws x) (domsE d hs) size r).length = mostE hs ws size d) (hr : r ≤ 64) : placeE hs ws x size d = placeF (tryE hs ws x) (domsE d hs) size r := by
  unfold placeE
  rw [show 64 = r + (64 - r) by omega]
  refine placeF_stay _ _ _ r (fun k hk hlt => ?_) _
  cases ht : tryE hs ws x k with
  | none => rfl
  | some v =>
    have hv := tryE_some ht
    show put1 _ _ v = _
    unfold put1
    rw [if_pos]
    obtain ⟨l, hl⟩ : ∃ l, placeF (tryE hs ws x) (domsE d hs) size r = l := ⟨_, rfl⟩
    rw [hl] at h hlt ⊢
    have hlt2 : l.length < size.toNat := by omega
    have hm : l.length = (onceL (withD hs ws d hs.length)).length := by unfold mostE at h; omega
    have hnd := placeF_dom (tryE hs ws x) (domsE d hs) size r
    have hmem := placeF_mem (tryE hs ws x) (domsE d hs) size (fun a => a < hs.length ∧ 0 < wtAt ws a) (fun r v h => tryE_some h) r
    rw [hl] at hnd hmem
    have hp := pigeon hnd (b := onceL (withD hs ws d hs.length)) (fun z hz => by
      obtain ⟨a, ha, rfl⟩ := List.mem_map.1 hz
      rw [onceL_mem, withD_mem]
      exact ⟨a, (hmem a ha).1, (hmem a ha).2, rfl⟩) (by rw [List.length_map]; omega) ((domsE d hs).getD v 0) (by
        rw [onceL_mem, withD_mem]
        exact ⟨v, hv.1, hv.2, rfl⟩)
    obtain ⟨a, ha, he⟩ := List.mem_map.1 hp
    unfold hasD
    rw [List.any_eq_true]
    exact ⟨a, ha, by simpa using he⟩
theorem placeE_none {hs ws : List Int} {x : Nat} {size d : Int} {r : Nat} (h : pick (keys x r (itemsE hs ws)) = none) (hr : r ≤ 64) : placeE hs ws x size d = placeF (tryE hs ws x) (domsE d hs) size r := by
  unfold placeE
  rw [show 64 = r + (64 - r) by omega]
  refine placeF_stay _ _ _ r (fun k hk hlt => ?_) _
  have : tryE hs ws x k = none := by
    unfold tryE tryP
    rw [tryP_none (x' := x) (r' := (k : Int)) h]
  rw [this]
  rfl
/-- What is found is no more than there may be. -/
theorem placeF_most {hs ws : List Int} {x : Nat} {size d : Int} (r : Nat) : (placeF (tryE hs ws x) (domsE d hs) size r).length ≤ mostE hs ws size d := by
  have h2 := (placeF_len (tryE hs ws x) (domsE d hs) size r).2
  have hnd := placeF_dom (tryE hs ws x) (domsE d hs) size r
  have hmem := placeF_mem (tryE hs ws x) (domsE d hs) size (fun a => a < hs.length ∧ 0 < wtAt ws a) (fun r v h => tryE_some h) r
  have := nodup_sub_len hnd (b := onceL (withD hs ws d hs.length)) (fun z hz => by
    obtain ⟨a, ha, rfl⟩ := List.mem_map.1 hz
    rw [onceL_mem, withD_mem]
    exact ⟨a, (hmem a ha).1, (hmem a ha).2, rfl⟩)
  rw [List.length_map] at this
  unfold mostE
  omega
theorem placeE_zero {hs ws : List Int} {x : Nat} {size d : Int} (h : mostE hs ws size d = 0) : placeE hs ws x size d = [] := by
  have := placeF_most (hs := hs) (ws := ws) (x := x) (size := size) (d := d) 64
  exact List.eq_nil_of_length_eq_zero (by unfold placeE; omega)
end Go.Proofs.Ytngmcolbpdinmaa.crush
