/- How often nodes are chosen, and how many copies move: the numbers. -/
import Derived.Test.YtngmcolbpdinmaaRuleMath2
namespace Go.Proofs.Ytngmcolbpdinmaa.crush
set_option linter.unusedVariables false

/-- One more of p. -/
def bump (ns : List Nat) (p : Nat) : List Nat := ns.set p (ns.getD p 0 + 1)
theorem bump_len (ns : List Nat) (p : Nat) : (bump ns p).length = ns.length := by simp [bump]
/-- .. of the first j of a row. -/
def bumpN (ns : List Nat) (l : List Nat) : Nat → List Nat
  | 0 => ns
  | j + 1 => bump (bumpN ns l j) (l.getD j 0)
theorem bumpN_len (ns l : List Nat) : ∀ j, (bumpN ns l j).length = ns.length
  | 0 => rfl
  | j + 1 => by rw [bumpN, bump_len, bumpN_len ns l j]
theorem bump_le (ns : List Nat) (p i : Nat) : (bump ns p).getD i 0 ≤ ns.getD i 0 + 1 := by
  unfold bump
  simp only [List.getD_eq_getElem?_getD, List.getElem?_set]
  by_cases h : p = i
  · subst h
    rw [if_pos rfl]
    by_cases hl : p < ns.length
    · rw [if_pos hl]; simp
    · rw [if_neg hl]; simp
  · rw [if_neg h]; omega
theorem bumpN_le (ns l : List Nat) (i : Nat) : ∀ j, (bumpN ns l j).getD i 0 ≤ ns.getD i 0 + j
  | 0 => by simp [bumpN]
  | j + 1 => by
    have h1 := bump_le (bumpN ns l j) (l.getD j 0) i
    have h2 := bumpN_le ns l i j
    rw [bumpN]; omega
theorem bump_sum (ns : List Nat) (p : Nat) (h : p < ns.length) : (bump ns p).sum = ns.sum + 1 := by
  unfold bump
  induction ns generalizing p with
  | nil => simp at h
  | cons a r ih =>
    cases p with
    | zero => simp; omega
    | succ q =>
      have := ih q (by simpa using h)
      simp only [List.set_cons_succ, List.sum_cons, List.getD_cons_succ]
      omega
theorem bumpN_sum (ns l : List Nat) (h : ∀ v ∈ l, v < ns.length) : ∀ j, j ≤ l.length → (bumpN ns l j).sum = ns.sum + j
  | 0, _ => by simp [bumpN]
  | j + 1, hj => by
    have ih := bumpN_sum ns l h j (by omega)
    have hg : l.getD j 0 = l[j] := by rw [List.getD_eq_getElem?_getD, List.getElem?_eq_getElem (by omega)]; rfl
    rw [bumpN, bump_sum _ _ (by rw [bumpN_len, hg]; exact h _ (List.getElem_mem _)), ih]
    omega

/-- The place that the number k from x on gives. -/
def plAt (hs ws : List Int) (x : Nat) (size d : Int) (k : Nat) : List Nat := placeE hs ws ((x + k) % 4294967296) size d
theorem plAt_lt (hs ws : List Int) (x : Nat) (size d : Int) (k : Nat) : ∀ v ∈ plAt hs ws x size d k, v < hs.length :=
  placeF_mem _ _ _ (fun v => v < hs.length) (fun r v h => (tryE_some h).1) 64
theorem plAt_len (hs ws : List Int) (x : Nat) (size d : Int) (k : Nat) : (plAt hs ws x size d k).length ≤ 64 := (placeF_len _ _ _ 64).1
theorem plAt_nodup (hs ws : List Int) (x : Nat) (size d : Int) (k : Nat) : (plAt hs ws x size d k).Nodup := by
  have h := placeF_dom (tryE hs ws ((x + k) % 4294967296)) (domsE d hs) size 64
  rw [List.nodup_iff_pairwise_ne, List.pairwise_map] at h
  rw [List.nodup_iff_pairwise_ne]
  exact h.imp fun hab e => hab (by rw [e])

/-- How often each is chosen, of the first k. -/
def loadF (hs ws : List Int) (x : Nat) (size d : Int) : Nat → List Nat
  | 0 => List.replicate hs.length 0
  | k + 1 => bumpN (loadF hs ws x size d k) (plAt hs ws x size d k) (plAt hs ws x size d k).length
theorem loadF_len (hs ws : List Int) (x : Nat) (size d : Int) : ∀ k, (loadF hs ws x size d k).length = hs.length
  | 0 => by simp [loadF]
  | k + 1 => by rw [loadF, bumpN_len, loadF_len hs ws x size d k]
theorem loadF_le (hs ws : List Int) (x : Nat) (size d : Int) (i : Nat) : ∀ k, (loadF hs ws x size d k).getD i 0 ≤ 64 * k
  | 0 => by
    simp only [loadF, List.getD_eq_getElem?_getD, List.getElem?_replicate]
    split <;> simp
  | k + 1 => by
    have h1 := loadF_le hs ws x size d i k
    have h2 := bumpN_le (loadF hs ws x size d k) (plAt hs ws x size d k) i (plAt hs ws x size d k).length
    have h3 := plAt_len hs ws x size d k
    rw [loadF]; omega
def lensF (hs ws : List Int) (x : Nat) (size d : Int) : Nat → Nat
  | 0 => 0
  | k + 1 => lensF hs ws x size d k + (plAt hs ws x size d k).length
theorem loadF_sum (hs ws : List Int) (x : Nat) (size d : Int) : ∀ k, (loadF hs ws x size d k).sum = lensF hs ws x size d k
  | 0 => by simp [loadF, lensF]
  | k + 1 => by
    have h1 := bumpN_sum (loadF hs ws x size d k) (plAt hs ws x size d k) (fun v hv => by rw [loadF_len]; exact plAt_lt hs ws x size d k v hv) _ (Nat.le_refl _)
    rw [loadF, h1, loadF_sum hs ws x size d k, lensF]

/-- How many of the first j of b stand not in a. -/
def missN (a b : List Nat) : Nat → Nat
  | 0 => 0
  | j + 1 => missN a b j + if a.contains (b.getD j 0) then 0 else 1
theorem missN_le (a b : List Nat) : ∀ j, missN a b j ≤ j
  | 0 => Nat.le_refl _
  | j + 1 => by
    have := missN_le a b j
    rw [missN]; split <;> omega
theorem missN_self (a : List Nat) : ∀ j, j ≤ a.length → missN a a j = 0
  | 0, _ => rfl
  | j + 1, hj => by
    rw [missN, missN_self a j (by omega), if_pos]
    rw [List.contains_iff_mem, List.getD_eq_getElem?_getD, List.getElem?_eq_getElem (by omega)]
    exact List.getElem_mem _
/-- How many copies move, of the first k. -/
def movR (hs ws wo : List Int) (x : Nat) (size d : Int) : Nat → Nat
  | 0 => 0
  | k + 1 => movR hs ws wo x size d k + missN (plAt hs ws x size d k) (plAt hs wo x size d k) (plAt hs wo x size d k).length
theorem movR_le (hs ws wo : List Int) (x : Nat) (size d : Int) : ∀ k, movR hs ws wo x size d k ≤ 64 * k
  | 0 => Nat.le_refl _
  | k + 1 => by
    have h1 := movR_le hs ws wo x size d k
    have h2 := missN_le (plAt hs ws x size d k) (plAt hs wo x size d k) (plAt hs wo x size d k).length
    have h3 := plAt_len hs wo x size d k
    rw [movR]; omega
theorem movR_same (hs ws : List Int) (x : Nat) (size d : Int) : ∀ k, movR hs ws ws x size d k = 0
  | 0 => rfl
  | k + 1 => by rw [movR, movR_same hs ws x size d k, missN_self _ _ (Nat.le_refl _)]
end Go.Proofs.Ytngmcolbpdinmaa.crush
