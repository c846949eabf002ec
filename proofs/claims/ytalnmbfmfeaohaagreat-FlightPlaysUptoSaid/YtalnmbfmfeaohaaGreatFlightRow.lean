/- Rows of the call's own that are written in place. -/
import Derived.Test.YtalnmbfmfeaohaaGreatRows
import Derived.Test.YtalnmbfmfeaohaaGreatFlightSame
import Derived.Laws.Rows
namespace Go.Proofs.YtalnmbfmfeaohaaGreat.flight
open Go.RowKit
open Go.Proofs.YtalnmbfmfeaohaaGreat.kit Go.Proofs.YtalnmbfmfeaohaaGreat.own
set_option linter.unusedVariables false

/-- A run of stores into a list. -/
def setL {α : Type} (l : List α) : Nat → List α → List α
  | _, [] => l
  | o, v :: r => setL (l.set o v) (o + 1) r
theorem setL_len {α : Type} : ∀ (vs : List α) (o : Nat) (l : List α), (setL l o vs).length = l.length
  | [], _, _ => rfl
  | v :: r, o, l => by rw [setL, setL_len r]; simp
theorem setL_at {α : Type} : ∀ (vs : List α) (o : Nat) (l : List α) (t : Nat), o + vs.length ≤ l.length → (setL l o vs)[t]? = if o ≤ t ∧ t < o + vs.length then vs[t - o]? else l[t]?
  | [], o, l, t, _ => by rw [if_neg (by simp)]; rfl
  | v :: r, o, l, t, h => by
    have hl : o + 1 + r.length ≤ l.length := by simp at h; omega
    rw [setL, setL_at r (o + 1) _ t (by simpa using hl)]
    by_cases h1 : o + 1 ≤ t ∧ t < o + 1 + r.length
    · rw [if_pos h1, if_pos (by simp; omega)]
      obtain ⟨u, rfl⟩ : ∃ u, t = o + 1 + u := ⟨t - (o + 1), by omega⟩
      simp [show o + 1 + u - o = u + 1 by omega]
    · rw [if_neg h1]
      by_cases h2 : t = o
      · subst h2
        rw [if_pos (by simp), List.getElem?_set_self (by omega)]
        simp
      · rw [if_neg (by simp; omega), List.getElem?_set_ne (by omega)]

theorem heap_setCells (g : Nat) (t : TypeId) : ∀ (vs : List Value) (o : Nat) (w : World) (cur : Array Value), w.heap[g]? = some (.cells cur t (0, 0)) → (w.setCells g o vs).heap[g]? = some (.cells (setL cur.toList o vs).toArray t (0, 0))
  | [], o, w, cur, h => by rw [World.setCells, setL]; simpa using h
  | v :: r, o, w, cur, h => by
    rw [World.setCells, heap_setCells g t r (o + 1) _ _ (heap_setCell_same w g o cur t v h), setL]
    simp
theorem heap_setCells_other (g : Nat) : ∀ (vs : List Value) (o : Nat) (w : World) (k : Nat), k ≠ g → (w.setCells g o vs).heap[k]? = w.heap[k]?
  | [], o, w, k, _ => rfl
  | v :: r, o, w, k, h => by
    rw [World.setCells, heap_setCells_other g r (o + 1) _ k h, heap_setCell_other _ _ _ _ h]
theorem size_setCells (g : Nat) : ∀ (vs : List Value) (o : Nat) (w : World), (w.setCells g o vs).heap.size = w.heap.size
  | [], o, w => rfl
  | v :: r, o, w => by
    rw [World.setCells, size_setCells g r]
    show (w.heap.modify _ _).size = _
    rw [Array.size_modify]
theorem setCells_frame (g : Nat) : ∀ (vs : List Value) (o : Nat) (w : World), (w.setCells g o vs).os = w.os ∧ (w.setCells g o vs).tape = w.tape ∧ (w.setCells g o vs).output = w.output
  | [], o, w => ⟨rfl, rfl, rfl⟩
  | v :: r, o, w => by rw [World.setCells]; exact setCells_frame g r (o + 1) _
theorem grown_setCells (w : World) (g o : Nat) (vs : List Value) : w.grownBy (w.setCells g o vs) (some g) := by
  obtain ⟨h1, h2, h3⟩ := setCells_frame g vs o w
  exact ⟨h1, h2, h3, by rw [size_setCells]; exact Nat.le_refl _, fun k _ hn => heap_setCells_other g vs o w k (fun e => hn (by rw [e]))⟩
theorem below_grown {B : Nat} {w w' w'' : World} {g : Nat} (h : Below B w w') (hg : w'.grownBy w'' (some g)) (hB : B ≤ g) (hs : B ≤ w'.heap.size) : Below B w w'' :=
  h.grown hg hs (fun j hj => by cases hj; exact hB)

section
variable {α : Type} {enc : α → List Value} {k : Nat}
theorem flat_set (hk : ∀ x, (enc x).length = k) (hk0 : 0 < k) (xs : List α) (i : Nat) (hi : i < xs.length) (x : α) : setL (xs.flatMap enc) (i * k) (enc x) = (xs.set i x).flatMap enc := by
  have hb : i * k + (enc x).length ≤ (xs.flatMap enc).length := by
    rw [hk, flat_len hk]
    have := Nat.mul_le_mul_right k (show i + 1 ≤ xs.length from hi)
    rwa [Nat.add_mul, Nat.one_mul] at this
  apply List.ext_getElem?
  intro t
  rw [setL_at _ _ _ _ hb, hk]
  rcases Nat.lt_or_ge t (xs.length * k) with ht | ht
  · have hq : t / k < xs.length := (Nat.div_lt_iff_lt_mul hk0).2 ht
    have hd : t = t / k * k + t % k := (Nat.div_add_mod' t k).symm
    have hm := Nat.mod_lt t hk0
    have e1 : ((xs.set i x).flatMap enc)[t]? = (enc ((xs.set i x)[t / k]'(by simpa using hq)))[t % k]? := by
      conv => lhs; rw [hd]
      exact flat_at hk (xs.set i x) (t / k) (t % k) (by simpa using hq) hm
    have e2 : (xs.flatMap enc)[t]? = (enc xs[t / k])[t % k]? := by
      conv => lhs; rw [hd]
      exact flat_at hk xs (t / k) (t % k) hq hm
    rw [e1, e2, List.getElem_set]
    by_cases h : i = t / k
    · subst h
      rw [if_pos ⟨by omega, by omega⟩, if_pos rfl, show t - t / k * k = t % k by omega]
    · rw [if_neg h, if_neg]
      rintro ⟨h1, h2⟩
      apply h
      have a1 : i ≤ t / k := (Nat.le_div_iff_mul_le hk0).2 h1
      have a2 : t / k < i + 1 := (Nat.div_lt_iff_lt_mul hk0).2 (by rw [Nat.add_mul, Nat.one_mul]; exact h2)
      omega
  · have hn1 : (xs.flatMap enc)[t]? = none := by rw [List.getElem?_eq_none]; rw [flat_len hk]; exact ht
    have hn2 : ((xs.set i x).flatMap enc)[t]? = none := by rw [List.getElem?_eq_none]; rw [flat_len hk]; simpa using ht
    rw [hn1, hn2, if_neg]
    rintro ⟨h1, h2⟩
    have := Nat.mul_le_mul_right k (show i + 1 ≤ xs.length from hi)
    rw [Nat.add_mul, Nat.one_mul] at this
    omega

/-- The own row in its block. -/
structure OwnAt (enc : α → List Value) (k e : Nat) (w : World) (g cap : Nat) (xs : List α) : Prop where
  ex : ∃ cur, w.heap[g]? = some (.cells cur e (0, 0)) ∧ cur.size = cap * k ∧ cur.toList.take (xs.length * k) = xs.flatMap enc
  le : xs.length ≤ cap
  max : cap ≤ maxLen
theorem OwnAt.own {e B g cap : Nat} {w : World} {xs : List α} (hk : ∀ x, (enc x).length = k) (h : OwnAt enc k e w g cap xs) (hB : B ≤ g) : Own enc k e w B (.slice (some ⟨g, 0, none⟩) xs.length cap) xs := by
  obtain ⟨cur, h1, h2, h3⟩ := h.ex
  exact ⟨flat_len hk xs, .inr ⟨g, cap, cur, rfl, hB, h1, h.le, h.max, h2, h3⟩⟩
theorem Own.at {e B : Nat} {w : World} {v : Value} {xs : List α} (h : Own enc k e w B v xs) : (v = .slice none 0 0 ∧ xs = []) ∨ ∃ g cap, v = .slice (some ⟨g, 0, none⟩) xs.length cap ∧ B ≤ g ∧ OwnAt enc k e w g cap xs := by
  rcases h.2 with ⟨rfl, h0⟩ | ⟨g, cap, cur, rfl, hB, hg, hc, hm, hs, ht⟩
  · exact .inl ⟨rfl, List.eq_nil_of_length_eq_zero h0⟩
  · exact .inr ⟨g, cap, rfl, hB, ⟨cur, hg, hs, ht⟩, hc, hm⟩
theorem OwnAt.lt {e g cap : Nat} {w : World} {xs : List α} (h : OwnAt enc k e w g cap xs) : g < w.heap.size := by
  obtain ⟨cur, h1, _⟩ := h.ex
  exact (Array.getElem?_eq_some_iff.1 h1).1
theorem OwnAt.block {e g cap : Nat} {w w' : World} {xs : List α} (h : OwnAt enc k e w g cap xs) (hb : w'.heap[g]? = w.heap[g]?) : OwnAt enc k e w' g cap xs := by
  obtain ⟨cur, h1, h2, h3⟩ := h.ex
  exact ⟨⟨cur, hb.trans h1, h2, h3⟩, h.le, h.max⟩
theorem OwnAt.row {e g cap : Nat} {w : World} {xs : List α} (hk : ∀ x, (enc x).length = k) (h : OwnAt enc k e w g cap xs) (i : Nat) (hi : i < xs.length) : w.rangeAt g (i * k) (enc xs[i]) := by
  have h1 := (h.own (B := 0) hk (Nat.zero_le _)).read hk
  obtain ⟨_, a, c, e', _, hc⟩ := h1
  cases e'
  obtain ⟨b, off, e2, _, hc⟩ := hc (by omega)
  cases e2
  have := hc i hi
  rwa [Nat.zero_add] at this
theorem OwnAt.there {e g cap : Nat} {w : World} {xs : List α} (h : OwnAt enc k e w g cap xs) (i : Nat) (hi : i < cap) : w.there g (i * k) k := by
  obtain ⟨cur, h1, h2, h3⟩ := h.ex
  have := Nat.mul_le_mul_right k (show i + 1 ≤ cap from hi)
  rw [Nat.add_mul, Nat.one_mul] at this
  intro j hj
  have hlt : i * k + j < cur.size := by omega
  simp [World.cell?, World.frozen?, h1, hlt]
/-- A row is laid over another one. -/
theorem OwnAt.set {e g cap : Nat} {w : World} {xs : List α} (hk : ∀ x, (enc x).length = k) (hk0 : 0 < k) (h : OwnAt enc k e w g cap xs) (i : Nat) (hi : i < xs.length) (x : α) : OwnAt enc k e (w.setCells g (i * k) (enc x)) g cap (xs.set i x) := by
  obtain ⟨cur, h1, h2, h3⟩ := h.ex
  refine ⟨⟨_, heap_setCells g e (enc x) (i * k) w cur h1, ?_, ?_⟩, by simpa using h.le, h.max⟩
  · simpa [setL_len] using h2
  · rw [← flat_set hk hk0 xs i hi x, ← h3, List.length_set]
    have hlen : xs.length * k ≤ cur.toList.length := by
      have := Nat.mul_le_mul_right k h.le
      simpa [h2] using this
    have hb := Nat.mul_le_mul_right k (show i + 1 ≤ xs.length from hi)
    rw [Nat.add_mul, Nat.one_mul] at hb
    apply List.ext_getElem?
    intro t
    rw [List.getElem?_take, setL_at _ _ _ _ (by rw [hk]; omega), setL_at _ _ _ _ (by rw [hk, List.length_take]; omega), List.getElem?_take]
    by_cases ht : t < xs.length * k
    · simp only [ht, if_true]
    · simp only [ht, if_false]
      rw [if_neg]
      rw [hk]; omega
/-- Fewer of them. -/
theorem OwnAt.take {e g cap : Nat} {w : World} {xs : List α} (hk : ∀ x, (enc x).length = k) (h : OwnAt enc k e w g cap xs) (n : Nat) (hn : n ≤ xs.length) : OwnAt enc k e w g cap (xs.take n) := by
  obtain ⟨cur, h1, h2, h3⟩ := h.ex
  have hl : (xs.take n).length = n := by simp; omega
  refine ⟨⟨cur, h1, h2, ?_⟩, by rw [hl]; have := h.le; omega, h.max⟩
  have e1 : (xs.take n).flatMap enc = (xs.flatMap enc).take (n * k) := by
    have := congrArg (List.flatMap enc) (List.take_append_drop n xs)
    rw [List.flatMap_append] at this
    have e3 : ((xs.take n).flatMap enc).length = n * k := by rw [flat_len hk, hl]
    rw [← this]
    exact (List.take_left' e3).symm
  rw [e1, hl, ← h3, List.take_take, Nat.min_eq_left (Nat.mul_le_mul_right k hn)]
/-- What lies behind the first n of them is written over. -/
theorem OwnAt.tail {e g cap : Nat} {w : World} {xs : List α} (hk : ∀ x, (enc x).length = k) (h : OwnAt enc k e w g cap xs) (vs : List Value) : OwnAt enc k e (w.setCells g (xs.length * k) vs) g cap xs := by
  obtain ⟨cur, h1, h2, h3⟩ := h.ex
  refine ⟨⟨_, heap_setCells g e vs _ w cur h1, by simpa [setL_len] using h2, ?_⟩, h.le, h.max⟩
  rw [← h3]
  apply List.ext_getElem?
  intro t
  rw [List.getElem?_take, List.getElem?_take]
  by_cases ht : t < xs.length * k
  · simp only [ht, if_true]
    have keep : ∀ (vs : List Value) (o : Nat) (l : List Value), t < o → (setL l o vs)[t]? = l[t]? := by
      intro vs
      induction vs with
      | nil => intro o l _; rfl
      | cons v r ih => intro o l ho; rw [setL, ih (o + 1) _ (by omega), List.getElem?_set_ne (by omega)]
    exact keep vs _ _ ht
  · simp only [ht, if_false]
end

theorem OwnAt.thaw4 {α : Type} {enc : α → List Value} {k e g cap : Nat} {w : World} {xs : List α} (h : OwnAt enc k e w g cap xs) (i : Nat) : w.frozen? ⟨g, i * 4, none⟩ = false ∧ w.frozen? ⟨g, i * 4 + 1, none⟩ = false ∧ w.frozen? ⟨g, i * 4 + 2, none⟩ = false ∧ w.frozen? ⟨g, i * 4 + 3, none⟩ = false := by
  obtain ⟨cur, h1, _⟩ := h.ex
  refine ⟨?_, ?_, ?_, ?_⟩ <;> simp [World.frozen?, h1]
theorem OwnAt.thaw2 {α : Type} {enc : α → List Value} {k e g cap : Nat} {w : World} {xs : List α} (h : OwnAt enc k e w g cap xs) (i : Nat) : w.frozen? ⟨g, i * 2, none⟩ = false ∧ w.frozen? ⟨g, i * 2 + 1, none⟩ = false := by
  obtain ⟨cur, h1, _⟩ := h.ex
  refine ⟨?_, ?_⟩ <;> simp [World.frozen?, h1]
/-- 'clear' of a stretch of the own row. -/
theorem run_clear_row {P : Program} (w : World) (t e ty : TypeId) (z : Value) (ht : P.underlying t = some (.slice e)) (hv : ∀ w, (zeroValue e).run P w = .ok z w) (g o n c : Nat) (hn : 0 < n) (hth : w.there g o (n * z.cells.size)) (h1 : z.cells.all (·.oneCell') = true) :
    (Builtin.clear_ #[t] ty #[.slice (some ⟨g, o, none⟩) n c]).run P w = .ok (.tuple #[]) (w.setCells g o (Builtin.zeroCells z.cells n).toList) := by
  obtain ⟨m, rfl⟩ : ∃ m, n = m + 1 := ⟨n - 1, by omega⟩
  have hone : ∀ v ∈ (Builtin.zeroCells z.cells (m + 1)).toList, v.oneCell' = true := by
    intro v hv
    simp only [Builtin.zeroCells, Array.toList_map, List.mem_map] at hv
    obtain ⟨i, hi, rfl⟩ := hv
    have hi' : i < (m + 1) * z.cells.size := by simpa using hi
    have hs : 0 < z.cells.size := by rcases Nat.eq_zero_or_pos z.cells.size with h | h; · rw [h] at hi'; simp at hi'
                                     · exact h
    have hlt := Nat.mod_lt i hs
    rw [getElem!_pos z.cells _ hlt]
    exact (Array.all_eq_true_iff_forall_mem.1 h1) _ (Array.getElem_mem hlt)
  have hsz : (Builtin.zeroCells z.cells (m + 1)).toList.length = (m + 1) * z.cells.size := by rw [Array.length_toList, size_zeroCells]
  have hst := run_storeCells_cells (P := P) g o (Builtin.zeroCells z.cells (m + 1)).toList 0 w (fun j hj => by rw [Nat.add_zero]; exact (hth j (by rwa [hsz] at hj)).1) (fun j hj => by rw [Nat.add_zero]; exact (hth j (by rwa [hsz] at hj)).2) hone
  simp only [Nat.add_zero] at hst
  simp [Builtin.clear_, run_underlying ht, hv, hst]

end Go.Proofs.YtalnmbfmfeaohaaGreat.flight
