/- What stays of a fit flight through puts, takes, cuts, joins and losses. -/
import Derived.Test.YtalnmbfmfeaohaaGreatRows
import Derived.Test.YtalnmbfmfeaohaaGreatFlightTake
import Derived.Test.YtalnmbfmfeaohaaGreatFlightJoin
import Derived.Test.YtalnmbfmfeaohaaGreatFlightLose
import Derived.Test.YtalnmbfmfeaohaaGreatFlightROn
namespace Go.Proofs.YtalnmbfmfeaohaaGreat.flight
open Go.RowKit
open Go.Proofs.YtalnmbfmfeaohaaGreat.kit Go.Proofs.YtalnmbfmfeaohaaGreat.own
set_option linter.unusedVariables false
set_option linter.unusedSimpArgs false

theorem rise_iff (next : Int) : ∀ (last : Int) (l : List Frm), rise next last l = true ↔ (∀ x ∈ l, last < x.num ∧ x.num ≤ next) ∧ l.Pairwise (fun x y => x.num < y.num)
  | last, [] => by simp [rise]
  | last, x :: r => by
    have ih := rise_iff next x.num r
    rw [rise]
    simp only [Bool.and_eq_true, decide_eq_true_eq, Bool.not_eq_true', decide_eq_false_iff_not, ih, List.pairwise_cons, List.mem_cons, forall_eq_or_imp]
    constructor
    · intro h
      refine ⟨⟨by omega, fun y hy => ?_⟩, fun y hy => (h.2.2.1 y hy).1, h.2.2.2⟩
      have := h.2.2.1 y hy; omega
    · intro h
      refine ⟨by omega, by omega, fun y hy => ⟨h.2.1 y hy, (h.1.2 y hy).2⟩, h.2.2⟩
theorem ltW_trans {x y z : Wy} (h1 : ltW x y = true) (h2 : ltW y z = true) : ltW x z = true := by
  unfold ltW at *
  simp only [decide_eq_true_eq] at *
  omega
theorem wrise_iff : ∀ (p : Option Wy) (l : List Wy), wrise p l = true ↔ (∀ y ∈ l, y.1 ≠ y.2 ∧ ∀ q, p = some q → ltW q y = true) ∧ l.Pairwise (fun x y => ltW x y = true)
  | p, [] => by simp [wrise]
  | p, x :: r => by
    have ih := wrise_iff (some x) r
    rw [wrise_cons]
    simp only [Bool.and_eq_true, Bool.not_eq_true', beq_eq_false_iff_ne, ih, List.pairwise_cons, List.mem_cons, forall_eq_or_imp]
    constructor
    · rintro ⟨h1, h2, h3, h4⟩
      refine ⟨⟨⟨h1, fun q hq => by subst hq; exact h2⟩, fun y hy => ⟨(h3 y hy).1, fun q hq => ?_⟩⟩, fun y hy => (h3 y hy).2 x rfl, h4⟩
      subst hq
      exact ltW_trans h2 ((h3 y hy).2 x rfl)
    · rintro ⟨⟨⟨h1, h2⟩, h3⟩, h4, h5⟩
      refine ⟨h1, ?_, fun y hy => ⟨(h3 y hy).1, fun q hq => by cases hq; exact h4 y hy⟩, h5⟩
      cases p with
      | none => rfl
      | some q => exact h2 q rfl

/-- A fit flight with at most k ways cut. -/
structure Good (f : Flt) (k : Nat) : Prop where
  n0 : 0 ≤ f.next
  n1 : f.next ≤ 4611686018427387904
  len : f.list.length ≤ 65536
  up : ∀ x ∈ f.list, 0 < x.num ∧ x.num ≤ f.next
  rise : f.list.Pairwise (fun x y => x.num < y.num)
  ne : ∀ y ∈ f.cut, y.1 ≠ y.2
  wr : f.cut.Pairwise (fun x y => ltW x y = true)
  ok : ∀ x ∈ f.list, Frm.Ok x
  way : ∀ y ∈ f.cut, Wy.Ok y
  cl : f.cut.length ≤ k
theorem good_fit {f : Flt} {k : Nat} (h : Good f k) : f.fit = true := by
  unfold Flt.fit
  rw [(rise_iff f.next 0 f.list).2 ⟨h.up, h.rise⟩, (wrise_iff none f.cut).2 ⟨fun y hy => ⟨h.ne y hy, fun q hq => by cases hq⟩, h.wr⟩, decide_eq_true h.n0, decide_eq_true h.n1, decide_eq_true h.len]
  rfl
theorem good_of {f : Flt} (h : f.fit = true) (ok : ∀ x ∈ f.list, Frm.Ok x) (way : ∀ y ∈ f.cut, Wy.Ok y) : Good f f.cut.length := by
  unfold Flt.fit at h
  simp only [Bool.and_eq_true, decide_eq_true_eq] at h
  obtain ⟨h1, h2, h3, h4, h5⟩ := h
  obtain ⟨a, b⟩ := (rise_iff f.next 0 f.list).1 h4
  obtain ⟨c, d⟩ := (wrise_iff none f.cut).1 h5
  exact ⟨h1, h2, h3, a, b, fun y hy => (c y hy).1, d, ok, way, Nat.le_refl _⟩
theorem Good.mono {f : Flt} {k k' : Nat} (h : Good f k) (hk : k ≤ k') : Good f k' := ⟨h.n0, h.n1, h.len, h.up, h.rise, h.ne, h.wr, h.ok, h.way, Nat.le_trans h.cl hk⟩
theorem Good.fits {f : Flt} {k : Nat} (h : Good f k) (hk : k * 16 ≤ 140737488355328) : f.Fits := ⟨h.ok, h.way, by have := h.len; omega, by have := h.cl; omega⟩
theorem Good.i64 {f : Flt} {k : Nat} (h : Good f k) : I64 f.next := by have := h.n0; have := h.n1; unfold I64; omega
theorem Good.nodup {f : Flt} {k : Nat} (h : Good f k) : f.cut.Pairwise (· ≠ ·) := h.wr.imp fun {x y} hxy e => by
  subst e
  unfold ltW at hxy
  simp at hxy
/-- Fewer frames, and fewer ways. -/
theorem Good.sub {f : Flt} {k : Nat} (h : Good f k) {l : List Frm} {c : List Wy} (hl : l.Sublist f.list) (hc : c.Sublist f.cut) : Good ⟨f.next, l, c⟩ k :=
  ⟨h.n0, h.n1, Nat.le_trans hl.length_le h.len, fun x hx => h.up x (hl.subset hx), h.rise.sublist hl, fun y hy => h.ne y (hc.subset hy), h.wr.sublist hc, fun x hx => h.ok x (hl.subset hx), fun y hy => h.way y (hc.subset hy), Nat.le_trans hc.length_le h.cl⟩
theorem good_zero : Good ⟨0, [], []⟩ 0 := ⟨by decide, by decide, by decide, by simp, by simp, by simp, by simp, by simp, by simp, by decide⟩

theorem good_put {f : Flt} {k : Nat} (h : Good f k) (a b : Int) (t : ByteArray) (hw : Wy.Ok (a, b)) : Good (putE f a b t).1 k ∧
    ((putE f a b t).2.2 = 0 → (putE f a b t).2.1 = f.next + 1 ∧ (putE f a b t).1.list = f.list ++ [⟨f.next + 1, a, b, t⟩] ∧ f.list.length < 65536 ∧ f.next < 4611686018427387904) ∧ (¬ (putE f a b t).2.2 = 0 → (putE f a b t).1 = f) := by
  unfold putE
  by_cases h0 : refE f (a, b) = 0
  · rw [if_pos h0]
    have h1 : f.list.length < 65536 ∧ f.next < 4611686018427387904 := by
      unfold refE at h0
      split at h0
      · cases h0
      · split at h0
        · cases h0
        · omega
    refine ⟨⟨by have := h.n0; simp only; omega, by have := h1.2; simp only; omega, by simp only [List.length_append, List.length_cons, List.length_nil]; omega, ?_, ?_, h.ne, h.wr, ?_, h.way, h.cl⟩, fun _ => ⟨rfl, rfl, h1⟩, fun hn => absurd rfl hn⟩
    · intro x hx
      simp only [List.mem_append, List.mem_singleton] at hx
      rcases hx with hx | rfl
      · have := h.up x hx; simp only; omega
      · have := h.n0; simp only; omega
    · simp only
      rw [List.pairwise_append]
      refine ⟨h.rise, by simp, fun x hx y hy => ?_⟩
      simp only [List.mem_singleton] at hy
      subst hy
      have := h.up x hx; simp only; omega
    · intro x hx
      simp only [List.mem_append, List.mem_singleton] at hx
      rcases hx with hx | rfl
      · exact h.ok x hx
      · have := h.n0
        refine ⟨by unfold I64; simp only; omega, by have := hw.1; unfold I64; simp only at *; omega, by have := hw.2; unfold I64; simp only at *; omega⟩
  · rw [if_neg h0]
    exact ⟨h, fun e => absurd e h0, fun _ => rfl⟩

theorem eraseP_gone {l : List Frm} (h : l.Pairwise (fun x y => x.num < y.num)) {k : Int} {x : Frm} (hf : l.find? (fun x => x.num == k) = some x) : (l.eraseP (fun x => x.num == k)).find? (fun x => x.num == k) = none := by
  induction l with
  | nil => simp at hf
  | cons y r ih =>
    obtain ⟨h1, h2⟩ := List.pairwise_cons.1 h
    rw [List.eraseP_cons]
    by_cases hy : (y.num == k) = true
    · rw [hy]
      show r.find? _ = none
      rw [List.find?_eq_none]
      intro z hz
      have := h1 z hz
      have e : y.num = k := by simpa using hy
      simp; omega
    · have hy' : (y.num == k) = false := by simpa using hy
      rw [hy']
      show (y :: List.eraseP _ r).find? _ = none
      rw [List.find?_cons, hy']
      rw [List.find?_cons, hy'] at hf
      exact ih h2 hf
theorem good_take {f : Flt} {k : Nat} (h : Good f k) (n : Int) : Good (takeE f n).1 k ∧
    ((takeE f n).2.2 = 0 → (takeE f n).2.1.num = n ∧ (takeE f n).1.list.length + 1 = f.list.length ∧ takeE (takeE f n).1 n = ((takeE f n).1, zeroFr, 24)) ∧ (¬ (takeE f n).2.2 = 0 → (takeE f n).1 = f) := by
  cases hf : f.list.find? (fun x => x.num == n) with
  | none =>
    have e : takeE f n = (f, zeroFr, 24) := by unfold takeE; rw [hf]
    rw [e]
    exact ⟨h, fun e => by simp at e, fun _ => rfl⟩
  | some x =>
    have e : takeE f n = (⟨f.next, f.list.eraseP (fun x => x.num == n), f.cut⟩, x, 0) := by unfold takeE; rw [hf]
    rw [e]
    have hx : x.num = n := by simpa using List.find?_some hf
    have hm := List.mem_of_find?_eq_some hf
    refine ⟨h.sub List.eraseP_sublist (List.Sublist.refl _), fun _ => ⟨hx, ?_, ?_⟩, fun e => absurd rfl e⟩
    · have hl : (f.list.eraseP (fun x => x.num == n)).length = f.list.length - 1 := List.length_eraseP_of_mem hm (by simp [hx])
      have : 0 < f.list.length := List.length_pos_of_mem hm
      simp only
      omega
    · unfold takeE
      simp only
      rw [eraseP_gone h.rise hf]

theorem sortW_le (ys : List Wy) : (sortW ys).Pairwise (fun x y => (!ltW y x) = true) := by
  unfold sortW
  refine List.pairwise_mergeSort ?_ ?_ ys
  · intro a b c h1 h2
    unfold ltW at *
    simp only [Bool.not_eq_true', decide_eq_false_iff_not] at *
    omega
  · intro a b
    unfold ltW
    simp only [Bool.or_eq_true, Bool.not_eq_true', decide_eq_false_iff_not]
    omega
theorem compW_strict : ∀ (l : List Wy), l.Pairwise (fun x y => (!ltW y x) = true) → (compW l).Pairwise (fun x y => ltW x y = true)
  | [], _ => by simp [compW]
  | [x], _ => by simp [compW]
  | x :: y :: r, h => by
    obtain ⟨h1, h2⟩ := List.pairwise_cons.1 h
    have ih := compW_strict (y :: r) h2
    rw [compW]
    split
    · exact ih
    · rename_i hne
      refine List.pairwise_cons.2 ⟨fun z hz => ?_, ih⟩
      have hz' := (compW_mem (y :: r) z).1 hz
      have a1 := h1 z hz'
      have a2 := h1 y (by simp)
      have a3 : z = y ∨ (!ltW z y) = true := by
        rcases List.mem_cons.1 hz' with e | e
        · exact .inl e
        · exact .inr ((List.pairwise_cons.1 h2).1 z e)
      obtain ⟨xa, xb⟩ := x; obtain ⟨ya, yb⟩ := y; obtain ⟨za, zb⟩ := z
      simp only [ltW, Bool.not_eq_true', decide_eq_false_iff_not, decide_eq_true_eq, Prod.mk.injEq] at *
      omega
theorem setW_mem (ys : List Wy) (y : Wy) : y ∈ setW ys ↔ y ∈ ys := by
  unfold setW
  rw [compW_mem]
  unfold sortW
  exact List.mem_mergeSort
theorem setW_len (ys : List Wy) : (setW ys).length ≤ ys.length := by
  unfold setW
  have := compW_len (sortW ys)
  rw [sortW_len] at this
  exact this
theorem there1_mem (a b : Int) (y : Wy) : y ∈ thereL [a] [b] ↔ y = (a, b) ∧ a ≠ b := by
  unfold thereL from1
  by_cases h : a = b
  · subst h; simp
  · simp [h]
/-- What Cut comes to. -/
def cutE (f : Flt) (a b : Int) : Flt := ⟨f.next, f.list.filter (fun x => !inWays (thereL [a] [b]) x), setW (f.cut ++ thereL [a] [b])⟩
theorem good_cut {f : Flt} {k : Nat} (h : Good f k) (a b : Int) (hw : Wy.Ok (a, b)) : Good (cutE f a b) (k + 1) ∧ (a ≠ b → onE (a, b) (cutE f a b).list = []) := by
  have h1 := h.sub (List.filter_sublist (p := fun x => !inWays (thereL [a] [b]) x) (l := f.list)) (List.Sublist.refl _)
  have hm : ∀ y ∈ (cutE f a b).cut, y ∈ f.cut ∨ y = (a, b) ∧ a ≠ b := fun y hy => by
    have := (setW_mem _ y).1 hy
    rcases List.mem_append.1 this with h | h
    · exact .inl h
    · exact .inr ((there1_mem a b y).1 h)
  refine ⟨⟨h1.n0, h1.n1, h1.len, h1.up, h1.rise, fun y hy => ?_, compW_strict _ (sortW_le _), h1.ok, fun y hy => ?_, ?_⟩, fun hne => ?_⟩
  · rcases hm y hy with h2 | ⟨rfl, h2⟩
    · exact h.ne y h2
    · exact h2
  · rcases hm y hy with h2 | ⟨rfl, h2⟩
    · exact h.way y h2
    · exact hw
  · have h2 := setW_len (f.cut ++ thereL [a] [b])
    have h3 := thereL_len [a] [b]
    rw [List.length_append] at h2
    have := h.cl
    show (setW _).length ≤ _
    simp only [List.length_cons, List.length_nil] at h3
    omega
  · unfold onE cutE
    simp only
    rw [List.filter_filter, List.map_eq_nil_iff, List.filter_eq_nil_iff]
    intro x _
    simp only [onWay, inWays, Bool.and_eq_true, decide_eq_true_eq, Bool.not_eq_true', decide_eq_false_iff_not, not_and]
    intro h1 h2
    exact h2 (by rw [h1]; exact (there1_mem a b _).2 ⟨rfl, hne⟩)
theorem good_join {f : Flt} {k : Nat} (h : Good f k) (y : Wy) : Good (joinE f y) k := h.sub (List.Sublist.refl _) List.filter_sublist
def loseE (f : Flt) (to : Int) : Flt := ⟨f.next, f.list.filter (fun x => !(x.dst == to)), f.cut⟩
theorem good_lose {f : Flt} {k : Nat} (h : Good f k) (to : Int) : Good (loseE f to) k ∧ oldE (loseE f to) to = (0, false) := by
  refine ⟨h.sub List.filter_sublist (List.Sublist.refl _), ?_⟩
  unfold oldE loseE
  have : (f.list.filter (fun x => !(x.dst == to))).find? (fun x => x.dst == to) = none := by
    rw [List.find?_eq_none]
    intro x hx
    have := (List.mem_filter.1 hx).2
    simpa using this
  simp only [this]

end Go.Proofs.YtalnmbfmfeaohaaGreat.flight
