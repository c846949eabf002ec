/- The document's calls and the program's come to the same: the mathematics of FlightPlays. -/
import Derived.Test.YtalnmbfmfeaohaaGreatRows
import Derived.Test.YtalnmbfmfeaohaaGreatFlightApartM
import Derived.Test.YtalnmbfmfeaohaaGreatFlightRDbl
import Derived.Test.YtalnmbfmfeaohaaGreatFlightRLost
namespace Go.Proofs.YtalnmbfmfeaohaaGreat.flight
open Go.RowKit
open Go.Proofs.YtalnmbfmfeaohaaGreat.kit Go.Proofs.YtalnmbfmfeaohaaGreat.own
set_option linter.unusedVariables false
set_option linter.unusedSimpArgs false

/-- What the document's Cut tells. -/
def rcutE (f : Flt) (y : Wy) : Flt × Int := if y.1 = y.2 then (f, 0) else (⟨f.next, f.list.filter (fun x => !loseP y.1 y.2 false x), if y ∈ f.cut then f.cut else f.cut.takeWhile (fun z => ltW z y) ++ y :: f.cut.dropWhile (fun z => ltW z y)⟩, (f.list.length : Int) - (f.list.filter (fun x => !loseP y.1 y.2 false x)).length)

theorem ltW_total {x y : Wy} (h : ¬ ltW x y = true) (hne : x ≠ y) : ltW y x = true := by
  obtain ⟨a, b⟩ := x
  obtain ⟨c, d⟩ := y
  unfold ltW at *
  simp only [decide_eq_true_eq, ne_eq, Prod.mk.injEq] at *
  omega
/-- A way laid in at its place leaves the row rising. -/
theorem ins_rise (y : Wy) : ∀ (l : List Wy), l.Pairwise (fun x z => ltW x z = true) → y ∉ l → (l.takeWhile (fun z => ltW z y) ++ y :: l.dropWhile (fun z => ltW z y)).Pairwise (fun x z => ltW x z = true)
  | [], _, _ => by simp
  | x :: r, h, hn => by
    obtain ⟨h1, h2⟩ := List.pairwise_cons.1 h
    by_cases hx : ltW x y = true
    · rw [List.takeWhile_cons, List.dropWhile_cons, hx]
      simp only [if_true, List.cons_append]
      refine List.pairwise_cons.2 ⟨fun z hz => ?_, ins_rise y r h2 (fun hm => hn (List.mem_cons_of_mem _ hm))⟩
      rcases List.mem_append.1 hz with hz | hz
      · exact h1 z ((List.takeWhile_sublist _).subset hz)
      · rcases List.mem_cons.1 hz with rfl | hz
        · exact hx
        · exact h1 z ((List.dropWhile_sublist _).subset hz)
    · have hx' : ltW x y = false := by simpa using hx
      rw [List.takeWhile_cons, List.dropWhile_cons, hx']
      simp only [Bool.false_eq_true, if_false, List.nil_append]
      have hyx : ltW y x = true := ltW_total hx (fun e => hn (by rw [e]; simp))
      refine List.pairwise_cons.2 ⟨fun z hz => ?_, h⟩
      rcases List.mem_cons.1 hz with rfl | hz
      · exact hyx
      · exact ltW_trans hyx (h1 z hz)
theorem ins_mem (y z : Wy) (l : List Wy) : z ∈ l.takeWhile (fun z => ltW z y) ++ y :: l.dropWhile (fun z => ltW z y) ↔ z ∈ l ∨ z = y := by
  have h := List.takeWhile_append_dropWhile (p := fun z => ltW z y) (l := l)
  have h2 : z ∈ l ↔ z ∈ l.takeWhile (fun z => ltW z y) ∨ z ∈ l.dropWhile (fun z => ltW z y) := by
    conv => lhs; rw [← h]
    exact List.mem_append
  rw [List.mem_append, List.mem_cons, h2]
  constructor
  · rintro (h | h | h)
    · exact .inl (.inl h)
    · exact .inr h
    · exact .inl (.inr h)
  · rintro ((h | h) | h)
    · exact .inl h
    · exact .inr (.inr h)
    · exact .inr (.inl h)

/-- Ways that are cut, of a flight. -/
def secE (f : Flt) (S : List Wy) : Flt := ⟨f.next, f.list.filter (fun x => !inWays S x), setW (f.cut ++ S)⟩
theorem secE_nil {f : Flt} {k : Nat} (h : Good f k) : secE f [] = f := by
  unfold secE
  have e1 : f.list.filter (fun x => !inWays [] x) = f.list := List.filter_eq_self.2 (fun x _ => by simp [inWays])
  have e2 : setW (f.cut ++ []) = f.cut := rise_ext _ _ (setW_rise _) h.wr (fun z => by rw [setW_mem, List.append_nil])
  rw [e1, e2]
theorem secE_ext (f : Flt) (S T : List Wy) (h : ∀ z, z ∈ S ↔ z ∈ T) : secE f S = secE f T := by
  unfold secE
  have e1 : (fun x => !inWays S x) = (fun x => !inWays T x) := by
    funext x
    unfold inWays
    rw [decide_eq_decide.2 (h _)]
  have e2 : setW (f.cut ++ S) = setW (f.cut ++ T) := rise_ext _ _ (setW_rise _) (setW_rise _) (fun z => by rw [setW_mem, setW_mem, List.mem_append, List.mem_append, h z])
  rw [e1, e2]
theorem secE_secE (f : Flt) (S T : List Wy) : secE (secE f S) T = secE f (S ++ T) := by
  unfold secE
  simp only [Flt.mk.injEq, true_and]
  refine ⟨?_, rise_ext _ _ (setW_rise _) (setW_rise _) (fun z => ?_)⟩
  · rw [List.filter_filter]
    congr 1
    funext x
    unfold inWays
    simp only [List.mem_append]
    by_cases h1 : (x.src, x.dst) ∈ S <;> by_cases h2 : (x.src, x.dst) ∈ T <;> simp [h1, h2]
  · rw [setW_mem, List.mem_append, setW_mem, setW_mem, List.mem_append, List.mem_append, List.mem_append, or_assoc]
theorem cutE_sec (f : Flt) (a b : Int) : cutE f a b = secE f (thereL [a] [b]) := rfl
theorem isoE_sec (f : Flt) (a b : List Int) : isoE f a b = secE f (betweenL a b) := rfl

theorem rcut_eq {f : Flt} {k : Nat} (h : Good f k) (a b : Int) : rcutE f (a, b) = (cutE f a b, (f.list.length : Int) - (cutE f a b).list.length) := by
  by_cases hab : a = b
  · subst hab
    have e : thereL [a] [a] = [] := by unfold thereL from1; simp
    have e2 : cutE f a a = f := by rw [cutE_sec, e]; exact secE_nil h
    unfold rcutE
    rw [if_pos rfl, e2]
    simp
  · have e : thereL [a] [b] = [(a, b)] := by unfold thereL from1; simp [hab]
    have el : (f.list.filter (fun x => !loseP a b false x)) = f.list.filter (fun x => !inWays (thereL [a] [b]) x) := by
      congr 1
      funext x
      rw [e]
      unfold loseP inWays
      by_cases h1 : x.src = a <;> by_cases h2 : x.dst = b <;> simp [h1, h2]
    have ec : (if (a, b) ∈ f.cut then f.cut else f.cut.takeWhile (fun z => ltW z (a, b)) ++ (a, b) :: f.cut.dropWhile (fun z => ltW z (a, b))) = setW (f.cut ++ thereL [a] [b]) := by
      rw [e]
      split
      · rename_i hin
        refine rise_ext _ _ h.wr (setW_rise _) (fun z => ?_)
        rw [setW_mem, List.mem_append, List.mem_singleton]
        constructor
        · exact .inl
        · rintro (h | rfl)
          · exact h
          · exact hin
      · rename_i hin
        refine rise_ext _ _ (ins_rise _ _ h.wr hin) (setW_rise _) (fun z => ?_)
        rw [setW_mem, ins_mem, List.mem_append, List.mem_singleton]
    unfold rcutE
    simp only
    rw [if_neg hab, el, ec]
    rfl

theorem take_eq : ∀ (n : Int) (l : List Frm), l.Pairwise (fun x y => x.num < y.num) →
    (l.find? (fun x => x.num == n) = none ∧ l.filter (fun x => !(x.num == n)) = l ∧ lastF n l = (zeroFr, 24)) ∨
    (∃ x, l.find? (fun x => x.num == n) = some x ∧ l.filter (fun x => !(x.num == n)) = l.eraseP (fun x => x.num == n) ∧ lastF n l = (x, 0)) := by
  intro n l
  have key : ∀ (l : List Frm) (s : Frm × Int), (∀ x ∈ l, x.num ≠ n) → l.foldl (fun s x => if x.num = n then (x, 0) else s) s = s := by
    intro l
    induction l with
    | nil => intro s _; rfl
    | cons x r ih =>
      intro s h
      rw [List.foldl_cons, if_neg (h x (by simp))]
      exact ih s (fun y hy => h y (by simp [hy]))
  unfold lastF
  generalize (zeroFr, (24 : Int)) = s0
  revert s0
  induction l with
  | nil => intro s0 _; exact .inl ⟨rfl, rfl, rfl⟩
  | cons x r ih =>
    intro s0 h
    obtain ⟨h1, h2⟩ := List.pairwise_cons.1 h
    by_cases hx : x.num = n
    · right
      have hno : ∀ y ∈ r, y.num ≠ n := fun y hy => by have := h1 y hy; omega
      refine ⟨x, by rw [List.find?_cons]; simp [hx], ?_, ?_⟩
      · rw [List.filter_cons, List.eraseP_cons]
        simp only [hx, beq_self_eq_true, Bool.not_true, Bool.false_eq_true, if_false, cond_true]
        exact List.filter_eq_self.2 (fun y hy => by simp [hno y hy])
      · rw [List.foldl_cons, if_pos hx]
        exact key r _ hno
    · have hb : (x.num == n) = false := by simpa using hx
      rcases ih s0 h2 with ⟨a, b, c⟩ | ⟨y, a, b, c⟩
      · left
        refine ⟨by rw [List.find?_cons, hb]; exact a, by rw [List.filter_cons, hb]; simp [b], ?_⟩
        rw [List.foldl_cons, if_neg hx]; exact c
      · right
        refine ⟨y, by rw [List.find?_cons, hb]; exact a, by rw [List.filter_cons, List.eraseP_cons, hb]; simp [b], ?_⟩
        rw [List.foldl_cons, if_neg hx]; exact c
theorem rtake_eq {f : Flt} {k : Nat} (h : Good f k) (n : Int) : ((⟨f.next, f.list.filter (fun x => !(x.num == n)), f.cut⟩ : Flt), lastF n f.list) = takeE f n := by
  unfold takeE
  rcases take_eq n f.list h.rise with ⟨a, b, c⟩ | ⟨x, a, b, c⟩
  · rw [a, b, c]
  · rw [a, b, c]
theorem rdbl_eq {f : Flt} {k : Nat} (h : Good f k) (n : Int) : rdblE f n = dblE f n := by
  unfold rdblE dblE
  rcases take_eq n f.list h.rise with ⟨a, b, c⟩ | ⟨x, a, b, c⟩
  · rw [a, c]; rfl
  · rw [a, c]; rfl
theorem rlose_eq (f : Flt) (to : Int) : f.list.filter (fun x => !loseP 0 to true x) = f.list.filter (fun x => !(x.dst == to)) := by
  congr 1
  funext x
  unfold loseP
  simp
theorem join_no {f : Flt} {y : Wy} (h : ¬ y ∈ f.cut) : joinE f y = f := by
  unfold joinE
  have : f.cut.filter (fun z => !decide (z = y)) = f.cut := List.filter_eq_self.2 (fun z hz => by
    have : z ≠ y := fun e => h (by rw [← e]; exact hz)
    simp [this])
  rw [this]
theorem join_yes {f : Flt} {k : Nat} (hg : Good f k) {y : Wy} {i : Nat} (hi : i < f.cut.length) (h : f.cut[i] = y) : (⟨f.next, f.list, f.cut.take i ++ f.cut.drop (i + 1)⟩ : Flt) = joinE f y := by
  unfold joinE
  simp only [Flt.mk.injEq, true_and]
  have hsub : (f.cut.take i ++ f.cut.drop (i + 1)).Sublist f.cut := by
    have h1 : f.cut.take i ++ (f.cut[i] :: f.cut.drop (i + 1)) = f.cut := by rw [← List.drop_eq_getElem_cons hi, List.take_append_drop]
    conv => rhs; rw [← h1]
    exact List.Sublist.append_left (List.sublist_cons_self _ _) _
  refine rise_ext _ _ (hg.wr.sublist hsub) (hg.wr.filter _) (fun z => ?_)
  have h1 : f.cut = f.cut.take i ++ (y :: f.cut.drop (i + 1)) := by rw [← h, ← List.drop_eq_getElem_cons hi, List.take_append_drop]
  have hnd := hg.nodup
  rw [h1] at hnd
  obtain ⟨n1, n2, n3⟩ := List.pairwise_append.1 hnd
  obtain ⟨n4, n5⟩ := List.pairwise_cons.1 n2
  rw [List.mem_filter]
  have hm : z ∈ f.cut ↔ z ∈ f.cut.take i ∨ z = y ∨ z ∈ f.cut.drop (i + 1) := by
    conv => lhs; rw [h1]
    rw [List.mem_append, List.mem_cons]
  rw [hm, List.mem_append]
  constructor
  · rintro (hz | hz)
    · have : z ≠ y := n3 z hz y (by simp)
      exact ⟨.inl hz, by simp [this]⟩
    · have : z ≠ y := (n4 z hz).symm
      exact ⟨.inr (.inr hz), by simp [this]⟩
  · rintro ⟨hz | hz | hz, h2⟩
    · exact .inl hz
    · rw [hz] at h2; simp at h2
    · exact .inr hz

/-- The ways that have been cut behind k of b, of p; and behind i of a. -/
def pairW (p q : Int) : List Wy := thereL [p] [q] ++ thereL [q] [p]
def rowW (p : Int) (b : List Int) (k : Nat) : List Wy := (b.take k).flatMap (fun q => pairW p q)
def allW (a b : List Int) (i : Nat) : List Wy := (a.take i).flatMap (fun p => rowW p b b.length)
theorem rowW_succ (p : Int) (b : List Int) (k : Nat) (hk : k < b.length) : rowW p b (k + 1) = rowW p b k ++ pairW p b[k] := by
  unfold rowW
  rw [List.take_succ_eq_append_getElem hk, List.flatMap_append]
  simp
theorem allW_succ (a b : List Int) (i : Nat) (hi : i < a.length) : allW a b (i + 1) = allW a b i ++ rowW a[i] b b.length := by
  unfold allW
  rw [List.take_succ_eq_append_getElem hi, List.flatMap_append]
  simp
theorem pairW_mem (p q : Int) (z : Wy) : z ∈ pairW p q ↔ p ≠ q ∧ (z = (p, q) ∨ z = (q, p)) := by
  unfold pairW
  rw [List.mem_append, there1_mem, there1_mem]
  constructor
  · rintro (⟨h1, h2⟩ | ⟨h1, h2⟩)
    · exact ⟨h2, .inl h1⟩
    · exact ⟨fun e => h2 e.symm, .inr h1⟩
  · rintro ⟨h1, h2 | h2⟩
    · exact .inl ⟨h2, h1⟩
    · exact .inr ⟨h2, fun e => h1 e.symm⟩
theorem allW_mem (a b : List Int) (z : Wy) : z ∈ allW a b a.length ↔ z ∈ betweenL a b := by
  rw [betweenL_mem]
  unfold allW rowW
  simp only [List.take_length, List.mem_flatMap, pairW_mem]
  constructor
  · rintro ⟨p, hp, q, hq, hne, rfl | rfl⟩
    · exact ⟨hne, .inl ⟨hp, hq⟩⟩
    · exact ⟨fun e => hne e.symm, .inr ⟨hq, hp⟩⟩
  · obtain ⟨p, q⟩ := z
    rintro ⟨hne, ⟨h1, h2⟩ | ⟨h1, h2⟩⟩
    · exact ⟨p, h1, q, h2, hne, .inl rfl⟩
    · exact ⟨q, h2, p, h1, fun e => hne e.symm, .inr rfl⟩
theorem iso_eq (f : Flt) (a b : List Int) : secE f (allW a b a.length) = isoE f a b := by
  rw [isoE_sec]
  exact secE_ext f _ _ (allW_mem a b)

end Go.Proofs.YtalnmbfmfeaohaaGreat.flight
