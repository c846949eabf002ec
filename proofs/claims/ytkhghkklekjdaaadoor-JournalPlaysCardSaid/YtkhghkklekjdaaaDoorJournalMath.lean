/- The journal's mathematics: what stands in a row of sectors, by one pass and by jumps; what becomes of it where some sectors are a new record's. -/
import Derived.Test.YtkhghkklekjdaaaDoorRows
import Derived.Test.YtkhghkklekjdaaaDoorFrameMath
namespace Go.Proofs.YtkhghkklekjdaaaDoor.jm
open Go.Proofs.YtkhghkklekjdaaaDoor.fm (crc)
set_option linter.unusedVariables false

/-- The k lowest bytes, the lowest first; and the number that they make. -/
def le : Nat → Nat → List Nat
  | 0, _ => []
  | k + 1, x => x % 256 :: le k (x / 256)
def ofLe : List Nat → Nat
  | [] => 0
  | b :: l => b + 256 * ofLe l
@[simp] theorem le_len : ∀ (k x : Nat), (le k x).length = k
  | 0, _ => rfl
  | k + 1, x => by simp [le, le_len k]
theorem le_lt : ∀ (k x : Nat), ∀ n ∈ le k x, n < 256
  | 0, _, n, h => by cases h
  | k + 1, x, n, h => by
    rcases List.mem_cons.1 h with rfl | h
    · exact Nat.mod_lt _ (by decide)
    · exact le_lt k _ n h
theorem ofLe_le : ∀ (k x : Nat), ofLe (le k x) = x % 256 ^ k
  | 0, x => by simp [le, ofLe, Nat.mod_one]
  | k + 1, x => by
    simp only [le, ofLe, ofLe_le k]
    rw [Nat.pow_succ, Nat.mul_comm (256 ^ k) 256, Nat.mod_mul]
theorem ofLe_lt : ∀ (l : List Nat), (∀ n ∈ l, n < 256) → ofLe l < 256 ^ l.length
  | [], _ => by simp [ofLe]
  | b :: l, h => by
    have h1 := ofLe_lt l (fun n hn => h n (List.mem_cons_of_mem _ hn))
    have h2 := h b List.mem_cons_self
    simp only [ofLe, List.length_cons, Nat.pow_succ]
    omega

/-- How many sectors a record takes. -/
def need (n : Nat) : Nat := if n ≤ 47 then 1 else 2 + (n - 48) / 55
theorem need_pos (n : Nat) : 1 ≤ need n := by unfold need; split <;> omega
theorem need_ge (n : Nat) : n ≤ 47 + 55 * (need n - 1) := by unfold need; split <;> omega
theorem need_lt (n : Nat) : need n = 1 ∨ 47 + 55 * (need n - 2) < n := by unfold need; split <;> omega

/-- What a sector has of a record. -/
structure Pc where
  mark : Nat
  num : Nat
  rest : List Nat
def maxNum : Nat := 4611686018427387904
def pcOf (b : List Nat) : Pc :=
  if (b.getD 0 0 = 1 ∨ b.getD 0 0 = 2) ∧ 1 ≤ ofLe ((b.drop 1).take 8) ∧ ofLe ((b.drop 1).take 8) ≤ maxNum then ⟨b.getD 0 0, ofLe ((b.drop 1).take 8), b.drop 9⟩ else ⟨0, 0, []⟩
/-- A piece of a sector of 64 bytes. -/
def Pc.Ok (p : Pc) : Prop := (p = ⟨0, 0, []⟩ ∨ ((p.mark = 1 ∨ p.mark = 2) ∧ 1 ≤ p.num ∧ p.num ≤ maxNum ∧ p.rest.length = 55)) ∧ ∀ n ∈ p.rest, n < 256
theorem pcOf_ok (b : List Nat) (h : b.length = 64) (h8 : ∀ n ∈ b, n < 256) : (pcOf b).Ok := by
  unfold pcOf
  split
  · next hc => exact ⟨.inr ⟨hc.1, hc.2.1, hc.2.2, by simp [h]⟩, fun n hn => h8 n (List.mem_of_mem_drop hn)⟩
  · exact ⟨.inl rfl, fun n hn => by cases hn⟩

/-- The sum of a record. -/
noncomputable def sumR (num : Nat) (text : List Nat) : Nat := crc (le 8 num ++ le 4 text.length ++ text)

/-- Where a reading of a row stands. -/
structure Rd where
  l : List (List Nat)
  num : Nat
  count : Nat
  sum : Nat
  text : List Nat
  taken : Nat
  last : Nat
def gath (text : List Nat) (count : Nat) (b : List Nat) : List Nat := text ++ b.take (min b.length (count - text.length))
def begunR (s : Rd) (p : Pc) : Rd := { s with num := p.num, count := ofLe (p.rest.take 4), sum := ofLe ((p.rest.drop 4).take 4), text := gath [] (ofLe (p.rest.take 4)) (p.rest.drop 8) }
noncomputable def finR (s : Rd) : Rd × Bool :=
  if s.text.length < s.count then (s, true)
  else if sumR s.num s.text ≠ s.sum then (s, false)
  else ({ s with l := s.l ++ [s.text], taken := s.taken + need s.count, last := s.num }, true)
noncomputable def stepR (s : Rd) (p : Pc) : Rd × Bool :=
  if s.text.length < s.count then
    if p.mark ≠ 2 ∨ p.num ≠ s.num then (s, false) else finR { s with text := gath s.text s.count p.rest }
  else if p.mark ≠ 1 ∨ p.num ≤ s.last then (s, false)
  else finR (begunR s p)
noncomputable def runR : Rd → List Pc → Rd
  | s, [] => s
  | s, p :: ps => if (stepR s p).2 = true then runR (stepR s p).1 ps else (stepR s p).1
def init (first : Nat) : Rd := ⟨[], 0, 0, 0, [], 0, first - 1⟩
noncomputable def standF (first : Nat) (ps : List Pc) : List (List Nat) × Nat := ((runR (init first) ps).l, (runR (init first) ps).taken)

/-- The bytes of a record that begins at a row's beginning. -/
def textAt (n k : Nat) : List Pc → List Nat
  | [] => []
  | p :: ps => (p.rest.drop 8 ++ (ps.take (k - 1)).flatMap (·.rest)).take n
def cnt : List Pc → Nat
  | [] => 0
  | p :: _ => ofLe (p.rest.take 4)
/-- A whole record begins there, its number above last. -/
def WholeAt (last : Nat) : List Pc → Prop
  | [] => False
  | p :: ps => p.mark = 1 ∧ last < p.num ∧ need (ofLe (p.rest.take 4)) ≤ ps.length + 1 ∧ (∀ q ∈ ps.take (need (ofLe (p.rest.take 4)) - 1), q.mark = 2 ∧ q.num = p.num) ∧
      sumR p.num (textAt (ofLe (p.rest.take 4)) (need (ofLe (p.rest.take 4))) (p :: ps)) = ofLe ((p.rest.drop 4).take 4)
def numAt : List Pc → Nat
  | [] => 0
  | p :: _ => p.num

theorem gath_eq (text : List Nat) (count : Nat) (b : List Nat) : gath text count b = text ++ b.take (count - text.length) := by
  unfold gath
  congr 1
  rcases Nat.le_total b.length (count - text.length) with h | h
  · rw [Nat.min_eq_left h, List.take_length, List.take_of_length_le h]
  · rw [Nat.min_eq_right h]

/-- How many sectors are to come. -/
def todo (c t : Nat) : Nat := (c - t + 54) / 55

/-- A reading under way. -/
theorem run_lacks : ∀ (ps : List Pc) (s : Rd), (∀ p ∈ ps, p.Ok) → s.text.length < s.count →
    (todo s.count s.text.length ≤ ps.length ∧ (∀ q ∈ ps.take (todo s.count s.text.length), q.mark = 2 ∧ q.num = s.num) ∧
      runR s ps = (let r := finR { s with text := (s.text ++ (ps.take (todo s.count s.text.length)).flatMap (·.rest)).take s.count }
        if r.2 = true then runR r.1 (ps.drop (todo s.count s.text.length)) else r.1)) ∨
    (¬ (todo s.count s.text.length ≤ ps.length ∧ (∀ q ∈ ps.take (todo s.count s.text.length), q.mark = 2 ∧ q.num = s.num)) ∧ (runR s ps).l = s.l ∧ (runR s ps).taken = s.taken)
  | [], s, _, h => .inr ⟨fun hh => by have := hh.1; simp only [List.length_nil] at this; unfold todo at this; omega, rfl, rfl⟩
  | p :: ps, s, hok, h => by
    have ht : 1 ≤ todo s.count s.text.length := by unfold todo; omega
    obtain ⟨t', ht'⟩ : ∃ t', todo s.count s.text.length = t' + 1 := ⟨_, (Nat.sub_add_cancel ht).symm⟩
    by_cases hp : p.mark ≠ 2 ∨ p.num ≠ s.num
    · have e : stepR s p = (s, false) := by unfold stepR; rw [if_pos h, if_pos hp]
      refine .inr ⟨fun hh => ?_, ?_, ?_⟩
      · have := hh.2 p (by rw [ht']; simp)
        rcases hp with hp | hp
        · exact hp this.1
        · exact hp this.2
      · simp only [runR, e]; simp
      · simp only [runR, e]; simp
    · have hp' : p.mark = 2 ∧ p.num = s.num := by
        refine ⟨Classical.byContradiction fun hh => hp (.inl hh), Classical.byContradiction fun hh => hp (.inr hh)⟩
      have hl : p.rest.length = 55 := by
        rcases (hok p List.mem_cons_self).1 with rfl | hh
        · simp at hp'
        · exact hh.2.2.2
      have e : stepR s p = finR { s with text := gath s.text s.count p.rest } := by unfold stepR; rw [if_pos h, if_neg hp]
      by_cases hg : s.count - s.text.length ≤ 55
      · -- the last one
        have h1 : todo s.count s.text.length = 1 := by unfold todo; omega
        refine .inl ⟨by rw [h1]; simp, fun q hq => ?_, ?_⟩
        · rw [h1] at hq; simp at hq; subst hq; exact hp'
        · rw [h1]
          simp only [runR, e, List.take_succ_cons, List.take_zero, List.flatMap_cons, List.flatMap_nil, List.append_nil, List.drop_succ_cons, List.drop_zero]
          rw [gath_eq, show (s.text ++ p.rest).take s.count = s.text ++ p.rest.take (s.count - s.text.length) by rw [List.take_append, List.take_of_length_le (by omega)]]
      · have hgl : (gath s.text s.count p.rest) = s.text ++ p.rest := by rw [gath_eq, List.take_of_length_le (by omega)]
        have hlen : (s.text ++ p.rest).length = s.text.length + 55 := by simp [hl]
        have hlk : (s.text ++ p.rest).length < s.count := by rw [hlen]; omega
        have ef : finR { s with text := gath s.text s.count p.rest } = ({ s with text := s.text ++ p.rest }, true) := by rw [hgl]; unfold finR; rw [if_pos hlk]
        have ht2 : todo s.count (s.text ++ p.rest).length = t' := by rw [hlen]; unfold todo at ht' ⊢; omega
        have hr : runR s (p :: ps) = runR { s with text := s.text ++ p.rest } ps := by simp only [runR, e, ef]; simp
        have ih := run_lacks ps { s with text := s.text ++ p.rest } (fun q hq => hok q (List.mem_cons_of_mem _ hq)) hlk
        simp only [ht2] at ih
        rw [hr, ht']
        rcases ih with ⟨h1, h2, h3⟩ | ⟨h1, h2, h3⟩
        · refine .inl ⟨by simp; omega, fun q hq => ?_, ?_⟩
          · simp only [List.take_succ_cons, List.mem_cons] at hq
            rcases hq with rfl | hq
            · exact hp'
            · exact h2 q hq
          · rw [h3]
            simp only [List.take_succ_cons, List.flatMap_cons, List.drop_succ_cons, List.append_assoc]
        · refine .inr ⟨fun hh => h1 ⟨by have := hh.1; simp at this; omega, fun q hq => hh.2 q (by simp only [List.take_succ_cons, List.mem_cons]; exact .inr hq)⟩, h2, h3⟩

theorem need_todo (n : Nat) (h : 47 < n) : need n - 1 = todo n 47 := by unfold need todo; rw [if_neg (by omega)]; omega

/-- A reading that lacks nothing goes on with the next whole record, or ends. -/
theorem run_next (ps : List Pc) (s : Rd) (hok : ∀ p ∈ ps, p.Ok) (h : ¬ s.text.length < s.count) :
    (WholeAt s.last ps ∧ ∃ s' : Rd, runR s ps = runR s' (ps.drop (need (cnt ps))) ∧ s'.l = s.l ++ [textAt (cnt ps) (need (cnt ps)) ps] ∧ s'.taken = s.taken + need (cnt ps) ∧ s'.last = numAt ps ∧ ¬ s'.text.length < s'.count) ∨
    (¬ WholeAt s.last ps ∧ (runR s ps).l = s.l ∧ (runR s ps).taken = s.taken) := by
  cases ps with
  | nil => exact .inr ⟨fun h => h, rfl, rfl⟩
  | cons p ps =>
    by_cases hp : p.mark ≠ 1 ∨ p.num ≤ s.last
    · have e : stepR s p = (s, false) := by unfold stepR; rw [if_neg h, if_pos hp]
      refine .inr ⟨fun hh => ?_, by simp only [runR, e]; simp, by simp only [runR, e]; simp⟩
      rcases hp with hp | hp
      · exact hp hh.1
      · have := hh.2.1; omega
    · have hm : p.mark = 1 := Classical.byContradiction fun hh => hp (.inl hh)
      have hn : s.last < p.num := by omega
      have e : stepR s p = finR (begunR s p) := by unfold stepR; rw [if_neg h, if_neg hp]
      have hl : p.rest.length = 55 := by
        rcases (hok p List.mem_cons_self).1 with rfl | hh
        · simp at hm
        · exact hh.2.2.2
      have hok' : ∀ q ∈ ps, q.Ok := fun q hq => hok q (List.mem_cons_of_mem _ hq)
      simp only [cnt, numAt, textAt, WholeAt]
      obtain ⟨n, hcn⟩ : ∃ n, ofLe (p.rest.take 4) = n := ⟨_, rfl⟩
      have hd : (p.rest.drop 8).length = 47 := by simp [hl]
      have hbt : (begunR s p).text = (p.rest.drop 8).take n := by simp [begunR, gath_eq, hcn]
      have hbc : (begunR s p).count = n := hcn
      simp only [hcn]
      by_cases hle : n ≤ 47
      · -- one sector
        have hk : need n = 1 := by unfold need; rw [if_pos hle]
        have hbl : (begunR s p).text.length = n := by rw [hbt, List.length_take, hd]; omega
        have hnl : ¬ (begunR s p).text.length < (begunR s p).count := by rw [hbl, hbc]; omega
        have et : (p.rest.drop 8 ++ (ps.take (1 - 1)).flatMap (·.rest)).take n = (begunR s p).text := by rw [hbt]; simp
        rw [hk, et]
        by_cases hs : sumR p.num (begunR s p).text = ofLe ((p.rest.drop 4).take 4)
        · have ef : finR (begunR s p) = ({ begunR s p with l := s.l ++ [(begunR s p).text], taken := s.taken + need n, last := p.num }, true) := by
            unfold finR
            rw [if_neg hnl, if_neg (fun hh => hh hs), show need n = need (begunR s p).count by rw [hbc]]
            rfl
          refine .inl ⟨⟨hm, hn, by omega, fun q hq => by simp at hq, hs⟩, { begunR s p with l := s.l ++ [(begunR s p).text], taken := s.taken + need n, last := p.num }, by simp only [runR, e, ef]; simp, rfl, by simp only [hk], rfl, hnl⟩
        · have ef : finR (begunR s p) = (begunR s p, false) := by
            unfold finR
            rw [if_neg hnl, if_pos (show sumR (begunR s p).num _ ≠ (begunR s p).sum from hs)]
          exact .inr ⟨fun hh => hs hh.2.2.2.2, by simp only [runR, e, ef]; rfl, by simp only [runR, e, ef]; rfl⟩
      · have h47 : 47 < n := by omega
        have hnt := need_todo n h47
        have hbl : (begunR s p).text.length = 47 := by rw [hbt, List.length_take, hd]; omega
        have hlk : (begunR s p).text.length < (begunR s p).count := by rw [hbl, hbc]; exact h47
        have ef : finR (begunR s p) = (begunR s p, true) := by unfold finR; rw [if_pos hlk]
        have hr : runR s (p :: ps) = runR (begunR s p) ps := by simp only [runR, e, ef]; simp
        have ih := run_lacks ps (begunR s p) hok' hlk
        rw [hbl, hbc, ← hnt] at ih
        have hbt' : (begunR s p).text = p.rest.drop 8 := by rw [hbt, List.take_of_length_le (by omega)]
        rw [hbt'] at ih
        have hnp := need_pos n
        rcases ih with ⟨h1, h2, h3⟩ | ⟨h1, h2, h3⟩
        · have htl : ((p.rest.drop 8 ++ (ps.take (need n - 1)).flatMap (·.rest)).take n).length = n := by
            rw [List.length_take, List.length_append, hd]
            have hfl : ((ps.take (need n - 1)).flatMap (·.rest)).length = (need n - 1) * 55 := by
              have : ∀ (qs : List Pc), (∀ q ∈ qs, q.rest.length = 55) → (qs.flatMap (·.rest)).length = qs.length * 55 := by
                intro qs
                induction qs with
                | nil => intro _; simp
                | cons q qs ih => intro hq; rw [List.flatMap_cons, List.length_append, hq q List.mem_cons_self, ih (fun x hx => hq x (List.mem_cons_of_mem _ hx)), List.length_cons]; omega
              rw [this, List.length_take, Nat.min_eq_left h1]
              intro q hq
              rcases (hok' q (List.mem_of_mem_take hq)).1 with rfl | hh
              · have := (h2 _ hq).1; simp at this
              · exact hh.2.2.2
            rw [hfl]
            have := need_ge n
            omega
          by_cases hs : sumR p.num ((p.rest.drop 8 ++ (ps.take (need n - 1)).flatMap (·.rest)).take n) = ofLe ((p.rest.drop 4).take 4)
          · refine .inl ⟨⟨hm, hn, by omega, h2, hs⟩, { begunR s p with l := s.l ++ [(p.rest.drop 8 ++ (ps.take (need n - 1)).flatMap (·.rest)).take n], taken := s.taken + need n, last := p.num, text := (p.rest.drop 8 ++ (ps.take (need n - 1)).flatMap (·.rest)).take n }, ?_, rfl, rfl, rfl, ?_⟩
            · rw [hr, h3]
              have ef2 : finR { begunR s p with text := (p.rest.drop 8 ++ (ps.take (need n - 1)).flatMap (·.rest)).take n } =
                  ({ begunR s p with l := s.l ++ [(p.rest.drop 8 ++ (ps.take (need n - 1)).flatMap (·.rest)).take n], taken := s.taken + need n, last := p.num, text := (p.rest.drop 8 ++ (ps.take (need n - 1)).flatMap (·.rest)).take n }, true) := by
                unfold finR
                rw [if_neg (by simp only [htl, hbc]; omega), if_neg (fun hh => hh hs)]
                simp only [hbc]
                rfl
              have ed : List.drop (need n) (p :: ps) = ps.drop (need n - 1) := by
                obtain ⟨j, hj⟩ : ∃ j, need n = j + 1 := ⟨_, (Nat.sub_add_cancel hnp).symm⟩
                rw [hj]; rfl
              rw [ed]
              rw [← hbc] at ef2 ⊢
              simp only [ef2, if_true]
            · simp only [htl, hbc]; omega
          · have ef2 : finR { begunR s p with text := (p.rest.drop 8 ++ (ps.take (need n - 1)).flatMap (·.rest)).take n } = ({ begunR s p with text := (p.rest.drop 8 ++ (ps.take (need n - 1)).flatMap (·.rest)).take n }, false) := by
              unfold finR
              rw [if_neg (by simp only [htl, hbc]; omega), if_pos (show sumR (begunR s p).num _ ≠ (begunR s p).sum from hs)]
            refine .inr ⟨fun hh => hs hh.2.2.2.2, ?_, ?_⟩
            · rw [hr, h3]; rw [← hbc] at ef2 ⊢; simp only [ef2]; rfl
            · rw [hr, h3]; rw [← hbc] at ef2 ⊢; simp only [ef2]; rfl
        · refine .inr ⟨fun hh => h1 ⟨by have := hh.2.2.1; omega, hh.2.2.2.1⟩, ?_, ?_⟩
          · rw [hr, h2]; rfl
          · rw [hr, h3]; rfl

/-- What stands in a row: the records, and how many sectors they take. -/
inductive Stands : Nat → List Pc → List (List Nat) → Nat → Prop
  | stop {last : Nat} {ps : List Pc} : ¬ WholeAt last ps → Stands last ps [] 0
  | more {last : Nat} {ps : List Pc} {l : List (List Nat)} {k : Nat} : WholeAt last ps → Stands (numAt ps) (ps.drop (need (cnt ps))) l k → Stands last ps (textAt (cnt ps) (need (cnt ps)) ps :: l) (need (cnt ps) + k)
theorem Stands.one {last : Nat} {ps : List Pc} {l : List (List Nat)} {k : Nat} (h : Stands last ps l k) : ∀ {l' k'}, Stands last ps l' k' → l = l' ∧ k = k' := by
  induction h with
  | stop h0 =>
    intro l' k' h'
    cases h' with
    | stop _ => exact ⟨rfl, rfl⟩
    | more h1 _ => exact absurd h1 h0
  | more h0 _ ih =>
    intro l' k' h'
    cases h' with
    | stop h1 => exact absurd h0 h1
    | more _ h2 => obtain ⟨rfl, rfl⟩ := ih h2; exact ⟨rfl, rfl⟩

theorem run_stands (ps : List Pc) : ∀ (s : Rd), (∀ p ∈ ps, p.Ok) → ¬ s.text.length < s.count → ∃ l k, Stands s.last ps l k ∧ (runR s ps).l = s.l ++ l ∧ (runR s ps).taken = s.taken + k := by
  generalize hn : ps.length = n
  induction n using Nat.strongRecOn generalizing ps with
  | ind n ih =>
    intro s hok h
    rcases run_next ps s hok h with ⟨hw, s', h1, h2, h3, h4, h5⟩ | ⟨hw, h1, h2⟩
    · have hpos : 0 < ps.length := by cases ps with
        | nil => exact hw.elim
        | cons p ps => simp
      have hnp := need_pos (cnt ps)
      obtain ⟨l, k, hs, e1, e2⟩ := ih (ps.drop (need (cnt ps))).length (by rw [List.length_drop]; omega) (ps.drop (need (cnt ps))) rfl s' (fun p hp => hok p (List.mem_of_mem_drop hp)) h5
      refine ⟨_, _, .more hw (h4 ▸ hs), ?_, ?_⟩
      · rw [h1, e1, h2, List.append_assoc]; rfl
      · rw [h1, e2, h3, Nat.add_assoc]
    · exact ⟨[], 0, .stop hw, by rw [h1, List.append_nil], by rw [h2, Nat.add_zero]⟩
theorem stands_of (first : Nat) (ps : List Pc) (hok : ∀ p ∈ ps, p.Ok) : Stands (first - 1) ps (standF first ps).1 (standF first ps).2 := by
  obtain ⟨l, k, h1, h2, h3⟩ := run_stands ps (init first) hok (by simp [init])
  unfold standF
  rw [h2, h3]
  simpa [init] using h1
theorem stand_eq {first : Nat} {ps : List Pc} {l : List (List Nat)} {k : Nat} (hok : ∀ p ∈ ps, p.Ok) (h : Stands (first - 1) ps l k) : standF first ps = (l, k) := by
  have h1 := stands_of first ps hok
  obtain ⟨e1, e2⟩ := h1.one h
  exact Prod.ext e1 e2

theorem WholeAt.len {last : Nat} {ps : List Pc} (h : WholeAt last ps) : need (cnt ps) ≤ ps.length := by
  cases ps with
  | nil => exact h.elim
  | cons p ps => exact h.2.2.1
theorem Stands.len {last : Nat} {ps : List Pc} {l : List (List Nat)} {k : Nat} (h : Stands last ps l k) : k ≤ ps.length := by
  induction h with
  | stop _ => omega
  | more h0 _ ih => have := h0.len; rw [List.length_drop] at ih; omega

/-- A whole record hangs on its own sectors alone. -/
theorem whole_same {last : Nat} {A B B' : List Pc} (hl : B'.length = B.length) (hk : need (cnt (A ++ B)) ≤ A.length) (h : WholeAt last (A ++ B)) :
    WholeAt last (A ++ B') ∧ cnt (A ++ B') = cnt (A ++ B) ∧ numAt (A ++ B') = numAt (A ++ B) ∧ textAt (cnt (A ++ B)) (need (cnt (A ++ B))) (A ++ B') = textAt (cnt (A ++ B)) (need (cnt (A ++ B))) (A ++ B) := by
  cases A with
  | nil => have := need_pos (cnt ([] ++ B)); simp only [List.length_nil] at hk; omega
  | cons p A =>
    simp only [List.cons_append, cnt, numAt, textAt, List.length_cons, WholeAt, List.length_append] at hk h ⊢
    have e : ∀ B'' : List Pc, (A ++ B'').take (need (ofLe (p.rest.take 4)) - 1) = A.take (need (ofLe (p.rest.take 4)) - 1) := fun B'' => List.take_append_of_le_length (by omega)
    simp only [e] at h ⊢
    exact ⟨⟨h.1, h.2.1, by omega, h.2.2.2.1, h.2.2.2.2⟩, trivial, trivial, trivial⟩

theorem Stands.split {last : Nat} {ps : List Pc} {l : List (List Nat)} {k : Nat} (h : Stands last ps l k) : ∃ last2, (last2 = last ∨ ∃ p ∈ ps, last2 = p.num) ∧ ¬ WholeAt last2 (ps.drop k) ∧
    ∀ B' : List Pc, B'.length = (ps.drop k).length → ∀ l' k', Stands last2 B' l' k' → Stands last (ps.take k ++ B') (l ++ l') (k + k') := by
  induction h with
  | @stop last ps h0 => exact ⟨last, .inl rfl, h0, fun B' _ l' k' hs => by simpa using hs⟩
  | @more last ps l k h0 hs ih =>
    obtain ⟨last2, h1, h2, h3⟩ := ih
    have hlen := hs.len
    have hnl := h0.len
    rw [List.length_drop] at hlen
    refine ⟨last2, .inr ?_, by rw [List.drop_drop] at h2; exact h2, fun B' hB' l' k' hs' => ?_⟩
    · rcases h1 with rfl | ⟨p, hp, rfl⟩
      · cases ps with
        | nil => exact h0.elim
        | cons p ps => exact ⟨p, List.mem_cons_self, rfl⟩
      · exact ⟨p, List.mem_of_mem_drop hp, rfl⟩
    · obtain ⟨n, hn⟩ : ∃ n, need (cnt ps) = n := ⟨_, rfl⟩
      rw [hn] at hs hlen hnl h2 h3 hB' ⊢
      have hB2 : B'.length = ((ps.drop n).drop k).length := by rw [hB', List.drop_drop]
      have h4 := h3 B' hB2 l' k' hs'
      have ea : ps = ps.take n ++ ps.drop n := (List.take_append_drop n ps).symm
      have eb : ps.take (n + k) ++ B' = ps.take n ++ ((ps.drop n).take k ++ B') := by
        rw [← List.append_assoc]; congr 1
        rw [List.take_add]
      have hl2 : ((ps.drop n).take k ++ B').length = (ps.drop n).length := by
        rw [List.length_append, hB', List.length_take, List.length_drop, List.length_drop]; omega
      have hw0 : WholeAt last (ps.take n ++ ps.drop n) := by rw [← ea]; exact h0
      have hcn : cnt (ps.take n ++ ps.drop n) = cnt ps := by rw [← ea]
      obtain ⟨w1, w2, w3, w4⟩ := whole_same hl2 (by rw [hcn, hn, List.length_take]; omega) hw0
      rw [hcn] at w2 w4
      rw [show numAt (ps.take n ++ ps.drop n) = numAt ps by rw [← ea]] at w3
      rw [← ea] at w4
      rw [eb]
      have hd : (ps.take n ++ ((ps.drop n).take k ++ B')).drop n = (ps.drop n).take k ++ B' := by
        rw [List.drop_append_of_le_length (by rw [List.length_take]; omega), List.drop_eq_nil_of_le (by rw [List.length_take]; omega), List.nil_append]
      have h5 : Stands (numAt (ps.take n ++ ((ps.drop n).take k ++ B'))) ((ps.take n ++ ((ps.drop n).take k ++ B')).drop (need (cnt (ps.take n ++ ((ps.drop n).take k ++ B'))))) (l ++ l') (k + k') := by
        rw [w2, w3, hn, hd]; exact h4
      have h6 := Stands.more w1 h5
      rw [w2, w4, hn] at h6
      rw [hn] at w4
      rw [List.cons_append, Nat.add_assoc]
      exact h6

/-- The bytes of a record's sectors. -/
def fillTo (n : Nat) (b : List Nat) : List Nat := b ++ List.replicate (n - b.length) 0
noncomputable def pieceB (num : Nat) (text : List Nat) (i : Nat) : List Nat :=
  if i = 0 then fillTo 64 (1 :: le 8 num ++ (le 4 text.length ++ (le 4 (sumR num text) ++ text.take 47))) else fillTo 64 (2 :: le 8 num ++ (text.drop (47 + 55 * (i - 1))).take 55)
theorem fillTo_len {n : Nat} {b : List Nat} (h : b.length ≤ n) : (fillTo n b).length = n := by simp [fillTo]; omega
theorem pieceB_len (num : Nat) (text : List Nat) (i : Nat) : (pieceB num text i).length = 64 := by
  unfold pieceB
  split
  · exact fillTo_len (by simp; omega)
  · exact fillTo_len (by simp; omega)
theorem fillTo_lt {n : Nat} {b : List Nat} (h : ∀ x ∈ b, x < 256) : ∀ x ∈ fillTo n b, x < 256 := by
  intro x hx
  rcases List.mem_append.1 hx with hx | hx
  · exact h x hx
  · obtain ⟨_, rfl⟩ := List.mem_replicate.1 hx; omega
theorem pieceB_lt (num : Nat) (text : List Nat) (i : Nat) (h8 : ∀ x ∈ text, x < 256) : ∀ x ∈ pieceB num text i, x < 256 := by
  unfold pieceB
  split
  · refine fillTo_lt fun x hx => ?_
    simp only [List.cons_append, List.mem_cons, List.mem_append] at hx
    rcases hx with rfl | hx | hx | hx | hx
    · omega
    · exact le_lt _ _ _ hx
    · exact le_lt _ _ _ hx
    · exact le_lt _ _ _ hx
    · exact h8 _ (List.mem_of_mem_take hx)
  · refine fillTo_lt fun x hx => ?_
    simp only [List.cons_append, List.mem_cons, List.mem_append] at hx
    rcases hx with rfl | hx | hx
    · omega
    · exact le_lt _ _ _ hx
    · exact h8 _ (List.mem_of_mem_drop (List.mem_of_mem_take hx))

theorem le_split (k x : Nat) (b : List Nat) : ((le k x ++ b).take k) = le k x ∧ ((le k x ++ b).drop k) = b := by
  have := le_len k x
  exact ⟨by rw [List.take_append_of_le_length (by omega), List.take_of_length_le (by omega)], by rw [List.drop_append_of_le_length (by omega), List.drop_of_length_le (by omega), List.nil_append]⟩
/-- What a reader makes of a record's sector. -/
noncomputable def restB (num : Nat) (text : List Nat) (i : Nat) : List Nat := if i = 0 then fillTo 55 (le 4 text.length ++ (le 4 (sumR num text) ++ text.take 47)) else fillTo 55 ((text.drop (47 + 55 * (i - 1))).take 55)
theorem pcOf_of (mark num : Nat) (r : List Nat) (hm : mark = 1 ∨ mark = 2) (h1 : 1 ≤ num) (h2 : num ≤ maxNum) : pcOf (fillTo 64 (mark :: le 8 num ++ r)) = ⟨mark, num, fillTo 55 r⟩ := by
  have e0 : fillTo 64 (mark :: le 8 num ++ r) = mark :: (le 8 num ++ fillTo 55 r) := by
    simp only [fillTo, List.cons_append, List.length_cons, List.length_append, le_len, List.append_assoc]
    rw [show 64 - (8 + r.length + 1) = 55 - r.length by omega]
  rw [e0]
  unfold pcOf
  have e1 : (mark :: (le 8 num ++ fillTo 55 r)).getD 0 0 = mark := rfl
  have e2 : ofLe (((mark :: (le 8 num ++ fillTo 55 r)).drop 1).take 8) = num := by
    rw [show (mark :: (le 8 num ++ fillTo 55 r)).drop 1 = le 8 num ++ fillTo 55 r from rfl, (le_split _ _ _).1, ofLe_le]
    exact Nat.mod_eq_of_lt (by unfold maxNum at h2; omega)
  have e3 : (mark :: (le 8 num ++ fillTo 55 r)).drop 9 = fillTo 55 r := (le_split 8 num _).2
  rw [e1, e2, e3, if_pos ⟨hm, h1, h2⟩]
theorem pcOf_piece (num : Nat) (text : List Nat) (i : Nat) (h1 : 1 ≤ num) (h2 : num ≤ maxNum) : pcOf (pieceB num text i) = ⟨if i = 0 then 1 else 2, num, restB num text i⟩ := by
  unfold pieceB restB
  by_cases hi : i = 0
  · simp only [hi, if_true]; exact pcOf_of 1 num _ (.inl rfl) h1 h2
  · simp only [hi, if_false]; exact pcOf_of 2 num _ (.inr rfl) h1 h2

theorem take_fill (n : Nat) (b : List Nat) (k : Nat) (h : k ≤ b.length) : (fillTo n b).take k = b.take k := by
  unfold fillTo; rw [List.take_append_of_le_length h]

/-- The bytes of all sectors of a record, put together. -/
theorem text_back (text : List Nat) : ∀ (j : Nat) (m : Nat), text.length ≤ m + 55 * j →
    ((text.take m) ++ ((List.range j).flatMap fun i => fillTo 55 ((text.drop (m + 55 * i)).take 55))).take text.length = text
  | 0, m, h => by
    simp only [List.range_zero, List.flatMap_nil, List.append_nil]
    rw [List.take_of_length_le (l := text) (by omega), List.take_length]
  | j + 1, m, h => by
    rw [List.range_succ_eq_map, List.flatMap_cons, List.flatMap_map]
    rcases Nat.lt_or_ge text.length (m + 55) with hlt | hge
    · have e1 : text.take m ++ (text.drop m).take 55 = text := by
        rw [List.take_of_length_le (l := text.drop m) (by rw [List.length_drop]; omega), List.take_append_drop]
      simp only [Nat.mul_zero, Nat.add_zero]
      unfold fillTo
      rw [List.append_assoc, ← List.append_assoc, e1, List.take_append_of_le_length (Nat.le_refl _), List.take_length]
    · have e1 : text.take m ++ fillTo 55 ((text.drop (m + 55 * 0)).take 55) = text.take (m + 55) := by
        have hl : ((text.drop m).take 55).length = 55 := by rw [List.length_take, List.length_drop]; omega
        simp only [Nat.mul_zero, Nat.add_zero]
        unfold fillTo
        rw [hl, Nat.sub_self, List.replicate_zero, List.append_nil, List.take_add]
      have ih := text_back text j (m + 55) (by omega)
      rw [← List.append_assoc, e1]
      simp only [show ∀ i, m + 55 * (i + 1) = m + 55 + 55 * i by intro i; omega]
      exact ih

theorem sumR_lt (num : Nat) (text : List Nat) (hc : ∀ l, crc l < 4294967296) : sumR num text < 4294967296 := hc _

/-- A row some of whose first sectors are those of a new record, the others the old ones. -/
structure Mixed (N : Nat) (s : List Nat) (B B' : List Pc) : Prop where
  len : B'.length = B.length
  fits : need s.length ≤ B.length
  each : ∀ i (h : i < B.length), B'[i]? = some B[i] ∨ (i < need s.length ∧ B'[i]? = some ⟨if i = 0 then 1 else 2, N, restB N s i⟩)

theorem restB0 (N : Nat) (s : List Nat) (hs : s.length < 4294967296) (hc : ∀ l, crc l < 4294967296) : ofLe ((restB N s 0).take 4) = s.length ∧ ofLe (((restB N s 0).drop 4).take 4) = sumR N s ∧ (restB N s 0).drop 8 = fillTo 47 (s.take 47) := by
  have e0 : restB N s 0 = le 4 s.length ++ (le 4 (sumR N s) ++ fillTo 47 (s.take 47)) := by
    simp only [restB, if_true, fillTo, List.length_append, le_len, List.append_assoc]
    rw [show 55 - (4 + (4 + (List.take 47 s).length)) = 47 - (List.take 47 s).length by omega]
  have h1 := sumR_lt N s hc
  refine ⟨?_, ?_, ?_⟩
  · rw [e0, (le_split _ _ _).1, ofLe_le]; exact Nat.mod_eq_of_lt (by omega)
  · rw [e0, (le_split _ _ _).2, (le_split _ _ _).1, ofLe_le]; exact Nat.mod_eq_of_lt (by omega)
  · rw [e0, show (8 : Nat) = 4 + 4 from rfl, ← List.drop_drop, (le_split _ _ _).2, (le_split _ _ _).2]

theorem new_text (N : Nat) (s : List Nat) (hs : s.length < 4294967296) (hc : ∀ l, crc l < 4294967296) (R : List Pc) (hR : ∀ i, i < need s.length - 1 → R[i]? = some ⟨2, N, restB N s (i + 1)⟩) :
    ((restB N s 0).drop 8 ++ (R.take (need s.length - 1)).flatMap (·.rest)).take s.length = s := by
  have hR2 : R.take (need s.length - 1) = (List.range (need s.length - 1)).map fun i => (⟨2, N, restB N s (i + 1)⟩ : Pc) := by
    refine List.ext_getElem? fun i => ?_
    rw [List.getElem?_take, List.getElem?_map]
    split
    · next h => rw [hR i h, List.getElem?_range h]; rfl
    · next h => rw [List.getElem?_eq_none (by simp; omega)]; rfl
  rw [hR2, List.flatMap_map, (restB0 N s hs hc).2.2]
  simp only [restB, Nat.add_one_ne_zero, if_false, Nat.add_sub_cancel]
  have h1 := need_ge s.length
  rcases Nat.lt_or_ge s.length 47 with hlt | hge
  · rw [List.take_of_length_le (l := s) (by omega)]
    unfold fillTo
    rw [List.append_assoc, List.take_append_of_le_length (Nat.le_refl _), List.take_length]
  · have : fillTo 47 (s.take 47) = s.take 47 := by unfold fillTo; rw [List.length_take, Nat.min_eq_left hge, Nat.sub_self, List.replicate_zero, List.append_nil]
    rw [this]
    exact text_back s _ 47 h1

theorem mixed_stands {N last : Nat} {s : List Nat} {B B' : List Pc} (h : Mixed N s B B') (hs : s.length < 4294967296) (hc : ∀ l, crc l < 4294967296) (hN : ∀ p ∈ B, p.num < N) (hl : last < N) (h0 : ¬ WholeAt last B) :
    Stands last B' [] 0 ∨ Stands last B' [s] (need s.length) := by
  by_cases hw : WholeAt last B'
  case neg => exact .inl (.stop hw)
  have hnp := need_pos s.length
  have hfit := h.fits
  obtain ⟨p', R', rfl⟩ : ∃ p' R', B' = p' :: R' := by
    cases B' with
    | nil => exact hw.elim
    | cons p' R' => exact ⟨_, _, rfl⟩
  obtain ⟨p, R, rfl⟩ : ∃ p R, B = p :: R := by
    cases B with
    | nil => simp at hfit; omega
    | cons p R => exact ⟨_, _, rfl⟩
  have hlen : R'.length = R.length := by have := h.len; simpa using this
  have h00 := h.each 0 (by simp)
  simp only [List.getElem?_cons_zero, List.getElem_cons_zero, Option.some.injEq, if_true] at h00
  obtain ⟨w1, w2, w3, w4, w5⟩ := hw
  rcases h00 with rfl | ⟨_, rfl⟩
  · -- an old head: then all is old
    exfalso
    apply h0
    have ht : R'.take (need (ofLe (p'.rest.take 4)) - 1) = R.take (need (ofLe (p'.rest.take 4)) - 1) := by
      refine List.ext_getElem? fun i => ?_
      rw [List.getElem?_take, List.getElem?_take]
      split
      · next hi =>
        by_cases hiR : i < R.length
        · have hi2 := h.each (i + 1) (by simp; omega)
          simp only [List.getElem?_cons_succ, List.getElem_cons_succ] at hi2
          rcases hi2 with hi2 | ⟨_, hi2⟩
          · rw [hi2, List.getElem?_eq_getElem hiR]
          · exfalso
            have hm : (⟨if i + 1 = 0 then 1 else 2, N, restB N s (i + 1)⟩ : Pc) ∈ R'.take (need (ofLe (p'.rest.take 4)) - 1) := by
              refine List.mem_of_getElem? (i := i) ?_
              rw [List.getElem?_take, if_pos hi]; exact hi2
            have h3 := (w4 _ hm).2
            have h4 := hN p' List.mem_cons_self
            simp only at h3
            omega
        · rw [List.getElem?_eq_none (by omega), List.getElem?_eq_none (by omega)]
      · rfl
    rw [ht] at w4
    have e5 : textAt (ofLe (p'.rest.take 4)) (need (ofLe (p'.rest.take 4))) (p' :: R') = textAt (ofLe (p'.rest.take 4)) (need (ofLe (p'.rest.take 4))) (p' :: R) := by simp only [textAt, ht]
    rw [e5] at w5
    exact ⟨w1, w2, by omega, w4, w5⟩
  · -- a new head: then all is new
    right
    obtain ⟨r1, r2, r3⟩ := restB0 N s hs hc
    simp only [r1, r2] at w3 w4 w5
    have hnew : ∀ i, i < need s.length - 1 → R'[i]? = some ⟨2, N, restB N s (i + 1)⟩ := by
      intro i hi
      simp only [List.length_cons] at hfit
      have hi2 := h.each (i + 1) (by simp; omega)
      simp only [List.getElem?_cons_succ, List.getElem_cons_succ] at hi2
      rcases hi2 with hi2 | ⟨_, hi2⟩
      · exfalso
        have hm : R[i]'(by omega) ∈ R'.take (need s.length - 1) := by
          refine List.mem_of_getElem? (i := i) ?_
          rw [List.getElem?_take, if_pos hi]; exact hi2
        have h3 := (w4 _ hm).2
        have h4 := hN _ (List.mem_cons_of_mem p (List.getElem_mem (by omega : i < R.length)))
        omega
      · rw [hi2]; simp
    have htx := new_text N s hs hc R' hnew
    have hwh : WholeAt last (⟨1, N, restB N s 0⟩ :: R') := by
      simp only [WholeAt, r1, r2]
      exact ⟨trivial, hl, w3, w4, w5⟩
    have hrest : ¬ WholeAt N (List.drop (need s.length) (⟨1, N, restB N s 0⟩ :: R')) := by
      obtain ⟨j, hj⟩ : ∃ j, need s.length = j + 1 := ⟨_, (Nat.sub_add_cancel hnp).symm⟩
      rw [hj]
      show ¬ WholeAt N (R'.drop j)
      intro hh
      cases hd : R'.drop j with
      | nil => rw [hd] at hh; exact hh.elim
      | cons q Q =>
        rw [hd] at hh
        have hq : R'[j]? = some q := by have := List.getElem?_drop (xs := R') (i := j) (j := 0); rw [hd] at this; simpa using this.symm
        have hjl : j < R'.length := (List.getElem?_eq_some_iff.1 hq).1
        have hi2 := h.each (j + 1) (by simp; omega)
        simp only [List.getElem?_cons_succ, List.getElem_cons_succ] at hi2
        rcases hi2 with hi2 | ⟨hi2, _⟩
        · rw [hq] at hi2
          have h4 := hN _ (List.mem_cons_of_mem p (List.getElem_mem (by omega : j < R.length)))
          rw [← Option.some.inj hi2] at h4
          have := hh.2.1
          omega
        · omega
    have := Stands.more hwh (l := []) (k := 0) (by
      simp only [numAt, cnt, r1]
      exact .stop hrest)
    simp only [cnt, r1, textAt, htx, Nat.add_zero] at this
    exact this

/-- All sectors are the new ones. -/
theorem new_stands {N last : Nat} {s : List Nat} {B B' : List Pc} (h : Mixed N s B B') (hall : ∀ i, i < need s.length → B'[i]? = some ⟨if i = 0 then 1 else 2, N, restB N s i⟩) (hs : s.length < 4294967296) (hc : ∀ l, crc l < 4294967296) (hN : ∀ p ∈ B, p.num < N) (hl : last < N) (h0 : ¬ WholeAt last B) :
    Stands last B' [s] (need s.length) := by
  rcases mixed_stands h hs hc hN hl h0 with h1 | h1
  · exfalso
    have hnp := need_pos s.length
    cases h1 with
    | stop h2 =>
      apply h2
      have h3 := hall 0 (by omega)
      cases B' with
      | nil => simp at h3
      | cons q R' =>
        simp only [List.getElem?_cons_zero, Option.some.injEq, if_true] at h3
        subst h3
        obtain ⟨r1, r2, r3⟩ := restB0 N s hs hc
        have hnew : ∀ i, i < need s.length - 1 → R'[i]? = some ⟨2, N, restB N s (i + 1)⟩ := fun i hi => by
          have := hall (i + 1) (by omega)
          simpa using this
        have hlen := h.len
        have hf := h.fits
        simp only [List.length_cons] at hlen
        simp only [WholeAt, r1, r2]
        refine ⟨trivial, hl, by omega, fun q hq => ?_, by simp only [textAt]; rw [new_text N s hs hc R' hnew]⟩
        obtain ⟨i, hi⟩ := List.getElem?_of_mem hq
        rw [List.getElem?_take] at hi
        split at hi
        · next hlt => rw [hnew i hlt] at hi; cases hi; exact ⟨rfl, rfl⟩
        · cases hi
  · exact h1

end Go.Proofs.YtkhghkklekjdaaaDoor.jm
