/- Straws put in order. -/
import Derived.Test.YtnacobhhgeljoaaRows
import Derived.Test.YtnacobhhgeljoaaCrushShelf
import Derived.Test.YtnacobhhgeljoaaCrushSeq
import Derived.Shelf.SlSortCmp.QuietGrown
namespace Go.Proofs.Ytnacobhhgeljoaa.crush
open Go.RowKit Go.Shelf Go.Lib Go.Sort
open Go.Proofs.Ytnacobhhgeljoaa.kit Go.Proofs.Ytnacobhhgeljoaa.own
set_option linter.unusedVariables false
set_option linter.unusedSimpArgs false

/-- A straw that may be chosen. -/
def PStr := {s : Str // 0 < s.wt ∧ s.Low}
instance : Inhabited PStr := ⟨⟨⟨0, 1, 0, 0⟩, by decide, by unfold Str.Low; decide⟩⟩
def pc (p : PStr) : List Value := sc p.1
theorem pc_len (x : PStr) : (pc x).length = 4 := rfl
theorem pc_one (x : PStr) : ∀ v ∈ pc x, v.oneCell' = true := sc_one x.1
def ordP (x y : PStr) : Int := ordS x.1 y.1
/-- One straw is ahead of another. -/
def ltS (a b : Str) : Prop := a.cost * b.wt < b.cost * a.wt ∨ a.cost * b.wt = b.cost * a.wt ∧ a.place < b.place
theorem ordS_neg (a b : Str) : ordS a b < 0 ↔ ltS a b := by
  unfold ordS ltS
  generalize a.cost * b.wt = p
  generalize b.cost * a.wt = q
  unfold first2 cmp3
  by_cases h1 : p < q
  · have : (p : Int) < q := by omega
    simp [this, h1]
  · have n1 : ¬ (p : Int) < q := by omega
    by_cases h2 : q < p
    · have h3 : (q : Int) < p := by omega
      have h4 : ¬ p = q := by omega
      simp [n1, h3, h1, h4]
    · have n2 : ¬ (q : Int) < p := by omega
      have h4 : p = q := by omega
      by_cases h5 : a.place < b.place
      · have : (a.place : Int) < b.place := by omega
        simp [n1, n2, h4, h5, this]
      · have n5 : ¬ (a.place : Int) < b.place := by omega
        by_cases h6 : b.place < a.place
        · have : (b.place : Int) < a.place := by omega
          simp [n1, n2, h4, h5, n5, this]
        · have : ¬ (b.place : Int) < a.place := by omega
          simp [n1, n2, h4, h5, n5, this]
theorem ltP (x y : PStr) : ltOf ordP x y = true ↔ ltS x.1 y.1 := by
  unfold ltOf ordP
  rw [decide_eq_true_iff]
  exact ordS_neg _ _
/-- Not behind it. -/
def leS (a b : Str) : Prop := a.cost * b.wt < b.cost * a.wt ∨ a.cost * b.wt = b.cost * a.wt ∧ a.place ≤ b.place
theorem not_ltS (a b : Str) : ¬ ltS a b ↔ leS b a := by unfold ltS leS; omega
theorem leS_trans {a b c : Str} (ha : 0 < a.wt) (hb : 0 < b.wt) (hc : 0 < c.wt) (h1 : leS a b) (h2 : leS b c) : leS a c := by
  rcases h1 with h1 | ⟨h1, p1⟩
  · left
    refine frac_lt1 hb hc h1 ?_
    rcases h2 with h2 | ⟨h2, _⟩ <;> omega
  · rcases h2 with h2 | ⟨h2, p2⟩
    · left
      exact frac_lt2 hb ha (by omega) h2
    · right
      refine ⟨Nat.le_antisymm (frac_le (b := b.cost) (v := b.wt) hb (by omega) (by omega)) (frac_le (b := b.cost) (v := b.wt) hb (by omega) (by omega)), by omega⟩
theorem ordP_swo : SWO (ltOf ordP) where
  irrefl x := by
    rw [Bool.eq_false_iff]
    intro h
    have := (ltP x x).1 h
    unfold ltS at this
    omega
  trans x y z h1 h2 := by
    have a := (ltP x y).1 h1
    have b := (ltP y z).1 h2
    refine (ltP x z).2 ?_
    have a' : leS x.1 y.1 := by unfold leS; unfold ltS at a; omega
    have b' : leS y.1 z.1 := by unfold leS; unfold ltS at b; omega
    have c := leS_trans x.2.1 y.2.1 z.2.1 a' b'
    rcases a with a | ⟨a, pa⟩
    · left
      refine frac_lt1 y.2.1 z.2.1 a ?_
      rcases b with b | ⟨b, _⟩ <;> omega
    · rcases b with b | ⟨b, pb⟩
      · left
        exact frac_lt2 y.2.1 x.2.1 (by omega) b
      · right
        refine ⟨Nat.le_antisymm (frac_le (b := y.1.cost) (v := y.1.wt) y.2.1 (by omega) (by omega)) (frac_le (b := y.1.cost) (v := y.1.wt) y.2.1 (by omega) (by omega)), by omega⟩
  ntrans x y z h1 h2 := by
    have a : ¬ ltS x.1 y.1 := fun h => by rw [(ltP x y).2 h] at h1; cases h1
    have b : ¬ ltS y.1 z.1 := fun h => by rw [(ltP y z).2 h] at h2; cases h2
    rw [not_ltS] at a b
    have c := leS_trans z.2.1 y.2.1 x.2.1 b a
    rw [Bool.eq_false_iff]
    intro h
    exact (not_ltS x.1 z.1).2 c ((ltP x z).1 h)

theorem holds_of_own {w : World} {g cap : Nat} {xs : List PStr} (h : OwnAt pc 4 42 w g cap xs) : HoldsK pc 4 w g 0 xs.toArray := by
  obtain ⟨cur, h1, h2, h3⟩ := h.ex
  intro t ht
  have ht' : t < xs.length * 4 := by simpa using ht
  have hq : t / 4 < xs.length := by omega
  rw [get_flatK _ _ _ _ (by simpa using ht')]
  have e1 : (xs.toArray[t / 4]! : PStr) = xs[t / 4] := by rw [getElem!_pos xs.toArray _ (by simpa using hq)]; simp
  rw [e1]
  have hr := h.row pc_len (t / 4) hq
  have hm : t % 4 < (pc xs[t / 4]).length := by rw [pc_len]; omega
  have := hr (t % 4) (pc xs[t / 4])[t % 4] (by simp [hm])
  refine ⟨?_, ?_⟩
  · rw [getElem!_pos (pc xs[t / 4]) _ hm]
    have e2 : 0 + t = t / 4 * 4 + t % 4 := by omega
    rw [e2]
    exact this
  · simp [World.frozen?, h1]

/-- What the sort leaves: the row sorted, in its block; nothing else that lay has turned. -/
theorem sortedWorld {w : World} {g cap : Nat} {xs ys : List PStr} (h : OwnAt pc 4 42 w g cap xs) (hl : ys.length = xs.length) (n : Nat) (os : Array Obj) :
    OwnAt pc 4 42 (sortWorldK pc 4 w g 0 n ys.toArray os) g cap ys ∧ w.grownBy (sortWorldK pc 4 w g 0 n ys.toArray os) (some g) := by
  have hg := h.lt
  obtain ⟨cur, h1, h2, h3⟩ := h.ex
  have hcap := h.le
  have hheap : (sortWorldK pc 4 w g 0 n ys.toArray os).heap[g]? = some (.cells (putCells id 0 (flatK pc 4 ys.toArray) cur) 42 (0, 0)) := by
    unfold sortWorldK putRowK putRow
    rw [heap_grow_old _ _ (by simpa [mapBlock] using hg)]
    simp only [mapBlock, Array.getElem?_modify]
    simp [onCells]
    exact ⟨_, h1, rfl⟩
  have hoth : ∀ k, k < w.heap.size → k ≠ g → (sortWorldK pc 4 w g 0 n ys.toArray os).heap[k]? = w.heap[k]? := by
    intro k hk hne
    unfold sortWorldK putRowK putRow
    rw [heap_grow_old _ _ (by simpa [mapBlock] using hk)]
    simp only [mapBlock, Array.getElem?_modify]
    rw [if_neg (fun e => hne e.symm)]
    rfl
  refine ⟨⟨⟨_, hheap, by simpa [putCells] using h2, ?_⟩, by rw [hl]; exact hcap, h.max⟩, ?_⟩
  · have hlen : xs.length * 4 ≤ cur.size := by rw [h2]; exact Nat.mul_le_mul_right 4 hcap
    apply List.ext_getElem?
    intro t
    rw [List.getElem?_take]
    by_cases ht : t < ys.length * 4
    · have hq : t / 4 < ys.length := by omega
      have hd : t = t / 4 * 4 + t % 4 := by omega
      have e1 : (ys.flatMap pc)[t]? = (pc ys[t / 4])[t % 4]? := by
        conv => lhs; rw [hd]
        exact flat_at pc_len ys (t / 4) (t % 4) hq (Nat.mod_lt _ (by decide))
      have hm : t % 4 < (pc ys[t / 4]).length := by rw [pc_len]; omega
      have hF : (flatK pc 4 ys.toArray)[t]! = (pc ys[t / 4])[t % 4] := by
        rw [get_flatK _ _ _ _ (by simpa using ht)]
        have e1 : (ys.toArray[t / 4]! : PStr) = ys[t / 4] := by rw [getElem!_pos ys.toArray _ (by simpa using hq)]; simp
        rw [e1, getElem!_pos (pc ys[t / 4]) (t % 4) hm]
      have hc : t < cur.size := by omega
      rw [if_pos ht, e1, List.getElem?_eq_getElem hm]
      simp only [putCells, Array.getElem?_toList, Array.getElem?_mapIdx, Array.getElem?_eq_getElem hc, Option.map_some, Nat.zero_le, true_and, Nat.zero_add, size_flatK, Nat.sub_zero]
      rw [if_pos (by simpa using ht)]
      simp only [id, hF]
    · rw [if_neg ht]
      symm
      rw [List.getElem?_eq_none]
      rw [flat_len pc_len]; omega
  · refine ⟨rfl, rfl, rfl, ?_, fun k hk hn => hoth k hk (fun e => hn (by rw [e]))⟩
    unfold sortWorldK putRowK
    rw [size_grow, size_putRow]
    exact Nat.le_add_right _ _



set_option maxHeartbeats 1000000 in
/-- 'slices.SortFunc(straws, compare)': the row holds them in the order. -/
theorem sortF_any (g cap : Nat) (xs : List PStr) (w : World) (h : OwnAt pc 4 42 w g cap xs) (hm : xs.length < 4611686018427387904) :
    Calls Try.prog 40 #[.slice (some ⟨g, 0, none⟩) xs.length cap, .func (.func 22) #[] #[]] w fun e w' =>
      e = .returned (.tuple #[]) ∧ ∃ ys : List PStr, ys.Perm xs ∧ ys.Pairwise (fun x y => leS x.1 y.1) ∧ OwnAt pc 4 42 w' g cap ys ∧ w.grownBy w' (some g) := by
  have eg : ∀ args w, (callFunc 22 args).run Try.prog w = .ok (.enter 22 args) w := enters_of Try.func22 (by kernel_rfl) rfl
  have hcmp : CmpLays Try.prog 22 #[] pc 4 ordP g 0 xs.toArray.size w := fun _ _ _ _ x y => compare_any x.1 y.1 x.2.2 y.2.2 _
  have hcon := AnyQ.slices_SortFunc Try.sortWays 4 Try.isAgg42 Try.sizeOf42 pc pc_len pc_one ordP ordP_swo 22 #[] g 0 cap xs.toArray w eg hcmp (holds_of_own h) h.lt (by simpa using hm)
  refine hcon.mono ?_
  rintro e w' ⟨he, d', n, os, hp, hs, rfl⟩
  obtain ⟨hsz, -, hperm⟩ := hp
  have hsz' : d'.size = xs.length := by simpa using hsz
  have hperm' : d'.toList.Perm xs := by
    have e1 : d'.extract 0 xs.toArray.size = d' := by rw [← hsz]; exact Array.extract_size
    have e2 : xs.toArray.extract 0 xs.toArray.size = xs.toArray := Array.extract_size
    rw [e1, e2] at hperm
    simpa using hperm
  have hpw : d'.toList.Pairwise (fun x y => leS x.1 y.1) := by
    rw [List.pairwise_iff_getElem]
    intro i j hi hj hij
    have hj' : j < d'.size := by simpa using hj
    have hi' : i < d'.size := by simpa using hi
    have := hs i j (Nat.zero_le _) hij (by simpa [hsz'] using hj')
    rw [getElem!_pos d' j hj', getElem!_pos d' i hi'] at this
    refine (not_ltS _ _).1 (fun hlt => ?_)
    have h2 := (ltP _ _).2 hlt
    simp only [Array.getElem_toList] at h2
    rw [this] at h2
    cases h2
  obtain ⟨h1, h2⟩ := sortedWorld (ys := d'.toList) h (by simpa using hsz') n os
  exact ⟨he, d'.toList, hperm', hpw, by simpa using h1, by simpa using h2⟩

end Go.Proofs.Ytnacobhhgeljoaa.crush
