/- What an append makes of a device. -/
import Derived.Test.YtgdfdljgbogbnaaDoorRows
import Derived.Test.YtgdfdljgbogbnaaDoorJournalWrite
namespace Go.Proofs.YtgdfdljgbogbnaaDoor.journal
open Go.RowKit
open Go.Proofs.YtgdfdljgbogbnaaDoor.kit Go.Proofs.YtgdfdljgbogbnaaDoor.own Go.Proofs.YtgdfdljgbogbnaaDoor.jm Go.Proofs.YtgdfdljgbogbnaaDoor.sector
set_option linter.unusedVariables false

theorem look_in {m : Dev} (h : (keys m.cache).Nodup) {k : Nat} {x : List Nat} (hp : (k, x) ∈ m.cache) : sector.look m k = x := by
  obtain ⟨i, hi, he⟩ := List.mem_iff_getElem.1 hp
  have hk : k ∈ keys m.cache := List.mem_map_of_mem (f := (·.1)) hp
  have hj : (keys m.cache).idxOf k < (keys m.cache).length := List.idxOf_lt_length_of_mem hk
  have hj' : (keys m.cache).idxOf k < m.cache.length := by rw [keys_len] at hj; exact hj
  have hi' : i < (keys m.cache).length := by rw [keys_len]; exact hi
  have e : (keys m.cache).idxOf k = i := by
    refine (List.getElem_inj (h₀ := hj) (h₁ := hi') h).1 ?_
    rw [List.getElem_idxOf hj]
    simp only [keys, List.getElem_map, he]
  unfold sector.look
  rw [if_pos hj', e]
  simp [nth, List.getD, hi, he]
theorem look_out {m : Dev} {k : Nat} (h : k ∉ keys m.cache) : sector.look m k = sectorOf m.laid k := by
  unfold sector.look
  rw [if_neg]
  intro hj
  exact h (List.idxOf_lt_length_iff.1 (by rw [keys_len]; exact hj))
theorem wrote_has {m : Dev} (h : (keys m.cache).Nodup) (k : Nat) (x : List Nat) : (k, x) ∈ (wrote m k x).cache ∧ (∀ p ∈ m.cache, p.1 ≠ k → p ∈ (wrote m k x).cache) ∧ (keys (wrote m k x).cache).Nodup := by
  have e : (wrote m k x).cache = (putC (afterLets m) k x).cache := rfl
  rw [e]
  unfold putC
  have ek : keys (afterLets m).cache = keys m.cache := rfl
  have ec : (afterLets m).cache = m.cache := rfl
  rw [ek, ec]
  by_cases hj : (keys m.cache).idxOf k < m.cache.length
  · rw [if_pos hj]
    have e2 : (putAt (afterLets m) ((keys m.cache).idxOf k) k x).cache = m.cache.set ((keys m.cache).idxOf k) (k, x) := rfl
    rw [e2]
    have hj' : (keys m.cache).idxOf k < (keys m.cache).length := by rw [keys_len]; exact hj
    have hk : (keys m.cache)[(keys m.cache).idxOf k]'hj' = k := List.getElem_idxOf hj'
    refine ⟨List.mem_iff_getElem.2 ⟨_, by rw [List.length_set]; exact hj, by rw [List.getElem_set_self]⟩, fun p hp hpk => ?_, ?_⟩
    · obtain ⟨i, hi, he⟩ := List.mem_iff_getElem.1 hp
      refine List.mem_iff_getElem.2 ⟨i, by rw [List.length_set]; exact hi, ?_⟩
      rw [List.getElem_set, if_neg ?_]
      · exact he
      · intro e3
        subst e3
        apply hpk
        have : (keys m.cache)[(keys m.cache).idxOf k]'hj' = p.1 := by simp only [keys, List.getElem_map]; exact congrArg _ he
        rw [← this]; exact hk
    · have : keys (m.cache.set ((keys m.cache).idxOf k) (k, x)) = keys m.cache := by
        unfold keys
        rw [List.map_set]
        refine List.ext_getElem? fun i => ?_
        rw [List.getElem?_set]
        split
        · next h2 =>
          subst h2
          have h3 : (List.map (fun x => x.fst) m.cache)[(keys m.cache).idxOf k]? = some k := by
            have := List.getElem?_eq_getElem hj'
            rw [hk] at this
            exact this
          rw [show List.idxOf k (List.map (fun x => x.fst) m.cache) = (keys m.cache).idxOf k from rfl, h3]
          simp [keys] at hj' ⊢
          exact hj'
        · rfl
      rw [this]; exact h
  · rw [if_neg hj]
    have e2 : (putNew (afterLets m) k x).cache = m.cache ++ [(k, x)] := rfl
    rw [e2]
    refine ⟨by simp, fun p hp _ => List.mem_append_left _ hp, ?_⟩
    have hk : k ∉ keys m.cache := fun hm => hj (by have := List.idxOf_lt_length_of_mem hm; rw [keys_len] at this; exact this)
    have : keys (m.cache ++ [(k, x)]) = keys m.cache ++ [k] := by simp [keys]
    rw [this, List.nodup_append]
    refine ⟨h, by simp, ?_⟩
    intro a ha b hb e3
    simp at hb
    subst hb
    subst e3
    exact hk ha
theorem wrote_ok {m : Dev} (h : m.Ok) {k : Nat} {x : List Nat} (hk : k < m.n) (hx : x.length = 64) (h8 : ∀ y ∈ x, y < 256) (hw : m.ws + 1 < 4611686018427387904) : (wrote m k x).Ok := by
  obtain ⟨h1, h2, h3, h4, h5, h6⟩ := wrote_same m k x
  refine ⟨by rw [h2]; exact h.n, by rw [h6, h2]; exact h.laid, by rw [h6]; exact h.laidLt, fun p hp => ?_, (wrote_has h.once k x).2.2, fun p hp => ?_, by rw [h4]; exact hw, by rw [h5]; exact h.fs⟩
  · rw [h2]
    rcases wrote_cache h k x p hp with rfl | ⟨hp, _⟩
    · exact ⟨hk, hx, h8⟩
    · exact h.cache p hp
  · rw [h3] at hp
    cases hc : m.cut with
    | none => rw [hc] at hp; simp at hp
    | some q =>
      rw [hc] at hp
      simp at hp
      subst hp
      have := h.cut q hc
      simp only
      omega
theorem look_wrote {m : Dev} (h : m.Ok) {k : Nat} {x : List Nat} (j : Nat) : sector.look (wrote m k x) j = if j = k then x else sector.look m j := by
  obtain ⟨a1, a2, a3⟩ := wrote_has h.once k x
  by_cases e : j = k
  · rw [if_pos e, e]
    exact look_in a3 a1
  · rw [if_neg e]
    by_cases hm : j ∈ keys m.cache
    · obtain ⟨p, hp, hpj⟩ := List.mem_map.1 hm
      have hp' : (j, p.2) ∈ m.cache := by rw [← hpj]; exact hp
      rw [look_in h.once hp']
      exact look_in a3 (a2 _ hp' e)
    · rw [look_out hm, look_out, (wrote_same m k x).2.2.2.2.2]
      intro hm2
      obtain ⟨p, hp, hpj⟩ := List.mem_map.1 hm2
      rcases wrote_cache h k x p hp with rfl | ⟨hp, _⟩
      · exact e hpj.symm
      · exact hm (by rw [← hpj]; exact List.mem_map_of_mem hp)
theorem look_empty {m : Dev} (h : m.cache = []) (k : Nat) : sector.look m k = sectorOf m.laid k := look_out (by rw [h]; simp [keys])
theorem bit_all (i : Nat) : bitAt allBits i = 1 := by
  unfold bitAt allBits
  have : i % 64 < 64 := Nat.mod_lt _ (by omega)
  generalize i % 64 = j at this
  have h : ∀ j, j < 64 → 18446744073709551615 / 2 ^ j % 2 = 1 := by decide +kernel
  exact h j this
theorem look_settled {m : Dev} (h : m.Ok) (p k : Nat) : sector.look (settled m p) k = sector.look m k ∨ sector.look (settled m p) k = sectorOf m.laid k := by
  rw [look_empty (by rfl)]
  show sectorOf (settleF p 0 m.cache m.laid) k = _ ∨ sectorOf (settleF p 0 m.cache m.laid) k = _
  rcases settleF_or p m.n k m.cache 0 m.laid h.cache h.laid with h1 | ⟨q, hq, h1, h2⟩
  · exact .inr h1
  · refine .inl ?_
    rw [h2]
    exact (look_in h.once (by rw [← h1]; exact hq)).symm
theorem look_flushed {m : Dev} (h : m.Ok) (k : Nat) : sector.look (flushed m) k = sector.look m k := by
  rw [look_empty (m := flushed m) (by rfl)]
  show sectorOf (settleF allBits 0 m.cache m.laid) k = _
  by_cases hm : k ∈ keys m.cache
  · have hj : (keys m.cache).idxOf k < m.cache.length := by have := List.idxOf_lt_length_of_mem hm; rw [keys_len] at this; exact this
    have := settleF_bit allBits m.n m.cache 0 m.laid h.cache h.laid h.once _ hj (bit_all _)
    have hj' : (keys m.cache).idxOf k < (keys m.cache).length := by rw [keys_len]; exact hj
    have e : (keys m.cache).getD ((keys m.cache).idxOf k) 0 = k := (idx_hit (ns := keys m.cache) (k := k) hj').1
    rw [e] at this
    rw [this]
    unfold sector.look
    rw [if_pos hj]
  · rw [look_out hm]
    exact settleF_not allBits m.n k m.cache 0 m.laid h.cache h.laid hm

/-- What an append makes of a device whose cache is empty. -/
structure Wrote (num : Nat) (text : List Nat) (z i : Nat) (m mi : Dev) : Prop where
  ok : mi.Ok
  power : mi.power = true
  n : mi.n = m.n
  laid : mi.laid = m.laid
  ws : mi.ws = m.ws + i
  fs : mi.fs = m.fs
  cut : mi.cut = m.cut.map fun p => (p.1 - i, p.2)
  looks : ∀ j, sector.look mi j = if z ≤ j ∧ j < z + i then pieceB num text (j - z) else sector.look m j
def AppOk (num : Nat) (text : List Nat) (z : Nat) (m m' : Dev) : Prop :=
  m'.Ok ∧ m'.power = true ∧ m'.cache = [] ∧ m'.n = m.n ∧ m'.ws = m.ws + need text.length ∧ m'.fs = m.fs + 1 ∧ (m'.cut = m.cut.map fun p => (p.1 - need text.length, p.2)) ∧ ∀ j, sector.look m' j = if z ≤ j ∧ j < z + need text.length then pieceB num text (j - z) else sector.look m j
def AppBad (num : Nat) (text : List Nat) (z : Nat) (m m' : Dev) : Prop :=
  m'.Ok ∧ m'.power = false ∧ m'.cache = [] ∧ m'.n = m.n ∧ m'.ws ≤ m.ws + need text.length ∧ m'.fs = m.fs ∧ m'.cut = none ∧ m.cut ≠ none ∧ ∀ j, sector.look m' j = sector.look m j ∨ (z ≤ j ∧ j < z + need text.length ∧ sector.look m' j = pieceB num text (j - z))
theorem appGo_out (num : Nat) (text : List Nat) (z : Nat) (m : Dev) (he : m.cache = []) (h8 : ∀ x ∈ text, x < 256) (hz : z + need text.length ≤ m.n) (hws : m.ws + need text.length < 4611686018427387904) (hfs : m.fs + 1 < 4611686018427387904) :
    ∀ (f i : Nat) (mi : Dev), i + f = need text.length → Wrote num text z i m mi →
    ((appGo num text z f i mi).2 = true ∧ AppOk num text z m (appGo num text z f i mi).1) ∨ ((appGo num text z f i mi).2 = false ∧ AppBad num text z m (appGo num text z f i mi).1)
  | 0, i, mi, hi, h => by
    left
    have hi' : i = need text.length := by omega
    subst hi'
    have e1 : fDev mi = flushed mi := by unfold fDev; rw [if_neg (by rw [h.power]; simp)]
    have e2 : fErr mi = 0 := by unfold fErr; rw [if_neg (by rw [h.power]; simp)]
    simp only [appGo, e1, e2]
    refine ⟨by simp, flushed_ok h.ok (by rw [h.fs]; exact hfs), h.power, rfl, h.n, h.ws, ?_, h.cut, fun j => ?_⟩
    · show mi.fs + 1 = _; rw [h.fs]
    · rw [look_flushed h.ok]; exact h.looks j
  | f + 1, i, mi, hi, h => by
    have hin : z + i < m.n := by omega
    have hx := pieceB_len num text i
    have hrg : ¬ ¬ (0 ≤ ((z + i : Nat) : Int) ∧ ((z + i : Nat) : Int) < (mi.n : Int)) := by rw [h.n]; simp only [Decidable.not_not]; omega
    have hp : ¬ mi.power = false := by rw [h.power]; simp
    by_cases hc : ∃ p, mi.cut = some (0, p)
    · right
      obtain ⟨p, hc⟩ := hc
      have e1 : wErr mi ((z + i : Nat) : Int) 64 = 22 := by unfold wErr; rw [if_neg hp, if_neg hrg, if_neg (by simp), hc]; rfl
      have e2 : wDev mi ((z + i : Nat) : Int) (pieceB num text i) = lost mi p := by unfold wDev; rw [if_neg hp, if_neg hrg, if_neg (by rw [hx]; simp), hc]; rfl
      have e3 : appGo num text z (f + 1) i mi = (lost mi p, false) := by simp only [appGo, e1, e2]; rw [if_neg (by decide)]
      rw [e3]
      refine ⟨rfl, lost_ok h.ok p, rfl, rfl, h.n, ?_, h.fs, rfl, ?_, fun j => ?_⟩
      · show mi.ws ≤ _; rw [h.ws]; omega
      · intro hn; have := h.cut; rw [hn, hc] at this; simp at this
      · rcases look_settled h.ok p j with h1 | h1
        · have h2 : sector.look (lost mi p) j = sector.look mi j := h1
          rw [h2, h.looks j]
          split
          · next hj => exact .inr ⟨hj.1, by omega, rfl⟩
          · exact .inl rfl
        · have h2 : sector.look (lost mi p) j = sectorOf mi.laid j := h1
          left
          rw [h2, h.laid, look_empty he]
    · have e1 : wErr mi ((z + i : Nat) : Int) 64 = 0 := by
        unfold wErr
        rw [if_neg hp, if_neg hrg, if_neg (by simp)]
        split
        · next p hp2 => exact absurd ⟨_, hp2⟩ hc
        · rfl
      have e2 : wDev mi ((z + i : Nat) : Int) (pieceB num text i) = wrote mi (z + i) (pieceB num text i) := by
        unfold wDev
        rw [if_neg hp, if_neg hrg, if_neg (by rw [hx]; simp)]
        split
        · next p hp2 => exact absurd ⟨_, hp2⟩ hc
        · rfl
      simp only [appGo, e1, e2, if_true]
      obtain ⟨s1, s2, s3, s4, s5, s6⟩ := wrote_same mi (z + i) (pieceB num text i)
      refine appGo_out num text z m he h8 hz hws hfs f (i + 1) _ (by omega) ⟨wrote_ok h.ok (by rw [h.n]; exact hin) hx (pieceB_lt num text i h8) (by rw [h.ws]; omega), s1.trans h.power, s2.trans h.n, s6.trans h.laid, by rw [s4, h.ws]; omega, s5.trans h.fs, ?_, fun j => ?_⟩
      · rw [s3, h.cut]
        cases m.cut with
        | none => rfl
        | some q => simp; omega
      · rw [look_wrote h.ok, h.looks j]
        by_cases hj : j = z + i
        · subst hj
          rw [if_pos rfl, if_pos ⟨by omega, by omega⟩, Nat.add_sub_cancel_left]
        · rw [if_neg hj]
          by_cases hj2 : z ≤ j ∧ j < z + i
          · rw [if_pos hj2, if_pos ⟨hj2.1, by omega⟩]
          · rw [if_neg hj2, if_neg (by omega)]
theorem appD_out (num : Nat) (text : List Nat) (z : Nat) (m : Dev) (hok : m.Ok) (hp : m.power = true) (he : m.cache = []) (h8 : ∀ x ∈ text, x < 256) (hz : z + need text.length ≤ m.n) (hws : m.ws + need text.length < 4611686018427387904) (hfs : m.fs + 1 < 4611686018427387904) :
    ((appD num text z m).2 = true ∧ AppOk num text z m (appD num text z m).1) ∨ ((appD num text z m).2 = false ∧ AppBad num text z m (appD num text z m).1) :=
  appGo_out num text z m he h8 hz hws hfs _ 0 m (by omega) ⟨hok, hp, rfl, rfl, rfl, rfl, by cases m.cut <;> simp, fun j => by rw [if_neg (by omega)]⟩

end Go.Proofs.YtgdfdljgbogbnaaDoor.journal
