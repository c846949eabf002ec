/- Texts laid together: JournalDevM, JournalState, JournalPlay, JournalAwake. -/
import Derived.Test.YtkhghkklekjdaaaDoorRows
import Derived.Test.YtkhghkklekjdaaaDoorJournalWrite
import Derived.Test.YtkhghkklekjdaaaDoorJournalApp
import Derived.Test.YtkhghkklekjdaaaDoorJournalOpen
import Derived.Test.YtkhghkklekjdaaaDoorSectorNew
import Derived.Test.YtkhghkklekjdaaaDoorSectorRNew
namespace Go.Proofs.YtkhghkklekjdaaaDoor.journal
open Go.RowKit
open Go.Proofs.YtkhghkklekjdaaaDoor.kit Go.Proofs.YtkhghkklekjdaaaDoor.own Go.Proofs.YtkhghkklekjdaaaDoor.jm Go.Proofs.YtkhghkklekjdaaaDoor.sector
set_option linter.unusedVariables false

theorem look_in {m : Dev} (h : (keys m.cache).Nodup) {k : Nat} {x : List Nat} (hp : (k, x) ∈ m.cache) : sector.look m k = x := by
  obtain ⟨i, hi, he⟩ := List.mem_iff_getElem.1 hp
  have hk : k ∈ keys m.cache := List.mem_map_of_mem (f := (·.1)) hp
  have hj : (keys m.cache).idxOf k < (keys m.cache).length := List.idxOf_lt_length_of_mem hk
  have hj' : (keys m.cache).idxOf k < m.cache.length := by rw [keys_len] at hj; exact hj
  have hi' : i < (keys m.cache).length := by rw [keys_len]; exact hi
  have e : (keys m.cache).idxOf k = i := by
    refine (List.getElem_inj (h₀ := hj) (h₁ := hi') h).1 ?_
    rw [List.getElem_idxOf hj]
    simp only [keys, List.getElem_map, he]
  unfold sector.look
  rw [if_pos hj', e]
  simp [nth, List.getD, hi, he]
theorem look_out {m : Dev} {k : Nat} (h : k ∉ keys m.cache) : sector.look m k = sectorOf m.laid k := by
  unfold sector.look
  rw [if_neg]
  intro hj
  exact h (List.idxOf_lt_length_iff.1 (by rw [keys_len]; exact hj))
theorem wrote_has {m : Dev} (h : (keys m.cache).Nodup) (k : Nat) (x : List Nat) : (k, x) ∈ (wrote m k x).cache ∧ (∀ p ∈ m.cache, p.1 ≠ k → p ∈ (wrote m k x).cache) ∧ (keys (wrote m k x).cache).Nodup := by
  have e : (wrote m k x).cache = (putC (afterLets m) k x).cache := rfl
  rw [e]
  unfold putC
  have ek : keys (afterLets m).cache = keys m.cache := rfl
  have ec : (afterLets m).cache = m.cache := rfl
  rw [ek, ec]
  by_cases hj : (keys m.cache).idxOf k < m.cache.length
  · rw [if_pos hj]
    have e2 : (putAt (afterLets m) ((keys m.cache).idxOf k) k x).cache = m.cache.set ((keys m.cache).idxOf k) (k, x) := rfl
    rw [e2]
    have hj' : (keys m.cache).idxOf k < (keys m.cache).length := by rw [keys_len]; exact hj
    have hk : (keys m.cache)[(keys m.cache).idxOf k]'hj' = k := List.getElem_idxOf hj'
    refine ⟨List.mem_iff_getElem.2 ⟨_, by rw [List.length_set]; exact hj, by rw [List.getElem_set_self]⟩, fun p hp hpk => ?_, ?_⟩
    · obtain ⟨i, hi, he⟩ := List.mem_iff_getElem.1 hp
      refine List.mem_iff_getElem.2 ⟨i, by rw [List.length_set]; exact hi, ?_⟩
      rw [List.getElem_set, if_neg ?_]
      · exact he
      · intro e3
        subst e3
        apply hpk
        have : (keys m.cache)[(keys m.cache).idxOf k]'hj' = p.1 := by simp only [keys, List.getElem_map]; exact congrArg _ he
        rw [← this]; exact hk
    · have : keys (m.cache.set ((keys m.cache).idxOf k) (k, x)) = keys m.cache := by
        unfold keys
        rw [List.map_set]
        refine List.ext_getElem? fun i => ?_
        rw [List.getElem?_set]
        split
        · next h2 =>
          subst h2
          have h3 : (List.map (fun x => x.fst) m.cache)[(keys m.cache).idxOf k]? = some k := by
            have := List.getElem?_eq_getElem hj'
            rw [hk] at this
            exact this
          rw [show List.idxOf k (List.map (fun x => x.fst) m.cache) = (keys m.cache).idxOf k from rfl, h3]
          simp [keys] at hj' ⊢
          exact hj'
        · rfl
      rw [this]; exact h
  · rw [if_neg hj]
    have e2 : (putNew (afterLets m) k x).cache = m.cache ++ [(k, x)] := rfl
    rw [e2]
    refine ⟨by simp, fun p hp _ => List.mem_append_left _ hp, ?_⟩
    have hk : k ∉ keys m.cache := fun hm => hj (by have := List.idxOf_lt_length_of_mem hm; rw [keys_len] at this; exact this)
    have : keys (m.cache ++ [(k, x)]) = keys m.cache ++ [k] := by simp [keys]
    rw [this, List.nodup_append]
    refine ⟨h, by simp, ?_⟩
    intro a ha b hb e3
    simp at hb
    subst hb
    subst e3
    exact hk ha
theorem wrote_ok {m : Dev} (h : m.Ok) {k : Nat} {x : List Nat} (hk : k < m.n) (hx : x.length = 64) (h8 : ∀ y ∈ x, y < 256) (hw : m.ws + 1 < 4611686018427387904) : (wrote m k x).Ok := by
  obtain ⟨h1, h2, h3, h4, h5, h6⟩ := wrote_same m k x
  refine ⟨by rw [h2]; exact h.n, by rw [h6, h2]; exact h.laid, by rw [h6]; exact h.laidLt, fun p hp => ?_, (wrote_has h.once k x).2.2, fun p hp => ?_, by rw [h4]; exact hw, by rw [h5]; exact h.fs⟩
  · rw [h2]
    rcases wrote_cache h k x p hp with rfl | ⟨hp, _⟩
    · exact ⟨hk, hx, h8⟩
    · exact h.cache p hp
  · rw [h3] at hp
    cases hc : m.cut with
    | none => rw [hc] at hp; simp at hp
    | some q =>
      rw [hc] at hp
      simp at hp
      subst hp
      have := h.cut q hc
      simp only
      omega
theorem look_wrote {m : Dev} (h : m.Ok) {k : Nat} {x : List Nat} (j : Nat) : sector.look (wrote m k x) j = if j = k then x else sector.look m j := by
  obtain ⟨a1, a2, a3⟩ := wrote_has h.once k x
  by_cases e : j = k
  · rw [if_pos e, e]
    exact look_in a3 a1
  · rw [if_neg e]
    by_cases hm : j ∈ keys m.cache
    · obtain ⟨p, hp, hpj⟩ := List.mem_map.1 hm
      have hp' : (j, p.2) ∈ m.cache := by rw [← hpj]; exact hp
      rw [look_in h.once hp']
      exact look_in a3 (a2 _ hp' e)
    · rw [look_out hm, look_out, (wrote_same m k x).2.2.2.2.2]
      intro hm2
      obtain ⟨p, hp, hpj⟩ := List.mem_map.1 hm2
      rcases wrote_cache h k x p hp with rfl | ⟨hp, _⟩
      · exact e hpj.symm
      · exact hm (by rw [← hpj]; exact List.mem_map_of_mem hp)
theorem look_empty {m : Dev} (h : m.cache = []) (k : Nat) : sector.look m k = sectorOf m.laid k := look_out (by rw [h]; simp [keys])
theorem bit_all (i : Nat) : bitAt allBits i = 1 := by
  unfold bitAt allBits
  have : i % 64 < 64 := Nat.mod_lt _ (by omega)
  generalize i % 64 = j at this
  have h : ∀ j, j < 64 → 18446744073709551615 / 2 ^ j % 2 = 1 := by decide +kernel
  exact h j this
theorem look_settled {m : Dev} (h : m.Ok) (p k : Nat) : sector.look (settled m p) k = sector.look m k ∨ sector.look (settled m p) k = sectorOf m.laid k := by
  rw [look_empty (by rfl)]
  show sectorOf (settleF p 0 m.cache m.laid) k = _ ∨ sectorOf (settleF p 0 m.cache m.laid) k = _
  rcases settleF_or p m.n k m.cache 0 m.laid h.cache h.laid with h1 | ⟨q, hq, h1, h2⟩
  · exact .inr h1
  · refine .inl ?_
    rw [h2]
    exact (look_in h.once (by rw [← h1]; exact hq)).symm
theorem look_flushed {m : Dev} (h : m.Ok) (k : Nat) : sector.look (flushed m) k = sector.look m k := by
  rw [look_empty (m := flushed m) (by rfl)]
  show sectorOf (settleF allBits 0 m.cache m.laid) k = _
  by_cases hm : k ∈ keys m.cache
  · have hj : (keys m.cache).idxOf k < m.cache.length := by have := List.idxOf_lt_length_of_mem hm; rw [keys_len] at this; exact this
    have := settleF_bit allBits m.n m.cache 0 m.laid h.cache h.laid h.once _ hj (bit_all _)
    have hj' : (keys m.cache).idxOf k < (keys m.cache).length := by rw [keys_len]; exact hj
    have e : (keys m.cache).getD ((keys m.cache).idxOf k) 0 = k := (idx_hit (ns := keys m.cache) (k := k) hj').1
    rw [e] at this
    rw [this]
    unfold sector.look
    rw [if_pos hj]
  · rw [look_out hm]
    exact settleF_not allBits m.n k m.cache 0 m.laid h.cache h.laid hm

/-- What an append makes of a device whose cache is empty. -/
structure Wrote (num : Nat) (text : List Nat) (z i : Nat) (m mi : Dev) : Prop where
  ok : mi.Ok
  power : mi.power = true
  n : mi.n = m.n
  laid : mi.laid = m.laid
  ws : mi.ws = m.ws + i
  fs : mi.fs = m.fs
  cut : mi.cut = m.cut.map fun p => (p.1 - i, p.2)
  looks : ∀ j, sector.look mi j = if z ≤ j ∧ j < z + i then pieceB num text (j - z) else sector.look m j
def AppOk (num : Nat) (text : List Nat) (z : Nat) (m m' : Dev) : Prop :=
  m'.Ok ∧ m'.power = true ∧ m'.cache = [] ∧ m'.n = m.n ∧ m'.ws = m.ws + need text.length ∧ m'.fs = m.fs + 1 ∧ (m'.cut = m.cut.map fun p => (p.1 - need text.length, p.2)) ∧ ∀ j, sector.look m' j = if z ≤ j ∧ j < z + need text.length then pieceB num text (j - z) else sector.look m j
def AppBad (num : Nat) (text : List Nat) (z : Nat) (m m' : Dev) : Prop :=
  m'.Ok ∧ m'.power = false ∧ m'.cache = [] ∧ m'.n = m.n ∧ m'.ws ≤ m.ws + need text.length ∧ m'.fs = m.fs ∧ m'.cut = none ∧ m.cut ≠ none ∧ ∀ j, sector.look m' j = sector.look m j ∨ (z ≤ j ∧ j < z + need text.length ∧ sector.look m' j = pieceB num text (j - z))
theorem appGo_out (num : Nat) (text : List Nat) (z : Nat) (m : Dev) (he : m.cache = []) (h8 : ∀ x ∈ text, x < 256) (hz : z + need text.length ≤ m.n) (hws : m.ws + need text.length < 4611686018427387904) (hfs : m.fs + 1 < 4611686018427387904) :
    ∀ (f i : Nat) (mi : Dev), i + f = need text.length → Wrote num text z i m mi →
    ((appGo num text z f i mi).2 = true ∧ AppOk num text z m (appGo num text z f i mi).1) ∨ ((appGo num text z f i mi).2 = false ∧ AppBad num text z m (appGo num text z f i mi).1)
  | 0, i, mi, hi, h => by
    left
    have hi' : i = need text.length := by omega
    subst hi'
    have e1 : fDev mi = flushed mi := by unfold fDev; rw [if_neg (by rw [h.power]; simp)]
    have e2 : fErr mi = 0 := by unfold fErr; rw [if_neg (by rw [h.power]; simp)]
    simp only [appGo, e1, e2]
    refine ⟨by simp, flushed_ok h.ok (by rw [h.fs]; exact hfs), h.power, rfl, h.n, h.ws, ?_, h.cut, fun j => ?_⟩
    · show mi.fs + 1 = _; rw [h.fs]
    · rw [look_flushed h.ok]; exact h.looks j
  | f + 1, i, mi, hi, h => by
    have hin : z + i < m.n := by omega
    have hx := pieceB_len num text i
    have hrg : ¬ ¬ (0 ≤ ((z + i : Nat) : Int) ∧ ((z + i : Nat) : Int) < (mi.n : Int)) := by rw [h.n]; simp only [Decidable.not_not]; omega
    have hp : ¬ mi.power = false := by rw [h.power]; simp
    by_cases hc : ∃ p, mi.cut = some (0, p)
    · right
      obtain ⟨p, hc⟩ := hc
      have e1 : wErr mi ((z + i : Nat) : Int) 64 = 22 := by unfold wErr; rw [if_neg hp, if_neg hrg, if_neg (by simp), hc]; rfl
      have e2 : wDev mi ((z + i : Nat) : Int) (pieceB num text i) = lost mi p := by unfold wDev; rw [if_neg hp, if_neg hrg, if_neg (by rw [hx]; simp), hc]; rfl
      have e3 : appGo num text z (f + 1) i mi = (lost mi p, false) := by simp only [appGo, e1, e2]; rw [if_neg (by decide)]
      rw [e3]
      refine ⟨rfl, lost_ok h.ok p, rfl, rfl, h.n, ?_, h.fs, rfl, ?_, fun j => ?_⟩
      · show mi.ws ≤ _; rw [h.ws]; omega
      · intro hn; have := h.cut; rw [hn, hc] at this; simp at this
      · rcases look_settled h.ok p j with h1 | h1
        · have h2 : sector.look (lost mi p) j = sector.look mi j := h1
          rw [h2, h.looks j]
          split
          · next hj => exact .inr ⟨hj.1, by omega, rfl⟩
          · exact .inl rfl
        · have h2 : sector.look (lost mi p) j = sectorOf mi.laid j := h1
          left
          rw [h2, h.laid, look_empty he]
    · have e1 : wErr mi ((z + i : Nat) : Int) 64 = 0 := by
        unfold wErr
        rw [if_neg hp, if_neg hrg, if_neg (by simp)]
        split
        · next p hp2 => exact absurd ⟨_, hp2⟩ hc
        · rfl
      have e2 : wDev mi ((z + i : Nat) : Int) (pieceB num text i) = wrote mi (z + i) (pieceB num text i) := by
        unfold wDev
        rw [if_neg hp, if_neg hrg, if_neg (by rw [hx]; simp)]
        split
        · next p hp2 => exact absurd ⟨_, hp2⟩ hc
        · rfl
      simp only [appGo, e1, e2, if_true]
      obtain ⟨s1, s2, s3, s4, s5, s6⟩ := wrote_same mi (z + i) (pieceB num text i)
      refine appGo_out num text z m he h8 hz hws hfs f (i + 1) _ (by omega) ⟨wrote_ok h.ok (by rw [h.n]; exact hin) hx (pieceB_lt num text i h8) (by rw [h.ws]; omega), s1.trans h.power, s2.trans h.n, s6.trans h.laid, by rw [s4, h.ws]; omega, s5.trans h.fs, ?_, fun j => ?_⟩
      · rw [s3, h.cut]
        cases m.cut with
        | none => rfl
        | some q => simp; omega
      · rw [look_wrote h.ok, h.looks j]
        by_cases hj : j = z + i
        · subst hj
          rw [if_pos rfl, if_pos ⟨by omega, by omega⟩, Nat.add_sub_cancel_left]
        · rw [if_neg hj]
          by_cases hj2 : z ≤ j ∧ j < z + i
          · rw [if_pos hj2, if_pos ⟨hj2.1, by omega⟩]
          · rw [if_neg hj2, if_neg (by omega)]
theorem appD_out (num : Nat) (text : List Nat) (z : Nat) (m : Dev) (hok : m.Ok) (hp : m.power = true) (he : m.cache = []) (h8 : ∀ x ∈ text, x < 256) (hz : z + need text.length ≤ m.n) (hws : m.ws + need text.length < 4611686018427387904) (hfs : m.fs + 1 < 4611686018427387904) :
    ((appD num text z m).2 = true ∧ AppOk num text z m (appD num text z m).1) ∨ ((appD num text z m).2 = false ∧ AppBad num text z m (appD num text z m).1) :=
  appGo_out num text z m he h8 hz hws hfs _ 0 m (by omega) ⟨hok, hp, rfl, rfl, rfl, rfl, by cases m.cut <;> simp, fun j => by rw [if_neg (by omega)]⟩

end Go.Proofs.YtkhghkklekjdaaaDoor.journal

namespace Go.Proofs.YtkhghkklekjdaaaDoor.journal
open Go.RowKit
open Go.Proofs.YtkhghkklekjdaaaDoor.kit Go.Proofs.YtkhghkklekjdaaaDoor.own Go.Proofs.YtkhghkklekjdaaaDoor.jm Go.Proofs.YtkhghkklekjdaaaDoor.sector
set_option linter.unusedVariables false

/-- A device at rest: its cache is empty. -/
structure Rests (m : Dev) : Prop where
  ok : m.Ok
  power : m.power = true
  cache : m.cache = []

/-- What a row's sectors tell where a record was laid into it, whole or in part. -/
theorem pcs_mixed {m m' : Dev} {num : Nat} {text : List Nat} {from_ n k : Nat} (hf : from_ + n ≤ m.n) (h1 : 1 ≤ num) (h2 : num ≤ maxNum) (hk : k + need text.length ≤ n)
    (h : ∀ j, sector.look m' j = sector.look m j ∨ (from_ + k ≤ j ∧ j < from_ + k + need text.length ∧ sector.look m' j = pieceB num text (j - (from_ + k)))) :
    Mixed num text ((pcsOf m from_ n).drop k) ((pcsOf m' from_ n).drop k) ∧ (pcsOf m' from_ n).take k = (pcsOf m from_ n).take k := by
  have hl : (pcsOf m from_ n).length = n := pcsOf_len _ _ _
  have hl' : (pcsOf m' from_ n).length = n := pcsOf_len _ _ _
  refine ⟨⟨by rw [List.length_drop, List.length_drop, hl, hl'], by rw [List.length_drop, hl]; omega, fun i hi => ?_⟩, ?_⟩
  · rw [List.length_drop, hl] at hi
    rw [List.getElem?_drop, pcsOf_at m' from_ n (k + i) (by omega)]
    have e : ((pcsOf m from_ n).drop k)[i]'(by rw [List.length_drop, hl]; exact hi) = pcOf (sector.look m (from_ + (k + i))) := by
      rw [List.getElem_drop]
      have := pcsOf_at m from_ n (k + i) (by omega)
      rw [List.getElem?_eq_getElem (by rw [hl]; omega)] at this
      exact Option.some.inj this
    rw [e]
    rcases h (from_ + (k + i)) with h3 | ⟨h3, h4, h5⟩
    · rw [h3]; exact .inl rfl
    · right
      refine ⟨by omega, ?_⟩
      rw [h5, show from_ + (k + i) - (from_ + k) = i by omega, pcOf_piece num text i h1 h2]
  · refine List.ext_getElem? fun i => ?_
    rw [List.getElem?_take, List.getElem?_take]
    split
    · next hi =>
      rw [pcsOf_at m' from_ n i (by omega), pcsOf_at m from_ n i (by omega)]
      rcases h (from_ + i) with h3 | ⟨h3, _, _⟩
      · rw [h3]
      · omega
    · rfl

/-- The journal holds just these records, and its next number is a new one. -/
structure Stood (first from_ n : Nat) (recs : List (List Nat)) (j : Jn) (m : Dev) : Prop where
  rest : Rests m
  fits : from_ + n ≤ m.n
  jf : j.from_ = from_
  je : j.end_ = from_ + n
  torn : j.torn = false
  at_ : ∃ k, j.at_ = from_ + k ∧ Stands (first - 1) (pcsOf m from_ n) recs k
  first1 : 1 ≤ first
  next : first ≤ j.next
  new : ∀ p ∈ pcsOf m from_ n, p.num < j.next

theorem Stood.room {first from_ n : Nat} {recs : List (List Nat)} {j : Jn} {m : Dev} (h : Stood first from_ n recs j m) : j.at_ ≤ j.end_ := by
  obtain ⟨k, hk, hs⟩ := h.at_
  have := hs.len
  rw [pcsOf_len] at this
  rw [hk, h.je]; omega

theorem mem_drop_num {N : Nat} {V : List Pc} {k : Nat} (h : ∀ p ∈ V, p.num < N) : ∀ p ∈ V.drop k, p.num < N := fun p hp => h p (List.mem_of_mem_drop hp)

/-- An append, whole or torn. -/
theorem Stood.app {first from_ n : Nat} {recs : List (List Nat)} {j : Jn} {m : Dev} {text : List Nat} (h : Stood first from_ n recs j m) (h8 : ∀ x ∈ text, x < 256)
    (hl : ¬ leftV j.end_ j.at_ j.next < need text.length) (hws : m.ws + 4096 < 4611686018427387904) (hfs : m.fs + 1 < 4611686018427387904) :
    ((appD j.next text j.at_ m).2 = true ∧ AppOk j.next text j.at_ m (appD j.next text j.at_ m).1 ∧ Stood first from_ n (recs ++ [text]) { j with at_ := j.at_ + need text.length, next := j.next + 1 } (appD j.next text j.at_ m).1) ∨
    ((appD j.next text j.at_ m).2 = false ∧ AppBad j.next text j.at_ m (appD j.next text j.at_ m).1 ∧
      ((∃ k, Stands (first - 1) (pcsOf (appD j.next text j.at_ m).1 from_ n) recs k) ∨ ∃ k, Stands (first - 1) (pcsOf (appD j.next text j.at_ m).1 from_ n) (recs ++ [text]) k)) := by
  obtain ⟨k, hk, hs⟩ := h.at_
  have hnp := need_pos text.length
  have hklen := hs.len
  rw [pcsOf_len] at hklen
  have hmn := h.rest.ok.n
  have hft := h.fits
  have hnx : j.next ≤ maxNum := by
    unfold leftV at hl
    split at hl
    · omega
    · unfold maxNum; omega
  have hnd : k + need text.length ≤ n := by
    unfold leftV at hl
    rw [if_neg (by unfold maxNum at hnx; omega), hk, h.je] at hl
    omega
  have hlen : text.length < 4294967296 := by have := need_ge text.length; omega
  have hn1 : 1 ≤ j.next := Nat.le_trans h.first1 h.next
  obtain ⟨last2, l1, l2, l3⟩ := hs.split
  have hl2 : last2 < j.next := by
    rcases l1 with rfl | ⟨p, hp, rfl⟩
    · have := h.next; have := h.first1; omega
    · exact h.new p hp
  rcases appD_out j.next text j.at_ m h.rest.ok h.rest.power h.rest.cache h8 (by rw [hk]; omega) (by omega) hfs with ⟨e1, e2⟩ | ⟨e1, e2⟩
  · left
    refine ⟨e1, e2, ?_⟩
    obtain ⟨a1, a2, a3, a4, a5, a6, a7, a8⟩ := e2
    generalize (appD j.next text j.at_ m).1 = m' at a1 a2 a3 a4 a5 a6 a7 a8
    rw [hk] at a8
    obtain ⟨hm, ht⟩ := pcs_mixed (m := m) (m' := m') (text := text) (from_ := from_) (n := n) (k := k) hft hn1 hnx hnd (fun i => by
      rw [a8 i]
      split
      · next hi => exact .inr ⟨hi.1, hi.2, rfl⟩
      · exact .inl rfl)
    have hall : ∀ i, i < need text.length → ((pcsOf m' from_ n).drop k)[i]? = some ⟨if i = 0 then 1 else 2, j.next, restB j.next text i⟩ := by
      intro i hi
      rw [List.getElem?_drop, pcsOf_at m' from_ n (k + i) (by omega), a8, if_pos ⟨by omega, by omega⟩, show from_ + (k + i) - (from_ + k) = i by omega, pcOf_piece _ _ _ hn1 hnx]
    have hst := new_stands hm hall hlen fm.crc_lt (mem_drop_num h.new) hl2 l2
    have hfull := l3 _ hm.len _ _ hst
    rw [← ht, List.take_append_drop] at hfull
    refine ⟨⟨a1, a2, a3⟩, by rw [a4]; exact hft, h.jf, h.je, h.torn, ⟨k + need text.length, by simp only [hk]; omega, hfull⟩, h.first1, by have := h.next; simp only; omega, fun p hp => ?_⟩
    simp only
    obtain ⟨i, hi⟩ := List.getElem?_of_mem hp
    have hin : i < n := by have := (List.getElem?_eq_some_iff.1 hi).1; rw [pcsOf_len] at this; exact this
    rw [pcsOf_at m' from_ n i hin, a8] at hi
    by_cases hz : from_ + k ≤ from_ + i ∧ from_ + i < from_ + k + need text.length
    · rw [if_pos hz, pcOf_piece _ _ _ hn1 hnx] at hi
      cases hi
      simp only; omega
    · rw [if_neg hz] at hi
      have := h.new p (List.mem_of_getElem? (i := i) (by rw [pcsOf_at m from_ n i hin]; exact hi))
      omega
  · right
    refine ⟨e1, e2, ?_⟩
    obtain ⟨a1, a2, a3, a4, a5, a6, a7, a8, a9⟩ := e2
    generalize (appD j.next text j.at_ m).1 = m' at a1 a2 a3 a4 a5 a6 a7 a9
    rw [hk] at a9
    obtain ⟨hm, ht⟩ := pcs_mixed (m := m) (m' := m') (text := text) (from_ := from_) (n := n) (k := k) hft hn1 hnx hnd a9
    rcases mixed_stands hm hlen fm.crc_lt (mem_drop_num h.new) hl2 l2 with hst | hst
    · left
      have hfull := l3 _ hm.len _ _ hst
      rw [← ht, List.take_append_drop, List.append_nil] at hfull
      exact ⟨_, hfull⟩
    · right
      have hfull := l3 _ hm.len _ _ hst
      rw [← ht, List.take_append_drop] at hfull
      exact ⟨_, hfull⟩

theorem le_gmax {V : List Pc} {p : Pc} (hp : p ∈ V) : p.num ≤ gmax V := by
  obtain ⟨A, B, rfl⟩ := List.append_of_mem hp
  unfold gmax
  rw [List.foldl_append, List.foldl_cons]
  have h : ∀ (B : List Pc) (a : Nat), a ≤ B.foldl (fun a p => max a p.num) a := by
    intro B
    induction B with
    | nil => intro a; exact Nat.le_refl _
    | cons q B ih => intro a; rw [List.foldl_cons]; exact Nat.le_trans (Nat.le_max_left _ _) (ih _)
  exact Nat.le_trans (Nat.le_max_right _ _) (h _ _)
/-- Behind Open. -/
theorem stood_open {m : Dev} (hm : Rests m) (d first from_ n : Nat) (hf : from_ + n ≤ m.n) (h1 : 1 ≤ first) :
    Stood first from_ n (standF first (pcsOf m from_ n)).1 ⟨d, from_, from_ + n, from_ + (standF first (pcsOf m from_ n)).2, max (gmax (pcsOf m from_ n) + 1) first, false⟩ m :=
  ⟨hm, hf, rfl, rfl, rfl, ⟨_, rfl, stands_of first _ (pcsOf_ok hm.ok from_ n hf)⟩, h1, Nat.le_max_right _ _, fun p hp => by have := le_gmax hp; simp only; omega⟩

end Go.Proofs.YtkhghkklekjdaaaDoor.journal

namespace Go.Proofs.YtkhghkklekjdaaaDoor.journal
open Go.RowKit
open Go.Proofs.YtkhghkklekjdaaaDoor.kit Go.Proofs.YtkhghkklekjdaaaDoor.own Go.Proofs.YtkhghkklekjdaaaDoor.jm Go.Proofs.YtkhghkklekjdaaaDoor.sector
open Go.Proofs.YtkhghkklekjdaaaDoor.frame (Nib)
set_option linter.unusedVariables false

/-- Zeros tell nothing. -/
theorem look_fresh {N k : Nat} (h : k < N) : sector.look (fresh N) k = List.replicate 64 0 := by
  rw [look_empty (m := fresh N) rfl]
  show ((List.replicate (N * 64) 0).drop (k * 64)).take 64 = _
  rw [List.drop_replicate, List.take_replicate]
  congr 1
  omega
theorem pcs_fresh {N from_ n : Nat} (h : from_ + n ≤ N) : ∀ p ∈ pcsOf (fresh N) from_ n, p = ⟨0, 0, []⟩ := by
  intro p hp
  obtain ⟨i, hi⟩ := List.getElem?_of_mem hp
  have hin : i < n := by have := (List.getElem?_eq_some_iff.1 hi).1; rw [pcsOf_len] at this; exact this
  rw [pcsOf_at _ _ _ _ hin, look_fresh (by omega)] at hi
  have : pcOf (List.replicate 64 0) = ⟨0, 0, []⟩ := by
    unfold pcOf
    rw [if_neg (by rintro ⟨h1, _⟩; rcases h1 with h1 | h1 <;> exact absurd h1 (by decide))]
  rw [this] at hi
  exact (Option.some.inj hi).symm
theorem fresh_stand {N from_ n first : Nat} (h : from_ + n ≤ N) (hN : N ≤ 4096) : standF first (pcsOf (fresh N) from_ n) = ([], 0) ∧ gmax (pcsOf (fresh N) from_ n) = 0 := by
  have hall := pcs_fresh h
  refine ⟨stand_eq (pcsOf_ok (fresh_ok hN) from_ n h) (.stop ?_), ?_⟩
  · cases hp : pcsOf (fresh N) from_ n with
    | nil => exact fun h => h.elim
    | cons p ps =>
      have := hall p (by rw [hp]; exact List.mem_cons_self)
      subst this
      intro hw
      exact absurd hw.1 (by simp)
  · have : ∀ ps : List Pc, (∀ p ∈ ps, p = (⟨0, 0, []⟩ : Pc)) → gmax ps = 0 := by
      intro ps
      unfold gmax
      induction ps with
      | nil => intro _; rfl
      | cons q ps ih => intro hq; rw [List.foldl_cons, hq q List.mem_cons_self]; exact ih fun p hp => hq p (List.mem_cons_of_mem _ hp)
    exact this _ hall
theorem fresh_rests {N : Nat} (hN : N ≤ 4096) : Rests (fresh N) := ⟨fresh_ok hN, rfl, rfl⟩

/-- Behind an append with the power staying: the record is there. -/
theorem Stood.good {first from_ n : Nat} {recs : List (List Nat)} {j : Jn} {m : Dev} {text : List Nat} (h : Stood first from_ n recs j m) (h8 : ∀ x ∈ text, x < 256) (hcut : m.cut = none)
    (hl : ¬ leftV j.end_ j.at_ j.next < need text.length) (hws : m.ws + 4096 < 4611686018427387904) (hfs : m.fs + 1 < 4611686018427387904) :
    appendE j text m = 0 ∧ Stood first from_ n (recs ++ [text]) (appendJ j text m) (appendM j text m) ∧ (appendM j text m).cut = none ∧ (appendM j text m).ws = m.ws + need text.length ∧ (appendM j text m).fs = m.fs + 1 ∧ (appendM j text m).n = m.n ∧
      appendJ j text m = { j with at_ := j.at_ + need text.length, next := j.next + 1 } := by
  have hno : ¬ (j.torn = true ∨ m.power = false) := by rw [h.torn, h.rest.power]; simp
  unfold appendE appendJ appendM
  rw [if_neg hno, if_neg hno, if_neg hno, if_neg hl, if_neg hl, if_neg hl]
  rcases h.app h8 hl hws hfs with ⟨e1, e2, e3⟩ | ⟨_, e2, _⟩
  · rw [e1]
    obtain ⟨a1, a2, a3, a4, a5, a6, a7, a8⟩ := e2
    exact ⟨rfl, e3, by rw [a7, hcut]; rfl, a5, a6, a4, rfl⟩
  · exact absurd hcut e2.2.2.2.2.2.2.2.1
theorem Stood.full {first from_ n : Nat} {recs : List (List Nat)} {j : Jn} {m : Dev} {text : List Nat} (h : Stood first from_ n recs j m) (hl : leftV j.end_ j.at_ j.next < need text.length) :
    appendE j text m = 21 ∧ appendJ j text m = j ∧ appendM j text m = m := by
  have hno : ¬ (j.torn = true ∨ m.power = false) := by rw [h.torn, h.rest.power]; simp
  unfold appendE appendJ appendM
  rw [if_neg hno, if_neg hno, if_neg hno, if_pos hl, if_pos hl, if_pos hl]
  exact ⟨rfl, rfl, rfl⟩

/-- The journal j at J and its device m, all of them new since w0. -/
structure PlayAt (B : Nat) (w0 W : World) (Z : Nat → Prop) (J : Nat) (j : Jn) (m : Dev) : Prop where
  bel : Below B w0 W
  dev : DevAt W Z j.d m
  jat : JAt W J j
  zj : ¬ Z J
  zB : ∀ k, Z k → B ≤ k
  jB : B ≤ J
  pick : PickOk m
  nib : Nib W
  nibB : 0 < B
  bs : B ≤ w0.heap.size

theorem PlayAt.jlt {B : Nat} {w0 W : World} {Z : Nat → Prop} {J : Nat} {j : Jn} {m : Dev} (h : PlayAt B w0 W Z J j m) : J < W.heap.size := JBox.lt h.jat
/-- What turns nothing of theirs. -/
theorem PlayAt.keep {B : Nat} {w0 W W' : World} {Z : Nat → Prop} {J : Nat} {j : Jn} {m : Dev} (h : PlayAt B w0 W Z J j m) (hb : Below W.heap.size W W') : PlayAt B w0 W' Z J j m :=
  ⟨h.bel.trans (hb.mono (Nat.le_trans h.bs h.bel.size)), h.dev.keep hb, (hb.block J h.jlt).trans h.jat, h.zj, h.zB, h.jB, h.pick, h.nib.keep hb, h.nibB, h.bs⟩
theorem PlayAt.append {B : Nat} {w0 W : World} {Z : Nat → Prop} {J : Nat} {j : Jn} {m : Dev} (h : PlayAt B w0 W Z J j m) (text : List Nat) (h8 : ∀ x ∈ text, x < 256) (hlen : text.length ≤ 9223372036854775807) (hnext : j.next < 9223372036854775807) (hae : j.at_ ≤ j.end_) (he : j.end_ ≤ 4096)
    (hws : m.ws + 2000000 < 4611686018427387904) (hfs : m.fs + 1 < 4611686018427387904) :
    Calls Tryd.prog 14 #[.pointer (some ⟨J, 0, none⟩), .string (strN text)] W fun e W' => e = .returned (.int .i64 (appendE j text m)) ∧ ∃ Z', PlayAt B w0 W' Z' J (appendJ j text m) (appendM j text m) := by
  refine (Append_any W Z J j m text h.jat h.dev h.pick h.zj (fun hz => by have := h.zB _ hz; have := h.nibB; omega) h.nib h8 hlen hnext hae he hws hfs).mono ?_
  rintro e W' ⟨rfl, g1, g2, g3, g4⟩
  have hd : (appendJ j text m).d = j.d := by unfold appendJ; split; rfl; split; rfl; split <;> rfl
  have hs := h.bel.size
  have hbs := h.bs
  have hj := h.jlt
  have hb : Below B W W' := ⟨g3.os, g3.tape, g3.output, g3.size, fun k hk => g3.block k (by have := h.jB; omega) (fun hz => by
    rcases hz with hz | hz
    · have := h.zB _ hz; omega
    · have := h.jB; omega)⟩
  refine ⟨rfl, More Z W W', h.bel.trans hb, by rw [hd]; exact g2, g1, ?_, ?_, h.jB, g4, ?_, h.nibB, h.bs⟩
  · rintro (hz | hz)
    · exact h.zj hz
    · omega
  · rintro k (hz | hz)
    · exact h.zB k hz
    · have := h.jB; omega
  · exact fun q hq => (hb.cell (p := ⟨_, q, none⟩) h.nibB).trans (h.nib q hq)

/-- An append that there is room for, with the power staying. -/
def Grew (B : Nat) (w0 : World) (J : Nat) (first from_ n : Nat) (recs : List (List Nat)) (text : List Nat) (j : Jn) (m : Dev) (W' : World) : Prop :=
  ∃ Z' m', PlayAt B w0 W' Z' J { j with at_ := j.at_ + need text.length, next := j.next + 1 } m' ∧ Stood first from_ n (recs ++ [text]) { j with at_ := j.at_ + need text.length, next := j.next + 1 } m' ∧ m'.cut = none ∧ m'.ws = m.ws + need text.length ∧ m'.fs = m.fs + 1 ∧ m'.n = m.n
theorem PlayAt.grow {B : Nat} {w0 W : World} {Z : Nat → Prop} {J : Nat} {j : Jn} {m : Dev} {first from_ n : Nat} {recs : List (List Nat)} (h : PlayAt B w0 W Z J j m) (s : Stood first from_ n recs j m) (hcut : m.cut = none) (text : List Nat) (h8 : ∀ x ∈ text, x < 256)
    (hl : ¬ leftV j.end_ j.at_ j.next < need text.length) (hws : m.ws + 2000000 < 4611686018427387904) (hfs : m.fs + 1 < 4611686018427387904) :
    Calls Tryd.prog 14 #[.pointer (some ⟨J, 0, none⟩), .string (strN text)] W fun e W' => e = .returned (.int .i64 0) ∧ Grew B w0 J first from_ n recs text j m W' := by
  have hmn := s.rest.ok.n
  have hft := s.fits
  have hje := s.je
  have hnd : need text.length ≤ 4096 ∧ j.next ≤ 4611686018427387904 := by
    have := need_pos text.length
    unfold leftV at hl
    split at hl <;> omega
  have hlen : text.length ≤ 9223372036854775807 := by have := need_ge text.length; omega
  obtain ⟨g1, g2, g3, g4, g5, g6, g7⟩ := s.good h8 hcut hl (by omega) hfs
  refine (h.append text h8 hlen (by omega) s.room (by omega) hws hfs).mono ?_
  rintro e W' ⟨rfl, Z', hp⟩
  rw [g7] at hp g2
  rw [g1]
  exact ⟨rfl, Z', _, hp, g2, g3, g4, g5, g6⟩
theorem PlayAt.over {B : Nat} {w0 W : World} {Z : Nat → Prop} {J : Nat} {j : Jn} {m : Dev} {first from_ n : Nat} {recs : List (List Nat)} (h : PlayAt B w0 W Z J j m) (s : Stood first from_ n recs j m) (text : List Nat) (h8 : ∀ x ∈ text, x < 256) (hlen : text.length ≤ 9223372036854775807) (hnext : j.next < 9223372036854775807)
    (hl : leftV j.end_ j.at_ j.next < need text.length) (hws : m.ws + 2000000 < 4611686018427387904) (hfs : m.fs + 1 < 4611686018427387904) :
    Calls Tryd.prog 14 #[.pointer (some ⟨J, 0, none⟩), .string (strN text)] W fun e W' => e = .returned (.int .i64 21) ∧ ∃ Z', PlayAt B w0 W' Z' J j m := by
  have hmn := s.rest.ok.n
  have hft := s.fits
  have hje := s.je
  obtain ⟨g1, g2, g3⟩ := s.full hl
  refine (h.append text h8 hlen hnext s.room (by omega) hws hfs).mono ?_
  rintro e W' ⟨rfl, Z', hp⟩
  rw [g2, g3] at hp
  rw [g1]
  exact ⟨rfl, Z', hp⟩
/-- What Open tells of what stands. -/
theorem Stood.told {first from_ n : Nat} {recs : List (List Nat)} {j : Jn} {m : Dev} (h : Stood first from_ n recs j m) : (standF first (pcsOf m from_ n)).1 = recs := by
  obtain ⟨k, _, hs⟩ := h.at_
  rw [stand_eq (pcsOf_ok h.rest.ok from_ n h.fits) hs]

/-- The chapter's device, opened. -/
theorem play_new {B : Nat} {w0 w W : World} {d N from_ n first J : Nat} (hB : B = w0.heap.size) (hw : Below B w0 w) (hd : DevAt w (Fresh w0 w) d (fresh N)) (hb : Below w.heap.size w W) (hJ : w.heap.size ≤ J) (hj : JAt W J ⟨d, from_, from_ + n, from_, max 1 first, false⟩) (hN : Nib w0) :
    PlayAt B w0 W (Fresh w0 w) J ⟨d, from_, from_ + n, from_, max 1 first, false⟩ (fresh N) := by
  refine ⟨hw.trans (hb.mono (by have := hw.size; omega)), hd.keep hb, hj, ?_, ?_, by have := hw.size; omega, fun p hp => (by cases hp), (hN.keep (by rw [← hB]; exact hw)).keep hb, ?_, by omega⟩
  · rintro (hz | hz)
    · exact hz
    · omega
  · rintro k (hz | hz)
    · exact hz.elim
    · omega
  · have := cell_lt (hN 0 (by omega))
    rw [hB]; exact this

end Go.Proofs.YtkhghkklekjdaaaDoor.journal

namespace Go.Proofs.YtkhghkklekjdaaaDoor.journal
open Go.RowKit
open Go.Proofs.YtkhghkklekjdaaaDoor.kit Go.Proofs.YtkhghkklekjdaaaDoor.own Go.Proofs.YtkhghkklekjdaaaDoor.jm Go.Proofs.YtkhghkklekjdaaaDoor.sector
open Go.Proofs.YtkhghkklekjdaaaDoor.frame (Nib)
set_option linter.unusedVariables false
set_option linter.unusedSimpArgs false
attribute [local go_sem] Oper.semAt_some

theorem OwnT.form2 {w : World} {B : Nat} {v : Value} {ss : List ByteArray} (h : OwnT w B v ss) (n : Nat) (hn : ss.length = n) : ∃ a c, v = .slice a n c := by
  subst hn
  unfold OwnT World.ownsRow at h
  rcases h.2 with ⟨h1, h2⟩ | ⟨g, cap, cur, h1, _⟩
  · exact ⟨none, 0, by rw [h1, h2]⟩
  · exact ⟨_, cap, h1⟩
theorem OwnT.cells {w : World} {B : Nat} {v : Value} {ss : List ByteArray} (h : OwnT w B v ss) (n : Nat) (hn : ss.length = n) (h0 : 0 < n) : ∃ g cap, v = .slice (some ⟨g, 0, none⟩) n cap ∧ ∀ j s, ss[j]? = some s → w.cell? ⟨g, j, none⟩ = some (.string s) := by
  subst hn
  have h' := h
  unfold OwnT World.ownsRow at h
  rcases h.2 with ⟨h1, h2⟩ | ⟨g, cap, cur, h1, _⟩
  · omega
  · refine ⟨g, cap, h1, fun j s hj => ?_⟩
    have := World.ownsRow.cells h' (g := g) (by rw [h1]; rfl) j (.string s) (by rw [List.getElem?_map, hj]; rfl)
    have e : ((⟨g, 0, none⟩ : Addr).add j) = ⟨g, j, none⟩ := by
      by_cases h0 : j = 0
      · subst h0; rfl
      · simp [Addr.add, h0]
    rw [e] at this
    exact this

set_option maxHeartbeats 8000000 in
set_option maxRecDepth 100000 in
theorem jawake_any (w : World) (hN : Nib w) : Calls Tryd.prog 10 #[] w fun e w' => e = .returned (.bool true) ∧ Below w.heap.size w w' := by
  have HNb := Lib.hid hN
  clear hN
  go_enter Tryd.func10, Tryd.ntmps10
  go_wp2_with fail
  refine (New_ok w 8 (by omega) (by omega)).mono ?_
  rintro e w1 ⟨d, rfl, hd1, hb1⟩
  have HD1 := Lib.hid hd1; have HB1 := Lib.hid hb1
  have HO := Lib.hid (Open_ok w1 _ d (fresh 8) 2 4 1 hd1 (by show 6 ≤ 8; omega) (by omega) ⟨by omega, by unfold maxNum; omega⟩ rfl (HNb.out.keep hb1))
  obtain ⟨f1, f2⟩ := fresh_stand (N := 8) (from_ := 2) (n := 4) (first := 1) (by omega) (by omega)
  rw [f1, f2] at HO
  clear hd1 hb1
  go_wp2_with fail
  refine HO.out.mono ?_
  rintro e w2 ⟨J, v, rfl, hj, hJ, ho, hb2⟩
  have HP := Lib.hid (play_new rfl HB1.out HD1.out hb2 hJ hj HNb.out)
  have HRm := Lib.hid (Room_any w2 J _ 2 6 2 1 false (JBox.v hj) (by omega) (by omega))
  obtain ⟨va, vc, rfl⟩ := OwnT.form2 ho 0 rfl
  have hrv : roomV 6 2 1 = 212 := by decide
  rw [hrv] at HRm
  clear hj hJ hb2 hrv f1 f2 ho
  go_wp2_with fail
  refine HRm.out.mono ?_
  rintro e w3 ⟨rfl, nq, rfl⟩
  have HP3 := Lib.hid (HP.out.keep ((Below.refl _ w2).drewN' nq))
  generalize w2.drewN nq = w3 at HP3 ⊢
  obtain ⟨w4, hm4, ho4, hb4⟩ := made_down w3 50 (by omega)
  have hm5 : (Instr.makeSlice 22 (.int .i64 50) (.int .i64 50)).run Tryd.prog w3 = .ok (.slice (some ⟨w3.heap.size, 0, none⟩) 50 50) w4 := hm4
  have hcv := conv_sl ho4.read
  have HP4 := Lib.hid (HP3.out.keep hb4)
  have hlg : (strN (List.replicate 50 0)).size = 50 := by rw [strN_size]; simp
  have hle : (strN (List.replicate 50 0)).extract 0 48 = strN (List.replicate 48 0) := by rw [strN_take]; rfl
  generalize hLG : strN (List.replicate 50 0) = lg at hcv hlg hle
  have HLG := Lib.hid hLG
  clear hm4 ho4 hb4 hLG
  have hs0 : Stood 1 2 4 [] ⟨d, 2, 6, 2, 1, false⟩ (fresh 8) := by
    have h := stood_open (m := fresh 8) (fresh_rests (by omega)) d 1 2 4 (by show 6 ≤ 8; omega) (by omega)
    obtain ⟨f1, f2⟩ := fresh_stand (N := 8) (from_ := 2) (n := 4) (first := 1) (by omega) (by omega)
    rw [f1, f2] at h
    exact h
  have HPd : PlayAt w.heap.size w w4.drew (Fresh w w1) J ⟨d, 2, 6, 2, 1, false⟩ (fresh 8) := HP4.out.keep ⟨rfl, rfl, rfl, Nat.le_refl _, fun _ _ => rfl⟩
  have hg1 := HPd.grow hs0 rfl [97] (by simp) (by show ¬ leftV 6 2 1 < need 1; decide) (by decide) (by decide)
  have h97 : strN [97] = ⟨#[97]⟩ := by decide +kernel
  rw [h97] at hg1
  have HG1 := Lib.hid hg1
  clear hg1 hs0 h97 HPd
  go_upto_region 6 with fail
--A6
  refine wp_region_held_drew (S := fun _ => True) (by kernel_rfl) (trivial) (fun hHeld => ?_)
  refine wpAnyH_take (i := 0) (oi := { dst := some 30, op := Op.move (Operand.tmp 2), type := 29, pos := "law.go:184", after := #[], guard := none }) (v := ?_) rfl (by kernel_rfl) (by kernel_rfl) (by kernel_rfl) (fun _ _ _ h => h) (Or.inl ⟨by rfl, ?_⟩) hHeld ?_
  rotate_left 1
  · intro W hSw
    (try dsimp only at hSw)
    go_simp
    try with_reducible rfl
  try simp only [Act.put, List.setIfInBounds_toArray, List.set_cons_zero, List.set_cons_succ]
  refine wpAnyH_take (i := 2) (oi := { dst := some 32, op := Op.move (Operand.tmp 2), type := 29, pos := "law.go:184", after := #[], guard := none }) (v := ?_) rfl (by kernel_rfl) (by kernel_rfl) (by kernel_rfl) (fun _ _ _ h => h) (Or.inl ⟨by rfl, ?_⟩) hHeld ?_
  rotate_left 1
  · intro W hSw
    (try dsimp only at hSw)
    go_simp
    try with_reducible rfl
  try simp only [Act.put, List.setIfInBounds_toArray, List.set_cons_zero, List.set_cons_succ]
  refine wpAnyH_take (i := 3) (oi := { dst := some 33, op := Op.move (Operand.tmp 5), type := 9, pos := "law.go:184", after := #[], guard := none }) (v := ?_) rfl (by kernel_rfl) (by kernel_rfl) (by kernel_rfl) (fun _ _ _ h => h) (Or.inl ⟨by rfl, ?_⟩) hHeld ?_
  rotate_left 1
  · intro W hSw
    (try dsimp only at hSw)
    go_simp
    try with_reducible rfl
  try simp only [Act.put, List.setIfInBounds_toArray, List.set_cons_zero, List.set_cons_succ]
  refine wpAnyH_take (i := 5) (oi := { dst := some 35, op := Op.move (Operand.tmp 2), type := 29, pos := "law.go:184", after := #[], guard := none }) (v := ?_) rfl (by kernel_rfl) (by kernel_rfl) (by kernel_rfl) (fun _ _ _ h => h) (Or.inl ⟨by rfl, ?_⟩) hHeld ?_
  rotate_left 1
  · intro W hSw
    (try dsimp only at hSw)
    go_simp
    try with_reducible rfl
  try simp only [Act.put, List.setIfInBounds_toArray, List.set_cons_zero, List.set_cons_succ]
  refine wpAnyH_take (i := 6) (oi := { dst := some 36, op := Op.move (Operand.tmp 5), type := 9, pos := "law.go:184", after := #[], guard := none }) (v := ?_) rfl (by kernel_rfl) (by kernel_rfl) (by kernel_rfl) (fun _ _ _ h => h) (Or.inl ⟨by rfl, ?_⟩) hHeld ?_
  rotate_left 1
  · intro W hSw
    (try dsimp only at hSw)
    go_simp
    try with_reducible rfl
  try simp only [Act.put, List.setIfInBounds_toArray, List.set_cons_zero, List.set_cons_succ]
  refine wpAnyH_take (i := 7) (oi := { dst := some 37, op := Op.slice 9 (Operand.tmp 36) none (some (Operand.const (Value.int IntKind.i64 48))) none, type := 9, pos := "law.go:184", after := #[{ on := 6, ground := Ground.data }], guard := none }) (v := ?_) rfl (by kernel_rfl) (by kernel_rfl) (by kernel_rfl) (fun _ _ _ h => h) (Or.inl ⟨by rfl, ?_⟩) hHeld ?_
  rotate_left 1
  · intro W hSw
    (try dsimp only at hSw)
    go_simp
    try with_reducible rfl
  try simp only [Act.put, List.setIfInBounds_toArray, List.set_cons_zero, List.set_cons_succ]
  refine wpAnyH_ready (rs := [1]) (by kernel_rfl) (by simp) ?_
  refine AllReadyH.cons (o := { dst := some 31, op := Op.call { callee := Callee.value (Operand.func 14), args := #[Operand.tmp 30, Operand.const (Value.string { data := #[97] })], argTypes := #[29, 9] }, type := 31, pos := "law.go:184", after := #[{ on := 0, ground := Ground.data }], guard := none }) rfl (fun K hK => ?_) ?_
  · go_simp
    refine HG1.out.mono ?_
    rintro e w5 ⟨rfl, Z5, m5, hp5, hs5, c5, ws5, fs5, n5⟩
    have hg2 := hp5.grow hs5 c5 (List.replicate 50 0) (fun x hx => by rw [(List.mem_replicate.1 hx).2]; omega) (by show ¬ leftV 6 3 2 < need 50; decide) (by rw [ws5]; decide) (by rw [fs5]; decide)
    rw [HLG.out] at hg2
    have HG2 := Lib.hid hg2
    have HQ5 := Lib.hid (And.intro ws5 (And.intro fs5 n5))
    clear hg2 hp5 hs5 c5 ws5 fs5 n5
    try dsimp only
    refine hK.out _ _ (trivial) (fun hHeld => ?_)
    clear hK K
    try simp only [Act.put, List.setIfInBounds_toArray, List.set_cons_zero, List.set_cons_succ]
    refine wpAnyH_ready (rs := [4]) (by kernel_rfl) (by simp) ?_
    refine AllReadyH.cons (o := { dst := some 34, op := Op.call { callee := Callee.value (Operand.func 14), args := #[Operand.tmp 32, Operand.tmp 33], argTypes := #[29, 9] }, type := 31, pos := "law.go:184", after := #[{ on := 2, ground := Ground.data }, { on := 3, ground := Ground.data }, { on := 1, ground := Ground.chain }], guard := none }) rfl (fun K hK => ?_) ?_
    · go_simp
      refine HG2.out.mono ?_
      rintro e w6 ⟨rfl, Z6, m6, hp6, hs6, c6, ws6, fs6, n6⟩
      have hg3 := hp6.over hs6 (List.replicate 48 0) (fun x hx => by rw [(List.mem_replicate.1 hx).2]; omega) (by decide) (show (3 : Nat) < 9223372036854775807 by decide) (by show leftV 6 5 3 < need 48; decide) (by rw [ws6, HQ5.out.1]; decide) (by rw [fs6, HQ5.out.2.1]; decide)
      have HG3 := Lib.hid hg3
      have HS6 := Lib.hid (show Stood 1 2 4 [[97], List.replicate 50 0] ⟨d, 2, 6, 5, 3, false⟩ m6 from hs6)
      have HN6 := Lib.hid (n6.trans HQ5.out.2.2)
      clear hg3 hp6 hs6 c6 ws6 fs6 n6
      try dsimp only
      refine hK.out _ _ (trivial) (fun hHeld => ?_)
      clear hK K
      try simp only [Act.put, List.setIfInBounds_toArray, List.set_cons_zero, List.set_cons_succ]
      refine wpAnyH_ready (rs := [8]) (by kernel_rfl) (by simp) ?_
      refine AllReadyH.cons (o := { dst := some 38, op := Op.call { callee := Callee.value (Operand.func 14), args := #[Operand.tmp 35, Operand.tmp 37], argTypes := #[29, 9] }, type := 31, pos := "law.go:184", after := #[{ on := 5, ground := Ground.data }, { on := 7, ground := Ground.data }, { on := 4, ground := Ground.chain }], guard := none }) rfl (fun K hK => ?_) ?_
      · go_simp
        (try rw [hle])
        refine HG3.out.mono ?_
        rintro e w7 ⟨rfl, Z7, hp7⟩
        have HP7 := Lib.hid (show PlayAt w.heap.size w w7 Z7 J ⟨d, 2, 6, 5, 3, false⟩ m6 from hp7)
        clear hp7
        try dsimp only
        refine hK.out _ _ (trivial) (fun hHeld => ?_)
        clear hK K
        try simp only [Act.put, List.setIfInBounds_toArray, List.set_cons_zero, List.set_cons_succ]
        refine wpAnyH_take (i := 9) (oi := { dst := some 6, op := Op.assign (Operand.tmp 31), type := 31, pos := "law.go:184", after := #[{ on := 1, ground := Ground.data }, { on := 8, ground := Ground.chain }, { on := 0, ground := Ground.phase }, { on := 1, ground := Ground.phase }, { on := 2, ground := Ground.textOnly Departure.lateStores }, { on := 3, ground := Ground.textOnly Departure.lateStores }, { on := 4, ground := Ground.textOnly Departure.lateStoresUnsure }, { on := 5, ground := Ground.textOnly Departure.lateStores }, { on := 6, ground := Ground.textOnly Departure.lateStores }, { on := 7, ground := Ground.textOnly Departure.lateStoresUnsure }, { on := 8, ground := Ground.textOnly Departure.lateStoresUnsure }], guard := none }) (v := ?_) rfl (by kernel_rfl) (by kernel_rfl) (by kernel_rfl) (fun _ _ _ h => h) (Or.inl ⟨by rfl, ?_⟩) hHeld ?_
        rotate_left 1
        · intro W hSw
          (try dsimp only at hSw)
          go_simp
          try with_reducible rfl
        try simp only [Act.put, List.setIfInBounds_toArray, List.set_cons_zero, List.set_cons_succ]
        refine wpAnyH_take (i := 10) (oi := { dst := some 7, op := Op.assign (Operand.tmp 34), type := 31, pos := "law.go:184", after := #[{ on := 4, ground := Ground.data }, { on := 9, ground := Ground.chain }, { on := 0, ground := Ground.phase }, { on := 1, ground := Ground.phase }, { on := 2, ground := Ground.phase }, { on := 3, ground := Ground.phase }, { on := 4, ground := Ground.phase }, { on := 5, ground := Ground.textOnly Departure.lateStores }, { on := 6, ground := Ground.textOnly Departure.lateStores }, { on := 7, ground := Ground.textOnly Departure.lateStoresUnsure }, { on := 8, ground := Ground.textOnly Departure.lateStoresUnsure }, { on := 9, ground := Ground.phase }], guard := none }) (v := ?_) rfl (by kernel_rfl) (by kernel_rfl) (by kernel_rfl) (fun _ _ _ h => h) (Or.inl ⟨by rfl, ?_⟩) hHeld ?_
        rotate_left 1
        · intro W hSw
          (try dsimp only at hSw)
          go_simp
          try with_reducible rfl
        try simp only [Act.put, List.setIfInBounds_toArray, List.set_cons_zero, List.set_cons_succ]
        refine wpAnyH_take (i := 11) (oi := { dst := some 8, op := Op.assign (Operand.tmp 38), type := 31, pos := "law.go:184", after := #[{ on := 8, ground := Ground.data }, { on := 10, ground := Ground.chain }, { on := 0, ground := Ground.phase }, { on := 1, ground := Ground.phase }, { on := 2, ground := Ground.phase }, { on := 3, ground := Ground.phase }, { on := 4, ground := Ground.phase }, { on := 5, ground := Ground.phase }, { on := 6, ground := Ground.phase }, { on := 7, ground := Ground.phase }, { on := 8, ground := Ground.phase }, { on := 9, ground := Ground.phase }, { on := 10, ground := Ground.phase }], guard := none }) (v := ?_) rfl (by kernel_rfl) (by kernel_rfl) (by kernel_rfl) (fun _ _ _ h => h) (Or.inl ⟨by rfl, ?_⟩) hHeld ?_
        rotate_left 1
        · intro W hSw
          (try dsimp only at hSw)
          go_simp
          try with_reducible rfl
        try simp only [Act.put, List.setIfInBounds_toArray, List.set_cons_zero, List.set_cons_succ]
        refine wpAnyH_done (by kernel_rfl) ?_ _
        have ho9 := Open_ok w7 Z7 d m6 2 4 1 HP7.out.dev (by rw [HN6.out]; decide) (by omega) ⟨by omega, by unfold maxNum; omega⟩ HS6.out.rest.power HP7.out.nib
        rw [HS6.out.told] at ho9
        have HO9 := Lib.hid ho9
        clear ho9 hHeld hlg hle
        go_wp2_with fail
        refine HO9.out.mono ?_
        rintro e w9 ⟨J9, v9, rfl, hj9, hJ9, hov, hb9⟩
        have HP9 := Lib.hid (HP7.out.keep hb9)
        obtain ⟨g9, c9, rfl, hcell⟩ := OwnT.cells hov 2 rfl (by omega)
        have l0 := hcell 0 _ rfl
        have l1 := hcell 1 _ rfl
        rw [show strN [97] = ⟨#[97]⟩ by decide +kernel] at l0
        rw [HLG.out] at l1
        have hrm9 := Room_any w9 J _ 2 6 5 3 false (JBox.v HP9.out.jat) (by omega) (by omega)
        rw [show roomV 6 5 3 = 47 by decide] at hrm9
        have HRm9 := Lib.hid hrm9
        clear hrm9 hcell hov hj9 hJ9 hb9
        go_wp2_with fail
        refine HRm9.out.mono ?_
        rintro e w10 ⟨rfl, nq9, rfl⟩
        have l0' : (w9.drewN nq9).cell? ⟨g9, 0, none⟩ = _ := l0
        have l1' : (w9.drewN nq9).cell? ⟨g9, 1, none⟩ = _ := l1
        have HBe := Lib.hid (HP9.out.bel.drewN' nq9)
        clear l0 l1
        generalize w9.drewN nq9 = w10 at l0' l1' HBe ⊢
        have hn1 := Need_any 102 w10 (by decide) (by decide)
        have hn2 := Need_any 103 w10 (by decide) (by decide)
        rw [show ((need (102 : Int).toNat : Nat) : Int) = 2 by decide] at hn1
        rw [show ((need (103 : Int).toNat : Nat) : Int) = 3 by decide] at hn2
        have HN1 := Lib.hid hn1
        have HN2 := Lib.hid hn2
        clear hn1 hn2
        go_wp2_with fail
        refine HN1.out.mono ?_
        rintro e w11 ⟨rfl, rfl⟩
        go_wp2_with fail
        refine HN2.out.mono ?_
        rintro e w12 ⟨rfl, rfl⟩
        go_wp2
        go_ret
        exact ⟨rfl, HBe.out⟩
      exact AllReadyH.nil
    exact AllReadyH.nil
  exact AllReadyH.nil
--A6E

end Go.Proofs.YtkhghkklekjdaaaDoor.journal
