/- Maps stay fit. -/
import Derived.Test.YtcofmfjhgbihkaaRows
import Derived.Test.YtcofmfjhgbihkaaMapsAll
namespace Go.Proofs.Ytcofmfjhgbihkaa.crush
open Go.RowKit
open Go.Proofs.Ytcofmfjhgbihkaa.kit Go.Proofs.Ytcofmfjhgbihkaa.own
set_option linter.unusedVariables false
set_option linter.unusedSimpArgs false

theorem unOsd_iff (e : Int) (o : OsdV) : unOsd e o = false ↔ ((1 ≤ o.boot ∧ o.boot ≤ 1073741824) ∨ (o.boot = 0 ∧ o.up = false)) ∧ 0 ≤ o.wt ∧ o.wt ≤ 1048576 ∧ 0 ≤ o.thru ∧ o.thru ≤ e := by
  unfold unOsd okBoot okWeight inR
  cases o.up <;> simp <;> omega
theorem unOsd_up {e : Int} {o : OsdV} (h : unOsd e o = false) : unOsd (e + 1) o = false := by
  rw [unOsd_iff] at h ⊢
  exact ⟨h.1, h.2.1, h.2.2.1, h.2.2.2.1, by omega⟩
theorem osds_iff (e : Int) (hs : List Int) (l : List OsdV) : okOsds e hs l = true ↔ l.length = hs.length ∧ ∀ o ∈ l, unOsd e o = false := by
  unfold okOsds
  rw [Bool.and_eq_true, decide_eq_true_eq, Bool.not_eq_true', List.any_eq_false]
  simp
theorem osds_set {e : Int} {hs : List Int} {l : List OsdV} (h : okOsds e hs l = true) (i : Nat) (o : OsdV) (ho : unOsd (e + 1) o = false) : okOsds (e + 1) hs (l.set i o) = true := by
  rw [osds_iff] at h ⊢
  refine ⟨by rw [List.length_set]; exact h.1, fun x hx => ?_⟩
  rcases List.mem_or_eq_of_mem_set hx with h1 | rfl
  · exact unOsd_up (h.2 x h1)
  · exact ho
theorem osds_up {e : Int} {hs : List Int} {l : List OsdV} (h : okOsds e hs l = true) : okOsds (e + 1) hs l = true := by
  rw [osds_iff] at h ⊢
  exact ⟨h.1, fun x hx => unOsd_up (h.2 x hx)⟩
/-- A storage node's part is fit behind a change, and its numbers never fall. -/
theorem boot_fit {n e : Int} {o o' : OsdV} (h : unOsd e o = false) (hn : okBoot n = true) (hb : bootO n e o = some o') : unOsd (e + 1) o' = false ∧ o.boot ≤ o'.boot ∧ o.thru ≤ o'.thru := by
  unfold bootO at hb
  split at hb
  · cases hb
  · cases hb
    rw [unOsd_iff] at h ⊢
    unfold okBoot inR at hn
    simp only [Bool.and_eq_true, decide_eq_true_eq] at hn
    refine ⟨⟨Or.inl hn, h.2.1, h.2.2.1, h.2.2.2.1, by have := h.2.2.2.2; simp only; omega⟩, by simp only; omega, Int.le_refl _⟩
theorem down_fit {n e : Int} {o o' : OsdV} (h : unOsd e o = false) (hb : downO n e o = some o') : unOsd (e + 1) o' = false ∧ o.boot ≤ o'.boot ∧ o.thru ≤ o'.thru := by
  unfold downO at hb
  split at hb
  · cases hb
  · cases hb
    rw [unOsd_iff] at h ⊢
    refine ⟨⟨h.1.imp id (fun h2 => ⟨h2.1, rfl⟩), h.2.1, h.2.2.1, h.2.2.2.1, by have := h.2.2.2.2; simp only; omega⟩, Int.le_refl _, Int.le_refl _⟩
theorem weigh_fit {n e : Int} {o o' : OsdV} (h : unOsd e o = false) (hn : okWeight n = true) (hb : weighO n e o = some o') : unOsd (e + 1) o' = false ∧ o.boot ≤ o'.boot ∧ o.thru ≤ o'.thru := by
  unfold weighO at hb
  split at hb
  · cases hb
  · cases hb
    rw [unOsd_iff] at h ⊢
    unfold okWeight inR at hn
    simp only [Bool.and_eq_true, decide_eq_true_eq] at hn
    refine ⟨⟨h.1, hn.1, hn.2, h.2.2.2.1, by have := h.2.2.2.2; simp only; omega⟩, Int.le_refl _, Int.le_refl _⟩
theorem thru_fit {n e : Int} {o o' : OsdV} (h : unOsd e o = false) (hb : thruO n e o = some o') : unOsd (e + 1) o' = false ∧ o.boot ≤ o'.boot ∧ o.thru ≤ o'.thru := by
  unfold thruO at hb
  split at hb
  · cases hb
  · rename_i h1
    cases hb
    rw [unOsd_iff] at h ⊢
    simp only [not_or] at h1
    have h3 := h.2.2.2.1
    refine ⟨⟨h.1, h.2.1, h.2.2.1, by simp only; omega, by simp only; omega⟩, Int.le_refl _, by simp only; omega⟩
def Grows (m m' : MapV) : Prop := m'.epoch = m.epoch + 1 ∧ m'.hosts = m.hosts ∧ m'.osds.length = m.osds.length ∧ (∀ i (h : i < m.osds.length) (h' : i < m'.osds.length), m.osds[i].boot ≤ m'.osds[i].boot ∧ m.osds[i].thru ≤ m'.osds[i].thru) ∧ (∃ ps, m'.pools = m.pools ++ ps) ∧ (∀ b ∈ m.bans, b ∈ m'.bans) ∧ m.bans.length ≤ m'.bans.length
theorem okMap_iff (m : MapV) : okMap m = true ↔ (0 ≤ m.epoch ∧ m.epoch ≤ 4096) ∧ okHosts m.hosts = true ∧ okOsds m.epoch m.hosts m.osds = true ∧ okPools m.pools = true ∧ okBans m.bans = true := by
  unfold okMap inR
  simp only [Bool.and_eq_true, decide_eq_true_eq]
theorem tick_fit {m : MapV} (h : okMap m = true) (he : m.epoch < 4096) : okMap m.tick = true ∧ Grows m m.tick := by
  rw [okMap_iff] at h
  refine ⟨(okMap_iff _).2 ⟨⟨by show 0 ≤ m.epoch + 1; omega, by show m.epoch + 1 ≤ 4096; omega⟩, h.2.1, osds_up h.2.2.1, h.2.2.2⟩, rfl, rfl, rfl, fun i _ _ => ⟨Int.le_refl _, Int.le_refl _⟩, ⟨[], (List.append_nil _).symm⟩, fun _ h => h, Nat.le_refl _⟩
theorem setO_fit {f : Int → Int → OsdV → Option OsdV} {n : Int} (i : Nat) {m : MapV} (hf : ∀ o o', unOsd m.epoch o = false → f n m.epoch o = some o' → unOsd (m.epoch + 1) o' = false ∧ o.boot ≤ o'.boot ∧ o.thru ≤ o'.thru) (h : okMap m = true) (he : m.epoch < 4096) :
    okMap (setO f n i m).1.tick = true ∧ Grows m (setO f n i m).1.tick := by
  unfold setO
  cases hi : m.osds[i]? with
  | none => exact tick_fit h he
  | some o =>
    cases ho : f n m.epoch o with
    | none => simp only [ho]; exact tick_fit h he
    | some o' =>
      simp only [ho]
      rw [okMap_iff] at h
      have hos := (osds_iff _ _ _).1 h.2.2.1
      obtain ⟨hil, hio⟩ := List.getElem?_eq_some_iff.1 hi
      obtain ⟨g1, g2, g3⟩ := hf o o' (hos.2 o (by rw [← hio]; exact List.getElem_mem hil)) ho
      refine ⟨(okMap_iff _).2 ⟨⟨by show 0 ≤ m.epoch + 1; omega, by show m.epoch + 1 ≤ 4096; omega⟩, h.2.1, osds_set h.2.2.1 i o' g1, h.2.2.2⟩, rfl, rfl, List.length_set, fun j h1 h2 => ?_, ⟨[], (List.append_nil _).symm⟩, fun _ h => h, Nat.le_refl _⟩
      have h2' : j < (m.osds.set i o').length := h2
      have e : (m.osds.set i o')[j]'h2' = if i = j then o' else m.osds[j] := List.getElem_set ..
      show m.osds[j].boot ≤ ((m.osds.set i o')[j]'h2').boot ∧ m.osds[j].thru ≤ ((m.osds.set i o')[j]'h2').thru
      rw [e]
      by_cases hj : i = j
      · subst hj
        rw [if_pos rfl, hio]
        exact ⟨g2, g3⟩
      · rw [if_neg hj]
        exact ⟨Int.le_refl _, Int.le_refl _⟩
theorem pool_fit {p : PoolV} {m : MapV} (hp : okPool p = true) (h : okMap m = true) (he : m.epoch < 4096) : okMap (poolE p m).1.tick = true ∧ Grows m (poolE p m).1.tick := by
  unfold poolE
  by_cases h2 : 2 ≤ m.pools.length
  · rw [if_pos h2]; exact tick_fit h he
  · rw [if_neg h2]
    rw [okMap_iff] at h
    refine ⟨(okMap_iff _).2 ⟨⟨by show 0 ≤ m.epoch + 1; omega, by show m.epoch + 1 ≤ 4096; omega⟩, h.2.1, osds_up h.2.2.1, ?_, h.2.2.2.2⟩, rfl, rfl, rfl, fun i _ _ => ⟨Int.le_refl _, Int.le_refl _⟩, ⟨[p], rfl⟩, fun _ h => h, Nat.le_refl _⟩
    have h4 := h.2.2.2.1
    show okPools (m.pools ++ [p]) = true
    unfold okPools at h4 ⊢
    rw [Bool.and_eq_true, Bool.not_eq_true', decide_eq_true_eq] at h4
    rw [List.any_append, h4.2, List.length_append, List.length_singleton, decide_eq_true (by omega : m.pools.length + 1 ≤ 2)]
    simp [hp]
end Go.Proofs.Ytcofmfjhgbihkaa.crush
