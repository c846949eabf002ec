/- What a fit map gives, and the first one. -/
import Derived.Test.YtcofmfjhgbihkaaRows
import Derived.Test.YtcofmfjhgbihkaaMapsOnce
import Derived.Test.YtcofmfjhgbihkaaMapsFirst
namespace Go.Proofs.Ytcofmfjhgbihkaa.crush
open Go.RowKit
open Go.Proofs.Ytcofmfjhgbihkaa.kit Go.Proofs.Ytcofmfjhgbihkaa.own
set_option linter.unusedVariables false
set_option linter.unusedSimpArgs false

theorem okMap_small {m : MapV} (h : okMap m = true) : m.Small ∧ m.osds ≠ [] ∧ I64 m.epoch ∧ okBans m.bans = true := by
  have h0 := (okMap_iff m).1 h
  have h1 := okHosts_len h0.2.1
  have h2 := ((osds_iff _ _ _).1 h0.2.2.1).1
  have h3 : m.pools.length ≤ 2 := by
    have := h0.2.2.2.1
    unfold okPools at this
    rw [Bool.and_eq_true, decide_eq_true_eq] at this
    exact this.1
  have h4 := ((okBans_iff _).1 h0.2.2.2.2).2.2
  refine ⟨?_, fun e => ?_, ?_, h0.2.2.2.2⟩
  · unfold MapV.Small
    omega
  · rw [e] at h2
    simp at h2
    omega
  · unfold I64
    omega
theorem first_ok {hs : List Int} (h : okHosts hs = true) : okMap (firstE hs) = true := by
  unfold firstE
  rw [if_pos h, okMap_iff]
  refine ⟨⟨Int.le_refl 0, by show (0 : Int) ≤ 4096; decide⟩, h, (osds_iff _ _ _).2 ⟨by simp, fun o ho => ?_⟩, by rfl, by rfl⟩
  rw [List.eq_of_mem_replicate ho]
  rfl
/-- The slice has room for what it holds. -/
def CapM (v : Value) (n : Nat) : Prop := ∃ a c, v = .slice a n c ∧ n ≤ c ∧ c ≤ 9223372036854775807
theorem sl_elem {α : Type} {enc : α → List Value} {k : Nat} {W : World} {a : Option Addr} {L cap : Nat} {xs : List α} (h : Sl enc k W (.slice a L cap) xs) (j : Nat) (hj : j < xs.length) :
    ∃ b off, a = some ⟨b, off, none⟩ ∧ b < W.heap.size ∧ W.rangeAt b (off + j * k) (enc xs[j]) := by
  obtain ⟨_, a', c', he, -, hcell⟩ := h
  cases he
  obtain ⟨b, off, rfl, hbl, hc⟩ := hcell (by omega)
  exact ⟨b, off, rfl, hbl, hc j hj⟩
theorem mapR_rows {W : World} {em : Int} {vh vo vp vb : Value} {m : MapV} (h : MapR W (.agg #[.int .i64 em, vh, vo, vp, vb]) m) : Sl ic 1 W vh m.hosts ∧ Sl oc 4 W vo m.osds ∧ Sl pc 4 W vp m.pools ∧ Sl bc 2 W vb m.bans := by
  obtain ⟨_, _, _, _, he, h1, h2, h3, h4⟩ := h
  simp at he
  obtain ⟨-, rfl, rfl, rfl, rfl⟩ := he
  exact ⟨h1, h2, h3, h4⟩
end Go.Proofs.Ytcofmfjhgbihkaa.crush
