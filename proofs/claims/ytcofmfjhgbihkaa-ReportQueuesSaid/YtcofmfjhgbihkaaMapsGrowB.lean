/- Bans stay fit. -/
import Derived.Test.YtcofmfjhgbihkaaRows
import Derived.Test.YtcofmfjhgbihkaaMapsGrowM
namespace Go.Proofs.Ytcofmfjhgbihkaa.crush
open Go.RowKit
open Go.Proofs.Ytcofmfjhgbihkaa.kit Go.Proofs.Ytcofmfjhgbihkaa.own
set_option linter.unusedVariables false
set_option linter.unusedSimpArgs false

theorem okBans_iff (l : List BanV) : okBans l = true ↔ (∀ b ∈ l, okBan b.client b.inst = true) ∧ l.Pairwise (fun a b => ltBan a b = true) ∧ l.length ≤ 64 := by
  unfold okBans
  rw [Bool.and_eq_true, decide_eq_true_eq]
  constructor
  · rintro ⟨h, h64⟩
    refine ⟨fun b hb => ?_, List.pairwise_iff_getElem.2 (fun i j hi hj hij => bans_lt _ (Nat.le_refl _) h i j hj hj hij), h64⟩
    obtain ⟨k, hk, rfl⟩ := List.getElem_of_mem hb
    have h1 : okBansF l (k + 1) = true := by
      cases hh : okBansF l (k + 1) with
      | true => rfl
      | false => rw [okBansF_false hh _ hk] at h; cases h
    rw [okBansF_step hk] at h1
    simp only [Bool.and_eq_true] at h1
    exact h1.2.1
  · rintro ⟨ha, hp, h64⟩
    refine ⟨?_, h64⟩
    have : ∀ n, n ≤ l.length → okBansF l n = true := by
      intro n
      induction n with
      | zero => intro _; rfl
      | succ n ih =>
        intro hn
        rw [okBansF_step (by omega), ih (by omega), ha _ (List.getElem_mem (by omega)), Bool.true_and, Bool.true_and, Bool.or_eq_true]
        by_cases h0 : n = 0
        · exact .inl (by simp [h0])
        · right
          rw [ordB_lt, List.getD_eq_getElem?_getD, List.getElem?_eq_getElem (by omega), Option.getD_some]
          exact List.pairwise_iff_getElem.1 hp (n - 1) n (by omega) (by omega) (by omega)
    exact this _ (Nat.le_refl _)
theorem ltBan_other {x y : BanV} (h1 : ¬ ordB x y < 0) (h2 : ¬ ordB x y = 0) : ltBan y x = true := by
  have e1 : ltBan x y = false := by rw [← ordB_lt]; exact decide_eq_false h1
  unfold ordB first2 cmp3 at h2
  unfold ltBan at e1 ⊢
  simp only [Bool.or_eq_false_iff, Bool.and_eq_false_imp, decide_eq_false_iff_not, decide_eq_true_eq, Bool.or_eq_true, Bool.and_eq_true] at e1 ⊢
  by_cases q1 : x.client < y.client
  · exact absurd q1 e1.1
  · by_cases q2 : y.client < x.client
    · exact .inl q2
    · have q3 : x.client = y.client := by omega
      refine .inr ⟨q3.symm, ?_⟩
      have q4 := e1.2 q3
      by_cases q5 : y.inst < x.inst
      · exact q5
      · exact absurd (by simp [q1, q2, q4, q5]) h2
theorem ban_fit {y : BanV} {m : MapV} (hy : okBan y.client y.inst = true) (h : okMap m = true) (he : m.epoch < 4096) : okMap (banE y m).1.tick = true ∧ Grows m (banE y m).1.tick := by
  unfold banE
  cases hq : (atBan m.bans y (posB m.bans y) || decide (64 ≤ m.bans.length)) with
  | true => rw [if_pos rfl]; exact tick_fit h he
  | false =>
    rw [if_neg (by decide)]
    rw [okMap_iff] at h
    rw [Bool.or_eq_false_iff, decide_eq_false_iff_not] at hq
    have hb := h.2.2.2.2
    have hpos := bans_pos hb y
    have hple := posB_le m.bans y
    generalize posB m.bans y = p at hq hpos hple ⊢
    obtain ⟨h1, h2, h3⟩ := (okBans_iff _).1 hb
    have hlo : ∀ a ∈ m.bans.take p, ltBan a y = true := fun a ha => by
      obtain ⟨k, hk, rfl⟩ := List.getElem_of_mem ha
      rw [List.length_take] at hk
      rw [List.getElem_take, ← ordB_lt]
      exact decide_eq_true ((hpos k (by omega)).2 (by omega))
    have hhi : ∀ b ∈ m.bans.drop p, ltBan y b = true := fun b hbm => by
      obtain ⟨k, hk, rfl⟩ := List.getElem_of_mem hbm
      rw [List.length_drop] at hk
      rw [List.getElem_drop]
      have hp0 : p < m.bans.length := by omega
      have hat : ¬ ordB m.bans[p] y = 0 := by
        have := hq.1
        unfold atBan at this
        rw [List.getElem?_eq_getElem hp0] at this
        exact of_decide_eq_false this
      have hfirst := ltBan_other (fun hh => absurd ((hpos p hp0).1 hh) (Nat.lt_irrefl _)) hat
      cases k with
      | zero => exact hfirst
      | succ k => exact ltBan_trans hfirst (List.pairwise_iff_getElem.1 h2 p (p + (k + 1)) hp0 (by omega) (by omega))
    refine ⟨(okMap_iff _).2 ⟨⟨by show 0 ≤ m.epoch + 1; omega, by show m.epoch + 1 ≤ 4096; omega⟩, h.2.1, osds_up h.2.2.1, h.2.2.2.1, ?_⟩, rfl, rfl, rfl, fun i _ _ => ⟨Int.le_refl _, Int.le_refl _⟩, ⟨[], (List.append_nil _).symm⟩, fun b hbm => ?_, ?_⟩
    · refine (okBans_iff _).2 ⟨fun b hbm => ?_, ?_, ?_⟩
      · rcases List.mem_append.1 hbm with h5 | h5
        · exact h1 b (List.mem_of_mem_take h5)
        · rcases List.mem_cons.1 h5 with rfl | h5
          · exact hy
          · exact h1 b (List.mem_of_mem_drop h5)
      · refine List.pairwise_append.2 ⟨h2.sublist (List.take_sublist _ _), List.pairwise_cons.2 ⟨hhi, h2.sublist (List.drop_sublist _ _)⟩, fun a ha b hbm => ?_⟩
        rcases List.mem_cons.1 hbm with rfl | h5
        · exact hlo a ha
        · exact ltBan_trans (hlo a ha) (hhi b h5)
      · show (m.bans.take p ++ y :: m.bans.drop p).length ≤ 64
        simp
        omega
    · show b ∈ m.bans.take p ++ y :: m.bans.drop p
      rw [← List.take_append_drop p m.bans] at hbm
      rcases List.mem_append.1 hbm with h5 | h5
      · exact List.mem_append_left _ h5
      · exact List.mem_append_right _ (List.mem_cons_of_mem _ h5)
    · show m.bans.length ≤ (m.bans.take p ++ y :: m.bans.drop p).length
      simp
      omega
theorem grow_all (c : IncV) {m : MapV} (h : okMap m = true) (he : m.epoch < 4096) : okMap (appE c m) = true ∧ Grows m (appE c m) := by
  unfold appE
  rw [if_pos he]
  unfold chE
  cases hok : okInc c with
  | false => rw [if_pos rfl]; exact tick_fit h he
  | true =>
    rw [if_neg (by decide)]
    have ho := hok
    unfold okInc at ho
    by_cases k1 : c.kind = 1
    · rw [if_pos (Or.inl k1), Bool.and_eq_true] at ho
      rw [if_pos k1]
      exact setO_fit _ (fun o o' h1 h2 => boot_fit h1 ho.2 h2) h he
    · by_cases k2 : c.kind = 2
      · rw [if_neg k1, if_pos k2]
        exact setO_fit _ (fun o o' h1 h2 => down_fit h1 h2) h he
      · rw [if_neg (by omega)] at ho
        by_cases k3 : c.kind = 3
        · rw [if_pos k3, Bool.and_eq_true] at ho
          rw [if_neg k1, if_neg k2, if_pos k3]
          exact setO_fit _ (fun o o' h1 h2 => weigh_fit h1 ho.2 h2) h he
        · rw [if_neg k3] at ho
          by_cases k4 : c.kind = 4
          · rw [if_neg k1, if_neg k2, if_neg k3, if_pos k4]
            exact setO_fit _ (fun o o' h1 h2 => thru_fit h1 h2) h he
          · rw [if_neg k4] at ho
            by_cases k5 : c.kind = 5
            · rw [if_pos k5, Bool.and_eq_true] at ho
              rw [if_neg k1, if_neg k2, if_neg k3, if_neg k4, if_pos k5]
              exact pool_fit ho.2 h he
            · have k6 := kind_six hok k1 k2 k3 k4 k5
              rw [if_neg k5, if_pos k6, Bool.and_eq_true] at ho
              rw [if_neg k1, if_neg k2, if_neg k3, if_neg k4, if_neg k5]
              exact ban_fit ho.2 h he
end Go.Proofs.Ytcofmfjhgbihkaa.crush
