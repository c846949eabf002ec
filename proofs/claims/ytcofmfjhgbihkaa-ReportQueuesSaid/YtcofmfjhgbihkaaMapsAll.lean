/- Every change, in one contract. -/
import Derived.Test.YtcofmfjhgbihkaaRows
import Derived.Test.YtcofmfjhgbihkaaMapsChg5
import Derived.Test.YtcofmfjhgbihkaaMapsChg6
import Derived.Test.YtcofmfjhgbihkaaMapsApply
import Derived.Test.YtcofmfjhgbihkaaMapsChgs
namespace Go.Proofs.Ytcofmfjhgbihkaa.crush
open Go.RowKit
open Go.Proofs.Ytcofmfjhgbihkaa.kit Go.Proofs.Ytcofmfjhgbihkaa.own
set_option linter.unusedVariables false
set_option linter.unusedSimpArgs false

theorem ltBan_trans {a b c : BanV} (h1 : ltBan a b = true) (h2 : ltBan b c = true) : ltBan a c = true := by
  simp only [ltBan, Bool.or_eq_true, Bool.and_eq_true, decide_eq_true_eq] at h1 h2 ⊢
  omega
theorem bans_lt {xs : List BanV} : ∀ n, n ≤ xs.length → okBansF xs n = true → ∀ j k (hk : k < xs.length), k < n → ∀ (hj : j < k), ltBan (xs[j]'(by omega)) xs[k] = true := by
  intro n
  induction n with
  | zero => intro _ _ j k _ h; omega
  | succ n ih =>
    intro hn h j k hk hkn hj
    have hs := okBansF_step (l := xs) (k := n) (by omega)
    rw [h] at hs
    have hs := hs.symm
    simp only [Bool.and_eq_true, Bool.or_eq_true, decide_eq_true_eq] at hs
    obtain ⟨h1, -, h2⟩ := hs
    rcases Nat.lt_or_ge k n with h3 | h3
    · exact ih (by omega) h1 j k hk h3 hj
    · obtain rfl : k = n := by omega
      have h4 : ltBan (xs[k - 1]'(by omega)) xs[k] = true := by
        rcases h2 with h2 | h2
        · omega
        · rw [List.getD_eq_getElem?_getD, List.getElem?_eq_getElem (by omega), Option.getD_some] at h2
          rw [← ordB_lt]; exact decide_eq_true h2
      rcases Nat.lt_or_ge j (k - 1) with h5 | h5
      · exact ltBan_trans (ih (by omega) h1 j (k - 1) (by omega) (by omega) h5) h4
      · obtain rfl : j = k - 1 := by omega
        exact h4
theorem while_iff {α : Type} {p : α → Bool} : ∀ (xs : List α), (∀ j k (hk : k < xs.length) (hj : j < k), p xs[k] = true → p (xs[j]'(by omega)) = true) → ∀ k (hk : k < xs.length), p xs[k] = true ↔ k < (xs.takeWhile p).length := by
  intro xs
  induction xs with
  | nil => intro _ k hk; exact absurd hk (Nat.not_lt_zero _)
  | cons x xs ih =>
    intro hm k hk
    cases hx : p x with
    | true =>
      rw [List.takeWhile_cons_of_pos hx, List.length_cons]
      cases k with
      | zero => simp [hx]
      | succ k =>
        have := ih (fun j k hk hj h => hm (j + 1) (k + 1) (by simpa using hk) (by omega) (by simpa using h)) k (by simpa using hk)
        simpa using this
    | false =>
      rw [List.takeWhile_cons_of_neg (by simp [hx])]
      refine ⟨fun h => ?_, fun h => absurd h (Nat.not_lt_zero _)⟩
      cases k with
      | zero => rw [List.getElem_cons_zero, hx] at h; cases h
      | succ k =>
        have := hm 0 (k + 1) hk (by omega) h
        rw [List.getElem_cons_zero, hx] at this; cases this
theorem bans_pos {xs : List BanV} (h : okBans xs = true) (y : BanV) : ∀ k (hk : k < xs.length), ordB xs[k] y < 0 ↔ k < posB xs y := by
  intro k hk
  unfold okBans at h
  rw [Bool.and_eq_true] at h
  have := while_iff (p := fun x => decide (ordB x y < 0)) xs (fun j k hk hj h2 => by
    rw [ordB_lt] at h2 ⊢
    exact ltBan_trans (bans_lt _ (Nat.le_refl _) h.1 j k hk hk hj) h2) k hk
  unfold posB
  rw [← this]
  simp
/-- What a change changes, and whether it does. -/
def chE (c : IncV) (m : MapV) : MapV × Bool :=
  if okInc c = false then (m, false)
  else if c.kind = 1 then setO bootO c.num c.osd.toNat m
  else if c.kind = 2 then setO downO c.num c.osd.toNat m
  else if c.kind = 3 then setO weighO c.num c.osd.toNat m
  else if c.kind = 4 then setO thruO c.num c.osd.toNat m
  else if c.kind = 5 then poolE c.pool m
  else banE (banV c) m
theorem osd_nat {c : IncV} (h : okInc c = true) (hk : c.kind = 1 ∨ c.kind = 2 ∨ c.kind = 3 ∨ c.kind = 4) : c.osd = (c.osd.toNat : Int) := by
  have h1 : isOsd c = true := by
    unfold okInc at h
    split at h
    · exact (Bool.and_eq_true .. ▸ h).1
    · split at h
      · exact (Bool.and_eq_true .. ▸ h).1
      · split at h
        · exact (Bool.and_eq_true .. ▸ h).1
        · omega
  unfold isOsd okId inR at h1
  simp only [Bool.and_eq_true, decide_eq_true_eq] at h1
  omega
theorem kind_six {c : IncV} (h : okInc c = true) (h1 : ¬ c.kind = 1) (h2 : ¬ c.kind = 2) (h3 : ¬ c.kind = 3) (h4 : ¬ c.kind = 4) (h5 : ¬ c.kind = 5) : c.kind = 6 := by
  unfold okInc at h
  rw [if_neg (by omega), if_neg h3, if_neg h4, if_neg h5] at h
  by_cases h6 : c.kind = 6
  · exact h6
  · rw [if_neg h6] at h; cases h
theorem change_any (c : IncV) (m : MapV) (hb : okBans m.bans = true) (B : Nat → Prop) (S g cap : Nat) (w : World) (h : SheetG w B S g cap m) (hB : In B w) :
    Calls Try.prog 109 #[.pointer (some ⟨S, 0, none⟩), c.val] w (StO B S g cap (chE c m) w) := by
  cases hok : okInc c with
  | false =>
    unfold chE
    rw [if_pos hok]
    exact change0_any c hok B S g cap m w h hB
  | true =>
    unfold chE
    rw [if_neg (by rw [hok]; decide)]
    by_cases k1 : c.kind = 1
    · rw [if_pos k1]; exact change1_any c k1 _ (osd_nat hok (by omega)) hok B S g cap m w h hB
    · by_cases k2 : c.kind = 2
      · rw [if_neg k1, if_pos k2]; exact change2_any c k2 _ (osd_nat hok (by omega)) hok B S g cap m w h hB
      · by_cases k3 : c.kind = 3
        · rw [if_neg k1, if_neg k2, if_pos k3]; exact change3_any c k3 _ (osd_nat hok (by omega)) hok B S g cap m w h hB
        · by_cases k4 : c.kind = 4
          · rw [if_neg k1, if_neg k2, if_neg k3, if_pos k4]; exact change4_any c k4 _ (osd_nat hok (by omega)) hok B S g cap m w h hB
          · by_cases k5 : c.kind = 5
            · rw [if_neg k1, if_neg k2, if_neg k3, if_neg k4, if_pos k5]; exact change5_any c k5 hok B S g cap m w h hB
            · have k6 := kind_six hok k1 k2 k3 k4 k5
              rw [if_neg k1, if_neg k2, if_neg k3, if_neg k4, if_neg k5]
              have hl : m.bans.length ≤ 64 := by
                unfold okBans at hb
                simp only [Bool.and_eq_true, decide_eq_true_eq] at hb
                exact hb.2
              exact change6_any c k6 hok B S g cap m w h hB hl (bans_pos hb _)
theorem chE_epoch (c : IncV) (m : MapV) : (chE c m).1.epoch = m.epoch := by
  have hs : ∀ (f : Int → Int → OsdV → Option OsdV) (n : Int) (i : Nat), (setO f n i m).1.epoch = m.epoch := fun f n i => by
    unfold setO
    cases m.osds[i]? with
    | none => rfl
    | some o =>
      simp only
      cases f n m.epoch o <;> rfl
  unfold chE
  repeat' split
  all_goals first | rfl | exact hs _ _ _ | (unfold poolE; split <;> rfl) | (unfold banE; split <;> rfl)
/-- The map behind a change. -/
def appE (c : IncV) (m : MapV) : MapV := if m.epoch < 4096 then (chE c m).1.tick else m
theorem Changes_all (v : Value) (c : IncV) (m : MapV) (w : World) (h : MapR w v m) (hs : m.Small) (hn : m.osds ≠ []) (hb : okBans m.bans = true) :
    Calls Try.prog 86 #[v, c.val] w fun e w' => e = .returned (.bool (chE c m).2) ∧ Below w.heap.size w w' :=
  Changes_any v c m _ w h hs hn (fun B S g cap u h1 h2 h3 => (change_any c m hb (fun k => k < B) S g cap u h3 (In.le h2)).mono (by
    rintro e w' ⟨he, hg, hb⟩
    exact ⟨he, hb.to⟩))
end Go.Proofs.Ytcofmfjhgbihkaa.crush
