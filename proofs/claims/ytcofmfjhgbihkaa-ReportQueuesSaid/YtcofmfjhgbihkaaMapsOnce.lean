/- A change that was done changes nothing more. -/
import Derived.Test.YtcofmfjhgbihkaaRows
import Derived.Test.YtcofmfjhgbihkaaMapsGrowB
namespace Go.Proofs.Ytcofmfjhgbihkaa.crush
open Go.RowKit
open Go.Proofs.Ytcofmfjhgbihkaa.kit Go.Proofs.Ytcofmfjhgbihkaa.own
set_option linter.unusedVariables false
set_option linter.unusedSimpArgs false

theorem setO_twice {f : Int → Int → OsdV → Option OsdV} {n : Int} (i : Nat) (m : MapV) (hn : ∀ e o, f n e o = none → f n (e + 1) o = none) (hs : ∀ e o o', f n e o = some o' → f n (e + 1) o' = none) :
    (setO f n i (setO f n i m).1.tick).2 = false := by
  cases hi : m.osds[i]? with
  | none =>
    have e1 : setO f n i m = (m, false) := by unfold setO; rw [hi]
    rw [e1]
    unfold setO
    rw [show m.tick.osds[i]? = none from hi]
  | some o =>
    obtain ⟨hil, -⟩ := List.getElem?_eq_some_iff.1 hi
    cases ho : f n m.epoch o with
    | none =>
      have e1 : setO f n i m = (m, false) := by unfold setO; rw [hi]; simp only [ho]
      rw [e1]
      unfold setO
      rw [show m.tick.osds[i]? = some o from hi]
      simp only [show f n m.tick.epoch o = none from hn _ _ ho]
    | some o' =>
      have e1 : setO f n i m = (putOsd m i o', true) := by unfold setO; rw [hi]; simp only [ho]
      rw [e1]
      unfold setO
      rw [show (putOsd m i o').tick.osds[i]? = some o' from by show (m.osds.set i o')[i]? = some o'; rw [List.getElem?_set_self hil]]
      simp only [show f n (putOsd m i o').tick.epoch o' = none from hs _ _ _ ho]
theorem boot_twice (n : Int) (i : Nat) (m : MapV) : (setO bootO n i (setO bootO n i m).1.tick).2 = false :=
  setO_twice i m (fun e o h => h) (fun e o o' h => by
    unfold bootO at h ⊢
    split at h
    · cases h
    · cases h; exact if_pos (Int.le_refl _))
theorem down_twice (n : Int) (i : Nat) (m : MapV) : (setO downO n i (setO downO n i m).1.tick).2 = false :=
  setO_twice i m (fun e o h => h) (fun e o o' h => by
    unfold downO at h ⊢
    split at h
    · cases h
    · cases h; exact if_pos (Or.inl rfl))
theorem weigh_twice (n : Int) (i : Nat) (m : MapV) : (setO weighO n i (setO weighO n i m).1.tick).2 = false :=
  setO_twice i m (fun e o h => h) (fun e o o' h => by
    unfold weighO at h ⊢
    split at h
    · cases h
    · cases h; exact if_pos rfl)
theorem ordB_self (y : BanV) : ordB y y = 0 := by
  unfold ordB first2 cmp3
  simp
theorem ban_twice {y : BanV} {m : MapV} (hy : okBan y.client y.inst = true) (h : okMap m = true) (he : m.epoch < 4096) : (banE y (banE y m).1.tick).2 = false := by
  have hf := ban_fit hy h he
  cases hq : (atBan m.bans y (posB m.bans y) || decide (64 ≤ m.bans.length)) with
  | true =>
    have e1 : banE y m = (m, false) := by unfold banE; rw [hq]; exact if_pos rfl
    rw [e1]
    unfold banE
    rw [show (atBan m.tick.bans y (posB m.tick.bans y) || decide (64 ≤ m.tick.bans.length)) = true from hq, if_pos rfl]
  | false =>
    have e1 : banE y m = (⟨m.epoch, m.hosts, m.osds, m.pools, m.bans.take (posB m.bans y) ++ y :: m.bans.drop (posB m.bans y)⟩, true) := by unfold banE; rw [hq]; exact if_neg (by decide)
    rw [e1] at hf ⊢
    have hb := ((okMap_iff _).1 hf.1).2.2.2.2
    have hpos0 := bans_pos ((okMap_iff _).1 h).2.2.2.2 y
    have hple := posB_le m.bans y
    generalize posB m.bans y = p at hb hpos0 hple ⊢
    have hb' : okBans (m.bans.take p ++ y :: m.bans.drop p) = true := hb
    have hpos := bans_pos hb' y
    have hlen : (m.bans.take p ++ y :: m.bans.drop p).length = m.bans.length + 1 := by simp; omega
    have hlt : (m.bans.take p).length = p := by rw [List.length_take]; omega
    have hy2 : (m.bans.take p ++ y :: m.bans.drop p)[p]? = some y := by
      rw [List.getElem?_append_right (by omega), hlt, Nat.sub_self]; rfl
    obtain ⟨hpl, hpy⟩ := List.getElem?_eq_some_iff.1 hy2
    have hge : posB (m.bans.take p ++ y :: m.bans.drop p) y ≤ p := by
      rcases Nat.lt_or_ge p (posB (m.bans.take p ++ y :: m.bans.drop p) y) with h1 | h1
      · have := (hpos p hpl).2 h1
        rw [hpy, ordB_self] at this
        omega
      · exact h1
    have hle : p ≤ posB (m.bans.take p ++ y :: m.bans.drop p) y := by
      rcases Nat.lt_or_ge (posB (m.bans.take p ++ y :: m.bans.drop p) y) p with h1 | h1
      · have h2 := (hpos0 (posB (m.bans.take p ++ y :: m.bans.drop p) y) (by omega)).2 h1
        have h3 := (hpos (posB (m.bans.take p ++ y :: m.bans.drop p) y) (by omega)).1 (by
          rw [List.getElem_append_left (by omega), List.getElem_take]; exact h2)
        omega
      · exact h1
    have hpe : posB (m.bans.take p ++ y :: m.bans.drop p) y = p := by omega
    have hat : atBan (m.bans.take p ++ y :: m.bans.drop p) y p = true := by unfold atBan; rw [hy2]; simp [ordB_self]
    unfold banE
    rw [if_pos (by
      show (atBan (m.bans.take p ++ y :: m.bans.drop p) y (posB (m.bans.take p ++ y :: m.bans.drop p) y) || _) = true
      rw [hpe, hat]; rfl)]
/-- Behind a change the change changes nothing more: but a pool, and an up_thru that the epoch now lets in. -/
theorem chE_twice (c : IncV) {m : MapV} (h : okMap m = true) (he : m.epoch < 4096) (h4 : ¬ c.kind = 4) (h5 : ¬ c.kind = 5) : (chE c (appE c m)).2 = false := by
  unfold appE
  rw [if_pos he]
  cases hok : okInc c with
  | false =>
    have e : ∀ x, chE c x = (x, false) := fun x => by unfold chE; rw [if_pos hok]
    rw [e]
  | true =>
    have hno : ¬ okInc c = false := by rw [hok]; decide
    by_cases k1 : c.kind = 1
    · have e : ∀ x, chE c x = setO bootO c.num c.osd.toNat x := fun x => by unfold chE; rw [if_neg hno, if_pos k1]
      rw [e, e]; exact boot_twice _ _ _
    · by_cases k2 : c.kind = 2
      · have e : ∀ x, chE c x = setO downO c.num c.osd.toNat x := fun x => by unfold chE; rw [if_neg hno, if_neg k1, if_pos k2]
        rw [e, e]; exact down_twice _ _ _
      · by_cases k3 : c.kind = 3
        · have e : ∀ x, chE c x = setO weighO c.num c.osd.toNat x := fun x => by unfold chE; rw [if_neg hno, if_neg k1, if_neg k2, if_pos k3]
          rw [e, e]; exact weigh_twice _ _ _
        · have k6 := kind_six hok k1 k2 k3 h4 h5
          have e : ∀ x, chE c x = banE (banV c) x := fun x => by unfold chE; rw [if_neg hno, if_neg k1, if_neg k2, if_neg k3, if_neg h4, if_neg h5]
          have ho := hok
          unfold okInc at ho
          rw [if_neg (by omega), if_neg k3, if_neg h4, if_neg h5, if_pos k6, Bool.and_eq_true] at ho
          rw [e, e]
          exact ban_twice ho.2 h he
end Go.Proofs.Ytcofmfjhgbihkaa.crush
