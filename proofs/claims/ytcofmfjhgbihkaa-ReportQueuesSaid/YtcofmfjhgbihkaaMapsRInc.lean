/- The document's side: which pools and changes are ones. -/
import Derived.Test.YtcofmfjhgbihkaaRows
import Derived.Test.YtcofmfjhgbihkaaMapsInc
namespace Go.Proofs.Ytcofmfjhgbihkaa.crush
open Go.RowKit
open Go.Proofs.Ytcofmfjhgbihkaa.kit Go.Proofs.Ytcofmfjhgbihkaa.own
set_option linter.unusedVariables false
set_option linter.unusedSimpArgs false

set_option maxHeartbeats 4000000 in
theorem rwithin_any (x a b : Int) (w : World) : Calls Try.prog 77 #[.int .i64 x, .int .i64 a, .int .i64 b] w fun e w' => e = .returned (.bool (inR x a b)) ∧ w = w' := by
  unfold inR
  go_enter Try.func77, Try.ntmps77
  by_cases h1 : a ≤ x
  · by_cases h2 : x ≤ b
    · go_wp2
      go_ret
      simp
      omega
    · go_wp2
      go_ret
      simp
      omega
  · go_wp2
    go_ret
    simp
    omega
set_option maxHeartbeats 8000000 in
theorem rPool_any (p : PoolV) (w : World) : Calls Try.prog 78 #[p.val] w fun e w' => e = .returned (.bool (okPool p)) ∧ Below w.heap.size w w' := by
  obtain ⟨a, b, c, d⟩ := p
  obtain ⟨R, hR⟩ : ∃ R, okPool ⟨a, b, c, d⟩ = R := ⟨_, rfl⟩
  rw [hR]
  unfold okPool inR at hR
  simp only at hR
  unfold PoolV.val
  simp only
  have HB := Lib.hid (below_new w (.cells #[.int .i64 a, .int .i64 b, .int .i64 c, .int .i64 d] 85))
  have hcs : (¬ 1 ≤ a ∧ R = false) ∨ (1 ≤ a ∧ ¬ a ≤ 3 ∧ R = false) ∨ (1 ≤ a ∧ a ≤ 3 ∧ ¬ 1 ≤ b ∧ R = false) ∨ (1 ≤ a ∧ a ≤ 3 ∧ 1 ≤ b ∧ ¬ b ≤ a ∧ R = false) ∨ (1 ≤ a ∧ a ≤ 3 ∧ 1 ≤ b ∧ b ≤ a ∧ ¬ 1 ≤ c ∧ R = false) ∨ (1 ≤ a ∧ a ≤ 3 ∧ 1 ≤ b ∧ b ≤ a ∧ 1 ≤ c ∧ ¬ c ≤ 8 ∧ R = false)
      ∨ (1 ≤ a ∧ a ≤ 3 ∧ 1 ≤ b ∧ b ≤ a ∧ 1 ≤ c ∧ c ≤ 8 ∧ (True → (d == 1) = true) ∧ R = true) ∨ (1 ≤ a ∧ a ≤ 3 ∧ 1 ≤ b ∧ b ≤ a ∧ 1 ≤ c ∧ c ≤ 8 ∧ (True → (d == 1) = false) ∧ (d == 2) = R) := by
    subst hR
    by_cases h1 : 1 ≤ a
    · by_cases h2 : a ≤ 3
      · by_cases h3 : 1 ≤ b
        · by_cases h4 : b ≤ a
          · by_cases h5 : 1 ≤ c
            · by_cases h6 : c ≤ 8
              · by_cases h7 : d = 1
                · exact .inr (.inr (.inr (.inr (.inr (.inr (.inl ⟨h1, h2, h3, h4, h5, h6, fun _ => by simp [h7], by simp [h1, h2, h3, h4, h5, h6, h7]⟩))))))
                · refine .inr (.inr (.inr (.inr (.inr (.inr (.inr ⟨h1, h2, h3, h4, h5, h6, fun _ => by simp [h7], ?_⟩))))))
                  simp only [h1, h2, h3, h4, h5, h6, decide_true, Bool.true_and]
                  rw [Bool.eq_iff_iff]
                  simp
                  omega
              · exact .inr (.inr (.inr (.inr (.inr (.inl ⟨h1, h2, h3, h4, h5, h6, by simp [h6]⟩)))))
            · exact .inr (.inr (.inr (.inr (.inl ⟨h1, h2, h3, h4, h5, by simp [h5]⟩))))
          · exact .inr (.inr (.inr (.inl ⟨h1, h2, h3, h4, by simp [h4]⟩)))
        · exact .inr (.inr (.inl ⟨h1, h2, h3, by simp [h3]⟩))
      · exact .inr (.inl ⟨h1, h2, by simp [h2]⟩)
    · exact .inl ⟨h1, by simp [h1]⟩
  clear hR
  go_enter Try.func78, Try.ntmps78
  rcases hcs with ⟨h1, hr⟩ | ⟨h1, h2, hr⟩ | ⟨h1, h2, h3, hr⟩ | ⟨h1, h2, h3, h4, hr⟩ | ⟨h1, h2, h3, h4, h5, hr⟩ | ⟨h1, h2, h3, h4, h5, h6, hr⟩ | ⟨h1, h2, h3, h4, h5, h6, h7, hr⟩ | ⟨h1, h2, h3, h4, h5, h6, h7, hr⟩
  all_goals
    have HR := Lib.hid hr
    first | clear hr | skip
    go_wp2
    go_ret
    first | exact ⟨by rw [HR.out]; rfl, HB.out⟩ | exact ⟨by rw [← HR.out]; rfl, HB.out⟩ | exact ⟨rfl, HB.out⟩
theorem eql_pool (x y : PoolV) (w : World) : (binOp .eql 85 x.val y.val).run Try.prog w = .ok (.bool (decide (x = y))) w := by
  obtain ⟨a, b, c, d⟩ := x
  obtain ⟨a', b', c', d'⟩ := y
  unfold PoolV.val
  go_simp
  repeat' split
  all_goals simp [*]
/-- A change of a storage node. -/
theorem okInc_osd (k o cl n : Int) (p : PoolV) (lo hi : Int) (hk : (k = 1 ∧ lo = 1 ∧ hi = 1073741824) ∨ (k = 2 ∧ lo = 1 ∧ hi = 1073741824) ∨ (k = 3 ∧ lo = 0 ∧ hi = 1048576) ∨ (k = 4 ∧ lo = 1 ∧ hi = 1073741824)) :
    okInc ⟨k, o, cl, n, p⟩ = (decide (0 ≤ o) && (decide (o < 8) && (decide (cl = 0) && (inR n lo hi && decide (p = noPool))))) := by
  have e : isOsd ⟨k, o, cl, n, p⟩ = (decide (cl = 0 ∧ p = noPool) && inR o 0 7) := by
    unfold isOsd osdOf okId
    simp
  have e2 : (decide (0 ≤ o) && (decide (o < 8) && (decide (cl = 0) && (inR n lo hi && decide (p = noPool))))) = ((decide (cl = 0 ∧ p = noPool) && inR o 0 7) && inR n lo hi) := by
    rw [Bool.eq_iff_iff]
    unfold inR
    by_cases hp : p = noPool <;> simp [hp] <;> omega
  rw [e2]
  rcases hk with ⟨rfl, rfl, rfl⟩ | ⟨rfl, rfl, rfl⟩ | ⟨rfl, rfl, rfl⟩ | ⟨rfl, rfl, rfl⟩
  · unfold okInc; rw [if_pos (Or.inl rfl), e]; rfl
  · unfold okInc; rw [if_pos (Or.inr rfl), e]; rfl
  · unfold okInc; rw [if_neg (by simp), if_pos rfl, e]; rfl
  · unfold okInc; rw [if_neg (by simp), if_neg (by simp), if_pos rfl, e]
theorem okInc_ban (o cl n : Int) (p : PoolV) : okInc ⟨6, o, cl, n, p⟩ = (decide (o = 0) && (decide (0 ≤ cl) && (decide (cl < 4) && (inR n 1 1073741824 && decide (p = noPool))))) := by
  unfold okInc
  rw [if_neg (by simp), if_neg (by simp), if_neg (by simp), if_neg (by simp), if_pos rfl, Bool.eq_iff_iff]
  unfold banOfI okBan okBoot inR
  by_cases hp : p = noPool <;> simp [hp] <;> omega
theorem okInc_pool (o cl n : Int) (p : PoolV) : okInc ⟨5, o, cl, n, p⟩ = (decide ((⟨5, o, cl, n, p⟩ : IncV) = ⟨5, 0, 0, 0, p⟩) && okPool p) := by
  unfold okInc
  rw [if_neg (by simp), if_neg (by simp), if_neg (by simp), if_pos rfl]
  rfl
theorem okInc_none (k o cl n : Int) (p : PoolV) (h : k ≠ 1 ∧ k ≠ 2 ∧ k ≠ 3 ∧ k ≠ 4 ∧ k ≠ 5 ∧ k ≠ 6) : okInc ⟨k, o, cl, n, p⟩ = false := by
  unfold okInc
  simp only
  rw [if_neg (by omega), if_neg (by omega), if_neg (by omega), if_neg (by omega), if_neg (by omega)]

set_option maxHeartbeats 16000000 in
set_option maxRecDepth 100000 in
theorem rInc_any (c : IncV) (w : World) : Calls Try.prog 110 #[c.val] w fun e w' => e = .returned (.bool (okInc c)) ∧ Below w.heap.size w w' := by
  have HP := Lib.hid (fun w => rPool_any c.pool w)
  have HQ5 := fun w => eql_inc c (poolOf c) w
  have HQz := fun w => eql_pool c.pool noPool w
  obtain ⟨k, o, cl, n, ⟨a, b, p, d⟩⟩ := c
  obtain ⟨R, hR⟩ : ∃ R, okInc ⟨k, o, cl, n, ⟨a, b, p, d⟩⟩ = R := ⟨_, rfl⟩
  rw [hR]
  unfold IncV.val poolOf at HQ5
  unfold PoolV.val noPool at HQz
  unfold PoolV.val at HP
  unfold IncV.val
  simp only at HQ5 HQz HP ⊢
  have HB := Lib.hid (below_new w (.cells #[.int .i64 k, .int .i64 o, .int .i64 cl, .int .i64 n, .int .i64 a, .int .i64 b, .int .i64 p, .int .i64 d] 87))
  have HX := Lib.hid (ibx_new w ⟨k, o, cl, n, ⟨a, b, p, d⟩⟩)
  obtain ⟨z, hz⟩ : ∃ z, decide ((⟨a, b, p, d⟩ : PoolV) = ⟨0, 0, 0, 0⟩) = z := ⟨_, rfl⟩
  rw [hz] at HQz
  go_enter Try.func110, Try.ntmps110
  by_cases kO : k = 1 ∨ k = 2 ∨ k = 3 ∨ k = 4
  · obtain ⟨lo, hi, hlh, hkk⟩ : ∃ lo hi : Int, ((k = 1 ∧ lo = 1 ∧ hi = 1073741824) ∨ (k = 2 ∧ lo = 1 ∧ hi = 1073741824) ∨ (k = 3 ∧ lo = 0 ∧ hi = 1048576) ∨ (k = 4 ∧ lo = 1 ∧ hi = 1073741824)) ∧ (lo = 1 ∨ lo = 0) := by
      rcases kO with h | h | h | h
      · exact ⟨1, 1073741824, .inl ⟨h, rfl, rfl⟩, .inl rfl⟩
      · exact ⟨1, 1073741824, .inr (.inl ⟨h, rfl, rfl⟩), .inl rfl⟩
      · exact ⟨0, 1048576, .inr (.inr (.inl ⟨h, rfl, rfl⟩)), .inr rfl⟩
      · exact ⟨1, 1073741824, .inr (.inr (.inr ⟨h, rfl, rfl⟩)), .inl rfl⟩
    have e := okInc_osd k o cl n ⟨a, b, p, d⟩ lo hi hlh
    rw [hR] at e
    have hz' : decide ((⟨a, b, p, d⟩ : PoolV) = noPool) = z := hz
    rw [hz'] at e
    obtain ⟨y, hy⟩ : ∃ y, inR n lo hi = y := ⟨_, rfl⟩
    have HW := Lib.hid (fun u => rwithin_any n lo hi u)
    rw [hy] at e HW
    have hcs : (o < 0 ∧ R = false) ∨ (¬ o < 0 ∧ 8 ≤ o ∧ R = false) ∨ (¬ o < 0 ∧ ¬ 8 ≤ o ∧ (True → (cl != 0) = true) ∧ R = false) ∨ (¬ o < 0 ∧ ¬ 8 ≤ o ∧ (True → (cl != 0) = false) ∧ y = false ∧ R = false) ∨ (¬ o < 0 ∧ ¬ 8 ≤ o ∧ (True → (cl != 0) = false) ∧ y = true ∧ z = R) := by
      by_cases h1 : o < 0
      · exact .inl ⟨h1, by rw [e, decide_eq_false (by omega : ¬ 0 ≤ o)]; rfl⟩
      · by_cases h2 : 8 ≤ o
        · exact .inr (.inl ⟨h1, h2, by rw [e, decide_eq_false (by omega : ¬ o < 8)]; simp⟩)
        · by_cases h3 : cl = 0
          · cases y with
            | false => exact .inr (.inr (.inr (.inl ⟨h1, h2, fun _ => by simp [h3], rfl, by rw [e]; simp⟩)))
            | true => exact .inr (.inr (.inr (.inr ⟨h1, h2, fun _ => by simp [h3], rfl, by rw [e, decide_eq_true h3, decide_eq_true (by omega : 0 ≤ o), decide_eq_true (by omega : o < 8)]; rfl⟩)))
          · exact .inr (.inr (.inl ⟨h1, h2, fun _ => by simp [h3], by rw [e, decide_eq_false h3]; simp⟩))
    clear e hz hz' hR hy kO HP HQ5 hkk
    rcases hlh with ⟨rfl, rfl, rfl⟩ | ⟨rfl, rfl, rfl⟩ | ⟨rfl, rfl, rfl⟩ | ⟨rfl, rfl, rfl⟩
    all_goals
      rcases hcs with ⟨h1, hr⟩ | ⟨h1, h2, hr⟩ | ⟨h1, h2, h3, hr⟩ | ⟨h1, h2, h3, rfl, hr⟩ | ⟨h1, h2, h3, rfl, hr⟩
      all_goals
        have HR := Lib.hid hr
        clear hr
        go_wp2_with (go_at_call 77; refine (HW.out _).mono ?_; rintro e w5 ⟨rfl, rfl⟩)
        go_ret
        exact ⟨by rw [← HR.out]; rfl, HB.out⟩
  · by_cases k5 : k = 5
    · subst k5
      have e := okInc_pool o cl n ⟨a, b, p, d⟩
      rw [hR] at e
      obtain ⟨y, hy⟩ : ∃ y, decide ((⟨5, o, cl, n, ⟨a, b, p, d⟩⟩ : IncV) = ⟨5, 0, 0, 0, ⟨a, b, p, d⟩⟩) = y := ⟨_, rfl⟩
      obtain ⟨x, hx⟩ : ∃ x, okPool ⟨a, b, p, d⟩ = x := ⟨_, rfl⟩
      rw [hy] at HQ5
      rw [hx] at HP
      rw [hy, hx] at e
      have HR := Lib.hid e
      clear hz hy hx e kO HQz hR
      cases y with
      | false =>
        go_wp2_with fail
        go_ret
        exact ⟨by rw [HR.out]; rfl, HB.out⟩
      | true =>
        go_wp2_with (go_at_call 78; refine (HP.out _).mono ?_; rintro e w5 ⟨rfl, hb⟩; have HB5 := Lib.hid (HB.out.trans (hb.mono HB.out.size)); clear hb)
        go_ret
        exact ⟨by rw [HR.out]; rfl, HB5.out⟩
    · by_cases k6 : k = 6
      · subst k6
        have e := okInc_ban o cl n ⟨a, b, p, d⟩
        have hz' : decide ((⟨a, b, p, d⟩ : PoolV) = noPool) = z := hz
        obtain ⟨y, hy⟩ : ∃ y, inR n 1 1073741824 = y := ⟨_, rfl⟩
        have HW := Lib.hid (fun u => rwithin_any n 1 1073741824 u)
        rw [hy] at e HW
        rw [hR, hz'] at e
        have hcs : ((True → (o != 0) = true) ∧ R = false) ∨ ((True → (o != 0) = false) ∧ cl < 0 ∧ R = false) ∨ ((True → (o != 0) = false) ∧ ¬ cl < 0 ∧ 4 ≤ cl ∧ R = false) ∨ ((True → (o != 0) = false) ∧ ¬ cl < 0 ∧ ¬ 4 ≤ cl ∧ y = false ∧ R = false) ∨ ((True → (o != 0) = false) ∧ ¬ cl < 0 ∧ ¬ 4 ≤ cl ∧ y = true ∧ z = R) := by
          by_cases h3 : o = 0
          · by_cases h1 : cl < 0
            · exact .inr (.inl ⟨fun _ => by simp [h3], h1, by rw [e, decide_eq_false (by omega : ¬ 0 ≤ cl)]; simp⟩)
            · by_cases h2 : 4 ≤ cl
              · exact .inr (.inr (.inl ⟨fun _ => by simp [h3], h1, h2, by rw [e, decide_eq_false (by omega : ¬ cl < 4)]; simp⟩))
              · cases y with
                | false => exact .inr (.inr (.inr (.inl ⟨fun _ => by simp [h3], h1, h2, rfl, by rw [e]; simp⟩)))
                | true => exact .inr (.inr (.inr (.inr ⟨fun _ => by simp [h3], h1, h2, rfl, by rw [e, decide_eq_true h3, decide_eq_true (by omega : 0 ≤ cl), decide_eq_true (by omega : cl < 4)]; rfl⟩)))
          · exact .inl ⟨fun _ => by simp [h3], by rw [e, decide_eq_false h3]; simp⟩
        clear e hz hz' hR hy kO HP HQ5
        rcases hcs with ⟨h1, hr⟩ | ⟨h1, h2, hr⟩ | ⟨h1, h2, h3, hr⟩ | ⟨h1, h2, h3, rfl, hr⟩ | ⟨h1, h2, h3, rfl, hr⟩
        all_goals
          have HR := Lib.hid hr
          clear hr
          go_wp2_with (go_at_call 77; refine (HW.out _).mono ?_; rintro e w5 ⟨rfl, rfl⟩)
          go_ret
          exact ⟨by rw [← HR.out]; rfl, HB.out⟩
      · have e := okInc_none k o cl n ⟨a, b, p, d⟩ (by omega)
        rw [hR] at e
        have HR := Lib.hid e
        have k1 : ¬ k = 1 := fun h => kO (.inl h)
        have k2 : ¬ k = 2 := fun h => kO (.inr (.inl h))
        have k3 : ¬ k = 3 := fun h => kO (.inr (.inr (.inl h)))
        have k4 : ¬ k = 4 := fun h => kO (.inr (.inr (.inr h)))
        clear e hz hR kO HP HQ5 HQz
        go_wp2_with fail
        go_ret
        exact ⟨by rw [HR.out]; rfl, HB.out⟩
end Go.Proofs.Ytcofmfjhgbihkaa.crush
