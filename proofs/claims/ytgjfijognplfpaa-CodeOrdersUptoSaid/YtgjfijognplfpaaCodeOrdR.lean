/- The document's own order of fields and rows. -/
import Derived.Test.YtgjfijognplfpaaRows
import Derived.Test.YtgjfijognplfpaaCodeOrd2
namespace Go.Proofs.Ytgjfijognplfpaa.code
open Go.RowKit
open Go.Proofs.Ytgjfijognplfpaa.kit Go.Proofs.Ytgjfijognplfpaa.cm
set_option linter.unusedVariables false

set_option maxHeartbeats 4000000 in
set_option maxRecDepth 100000 in
theorem rorder_any (b : Bool) (w : World) : Calls Try.prog 37 #[.bool b] w fun e w' => e = .returned (.int .i64 (if b then -1 else 1)) ∧ w = w' := by
  cases b
  · go_enter Try.func37, Try.ntmps37
    go_wp2
    go_ret
    exact ⟨rfl, rfl⟩
  · go_enter Try.func37, Try.ntmps37
    go_wp2
    go_ret
    exact ⟨rfl, rfl⟩

theorem text_nil {t : ByteArray} (h : t.toList = []) : t = { data := #[] } := by
  rw [Lib.toList_data] at h
  obtain ⟨⟨l⟩⟩ := t
  simp at h
  subst h
  rfl

theorem bytesLess_irrefl : ∀ a : List UInt8, Op.bytesLess a a = false
  | [] => rfl
  | x :: a => by
    have : ¬ x < x := by rw [UInt8.lt_iff_toNat_lt]; omega
    simp [Op.bytesLess, this, bytesLess_irrefl a]
theorem compare_less : ∀ (a b : List UInt8), Lib.compareBytes a b = if Op.bytesLess a b then -1 else if a = b then 0 else 1
  | [], [] => by simp [Lib.compareBytes, Op.bytesLess]
  | [], _ :: _ => by simp [Lib.compareBytes, Op.bytesLess]
  | _ :: _, [] => by simp [Lib.compareBytes, Op.bytesLess]
  | x :: a, y :: b => by
    have ih := compare_less a b
    unfold Lib.compareBytes Op.bytesLess
    by_cases h1 : x < y
    · simp [h1]
    · by_cases h2 : y < x
      · have : x ≠ y := fun e => by subst e; exact h1 h2
        simp [h1, h2, this]
      · have : x = y := UInt8.toNat.inj (by rw [UInt8.lt_iff_toNat_lt] at h1 h2; omega)
        subst this
        simp [h1, ih]

/-- What is fit says of the parts. -/
theorem fit_parts {f : Fld} (h : f.fit = true) : ((f.kind ≠ 4 ∧ f.kind ≠ 5) ∧ f.text = { data := #[] } ∧ f.is = false) ∨ (f.kind = 4 ∧ f.num = 0 ∧ f.is = false) ∨ (f.kind = 5 ∧ f.num = 0 ∧ f.text = { data := #[] }) := by
  obtain ⟨k, n, t, b⟩ := f
  unfold Fld.fit at h
  simp only at h ⊢
  split at h
  · simp at h; exact .inl ⟨by omega, text_nil h.1.2, h.2⟩
  split at h
  · simp at h; exact .inl ⟨by omega, text_nil h.1, h.2⟩
  split at h
  · simp at h; exact .inl ⟨by omega, text_nil h.1.2, h.2⟩
  split at h
  · simp at h; exact .inr (.inl ⟨by omega, h.1, h.2⟩)
  split at h
  · simp at h; exact .inr (.inr ⟨by omega, h.1, text_nil h.2⟩)
  · cases h

set_option maxHeartbeats 4000000 in
set_option maxRecDepth 100000 in
theorem rfieldO_any (f g : Fld) (hf : f.fit = true) (hg : g.fit = true) (w : World) :
    Calls Try.prog 36 #[f.val, g.val] w fun e w' => e = .returned (.int .i64 (ordF f g)) ∧ Below w.heap.size w w' := by
  have hf := fit_parts hf
  have hg := fit_parts hg
  obtain ⟨k, n, t, b⟩ := f
  obtain ⟨k2, n2, t2, b2⟩ := g
  simp only at hf hg
  have HB := Lib.hid (((Below.refl w.heap.size w).alloc (Nat.le_refl _) (Obj.cells #[Value.int .i64 k, Value.int .i64 n, Value.string t, Value.bool b] 25)).alloc (by simp) (Obj.cells #[Value.int .i64 k2, Value.int .i64 n2, Value.string t2, Value.bool b2] 25))
  unfold Fld.val
  simp only
  by_cases hk : k = k2
  · subst hk
    rcases hf with ⟨⟨k4, k5⟩, rfl, rfl⟩ | ⟨rfl, rfl, rfl⟩ | ⟨rfl, rfl, rfl⟩
    · obtain ⟨rfl, rfl⟩ : t2 = { data := #[] } ∧ b2 = false := by
        rcases hg with ⟨_, h1, h2⟩ | ⟨h, _⟩ | ⟨h, _⟩
        · exact ⟨h1, h2⟩
        · exact absurd h k4
        · exact absurd h k5
      clear hg
      have b4 : True → (k == 4) = false := fun _ => by simpa using k4
      have b5 : True → (k == 5) = false := fun _ => by simpa using k5
      by_cases hn : n = n2
      · subst hn
        have HE := Lib.hid (show ordF ⟨k, n, { data := #[] }, false⟩ ⟨k, n, { data := #[] }, false⟩ = 0 by simp [ordF, firstOf, cmp3, flagN, Lib.compareBytes])
        rw [HE.out]
        clear k4 k5
        go_enter Try.func36, Try.ntmps36
        go_wp2_with fail
        go_ret
        exact ⟨rfl, HB.out⟩
      · have hne : True → (n == n2) = false := fun _ => by simpa using hn
        by_cases hl : n < n2
        · have HE := Lib.hid (show ordF ⟨k, n, { data := #[] }, false⟩ ⟨k, n2, { data := #[] }, false⟩ = -1 by simp [ordF, firstOf, cmp3, hl])
          rw [HE.out]
          clear k4 k5 hn
          go_enter Try.func36, Try.ntmps36
          go_wp2_with (go_at_call 37; refine (rorder_any _ _).mono ?_; rintro e w1 ⟨rfl, rfl⟩)
          go_ret
          exact ⟨rfl, HB.out⟩
        · have HE := Lib.hid (show ordF ⟨k, n, { data := #[] }, false⟩ ⟨k, n2, { data := #[] }, false⟩ = 1 by simp [ordF, firstOf, cmp3, hl, show n2 < n by omega])
          rw [HE.out]
          clear k4 k5 hn
          go_enter Try.func36, Try.ntmps36
          go_wp2_with (go_at_call 37; refine (rorder_any _ _).mono ?_; rintro e w1 ⟨rfl, rfl⟩)
          go_ret
          exact ⟨rfl, HB.out⟩
    · obtain ⟨rfl, rfl⟩ : n2 = 0 ∧ b2 = false := by
        rcases hg with ⟨⟨h, _⟩, _⟩ | ⟨_, h1, h2⟩ | ⟨h, _⟩
        · exact absurd rfl h
        · exact ⟨h1, h2⟩
        · exact absurd h (by decide)
      clear hg
      have hcl := compare_less t.data.toList t2.data.toList
      rw [← Lib.toList_data, ← Lib.toList_data] at hcl
      by_cases ht : t = t2
      · subst ht
        have HE := Lib.hid (show ordF ⟨4, 0, t, false⟩ ⟨4, 0, t, false⟩ = 0 by simp [ordF, firstOf, cmp3, flagN, compare_less, bytesLess_irrefl])
        rw [HE.out]
        clear hcl
        go_enter Try.func36, Try.ntmps36
        go_wp2_with fail
        go_ret
        exact ⟨rfl, HB.out⟩
      · have htl : ¬ t.toList = t2.toList := fun h => ht (by rw [Lib.toList_data, Lib.toList_data] at h; obtain ⟨⟨x⟩⟩ := t; obtain ⟨⟨y⟩⟩ := t2; simp at h; subst h; rfl)
        have hte : True → (t.toList == t2.toList) = false := fun _ => by simpa using htl
        by_cases hl : Op.bytesLess t.toList t2.toList = true
        · rw [if_pos hl] at hcl
          have HE := Lib.hid (show ordF ⟨4, 0, t, false⟩ ⟨4, 0, t2, false⟩ = -1 by
            rw [Lib.toList_data, Lib.toList_data] at hcl
            simp [ordF, firstOf, cmp3, hcl])
          rw [HE.out]
          clear hcl ht htl
          go_enter Try.func36, Try.ntmps36
          go_wp2_with (go_at_call 37; refine (rorder_any _ _).mono ?_; rintro e w1 ⟨rfl, rfl⟩)
          go_ret
          exact ⟨rfl, HB.out⟩
        · rw [if_neg hl, if_neg htl] at hcl
          have hl' : Op.bytesLess t.toList t2.toList = false := by simpa using hl
          have HE := Lib.hid (show ordF ⟨4, 0, t, false⟩ ⟨4, 0, t2, false⟩ = 1 by
            rw [Lib.toList_data, Lib.toList_data] at hcl
            simp [ordF, firstOf, cmp3, hcl])
          rw [HE.out]
          clear hcl ht htl hl
          go_enter Try.func36, Try.ntmps36
          go_wp2_with (go_at_call 37; refine (rorder_any _ _).mono ?_; rintro e w1 ⟨rfl, rfl⟩)
          go_ret
          exact ⟨rfl, HB.out⟩
    · obtain ⟨rfl, rfl⟩ : n2 = 0 ∧ t2 = { data := #[] } := by
        rcases hg with ⟨⟨_, h⟩, _⟩ | ⟨h, _⟩ | ⟨_, h1, h2⟩
        · exact absurd rfl h
        · exact absurd h (by decide)
        · exact ⟨h1, h2⟩
      clear hg
      cases b <;> cases b2 <;>
      · go_enter Try.func36, Try.ntmps36
        go_wp2_with (go_at_call 37; refine (rorder_any _ _).mono ?_; rintro e w1 ⟨rfl, rfl⟩)
        go_ret
        exact ⟨rfl, HB.out⟩
  · clear hf hg
    have hkn : True → (k != k2) = true := fun _ => by simpa using hk
    by_cases hl : k < k2
    · have HE := Lib.hid (show ordF ⟨k, n, t, b⟩ ⟨k2, n2, t2, b2⟩ = -1 by simp [ordF, firstOf, cmp3, hl])
      rw [HE.out]
      clear hk
      go_enter Try.func36, Try.ntmps36
      go_wp2_with (go_at_call 37; refine (rorder_any _ _).mono ?_; rintro e w1 ⟨rfl, rfl⟩)
      go_ret
      exact ⟨rfl, HB.out⟩
    · have HE := Lib.hid (show ordF ⟨k, n, t, b⟩ ⟨k2, n2, t2, b2⟩ = 1 by simp [ordF, firstOf, cmp3, hl, show k2 < k by omega])
      rw [HE.out]
      clear hk
      go_enter Try.func36, Try.ntmps36
      go_wp2_with (go_at_call 37; refine (rorder_any _ _).mono ?_; rintro e w1 ⟨rfl, rfl⟩)
      go_ret
      exact ⟨rfl, HB.out⟩

end Go.Proofs.Ytgjfijognplfpaa.code
