/- Whether a change changes anything. -/
import Derived.Test.YtcofmfjhgbihkaaRows
import Derived.Test.YtcofmfjhgbihkaaMapsApply
import Derived.Deep.RegionHeld3
namespace Go.Proofs.Ytcofmfjhgbihkaa.crush
open Go.RowKit
open Go.Proofs.Ytcofmfjhgbihkaa.kit Go.Proofs.Ytcofmfjhgbihkaa.own
set_option linter.unusedVariables false
set_option linter.unusedSimpArgs false

set_option maxHeartbeats 16000000 in
set_option maxRecDepth 100000 in
theorem Changes_any (v : Value) (c : IncV) (m : MapV) (r : Bool) (w : World) (h : MapR w v m) (hs : m.Small) (hn : m.osds ≠ [])
    (HCh : ∀ (B S g cap : Nat) u, w.heap.size ≤ B → B ≤ u.heap.size → SheetG u (fun k => k < B) S g cap m → Calls Try.prog 109 #[.pointer (some ⟨S, 0, none⟩), c.val] u fun e w' => e = .returned (.bool r) ∧ Below B u w') :
    Calls Try.prog 86 #[v, c.val] w fun e w' => e = .returned (.bool r) ∧ Below w.heap.size w w' := by
  have hr := h
  obtain ⟨vh, vo, vp, vb, rfl, h1, h2, h3, h4⟩ := h
  obtain ⟨ah, ch, rfl⟩ := h1.slice
  obtain ⟨ao, co, rfl⟩ := h2.slice
  obtain ⟨ap, cp, rfl⟩ := h3.slice
  obtain ⟨ab, cb, rfl⟩ := h4.slice
  have HCp := Lib.hid (fun u (hu : Below w.heap.size w u) => copied_any _ m u (hr.keep hu) hs)
  have HNx := Lib.hid HCh
  have HOp := Lib.hid (fun u B S (h : SheetAt u B S m) => h.open hn)
  obtain ⟨k, o, cl, n, a, b, p, d⟩ := c
  unfold IncV.val at HNx ⊢
  simp only at HNx ⊢
  clear hr hs hn HCh h1 h2 h3 h4
  generalize m.hosts.length = Lh at HCp ⊢
  generalize m.osds.length = Lo at HCp ⊢
  generalize m.pools.length = Lp at HCp ⊢
  generalize m.bans.length = Lb at HCp ⊢
  generalize m.epoch = ep at HCp ⊢
  obtain ⟨W3, hW3⟩ : ∃ W3, ((w.alloc (.cells #[.int .i64 ep, .slice ah Lh ch, .slice ao Lo co, .slice ap Lp cp, .slice ab Lb cb] 83)).alloc (.cells #[.int .i64 k, .int .i64 o, .int .i64 cl, .int .i64 n, .int .i64 a, .int .i64 b, .int .i64 p, .int .i64 d] 87)) = W3 := ⟨_, rfl⟩
  have hB3 : Below w.heap.size w W3 := by rw [← hW3]; exact (below_new w _).alloc (by simp) _
  have hX0 : MBox W3 w.heap.size 83 ep (.slice ah Lh ch) (.slice ao Lo co) (.slice ap Lp cp) (.slice ab Lb cb) := by
    unfold MBox; rw [← hW3]; simp only [alloc_heap, Array.getElem?_push, Array.size_push]
    repeat (first | rw [if_pos trivial] | rw [if_pos (by omega)] | rw [if_neg (by omega)])
  have hX1 : IBx W3 (w.heap.size + 1) ⟨k, o, cl, n, ⟨a, b, p, d⟩⟩ := by
    unfold IBx; rw [← hW3]; simp only [alloc_heap, Array.getElem?_push, Array.size_push]
    repeat (first | rw [if_pos trivial] | rw [if_pos (by omega)] | rw [if_neg (by omega)])
  have HB3 := Lib.hid hB3
  have HD := Lib.hid (below_drew (Below.refl W3.heap.size W3))
  have HBd := Lib.hid (HB3.out.trans (HD.out.mono HB3.out.size))
  have HC0 : Hid (∀ u, Below W3.heap.size W3 u → u.cell? ⟨w.heap.size, 0, none⟩ = some (.int .i64 ep) ∧ u.cell? ⟨w.heap.size, 1, none⟩ = some (.slice ah Lh ch) ∧ u.cell? ⟨w.heap.size, 2, none⟩ = some (.slice ao Lo co) ∧ u.cell? ⟨w.heap.size, 3, none⟩ = some (.slice ap Lp cp) ∧ u.cell? ⟨w.heap.size, 4, none⟩ = some (.slice ab Lb cb)) := Lib.hid (fun u hu => (hX0.keep hu).cells)
  have HC1 := Lib.hid (fun u (hu : Below W3.heap.size W3 u) => (hX1.keep hu).cells)
  simp only at HC1
  clear hB3 hX0 hX1
  have m0 := HC0.out _ HD.out
  have i0 := HC1.out _ HD.out
  go_enter Try.func86, Try.ntmps86
  go_upto_region 1 with fail
  clear hW3
  go_region_held3 (fun u => (u.cell? ⟨w.heap.size, 0, none⟩ = some (.int .i64 ep) ∧ u.cell? ⟨w.heap.size, 1, none⟩ = some (.slice ah Lh ch) ∧ u.cell? ⟨w.heap.size, 2, none⟩ = some (.slice ao Lo co) ∧ u.cell? ⟨w.heap.size, 3, none⟩ = some (.slice ap Lp cp) ∧ u.cell? ⟨w.heap.size, 4, none⟩ = some (.slice ab Lb cb)) ∧ u.cell? ⟨w.heap.size + 1, 0, none⟩ = some (.int .i64 k) ∧ u.cell? ⟨w.heap.size + 1, 1, none⟩ = some (.int .i64 o) ∧ u.cell? ⟨w.heap.size + 1, 2, none⟩ = some (.int .i64 cl) ∧ u.cell? ⟨w.heap.size + 1, 3, none⟩ = some (.int .i64 n) ∧ u.cell? ⟨w.heap.size + 1, 4, none⟩ = some (.int .i64 a) ∧ u.cell? ⟨w.heap.size + 1, 5, none⟩ = some (.int .i64 b) ∧ u.cell? ⟨w.heap.size + 1, 6, none⟩ = some (.int .i64 p) ∧ u.cell? ⟨w.heap.size + 1, 7, none⟩ = some (.int .i64 d))
    (first | exact ⟨m0, i0⟩ | exact ⟨HC0.out _ HB5.out, HC1.out _ HB5.out⟩ | exact ⟨HC0.out _ HB4.out, HC1.out _ HB4.out⟩)
    (first
      | (go_at_call 108; refine (HCp.out _ HBd.out).mono ?_; rintro e w4 ⟨S, rfl, hsh, hb⟩; obtain ⟨g, cap, hg⟩ := HOp.out _ _ _ hsh; have HG4 := Lib.hid hg; have HB4 : Hid (Below W3.heap.size W3 w4) := Lib.hid (HD.out.trans (hb.mono HD.out.size)); have HS4 : Hid (W3.heap.size ≤ w4.heap.size) := Lib.hid HB4.out.size; clear hb hsh hg)
      | (go_at_call 109; refine (HNx.out W3.heap.size S g cap w4 HB3.out.size HS4.out HG4.out).mono ?_; rintro e w5 ⟨rfl, hb⟩; have HB5 : Hid (Below W3.heap.size W3 w5) := Lib.hid (HB4.out.trans hb); clear hb))
  have HBe := Lib.hid (HB3.out.trans (HB5.out.mono HB3.out.size))
  clear m0 i0
  go_wp2
  go_ret
  exact ⟨rfl, HBe.out⟩
end Go.Proofs.Ytcofmfjhgbihkaa.crush
