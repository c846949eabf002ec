/- Chapter 2's examples: the law's own 'awake', which is true. -/
import Derived.Test.YtfpfgckakppllaaRows
import Derived.Test.YtfpfgckakppllaaCodeAft
import Derived.Test.YtfpfgckakppllaaCodeReadW
import Derived.Test.YtfpfgckakppllaaCodeKey
namespace Go.Proofs.Ytfpfgckakppllaa.code
open Go.RowKit
open Go.Proofs.Ytfpfgckakppllaa.kit Go.Proofs.Ytfpfgckakppllaa.cm
set_option linter.unusedVariables false

theorem after_at (w : World) : Calls Try.prog 18 #[.string { data := #[97, 255] }] w fun e w' => e = .returned (.tuple #[.string { data := #[98] }, .bool true]) ∧ Below w.heap.size w w' := by
  have h := after_any { data := #[97, 255] } (by decide) w
  have h1 : aftT { data := #[97, 255] } = { data := #[98] } := by decide +kernel
  have h2 : aftB { data := #[97, 255] } = true := by decide +kernel
  rw [h1, h2] at h
  exact h

/-- A slice of bytes that lies in the block made last but k. -/
theorem slb_of {w : World} {n : Nat} {cs : Array Value} {t : TypeId} (ns : List Nat) (h : w.heap[n]? = some (.cells cs t (0, 0))) (hcs : cs = (ns.map fun n : Nat => Value.int .u8 (n : Int)).toArray) (hl : ns.length ≤ 100) : SlB w (.slice (some ⟨n, 0, none⟩) ns.length ns.length) ns (fun _ => True) := by
  refine ⟨by omega, _, _, rfl, Nat.le_refl _, fun _ => ⟨n, 0, rfl, trivial, (Array.getElem?_eq_some_iff.1 h).1, fun j hj => ?_⟩⟩
  rw [Nat.zero_add, cell_of_row w n j cs t (0, 0) h, hcs]
  simp [List.getD, hj]
theorem slk_of {w : World} {n : Nat} {cs : Array Value} {t : TypeId} (ks : List Int) (h : w.heap[n]? = some (.cells cs t (0, 0))) (hcs : cs = (ks.map fun n : Int => Value.int .i64 n).toArray) (hl : ks.length ≤ 100) : SlK w (.slice (some ⟨n, 0, none⟩) ks.length ks.length) ks := by
  refine ⟨by omega, _, _, rfl, fun _ => ⟨n, 0, rfl, fun j hj => ?_⟩⟩
  rw [Nat.zero_add, cell_of_row w n j cs t (0, 0) h, hcs]
  simp [List.getD, hj]

theorem two_new (w : World) (o p : Obj) : ((w.alloc o).alloc p).heap[w.heap.size]? = some o ∧ ((w.alloc o).alloc p).heap[w.heap.size + 1]? = some p := by
  constructor
  · simp only [alloc_heap, Array.getElem?_push, Array.size_push]; simp
  · simp only [alloc_heap, Array.getElem?_push, Array.size_push]; simp

theorem two_below (w : World) (o p : Obj) : Below w.heap.size w ((w.alloc o).alloc p) := ((Below.refl _ w).alloc (Nat.le_refl _) _).alloc (by simp) _

theorem read_bad (w : World) : Calls Try.prog 13 #[.slice (some ⟨w.heap.size, 0, none⟩) 2 2, .slice (some ⟨w.heap.size + 1, 0, none⟩) 1 1] ((w.alloc (.cells #[.int .u8 128, .int .u8 0] 5)).alloc (.cells #[.int .i64 1] 3)) fun e w' =>
    e = .returned (.tuple #[.slice none 0 0, .int .i64 0, .int .i64 10]) ∧ Below w.heap.size w w' := by
  obtain ⟨h1, h2⟩ := two_new w (.cells #[.int .u8 128, .int .u8 0] 5) (.cells #[.int .i64 1] 3)
  have hb := two_below w (.cells #[.int .u8 128, .int .u8 0] 5) (.cells #[.int .i64 1] 3)
  refine (Read_any _ _ [128, 0] [1] _ (slb_of [128, 0] h1 rfl (by decide)) (by simp) (slk_of [1] h2 rfl (by decide)) (by simp)).mono ?_
  have hR : rA rField [] [1] [128, 0] = .error 10 := rfl
  rw [hR]
  rintro e w' ⟨hb2, he, _⟩
  exact ⟨he, hb.trans (hb2.mono hb.size)⟩

theorem read_300 (w : World) : Calls Try.prog 13 #[.slice (some ⟨w.heap.size, 0, none⟩) 3 3, .slice (some ⟨w.heap.size + 1, 0, none⟩) 1 1] ((w.alloc (.cells #[.int .u8 172, .int .u8 2, .int .u8 7] 5)).alloc (.cells #[.int .i64 1] 3)) fun e w' =>
    (∃ g cap, e = .returned (.tuple #[.slice (some ⟨g, 0, none⟩) 1 cap, .int .i64 2, .int .i64 0]) ∧ g < w'.heap.size ∧ w'.cell? ⟨g, 1, none⟩ = some (.int .i64 300)) ∧ Below w.heap.size w w' := by
  obtain ⟨h1, h2⟩ := two_new w (.cells #[.int .u8 172, .int .u8 2, .int .u8 7] 5) (.cells #[.int .i64 1] 3)
  have hb := two_below w (.cells #[.int .u8 172, .int .u8 2, .int .u8 7] 5) (.cells #[.int .i64 1] 3)
  refine (Read_any _ _ [172, 2, 7] [1] _ (slb_of [172, 2, 7] h1 rfl (by decide)) (by simp) (slk_of [1] h2 rfl (by decide)) (by simp)).mono ?_
  have hR : rA rField [] [1] [172, 2, 7] = .ok ([⟨1, 300, { data := #[] }, false⟩], [7]) := rfl
  rw [hR]
  rintro e w' ⟨hb2, v, he, ho⟩
  refine ⟨?_, hb.trans (hb2.mono hb.size)⟩
  rcases ho.2 with ⟨_, h0⟩ | ⟨g, cap, cur, rfl, hB, hg, hr⟩
  · simp at h0
  · refine ⟨g, cap, he, (Array.getElem?_eq_some_iff.1 hg).1, ?_⟩
    have := World.ownsRow.cells ho (g := g) rfl 1 (.int .i64 300) rfl
    rw [add_plain'] at this
    exact this

/-- A slice of fields that lies in a block. -/
theorem slf_of {w : World} {n : Nat} {cs : Array Value} {t : TypeId} (fs : List Fld) (h : w.heap[n]? = some (.cells cs t (0, 0))) (hcs : ∀ j (hj : j < fs.length), cs[j * 4]? = some (.int .i64 fs[j].kind) ∧ cs[j * 4 + 1]? = some (.int .i64 fs[j].num) ∧ cs[j * 4 + 2]? = some (.string fs[j].text) ∧ cs[j * 4 + 3]? = some (.bool fs[j].is)) (hl : fs.length ≤ 100) : SlF w (.slice (some ⟨n, 0, none⟩) fs.length fs.length) fs := by
  refine ⟨by omega, _, _, rfl, fun _ => ⟨n, 0, rfl, (Array.getElem?_eq_some_iff.1 h).1, fun j hj => ?_⟩⟩
  obtain ⟨h0, h1, h2, h3⟩ := hcs j hj
  rw [Nat.zero_add]
  exact ⟨by rw [cell_of_row w n _ cs t (0, 0) h, h0], by rw [cell_of_row w n _ cs t (0, 0) h, h1], by rw [cell_of_row w n _ cs t (0, 0) h, h2], by rw [cell_of_row w n _ cs t (0, 0) h, h3]⟩

theorem fields_258 (w : World) : Calls Try.prog 5 #[.slice (some ⟨w.heap.size, 0, none⟩) 1 1] (w.alloc (.cells #[.int .i64 3, .int .i64 258, .string { data := #[] }, .bool false] 37)) fun e w' =>
    (∃ v, e = .returned v ∧ (convert 24 9 v).run Try.prog w' = .ok (.string { data := #[2, 1, 0, 0] }) w') ∧ Below w.heap.size w w' := by
  have hb : Below w.heap.size w (w.alloc (.cells #[.int .i64 3, .int .i64 258, .string { data := #[] }, .bool false] 37)) := (Below.refl _ w).alloc (Nat.le_refl _) _
  refine (fields_any _ [⟨3, 258, { data := #[] }, false⟩] _ (slf_of [⟨3, 258, { data := #[] }, false⟩] (heap_alloc_last w _) ?_ (by simp)) ?_ (by decide) (by intro f hf; have e : f = ⟨3, 258, { data := #[] }, false⟩ := (by simpa using hf); subst e; decide)).mono ?_
  · intro j hj
    obtain rfl : j = 0 := by simpa using hj
    exact ⟨rfl, rfl, rfl, rfl⟩
  · intro f hf
    obtain rfl : f = ⟨3, 258, { data := #[] }, false⟩ := (by simpa using hf)
    exact ⟨by decide, by decide, by decide, by decide, by decide⟩
  · rintro e w' ⟨v, rfl, ho, hb2⟩
    refine ⟨⟨v, rfl, ?_⟩, hb.trans (hb2.mono hb.size)⟩
    have := conv_bytes (P := Try.prog) 24 5 9 Try.underlying24 Try.underlying5 Try.underlying9 ho.read
    have hv : strOfNums ((bytesL [⟨3, 258, { data := #[] }, false⟩]).map fun n : Nat => (n : Int)) = { data := #[2, 1, 0, 0] } := by decide +kernel
    rw [hv] at this
    exact this

theorem key_1a (w : World) : Calls Try.prog 6 #[.slice (some ⟨w.heap.size, 0, none⟩) 2 2] (w.alloc (.cells #[.int .i64 1, .int .i64 1, .string { data := #[] }, .bool false, .int .i64 4, .int .i64 0, .string { data := #[97, 0] }, .bool false] 37)) fun e w' =>
    e = .returned (.string { data := #[0, 0, 0, 0, 0, 0, 0, 1, 97, 0, 255, 0, 1] }) ∧ Below w.heap.size w w' := by
  have hb : Below w.heap.size w (w.alloc (.cells #[.int .i64 1, .int .i64 1, .string { data := #[] }, .bool false, .int .i64 4, .int .i64 0, .string { data := #[97, 0] }, .bool false] 37)) := (Below.refl _ w).alloc (Nat.le_refl _) _
  refine (key_any _ [⟨1, 1, { data := #[] }, false⟩, ⟨4, 0, { data := #[97, 0] }, false⟩] _ (slf_of [⟨1, 1, { data := #[] }, false⟩, ⟨4, 0, { data := #[97, 0] }, false⟩] (heap_alloc_last w _) ?_ (by simp)) ?_ (by decide) ?_).mono ?_
  · intro j hj
    match j, hj with
    | 0, _ => exact ⟨rfl, rfl, rfl, rfl⟩
    | 1, _ => exact ⟨rfl, rfl, rfl, rfl⟩
  · intro f hf
    rcases (by simpa using hf : f = ⟨1, 1, { data := #[] }, false⟩ ∨ f = ⟨4, 0, { data := #[97, 0] }, false⟩) with rfl | rfl
    · exact ⟨by decide, by decide, by decide, by decide, by decide⟩
    · exact ⟨by decide, by decide, by decide, by decide, by decide⟩
  · intro f hf
    rcases (by simpa using hf : f = ⟨1, 1, { data := #[] }, false⟩ ∨ f = ⟨4, 0, { data := #[97, 0] }, false⟩) with rfl | rfl
    · decide
    · decide
  · rintro e w' ⟨rfl, hb2⟩
    have hv : strOfNums ((keyL [⟨1, 1, { data := #[] }, false⟩, ⟨4, 0, { data := #[97, 0] }, false⟩]).map fun n : Nat => (n : Int)) = { data := #[0, 0, 0, 0, 0, 0, 0, 1, 97, 0, 255, 0, 1] } := by decide +kernel
    rw [hv]
    exact ⟨rfl, hb.trans (hb2.mono hb.size)⟩

set_option maxHeartbeats 4000000 in
set_option maxRecDepth 100000 in
theorem awake_any (w : World) : Calls Try.prog 7 #[] w fun e w' => e = .returned (.bool true) ∧ Below w.heap.size w w' := by
  go_enter Try.func7, Try.ntmps7
  go_wp2_with fail
  refine (after_at _).mono ?_
  rintro e w1 ⟨rfl, hb1⟩
  have HB1 := Lib.hid hb1
  clear hb1
  go_wp2_with fail
  refine (read_bad _).mono ?_
  rintro e w2 ⟨rfl, hb2⟩
  have HB2 := Lib.hid (HB1.out.trans (hb2.mono HB1.out.size))
  clear hb2
  go_wp2_with fail
  refine (read_300 _).mono ?_
  rintro e w3 ⟨⟨g, cap, rfl, hg, hc⟩, hb3⟩
  have HB3 := Lib.hid (HB2.out.trans (hb3.mono HB2.out.size))
  clear hb3
  go_wp2_with fail
  refine (fields_258 _).mono ?_
  rintro e w4 ⟨⟨v, rfl, hcv⟩, hb4⟩
  have HB4 := Lib.hid (HB3.out.trans (hb4.mono HB3.out.size))
  have hc4 := (hb4.cell (p := ⟨g, 1, none⟩) hg).trans hc
  clear hb4 hg hc
  go_wp2_with fail
  refine (key_1a _).mono ?_
  rintro e w5 ⟨rfl, hb5⟩
  have HB5 := Lib.hid (HB4.out.trans (hb5.mono HB4.out.size))
  clear hb5
  go_wp2
  go_ret
  exact ⟨rfl, HB5.out⟩

end Go.Proofs.Ytfpfgckakppllaa.code
