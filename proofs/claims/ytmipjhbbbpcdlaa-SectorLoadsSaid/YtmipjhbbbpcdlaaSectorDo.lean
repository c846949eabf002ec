/- The law's 'do': an act at both devices: they answer alike, and are alike again. -/
import Derived.Test.YtmipjhbbbpcdlaaRows
import Derived.Test.YtmipjhbbbpcdlaaSectorAll
import Derived.Deep.RegionHeld3
namespace Go.Proofs.Ytmipjhbbbpcdlaa.sector
open Go.RowKit
open Go.Proofs.Ytmipjhbbbpcdlaa.kit Go.Proofs.Ytmipjhbbbpcdlaa.own
set_option linter.unusedVariables false

theorem drewB {B : Nat} {a w : World} (h : Below B a w) : Below B a w.drew := ⟨h.os, h.tape, h.output, h.size, h.block⟩
/-- They answered alike, and lie alike. -/
def DoAt (w0 : World) (d r : Nat) (m : Dev) (e : Ending) (w' : World) : Prop := e = .returned (.bool true) ∧ ∃ m' Z' Y', Both w0 w' d r m' Z' Y' ∧ m'.ws ≤ m.ws + 1 ∧ m'.fs ≤ m.fs + 1

theorem wDev_more (m : Dev) (z : Int) (x : List Nat) (hpk : PickOk m) : PickOk (wDev m z x) ∧ (wDev m z x).n = m.n ∧ (wDev m z x).ws ≤ m.ws + 1 ∧ (wDev m z x).fs ≤ m.fs + 1 := by
  unfold wDev
  split
  · exact ⟨hpk, rfl, by omega, by omega⟩
  split
  · exact ⟨hpk, rfl, by omega, by omega⟩
  split
  · exact ⟨hpk, rfl, by omega, by omega⟩
  split
  · refine ⟨fun p hp => (by cases hp), rfl, ?_, ?_⟩
    · show m.ws ≤ _; omega
    · show m.fs ≤ _; omega
  · obtain ⟨h1, h2, h3, h4, h5, h6⟩ := wrote_same m z.toNat x
    refine ⟨fun p hp => ?_, h2, by rw [h4]; omega, by rw [h5]; omega⟩
    rw [h3] at hp
    cases hm : m.cut with
    | none => rw [hm] at hp; cases hp
    | some q =>
      rw [hm] at hp
      simp at hp
      subst hp
      exact hpk q hm
theorem fDev_more (m : Dev) (hpk : PickOk m) : PickOk (fDev m) ∧ (fDev m).n = m.n ∧ (fDev m).ws ≤ m.ws + 1 ∧ (fDev m).fs ≤ m.fs + 1 := by
  unfold fDev
  split
  · exact ⟨hpk, rfl, by omega, by omega⟩
  · refine ⟨hpk, rfl, ?_, ?_⟩
    · show m.ws ≤ _; omega
    · show m.fs + 1 ≤ _; omega
theorem lDev_more (m : Dev) (p : Nat) (hpk : PickOk m) : PickOk (lDev m p) ∧ (lDev m p).n = m.n ∧ (lDev m p).ws ≤ m.ws + 1 ∧ (lDev m p).fs ≤ m.fs + 1 := by
  unfold lDev
  split
  · exact ⟨hpk, rfl, by omega, by omega⟩
  · refine ⟨fun p hp => (by cases hp), rfl, ?_, ?_⟩
    · show m.ws ≤ _; omega
    · show m.fs ≤ _; omega
theorem cDev_more (m : Dev) (z : Int) (p : Nat) (h64 : p < 18446744073709551616) (hpk : PickOk m) : PickOk (cDev m z p) ∧ (cDev m z p).n = m.n ∧ (cDev m z p).ws ≤ m.ws + 1 ∧ (cDev m z p).fs ≤ m.fs + 1 := by
  unfold cDev
  split
  · exact ⟨hpk, rfl, by omega, by omega⟩
  split
  · refine ⟨fun p hp => (by cases hp), rfl, ?_, ?_⟩
    · show m.ws ≤ _; omega
    · show m.fs ≤ _; omega
  · refine ⟨fun q hq => (by cases hq; exact h64), rfl, ?_, ?_⟩
    · show m.ws ≤ _; omega
    · show m.fs ≤ _; omega

/-- The bytes that came in lie as they lay behind what one device did. -/
theorem doc_byt {w0 w w2 : World} {d r : Nat} {m : Dev} {Z Y : Nat → Prop} {v : Value} {data : List Nat} (h : Both w0 w d r m Z Y) (ht : Turn Z w w2) (hb : Byt w v data) (hold : ∀ b off l c, v = .slice (some ⟨b, off, none⟩) l c → 0 < l → b < w0.heap.size) : Byt w2 v data := by
  obtain ⟨hl, a, c, rfl, hc⟩ := id hb.read
  refine ⟨⟨hl, a, c, rfl, fun h0 => ?_⟩, hb.lt, fun b off l c e h0 => Nat.lt_of_lt_of_le (hb.old b off l c e h0) ht.size, hb.none⟩
  obtain ⟨b, off, e, hcell⟩ := hc h0
  refine ⟨b, off, e, fun j hj => ?_⟩
  have hbo := hold b off _ _ (by rw [e]) h0
  exact (World.cell?_of_block (a := ⟨b, off + j, none⟩) (ht.block b (cell_lt (hcell j hj)) (fun hz => by have := h.za b hz; omega))).trans (hcell j hj)

set_option maxHeartbeats 4000000 in
set_option maxRecDepth 100000 in
theorem do_any (w0 w : World) (d r : Nat) (m : Dev) (Z Y : Nat → Prop) (h : Both w0 w d r m Z Y) (kind n : Int) (v : Value) (data : List Nat) (pick : Nat) (hn : n ≤ 9223372036854775807) (hb : Byt w v data) (hold : ∀ b off l c, v = .slice (some ⟨b, off, none⟩) l c → 0 < l → b < w0.heap.size) (hp : pick < 18446744073709551616)
    (hws : m.ws + 1 < 4611686018427387904) (hfs : m.fs + 1 < 4611686018427387904) :
    Calls Try.prog 11 #[.pointer (some ⟨d, 0, none⟩), .pointer (some ⟨r, 0, none⟩), .agg #[.int .i64 kind, .int .i64 n, v, .int .u64 pick]] w (DoAt w0 d r m) := by
  have hA := (Below.refl w.heap.size w).alloc (Nat.le_refl _) (.cells #[.int .i64 kind, .int .i64 n, v, .int .u64 pick] 31)
  have hB := h.keep hA
  have hby := hb.keep hA
  have hbox := alloc_at w (.cells #[.int .i64 kind, .int .i64 n, v, .int .u64 pick] 31)
  have hsz : (w.alloc (.cells #[.int .i64 kind, .int .i64 n, v, .int .u64 pick] 31)).heap.size = w.heap.size + 1 := by simp
  have hnz : ¬ Z w.heap.size := fun hz => by have := h.dev.lt _ hz; omega
  have hny : ¬ Y w.heap.size := fun hz => by have := h.doc.lt _ hz; omega
  obtain ⟨_, va, vc, hve, _⟩ := id hb.read
  have HB := Lib.hid hB; have HBy := Lib.hid hby; have HBox := Lib.hid hbox; have HSz := Lib.hid hsz; have HNz := Lib.hid hnz; have HNy := Lib.hid hny; have HOld := Lib.hid hold; have HP := Lib.hid hp; have HWs := Lib.hid hws; have HFs := Lib.hid hfs; have HN := Lib.hid hn
  subst hve
  clear h hb hold hp hws hfs hA hB hby hbox hsz hnz hny hn
  go_enter Try.func11, Try.ntmps11
  go_upto_region 1 with fail
  generalize (w.alloc (.cells #[.int .i64 kind, .int .i64 n, .slice va data.length vc, .int .u64 (pick : Int)] 31)) = w1 at HB HBy HBox HSz ⊢
  have a0 : w1.cell? ⟨w.heap.size, 0, none⟩ = some (.int .i64 kind) := by simp [World.cell?, HBox.out]
  have a1 : w1.cell? ⟨w.heap.size, 1, none⟩ = some (.int .i64 n) := by simp [World.cell?, HBox.out]
  have a2 : w1.cell? ⟨w.heap.size, 2, none⟩ = some (.slice va data.length vc) := by simp [World.cell?, HBox.out]
  have a3 : w1.cell? ⟨w.heap.size, 3, none⟩ = some (.int .u64 pick) := by simp [World.cell?, HBox.out]
  have hlt1 : w.heap.size < w1.heap.size := by have := HSz.out; omega
  by_cases k1 : kind = 1
  · subst k1
    go_wp2_with fail
    refine (Read_all w1 Z d m HB.out.dev n).mono ?_
    rintro e w2 ⟨⟨v2, rfl, hs2⟩, hb2⟩
    have a1' := (hb2.cell (p := ⟨w.heap.size, 1, none⟩) hlt1).trans a1
    have HS2 := Lib.hid hs2; have HB2 := Lib.hid (HB.out.keep hb2)
    clear hs2 hb2 a0 a1 a2 a3
    go_wp2_with fail
    refine (rRead_all w2 Y r m HB2.out.doc n).mono ?_
    rintro e w3 ⟨⟨v3, rfl, hs3⟩, hb3⟩
    have hc2 := conv_sl (HS2.out.keep hb3)
    have hc3 := conv_sl hs3
    have HB3 := Lib.hid (HB2.out.keep hb3)
    clear hs3 hb3 a1'
    generalize rErr m n = er
    generalize strN (rBytes m n) = s at hc2 hc3
    go_wp2
    go_ret
    exact ⟨by simp, m, Z, Y, HB3.out, by omega, by omega⟩
  · by_cases k2 : kind = 2
    · subst k2
      have HBd := Lib.hid (HB.out.keep (drewB (Below.refl w1.heap.size w1)))
      have HByd := Lib.hid (HBy.out.keep (drewB (Below.refl w1.heap.size w1)))
      have HWr := Lib.hid (Write_all w1.drew Z d m HBd.out.dev HBd.out.pick n (.slice va data.length vc) data HByd.out HWs.out (fun b off l c e h0 hz => by have := HBd.out.za _ hz; have := HOld.out b off l c e h0; omega))
      go_upto_region 7 with fail
      clear a0 a3
      go_region_held3 (fun w' => w'.cell? ⟨w.heap.size, 1, none⟩ = some (.int .i64 n) ∧ w'.cell? ⟨w.heap.size, 2, none⟩ = some (.slice va data.length vc))
        (first | exact ⟨a1, a2⟩ | exact ⟨b1, b2⟩ | exact ⟨d1, d2⟩)
        (first | ((go_at_call 17; refine HWr.out.mono ?_; rintro e w2 ⟨rfl, hd2, ht2⟩; have b1 := (World.cell?_of_block (a := ⟨w.heap.size, 1, none⟩) (ht2.block _ hlt1 HNz.out)).trans a1; have b2 := (World.cell?_of_block (a := ⟨w.heap.size, 2, none⟩) (ht2.block _ hlt1 HNz.out)).trans a2; have HD2 := Lib.hid hd2; have HT2 := Lib.hid ht2; clear hd2 ht2)) | ((go_at_call 28; refine (rWrite_all w2 Y r m (HBd.out.mid HT2.out) HBd.out.pick n (.slice va data.length vc) data (doc_byt HBd.out HT2.out HByd.out HOld.out) HWs.out (fun b off l c e h0 hz => by have := HBd.out.ya _ hz; have := HOld.out b off l c e h0; omega)).mono ?_; rintro e w3 ⟨rfl, hr3, ht3⟩; have d1 := (World.cell?_of_block (a := ⟨w.heap.size, 1, none⟩) (ht3.block _ (Nat.lt_of_lt_of_le hlt1 HT2.out.size) HNy.out)).trans b1; have d2 := (World.cell?_of_block (a := ⟨w.heap.size, 2, none⟩) (ht3.block _ (Nat.lt_of_lt_of_le hlt1 HT2.out.size) HNy.out)).trans b2; have HR3 := Lib.hid hr3; have HT3 := Lib.hid ht3; clear hr3 ht3)))
      obtain ⟨q1, q2, q3, q4⟩ := wDev_more m n data HBd.out.pick
      have HB3 := Lib.hid (HBd.out.step HD2.out HT2.out HR3.out HT3.out q1 (by rw [q2]; exact HBd.out.pos))
      have HQ := Lib.hid (And.intro q3 q4)
      clear q1 q2 q3 q4 a1 a2 b1 b2 d1 d2
      generalize wErr m n data.length = er
      go_wp2
      go_ret
      exact ⟨by simp, _, _, _, HB3.out, HQ.out.1, HQ.out.2⟩
    · by_cases k3 : kind = 3
      · subst k3
        go_wp2_with fail
        refine (Flush_all w1 Z d m HB.out.dev HFs.out).mono ?_
        rintro e w2 ⟨rfl, hd2, ht2⟩
        have HD2 := Lib.hid hd2; have HT2 := Lib.hid ht2
        clear hd2 ht2 a0 a1 a2 a3
        go_wp2_with fail
        refine (rFlush_all w2 Y r m (HB.out.mid HT2.out) HFs.out).mono ?_
        rintro e w3 ⟨rfl, hr3, ht3⟩
        obtain ⟨q1, q2, q3, q4⟩ := fDev_more m HB.out.pick
        have HB3 := Lib.hid (HB.out.step HD2.out HT2.out hr3 ht3 q1 (by rw [q2]; exact HB.out.pos))
        have HQ := Lib.hid (And.intro q3 q4)
        clear hr3 ht3 q1 q2 q3 q4
        generalize fErr m = er
        go_wp2
        go_ret
        exact ⟨by simp, _, _, _, HB3.out, HQ.out.1, HQ.out.2⟩
      · by_cases k4 : kind = 4
        · subst k4
          go_wp2_with fail
          refine (Lose_all w1 Z d m HB.out.dev pick HP.out).mono ?_
          rintro e w2 ⟨rfl, hd2, ht2⟩
          have a3' := (World.cell?_of_block (a := ⟨w.heap.size, 3, none⟩) (ht2.block _ hlt1 HNz.out)).trans a3
          have HD2 := Lib.hid hd2; have HT2 := Lib.hid ht2
          clear hd2 ht2 a0 a1 a2 a3
          go_wp2_with fail
          refine (rLose_all w2 Y r m (HB.out.mid HT2.out) pick HP.out).mono ?_
          rintro e w3 ⟨rfl, hr3, ht3⟩
          obtain ⟨q1, q2, q3, q4⟩ := lDev_more m pick HB.out.pick
          have HB3 := Lib.hid (HB.out.step HD2.out HT2.out hr3 ht3 q1 (by rw [q2]; exact HB.out.pos))
          have HQ := Lib.hid (And.intro q3 q4)
          clear hr3 ht3 q1 q2 q3 q4 a3'
          go_wp2
          go_ret
          exact ⟨rfl, _, _, _, HB3.out, HQ.out.1, HQ.out.2⟩
        · by_cases k5 : kind = 5
          · subst k5
            go_wp2_with fail
            refine (Cut_all w1 Z d m HB.out.dev n HN.out pick).mono ?_
            rintro e w2 ⟨rfl, hd2, ht2⟩
            have a1' := (World.cell?_of_block (a := ⟨w.heap.size, 1, none⟩) (ht2.block _ hlt1 HNz.out)).trans a1
            have a3' := (World.cell?_of_block (a := ⟨w.heap.size, 3, none⟩) (ht2.block _ hlt1 HNz.out)).trans a3
            have HD2 := Lib.hid hd2; have HT2 := Lib.hid ht2
            clear hd2 ht2 a0 a1 a2 a3
            go_wp2_with fail
            refine (rCut_all w2 Y r m (HB.out.mid HT2.out) n HN.out pick).mono ?_
            rintro e w3 ⟨rfl, hr3, ht3⟩
            obtain ⟨q1, q2, q3, q4⟩ := cDev_more m n pick HP.out HB.out.pick
            have HB3 := Lib.hid (HB.out.step HD2.out HT2.out hr3 ht3 q1 (by rw [q2]; exact HB.out.pos))
            have HQ := Lib.hid (And.intro q3 q4)
            clear hr3 ht3 q1 q2 q3 q4 a1' a3'
            go_wp2
            go_ret
            exact ⟨rfl, _, _, _, HB3.out, HQ.out.1, HQ.out.2⟩
          · by_cases k6 : kind = 6
            · subst k6
              go_wp2_with fail
              refine (On_any w1 Z d m HB.out.dev (by have := HB.out.pos; omega)).mono ?_
              rintro e w2 hh2
              obtain ⟨rfl, hd2, ht2⟩ := does_of0 hh2
              have HD2 := Lib.hid hd2; have HT2 := Lib.hid ht2
              clear hd2 ht2 hh2 a0 a1 a2 a3
              go_wp2_with fail
              refine (rOn_any w2 Y r m (HB.out.mid HT2.out)).mono ?_
              rintro e w3 hh3
              obtain ⟨rfl, hr3, ht3⟩ := rdoes_of0 hh3
              have HB3 := Lib.hid (HB.out.step HD2.out HT2.out hr3 ht3 HB.out.pick HB.out.pos)
              clear hr3 ht3 hh3
              go_wp2
              go_ret
              exact ⟨rfl, _, _, _, HB3.out, by show m.ws ≤ _; omega, by show m.fs ≤ _; omega⟩
            · clear a1 a2 a3
              go_wp2
              go_ret
              exact ⟨rfl, m, Z, Y, HB.out, by omega, by omega⟩

end Go.Proofs.Ytmipjhbbbpcdlaa.sector
