/- A journal is opened. -/
import Derived.Test.YtkhghkklekjdaaaDoorRows
import Derived.Test.YtkhghkklekjdaaaDoorJournalStand
import Derived.Test.YtkhghkklekjdaaaDoorJournalApp
namespace Go.Proofs.YtkhghkklekjdaaaDoor.journal
open Go.RowKit
open Go.Proofs.YtkhghkklekjdaaaDoor.kit Go.Proofs.YtkhghkklekjdaaaDoor.own Go.Proofs.YtkhghkklekjdaaaDoor.jm Go.Proofs.YtkhghkklekjdaaaDoor.iter
open Go.Proofs.YtkhghkklekjdaaaDoor.frame (Nib)
open Go.Proofs.YtkhghkklekjdaaaDoor.sector (infoByte bv ba Dev DevAt strN Turn More Does PickOk)
set_option linter.unusedVariables false
set_option linter.unusedSimpArgs false
attribute [local go_sem] Oper.semAt_some

/-- The device and the row that an iterator holds. -/
def withRow (w : World) (p : Option Addr) (fi en : Int) : World := (w.alloc (.cells #[.pointer p] 24)).alloc (.cells #[.int .i64 fi, .int .i64 en] 56)
set_option maxHeartbeats 4000000 in
set_option maxRecDepth 100000 in
theorem pieces_any (p : Option Addr) (fi en : Int) (w : World) : Calls Tryd.prog 36 #[.pointer p, .agg #[.int .i64 fi, .int .i64 en]] w fun e w' =>
    e = .returned (iterV (w.heap.size + 1) w.heap.size) ∧ w' = withRow w p fi en := by
  have hmf : ∀ (fn : Fn) (first cap : Array Value) (w : World), (Instr.makeFunc fn first cap).run Tryd.prog w = .ok (.func fn first cap) w := fun _ _ _ _ => rfl
  go_enter Tryd.func36, Tryd.ntmps36
  go_wp2
  go_ret
  exact ⟨rfl, rfl⟩
theorem withRow_below (w : World) (p : Option Addr) (fi en : Int) : Below w.heap.size w (withRow w p fi en) := ((Below.refl _ w).alloc (Nat.le_refl _) _).alloc (by simp) _
theorem withRow_at {w : World} {Z : Nat → Prop} {d : Nat} {m : Dev} (from_ n : Nat) (h : DevAt w Z d m) (hf : from_ + n ≤ m.n) (hp : m.power = true) : RowAt (withRow w (some ⟨d, 0, none⟩) (from_ : Int) ((from_ + n : Nat) : Int)) (w.heap.size + 1) w.heap.size Z d m from_ n :=
  ⟨sector.alloc2_snd _ _ _, sector.alloc2_fst _ _ _, h.keep (withRow_below _ _ _ _), hf, hp⟩

theorem OwnT.lower {w : World} {B B' : Nat} {v : Value} {ss : List ByteArray} (h : OwnT w B v ss) (hB : B' ≤ B) : OwnT w B' v ss := by
  unfold OwnT World.ownsRow at h ⊢
  refine ⟨h.1, ?_⟩
  rcases h.2 with h2 | ⟨g, cap, cur, h3, h4, h5⟩
  · exact .inl h2
  · exact .inr ⟨g, cap, cur, h3, by omega, h5⟩

set_option maxHeartbeats 8000000 in
set_option maxRecDepth 100000 in
theorem Open_ok (w : World) (Z : Nat → Prop) (d : Nat) (m : Dev) (from_ n first : Nat) (hd : DevAt w Z d m) (hf : from_ + n ≤ m.n) (hn : 1 ≤ n) (h1 : 1 ≤ first ∧ first ≤ maxNum) (hp : m.power = true) (hN : Nib w) :
    Calls Tryd.prog 11 #[.pointer (some ⟨d, 0, none⟩), .int .i64 (from_ : Int), .int .i64 (n : Int), .int .i64 (first : Int)] w fun e w' =>
      ∃ J v, e = .returned (.tuple #[.pointer (some ⟨J, 0, none⟩), v, .int .i64 0]) ∧ JAt w' J ⟨d, from_, from_ + n, from_ + (standF first (pcsOf m from_ n)).2, max (gmax (pcsOf m from_ n) + 1) first, false⟩ ∧ w.heap.size ≤ J ∧
        OwnT w' w.heap.size v ((standF first (pcsOf m from_ n)).1.map strN) ∧ Below w.heap.size w w' := by
  have HSc := Lib.hid (sector.Sectors_any w Z d m hd)
  have HDd := Lib.hid (sector.Dead_any w Z d m hd)
  have hmn := hd.1.n
  have HD := Lib.hid hd
  rw [hp] at HDd
  have HNb := Lib.hid hN; have HF := Lib.hid hf; have HP := Lib.hid hp; have H1 := Lib.hid h1
  have c1 : ¬ (from_ : Int) < 0 := by omega
  have c2 : ¬ (n : Int) < 1 := by omega
  have e1 : True → wrap64 ((m.n : Int) - (n : Int)) = ((m.n - n : Nat) : Int) := fun _ => by unfold wrap64; omega
  have c3 : ¬ ((m.n - n : Nat) : Int) < (from_ : Int) := by omega
  have c4 : ¬ (first : Int) < 1 := by omega
  have c5 : ¬ (4611686018427387904 : Int) < (first : Int) := by unfold maxNum at h1; omega
  have e2 : True → wrap64 ((from_ : Int) + (n : Int)) = ((from_ + n : Nat) : Int) := fun _ => by unfold wrap64; omega
  have hag : (Tryd.prog.info? 56).map (fun i => (i.zero, i.size)) = (Tryd.prog.info? 56).map (fun i => (i.zero, i.size)) := rfl
  generalize hfi : (from_ : Int) = fi at c1 c3 e2 ⊢
  generalize hni : (n : Int) = ni at c2 e1 e2 ⊢
  generalize hri : (first : Int) = ri at c4 c5 ⊢
  obtain ⟨en, hen⟩ : ∃ en : Int, ((from_ + n : Nat) : Int) = en := ⟨_, rfl⟩
  rw [hen] at e2
  have HEn := Lib.hid hen
  clear hen
  generalize hmi : (m.n : Int) = mi at e1 HSc
  generalize ((m.n - n : Nat) : Int) = qi at e1 c3
  have HFi := Lib.hid hfi; have HNi := Lib.hid hni; have HRi := Lib.hid hri
  clear hd hf hn h1 hp hN hmn hfi hni hri hmi hag
  go_enter Tryd.func11, Tryd.ntmps11
  go_wp2_with fail
  refine HSc.out.mono ?_
  rintro e w' ⟨rfl, rfl⟩
  go_wp2_with fail
  refine HDd.out.mono ?_
  rintro e w' ⟨rfl, rfl⟩
  go_wp2_with fail
  obtain ⟨N, hNs⟩ : ∃ N, w.heap.size = N := ⟨_, rfl⟩
  have hB1 : Below w.heap.size w (w.alloc (.cells #[.int .i64 fi, .int .i64 en] 56)) := (Below.refl _ w).alloc (Nat.le_refl _) _
  have hr1 := alloc_at w (.cells #[.int .i64 fi, .int .i64 en] 56)
  have hs1 : (w.alloc (.cells #[.int .i64 fi, .int .i64 en] 56)).heap.size = w.heap.size + 1 := by simp
  generalize (w.alloc (.cells #[.int .i64 fi, .int .i64 en] 56)) = W1 at hB1 hr1 hs1 ⊢
  rw [hNs] at hB1 hr1 hs1 ⊢
  have HNs := Lib.hid hNs
  have HB1 := Lib.hid hB1; have HR1 := Lib.hid hr1; have HS1 := Lib.hid hs1
  clear hNs hB1 hr1 hs1
  refine (pieces_any _ fi en W1).mono ?_
  rintro e w' ⟨rfl, rfl⟩
  have hrow := withRow_at from_ n (HD.out.keep (by rw [HNs.out]; exact HB1.out)) HF.out HP.out
  rw [HFi.out, HEn.out] at hrow
  have HRow := Lib.hid hrow
  have HB2 := Lib.hid (withRow_below W1 (some ⟨d, 0, none⟩) fi en)
  have hst := stand_any _ _ _ Z d m from_ n first hrow H1.out ((HNb.out.keep (by rw [HNs.out]; exact HB1.out)).keep HB2.out)
  rw [HRi.out] at hst
  have HSt := Lib.hid hst
  clear hst hrow
  go_wp2_with fail
  refine HSt.out.mono ?_
  rintro e w3 ⟨⟨v, rfl, how⟩, hB3⟩
  have hB13 : Below N w w3 := HB1.out.trans ((HB2.out.trans (hB3.mono HB2.out.size)).mono (by rw [HS1.out]; omega))
  have hr3 : w3.heap[N]? = some (.cells #[.int .i64 fi, .int .i64 en] 56 (0, 0)) := (hB3.block N (by have := HB2.out.size; have := HS1.out; omega)).trans ((HB2.out.block N (by rw [HS1.out]; omega)).trans HR1.out)
  have HB13 := Lib.hid hB13; have HR3 := Lib.hid hr3
  have hs3 : N + 1 ≤ w3.heap.size := by have := hB3.size; have := HB2.out.size; have := HS1.out; omega
  have HS3 := Lib.hid hs3
  have HOw := Lib.hid (show OwnT w3 w.heap.size v ((standF first (pcsOf m from_ n)).1.map strN) from how.lower (by have := HB2.out.size; have := HS1.out; have := HNs.out; omega))
  have c31 : w3.cell? ⟨N, 0, none⟩ = some (.int .i64 fi) := by simp [World.cell?, hr3]
  have c32 : w3.cell? ⟨N, 1, none⟩ = some (.int .i64 en) := by simp [World.cell?, hr3]
  obtain ⟨tk, htk⟩ : ∃ tk, (standF first (pcsOf m from_ n)).2 = tk := ⟨_, rfl⟩
  have htl : tk ≤ n := by
    have := (stands_of first (pcsOf m from_ n) (pcsOf_ok HD.out.1 from_ n HF.out)).len
    rw [pcsOf_len, htk] at this
    exact this
  have e5 : True → wrap64 (fi + (tk : Int)) = ((from_ + tk : Nat) : Int) := fun _ => by have := HFi.out; have := HF.out; have := HD.out.1.n; unfold wrap64; omega
  rw [htk]
  have HTk := Lib.hid htk
  clear htl
  obtain ⟨a5, ha5⟩ : ∃ a5 : Int, ((from_ + tk : Nat) : Int) = a5 := ⟨_, rfl⟩
  rw [ha5] at e5
  have HA5 := Lib.hid ha5
  clear ha5
  clear how hB3 hB13 hr3 hs3 htk
  go_wp2_with fail
  clear c31 c32
  refine (pieces_any _ fi en w3).mono ?_
  rintro e w' ⟨rfl, rfl⟩
  have hrow := withRow_at from_ n (HD.out.keep (by rw [HNs.out]; exact HB13.out)) HF.out HP.out
  rw [HFi.out, HEn.out] at hrow
  have HB4 := Lib.hid (withRow_below w3 (some ⟨d, 0, none⟩) fi en)
  have hgr := greatest_any _ _ _ Z d m from_ n hrow
  obtain ⟨g, hg⟩ : ∃ g, gmax (pcsOf m from_ n) = g := ⟨_, rfl⟩
  rw [hg] at hgr
  have hgl : g ≤ maxNum := by rw [← hg]; exact gmax_le _ (fun p hp => Pc.Ok.num (pcsOf_ok HD.out.1 from_ n HF.out p hp))
  have e4 : True → wrap64 ((g : Int) + 1) = ((g + 1 : Nat) : Int) := fun _ => by unfold wrap64; unfold maxNum at hgl; omega
  have HGr := Lib.hid hgr; have HG := Lib.hid hg
  clear hgr hrow hg hgl
  go_wp2_with fail
  refine HGr.out.mono ?_
  rintro e w5 ⟨rfl, hB5⟩
  have hB35 : Below w3.heap.size w3 w5 := HB4.out.trans (hB5.mono HB4.out.size)
  have hr5 : w5.heap[N]? = some (.cells #[.int .i64 fi, .int .i64 en] 56 (0, 0)) := (hB35.block N (by have := HS3.out; omega)).trans HR3.out
  have HB35 := Lib.hid hB35
  have c31 : w5.cell? ⟨N, 0, none⟩ = some (.int .i64 fi) := by simp [World.cell?, hr5]
  have c32 : w5.cell? ⟨N, 1, none⟩ = some (.int .i64 en) := by simp [World.cell?, hr5]
  clear hB5 hB35 hr5
  obtain ⟨g1, hg1⟩ : ∃ g1 : Int, ((g + 1 : Nat) : Int) = g1 := ⟨_, rfl⟩
  rw [hg1] at e4
  have HG1 := Lib.hid hg1
  clear hg1
  have HFin : Hid (∀ nx : Int, nx = ((max (g + 1) first : Nat) : Int) → JAt (w5.alloc (.cells #[.pointer (some ⟨d, 0, none⟩), .int .i64 fi, .int .i64 en, .int .i64 a5, .int .i64 nx, .bool false] 58)) w5.heap.size ⟨d, from_, from_ + n, from_ + tk, max (g + 1) first, false⟩) := Lib.hid fun nx hx => by
    unfold JAt JBox
    rw [alloc_at, hx, ← HA5.out, ← HEn.out, ← HFi.out]
  have HBl : Hid (∀ o, Below N w (w5.alloc o)) := Lib.hid fun o => (HB13.out.trans (HB35.out.mono (by have := HS3.out; omega))).alloc (by have := HB35.out.size; have := HS3.out; omega) o
  have HOw5 : Hid (∀ o, OwnT (w5.alloc o) w.heap.size v ((standF first (pcsOf m from_ n)).1.map strN)) := Lib.hid fun o => HOw.out.below (HB35.out.trans ((Below.refl _ w5).alloc (Nat.le_refl _) o |>.mono HB35.out.size))
  have HNl : Hid (N ≤ w5.heap.size) := Lib.hid (by have := HB35.out.size; have := HS3.out; omega)
  generalize (g : Int) = gi at e4
  go_wp2_with fail
  · rename_i hmx
    refine bodyPost_ret (results_tmp3 rfl _ _ _) rfl ?_
    refine ⟨w5.heap.size, v, rfl, (by rw [HTk.out, HG.out]; exact HFin.out ri (by have := HG1.out; have := HRi.out; omega)), by have := HNl.out; have := HNs.out; omega, HOw5.out _, ?_⟩
    rw [HNs.out]
    exact HBl.out _
  · rename_i hmx
    refine bodyPost_ret (results_tmp3 rfl _ _ _) rfl ?_
    refine ⟨w5.heap.size, v, rfl, (by rw [HTk.out, HG.out]; exact HFin.out g1 (by have := HG1.out; have := HRi.out; omega)), by have := HNl.out; have := HNs.out; omega, HOw5.out _, ?_⟩
    rw [HNs.out]
    exact HBl.out _

end Go.Proofs.YtkhghkklekjdaaaDoor.journal
