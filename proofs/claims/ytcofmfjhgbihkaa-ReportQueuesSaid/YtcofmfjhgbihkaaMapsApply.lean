/- The map behind a change: next, Apply, First. -/
import Derived.Test.YtcofmfjhgbihkaaRows
import Derived.Test.YtcofmfjhgbihkaaMapsChg
import Derived.Test.YtcofmfjhgbihkaaMapsRep
namespace Go.Proofs.Ytcofmfjhgbihkaa.crush
open Go.RowKit
open Go.Proofs.Ytcofmfjhgbihkaa.kit Go.Proofs.Ytcofmfjhgbihkaa.own
set_option linter.unusedVariables false
set_option linter.unusedSimpArgs false

def MapV.tick (m : MapV) : MapV := ⟨m.epoch + 1, m.hosts, m.osds, m.pools, m.bans⟩
theorem SheetG.tick {w : World} {B : Nat → Prop} {S g cap : Nat} {m : MapV} (h : SheetG w B S g cap m) : SheetG (w.setCell ⟨S, 0, none⟩ (.int .i64 (m.epoch + 1))) B S g cap m.tick := by
  obtain ⟨h0, hg, vh, vp, vb, h1, h2, h3, h4, h5⟩ := h
  obtain ⟨cur, hc, -⟩ := h3.ex
  have hne : g ≠ S := fun e => by subst e; unfold MBox at h1; rw [h1] at hc; cases hc
  have hS : w.heap[S]? = some (.cells #[.int .i64 m.epoch, vh, .slice (some ⟨g, 0, none⟩) m.osds.length cap, vp, vb] 185 (0, 0)) := h1
  refine ⟨h0, hg, vh, vp, vb, ?_, h2.far hS (by decide) _ _, h3.block (heap_setCell_other _ _ _ _ hne), h4.far hS (by decide) _ _, h5.far hS (by decide) _ _⟩
  have := heap_setCell_same w S 0 _ _ (.int .i64 (m.epoch + 1)) hS
  exact this
/-- What 'change' comes to. -/
def ChS (B : Nat → Prop) (S g cap : Nat) (m : MapV) (w : World) (e : Ending) (w' : World) : Prop := ∃ b, e = .returned (.bool b) ∧ SheetG w' B S g cap m ∧ Far B w w'
def NextS (B : Nat → Prop) (S g cap : Nat) (m : MapV) (w : World) (e : Ending) (w' : World) : Prop := (∃ v, e = .returned v) ∧ SheetG w' B S g cap m ∧ Far B w w'

theorem Own.setCells_far {α : Type} {enc : α → List Value} {k e B : Nat} {W : World} {v : Value} {xs : List α} (h : Own enc k e W B v xs) {N : Nat} (hN : N < B) (o : Nat) (vs : List Value) : Own enc k e (W.setCells N o vs) B v xs := by
  induction vs generalizing W o with
  | nil => exact h
  | cons u r ih => exact ih (h.setOther (fun e => by have := (h.blk _ e).1; omega) o u) (o + 1)
/-- A map is handed back, in rows of the call's own. -/
def AppS (w : World) (m : MapV) (e : Ending) (w' : World) : Prop := ∃ vh vo vp vb, e = .returned (.agg #[.int .i64 m.epoch, vh, vo, vp, vb]) ∧ MapO w' w.heap.size vh vo vp vb m ∧ Below w.heap.size w w'
theorem MapO.read {w : World} {B : Nat} {vh vo vp vb : Value} {m : MapV} (h : MapO w B vh vo vp vb m) : MapR w (.agg #[.int .i64 m.epoch, vh, vo, vp, vb]) m := ⟨_, _, _, _, rfl, h.1.read ic_len, h.2.1.read oc_len, h.2.2.1.read pc_len, h.2.2.2.read bc_len⟩
theorem MapO.below {w w' : World} {B : Nat} {vh vo vp vb : Value} {m : MapV} (h : MapO w B vh vo vp vb m) (hb : Below w.heap.size w w') : MapO w' B vh vo vp vb m := ⟨h.1.below hb, h.2.1.below hb, h.2.2.1.below hb, h.2.2.2.below hb⟩
theorem MapO.mono {w : World} {B B' : Nat} {vh vo vp vb : Value} {m : MapV} (h : MapO w B vh vo vp vb m) (hB : B' ≤ B) : MapO w B' vh vo vp vb m := ⟨h.1.mono hB, h.2.1.mono hB, h.2.2.1.mono hB, h.2.2.2.mono hB⟩
theorem MapO.far {w : World} {B : Nat} {vh vo vp vb : Value} {m : MapV} (h : MapO w B vh vo vp vb m) {N : Nat} (hN : N < B) (o : Nat) (vs : List Value) : MapO (w.setCells N o vs) B vh vo vp vb m := ⟨h.1.setCells_far hN o vs, h.2.1.setCells_far hN o vs, h.2.2.1.setCells_far hN o vs, h.2.2.2.setCells_far hN o vs⟩
theorem map_one (ep : Int) (a1 a2 a3 a4 : Option Addr) (n1 n2 n3 n4 c1 c2 c3 c4 : Nat) : (#[Value.int .i64 ep, .slice a1 n1 c1, .slice a2 n2 c2, .slice a3 n3 c3, .slice a4 n4 c4] : Array Value).all (·.oneCell') = true := by simp [Value.oneCell']

end Go.Proofs.Ytcofmfjhgbihkaa.crush
