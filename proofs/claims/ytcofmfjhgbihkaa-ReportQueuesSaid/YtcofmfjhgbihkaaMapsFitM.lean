/- Fit, by the program; the box of a map. -/
import Derived.Test.YtcofmfjhgbihkaaRows
import Derived.Test.YtcofmfjhgbihkaaMapsFit
namespace Go.Proofs.Ytcofmfjhgbihkaa.crush
open Go.RowKit
open Go.Proofs.Ytcofmfjhgbihkaa.kit Go.Proofs.Ytcofmfjhgbihkaa.own
set_option linter.unusedVariables false
set_option linter.unusedSimpArgs false

def ltBan (a b : BanV) : Bool := decide (a.client < b.client) || (decide (a.client = b.client) && decide (a.inst < b.inst))
/-- The first k are fit, and rise. -/
def okBansF (l : List BanV) : Nat → Bool
  | 0 => true
  | k + 1 => okBansF l k && (okBan (l.getD k ⟨0, 0⟩).client (l.getD k ⟨0, 0⟩).inst && (decide (k = 0) || ltBan (l.getD (k - 1) ⟨0, 0⟩) (l.getD k ⟨0, 0⟩)))
def okBans (l : List BanV) : Bool := okBansF l l.length && decide (l.length ≤ 64)
def okMap (m : MapV) : Bool := inR m.epoch 0 4096 && (okHosts m.hosts && (okOsds m.epoch m.hosts m.osds && (okPools m.pools && okBans m.bans)))

/-- The box of a map. -/
def MBox (W : World) (N : Nat) (t : TypeId) (ep : Int) (vh vo vp vb : Value) : Prop := W.heap[N]? = some (.cells #[.int .i64 ep, vh, vo, vp, vb] t (0, 0))
theorem MBox.keep {W W' : World} {N : Nat} {t : TypeId} {ep : Int} {vh vo vp vb : Value} (h : MBox W N t ep vh vo vp vb) (hb : Below W.heap.size W W') : MBox W' N t ep vh vo vp vb := (hb.block N (Array.getElem?_eq_some_iff.1 h).1).trans h
theorem MBox.lt {W : World} {N : Nat} {t : TypeId} {ep : Int} {vh vo vp vb : Value} (h : MBox W N t ep vh vo vp vb) : N < W.heap.size := (Array.getElem?_eq_some_iff.1 h).1
theorem MBox.cells {W : World} {N : Nat} {t : TypeId} {ep : Int} {vh vo vp vb : Value} (h : MBox W N t ep vh vo vp vb) : W.cell? ⟨N, 0, none⟩ = some (.int .i64 ep) ∧ W.cell? ⟨N, 1, none⟩ = some vh ∧ W.cell? ⟨N, 2, none⟩ = some vo ∧ W.cell? ⟨N, 3, none⟩ = some vp ∧ W.cell? ⟨N, 4, none⟩ = some vb := by
  unfold MBox at h
  refine ⟨?_, ?_, ?_, ?_, ?_⟩ <;> simp [World.cell?, h]
theorem MBox.thaw {W : World} {N : Nat} {t : TypeId} {ep : Int} {vh vo vp vb : Value} (h : MBox W N t ep vh vo vp vb) (j : Nat) : W.frozen? ⟨N, j, none⟩ = false := by
  unfold MBox at h
  simp [World.frozen?, h]
theorem mbox_new (w : World) (t : TypeId) (ep : Int) (vh vo vp vb : Value) : MBox (w.alloc (.cells #[.int .i64 ep, vh, vo, vp, vb] t)) w.heap.size t ep vh vo vp vb := alloc_at w _
theorem MBox.there {W : World} {N : Nat} {t : TypeId} {ep : Int} {vh vo vp vb : Value} (h : MBox W N t ep vh vo vp vb) : W.there N 0 5 := by
  unfold MBox at h
  intro j hj
  match j, hj with
  | 0, _ => simp [World.cell?, World.frozen?, h]
  | 1, _ => simp [World.cell?, World.frozen?, h]
  | 2, _ => simp [World.cell?, World.frozen?, h]
  | 3, _ => simp [World.cell?, World.frozen?, h]
  | 4, _ => simp [World.cell?, World.frozen?, h]
theorem MBox.put {W : World} {N : Nat} {t : TypeId} {ep : Int} {vh vo vp vb : Value} (h : MBox W N t ep vh vo vp vb) (ep' : Int) (vh' vo' vp' vb' : Value) : MBox (W.setCells N 0 [.int .i64 ep', vh', vo', vp', vb']) N t ep' vh' vo' vp' vb' := heap_setCells N t [.int .i64 ep', vh', vo', vp', vb'] 0 W _ h
theorem MBox.range {W : World} {N : Nat} {t : TypeId} {ep : Int} {vh vo vp vb : Value} (h : MBox W N t ep vh vo vp vb) : W.rangeAt N 0 [.int .i64 ep, vh, vo, vp, vb] := cells_range (l := [.int .i64 ep, vh, vo, vp, vb]) h
theorem sizeMap : (Try.prog.info? 83).map (·.size) = some 5 := by kernel_rfl

end Go.Proofs.Ytcofmfjhgbihkaa.crush
