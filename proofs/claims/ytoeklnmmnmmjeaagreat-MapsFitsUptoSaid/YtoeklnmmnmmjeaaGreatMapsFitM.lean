/- Fit, by the program; the box of a map. -/
import Derived.Test.YtoeklnmmnmmjeaaGreatRows
import Derived.Test.YtoeklnmmnmmjeaaGreatMapsFit
namespace Go.Proofs.YtoeklnmmnmmjeaaGreat.crush
open Go.RowKit
open Go.Proofs.YtoeklnmmnmmjeaaGreat.kit Go.Proofs.YtoeklnmmnmmjeaaGreat.own
set_option linter.unusedVariables false

def ltBan (a b : BanV) : Bool := decide (a.client < b.client) || (decide (a.client = b.client) && decide (a.inst < b.inst))
/-- The first k are fit, and rise. -/
def okBansF (l : List BanV) : Nat → Bool
  | 0 => true
  | k + 1 => okBansF l k && (okBan (l.getD k ⟨0, 0⟩).client (l.getD k ⟨0, 0⟩).inst && (decide (k = 0) || ltBan (l.getD (k - 1) ⟨0, 0⟩) (l.getD k ⟨0, 0⟩)))
def okBans (l : List BanV) : Bool := okBansF l l.length && decide (l.length ≤ 64)
def okMap (m : MapV) : Bool := inR m.epoch 0 4096 && (okHosts m.hosts && (okOsds m.epoch m.hosts m.osds && (okPools m.pools && okBans m.bans)))

/-- The box of a map. -/
def MBox (W : World) (N : Nat) (t : TypeId) (ep : Int) (vh vo vp vb : Value) : Prop := W.heap[N]? = some (.cells #[.int .i64 ep, vh, vo, vp, vb] t (0, 0))
theorem MBox.keep {W W' : World} {N : Nat} {t : TypeId} {ep : Int} {vh vo vp vb : Value} (h : MBox W N t ep vh vo vp vb) (hb : Below W.heap.size W W') : MBox W' N t ep vh vo vp vb := (hb.block N (Array.getElem?_eq_some_iff.1 h).1).trans h
theorem MBox.lt {W : World} {N : Nat} {t : TypeId} {ep : Int} {vh vo vp vb : Value} (h : MBox W N t ep vh vo vp vb) : N < W.heap.size := (Array.getElem?_eq_some_iff.1 h).1
theorem MBox.cells {W : World} {N : Nat} {t : TypeId} {ep : Int} {vh vo vp vb : Value} (h : MBox W N t ep vh vo vp vb) : W.cell? ⟨N, 0, none⟩ = some (.int .i64 ep) ∧ W.cell? ⟨N, 1, none⟩ = some vh ∧ W.cell? ⟨N, 2, none⟩ = some vo ∧ W.cell? ⟨N, 3, none⟩ = some vp ∧ W.cell? ⟨N, 4, none⟩ = some vb := by
  unfold MBox at h
  refine ⟨?_, ?_, ?_, ?_, ?_⟩ <;> simp [World.cell?, h]
theorem MBox.thaw {W : World} {N : Nat} {t : TypeId} {ep : Int} {vh vo vp vb : Value} (h : MBox W N t ep vh vo vp vb) (j : Nat) : W.frozen? ⟨N, j, none⟩ = false := by
  unfold MBox at h
  simp [World.frozen?, h]
theorem mbox_new (w : World) (t : TypeId) (ep : Int) (vh vo vp vb : Value) : MBox (w.alloc (.cells #[.int .i64 ep, vh, vo, vp, vb] t)) w.heap.size t ep vh vo vp vb := alloc_at w _
theorem MBox.there {W : World} {N : Nat} {t : TypeId} {ep : Int} {vh vo vp vb : Value} (h : MBox W N t ep vh vo vp vb) : W.there N 0 5 := by
  unfold MBox at h
  intro j hj
  match j, hj with
  | 0, _ => simp [World.cell?, World.frozen?, h]
  | 1, _ => simp [World.cell?, World.frozen?, h]
  | 2, _ => simp [World.cell?, World.frozen?, h]
  | 3, _ => simp [World.cell?, World.frozen?, h]
  | 4, _ => simp [World.cell?, World.frozen?, h]
theorem MBox.put {W : World} {N : Nat} {t : TypeId} {ep : Int} {vh vo vp vb : Value} (h : MBox W N t ep vh vo vp vb) (ep' : Int) (vh' vo' vp' vb' : Value) : MBox (W.setCells N 0 [.int .i64 ep', vh', vo', vp', vb']) N t ep' vh' vo' vp' vb' := heap_setCells N t [.int .i64 ep', vh', vo', vp', vb'] 0 W _ h
theorem MBox.range {W : World} {N : Nat} {t : TypeId} {ep : Int} {vh vo vp vb : Value} (h : MBox W N t ep vh vo vp vb) : W.rangeAt N 0 [.int .i64 ep, vh, vo, vp, vb] := cells_range (l := [.int .i64 ep, vh, vo, vp, vb]) h
theorem sizeMap : (Tryz.prog.info? 27).map (·.size) = some 5 := by kernel_rfl

set_option maxHeartbeats 16000000 in
set_option maxRecDepth 100000 in
theorem Fit_any (v : Value) (m : MapV) (w : World) (h : MapR w v m) (HBn : ∀ vb u, Sl bc 2 u vb m.bans → Calls Tryz.prog 62 #[vb] u fun e w' => e = .returned (.bool (okBans m.bans)) ∧ Below u.heap.size u w') :
    Calls Tryz.prog 14 #[v] w fun e w' => e = .returned (.bool (okMap m)) ∧ Below w.heap.size w w' := by
  have HO1 := Lib.hid (fun u hu => fitOsds_any v m u (h.keep hu))
  obtain ⟨vh, vo, vp, vb, rfl, h1, h2, h3, h4⟩ := h
  have HH1 := Lib.hid (fun u hu => fitHosts_any vh m.hosts u (h1.keep hu))
  have HP1 := Lib.hid (fun u hu => fitPools_any vp m.pools u (h3.keep hu))
  have HB1 := Lib.hid (fun u (hu : Below w.heap.size w u) => HBn vb u (h4.keep hu))
  obtain ⟨ah, ch, rfl⟩ := h1.slice
  obtain ⟨ao, co, rfl⟩ := h2.slice
  obtain ⟨ap, cp, rfl⟩ := h3.slice
  obtain ⟨ab, cb, rfl⟩ := h4.slice
  unfold okMap
  obtain ⟨b1, q1⟩ : ∃ q, inR m.epoch 0 4096 = q := ⟨_, rfl⟩
  obtain ⟨b2, q2⟩ : ∃ q, okHosts m.hosts = q := ⟨_, rfl⟩
  obtain ⟨b3, q3⟩ : ∃ q, okOsds m.epoch m.hosts m.osds = q := ⟨_, rfl⟩
  obtain ⟨b4, q4⟩ : ∃ q, okPools m.pools = q := ⟨_, rfl⟩
  obtain ⟨b5, q5⟩ : ∃ q, okBans m.bans = q := ⟨_, rfl⟩
  have HW1 := Lib.hid (fun u => within64_any m.epoch 0 4096 u)
  rw [q1] at HW1; rw [q2] at HH1; rw [q3] at HO1; rw [q4] at HP1; rw [q5] at HB1
  rw [q1, q2, q3, q4, q5]
  clear HBn h1 h2 h3 h4 q1 q2 q3 q4 q5
  generalize m.hosts.length = Lh at HH1 HO1 HP1 HB1 ⊢
  generalize m.osds.length = Lo at HH1 HO1 HP1 HB1 ⊢
  generalize m.pools.length = Lp at HH1 HO1 HP1 HB1 ⊢
  generalize m.bans.length = Lb at HH1 HO1 HP1 HB1 ⊢
  generalize m.epoch = ep at HW1 HO1 ⊢
  have HB := Lib.hid (below_new w (.cells #[.int .i64 ep, .slice ah Lh ch, .slice ao Lo co, .slice ap Lp cp, .slice ab Lb cb] 27))
  have HX := Lib.hid (mbox_new w 27 ep (.slice ah Lh ch) (.slice ao Lo co) (.slice ap Lp cp) (.slice ab Lb cb))
  go_enter Tryz.func14, Tryz.ntmps14
  have hcs : b1 = false ∨ (b1 = true ∧ b2 = false) ∨ (b1 = true ∧ b2 = true ∧ b3 = false) ∨ (b1 = true ∧ b2 = true ∧ b3 = true ∧ b4 = false) ∨ (b1 = true ∧ b2 = true ∧ b3 = true ∧ b4 = true) := by cases b1 <;> cases b2 <;> cases b3 <;> cases b4 <;> simp
  rcases hcs with rfl | ⟨rfl, rfl⟩ | ⟨rfl, rfl, rfl⟩ | ⟨rfl, rfl, rfl, rfl⟩ | ⟨rfl, rfl, rfl, rfl⟩
  all_goals
    go_wp2_with (first
      | (go_at_call 58; refine (HW1.out _).mono ?_; rintro e w5 ⟨rfl, rfl⟩)
      | (go_at_call 59; refine (HH1.out _ HB.out).mono ?_; rintro e w6 ⟨rfl, hb⟩; have HB6 := Lib.hid (HB.out.trans (hb.mono HB.out.size)); have HX6 := Lib.hid (HX.out.keep hb); obtain ⟨c0, c1, c2, c3, c4⟩ := HX6.out.cells; clear hb)
      | (go_at_call 60; refine (HO1.out _ HB6.out).mono ?_; rintro e w7 ⟨rfl, hb⟩; have HB7 := Lib.hid (HB6.out.trans (hb.mono HB6.out.size)); have HX7 := Lib.hid (HX6.out.keep hb); clear c0 c1 c2 c3 c4; obtain ⟨c0, c1, c2, c3, c4⟩ := HX7.out.cells; clear hb)
      | (go_at_call 61; refine (HP1.out _ HB7.out).mono ?_; rintro e w8 ⟨rfl, hb⟩; have HB8 := Lib.hid (HB7.out.trans (hb.mono HB7.out.size)); have HX8 := Lib.hid (HX7.out.keep hb); clear c0 c1 c2 c3 c4; obtain ⟨c0, c1, c2, c3, c4⟩ := HX8.out.cells; clear hb)
      | (go_at_call 62; refine (HB1.out _ HB8.out).mono ?_; rintro e w9 ⟨rfl, hb⟩; have HB9 := Lib.hid (HB8.out.trans (hb.mono HB8.out.size)); clear hb))
    go_ret
    first | exact ⟨rfl, HB9.out⟩ | exact ⟨rfl, HB8.out⟩ | exact ⟨rfl, HB7.out⟩ | exact ⟨rfl, HB6.out⟩ | exact ⟨rfl, HB.out⟩

set_option maxHeartbeats 4000000 in
theorem fitBans_nil (v : Value) (w : World) (h : Sl bc 2 w v []) : Calls Tryz.prog 62 #[v] w fun e w' => e = .returned (.bool (okBans [])) ∧ Below w.heap.size w w' := by
  obtain ⟨a, c, rfl⟩ := h.slice
  have e : okBans [] = true := rfl
  rw [e, List.length_nil]
  clear e h
  go_enter Tryz.func62, Tryz.ntmps62
  go_wp2
  go_loopw [7] (fun vi wr => vi = .int .i64 0 ∧ wr = w) (fun _ _ => 0)
  case atStart => exact ⟨rfl, rfl⟩
  case round =>
    obtain ⟨rfl, rfl⟩ := hrel
    go_wp2
    go_ret
    exact ⟨rfl, Below.refl _ _⟩
end Go.Proofs.YtoeklnmmnmmjeaaGreat.crush
