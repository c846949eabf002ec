/- Chapter 5's first example: the law's own 'awake', which is true. -/
import Derived.Test.YtkhghkklekjdaaaDoorRows
import Derived.Test.YtkhghkklekjdaaaDoorSectorNew
import Derived.Lib.SlBytesConst
namespace Go.Proofs.YtkhghkklekjdaaaDoor.sector
open Go.RowKit
open Go.Proofs.YtkhghkklekjdaaaDoor.kit Go.Proofs.YtkhghkklekjdaaaDoor.own
set_option linter.unusedVariables false

theorem New_lit (w : World) (z : Int) (n : Nat) (hz : z = (n : Int)) (h1 : 1 ≤ n) (hn : n ≤ 4096) : Calls Tryd.prog 30 #[.int .i64 z] w (NewAt w n) := by
  subst hz; exact New_ok w n h1 hn
/-- A filled slice is written. -/
theorem write_filled (W W2 : World) (Z : Nat → Prop) (d : Nat) (m : Dev) (hd : DevAt W Z d m) (hp : m.power = true) (hc : ∀ p, m.cut ≠ some (0, p)) (k : Nat) (z : Int) (hz : z = (k : Int)) (hk : k < m.n) (hws : m.ws + 1 < 4611686018427387904)
    (ns : List Nat) (h8 : ∀ n ∈ ns, n < 256) (g : Nat) (hg : W2.heap[g]? = some (.cells (ba (fill64 ns)) 60 (0, 0))) (hW : W.heap.size ≤ g) (hb : Below W.heap.size W W2) :
    Calls Tryd.prog 57 #[.pointer (some ⟨d, 0, none⟩), .int .i64 z, .slice (some ⟨g, 0, none⟩) 64 64] W2 (Does W2 Z d (wrote m k (fill64 ns)) (.returned (.int .i64 0))) := by
  subst hz
  have h := sl_of_range (cap := 64) (range_of_block (cs := bv (fill64 ns)) hg) (by rw [fill64_len]; omega)
  rw [fill64_len] at h
  refine Write_ok W2 Z d m (hd.keep hb) hp k hk _ 64 (fill64 ns) (fill64_len ns) (fill64_lt h8) hc hws h ?_
  intro b off e hZ
  cases e
  have := hd.lt _ hZ
  omega
theorem more_ge {Z : Nat → Prop} {B : Nat} {w w' : World} (h : ∀ k, Z k → B ≤ k) (hB : B ≤ w.heap.size) : ∀ k, More Z w w' k → B ≤ k := fun k hk => hk.elim (h k) (fun hh => Nat.le_trans hB hh.1)

def awk1 : Dev := wrote (fresh 4) 2 (fill64 [97])
def awk2 : Dev := wrote awk1 0 (fill64 [98])
def awk3 : Dev := wrote awk2 2 (fill64 [99])
theorem awk_keys : keys awk3.cache = [2, 0] := by decide +kernel
theorem awk_look : (look awk3 2).getD 0 0 = 99 := by decide +kernel
theorem awk_len : (lost awk3 1).laid.length = 256 := by decide +kernel
theorem awk_c : (lost awk3 1).laid.getD 128 0 = 99 := by decide +kernel
theorem awk_z : (lost awk3 1).laid.getD 0 0 = 0 := by decide +kernel
theorem look_len {m : Dev} (h : m.Ok) {k : Nat} (hk : k < m.n) : (look m k).length = 64 := by
  unfold look
  split
  · rename_i hj
    exact (h.cache _ (nth_mem hj)).2.1
  · exact sectorOf_len h.laid hk

/-- A slice of the call's own with something in it: where it lies, and its cells. -/
theorem own_cells {w : World} {B e : Nat} {k : IntKind} {v : Value} {ns : List Nat} (h : OwnI w B e k v ns) (n : Nat) (hn : ns.length = n) (h0 : 0 < n) : ∃ g cap, v = .slice (some ⟨g, 0, none⟩) n cap ∧ B ≤ g ∧ ∀ j, j < n → w.cell? ⟨g, j, none⟩ = some (.int k (ns.getD j 0 : Nat)) := by
  subst hn
  obtain ⟨g, cap, rfl⟩ := own_form h ns.length rfl h0
  refine ⟨g, cap, rfl, (h.lt g rfl).1, fun j hj => ?_⟩
  have := SlI.cell h.read j hj
  rw [Nat.zero_add] at this
  exact this

end Go.Proofs.YtkhghkklekjdaaaDoor.sector
