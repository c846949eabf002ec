/- Which maps are ones, by the program. -/
import Derived.Test.YtcofmfjhgbihkaaRows
import Derived.Test.YtcofmfjhgbihkaaMapsIdx
namespace Go.Proofs.Ytcofmfjhgbihkaa.crush
open Go.RowKit
open Go.Proofs.Ytcofmfjhgbihkaa.kit Go.Proofs.Ytcofmfjhgbihkaa.own
set_option linter.unusedVariables false
set_option linter.unusedSimpArgs false

def okHosts (hs : List Int) : Bool := inR hs.length 1 8 && !(hs.any fun h => !okId h)
def unOsd (e : Int) (o : OsdV) : Bool := (!okBoot o.boot && (!decide (o.boot = 0) || o.up)) || (!okWeight o.wt || !inR o.thru 0 e)
def okOsds (e : Int) (hs : List Int) (l : List OsdV) : Bool := decide (l.length = hs.length) && !(l.any (unOsd e))
def okPools (l : List PoolV) : Bool := decide (l.length ≤ 2) && !(l.any fun p => !okPool p)

/-- A map. -/
structure MapV where
  epoch : Int
  hosts : List Int
  osds : List OsdV
  pools : List PoolV
  bans : List BanV
/-- A map that is read. -/
def MapR (w : World) (v : Value) (m : MapV) : Prop := ∃ vh vo vp vb, v = .agg #[.int .i64 m.epoch, vh, vo, vp, vb] ∧ Sl ic 1 w vh m.hosts ∧ Sl oc 4 w vo m.osds ∧ Sl pc 4 w vp m.pools ∧ Sl bc 2 w vb m.bans
theorem MapR.keep {w w' : World} {v : Value} {m : MapV} (h : MapR w v m) (hb : Below w.heap.size w w') : MapR w' v m := by
  obtain ⟨vh, vo, vp, vb, rfl, h1, h2, h3, h4⟩ := h
  exact ⟨vh, vo, vp, vb, rfl, h1.keep hb, h2.keep hb, h3.keep hb, h4.keep hb⟩

end Go.Proofs.Ytcofmfjhgbihkaa.crush
