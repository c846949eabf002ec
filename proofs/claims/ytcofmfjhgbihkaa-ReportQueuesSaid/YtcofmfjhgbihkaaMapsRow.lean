/- Rows of numbers, storage nodes, pools and bans; a copy into the middle of a row. -/
import Derived.Test.YtcofmfjhgbihkaaRows
import Derived.Test.YtcofmfjhgbihkaaMapsInc
import Derived.Laws.IdiomCopy
import Derived.Deep.RegionLaw
namespace Go.Proofs.Ytcofmfjhgbihkaa.crush
open Go.RowKit
open Go.Proofs.Ytcofmfjhgbihkaa.kit Go.Proofs.Ytcofmfjhgbihkaa.own
set_option linter.unusedVariables false
set_option linter.unusedSimpArgs false

/-- A storage node. -/
structure OsdV where
  boot : Int
  up : Bool
  wt : Int
  thru : Int
deriving DecidableEq
/-- A ban. -/
structure BanV where
  client : Int
  inst : Int
deriving DecidableEq
def oc (x : OsdV) : List Value := [.int .i64 x.boot, .bool x.up, .int .i64 x.wt, .int .i64 x.thru]
def pc (x : PoolV) : List Value := [.int .i64 x.size, .int .i64 x.min, .int .i64 x.pgs, .int .i64 x.dom]
def bc (x : BanV) : List Value := [.int .i64 x.client, .int .i64 x.inst]
theorem oc_len (x : OsdV) : (oc x).length = 4 := rfl
theorem pc_len (x : PoolV) : (pc x).length = 4 := rfl
theorem bc_len (x : BanV) : (bc x).length = 2 := rfl
theorem oc_one (x : OsdV) : ∀ v ∈ oc x, v.oneCell' = true := by
  intro v hv
  simp [oc] at hv
  rcases hv with rfl | rfl | rfl | rfl <;> rfl
theorem pc_one (x : PoolV) : ∀ v ∈ pc x, v.oneCell' = true := by
  intro v hv
  simp [pc] at hv
  rcases hv with rfl | rfl | rfl | rfl <;> rfl
theorem bc_one (x : BanV) : ∀ v ∈ bc x, v.oneCell' = true := by
  intro v hv
  simp [bc] at hv
  rcases hv with rfl | rfl <;> rfl
theorem infoOsd : (Try.prog.info? 132).map (fun i => (i.zero, i.size, i.bytes)) = some (some (.agg #[.int .i64 0, .bool false, .int .i64 0, .int .i64 0]), 4, 32) := by kernel_rfl
theorem infoPool : (Try.prog.info? 85).map (fun i => (i.zero, i.size, i.bytes)) = some (some (.agg #[.int .i64 0, .int .i64 0, .int .i64 0, .int .i64 0]), 4, 32) := by kernel_rfl
theorem infoBan : (Try.prog.info? 136).map (fun i => (i.zero, i.size, i.bytes)) = some (some (.agg #[.int .i64 0, .int .i64 0]), 2, 16) := by kernel_rfl

section
variable {α : Type} {enc : α → List Value} {k : Nat}
/-- Rows written into the middle of a row of the call's own. -/
theorem OwnAt.put (hk : ∀ x, (enc x).length = k) {e g cap : Nat} {w : World} {xs : List α} (h : OwnAt enc k e w g cap xs) (j : Nat) (ys : List α) (hf : j + ys.length ≤ xs.length) :
    OwnAt enc k e (w.setCells g (j * k) (ys.flatMap enc)) g cap (xs.take j ++ ys ++ xs.drop (j + ys.length)) := by
  obtain ⟨cur, h1, h2, h3⟩ := h.ex
  have hlen : (xs.take j ++ ys ++ xs.drop (j + ys.length)).length = xs.length := by simp; omega
  have hle := h.le
  have hyl := flat_len hk ys
  have hxl := flat_len hk xs
  have hb : j * k + (ys.flatMap enc).length ≤ cur.toList.length := by
    have hcl : cur.toList.length = cap * k := by simpa using h2
    rw [hyl, hcl, ← Nat.add_mul]
    exact Nat.mul_le_mul_right _ (by omega)
  refine ⟨⟨_, heap_setCells g e _ _ w cur h1, by simpa [setL_len] using h2, ?_⟩, by rw [hlen]; exact hle, h.max⟩
  rw [hlen]
  apply List.ext_getElem?
  intro t
  have hmul : j * k + ys.length * k ≤ xs.length * k := by rw [← Nat.add_mul]; exact Nat.mul_le_mul_right _ hf
  rw [List.getElem?_take, setL_at _ _ _ _ hb, hyl, List.flatMap_append, List.flatMap_append]
  have hx : ∀ t, t < xs.length * k → cur.toList[t]? = (xs.flatMap enc)[t]? := fun t ht => by
    rw [← h3, List.getElem?_take, if_pos ht]
  have htk : ((xs.take j).flatMap enc).length = j * k := by rw [flat_len hk, List.length_take, Nat.min_eq_left (by omega)]
  have hta : xs.flatMap enc = (xs.take j).flatMap enc ++ (xs.drop j).flatMap enc := by rw [← List.flatMap_append, List.take_append_drop]
  have htb : xs.flatMap enc = (xs.take (j + ys.length)).flatMap enc ++ (xs.drop (j + ys.length)).flatMap enc := by rw [← List.flatMap_append, List.take_append_drop]
  have htl : ((xs.take (j + ys.length)).flatMap enc).length = (j + ys.length) * k := by rw [flat_len hk, List.length_take, Nat.min_eq_left hf]
  by_cases ht : t < xs.length * k
  · rw [if_pos ht]
    by_cases h5 : j * k ≤ t ∧ t < j * k + ys.length * k
    · rw [if_pos h5, List.getElem?_append_left (by rw [List.length_append, htk, hyl]; exact h5.2), List.getElem?_append_right (by rw [htk]; exact h5.1), htk]
    · rw [if_neg h5, hx t ht]
      rcases Nat.lt_or_ge t (j * k) with h6 | h6
      · rw [List.getElem?_append_left (by rw [List.length_append, htk, hyl]; omega), List.getElem?_append_left (by rw [htk]; exact h6), hta, List.getElem?_append_left (by rw [htk]; exact h6)]
      · have h7 : j * k + ys.length * k ≤ t := by omega
        rw [List.getElem?_append_right (by rw [List.length_append, htk, hyl]; exact h7), List.length_append, htk, hyl, htb, List.getElem?_append_right (by rw [htl, Nat.add_mul]; exact h7), htl, Nat.add_mul]
  · rw [if_neg ht, List.getElem?_eq_none]
    rw [List.length_append, List.length_append, htk, hyl, flat_len hk, List.length_drop, Nat.sub_mul, Nat.add_mul]
    omega
theorem OwnAt.below' {e g cap B : Nat} {w w0 : World} {xs : List α} (hb : Below B w0 w) (hg : B ≤ g) (o : Nat) (vs : List Value) : Below B w0 (w.setCells g o vs) := Below.setCells hb hg o vs
/-- What stands in a row, cell by cell. -/
theorem OwnAt.cells {e g cap : Nat} {w : World} {xs : List α} (h : OwnAt enc k e w g cap xs) (t : Nat) (v : Value) (ht : t < xs.length * k) (hv : (xs.flatMap enc)[t]? = some v) : w.cell? ⟨g, t, none⟩ = some v := by
  obtain ⟨cur, h1, h2, h3⟩ := h.ex
  have : cur.toList[t]? = some v := by rw [← hv, ← h3, List.getElem?_take, if_pos ht]
  simp only [World.cell?, h1]
  simpa using this
theorem OwnAt.some {e g cap : Nat} {w : World} {xs : List α} (h : OwnAt enc k e w g cap xs) (t : Nat) (ht : t < cap * k) : (w.cell? ⟨g, t, none⟩).isSome = true := by
  obtain ⟨cur, h1, h2, h3⟩ := h.ex
  simp only [World.cell?, h1]
  simp [h2, ht]
theorem OwnAt.thaw {e g cap : Nat} {w : World} {xs : List α} (h : OwnAt enc k e w g cap xs) (t : Nat) : w.frozen? ⟨g, t, none⟩ = false := by
  obtain ⟨cur, h1, h2, h3⟩ := h.ex
  simp [World.frozen?, h1]
end

/-- 'copy' of some rows of k cells, in cells. -/
theorem run_copy_m {P : Program} (w : World) (dT sT ty elem : TypeId) (g o dLen dCap : Nat) (a : Addr) (sLen sCap k m : Nat) (cs : List Value)
    (hu : P.underlying dT = some (.slice elem)) (hs : (P.info? elem).map (·.size) = some k) (hm : Nat.min sLen dLen = m) (hn : cs.length = m * k)
    (hsrc : ∀ j v, cs[j]? = some v → w.cell? (a.add j) = some v) (hc : ∀ j, j < cs.length → (w.cell? ⟨g, o + j, none⟩).isSome = true) (hf : ∀ j, j < cs.length → w.frozen? ⟨g, o + j, none⟩ = false) (h1 : ∀ v ∈ cs, v.oneCell' = true) :
    (Builtin.copy_ #[dT, sT] ty #[.slice (some ⟨g, o, none⟩) dLen dCap, .slice (some a) sLen sCap]).run P w = .ok (goInt m) (w.setCells g o cs) := by
  have hl := run_loadCells_list (P := P) w a cs hsrc
  have hst := run_storeCells_cells (P := P) g o cs 0 w (by simpa using hc) (by simpa using hf) h1
  cases hq : P.info? elem with
  | none => simp [hq] at hs
  | some i =>
    have hi : i.size = k := by simpa [hq] using hs
    simp [Builtin.copy_, run_underlying hu, Builtin.lenOf, Builtin.firstCells, sizeOf, typeInfo, hq, hi, hm, ← hn, hl, hst]
/-- .. as an operation in a list. -/
theorem wpList_copy_m {P : Program} {w : World} {ops : Array Oper} {rest : List Oper} {o : Oper} {a : Act} {Q : Exit → Act → World → Prop} (hgd : o.guard = none) (d s : Operand) (dT sT : TypeId)
    (ho : o.op = .call { callee := .builtin .copy, args := #[d, s], argTypes := #[dT, sT] }) (elem : TypeId) (hu : P.underlying dT = some (.slice elem)) (k : Nat) (hsz : (P.info? elem).map (·.size) = some k)
    (g off dLen dCap : Nat) (ad : Addr) (sLen sCap m : Nat) (hd : a.eval d = .slice (some ⟨g, off, none⟩) dLen dCap) (hs : a.eval s = .slice (some ad) sLen sCap) (cs : List Value) (hm : Nat.min sLen dLen = m) (hn : cs.length = m * k)
    (hsrc : ∀ j v, cs[j]? = some v → w.cell? (ad.add j) = some v) (hc : ∀ j, j < cs.length → (w.cell? ⟨g, off + j, none⟩).isSome = true) (hf : ∀ j, j < cs.length → w.frozen? ⟨g, off + j, none⟩ = false) (h1 : ∀ v ∈ cs, v.oneCell' = true)
    (h : wpList P ops Q rest (a.put o.dst (goInt m)) (w.setCells g off cs)) : wpList P ops Q (o :: rest) a w := by
  refine wpList_plain hgd fun K hK => ?_
  have hrun := run_copy_m (P := P) w dT sT o.type elem g off dLen dCap ad sLen sCap k m cs hu hsz hm hn hsrc hc hf h1
  unfold Oper.wp
  simp [execOp, ho, resolve, invoke, builtin, hd, hs, hrun, Result.andThen]
  exact hK _ _ h
/-- .. and as a step of a region that draws its order. -/
theorem step_copy_m {P : Program} {ops : Array Oper} {o : Oper} {a : Act} {w : World} {K : Act → World → Prop} {Q : Exit → Act → World → Prop} {E : Prop} (hgd : o.guard = none) (d s : Operand) (dT sT : TypeId)
    (ho : o.op = .call { callee := .builtin .copy, args := #[d, s], argTypes := #[dT, sT] }) (elem : TypeId) (hu : P.underlying dT = some (.slice elem)) (k : Nat) (hsz : (P.info? elem).map (·.size) = some k)
    (g off dLen dCap : Nat) (ad : Addr) (sLen sCap m : Nat) (hd : a.eval d = .slice (some ⟨g, off, none⟩) dLen dCap) (hs : a.eval s = .slice (some ad) sLen sCap) (cs : List Value) (hm : Nat.min sLen dLen = m) (hn : cs.length = m * k)
    (hsrc : ∀ j v, cs[j]? = some v → w.cell? (ad.add j) = some v) (hc : ∀ j, j < cs.length → (w.cell? ⟨g, off + j, none⟩).isSome = true) (hf : ∀ j, j < cs.length → w.frozen? ⟨g, off + j, none⟩ = false) (h1 : ∀ v ∈ cs, v.oneCell' = true)
    (h : K (a.put o.dst (goInt m)) (w.setCells g off cs)) : if Region.wanted o (yielded ops a.tmps) = true then Oper.wp P o a w K Q else E := by
  have hw : Region.wanted o (yielded ops a.tmps) = true := by simp [Region.wanted, hgd]
  rw [if_pos hw]
  have hrun := run_copy_m (P := P) w dT sT o.type elem g off dLen dCap ad sLen sCap k m cs hu hsz hm hn hsrc hc hf h1
  unfold Oper.wp
  simp [execOp, ho, resolve, invoke, builtin, hd, hs, hrun, Result.andThen]
  exact h
end Go.Proofs.Ytcofmfjhgbihkaa.crush
