/- The hosts and the nodes of each of them. -/
import Derived.Test.YtngmcolbpdinmaaRows
import Derived.Test.YtngmcolbpdinmaaRuleDom
import Derived.Test.YtngmcolbpdinmaaRuleBin
namespace Go.Proofs.Ytngmcolbpdinmaa.crush
open Go.RowKit
open Go.Proofs.Ytngmcolbpdinmaa.kit Go.Proofs.Ytngmcolbpdinmaa.own
set_option linter.unusedVariables false

/-- A slice, as three words. -/
abbrev SV := Option Addr × Nat × Nat
def SV.v (x : SV) : Value := .slice x.1 x.2.1 x.2.2
def vc (x : SV) : List Value := [x.v]
theorem vc_len (x : SV) : (vc x).length = 1 := rfl
theorem vc_one (x : SV) : ∀ v ∈ vc x, v.oneCell' = true := by
  intro v hv
  simp [vc] at hv
  subst hv; rfl
theorem infoRow : (Try.prog.info? 33).map (fun i => (i.zero, i.size, i.bytes)) = some (some (.slice none 0 0), 1, 24) := by kernel_rfl

/-- One field of a row is laid over. -/
theorem OwnAt.setField {α : Type} {enc : α → List Value} {k e g cap : Nat} {w : World} {xs : List α} (hk : ∀ x, (enc x).length = k) (h : OwnAt enc k e w g cap xs) (i : Nat) (hi : i < xs.length) (j : Nat) (hj : j < k) (u : Value) (x' : α) (hx : enc x' = (enc xs[i]).set j u) : OwnAt enc k e (w.setCell ⟨g, i * k + j, none⟩ u) g cap (xs.set i x') := by
  obtain ⟨cur, h1, h2, h3⟩ := h.ex
  have hcap := Nat.mul_le_mul_right k h.le
  have hik := Nat.mul_le_mul_right k (show i + 1 ≤ xs.length from hi)
  rw [Nat.add_mul, Nat.one_mul] at hik
  refine ⟨⟨_, heap_setCell_same w g (i * k + j) cur e u h1, by simpa using h2, ?_⟩, by simpa using h.le, h.max⟩
  rw [List.length_set]
  apply List.ext_getElem?
  intro t
  rw [List.getElem?_take]
  rcases Nat.lt_or_ge t (xs.length * k) with ht | ht
  · rw [if_pos ht]
    have hk0 : 0 < k := by omega
    have hq : t / k < xs.length := (Nat.div_lt_iff_lt_mul hk0).2 ht
    have hm := Nat.mod_lt t hk0
    have hd : t = t / k * k + t % k := (Nat.div_add_mod' t k).symm
    have e1 : ((xs.set i x').flatMap enc)[t]? = (enc ((xs.set i x')[t / k]'(by simpa using hq)))[t % k]? := by
      conv => lhs; rw [hd]
      exact flat_at hk (xs.set i x') (t / k) (t % k) (by simpa using hq) hm
    have e2 : cur.toList[t]? = (enc xs[t / k])[t % k]? := by
      have : (cur.toList.take (xs.length * k))[t]? = cur.toList[t]? := by rw [List.getElem?_take, if_pos ht]
      rw [← this, h3]
      conv => lhs; rw [hd]
      exact flat_at hk xs (t / k) (t % k) hq hm
    rw [e1]
    simp only [Array.toList_setIfInBounds, List.getElem?_set, Array.length_toList]
    by_cases he : i * k + j = t
    · have hqi : t / k = i := by rw [← he, Nat.mul_comm, Nat.mul_add_div hk0, Nat.div_eq_of_lt hj]; rfl
      have hri : t % k = j := by rw [← he, Nat.mul_comm, Nat.mul_add_mod, Nat.mod_eq_of_lt hj]
      rw [if_pos he, if_pos (by omega), List.getElem_set, if_pos hqi.symm, hx, hri, List.getElem?_set_self (by rw [hk]; exact hj)]
    · rw [if_neg he, e2, List.getElem_set]
      by_cases hqi : i = t / k
      · rw [if_pos hqi, hx]
        have hne : j ≠ t % k := fun e => he (by rw [hqi, e]; exact hd.symm)
        rw [List.getElem?_set_ne hne]
        subst hqi
        rfl
      · rw [if_neg hqi]
  · rw [if_neg (by omega)]
    symm
    rw [List.getElem?_eq_none]
    rw [flat_len hk, List.length_set]; exact ht
theorem OwnAt.cellAt {α : Type} {enc : α → List Value} {k e g cap : Nat} {w : World} {xs : List α} (hk : ∀ x, (enc x).length = k) (h : OwnAt enc k e w g cap xs) (i : Nat) (hi : i < xs.length) (j : Nat) (u : Value) (hu : (enc xs[i])[j]? = some u) : w.cell? ⟨g, i * k + j, none⟩ = some u := h.row hk i hi j u hu

theorem made_gen {α : Type} {enc : α → List Value} {k e t : Nat} (hk : ∀ x, (enc x).length = k) (hk0 : 0 < k) (x0 : α) (z : Value) (bytes : Nat) (hz : z.cells.toList = enc x0) (ht : Try.prog.underlying t = some (.slice e)) (hi : (Try.prog.info? e).map (fun i => (i.zero, i.size, i.bytes)) = some (some z, k, bytes)) (hby : bytes ≤ 24) (hkk : k ≤ 4)
    (w : World) (n : Nat) (hn : n ≤ 65536) : ∃ w1, (Instr.makeSlice t (.int .i64 (n : Nat)) (.int .i64 (n : Nat))).run Try.prog w = .ok (.slice (some ⟨w.heap.size, 0, none⟩) n n) w1 ∧
    OwnAt enc k e w1 w.heap.size n (List.replicate n x0) ∧ Below w.heap.size w w1 := by
  obtain ⟨i0, hi, hz0, hz1, hz2⟩ := info_parts hi
  have hb1 : n * k ≤ 65536 * 4 := Nat.mul_le_mul hn hkk
  have hb2 : i0.bytes * n ≤ 24 * 65536 := Nat.mul_le_mul (by rw [hz2]; exact hby) hn
  obtain ⟨w1, h1, h2, h3⟩ := run_makeSlice_full (P := Try.prog) w w.heap.size t e i0 z k ht hi hz0 hz1 .i64 .i64 n (by omega) (by omega) (by unfold maxLen; omega) (Nat.le_refl _)
  refine ⟨w1, h1, ?_, ⟨h3.os, h3.tape, h3.output, h3.size, fun k hk => h3.block k hk (by simp)⟩⟩
  have hzs : z.cells.size = k := by have := congrArg List.length hz; rw [hk] at this; simpa using this
  have e1 : (madeCells z.cells (n * k)).toList = (List.replicate n x0).flatMap enc := by
    apply List.ext_getElem?
    intro j
    rcases Nat.lt_or_ge j (n * k) with hj | hj
    · have hq : j / k < n := (Nat.div_lt_iff_lt_mul hk0).2 hj
      have hm := Nat.mod_lt j hk0
      have hd : j = j / k * k + j % k := (Nat.div_add_mod' j k).symm
      have e2 : ((List.replicate n x0).flatMap enc)[j]? = (enc x0)[j % k]? := by
        conv => lhs; rw [hd]
        rw [flat_at hk (List.replicate n x0) (j / k) (j % k) (by simpa using hq) hm, List.getElem_replicate]
      rw [e2, ← hz]
      have hm2 : j % k < z.cells.size := by omega
      simp [madeCells, hj, hzs]
      rw [Array.getElem?_eq_getElem hm2, getElem!_pos z.cells (j % k) hm2]
    · rw [List.getElem?_eq_none (by simp [madeCells]; exact hj), List.getElem?_eq_none (by rw [flat_len hk]; simpa using hj)]
  have ho : Own enc k e w1 w.heap.size (.slice (some ⟨w.heap.size, 0, none⟩) n n) (List.replicate n x0) := by
    unfold Own
    rw [List.length_replicate, ← e1]
    exact h2
  rcases ho.at with ⟨h, _⟩ | ⟨g, cap, h, _, hat⟩
  · cases h
  · simp at h
    obtain ⟨h1, h2⟩ := h
    rw [← h1, ← h2] at hat
    exact hat
theorem made_items (w : World) (n : Nat) (hn : n ≤ 65536) : ∃ w1, (Instr.makeSlice 33 (.int .i64 (n : Nat)) (.int .i64 (n : Nat))).run Try.prog w = .ok (.slice (some ⟨w.heap.size, 0, none⟩) n n) w1 ∧
    OwnAt wc 2 58 w1 w.heap.size n (List.replicate n (0, 0)) ∧ Below w.heap.size w w1 :=
  made_gen wc_len (by decide) (0, 0) (.agg #[.int .i64 0, .int .i64 0]) 16 rfl Try.underlying33 infoItm (by decide) (by decide) w n hn
theorem made_rows (w : World) (n : Nat) (hn : n ≤ 65536) : ∃ w1, (Instr.makeSlice 34 (.int .i64 (n : Nat)) (.int .i64 (n : Nat))).run Try.prog w = .ok (.slice (some ⟨w.heap.size, 0, none⟩) n n) w1 ∧
    OwnAt vc 1 33 w1 w.heap.size n (List.replicate n (none, 0, 0)) ∧ Below w.heap.size w w1 :=
  made_gen vc_len (by decide) (none, 0, 0) (.slice none 0 0) 24 rfl Try.underlying34 infoRow (by decide) (by decide) w n hn

/-- Rows in a row, each in a block of its own. -/
structure RowsAt (W : World) (B gn cap : Nat) (svs : List SV) (ns : List (List It)) : Prop where
  row : OwnAt vc 1 33 W gn cap svs
  len : ns.length = svs.length
  each : ∀ i (h : i < ns.length) (h' : i < svs.length), Own wc 2 58 W B svs[i].v ns[i]
  dis : ∀ i j (h : i < svs.length) (h' : j < svs.length), i ≠ j → svs[i].v.ownBlock = none ∨ svs[i].v.ownBlock ≠ svs[j].v.ownBlock
theorem Own.keptBy {α : Type} {enc : α → List Value} {k e B : Nat} {W W' : World} {v : Value} {xs : List α} {row : Option Nat} (h : Own enc k e W B v xs) (hg : W.grownBy W' row) (hne : v.ownBlock = none ∨ v.ownBlock ≠ row) : Own enc k e W' B v xs := World.ownsRow.kept h hg hne
theorem RowsAt.below {W W' : World} {B gn cap : Nat} {svs : List SV} {ns : List (List It)} (h : RowsAt W B gn cap svs ns) (hb : Below W.heap.size W W') : RowsAt W' B gn cap svs ns :=
  ⟨h.row.block (hb.block _ h.row.lt), h.len, fun i h1 h2 => (h.each i h1 h2).below hb, h.dis⟩
theorem RowsAt.new {W : World} {B gn n : Nat} (h : OwnAt vc 1 33 W gn n (List.replicate n (none, 0, 0))) : RowsAt W B gn n (List.replicate n (none, 0, 0)) (List.replicate n []) :=
  ⟨h, by simp, fun i h1 h2 => by
    simp only [List.getElem_replicate]
    exact Own.nil _ _ _, fun i j h1 h2 _ => .inl (by simp only [List.getElem_replicate]; rfl)⟩
/-- A cell outside all rows is written. -/
theorem RowsAt.setOther {W : World} {B gn cap : Nat} {svs : List SV} {ns : List (List It)} (h : RowsAt W B gn cap svs ns) {N : Nat} (hN : N ≠ gn) (hB : N < B) (o : Nat) (u : Value) : RowsAt (W.setCell ⟨N, o, none⟩ u) B gn cap svs ns :=
  ⟨h.row.block (heap_setCell_other _ _ _ _ (fun e => hN e.symm)), h.len, fun i h1 h2 => (h.each i h1 h2).setOther (fun e => by have := ((h.each i h1 h2).blk N e).1; omega) o u, h.dis⟩
/-- One row has grown, and is laid back. -/
theorem RowsAt.grow {W W1 : World} {B gn cap : Nat} {svs : List SV} {ns : List (List It)} (h : RowsAt W B gn cap svs ns) (hgn : gn < B) (p : Nat) (hp : p < svs.length) (x : SV) (ys : List It) (ho : Own wc 2 58 W1 B x.v ys) (hg : W.grownBy W1 svs[p].v.ownBlock) (hw : x.v.ownBlock = svs[p].v.ownBlock ∨ ∀ g, x.v.ownBlock = some g → W.heap.size ≤ g) :
    RowsAt (W1.setCell ⟨gn, p, none⟩ x.v) B gn cap (svs.set p x) (ns.set p ys) := by
  have hnb : ∀ {v : Value} {zs : List It}, Own wc 2 58 W1 B v zs → Own wc 2 58 (W1.setCell ⟨gn, p, none⟩ x.v) B v zs := fun {v zs} hh => hh.setOther (fun e => by have := (hh.blk gn e).1; omega) p x.v
  have hpn : p < ns.length := by rw [h.len]; exact hp
  have hrow : OwnAt vc 1 33 W1 gn cap svs := h.row.block (hg.block gn h.row.lt (fun e => by
    have := ((h.each p hpn hp).blk gn e.symm).1
    omega))
  refine ⟨?_, by simp [h.len], fun i h1 h2 => ?_, fun i j h1 h2 hij => ?_⟩
  · have := hrow.setField vc_len p hp 0 (by decide) x.v x rfl
    rw [Nat.mul_one, Nat.add_zero] at this
    exact this
  · simp only [List.length_set] at h1 h2
    rw [List.getElem_set, List.getElem_set]
    by_cases e : p = i
    · subst e
      rw [if_pos rfl, if_pos rfl]
      exact hnb ho
    · rw [if_neg e, if_neg e]
      refine hnb ((h.each i h1 h2).keptBy hg ?_)
      exact h.dis i p h2 hp (fun e2 => e e2.symm)
  · simp only [List.length_set] at h1 h2
    rw [List.getElem_set, List.getElem_set]
    have old : ∀ q (hq : q < svs.length), q ≠ p → svs[q].v.ownBlock = none ∨ svs[q].v.ownBlock ≠ x.v.ownBlock := fun q hq hqp => by
      rcases hw with hw | hw
      · rw [hw]; exact h.dis q p hq hp hqp
      · cases hb : svs[q].v.ownBlock with
        | none => exact .inl rfl
        | some g =>
          refine .inr (fun e => ?_)
          have h3 := hw g e.symm
          have h4 := ((h.each q (by rw [h.len]; exact hq) hq).blk g hb).2
          omega
    by_cases e1 : p = i
    · subst e1
      rw [if_pos rfl, if_neg hij]
      cases hb : x.v.ownBlock with
      | none => exact .inl rfl
      | some g =>
        rcases old j h2 (fun e => hij e.symm) with h3 | h3
        · exact .inr (fun e => by rw [h3] at e; cases e)
        · exact .inr (fun e => h3 (by rw [hb]; exact e.symm))
    · rw [if_neg e1]
      by_cases e2 : p = j
      · subst e2
        rw [if_pos rfl]
        exact old i h1 (fun e => e1 e.symm)
      · rw [if_neg e2]
        exact h.dis i j h1 h2 hij

/-- The items of the hosts, of the first n nodes. -/
def itK (hs ws ids : List Int) (n : Nat) : List It := ids.map fun h => (h, hostW hs ws h n)
def ndK (hs ws ids : List Int) (n : Nat) : List (List It) := ids.map fun h => nodesOf hs ws h n
theorem itK_step (hs ws ids : List Int) (n p : Nat) (hp : p < ids.length) (hr : ids.Pairwise (· < ·)) (he : ids[p] = hs.getD n 0) : (itK hs ws ids n).set p (ids[p], min (hostW hs ws ids[p] n + wtAt ws n) 1048576) = itK hs ws ids (n + 1) := by
  apply List.ext_getElem (by simp [itK])
  intro j h1 h2
  rw [List.getElem_set]
  simp only [itK, List.getElem_map, hostW]
  simp only [itK, List.length_map] at h2
  by_cases e : p = j
  · subst e
    rw [if_pos rfl, if_pos he.symm]
  · rw [if_neg e, if_neg]
    intro e2
    have e2 := he.trans e2
    have h3 := strict_at hr hp h2
    have h4 := strict_at hr h2 hp
    rcases Nat.lt_or_gt_of_ne e with h5 | h5
    · have := h3.2 h5; omega
    · have := h4.2 h5; omega
theorem ndK_step (hs ws ids : List Int) (n p : Nat) (hp : p < ids.length) (hr : ids.Pairwise (· < ·)) (he : ids[p] = hs.getD n 0) : (ndK hs ws ids n).set p (nodesOf hs ws ids[p] n ++ [((n : Int), wtAt ws n)]) = ndK hs ws ids (n + 1) := by
  apply List.ext_getElem (by simp [ndK])
  intro j h1 h2
  rw [List.getElem_set]
  simp only [ndK, List.getElem_map, nodesOf]
  simp only [ndK, List.length_map] at h2
  by_cases e : p = j
  · subst e
    rw [if_pos rfl, if_pos he.symm]
  · rw [if_neg e, if_neg]
    intro e2
    have e2 := he.trans e2
    have h3 := strict_at hr hp h2
    have h4 := strict_at hr h2 hp
    rcases Nat.lt_or_gt_of_ne e with h5 | h5
    · have := h3.2 h5; omega
    · have := h4.2 h5; omega
theorem ndK_zero (hs ws ids : List Int) : ndK hs ws ids 0 = List.replicate ids.length [] := by
  apply List.ext_getElem (by simp [ndK])
  intro j h1 h2
  simp [ndK, nodesOf]
/-- The items while their Ids are being laid. -/
def idK (ids : List Int) (k : Nat) : List It := (ids.take k).map (fun h => (h, 0)) ++ List.replicate (ids.length - k) (0, 0)
theorem idK_len (ids : List Int) (k : Nat) (hk : k ≤ ids.length) : (idK ids k).length = ids.length := by unfold idK; simp; omega
theorem idK_at (ids : List Int) (k : Nat) (hk : k < ids.length) : (idK ids k)[k]'(by rw [idK_len _ _ (by omega)]; exact hk) = (0, 0) := by
  unfold idK
  rw [List.getElem_append_right (by simp; omega)]
  simp
theorem idK_step (ids : List Int) (k : Nat) (hk : k < ids.length) : (idK ids k).set k (ids[k], 0) = idK ids (k + 1) := by
  unfold idK
  rw [List.set_append_right _ _ (by simp; omega), List.length_map, List.length_take, Nat.min_eq_left (by omega), Nat.sub_self, show ids.length - k = (ids.length - (k + 1)) + 1 by omega, List.replicate_succ, List.set_cons_zero, List.take_succ_eq_append_getElem hk, List.map_append, List.append_assoc]
  rfl
theorem idK_zero (ids : List Int) : idK ids 0 = List.replicate ids.length (0, 0) := by simp [idK]
theorem idK_all (hs ws ids : List Int) : idK ids ids.length = itK hs ws ids 0 := by simp [idK, itK, hostW]
end Go.Proofs.Ytngmcolbpdinmaa.crush
