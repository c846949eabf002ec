/- Words shared by the walks of this seat: a slice of integers that reads as a list of numbers. -/
import Derived.WalkKit
import Derived.ProofKit
import Derived.Lib.Hide
import Derived.Laws.BytesArg
import Derived.OwnWalk
namespace Go.Proofs.Ytcofmfjhgbihkaa.kit
open Go.RowKit

/-- The slice value v reads, in the world w, as the numbers ns (of kind k). -/
def SlI (w : World) (k : IntKind) (v : Value) (ns : List Nat) : Prop :=
  ns.length ≤ 9223372036854775807 ∧ ∃ (a : Option Addr) (cap : Nat), v = .slice a ns.length cap ∧
    (0 < ns.length → ∃ b off, a = some ⟨b, off, none⟩ ∧ ∀ j, j < ns.length → w.cell? ⟨b, off + j, none⟩ = some (.int k (ns.getD j 0 : Nat)))

theorem SlI.nil (w : World) (k : IntKind) : SlI w k (.slice none 0 0) [] := ⟨by simp, none, 0, rfl, fun h => by simp at h⟩

/-- Nothing is changed by what leaves the cells as they are. -/
theorem SlI.same {w w' : World} {k : IntKind} {v : Value} {ns : List Nat} (h : SlI w k v ns) (hs : ∀ a, w.cell? a ≠ none → w'.cell? a = w.cell? a) : SlI w' k v ns := by
  obtain ⟨hl, a, cap, rfl, hc⟩ := h
  refine ⟨hl, a, cap, rfl, fun h0 => ?_⟩
  obtain ⟨b, off, ha, hcell⟩ := hc h0
  exact ⟨b, off, ha, fun j hj => by rw [hs _ (by rw [hcell j hj]; simp), hcell j hj]⟩

theorem drop_getD {α : Type} (l : List α) (d : α) (k : Nat) (h : k < l.length) : l.drop k = l.getD k d :: l.drop (k + 1) := by
  rw [List.drop_eq_getElem_cons h]; simp [List.getD, h]

theorem ret_int {k : IntKind} {a b : Int} (h : a = b) : Ending.returned (.int k a) = .returned (.int k b) := by rw [h]
theorem ret_val {a b : Value} (h : a = b) : Ending.returned a = .returned b := by rw [h]

/-- The slice value v is the call's own (from block B on) and reads as the numbers ns of kind k. -/
def OwnI (w : World) (B e : Nat) (k : IntKind) (v : Value) (ns : List Nat) : Prop := w.ownsRow B e 1 v ns.length (ns.map fun n : Nat => Value.int k (n : Int))

theorem OwnI.nil (w : World) (B e : Nat) (k : IntKind) : OwnI w B e k (.slice none 0 0) [] := World.ownsRow_nil _ _ _ _

theorem add_plain' (b off j : Nat) : (⟨b, off, none⟩ : Addr).add j = ⟨b, off + j, none⟩ := by simp [Addr.add]

theorem OwnI.read {w : World} {B e : Nat} {k : IntKind} {v : Value} {ns : List Nat} (h : OwnI w B e k v ns) : SlI w k v ns := by
  obtain ⟨h1, h2⟩ := id h
  rcases h2 with ⟨rfl, h0⟩ | ⟨g, cap, cur, rfl, hB, hg, hc, hm, hs, ht⟩
  · obtain rfl : ns = [] := List.eq_nil_of_length_eq_zero h0
    exact SlI.nil _ _
  · refine ⟨by unfold maxLen at hm; omega, some ⟨g, 0, none⟩, cap, rfl, fun _ => ⟨g, 0, rfl, fun j hj => ?_⟩⟩
    have := World.ownsRow.cells h (g := g) rfl j (.int k (ns.getD j 0 : Nat)) (by simp [List.getD, hj])
    rw [add_plain'] at this
    exact this

theorem OwnI.len {w : World} {B e : Nat} {k : IntKind} {v : Value} {ns : List Nat} (h : OwnI w B e k v ns) : ns.length ≤ maxLen := by
  obtain ⟨h1, h2⟩ := id h
  rcases h2 with ⟨rfl, h0⟩ | ⟨g, cap, cur, rfl, hB, hg, hc, hm, hs, ht⟩
  · omega
  · omega

/-- The block that is written by an append is one of the call's own. -/
theorem OwnI.block {w : World} {B e : Nat} {k : IntKind} {v : Value} {ns : List Nat} (h : OwnI w B e k v ns) : ∀ g, v.ownBlock = some g → B ≤ g := fun g hg => (World.ownsRow.lt h g hg).1

theorem lits_getD {k : IntKind} (zs : List Int) (hw : ∀ n ∈ zs, (Lit.int k n).wf = true) (h0 : ∀ n, (Lit.int k n).wf = true → 0 ≤ n) (j : Nat) (hj : j < zs.length) : (((zs.map Int.toNat).getD j 0 : Nat) : Int) = zs.getD j 0 := by
  have h1 := h0 _ (hw _ (List.getElem_mem hj))
  simp [List.getD, hj]
  omega

/-- What the guide's 'open_ints' gives, as a reading by natural numbers. -/
theorem SlI.of_open {w : World} {k : IntKind} {a : Addr} {len cap : Nat} {zs : List Int} (hm : cap ≤ maxLen) (hl : len ≤ cap) (hz : zs.length = cap) (hcell : ∀ i, i < zs.length → w.cell? (a.add i) = some (.int k (zs.getD i 0)))
    (hw : ∀ n ∈ zs, (Lit.int k n).wf = true) (h0 : ∀ n, (Lit.int k n).wf = true → 0 ≤ n) : SlI w k (.slice (some a) len cap) ((zs.take len).map Int.toNat) := by
  have hlen : ((zs.take len).map Int.toNat).length = len := by simp; omega
  refine ⟨by rw [hlen]; unfold maxLen at hm; omega, some a, cap, by rw [hlen], fun hp => ?_⟩
  rw [hlen] at hp ⊢
  obtain ⟨b, off, spot⟩ := a
  obtain rfl : spot = none := by simpa [Addr.add] using World.cell?_spot (hcell 0 (by omega))
  refine ⟨b, off, rfl, fun j hj => ?_⟩
  rw [← add_plain', hcell j (by omega), lits_getD (zs.take len) (fun n hn => hw n (List.mem_of_mem_take hn)) h0 j (by simp; omega)]
  simp [List.getD, hj]

theorem u32_pos (n : Int) (h : (Lit.int .u32 n).wf = true) : 0 ≤ n ∧ n < 4294967296 := by
  simp [Lit.wf, IntKind.min, IntKind.max, IntKind.bits, IntKind.signed] at h; omega
theorem u64_pos (n : Int) (h : (Lit.int .u64 n).wf = true) : 0 ≤ n ∧ n < 18446744073709551616 := by
  simp [Lit.wf, IntKind.min, IntKind.max, IntKind.bits, IntKind.signed] at h; omega
theorem u8_pos (n : Int) (h : (Lit.int .u8 n).wf = true) : 0 ≤ n ∧ n < 256 := by
  simp [Lit.wf, IntKind.min, IntKind.max, IntKind.bits, IntKind.signed] at h; omega

/-- 'string(b)' of bytes that are read. -/
theorem conv_bytes {P : Program} {w : World} {v : Value} {ns : List Nat} (src e dst : TypeId) (hs : P.underlying src = some (.slice e)) (he : P.underlying e = some (.int .u8)) (hd : P.underlying dst = some .string) (h : SlI w .u8 v ns) :
    (convert src dst v).run P w = .ok (.string (strOfNums (ns.map fun n : Nat => (n : Int)))) w := by
  obtain ⟨hl, a, cap, rfl, hc⟩ := h
  rcases Nat.eq_zero_or_pos ns.length with h0 | h0
  · obtain rfl : ns = [] := List.eq_nil_of_length_eq_zero h0
    cases a with
    | none => rw [run_convert_bytes_nil w src e hs he _ _ dst hd]; rfl
    | some a => 
      obtain ⟨b, off, spot⟩ := a
      rw [run_convert_bytes_string w src dst e _ _ cap hs he hd, List.length_nil, run_bytesToString w _ 0 cap [] (by simpa using run_loadCells_list (P := P) w ⟨b, off, spot⟩ [] (by simp))]
      rfl
  · obtain ⟨b, off, rfl, hcell⟩ := hc h0
    exact run_convert_bytes_arg w src e hs he b off _ cap (ns.map fun n : Nat => (n : Int)) (by simp) (fun i hi => by rw [hcell i hi]; simp [List.getD, hi]) dst hd

/-- 'v = append(v, c)' of one number onto a slice of the call's own. -/
theorem app1 {P : Program} {wr : World} {ops : Array Oper} {rest : List Oper} {o : Oper} {a : Act} {Q : Exit → Act → World → Prop} (hgd : o.guard = none) (s x : Operand) (t : TypeId)
    (ho : o.op = .call { callee := .builtin .append, args := #[s, x], argTypes := #[t, t] })
    (B e : Nat) (k : IntKind) (bytes : Nat) (ht : P.underlying t = some (.slice e)) (hi : (P.info? e).map (fun i => (i.zero, i.size, i.bytes)) = some (some (.int k 0), 1, bytes))
    (v : Value) (ns : List Nat) (hs : a.eval s = v) (hown : OwnI wr B e k v ns) (c : Nat) (hx : a.eval x = .slice (some ⟨wr.heap.size, 0, none⟩) 1 1)
    (h63 : ns.length + 1 ≤ maxLen) (hb : (ns.length + 1) * bytes ≤ 140737488355328) (hB : B ≤ wr.heap.size)
    (h : ∀ v' w', OwnI w' B e k v' (ns ++ [c]) → Below B wr w' → wpList P ops Q rest (a.put o.dst v') w') : wpList P ops Q (o :: rest) a (wr.alloc (.cells #[.int k (c : Int)] e)) := by
  obtain ⟨i0, hi, hz0, hz1, hz2⟩ := info_parts hi
  refine wpList_append_own _ hgd s x t ho B e i0 (.int k 0) 1 bytes ht hi hz0 hz1 hz2 rfl (by decide) v ns.length (ns.map fun n : Nat => Value.int k (n : Int)) hs (hown.alloc _) ⟨wr.heap.size, 0, none⟩ 1 1 [.int k (c : Int)] hx rfl ?_ ?_ h63 hb (by simp; omega) ?_
  · intro j u hj
    match j, hj with
    | 0, hj => simp at hj; subst hj; rw [add_plain', World.cell?_alloc_at _ _ _ _ rfl]; rfl
  · intro u hu; simp at hu; subst hu; rfl
  · intro v' w' hown' hg _
    refine h v' w' ?_ (((Below.refl _ _).alloc hB _).grown hg (by simp; omega) hown.block)
    unfold OwnI
    simpa using hown'

end Go.Proofs.Ytcofmfjhgbihkaa.kit
