/- The walks of the document's own digests of 64 bits (a text's; that of several, by way of a text that it makes), and of hash.Join. -/
import Derived.Test.YtakcmdkhgaampaaRows
import Derived.Test.YtakcmdkhgaampaaHashMix6
namespace Go.Proofs.Ytakcmdkhgaampaa.hash6
open Go.RowKit
open Go.Proofs.Ytakcmdkhgaampaa.kit
set_option linter.unusedVariables false

theorem xor_div (h : Nat) (hh : U64 h) : bits BinOp.xor IntKind.u64 (h : Int) ((h : Int) / 4294967296) = ((fin64 h : Nat) : Int) := by
  have := xor_u64 h (h / 4294967296) hh (by unfold U64 at *; omega)
  simp only [Int.natCast_ediv, Int.cast_ofNat_Int] at this
  rw [this]; rfl

set_option maxRecDepth 100000 in
theorem rdigest_any (s : ByteArray) (hs : s.size ≤ maxLen) (w : World) :
    Calls Try.prog 12 #[.string s] w fun e w' => e = .returned (.int .u64 (fin64 (mixT 14695981039346656037 s.data.toList))) ∧ w = w' := by
  unfold maxLen at hs
  have HS := Lib.hid (show Txt s (mixT 14695981039346656037 s.data.toList) 0 14695981039346656037 from ⟨by omega, u0, by simp⟩)
  generalize mixT 14695981039346656037 s.data.toList = T at HS
  go_enter Try.func12, Try.ntmps12
  go_wp2
  go_loop [4, 3] (fun vi vh => ∃ k h : Nat, Txt s T k h ∧ vi = .int .i64 k ∧ vh = .int .u64 h) (fun i _ => s.size - (intOf i).toNat)
  case atStart => exact ⟨0, 14695981039346656037, HS.out, rfl, rfl⟩
  case round =>
    obtain ⟨k, h, ht, rfl, rfl⟩ := hrel
    have hk := ht.1
    have hh := ht.2.1
    by_cases hlt : k < s.size
    · have HN := Lib.hid (ht.step hlt)
      have hb : s[k].toNat < 256 := s[k].toNat_lt
      have e : True → bits BinOp.xor IntKind.u64 (h : Int) (s[k].toNat : Int) = ((h ^^^ s[k].toNat : Nat) : Int) := fun _ => xor_u64 h _ hh (.byte hb)
      have HM := Lib.hid (show mixB h s[k].toNat = ((h ^^^ s[k].toNat) * 1099511628211) % 18446744073709551616 from rfl)
      generalize mixB h s[k].toNat = m at HM HN
      generalize h ^^^ s[k].toNat = q at e HM
      have ew : True → IntKind.u64.wrap ((q : Int) * 1099511628211) = (m : Int) := fun _ => by rw [HM.out]; exact wrap_mul q
      clear ht HM
      go_wp2
      go_round
      case rel => exact ⟨k + 1, m, HN.out, by go_num, rfl⟩
      case measure => simp [intOf]; omega
    · have HF := Lib.hid (ht.fin hlt)
      have e : True → bits BinOp.xor IntKind.u64 (h : Int) ((h : Int) / 4294967296) = ((fin64 h : Nat) : Int) := fun _ => xor_div h hh
      have HG := Lib.hid (show fin64 h = fin64 T by rw [HF.out])
      generalize fin64 h = f at e HG
      clear ht
      go_wp2
      go_ret
      exact ⟨ret_int (by rw [HG.out]), rfl⟩

/-- r bytes of x, the lowest first. -/
def leB : Nat → Nat → List Nat
  | 0, _ => []
  | r + 1, x => (x % 256) :: leB r (x / 256)
theorem leB_len : ∀ r x, (leB r x).length = r
  | 0, _ => rfl
  | r + 1, x => by rw [leB, List.length_cons, leB_len r]
theorem leB_lt : ∀ r x, ∀ n ∈ leB r x, n < 256
  | 0, _, n, h => by simp [leB] at h
  | r + 1, x, n, h => by
    rw [leB, List.mem_cons] at h
    rcases h with rfl | h
    · omega
    · exact leB_lt r _ n h
theorem mixW_leB : ∀ r h x, mixW r h x = (leB r x).foldl mixB h
  | 0, _, _ => rfl
  | r + 1, h, x => by rw [mixW, leB, List.foldl_cons, mixW_leB r]
def allB (ns : List Nat) : List Nat := ns.flatMap (leB 8)
theorem allB_len : ∀ ns : List Nat, (allB ns).length = 8 * ns.length
  | [] => rfl
  | n :: ns => by have := allB_len ns; unfold allB at *; rw [List.flatMap_cons, List.length_append, leB_len, this, List.length_cons]; omega
theorem allB_lt : ∀ ns : List Nat, ∀ n ∈ allB ns, n < 256 := by
  intro ns n h
  obtain ⟨x, _, hx⟩ := List.mem_flatMap.1 h
  exact leB_lt 8 x n hx
theorem mixL_allB : ∀ (ns : List Nat) (h : Nat), mixL h ns = (allB ns).foldl mixB h
  | [], _ => by simp [mixL, allB]
  | n :: ns, h => by
    have := mixL_allB ns (mixW 8 h n)
    unfold mixL allB at *
    rw [List.foldl_cons, List.flatMap_cons, List.foldl_append, this, mixW_leB]
theorem mixT_ofNums : ∀ (bs : List Nat) (h : Nat), (∀ n ∈ bs, n < 256) → mixT h ((bs.map fun n : Nat => (n : Int)).map fun n => UInt8.ofNat n.toNat) = bs.foldl mixB h
  | [], _, _ => rfl
  | b :: bs, h, hb => by
    have := mixT_ofNums bs (mixB h b) (fun n hn => hb n (List.mem_cons_of_mem _ hn))
    have h1 := hb b (List.mem_cons_self ..)
    have h2 : (UInt8.ofNat (b : Int).toNat).toNat = b := by simp [Nat.mod_eq_of_lt h1]
    rw [List.map_cons, List.map_cons, List.foldl_cons, ← this, mixT, List.foldl_cons, h2, mixT]

/-- Of all bytes W, bs are made; k words are done, and j bytes of the word x. -/
def Outer (ns W : List Nat) (k : Nat) (bs : List Nat) : Prop := k ≤ ns.length ∧ bs.length = 8 * k ∧ bs ++ allB (ns.drop k) = W
def Inner (ns W : List Nat) (x k j : Nat) (bs : List Nat) : Prop := j ≤ 8 ∧ bs.length = 8 * k + j ∧ bs ++ (leB (8 - j) (x / 256 ^ j) ++ allB (ns.drop (k + 1))) = W
theorem Outer.inn {ns W bs : List Nat} {k : Nat} (h : Outer ns W k bs) (hk : k < ns.length) : Inner ns W (ns.getD k 0) k 0 bs := by
  refine ⟨by omega, by have := h.2.1; omega, ?_⟩
  have := h.2.2
  rw [drop_getD ns 0 k hk] at this
  simpa [allB] using this
theorem Inner.out {ns W bs : List Nat} {x k j : Nat} (h : Inner ns W x k j bs) (hj : ¬ j < 8) (hk : k < ns.length) : Outer ns W (k + 1) bs := by
  have hj8 : j = 8 := by have := h.1; omega
  subst hj8
  exact ⟨by omega, by have := h.2.1; omega, by simpa [leB] using h.2.2⟩
theorem Inner.step {ns W bs : List Nat} {x k j : Nat} (h : Inner ns W x k j bs) (hj : j < 8) : Inner ns W x k (j + 1) (bs ++ [x / 256 ^ j % 256]) := by
  refine ⟨by omega, by have := h.2.1; simp; omega, ?_⟩
  have := h.2.2
  rw [show 8 - j = (8 - (j + 1)) + 1 from by omega, leB, Nat.div_div_eq_div_mul, ← Nat.pow_succ] at this
  simpa using this
theorem shr_byte (x j : Nat) : (x : Int) / 2 ^ (8 * j) % 256 = ((x / 256 ^ j % 256 : Nat) : Int) := by
  rw [show (256 : Nat) ^ j = 2 ^ (8 * j) from by rw [Nat.pow_mul]]
  simp

theorem infoB : (Try.prog.info? 5).map (fun i => (i.zero, i.size, i.bytes)) = some (some (.int .u8 0), 1, 1) := by kernel_rfl

set_option maxHeartbeats 2000000 in
set_option maxRecDepth 100000 in
theorem rjoin_any (v : Value) (ns : List Nat) (w : World) (hv : SlI w .u64 v ns) (hn : ∀ n ∈ ns, U64 n) (hreach : ns.length * 8 ≤ 140737488351232)
    (hold : ∀ a cap b off, v = .slice (some ⟨b, off, none⟩) a cap → 0 < a → b < w.heap.size) :
    Calls Try.prog 14 #[v] w fun e w' => e = .returned (.int .u64 (fin64 (mixL 14695981039346656037 ns))) ∧ Below w.heap.size w w' := by
  obtain ⟨hl, a, cap, rfl, hc⟩ := hv
  have HC := Lib.hid hc
  have HN := Lib.hid hn
  have HO := Lib.hid hold
  have HS := Lib.hid (show Outer ns (allB ns) 0 [] from ⟨by omega, by simp, by simp⟩)
  have HW := Lib.hid (show (allB ns).foldl mixB 14695981039346656037 = mixL 14695981039346656037 ns from (mixL_allB ns _).symm)
  have HWl := Lib.hid (allB_len ns)
  have HWb := Lib.hid (allB_lt ns)
  generalize allB ns = W at HS HW HWl HWb
  clear hc hn hold
  obtain ⟨i0, hi, hz0, hz1, hz2⟩ := info_parts infoB
  have HI := Lib.hid hi; have HZ0 := Lib.hid hz0; have HZ1 := Lib.hid hz1; have HZ2 := Lib.hid hz2
  clear hi hz0 hz1 hz2
  go_enter Try.func14, Try.ntmps14
  go_wp2
  go_loopw [4, 3, 5] (fun vi vb _ wr => ∃ (k : Nat) (bs : List Nat), Outer ns W k bs ∧ vi = .int .i64 k ∧ OwnI wr w.heap.size 5 .u8 vb bs ∧ Below w.heap.size w wr) (fun i _ _ _ => ns.length - (intOf i).toNat)
  case atStart => exact ⟨0, [], HS.out, rfl, OwnI.nil _ _ _ _, Below.refl _ _⟩
  case round =>
    obtain ⟨k, bs, ho, rfl, hown, hbel⟩ := hrel
    have hk := ho.1
    by_cases hlt : k < ns.length
    · have hinn := ho.inn hlt
      obtain ⟨b, off, rfl, hcell⟩ := HC.out (by omega)
      have hb : b < w.heap.size := HO.out _ _ b off rfl (by omega)
      have hck : w.cell? ⟨b, off + k, none⟩ = some (.int .u64 (ns.getD k 0 : Nat)) := hcell k hlt
      clear ho hcell
      generalize ns.getD k 0 = x at hck hinn
      have HI0 := Lib.hid hinn
      have HOw := Lib.hid hown
      have HB := Lib.hid hbel
      have HCk := Lib.hid hck
      clear hinn hown hbel hck
      rename_i wr
      rename_i vi0 vb vj0
      go_wp2
      go_loopw [5, 3] (fun vj vb wr => ∃ (j : Nat) (bs : List Nat), Inner ns W x k j bs ∧ vj = .int .i64 j ∧ OwnI wr w.heap.size 5 .u8 vb bs ∧ Below w.heap.size w wr) (fun j _ _ => 8 - (intOf j).toNat)
      case atStart => exact ⟨0, bs, HI0.out, rfl, HOw.out, HB.out⟩
      case round =>
        obtain ⟨j, bs, hin, rfl, hown, hbel⟩ := hrel
        rename_i wr _ _ _ _
        have hj := hin.1
        by_cases hj8 : j < 8
        · have HNx := Lib.hid (hin.step hj8)
          have ec : True → (x : Int) / 2 ^ (8 * j) % 256 = ((x / 256 ^ j % 256 : Nat) : Int) := fun _ => shr_byte x j
          have hlen := hin.2.1
          clear hin
          generalize x / 256 ^ j % 256 = c at HNx ec
          have hcw : wr.cell? ⟨b, off + k, none⟩ = some (.int .u64 (x : Nat)) := (hbel.cell hb).trans HCk.out
          have HL := Lib.hid hlen
          clear hlen
          have HO' := Lib.hid hown
          have HB' := Lib.hid hbel
          clear hown hbel
          have h63 : bs.length + 1 ≤ maxLen := by have := HL.out; unfold maxLen; omega
          have hby : (bs.length + 1) * 1 ≤ 140737488355328 := by have := HL.out; omega
          have hB : w.heap.size ≤ wr.heap.size := HB'.out.size
          have H63 := Lib.hid h63; have Hby := Lib.hid hby; have HBs := Lib.hid hB
          clear h63 hby hB
          go_wp2_with (at_builtin; refine app1 rfl (.tmp 16) (.tmp 26) 37 rfl w.heap.size 5 .u8 1 Try.underlying37 infoB _ bs rfl HO'.out c rfl H63.out Hby.out HBs.out ?_; intro v' w' hown' hbel'; have HO2 := Lib.hid hown'; have HB2 := Lib.hid hbel'; clear hown' hbel')
          go_roundw
          case rel => exact ⟨j + 1, bs ++ [c], HNx.out, by go_num, HO2.out, HB'.out.trans HB2.out⟩
          case measure => simp [intOf]; omega
        · have HF := Lib.hid (hin.out hj8 hlt)
          have HO' := Lib.hid hown
          have HB' := Lib.hid hbel
          clear hin hown hbel
          go_wp2
          go_roundw
          case rel => exact ⟨k + 1, bs, HF.out, by go_num, HO'.out, HB'.out⟩
          case measure => simp [intOf]; omega
    · have hbs : bs = W := by
        have := ho.2.2
        rw [List.drop_of_length_le (by omega)] at this
        simpa [allB] using this
      subst hbs
      clear ho
      have HR := Lib.hid hown.read
      have HB' := Lib.hid hbel
      clear hown hbel
      have hconv := conv_bytes (P := Try.prog) 37 5 9 Try.underlying37 Try.underlying5 Try.underlying9 HR.out
      have hsz : (strOfNums (bs.map fun n : Nat => (n : Int))).size ≤ maxLen := by
        rw [strOfNums_size, List.length_map]; have := HWl.out; unfold maxLen; omega
      go_wp2_with fail
      refine (rdigest_any _ hsz _).mono ?_
      rintro e w' ⟨rfl, rfl⟩
      go_wp2
      go_ret
      refine ⟨ret_int ?_, HB'.out⟩
      rw [strOfNums_data, mixT_ofNums bs _ HWb.out, HW.out]

theorem join_any (v : Value) (ns : List Nat) (w : World) (hv : SlI w .u64 v ns) (hn : ∀ n ∈ ns, U64 n) :
    Calls Try.prog 13 #[v] w fun e w' => e = .returned (.int .u64 (fin64 (mixL 14695981039346656037 ns))) ∧ w = w' := by
  have ht := mixL_lt ns 14695981039346656037 u0
  have HN := Lib.hid hn
  clear hn
  go_enter Try.func13, Try.ntmps13
  go_wp2_with fail
  refine (mixWords_any 14695981039346656037 u0 v ns _ hv HN.out).mono ?_
  rintro e w' ⟨rfl, rfl⟩
  go_wp2_with fail
  refine (finish_any _ ht _).mono ?_
  rintro e w' ⟨rfl, rfl⟩
  go_wp2
  go_ret
  exact ⟨rfl, rfl⟩

end Go.Proofs.Ytakcmdkhgaampaa.hash6
