/-
  CodecMessages: what came in, opened: messages, and their bulk.
-/
import Derived.Test.YtjmeaebehndheaaMy
import Derived.Test.YtjmeaebehndheaaOpenS
namespace Go.Proofs.Ytjmeaebehndheaa
open Go.ChangeShapes Go.WideShapes Go.ChangeAt Go.RowKit

theorem Try.ca215 : Try.prog.cellsOf 112 = 5 := by kernel_rfl
theorem Try.ca89 : Try.prog.cellsOf 89 = 3 := by kernel_rfl
theorem Try.ca91 : Try.prog.cellsOf 91 = 33 := by kernel_rfl
theorem Try.ca95 : Try.prog.cellsOf 95 = 76 := by kernel_rfl
theorem Try.ca92 : Try.prog.cellsOf 92 = 1 := by kernel_rfl
theorem Try.ca93 : Try.prog.cellsOf 93 = 1 := by kernel_rfl
theorem Try.ca4 : Try.prog.cellsOf 4 = 1 := by kernel_rfl
theorem Try.ca54 : Try.prog.cellsOf 54 = 1 := by kernel_rfl

def tx0 : Tx := ⟨none, 0, 0, []⟩
theorem bulkA_pos {H : Type} (d : DataW H) : 1 ≤ Rows.uptoBulk d := by
  cases d with
  | lit l => cases l <;> simp [Rows.uptoBulk]
  | nil => simp [Rows.uptoBulk]
  | ptr d => simp [Rows.uptoBulk]
  | slice elems spare => simp [Rows.uptoBulk]
  | agg parts => simp [Rows.uptoBulk]
  | iface t d => simp [Rows.uptoBulk]
  | map entries => simp [Rows.uptoBulk]
  | held h => simp [Rows.uptoBulk]
theorem bulkA_len {H : Type} (l : List (DataW H)) : l.length ≤ Rows.uptoBulkAll l := by
  induction l with
  | nil => simp [Rows.uptoBulkAll]
  | cons x r ih => have := bulkA_pos x; simp only [Rows.uptoBulkAll, List.length_cons]; omega
theorem bulkA_mem {H : Type} {d : DataW H} {l : List (DataW H)} (h : d ∈ l) : Rows.uptoBulk d ≤ Rows.uptoBulkAll l := by
  induction l with
  | nil => cases h
  | cons x r ih =>
    simp only [Rows.uptoBulkAll]
    rcases List.mem_cons.1 h with rfl | h
    · omega
    · have := ih h; omega
theorem bulkA_app {H : Type} (l r : List (DataW H)) : Rows.uptoBulkAll (l ++ r) = Rows.uptoBulkAll l + Rows.uptoBulkAll r := by
  induction l with
  | nil => simp [Rows.uptoBulkAll]
  | cons x l ih => simp only [List.cons_append, Rows.uptoBulkAll, ih]; omega
theorem bulkA_part {H : Type} {xs : List (DataW H × List MemPlace)} {i : Nat} (hi : i < xs.length) : Rows.uptoBulk (xs[i]).1 ≤ Rows.uptoBulk (DataW.agg (xs.map (·.1))) := by
  have := bulkA_mem (H := H) (List.mem_map.2 ⟨xs[i], List.getElem_mem hi, rfl⟩ : (xs[i]).1 ∈ xs.map (·.1))
  simp only [Rows.uptoBulk]
  omega
theorem cutA_one {cs : List Value} {k : Nat} {v : Value} (hv : (cs.drop k).take 1 = [v]) : cs.drop k = v :: cs.drop (k + 1) := by
  have hlt : k < cs.length := by
    rcases Nat.lt_or_ge k cs.length with h | h
    · exact h
    · rw [List.drop_of_length_le h] at hv; simp at hv
  rw [List.drop_eq_getElem_cons hlt] at hv ⊢
  injection hv with hv _
  rw [hv]
theorem cutA_more {cs x : List Value} {k m : Nat} (hv : (cs.drop k).take m = x) : cs.drop k = x ++ cs.drop (k + m) := by
  rw [← hv]
  have h9 := (List.take_append_drop m (cs.drop k)).symm
  rwa [List.drop_drop] at h9

section
variable {H : Type} {enc : TypeId × Value → H} {W : World} {sp : Nat → Bool} {held : Bool} {fuel : Nat} {cs : List Value} {x : DataW H × List MemPlace}

theorem opA_sum (h : DataW.trod enc Try.prog W 0 sp held fuel 31 cs = some x) : ∃ z : List Int, cs = bs z ∧ z.length = 32 ∧ Byts z := by
  obtain ⟨z, h1, h2, h3⟩ := op_sumS h
  exact ⟨z, h2, h1, h3⟩
/-- Bytes that came in, wherever they lie. -/
theorem opA_text (h : DataW.trod enc Try.prog W 0 sp held fuel 23 cs = some x) (hb : Rows.uptoBulk x.1 ≤ 1048576) : ∃ t : Tx, cs = [t.val] ∧ TxIn W (fun g => g < W.heap.size) t ∧ Byts t.l ∧ t.l.length ≤ Rows.uptoBulk x.1 := by
  rcases ChangeShapes.open_ints Try.underlying23 Try.underlying5 Try.c5 h with ⟨rfl, rfl⟩ | ⟨a, len, cap, zs, rfl, _, hl, hcap, hzl, rfl, hc, hw⟩
  · exact ⟨⟨none, 0, 0, []⟩, rfl, ⟨.inl ⟨rfl, rfl⟩, (fun g hg => by simp [Value.ownBlock] at hg), (by simp)⟩, (fun y hy => by cases hy), (by simp)⟩
  · have hlz : len ≤ zs.length := by rw [hzl]; split <;> omega
    have htl : (zs.take len).length = len := by rw [List.length_take]; omega
    have hsrc : Src W (.slice (some a) (zs.take len).length cap) (zs.take len) := .inr ⟨a, cap, rfl, fun j u hu => by
      have hj : j < len := by have := (List.getElem?_eq_some_iff.1 hu).1; rw [bs_len, htl] at this; exact this
      have hcj := hc j (by omega)
      have hc0 := hc 0 (by omega)
      have hs : a.spot = none := by simpa [Addr.add] using World.cell?_spot hc0
      refine ⟨hs, ?_⟩
      obtain ⟨b, o, s⟩ := a
      simp only at hs
      subst hs
      rw [addr_add] at hcj
      rw [hcj, ← hu, bs_get _ _ (by omega)]
      simp only [List.getElem_take]
      rw [List.getD_eq_getElem?_getD, List.getElem?_eq_getElem (by omega)]
      rfl⟩
    rw [htl] at hsrc
    have hbl : len ≤ Rows.uptoBulk (H := H) (DataW.slice (ChangeShapes.lits .u8 (zs.take len)) (ChangeShapes.lits .u8 (zs.drop len))) := by
      simp only [Rows.uptoBulk]
      have := bulkA_len (H := H) (ChangeShapes.lits .u8 (zs.take len))
      have e : (ChangeShapes.lits (H := H) .u8 (zs.take len)).length = len := by simp [ChangeShapes.lits]; omega
      omega
    have hbx : len ≤ 1048576 := by
      have hb' := hb
      simp only [Rows.uptoBulk] at hb'
      have := bulkA_len (H := H) (ChangeShapes.lits .u8 (zs.take len))
      have e : (ChangeShapes.lits (H := H) .u8 (zs.take len)).length = len := by simp [ChangeShapes.lits]; omega
      omega
    refine ⟨⟨some a, len, cap, zs.take len⟩, rfl, ⟨hsrc, fun g hg => ?_, by show (zs.take len).length ≤ _; omega⟩, fun y hy => bounds_u8 (hw y (List.mem_of_mem_take hy)), ?_⟩
    · rcases Nat.eq_zero_or_pos len with h0 | h0
      · exact .inr (List.eq_nil_of_length_eq_zero (by show (zs.take len).length = 0; omega))
      · left
        have hc0 := hc 0 (by omega)
        have e : a.block = g := by simpa [Tx.val, Value.ownBlock] using hg
        have := World.block_lt_of_cell? _ _ hc0
        have e2 : (a.add 0).block = a.block := by unfold Addr.add; split <;> rfl
        omega
    · show (zs.take len).length ≤ _
      simp only [Rows.uptoBulk]
      have := bulkA_len (H := H) (ChangeShapes.lits .u8 (zs.take len))
      have e : (ChangeShapes.lits (H := H) .u8 (zs.take len)).length = len := by simp [ChangeShapes.lits]; omega
      omega
/-- A list of records, and how long their bytes are. -/
theorem opA_list {α : Type} {sl ty sz K : Nat} (hu : Try.prog.underlying sl = some (.slice ty)) (hc : Try.prog.cellsOf ty = sz) (hp : 0 < sz) (cell : α → List Value) (Q : α → Prop) (byt : α → List Int) (dflt : α)
    (hel0 : ∀ {n : Nat} {cs : List Value} {x : DataW H × List MemPlace}, DataW.trod enc Try.prog W 0 sp held n ty cs = some x → Rows.uptoBulk x.1 ≤ 1048576 → ∃ r, cs = cell r ∧ Q r ∧ (byt r).length ≤ K * Rows.uptoBulk x.1)
    (h : DataW.trod enc Try.prog W 0 sp held fuel sl cs = some x) (hb : Rows.uptoBulk x.1 ≤ 1048576) :
    ∃ (sa : Option Addr) (sn sc : Nat) (f : Nat → α), cs = [.slice sa sn sc] ∧ sn ≤ 1048576 ∧ RowsIn W (fun g => g < W.heap.size) sa sn sz (fun i => cell (f i)) ∧ (∀ i, i < sn → Q (f i)) ∧ (recsB (fun i => byt (f i)) sn).length ≤ K * 1048576 := by
  rcases DataW.trod_slice hu h with ⟨rfl, _⟩ | ⟨a, len, cap, elems, rest, n, _, rfl, rfl, _, hlc, hmx, hlen, hel, _, _⟩
  · exact ⟨none, 0, 0, fun _ => dflt, rfl, by omega, fun i hi => by omega, fun i hi => by omega, by simp [recsB]⟩
  · have hbul : Rows.uptoBulkAll (elems.map (·.1)) ≤ 1048576 := by
      simp only [Rows.uptoBulk] at hb
      omega
    have cells : ∀ i, (hi : i < len) → ∃ cs', W.cells? 0 (a.add (i * sz)) sz = some cs' ∧ DataW.trod enc Try.prog W 0 sp held n ty cs' = some (elems[i]'(by omega)) := by
      intro i hi
      have e := hel i hi
      rw [List.getElem?_eq_getElem (by omega), Option.bind_eq_some_iff] at e
      obtain ⟨cs', hcs, ht⟩ := e
      rw [hc] at hcs
      exact ⟨cs', hcs, ht⟩
    have spot : 0 < len → a.spot = none := by
      intro h0
      obtain ⟨cs', hcs, ht⟩ := cells 0 h0
      obtain ⟨_, hl, hcc⟩ := World.cells?_some hcs
      have h1 := hcc 0 hp
      rw [List.getElem?_eq_getElem (by omega)] at h1
      simpa [Addr.add] using World.cell?_spot h1
    have key : ∀ i, (hi : i < len) → ∃ r : α, (∃ g o, some a = some ⟨g, o, none⟩ ∧ g < W.heap.size ∧ W.rangeAt g (o + i * sz) (cell r)) ∧ Q r ∧ (byt r).length ≤ K * Rows.uptoBulk (elems[i]'(by omega)).1 := by
      intro i hi
      obtain ⟨cs', hcs, ht⟩ := cells i hi
      have hbi : Rows.uptoBulk (elems[i]'(by omega)).1 ≤ 1048576 := Nat.le_trans (bulkA_mem (H := H) (List.mem_map.2 ⟨elems[i]'(by omega), List.getElem_mem _, rfl⟩ : (elems[i]'(by omega)).1 ∈ elems.map (·.1))) hbul
      obtain ⟨r, rfl, h1⟩ := hel0 ht hbi
      obtain ⟨_, hl, hcc⟩ := World.cells?_some hcs
      refine ⟨r, ?_, h1⟩
      have hs := spot (by omega)
      obtain ⟨g, o, sp'⟩ := a
      simp only at hs
      subst hs
      have hr : W.rangeAt g (o + i * sz) (cell r) := fun j u hu => by
        have hj : j < sz := by have := (List.getElem?_eq_some_iff.1 hu).1; omega
        have := hcc j hj
        rw [addr_add, addr_add] at this
        rw [this, hu]
      refine ⟨g, o, rfl, ?_, hr⟩
      exact World.block_lt_of_cell? _ _ (hr 0 _ (List.getElem?_eq_getElem (by omega)))
    let f : Nat → α := fun i => if h : i < len then Classical.choose (key i h) else dflt
    have hf : ∀ i, (h : i < len) → f i = Classical.choose (key i h) := fun i h => by show (if h : i < len then _ else _) = _; rw [dif_pos h]
    have bud : ∀ k, k ≤ len → (recsB (fun i => byt (f i)) k).length ≤ K * Rows.uptoBulkAll ((elems.map (·.1)).take k) := by
      intro k
      induction k with
      | zero => intro _; simp [recsB]
      | succ k ih =>
        intro hk
        have h1 := ih (by omega)
        have h2 := (Classical.choose_spec (key k (by omega))).2.2
        rw [← hf k (by omega)] at h2
        rw [List.take_succ_eq_append_getElem (by simp; omega), bulkA_app]
        simp only [recsB, List.length_append, Rows.uptoBulkAll, List.getElem_map, Nat.add_zero, Nat.mul_add]
        omega
    refine ⟨some a, len, cap, f, rfl, ?_, fun i hi => ?_, fun i hi => ?_, ?_⟩
    · have := bulkA_len (elems.map (·.1))
      rw [List.length_map] at this
      omega
    · have h9 := (Classical.choose_spec (key i hi)).1
      rw [← hf i hi] at h9
      exact h9
    · rw [hf i hi]; exact (Classical.choose_spec (key i hi)).2.1
    · have h1 := bud len (Nat.le_refl _)
      rw [List.take_of_length_le (by rw [List.length_map]; omega)] at h1
      exact Nat.le_trans h1 (Nat.mul_le_mul_left K hbul)
theorem opA_change (h : DataW.trod enc Try.prog W 0 sp held fuel 112 cs = some x) (hb : Rows.uptoBulk x.1 ≤ 1048576) : ∃ k : Cg, cs = k.cells ∧ (CgIn W (fun g => g < W.heap.size) k ∧ k.ky.l.length ≤ 1048576 ∧ k.od.l.length ≤ 1048576 ∧ k.nw.l.length ≤ 1048576) ∧ k.bytes.length ≤ 40 * Rows.uptoBulk x.1 := by
  obtain ⟨xs, m, _, rfl, hl, hxs, hel⟩ := DataW.trod_struct Try.underlying112 h
  have hxs : xs.length = 5 := hxs
  rw [Try.ca215] at hl
  have e0 : DataW.trod enc Try.prog W 0 sp held m 23 ((cs.drop 0).take (Try.prog.cellsOf 23)) = xs[0]? := hel 0 _ rfl
  have e1 : DataW.trod enc Try.prog W 0 sp held m 4 ((cs.drop 1).take (Try.prog.cellsOf 4)) = xs[1]? := hel 1 _ rfl
  have e2 : DataW.trod enc Try.prog W 0 sp held m 23 ((cs.drop 2).take (Try.prog.cellsOf 23)) = xs[2]? := hel 2 _ rfl
  have e3 : DataW.trod enc Try.prog W 0 sp held m 4 ((cs.drop 3).take (Try.prog.cellsOf 4)) = xs[3]? := hel 3 _ rfl
  have e4 : DataW.trod enc Try.prog W 0 sp held m 23 ((cs.drop 4).take (Try.prog.cellsOf 23)) = xs[4]? := hel 4 _ rfl
  rw [Try.c23] at e0 e2 e4
  rw [Try.ca4] at e1 e3
  rw [List.getElem?_eq_getElem (by omega)] at e0 e1 e2 e3 e4
  have q0 := bulkA_part (H := H) (xs := xs) (i := 0) (by omega)
  have q2 := bulkA_part (H := H) (xs := xs) (i := 2) (by omega)
  have q4 := bulkA_part (H := H) (xs := xs) (i := 4) (by omega)
  obtain ⟨B, hB⟩ : ∃ B, B = Rows.uptoBulk (DataW.agg (xs.map (·.1))) := ⟨_, rfl⟩
  have hb : Rows.uptoBulk (DataW.agg (xs.map (·.1))) ≤ 1048576 := hb
  have hp := bulkA_pos (DataW.agg (xs.map (·.1)))
  rw [← hB] at q0 q2 q4 hb hp
  obtain ⟨t0, c0, i0, y0, l0⟩ := opA_text e0 (by omega)
  obtain ⟨b1, c1, _⟩ := DataW.trod_bool Try.underlying4 e1
  obtain ⟨t2, c2, i2, y2, l2⟩ := opA_text e2 (by omega)
  obtain ⟨b3, c3, _⟩ := DataW.trod_bool Try.underlying4 e3
  obtain ⟨t4, c4, i4, y4, l4⟩ := opA_text e4 (by omega)
  refine ⟨⟨t0, b1, t2, b3, t4⟩, ?_, ⟨⟨i0, i2, i4⟩, by show t0.l.length ≤ _; omega, by show t2.l.length ≤ _; omega, by show t4.l.length ≤ _; omega⟩, ?_⟩
  · have d0 := cutA_one c0
    have d1 := cutA_one c1
    have d2 := cutA_one c2
    have d3 := cutA_one c3
    have d4 := cutA_one c4
    have last : cs.drop (4 + 1) = [] := List.drop_of_length_le (by omega)
    rw [last] at d4
    rw [List.drop_zero] at d0
    show cs = [t0.val, .bool b1, t2.val, .bool b3, t4.val]
    rw [d0, d1, d2, d3, d4]
  · show (Cg.bytes _).length ≤ 40 * Rows.uptoBulk (DataW.agg (xs.map (·.1)))
    rw [← hB]
    have r0 := t0.bytes_le i0.le
    have r2 := t2.bytes_le i2.le
    have r4 := t4.bytes_le i4.le
    have z2 : (if b1 = true then t2.bytes else []).length ≤ t2.l.length + 10 := by
      split
      · exact r2.2
      · simp
    have z4 : (if b3 = true then t4.bytes else []).length ≤ t4.l.length + 10 := by
      split
      · exact r4.2
      · simp
    simp only [Cg.bytes, List.length_append, List.length_singleton]
    omega
theorem opA_span (h : DataW.trod enc Try.prog W 0 sp held fuel 89 cs = some x) (hb : Rows.uptoBulk x.1 ≤ 1048576) : ∃ o : Sp, cs = o.cells ∧ SpIn W (fun g => g < W.heap.size) o ∧ Byts o.lo.l ∧ Byts o.hi.l ∧ o.lo.l.length ≤ 1048576 ∧ o.hi.l.length ≤ 1048576 := by
  obtain ⟨xs, m, _, rfl, hl, hxs, hel⟩ := DataW.trod_struct Try.underlying89 h
  have hxs : xs.length = 3 := hxs
  rw [Try.ca89] at hl
  have e0 : DataW.trod enc Try.prog W 0 sp held m 23 ((cs.drop 0).take (Try.prog.cellsOf 23)) = xs[0]? := hel 0 _ rfl
  have e1 : DataW.trod enc Try.prog W 0 sp held m 23 ((cs.drop 1).take (Try.prog.cellsOf 23)) = xs[1]? := hel 1 _ rfl
  have e2 : DataW.trod enc Try.prog W 0 sp held m 4 ((cs.drop 2).take (Try.prog.cellsOf 4)) = xs[2]? := hel 2 _ rfl
  rw [Try.c23] at e0 e1
  rw [Try.ca4] at e2
  rw [List.getElem?_eq_getElem (by omega)] at e0 e1 e2
  have q0 := bulkA_part (H := H) (xs := xs) (i := 0) (by omega)
  have q1 := bulkA_part (H := H) (xs := xs) (i := 1) (by omega)
  have hb : Rows.uptoBulk (DataW.agg (xs.map (·.1))) ≤ 1048576 := hb
  obtain ⟨t0, c0, i0, y0, l0⟩ := opA_text e0 (by omega)
  obtain ⟨t1, c1, i1, y1, l1⟩ := opA_text e1 (by omega)
  obtain ⟨b2, c2, _⟩ := DataW.trod_bool Try.underlying4 e2
  refine ⟨⟨t0, t1, b2⟩, ?_, ⟨i0, i1⟩, y0, y1, by show t0.l.length ≤ _; omega, by show t1.l.length ≤ _; omega⟩
  have d0 := cutA_one c0
  have d1 := cutA_one c1
  have d2 := cutA_one c2
  have last : cs.drop (2 + 1) = [] := List.drop_of_length_le (by omega)
  rw [last] at d2
  rw [List.drop_zero] at d0
  show cs = [t0.val, t1.val, .bool b2]
  rw [d0, d1, d2]
theorem opA_head (h : DataW.trod enc Try.prog W 0 sp held fuel 91 cs = some x) : ∃ (n : Nat) (z : List Int), cs = .int .u64 n :: bs z ∧ n < 18446744073709551616 ∧ z.length = 32 ∧ Byts z := by
  obtain ⟨xs, m, _, rfl, hl, hxs, hel⟩ := DataW.trod_struct Try.underlying91 h
  have hxs : xs.length = 2 := hxs
  rw [Try.ca91] at hl
  have e0 : DataW.trod enc Try.prog W 0 sp held m 29 ((cs.drop 0).take (Try.prog.cellsOf 29)) = xs[0]? := hel 0 _ rfl
  have e1 : DataW.trod enc Try.prog W 0 sp held m 31 ((cs.drop 1).take (Try.prog.cellsOf 31)) = xs[1]? := hel 1 _ rfl
  rw [Try.c29] at e0
  rw [Try.c31] at e1
  rw [List.getElem?_eq_getElem (by omega)] at e0 e1
  obtain ⟨n0, c0, _, w0⟩ := DataW.trod_int Try.underlying29 e0
  obtain ⟨z1, c1, h1, b1⟩ := opA_sum e1
  have i0 := bounds_u64 w0
  refine ⟨n0.toNat, z1, ?_, by omega, h1, b1⟩
  have d0 := cutA_one c0
  have d1 := cutA_more c1
  have e : ((n0.toNat : Nat) : Int) = n0 := by omega
  have last : cs.drop (1 + 32) = [] := List.drop_of_length_le (by omega)
  rw [last, List.append_nil] at d1
  rw [List.drop_zero] at d0
  rw [e, d0, d1]
theorem Msg.len_le {M : Msg} (r1 : (numB M.ver).length ≤ 10) (r2 : (numB M.oth).length ≤ 10) (r4 : (numB M.hs).length ≤ 10) (r6 : (numB M.ct).length ≤ 10) (h4 : M.hl.length = 32) (h5 : M.lb.length = 32) (s : M.sp.bytes.length ≤ 10000000) (b : M.bo.bytes.length ≤ 10000000) (rp : (numB M.pn).length ≤ 10) (rc : (numB M.cn).length ≤ 10) (hpl : (recsB M.ps M.pn).length ≤ 32 * 1048576) (hcl : (recsB (fun i => (M.cs i).bytes) M.cn).length ≤ 40 * 1048576) : M.bytes.length ≤ 70368744177664 := by
  have r7 := numB_ten (u64_lt M.co)
  simp only [Msg.bytes, List.length_append, List.length_singleton]
  unfold Msg.body
  split
  · rw [List.length_append]; omega
  split
  · omega
  split
  · omega
  split
  · rw [List.length_append]; omega
  split
  · simp only [List.length_append]; omega
  split
  · omega
  split
  · rw [List.length_append]; omega
  split
  · rw [List.length_append]; omega
  split
  · omega
  · simp
theorem opA_msg (h : DataW.trod enc Try.prog W 0 sp held fuel 95 cs = some x) (hb : Rows.uptoBulk x.1 ≤ 1048576) : ∃ M : Msg, cs = M.cells ∧ MsIn W (fun g => g < W.heap.size) M ∧ (M.sp.lo.l.length ≤ 1048576 ∧ M.sp.hi.l.length ≤ 1048576 ∧ M.bo.l.length ≤ 1048576) ∧ (M.pn ≤ 1048576 ∧ M.cn ≤ 1048576) ∧ (∀ i, i < M.cn → (M.cs i).ky.l.length ≤ 1048576 ∧ (M.cs i).od.l.length ≤ 1048576 ∧ (M.cs i).nw.l.length ≤ 1048576) ∧ M.bytes.length ≤ 70368744177664 := by
  obtain ⟨xs, m, _, rfl, hl, hxs, hel⟩ := DataW.trod_struct Try.underlying95 h
  have hxs : xs.length = 11 := hxs
  rw [Try.ca95] at hl
  have e0 : DataW.trod enc Try.prog W 0 sp held m 3 ((cs.drop 0).take (Try.prog.cellsOf 3)) = xs[0]? := hel 0 _ rfl
  have e1 : DataW.trod enc Try.prog W 0 sp held m 29 ((cs.drop 1).take (Try.prog.cellsOf 29)) = xs[1]? := hel 1 _ rfl
  have e2 : DataW.trod enc Try.prog W 0 sp held m 29 ((cs.drop 2).take (Try.prog.cellsOf 29)) = xs[2]? := hel 2 _ rfl
  have e3 : DataW.trod enc Try.prog W 0 sp held m 89 ((cs.drop 3).take (Try.prog.cellsOf 89)) = xs[3]? := hel 3 _ rfl
  have e4 : DataW.trod enc Try.prog W 0 sp held m 91 ((cs.drop 6).take (Try.prog.cellsOf 91)) = xs[4]? := hel 4 _ rfl
  have e5 : DataW.trod enc Try.prog W 0 sp held m 31 ((cs.drop 39).take (Try.prog.cellsOf 31)) = xs[5]? := hel 5 _ rfl
  have e6 : DataW.trod enc Try.prog W 0 sp held m 29 ((cs.drop 71).take (Try.prog.cellsOf 29)) = xs[6]? := hel 6 _ rfl
  have e7 : DataW.trod enc Try.prog W 0 sp held m 54 ((cs.drop 72).take (Try.prog.cellsOf 54)) = xs[7]? := hel 7 _ rfl
  have e8 : DataW.trod enc Try.prog W 0 sp held m 23 ((cs.drop 73).take (Try.prog.cellsOf 23)) = xs[8]? := hel 8 _ rfl
  have e9 : DataW.trod enc Try.prog W 0 sp held m 92 ((cs.drop 74).take (Try.prog.cellsOf 92)) = xs[9]? := hel 9 _ rfl
  have eA : DataW.trod enc Try.prog W 0 sp held m 93 ((cs.drop 75).take (Try.prog.cellsOf 93)) = xs[10]? := hel 10 _ rfl
  rw [Try.c3] at e0
  rw [Try.c29] at e1 e2 e6
  rw [Try.ca89] at e3
  rw [Try.ca91] at e4
  rw [Try.c31] at e5
  rw [Try.ca54] at e7
  rw [Try.c23] at e8
  rw [Try.ca92] at e9
  rw [Try.ca93] at eA
  rw [List.getElem?_eq_getElem (by omega)] at e0 e1 e2 e3 e4 e5 e6 e7 e8 e9 eA
  have q3 := bulkA_part (H := H) (xs := xs) (i := 3) (by omega)
  have q8 := bulkA_part (H := H) (xs := xs) (i := 8) (by omega)
  have q9 := bulkA_part (H := H) (xs := xs) (i := 9) (by omega)
  have qA := bulkA_part (H := H) (xs := xs) (i := 10) (by omega)
  have hb : Rows.uptoBulk (DataW.agg (xs.map (·.1))) ≤ 1048576 := hb
  obtain ⟨n0, c0, _, w0⟩ := DataW.trod_int Try.underlying3 e0
  obtain ⟨n1, c1, _, w1⟩ := DataW.trod_int Try.underlying29 e1
  obtain ⟨n2, c2, _, w2⟩ := DataW.trod_int Try.underlying29 e2
  obtain ⟨o3, c3, i3, y3, y3', l3, l3'⟩ := opA_span e3 (by omega)
  obtain ⟨n4, z4, c4, i4, h4, b4⟩ := opA_head e4
  obtain ⟨z5, c5, h5, b5⟩ := opA_sum e5
  obtain ⟨n6, c6, _, w6⟩ := DataW.trod_int Try.underlying29 e6
  obtain ⟨n7, c7, _, w7⟩ := DataW.trod_int Try.underlying54 e7
  obtain ⟨t8, c8, i8, y8, l8⟩ := opA_text e8 (by omega)
  obtain ⟨pa, pn, pc, ps, c9, hpn, hpr, hpq, hpl⟩ := opA_list (K := 32) Try.underlying92 Try.c31 (by decide) (fun z => bs z) (fun z => z.length = 32 ∧ Byts z) (fun z => z) [] (fun h _ => by
    obtain ⟨z, h1, h2, h3⟩ := opA_sum h
    exact ⟨z, h1, ⟨h2, h3⟩, by have := bulkA_pos (H := H) (by assumption : DataW H × List MemPlace).1; omega⟩) e9 (by omega)
  obtain ⟨ca, cn, cc, cg, cA, hcn, hcr, hcq, hcl⟩ := opA_list (K := 40) Try.underlying93 Try.ca215 (by decide) Cg.cells (fun k => CgIn W (fun g => g < W.heap.size) k ∧ k.ky.l.length ≤ 1048576 ∧ k.od.l.length ≤ 1048576 ∧ k.nw.l.length ≤ 1048576) Cg.bytes ⟨tx0, false, tx0, false, tx0⟩ (fun h hb => opA_change h hb) eA (by omega)
  have j0 := bounds_i64 w0
  have j1 := bounds_u64 w1
  have j2 := bounds_u64 w2
  have j6 := bounds_u64 w6
  have j7 := bounds_i64 w7
  have k1 : n1.toNat < 18446744073709551616 := by omega
  have k2 : n2.toNat < 18446744073709551616 := by omega
  have k6 : n6.toNat < 18446744073709551616 := by omega
  refine ⟨⟨n0, n1.toNat, n2.toNat, o3, n4, z4, z5, n6.toNat, n7, t8, pa, pn, pc, ps, ca, cn, cc, cg⟩, ?_, ⟨j0, k1, k2, i4, k6, i3, h4, h5, i8, by show pn ≤ _; omega, hpr, fun i hi => (hpq i hi).1, by show cn ≤ _; omega, hcr, fun i hi => (hcq i hi).1⟩, ⟨l3, l3', by show t8.l.length ≤ _; omega⟩, ⟨hpn, hcn⟩, fun i hi => (hcq i hi).2, ?_⟩
  · have d0 := cutA_one c0
    have d1 := cutA_one c1
    have d2 := cutA_one c2
    have d3 := cutA_more c3
    have d4 := cutA_more c4
    have d5 := cutA_more c5
    have d6 := cutA_one c6
    have d7 := cutA_one c7
    have d8 := cutA_one c8
    have d9 := cutA_one c9
    have dA := cutA_one cA
    have f1 : ((n1.toNat : Nat) : Int) = n1 := by omega
    have f2 : ((n2.toNat : Nat) : Int) = n2 := by omega
    have f6 : ((n6.toNat : Nat) : Int) = n6 := by omega
    have last : cs.drop (75 + 1) = [] := List.drop_of_length_le (by omega)
    rw [last] at dA
    rw [List.drop_zero] at d0
    show cs = .int .i64 n0 :: .int .u64 ((n1.toNat : Nat) : Int) :: .int .u64 ((n2.toNat : Nat) : Int) :: o3.lo.val :: o3.hi.val :: .bool o3.op :: .int .u64 n4 :: (bs z4 ++ (bs z5 ++ [.int .u64 ((n6.toNat : Nat) : Int), .int .i64 n7, t8.val, .slice pa pn pc, .slice ca cn cc]))
    rw [f1, f2, f6, d0, d1, d2, d3, d4, d5, d6, d7, d8, d9, dA]
    rfl
  · have r1 := numB_ten k1
    have r2 := numB_ten k2
    have r4 := numB_ten i4
    have r6 := numB_ten k6
    have r8 := t8.bytes_le i8.le
    have s1 := o3.lo.bytes_le i3.lo.le
    have s2 := o3.hi.bytes_le i3.hi.le
    have rp := numB_ten (n := pn) (by omega)
    have rc := numB_ten (n := cn) (by omega)
    have hpl : (recsB ps pn).length ≤ 32 * 1048576 := hpl
    have hcl : (recsB (fun i => (cg i).bytes) cn).length ≤ 40 * 1048576 := hcl
    have sp : o3.bytes.length ≤ 1 + o3.lo.bytes.length + o3.hi.bytes.length := by
      have z : (if o3.op = true then ([] : List Int) else o3.hi.bytes).length ≤ o3.hi.bytes.length := by split <;> simp
      simp only [Sp.bytes, List.length_append, List.length_singleton]
      omega
    exact Msg.len_le (M := ⟨n0, n1.toNat, n2.toNat, o3, n4, z4, z5, n6.toNat, n7, t8, pa, pn, pc, ps, ca, cn, cc, cg⟩) r1 r2 r4 r6 h4 h5 (by show o3.bytes.length ≤ _; omega) (by show t8.bytes.length ≤ _; omega) rp rc hpl hcl
theorem opP_text (h : DataW.trod enc Try.prog W 0 sp held fuel 23 cs = some x) : ∃ (v : Value) (l : List Int), cs = [v] ∧ Src W v l ∧ Byts l ∧ (∃ a c, v = .slice a l.length c ∧ l.length ≤ c ∧ c ≤ 9223372036854775807) ∧ l.length ≤ Rows.uptoBulk x.1 := by
  rcases ChangeShapes.open_ints Try.underlying23 Try.underlying5 Try.c5 h with ⟨rfl, rfl⟩ | ⟨a, len, cap, zs, rfl, _, hl, hcap, hzl, rfl, hc, hw⟩
  · refine ⟨_, [], rfl, .inl ⟨rfl, rfl⟩, ?_, ⟨none, 0, rfl, Nat.le_refl _, by omega⟩, by simp⟩
    intro y hy
    cases hy
  · have hlz : len ≤ zs.length := by rw [hzl]; split <;> omega
    have htl : (zs.take len).length = len := by rw [List.length_take]; omega
    refine ⟨_, zs.take len, rfl, .inr ⟨a, cap, by rw [htl], fun j u hu => ?_⟩, fun y hy => bounds_u8 (hw y (List.mem_of_mem_take hy)), ⟨some a, cap, by rw [htl], by omega, by unfold maxLen at hcap; omega⟩, ?_⟩
    · have hj : j < len := by have := (List.getElem?_eq_some_iff.1 hu).1; rw [bs_len, htl] at this; exact this
      have hcj := hc j (by omega)
      have hc0 := hc 0 (by omega)
      have hs : a.spot = none := by simpa [Addr.add] using World.cell?_spot hc0
      refine ⟨hs, ?_⟩
      obtain ⟨b, o, s⟩ := a
      simp only at hs
      subst hs
      rw [addr_add] at hcj
      rw [hcj, ← hu, bs_get _ _ (by omega)]
      simp only [List.getElem_take]
      rw [List.getD_eq_getElem?_getD, List.getElem?_eq_getElem (by omega)]
      rfl
    · simp only [Rows.uptoBulk]
      have := bulkA_len (H := H) (ChangeShapes.lits .u8 (zs.take len))
      have e : (ChangeShapes.lits (H := H) .u8 (zs.take len)).length = len := by simp [ChangeShapes.lits]; omega
      omega
end
set_option maxRecDepth 100000 in
theorem slice_blockP {W : World} {base : Nat} {x : Option Addr} {y z k : Nat} (h : Value.okWide Try.prog W .any base 23 (.slice x y z)) (hk : (Value.slice x y z).ownBlock = some k) : k < W.heap.size := by
  cases x with
  | none => cases hk
  | some ad =>
    have h2 : Cell.okWide Try.prog W .any base 23 (.slice (some ad) y z) := by
      unfold Value.okWide at h
      rw [Try.underlying23] at h
      exact h
    unfold Cell.okWide at h2
    rw [Try.underlying23] at h2
    have h3 : Cell.ok Try.prog W .any base 23 (.slice (some ad) y z) := h2
    unfold Cell.ok at h3
    rw [Try.underlying23] at h3
    obtain ⟨_, _, _, _, row, cells, hs, _⟩ := h3
    have e : ad.block = k := by simpa [Value.ownBlock] using hk
    rw [← e]
    unfold World.shape? at hs
    rcases Nat.lt_or_ge ad.block W.heap.size with hlt | hge
    · exact hlt
    · rw [Array.getElem?_eq_none hge] at hs; cases hs
end Go.Proofs.Ytjmeaebehndheaa
