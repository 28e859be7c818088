/-
  CodecTowers: what came in, opened: towers, and their bulk.
-/
import Derived.Test.YtkchmoapcmageaaTq
import Derived.Test.YtkchmoapcmageaaOpenS
namespace Go.Proofs.Ytkchmoapcmageaa
open Go.ChangeShapes Go.WideShapes Go.ChangeAt Go.RowKit

theorem Try.ca112 : Try.prog.cellsOf 112 = 68 := by kernel_rfl
theorem Try.ca69 : Try.prog.cellsOf 69 = 36 := by kernel_rfl
theorem Try.ca67 : Try.prog.cellsOf 67 = 1 := by kernel_rfl
theorem Try.ca4 : Try.prog.cellsOf 4 = 1 := by kernel_rfl
/-- A text in memory. -/
structure Tx where
  a : Option Addr
  n : Nat
  c : Nat
  l : List Int
abbrev Tx.val (t : Tx) : Value := .slice t.a t.n t.c
structure TxIn (w : World) (Av : Nat → Prop) (t : Tx) : Prop where
  s : Src w t.val t.l
  av : ∀ g, t.val.ownBlock = some g → Av g ∨ t.l = []
  le : t.l.length ≤ 140737488355328

theorem bulkA_pos {H : Type} (d : DataW H) : 1 ≤ Rows.uptoBulk d := by
  cases d with
  | lit l => cases l <;> simp [Rows.uptoBulk]
  | nil => simp [Rows.uptoBulk]
  | ptr d => simp [Rows.uptoBulk]
  | slice elems spare => simp [Rows.uptoBulk]
  | agg parts => simp [Rows.uptoBulk]
  | iface t d => simp [Rows.uptoBulk]
  | map entries => simp [Rows.uptoBulk]
  | held h => simp [Rows.uptoBulk]
theorem bulkA_len {H : Type} (l : List (DataW H)) : l.length ≤ Rows.uptoBulkAll l := by
  induction l with
  | nil => simp [Rows.uptoBulkAll]
  | cons x r ih => have := bulkA_pos x; simp only [Rows.uptoBulkAll, List.length_cons]; omega
theorem bulkA_mem {H : Type} {d : DataW H} {l : List (DataW H)} (h : d ∈ l) : Rows.uptoBulk d ≤ Rows.uptoBulkAll l := by
  induction l with
  | nil => cases h
  | cons x r ih =>
    simp only [Rows.uptoBulkAll]
    rcases List.mem_cons.1 h with rfl | h
    · omega
    · have := ih h; omega
theorem bulkA_app {H : Type} (l r : List (DataW H)) : Rows.uptoBulkAll (l ++ r) = Rows.uptoBulkAll l + Rows.uptoBulkAll r := by
  induction l with
  | nil => simp [Rows.uptoBulkAll]
  | cons x l ih => simp only [List.cons_append, Rows.uptoBulkAll, ih]; omega
theorem bulkA_part {H : Type} {xs : List (DataW H × List MemPlace)} {i : Nat} (hi : i < xs.length) : Rows.uptoBulk (xs[i]).1 ≤ Rows.uptoBulk (DataW.agg (xs.map (·.1))) := by
  have := bulkA_mem (H := H) (List.mem_map.2 ⟨xs[i], List.getElem_mem hi, rfl⟩ : (xs[i]).1 ∈ xs.map (·.1))
  simp only [Rows.uptoBulk]
  omega
theorem cutA_one {cs : List Value} {k : Nat} {v : Value} (hv : (cs.drop k).take 1 = [v]) : cs.drop k = v :: cs.drop (k + 1) := by
  have hlt : k < cs.length := by
    rcases Nat.lt_or_ge k cs.length with h | h
    · exact h
    · rw [List.drop_of_length_le h] at hv; simp at hv
  rw [List.drop_eq_getElem_cons hlt] at hv ⊢
  injection hv with hv _
  rw [hv]
theorem cutA_more {cs x : List Value} {k m : Nat} (hv : (cs.drop k).take m = x) : cs.drop k = x ++ cs.drop (k + m) := by
  rw [← hv]
  have h9 := (List.take_append_drop m (cs.drop k)).symm
  rwa [List.drop_drop] at h9

section
variable {H : Type} {enc : TypeId × Value → H} {W : World} {sp : Nat → Bool} {held : Bool} {fuel : Nat} {cs : List Value} {x : DataW H × List MemPlace}

theorem opA_sum (h : DataW.trod enc Try.prog W 0 sp held fuel 31 cs = some x) : ∃ z : List Int, cs = bs z ∧ z.length = 32 ∧ Byts z := by
  obtain ⟨z, h1, h2, h3⟩ := op_sumS h
  exact ⟨z, h2, h1, h3⟩
/-- Bytes that came in, wherever they lie. -/
theorem opA_text (h : DataW.trod enc Try.prog W 0 sp held fuel 23 cs = some x) (hb : Rows.uptoBulk x.1 ≤ 1048576) : ∃ t : Tx, cs = [t.val] ∧ TxIn W (fun g => g < W.heap.size) t ∧ Byts t.l ∧ t.l.length ≤ Rows.uptoBulk x.1 := by
  rcases ChangeShapes.open_ints Try.underlying23 Try.underlying5 Try.c5 h with ⟨rfl, rfl⟩ | ⟨a, len, cap, zs, rfl, _, hl, hcap, hzl, rfl, hc, hw⟩
  · exact ⟨⟨none, 0, 0, []⟩, rfl, ⟨.inl ⟨rfl, rfl⟩, (fun g hg => by simp [Value.ownBlock] at hg), (by simp)⟩, (fun y hy => by cases hy), (by simp)⟩
  · have hlz : len ≤ zs.length := by rw [hzl]; split <;> omega
    have htl : (zs.take len).length = len := by rw [List.length_take]; omega
    have hsrc : Src W (.slice (some a) (zs.take len).length cap) (zs.take len) := .inr ⟨a, cap, rfl, fun j u hu => by
      have hj : j < len := by have := (List.getElem?_eq_some_iff.1 hu).1; rw [bs_len, htl] at this; exact this
      have hcj := hc j (by omega)
      have hc0 := hc 0 (by omega)
      have hs : a.spot = none := by simpa [Addr.add] using World.cell?_spot hc0
      refine ⟨hs, ?_⟩
      obtain ⟨b, o, s⟩ := a
      simp only at hs
      subst hs
      rw [addr_add] at hcj
      rw [hcj, ← hu, bs_get _ _ (by omega)]
      simp only [List.getElem_take]
      rw [List.getD_eq_getElem?_getD, List.getElem?_eq_getElem (by omega)]
      rfl⟩
    rw [htl] at hsrc
    have hbl : len ≤ Rows.uptoBulk (H := H) (DataW.slice (ChangeShapes.lits .u8 (zs.take len)) (ChangeShapes.lits .u8 (zs.drop len))) := by
      simp only [Rows.uptoBulk]
      have := bulkA_len (H := H) (ChangeShapes.lits .u8 (zs.take len))
      have e : (ChangeShapes.lits (H := H) .u8 (zs.take len)).length = len := by simp [ChangeShapes.lits]; omega
      omega
    have hbx : len ≤ 1048576 := by
      have hb' := hb
      simp only [Rows.uptoBulk] at hb'
      have := bulkA_len (H := H) (ChangeShapes.lits .u8 (zs.take len))
      have e : (ChangeShapes.lits (H := H) .u8 (zs.take len)).length = len := by simp [ChangeShapes.lits]; omega
      omega
    refine ⟨⟨some a, len, cap, zs.take len⟩, rfl, ⟨hsrc, fun g hg => ?_, by show (zs.take len).length ≤ _; omega⟩, fun y hy => bounds_u8 (hw y (List.mem_of_mem_take hy)), ?_⟩
    · rcases Nat.eq_zero_or_pos len with h0 | h0
      · exact .inr (List.eq_nil_of_length_eq_zero (by show (zs.take len).length = 0; omega))
      · left
        have hc0 := hc 0 (by omega)
        have e : a.block = g := by simpa [Tx.val, Value.ownBlock] using hg
        have := World.block_lt_of_cell? _ _ hc0
        have e2 : (a.add 0).block = a.block := by unfold Addr.add; split <;> rfl
        omega
    · show (zs.take len).length ≤ _
      simp only [Rows.uptoBulk]
      have := bulkA_len (H := H) (ChangeShapes.lits .u8 (zs.take len))
      have e : (ChangeShapes.lits (H := H) .u8 (zs.take len)).length = len := by simp [ChangeShapes.lits]; omega
      omega
/-- A list of records, and how long their bytes are. -/
theorem opA_list {α : Type} {sl ty sz K M : Nat} (hu : Try.prog.underlying sl = some (.slice ty)) (hc : Try.prog.cellsOf ty = sz) (hp : 0 < sz) (cell : α → List Value) (Q : α → Prop) (byt : α → List Int) (dflt : α)
    (hel0 : ∀ {n : Nat} {cs : List Value} {x : DataW H × List MemPlace}, DataW.trod enc Try.prog W 0 sp held n ty cs = some x → Rows.uptoBulk x.1 ≤ 1048576 → ∃ r, cs = cell r ∧ (Q r ∧ M ≤ Rows.uptoBulk x.1) ∧ (byt r).length ≤ K * Rows.uptoBulk x.1)
    (h : DataW.trod enc Try.prog W 0 sp held fuel sl cs = some x) (hb : Rows.uptoBulk x.1 ≤ 1048576) :
    ∃ (sa : Option Addr) (sn sc : Nat) (f : Nat → α), cs = [.slice sa sn sc] ∧ sn * M ≤ 1048576 ∧ RowsIn W (fun g => g < W.heap.size) sa sn sz (fun i => cell (f i)) ∧ (∀ i, i < sn → Q (f i)) ∧ (recsB (fun i => byt (f i)) sn).length ≤ K * 1048576 := by
  rcases DataW.trod_slice hu h with ⟨rfl, _⟩ | ⟨a, len, cap, elems, rest, n, _, rfl, rfl, _, hlc, hmx, hlen, hel, _, _⟩
  · exact ⟨none, 0, 0, fun _ => dflt, rfl, by omega, fun i hi => by omega, fun i hi => by omega, by simp [recsB]⟩
  · have hbul : Rows.uptoBulkAll (elems.map (·.1)) ≤ 1048576 := by
      simp only [Rows.uptoBulk] at hb
      omega
    have cells : ∀ i, (hi : i < len) → ∃ cs', W.cells? 0 (a.add (i * sz)) sz = some cs' ∧ DataW.trod enc Try.prog W 0 sp held n ty cs' = some (elems[i]'(by omega)) := by
      intro i hi
      have e := hel i hi
      rw [List.getElem?_eq_getElem (by omega), Option.bind_eq_some_iff] at e
      obtain ⟨cs', hcs, ht⟩ := e
      rw [hc] at hcs
      exact ⟨cs', hcs, ht⟩
    have spot : 0 < len → a.spot = none := by
      intro h0
      obtain ⟨cs', hcs, ht⟩ := cells 0 h0
      obtain ⟨_, hl, hcc⟩ := World.cells?_some hcs
      have h1 := hcc 0 hp
      rw [List.getElem?_eq_getElem (by omega)] at h1
      simpa [Addr.add] using World.cell?_spot h1
    have key : ∀ i, (hi : i < len) → ∃ r : α, (∃ g o, some a = some ⟨g, o, none⟩ ∧ g < W.heap.size ∧ W.rangeAt g (o + i * sz) (cell r)) ∧ (Q r ∧ M ≤ Rows.uptoBulk (elems[i]'(by omega)).1) ∧ (byt r).length ≤ K * Rows.uptoBulk (elems[i]'(by omega)).1 := by
      intro i hi
      obtain ⟨cs', hcs, ht⟩ := cells i hi
      have hbi : Rows.uptoBulk (elems[i]'(by omega)).1 ≤ 1048576 := Nat.le_trans (bulkA_mem (H := H) (List.mem_map.2 ⟨elems[i]'(by omega), List.getElem_mem _, rfl⟩ : (elems[i]'(by omega)).1 ∈ elems.map (·.1))) hbul
      obtain ⟨r, rfl, h1⟩ := hel0 ht hbi
      obtain ⟨_, hl, hcc⟩ := World.cells?_some hcs
      refine ⟨r, ?_, h1⟩
      have hs := spot (by omega)
      obtain ⟨g, o, sp'⟩ := a
      simp only at hs
      subst hs
      have hr : W.rangeAt g (o + i * sz) (cell r) := fun j u hu => by
        have hj : j < sz := by have := (List.getElem?_eq_some_iff.1 hu).1; omega
        have := hcc j hj
        rw [addr_add, addr_add] at this
        rw [this, hu]
      refine ⟨g, o, rfl, ?_, hr⟩
      exact World.block_lt_of_cell? _ _ (hr 0 _ (List.getElem?_eq_getElem (by omega)))
    let f : Nat → α := fun i => if h : i < len then Classical.choose (key i h) else dflt
    have hf : ∀ i, (h : i < len) → f i = Classical.choose (key i h) := fun i h => by show (if h : i < len then _ else _) = _; rw [dif_pos h]
    have bud : ∀ k, k ≤ len → (recsB (fun i => byt (f i)) k).length ≤ K * Rows.uptoBulkAll ((elems.map (·.1)).take k) := by
      intro k
      induction k with
      | zero => intro _; simp [recsB]
      | succ k ih =>
        intro hk
        have h1 := ih (by omega)
        have h2 := (Classical.choose_spec (key k (by omega))).2.2
        rw [← hf k (by omega)] at h2
        rw [List.take_succ_eq_append_getElem (by simp; omega), bulkA_app]
        simp only [recsB, List.length_append, Rows.uptoBulkAll, List.getElem_map, Nat.add_zero, Nat.mul_add]
        omega
    have low : ∀ k, k ≤ len → k * M ≤ Rows.uptoBulkAll ((elems.map (·.1)).take k) := by
      intro k
      induction k with
      | zero => intro _; simp
      | succ k ih =>
        intro hk
        have h1 := ih (by omega)
        have h2 := (Classical.choose_spec (key k (by omega))).2.1.2
        rw [List.take_succ_eq_append_getElem (by simp; omega), bulkA_app]
        simp only [Rows.uptoBulkAll, List.getElem_map, Nat.add_zero, Nat.succ_mul]
        omega
    refine ⟨some a, len, cap, f, rfl, ?_, fun i hi => ?_, fun i hi => ?_, ?_⟩
    · have h1 := low len (Nat.le_refl _)
      rw [List.take_of_length_le (by rw [List.length_map]; omega)] at h1
      omega
    · have h9 := (Classical.choose_spec (key i hi)).1
      rw [← hf i hi] at h9
      exact h9
    · rw [hf i hi]; exact (Classical.choose_spec (key i hi)).2.1.1
    · have h1 := bud len (Nat.le_refl _)
      rw [List.take_of_length_le (by rw [List.length_map]; omega)] at h1
      exact Nat.le_trans h1 (Nat.mul_le_mul_left K hbul)
theorem opA_addr (h : DataW.trod enc Try.prog W 0 sp held fuel 33 cs = some x) : ∃ z : List Int, cs = bs z ∧ z.length = 33 := by
  obtain ⟨z, nth, h1, h2, _⟩ := op_addrS h
  exact ⟨z ++ [nth], h2, by simp [h1]⟩
theorem opA_kid (h : DataW.trod enc Try.prog W 0 sp held fuel 112 cs = some x) (hb : Rows.uptoBulk x.1 ≤ 1048576) : ∃ k : Kd, cs = k.cells ∧ ((KdIn W (fun g => g < W.heap.size) k ∧ k.kl.length ≤ 1048576) ∧ 6 ≤ Rows.uptoBulk x.1) ∧ k.bytes.length ≤ 100 * Rows.uptoBulk x.1 := by
  obtain ⟨xs, m, _, rfl, hl, hxs, hel⟩ := DataW.trod_struct Try.underlying112 h
  have hxs : xs.length = 5 := hxs
  rw [Try.ca112] at hl
  have e0 : DataW.trod enc Try.prog W 0 sp held m 3 ((cs.drop 0).take (Try.prog.cellsOf 3)) = xs[0]? := hel 0 _ rfl
  have e1 : DataW.trod enc Try.prog W 0 sp held m 23 ((cs.drop 1).take (Try.prog.cellsOf 23)) = xs[1]? := hel 1 _ rfl
  have e2 : DataW.trod enc Try.prog W 0 sp held m 29 ((cs.drop 2).take (Try.prog.cellsOf 29)) = xs[2]? := hel 2 _ rfl
  have e3 : DataW.trod enc Try.prog W 0 sp held m 33 ((cs.drop 3).take (Try.prog.cellsOf 33)) = xs[3]? := hel 3 _ rfl
  have e4 : DataW.trod enc Try.prog W 0 sp held m 31 ((cs.drop 36).take (Try.prog.cellsOf 31)) = xs[4]? := hel 4 _ rfl
  rw [Try.c3] at e0
  rw [Try.c23] at e1
  rw [Try.c29] at e2
  rw [Try.c33] at e3
  rw [Try.c31] at e4
  rw [List.getElem?_eq_getElem (by omega)] at e0 e1 e2 e3 e4
  have q1 := bulkA_part (H := H) (xs := xs) (i := 1) (by omega)
  have ql := bulkA_len (H := H) (xs.map (·.1))
  rw [List.length_map, hxs] at ql
  obtain ⟨B, hB⟩ : ∃ B, B = Rows.uptoBulk (DataW.agg (xs.map (·.1))) := ⟨_, rfl⟩
  have hb : Rows.uptoBulk (DataW.agg (xs.map (·.1))) ≤ 1048576 := hb
  have hp : 6 ≤ Rows.uptoBulk (DataW.agg (xs.map (·.1))) := by simp only [Rows.uptoBulk]; omega
  rw [← hB] at q1 hb hp
  obtain ⟨n0, c0, _, w0⟩ := DataW.trod_int Try.underlying3 e0
  obtain ⟨t1, c1, i1, y1, l1⟩ := opA_text e1 (by omega)
  obtain ⟨n2, c2, _, w2⟩ := DataW.trod_int Try.underlying29 e2
  obtain ⟨z3, c3, h3⟩ := opA_addr e3
  obtain ⟨z4, c4, h4, _⟩ := opA_sum e4
  have i0 := bounds_i64 w0
  have i2 := bounds_u64 w2
  have hn2 : n2.toNat < 18446744073709551616 := by omega
  refine ⟨⟨n0, t1.a, t1.n, t1.c, t1.l, n2.toNat, z3, z4⟩, ?_, ⟨⟨⟨i1.s, i1.av, i0, hn2, h3, h4⟩, by show t1.l.length ≤ _; omega⟩, by rw [← hB]; exact hp⟩, ?_⟩
  · have d0 := cutA_one c0
    have d1 := cutA_one c1
    have d2 := cutA_one c2
    have d3 := cutA_more c3
    have d4 := cutA_more c4
    have e : ((n2.toNat : Nat) : Int) = n2 := by omega
    have last : cs.drop (36 + 32) = [] := List.drop_of_length_le (by omega)
    rw [last, List.append_nil] at d4
    rw [List.drop_zero] at d0
    show cs = .int .i64 n0 :: t1.val :: .int .u64 ((n2.toNat : Nat) : Int) :: bs (z3 ++ z4)
    rw [e, bs_app, d0, d1, d2, d3, d4]
  · show (Kd.bytes _).length ≤ 100 * Rows.uptoBulk (DataW.agg (xs.map (·.1)))
    rw [← hB]
    have r1 := numB_ten (n := t1.l.length) (by omega)
    have r2 := numB_ten hn2
    simp only [Kd.bytes, List.length_append, List.length_singleton, h3, h4]
    omega
theorem opA_tower (h : DataW.trod enc Try.prog W 0 sp held fuel 69 cs = some x) (hb : Rows.uptoBulk x.1 ≤ 1048576) : ∃ P : Tw, cs = P.cells ∧ TwIn W (fun g => g < W.heap.size) P ∧ P.sn ≤ 1000000 ∧ P.kl.length ≤ 1048576 ∧ (∀ i, i < P.sn → (P.ks i).kl.length ≤ 1048576) ∧ P.bytes.length ≤ 70368744177664 := by
  obtain ⟨xs, m, _, rfl, hl, hxs, hel⟩ := DataW.trod_struct Try.underlying69 h
  have hxs : xs.length = 4 := hxs
  rw [Try.ca69] at hl
  have e0 : DataW.trod enc Try.prog W 0 sp held m 4 ((cs.drop 0).take (Try.prog.cellsOf 4)) = xs[0]? := hel 0 _ rfl
  have e1 : DataW.trod enc Try.prog W 0 sp held m 23 ((cs.drop 1).take (Try.prog.cellsOf 23)) = xs[1]? := hel 1 _ rfl
  have e2 : DataW.trod enc Try.prog W 0 sp held m 33 ((cs.drop 2).take (Try.prog.cellsOf 33)) = xs[2]? := hel 2 _ rfl
  have e3 : DataW.trod enc Try.prog W 0 sp held m 67 ((cs.drop 35).take (Try.prog.cellsOf 67)) = xs[3]? := hel 3 _ rfl
  rw [Try.ca4] at e0
  rw [Try.c23] at e1
  rw [Try.c33] at e2
  rw [Try.ca67] at e3
  rw [List.getElem?_eq_getElem (by omega)] at e0 e1 e2 e3
  have q1 := bulkA_part (H := H) (xs := xs) (i := 1) (by omega)
  have q3 := bulkA_part (H := H) (xs := xs) (i := 3) (by omega)
  have hb : Rows.uptoBulk (DataW.agg (xs.map (·.1))) ≤ 1048576 := hb
  obtain ⟨b0, c0, _⟩ := DataW.trod_bool Try.underlying4 e0
  obtain ⟨t1, c1, i1, y1, l1⟩ := opA_text e1 (by omega)
  obtain ⟨z2, c2, h2⟩ := opA_addr e2
  obtain ⟨sa, sn, sc, f, c3, hsn, hrow, hq, hlen⟩ := opA_list (K := 100) (M := 6) Try.underlying67 Try.ca112 (by decide) Kd.cells (fun k => KdIn W (fun g => g < W.heap.size) k ∧ k.kl.length ≤ 1048576) Kd.bytes ⟨0, none, 0, 0, [], 0, [], []⟩ (fun h hb => opA_kid h hb) e3 (by omega)
  have hk1 : t1.l.length ≤ 1048576 := by omega
  refine ⟨⟨b0, t1.a, t1.n, t1.c, t1.l, z2, sa, sn, sc, f⟩, ?_, ⟨i1.s, i1.av, h2, by show sn ≤ _; omega, by show t1.l.length ≤ _; omega, hrow, fun i hi => (hq i hi).1⟩, by show sn ≤ _; omega, hk1, fun i hi => (hq i hi).2, ?_⟩
  · have d0 := cutA_one c0
    have d1 := cutA_one c1
    have d2 := cutA_more c2
    have d3 := cutA_one c3
    have last : cs.drop (35 + 1) = [] := List.drop_of_length_le (by omega)
    rw [last] at d3
    rw [List.drop_zero] at d0
    show cs = .bool b0 :: t1.val :: (bs z2 ++ [.slice sa sn sc])
    rw [d0, d1, d2, d3]
  · have r1 := numB_ten (n := t1.l.length) (by omega)
    have r3 := numB_ten (n := sn) (by omega)
    have hlen : (recsB (fun i => (f i).bytes) sn).length ≤ 100 * 1048576 := hlen
    have ow : ∀ T : Tw, T.kl = t1.l → T.vl = z2 → T.own.length ≤ 43 + t1.l.length := fun T h1 h2' => by
      unfold Tw.own
      split
      · simp
      · simp only [List.length_append, h1, h2', h2]; omega
    have o1 := ow ⟨b0, t1.a, t1.n, t1.c, t1.l, z2, sa, sn, sc, f⟩ rfl rfl
    have kb : ([if b0 then (1 : Int) else 0] ++ Tw.own ⟨b0, t1.a, t1.n, t1.c, t1.l, z2, sa, sn, sc, f⟩ ++ numB sn ++ kidsB f sn).length ≤ 70368744177664 := by
      rw [kidsB_recs]
      simp only [List.length_append, List.length_singleton]
      omega
    exact kb
theorem opP_text (h : DataW.trod enc Try.prog W 0 sp held fuel 23 cs = some x) : ∃ (v : Value) (l : List Int), cs = [v] ∧ Src W v l ∧ Byts l ∧ (∃ a c, v = .slice a l.length c ∧ l.length ≤ c ∧ c ≤ 9223372036854775807) ∧ l.length ≤ Rows.uptoBulk x.1 := by
  rcases ChangeShapes.open_ints Try.underlying23 Try.underlying5 Try.c5 h with ⟨rfl, rfl⟩ | ⟨a, len, cap, zs, rfl, _, hl, hcap, hzl, rfl, hc, hw⟩
  · refine ⟨_, [], rfl, .inl ⟨rfl, rfl⟩, ?_, ⟨none, 0, rfl, Nat.le_refl _, by omega⟩, by simp⟩
    intro y hy
    cases hy
  · have hlz : len ≤ zs.length := by rw [hzl]; split <;> omega
    have htl : (zs.take len).length = len := by rw [List.length_take]; omega
    refine ⟨_, zs.take len, rfl, .inr ⟨a, cap, by rw [htl], fun j u hu => ?_⟩, fun y hy => bounds_u8 (hw y (List.mem_of_mem_take hy)), ⟨some a, cap, by rw [htl], by omega, by unfold maxLen at hcap; omega⟩, ?_⟩
    · have hj : j < len := by have := (List.getElem?_eq_some_iff.1 hu).1; rw [bs_len, htl] at this; exact this
      have hcj := hc j (by omega)
      have hc0 := hc 0 (by omega)
      have hs : a.spot = none := by simpa [Addr.add] using World.cell?_spot hc0
      refine ⟨hs, ?_⟩
      obtain ⟨b, o, s⟩ := a
      simp only at hs
      subst hs
      rw [addr_add] at hcj
      rw [hcj, ← hu, bs_get _ _ (by omega)]
      simp only [List.getElem_take]
      rw [List.getD_eq_getElem?_getD, List.getElem?_eq_getElem (by omega)]
      rfl
    · simp only [Rows.uptoBulk]
      have := bulkA_len (H := H) (ChangeShapes.lits .u8 (zs.take len))
      have e : (ChangeShapes.lits (H := H) .u8 (zs.take len)).length = len := by simp [ChangeShapes.lits]; omega
      omega

end
set_option maxRecDepth 100000 in
theorem slice_blockP {W : World} {base : Nat} {x : Option Addr} {y z k : Nat} (h : Value.okWide Try.prog W .any base 23 (.slice x y z)) (hk : (Value.slice x y z).ownBlock = some k) : k < W.heap.size := by
  cases x with
  | none => cases hk
  | some ad =>
    have h2 : Cell.okWide Try.prog W .any base 23 (.slice (some ad) y z) := by
      unfold Value.okWide at h
      rw [Try.underlying23] at h
      exact h
    unfold Cell.okWide at h2
    rw [Try.underlying23] at h2
    have h3 : Cell.ok Try.prog W .any base 23 (.slice (some ad) y z) := h2
    unfold Cell.ok at h3
    rw [Try.underlying23] at h3
    obtain ⟨_, _, _, _, row, cells, hs, _⟩ := h3
    have e : ad.block = k := by simpa [Value.ownBlock] using hk
    rw [← e]
    unfold World.shape? at hs
    rcases Nat.lt_or_ge ad.block W.heap.size with hlt | hge
    · exact hlt
    · rw [Array.getElem?_eq_none hge] at hs; cases hs


end Go.Proofs.Ytkchmoapcmageaa
