/-
  CodecPages: what came in, opened: a page and its bulk.
-/
import Derived.Test.YtfkjgfelgiogeaaPp
import Derived.Test.YtfkjgfelgiogeaaOpenS
namespace Go.Proofs.Ytfkjgfelgiogeaa
open Go.ChangeShapes Go.WideShapes Go.ChangeAt Go.RowKit

theorem Try.cp124 : Try.prog.cellsOf 112 = 2 := by kernel_rfl
theorem Try.cp128 : Try.prog.cellsOf 116 = 67 := by kernel_rfl
theorem Try.cp126 : Try.prog.cellsOf 114 = 66 := by kernel_rfl
theorem Try.cp130 : Try.prog.cellsOf 129 = 66 := by kernel_rfl
theorem Try.cp73 : Try.prog.cellsOf 73 = 65 := by kernel_rfl
theorem Try.cp49 : Try.prog.cellsOf 49 = 2 := by kernel_rfl
theorem Try.cp51 : Try.prog.cellsOf 51 = 7 := by kernel_rfl
theorem Try.cp45 : Try.prog.cellsOf 45 = 1 := by kernel_rfl
theorem Try.cp46 : Try.prog.cellsOf 46 = 1 := by kernel_rfl
theorem Try.cp47 : Try.prog.cellsOf 47 = 1 := by kernel_rfl

theorem bulkA_pos {H : Type} (d : DataW H) : 1 ≤ Rows.uptoBulk d := by
  cases d with
  | lit l => cases l <;> simp [Rows.uptoBulk]
  | nil => simp [Rows.uptoBulk]
  | ptr d => simp [Rows.uptoBulk]
  | slice elems spare => simp [Rows.uptoBulk]
  | agg parts => simp [Rows.uptoBulk]
  | iface t d => simp [Rows.uptoBulk]
  | map entries => simp [Rows.uptoBulk]
  | held h => simp [Rows.uptoBulk]
theorem bulkA_len {H : Type} (l : List (DataW H)) : l.length ≤ Rows.uptoBulkAll l := by
  induction l with
  | nil => simp [Rows.uptoBulkAll]
  | cons x r ih => have := bulkA_pos x; simp only [Rows.uptoBulkAll, List.length_cons]; omega
theorem bulkA_mem {H : Type} {d : DataW H} {l : List (DataW H)} (h : d ∈ l) : Rows.uptoBulk d ≤ Rows.uptoBulkAll l := by
  induction l with
  | nil => cases h
  | cons x r ih =>
    simp only [Rows.uptoBulkAll]
    rcases List.mem_cons.1 h with rfl | h
    · omega
    · have := ih h; omega
theorem bulkA_app {H : Type} (l r : List (DataW H)) : Rows.uptoBulkAll (l ++ r) = Rows.uptoBulkAll l + Rows.uptoBulkAll r := by
  induction l with
  | nil => simp [Rows.uptoBulkAll]
  | cons x l ih => simp only [List.cons_append, Rows.uptoBulkAll, ih]; omega
theorem bulkA_part {H : Type} {xs : List (DataW H × List MemPlace)} {i : Nat} (hi : i < xs.length) : Rows.uptoBulk (xs[i]).1 ≤ Rows.uptoBulk (DataW.agg (xs.map (·.1))) := by
  have := bulkA_mem (H := H) (List.mem_map.2 ⟨xs[i], List.getElem_mem hi, rfl⟩ : (xs[i]).1 ∈ xs.map (·.1))
  simp only [Rows.uptoBulk]
  omega
theorem cutOne {cs : List Value} {k : Nat} {v : Value} (hv : (cs.drop k).take 1 = [v]) : cs.drop k = v :: cs.drop (k + 1) := by
  have hlt : k < cs.length := by
    rcases Nat.lt_or_ge k cs.length with h | h
    · exact h
    · rw [List.drop_of_length_le h] at hv; simp at hv
  rw [List.drop_eq_getElem_cons hlt] at hv ⊢
  injection hv with hv _
  rw [hv]
theorem cutMore {cs x : List Value} {k m : Nat} (hv : (cs.drop k).take m = x) : cs.drop k = x ++ cs.drop (k + m) := by
  rw [← hv]
  have h9 := (List.take_append_drop m (cs.drop k)).symm
  rwa [List.drop_drop] at h9

section
variable {H : Type} {enc : TypeId × Value → H} {W : World} {sp : Nat → Bool} {held : Bool} {fuel : Nat} {cs : List Value} {x : DataW H × List MemPlace}

theorem opP_sum (h : DataW.trod enc Try.prog W 0 sp held fuel 31 cs = some x) : ∃ z : List Int, cs = bs z ∧ z.length = 32 ∧ Byts z := by
  obtain ⟨z, h1, h2, h3⟩ := op_sumS h
  exact ⟨z, h2, h1, h3⟩
theorem opP_addr (h : DataW.trod enc Try.prog W 0 sp held fuel 33 cs = some x) : ∃ z : List Int, cs = bs z ∧ z.length = 33 ∧ Byts z := by
  obtain ⟨z, nth, h1, h2, h3⟩ := op_addrS h
  exact ⟨z ++ [nth], h2, by simp [h1], h3⟩
theorem opP_limb (h : DataW.trod enc Try.prog W 0 sp held fuel 73 cs = some x) : ∃ (u y : List Int), cs = bs (u ++ y) ∧ u.length = 33 ∧ y.length = 32 ∧ Byts u ∧ Byts y := by
  obtain ⟨xs, m, _, _, hl, hxs, hel⟩ := DataW.trod_struct Try.underlying73 h
  have hxs : xs.length = 2 := hxs
  rw [Try.cp73] at hl
  have e0 : DataW.trod enc Try.prog W 0 sp held m 33 ((cs.drop 0).take (Try.prog.cellsOf 33)) = xs[0]? := hel 0 _ rfl
  have e1 : DataW.trod enc Try.prog W 0 sp held m 31 ((cs.drop 33).take (Try.prog.cellsOf 31)) = xs[1]? := hel 1 _ rfl
  rw [Try.c33] at e0
  rw [Try.c31] at e1
  rw [List.getElem?_eq_getElem (by omega)] at e0 e1
  obtain ⟨z, c0, hz, bz⟩ := opP_addr e0
  obtain ⟨y, c1, hy, bty⟩ := opP_sum e1
  refine ⟨z, y, ?_, hz, hy, bz, bty⟩
  have d0 := cutMore c0
  have d1 := cutMore c1
  have last : cs.drop (33 + 32) = [] := List.drop_of_length_le (by omega)
  rw [last, List.append_nil] at d1
  rw [List.drop_zero] at d0
  rw [bs_app, d0, d1]
/-- A list of records, and how long their bytes are. -/
theorem opA_list {α : Type} {sl ty sz K : Nat} (hu : Try.prog.underlying sl = some (.slice ty)) (hc : Try.prog.cellsOf ty = sz) (hp : 0 < sz) (cell : α → List Value) (Q : α → Prop) (byt : α → List Int) (dflt : α)
    (hel0 : ∀ {n : Nat} {cs : List Value} {x : DataW H × List MemPlace}, DataW.trod enc Try.prog W 0 sp held n ty cs = some x → Rows.uptoBulk x.1 ≤ 1048576 → ∃ r, cs = cell r ∧ Q r ∧ (byt r).length ≤ K * Rows.uptoBulk x.1)
    (h : DataW.trod enc Try.prog W 0 sp held fuel sl cs = some x) (hb : Rows.uptoBulk x.1 ≤ 1048576) :
    ∃ (sa : Option Addr) (sn sc : Nat) (f : Nat → α), cs = [.slice sa sn sc] ∧ sn ≤ 1048576 ∧ RowsIn W (fun g => g < W.heap.size) sa sn sz (fun i => cell (f i)) ∧ (∀ i, i < sn → Q (f i)) ∧ (recsB (fun i => byt (f i)) sn).length ≤ K * 1048576 := by
  rcases DataW.trod_slice hu h with ⟨rfl, _⟩ | ⟨a, len, cap, elems, rest, n, _, rfl, rfl, _, hlc, hmx, hlen, hel, _, _⟩
  · exact ⟨none, 0, 0, fun _ => dflt, rfl, by omega, fun i hi => by omega, fun i hi => by omega, by simp [recsB]⟩
  · have hbul : Rows.uptoBulkAll (elems.map (·.1)) ≤ 1048576 := by
      simp only [Rows.uptoBulk] at hb
      omega
    have cells : ∀ i, (hi : i < len) → ∃ cs', W.cells? 0 (a.add (i * sz)) sz = some cs' ∧ DataW.trod enc Try.prog W 0 sp held n ty cs' = some (elems[i]'(by omega)) := by
      intro i hi
      have e := hel i hi
      rw [List.getElem?_eq_getElem (by omega), Option.bind_eq_some_iff] at e
      obtain ⟨cs', hcs, ht⟩ := e
      rw [hc] at hcs
      exact ⟨cs', hcs, ht⟩
    have spot : 0 < len → a.spot = none := by
      intro h0
      obtain ⟨cs', hcs, ht⟩ := cells 0 h0
      obtain ⟨_, hl, hcc⟩ := World.cells?_some hcs
      have h1 := hcc 0 hp
      rw [List.getElem?_eq_getElem (by omega)] at h1
      simpa [Addr.add] using World.cell?_spot h1
    have key : ∀ i, (hi : i < len) → ∃ r : α, (∃ g o, some a = some ⟨g, o, none⟩ ∧ g < W.heap.size ∧ W.rangeAt g (o + i * sz) (cell r)) ∧ Q r ∧ (byt r).length ≤ K * Rows.uptoBulk (elems[i]'(by omega)).1 := by
      intro i hi
      obtain ⟨cs', hcs, ht⟩ := cells i hi
      have hbi : Rows.uptoBulk (elems[i]'(by omega)).1 ≤ 1048576 := Nat.le_trans (bulkA_mem (H := H) (List.mem_map.2 ⟨elems[i]'(by omega), List.getElem_mem _, rfl⟩ : (elems[i]'(by omega)).1 ∈ elems.map (·.1))) hbul
      obtain ⟨r, rfl, h1⟩ := hel0 ht hbi
      obtain ⟨_, hl, hcc⟩ := World.cells?_some hcs
      refine ⟨r, ?_, h1⟩
      have hs := spot (by omega)
      obtain ⟨g, o, sp'⟩ := a
      simp only at hs
      subst hs
      have hr : W.rangeAt g (o + i * sz) (cell r) := fun j u hu => by
        have hj : j < sz := by have := (List.getElem?_eq_some_iff.1 hu).1; omega
        have := hcc j hj
        rw [addr_add, addr_add] at this
        rw [this, hu]
      refine ⟨g, o, rfl, ?_, hr⟩
      exact World.block_lt_of_cell? _ _ (hr 0 _ (List.getElem?_eq_getElem (by omega)))
    let f : Nat → α := fun i => if h : i < len then Classical.choose (key i h) else dflt
    have hf : ∀ i, (h : i < len) → f i = Classical.choose (key i h) := fun i h => by show (if h : i < len then _ else _) = _; rw [dif_pos h]
    have bud : ∀ k, k ≤ len → (recsB (fun i => byt (f i)) k).length ≤ K * Rows.uptoBulkAll ((elems.map (·.1)).take k) := by
      intro k
      induction k with
      | zero => intro _; simp [recsB]
      | succ k ih =>
        intro hk
        have h1 := ih (by omega)
        have h2 := (Classical.choose_spec (key k (by omega))).2.2
        rw [← hf k (by omega)] at h2
        rw [List.take_succ_eq_append_getElem (by simp; omega), bulkA_app]
        simp only [recsB, List.length_append, Rows.uptoBulkAll, List.getElem_map, Nat.add_zero, Nat.mul_add]
        omega
    refine ⟨some a, len, cap, f, rfl, ?_, fun i hi => ?_, fun i hi => ?_, ?_⟩
    · have := bulkA_len (elems.map (·.1))
      rw [List.length_map] at this
      omega
    · have h9 := (Classical.choose_spec (key i hi)).1
      rw [← hf i hi] at h9
      exact h9
    · rw [hf i hi]; exact (Classical.choose_spec (key i hi)).2.1
    · have h1 := bud len (Nat.le_refl _)
      rw [List.take_of_length_le (by rw [List.length_map]; omega)] at h1
      exact Nat.le_trans h1 (Nat.mul_le_mul_left K hbul)
theorem opP_mark (h : DataW.trod enc Try.prog W 0 sp held fuel 112 cs = some x) : ∃ m : Mk, cs = m.cells ∧ m.se < 18446744073709551616 ∧ -9223372036854775808 ≤ m.us ∧ m.us ≤ 9223372036854775807 := by
  obtain ⟨xs, m, _, _, hl, hxs, hel⟩ := DataW.trod_struct Try.underlying112 h
  have hxs : xs.length = 2 := hxs
  rw [Try.cp124] at hl
  have e0 : DataW.trod enc Try.prog W 0 sp held m 29 ((cs.drop 0).take (Try.prog.cellsOf 29)) = xs[0]? := hel 0 _ rfl
  have e1 : DataW.trod enc Try.prog W 0 sp held m 3 ((cs.drop 1).take (Try.prog.cellsOf 3)) = xs[1]? := hel 1 _ rfl
  rw [Try.c29] at e0
  rw [Try.c3] at e1
  rw [List.getElem?_eq_getElem (by omega)] at e0 e1
  obtain ⟨n0, c0, _, w0⟩ := DataW.trod_int Try.underlying29 e0
  obtain ⟨n1, c1, _, w1⟩ := DataW.trod_int Try.underlying3 e1
  have i0 := bounds_u64 w0
  have i1 := bounds_i64 w1
  refine ⟨⟨n0.toNat, n1⟩, ?_, by show n0.toNat < _; omega, i1.1, i1.2⟩
  have d0 := cutOne c0
  have d1 := cutOne c1
  have e : ((n0.toNat : Nat) : Int) = n0 := by omega
  have last : cs.drop (1 + 1) = [] := List.drop_of_length_le (by omega)
  rw [last] at d1
  rw [List.drop_zero] at d0
  show cs = [.int .u64 ((n0.toNat : Nat) : Int), .int .i64 n1]
  rw [e, d0, d1]
theorem opP_peak (h : DataW.trod enc Try.prog W 0 sp held fuel 129 cs = some x) : ∃ k : Pk, cs = k.cells ∧ (k.n < 18446744073709551616 ∧ k.x.length = 33 ∧ k.y.length = 32) ∧ Byts k.x ∧ Byts k.y := by
  obtain ⟨xs, m, _, _, hl, hxs, hel⟩ := DataW.trod_struct Try.underlying129 h
  have hxs : xs.length = 2 := hxs
  rw [Try.cp130] at hl
  have e0 : DataW.trod enc Try.prog W 0 sp held m 29 ((cs.drop 0).take (Try.prog.cellsOf 29)) = xs[0]? := hel 0 _ rfl
  have e1 : DataW.trod enc Try.prog W 0 sp held m 73 ((cs.drop 1).take (Try.prog.cellsOf 73)) = xs[1]? := hel 1 _ rfl
  rw [Try.c29] at e0
  rw [Try.cp73] at e1
  rw [List.getElem?_eq_getElem (by omega)] at e0 e1
  obtain ⟨n0, c0, _, w0⟩ := DataW.trod_int Try.underlying29 e0
  obtain ⟨u, y, c1, hu, hy, bu, bty⟩ := opP_limb e1
  have i0 := bounds_u64 w0
  refine ⟨⟨n0.toNat, u, y⟩, ?_, ⟨by show n0.toNat < _; omega, hu, hy⟩, bu, bty⟩
  have d0 := cutOne c0
  have d1 := cutMore c1
  have e : ((n0.toNat : Nat) : Int) = n0 := by omega
  have last : cs.drop (1 + 65) = [] := List.drop_of_length_le (by omega)
  rw [last, List.append_nil] at d1
  rw [List.drop_zero] at d0
  show cs = .int .u64 ((n0.toNat : Nat) : Int) :: bs (u ++ y)
  rw [e, d0, d1]
theorem opP_tree (h : DataW.trod enc Try.prog W 0 sp held fuel 114 cs = some x) : ∃ (u : List Int) (c : Nat) (y : List Int), cs = bs u ++ .int .u64 c :: bs y ∧ u.length = 33 ∧ c < 18446744073709551616 ∧ y.length = 32 ∧ Byts u ∧ Byts y := by
  obtain ⟨xs, m, _, _, hl, hxs, hel⟩ := DataW.trod_struct Try.underlying114 h
  have hxs : xs.length = 3 := hxs
  rw [Try.cp126] at hl
  have e0 : DataW.trod enc Try.prog W 0 sp held m 33 ((cs.drop 0).take (Try.prog.cellsOf 33)) = xs[0]? := hel 0 _ rfl
  have e1 : DataW.trod enc Try.prog W 0 sp held m 29 ((cs.drop 33).take (Try.prog.cellsOf 29)) = xs[1]? := hel 1 _ rfl
  have e2 : DataW.trod enc Try.prog W 0 sp held m 31 ((cs.drop 34).take (Try.prog.cellsOf 31)) = xs[2]? := hel 2 _ rfl
  rw [Try.c33] at e0
  rw [Try.c29] at e1
  rw [Try.c31] at e2
  rw [List.getElem?_eq_getElem (by omega)] at e0 e1 e2
  obtain ⟨u, c0, hu, bu⟩ := opP_addr e0
  obtain ⟨n1, c1, _, w1⟩ := DataW.trod_int Try.underlying29 e1
  obtain ⟨y, c2, hy, bty⟩ := opP_sum e2
  have i1 := bounds_u64 w1
  refine ⟨u, n1.toNat, y, ?_, hu, by omega, hy, bu, bty⟩
  have d0 := cutMore c0
  have d1 := cutOne c1
  have d2 := cutMore c2
  have e : ((n1.toNat : Nat) : Int) = n1 := by omega
  have last : cs.drop (34 + 32) = [] := List.drop_of_length_le (by omega)
  rw [last, List.append_nil] at d2
  rw [List.drop_zero] at d0
  rw [e, d0, d1, d2]
theorem opP_vers (h : DataW.trod enc Try.prog W 0 sp held fuel 116 cs = some x) : ∃ v : Vs, cs = v.cells ∧ (v.n < 18446744073709551616 ∧ v.x.length = 33 ∧ v.c < 18446744073709551616 ∧ v.y.length = 32) ∧ Byts v.x ∧ Byts v.y := by
  obtain ⟨xs, m, _, _, hl, hxs, hel⟩ := DataW.trod_struct Try.underlying116 h
  have hxs : xs.length = 2 := hxs
  rw [Try.cp128] at hl
  have e0 : DataW.trod enc Try.prog W 0 sp held m 29 ((cs.drop 0).take (Try.prog.cellsOf 29)) = xs[0]? := hel 0 _ rfl
  have e1 : DataW.trod enc Try.prog W 0 sp held m 114 ((cs.drop 1).take (Try.prog.cellsOf 114)) = xs[1]? := hel 1 _ rfl
  rw [Try.c29] at e0
  rw [Try.cp126] at e1
  rw [List.getElem?_eq_getElem (by omega)] at e0 e1
  obtain ⟨n0, c0, _, w0⟩ := DataW.trod_int Try.underlying29 e0
  obtain ⟨u, c, y, c1, hu, hc, hy, bu, bty⟩ := opP_tree e1
  have i0 := bounds_u64 w0
  refine ⟨⟨n0.toNat, u, c, y⟩, ?_, ⟨by show n0.toNat < _; omega, hu, hc, hy⟩, bu, bty⟩
  have d0 := cutOne c0
  have d1 := cutMore c1
  have e : ((n0.toNat : Nat) : Int) = n0 := by omega
  have last : cs.drop (1 + 66) = [] := List.drop_of_length_le (by omega)
  rw [last, List.append_nil] at d1
  rw [List.drop_zero] at d0
  show cs = .int .u64 ((n0.toNat : Nat) : Int) :: (bs u ++ .int .u64 c :: bs y)
  rw [e, d0, d1]
theorem opP_annal (h : DataW.trod enc Try.prog W 0 sp held fuel 49 cs = some x) (hb : Rows.uptoBulk x.1 ≤ 1048576) : ∃ (sz : Nat) (pa : Option Addr) (pn pc : Nat) (ps : Nat → Pk), cs = [.int .u64 sz, .slice pa pn pc] ∧ sz < 18446744073709551616 ∧ pn ≤ 1048576 ∧ RowsIn W (fun g => g < W.heap.size) pa pn 66 (fun i => (ps i).cells) ∧ ∀ i, i < pn → ((ps i).n < 18446744073709551616 ∧ (ps i).x.length = 33 ∧ (ps i).y.length = 32) ∧ Byts (ps i).x ∧ Byts (ps i).y := by
  obtain ⟨xs, m, _, rfl, hl, hxs, hel⟩ := DataW.trod_struct Try.underlying49 h
  have hxs : xs.length = 2 := hxs
  rw [Try.cp49] at hl
  have e0 : DataW.trod enc Try.prog W 0 sp held m 29 ((cs.drop 0).take (Try.prog.cellsOf 29)) = xs[0]? := hel 0 _ rfl
  have e1 : DataW.trod enc Try.prog W 0 sp held m 47 ((cs.drop 1).take (Try.prog.cellsOf 47)) = xs[1]? := hel 1 _ rfl
  rw [Try.c29] at e0
  rw [Try.cp47] at e1
  rw [List.getElem?_eq_getElem (by omega)] at e0 e1
  have b1 := bulkA_part (H := H) (xs := xs) (i := 1) (by omega)
  have hb : Rows.uptoBulk (DataW.agg (xs.map (·.1))) ≤ 1048576 := hb
  obtain ⟨n0, c0, _, w0⟩ := DataW.trod_int Try.underlying29 e0
  obtain ⟨pa, pn, pc, ps, c1, hpn, hrow, hq, _⟩ := opA_list (K := 0) Try.underlying47 Try.cp130 (by decide) Pk.cells (fun k => (k.n < 18446744073709551616 ∧ k.x.length = 33 ∧ k.y.length = 32) ∧ Byts k.x ∧ Byts k.y) (fun _ => []) ⟨0, [], []⟩ (fun h _ => by obtain ⟨r, h1, h2⟩ := opP_peak h; exact ⟨r, h1, h2, by simp⟩) e1 (by omega)
  have i0 := bounds_u64 w0
  refine ⟨n0.toNat, pa, pn, pc, ps, ?_, by omega, hpn, hrow, hq⟩
  have d0 := cutOne c0
  have d1 := cutOne c1
  have e : ((n0.toNat : Nat) : Int) = n0 := by omega
  have last : cs.drop (1 + 1) = [] := List.drop_of_length_le (by omega)
  rw [last] at d1
  rw [List.drop_zero] at d0
  rw [e, d0, d1]
theorem opP_page (h : DataW.trod enc Try.prog W 0 sp held fuel 51 cs = some x) (hb : Rows.uptoBulk x.1 ≤ 1048576) : ∃ P : Pg, cs = P.cells ∧ PgIn W (fun g => g < W.heap.size) P ∧ PgSm P := by
  obtain ⟨xs, m, _, rfl, hl, hxs, hel⟩ := DataW.trod_struct Try.underlying51 h
  have hxs : xs.length = 6 := hxs
  rw [Try.cp51] at hl
  have e0 : DataW.trod enc Try.prog W 0 sp held m 29 ((cs.drop 0).take (Try.prog.cellsOf 29)) = xs[0]? := hel 0 _ rfl
  have e1 : DataW.trod enc Try.prog W 0 sp held m 3 ((cs.drop 1).take (Try.prog.cellsOf 3)) = xs[1]? := hel 1 _ rfl
  have e2 : DataW.trod enc Try.prog W 0 sp held m 29 ((cs.drop 2).take (Try.prog.cellsOf 29)) = xs[2]? := hel 2 _ rfl
  have e3 : DataW.trod enc Try.prog W 0 sp held m 45 ((cs.drop 3).take (Try.prog.cellsOf 45)) = xs[3]? := hel 3 _ rfl
  have e4 : DataW.trod enc Try.prog W 0 sp held m 46 ((cs.drop 4).take (Try.prog.cellsOf 46)) = xs[4]? := hel 4 _ rfl
  have e5 : DataW.trod enc Try.prog W 0 sp held m 49 ((cs.drop 5).take (Try.prog.cellsOf 49)) = xs[5]? := hel 5 _ rfl
  rw [Try.c29] at e0 e2
  rw [Try.c3] at e1
  rw [Try.cp45] at e3
  rw [Try.cp46] at e4
  rw [Try.cp49] at e5
  rw [List.getElem?_eq_getElem (by omega)] at e0 e1 e2 e3 e4 e5
  have b3 := bulkA_part (H := H) (xs := xs) (i := 3) (by omega)
  have b4 := bulkA_part (H := H) (xs := xs) (i := 4) (by omega)
  have b5 := bulkA_part (H := H) (xs := xs) (i := 5) (by omega)
  have hb : Rows.uptoBulk (DataW.agg (xs.map (·.1))) ≤ 1048576 := hb
  obtain ⟨n0, c0, _, w0⟩ := DataW.trod_int Try.underlying29 e0
  obtain ⟨n1, c1, _, w1⟩ := DataW.trod_int Try.underlying3 e1
  obtain ⟨n2, c2, _, w2⟩ := DataW.trod_int Try.underlying29 e2
  obtain ⟨ma, mn, mc, ms, c3, hmn, mrow, mq, _⟩ := opA_list (K := 0) Try.underlying45 Try.cp124 (by decide) Mk.cells (fun m => m.se < 18446744073709551616 ∧ -9223372036854775808 ≤ m.us ∧ m.us ≤ 9223372036854775807) (fun _ => []) ⟨0, 0⟩ (fun h _ => by obtain ⟨r, h1, h2⟩ := opP_mark h; exact ⟨r, h1, h2, by simp⟩) e3 (by omega)
  obtain ⟨va, vn, vc, vs, c4, hvn, vrow, vq, _⟩ := opA_list (K := 0) Try.underlying46 Try.cp128 (by decide) Vs.cells (fun v => (v.n < 18446744073709551616 ∧ v.x.length = 33 ∧ v.c < 18446744073709551616 ∧ v.y.length = 32) ∧ Byts v.x ∧ Byts v.y) (fun _ => []) ⟨0, [], 0, []⟩ (fun h _ => by obtain ⟨r, h1, h2⟩ := opP_vers h; exact ⟨r, h1, h2, by simp⟩) e4 (by omega)
  obtain ⟨sz, pa, pn, pc, ps, c5, hsz, hpn, prow, pq⟩ := opP_annal e5 (by omega)
  have i0 := bounds_u64 w0
  have i1 := bounds_i64 w1
  have i2 := bounds_u64 w2
  refine ⟨⟨n0.toNat, n1, n2.toNat, ma, mn, mc, ms, va, vn, vc, vs, sz, pa, pn, pc, ps⟩, ?_, ⟨by show n0.toNat < _; omega, i1, by show n2.toNat < _; omega, hsz, by show mn ≤ _; omega, by show vn ≤ _; omega, by show pn ≤ _; omega, mrow, vrow, prow, mq, fun i hi => (vq i hi).1, fun i hi => (pq i hi).1⟩, ⟨hmn, hvn, hpn⟩⟩
  have d0 := cutOne c0
  have d1 := cutOne c1
  have d2 := cutOne c2
  have d3 := cutOne c3
  have d4 := cutOne c4
  have d5 := cutMore c5
  have q0 : ((n0.toNat : Nat) : Int) = n0 := by omega
  have q2 : ((n2.toNat : Nat) : Int) = n2 := by omega
  have last : cs.drop (5 + 2) = [] := List.drop_of_length_le (by omega)
  rw [last, List.append_nil] at d5
  rw [List.drop_zero] at d0
  show cs = [.int .u64 ((n0.toNat : Nat) : Int), .int .i64 n1, .int .u64 ((n2.toNat : Nat) : Int), .slice ma mn mc, .slice va vn vc, .int .u64 sz, .slice pa pn pc]
  rw [q0, q2, d0, d1, d2, d3, d4, d5]
theorem opP_text (h : DataW.trod enc Try.prog W 0 sp held fuel 23 cs = some x) : ∃ (v : Value) (l : List Int), cs = [v] ∧ Src W v l ∧ Byts l ∧ (∃ a c, v = .slice a l.length c ∧ l.length ≤ c ∧ c ≤ 9223372036854775807) ∧ l.length ≤ Rows.uptoBulk x.1 := by
  rcases ChangeShapes.open_ints Try.underlying23 Try.underlying5 Try.c5 h with ⟨rfl, rfl⟩ | ⟨a, len, cap, zs, rfl, _, hl, hcap, hzl, rfl, hc, hw⟩
  · refine ⟨_, [], rfl, .inl ⟨rfl, rfl⟩, ?_, ⟨none, 0, rfl, Nat.le_refl _, by omega⟩, by simp⟩
    intro y hy
    cases hy
  · have hlz : len ≤ zs.length := by rw [hzl]; split <;> omega
    have htl : (zs.take len).length = len := by rw [List.length_take]; omega
    refine ⟨_, zs.take len, rfl, .inr ⟨a, cap, by rw [htl], fun j u hu => ?_⟩, fun y hy => bounds_u8 (hw y (List.mem_of_mem_take hy)), ⟨some a, cap, by rw [htl], by omega, by unfold maxLen at hcap; omega⟩, ?_⟩
    · have hj : j < len := by have := (List.getElem?_eq_some_iff.1 hu).1; rw [bs_len, htl] at this; exact this
      have hcj := hc j (by omega)
      have hc0 := hc 0 (by omega)
      have hs : a.spot = none := by simpa [Addr.add] using World.cell?_spot hc0
      refine ⟨hs, ?_⟩
      obtain ⟨b, o, s⟩ := a
      simp only at hs
      subst hs
      rw [addr_add] at hcj
      rw [hcj, ← hu, bs_get _ _ (by omega)]
      simp only [List.getElem_take]
      rw [List.getD_eq_getElem?_getD, List.getElem?_eq_getElem (by omega)]
      rfl
    · simp only [Rows.uptoBulk]
      have := bulkA_len (H := H) (ChangeShapes.lits .u8 (zs.take len))
      have e : (ChangeShapes.lits (H := H) .u8 (zs.take len)).length = len := by simp [ChangeShapes.lits]; omega
      omega

end
set_option maxRecDepth 100000 in
theorem slice_blockP {W : World} {base : Nat} {x : Option Addr} {y z k : Nat} (h : Value.okWide Try.prog W .any base 23 (.slice x y z)) (hk : (Value.slice x y z).ownBlock = some k) : k < W.heap.size := by
  cases x with
  | none => cases hk
  | some ad =>
    have h2 : Cell.okWide Try.prog W .any base 23 (.slice (some ad) y z) := by
      unfold Value.okWide at h
      rw [Try.underlying23] at h
      exact h
    unfold Cell.okWide at h2
    rw [Try.underlying23] at h2
    have h3 : Cell.ok Try.prog W .any base 23 (.slice (some ad) y z) := h2
    unfold Cell.ok at h3
    rw [Try.underlying23] at h3
    obtain ⟨_, _, _, _, row, cells, hs, _⟩ := h3
    have e : ad.block = k := by simpa [Value.ownBlock] using hk
    rw [← e]
    unfold World.shape? at hs
    rcases Nat.lt_or_ge ad.block W.heap.size with hlt | hge
    · exact hlt
    · rw [Array.getElem?_eq_none hge] at hs; cases hs

end Go.Proofs.Ytfkjgfelgiogeaa
