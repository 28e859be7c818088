/-
  What came in, opened: bytes, sums, addresses, a script of steps; and its bulk.
-/
import Derived.Test.YtibcpokfgogopaaWrites
import Derived.ProofKit
import Derived.OpenShut
import Derived.ChangeSlices
import Derived.JoinedCond
namespace Go.Proofs.Ytibcpokfgogopaa
open Go.ChangeShapes Go.WideShapes Go.ChangeAt Go.RowKit

theorem own : ownKnob Try.prog.godebug = none := by kernel_rfl
theorem laidOut : laidOutB Try.prog = true := by kernel_rfl
theorem Try.cells5 : Try.prog.cellsOf 5 = 1 := by kernel_rfl
theorem Try.cells3 : Try.prog.cellsOf 3 = 1 := by kernel_rfl
theorem Try.cells29 : Try.prog.cellsOf 29 = 1 := by kernel_rfl
theorem Try.cells23 : Try.prog.cellsOf 23 = 1 := by kernel_rfl
theorem Try.cells31 : Try.prog.cellsOf 31 = 32 := by kernel_rfl
theorem Try.cells33 : Try.prog.cellsOf 33 = 33 := by kernel_rfl
theorem Try.cells35 : Try.prog.cellsOf 35 = 38 := by kernel_rfl

/-- Each is a byte. -/
def Bytes (l : List Int) : Prop := ∀ y ∈ l, 0 ≤ y ∧ y ≤ 255

theorem bulk_pos {H : Type} (d : DataW H) : 1 ≤ Rows.uptoBulk d := by
  cases d with
  | lit l => cases l <;> simp [Rows.uptoBulk]
  | nil => simp [Rows.uptoBulk]
  | ptr d => simp [Rows.uptoBulk]
  | slice elems spare => simp [Rows.uptoBulk]
  | agg parts => simp [Rows.uptoBulk]
  | iface t d => simp [Rows.uptoBulk]
  | map entries => simp [Rows.uptoBulk]
  | held h => simp [Rows.uptoBulk]
theorem bulk_len {H : Type} (l : List (DataW H)) : l.length ≤ Rows.uptoBulkAll l := by
  induction l with
  | nil => simp [Rows.uptoBulkAll]
  | cons x r ih => have := bulk_pos x; simp only [Rows.uptoBulkAll, List.length_cons]; omega
theorem bulk_mem {H : Type} {d : DataW H} {l : List (DataW H)} (h : d ∈ l) : Rows.uptoBulk d ≤ Rows.uptoBulkAll l := by
  induction l with
  | nil => cases h
  | cons x r ih =>
    simp only [Rows.uptoBulkAll]
    rcases List.mem_cons.1 h with rfl | h
    · omega
    · have := ih h; omega
theorem bulk_app {H : Type} (l r : List (DataW H)) : Rows.uptoBulkAll (l ++ r) = Rows.uptoBulkAll l + Rows.uptoBulkAll r := by
  induction l with
  | nil => simp [Rows.uptoBulkAll]
  | cons x l ih => simp only [List.cons_append, Rows.uptoBulkAll, ih]; omega

section
variable {H : Type} {enc : TypeId × Value → H} {W : World} {sp : Nat → Bool} {held : Bool} {fuel : Nat} {cs : List Value} {x : DataW H × List MemPlace}

theorem op_sum (h : DataW.trod enc Try.prog W 0 sp held fuel 31 cs = some x) : ∃ z : List Int, z.length = 32 ∧ cs = bs z ∧ Bytes z := by
  obtain ⟨xs, m, _, _, hl, hxs, hel⟩ := DataW.trod_array Try.underlying31 h
  rw [Try.cells31] at hl
  have key : ∀ i, i < 32 → ∃ n : Int, cs[i]? = some (.int .u8 n) ∧ 0 ≤ n ∧ n ≤ 255 := by
    intro i hi
    have e := hel i hi
    rw [Try.cells5] at e
    have hx : xs[i]? = some xs[i] := List.getElem?_eq_getElem (by omega)
    rw [hx] at e
    obtain ⟨n, e1, _, wn⟩ := DataW.trod_int Try.underlying5 e
    refine ⟨n, ?_, bounds_u8 wn⟩
    rw [Nat.mul_one] at e1
    have h2 : ((cs.drop i).take 1)[0]? = some (.int .u8 n) := by rw [e1]; rfl
    simpa using h2
  refine ⟨(List.range 32).map fun i => if h : i < 32 then Classical.choose (key i h) else 0, by simp, ?_, ?_⟩
  · apply List.ext_getElem?
    intro i
    by_cases h : i < 32
    · rw [(Classical.choose_spec (key i h)).1]
      simp [bs, h]
    · rw [List.getElem?_eq_none (by omega), List.getElem?_eq_none (by simp [bs]; omega)]
  · intro y hy
    simp only [List.mem_map, List.mem_range] at hy
    obtain ⟨i, hi, rfl⟩ := hy
    have := (Classical.choose_spec (key i hi)).2
    simpa [hi] using this

theorem op_addr (h : DataW.trod enc Try.prog W 0 sp held fuel 33 cs = some x) : ∃ (z : List Int) (nth : Int), z.length = 32 ∧ cs = bs (z ++ [nth]) ∧ Bytes (z ++ [nth]) := by
  obtain ⟨xs, m, _, _, hl, hxs, hel⟩ := DataW.trod_struct Try.underlying33 h
  have hxs : xs.length = 2 := hxs
  rw [Try.cells33] at hl
  have e0 : DataW.trod enc Try.prog W 0 sp held m 31 ((cs.drop 0).take (Try.prog.cellsOf 31)) = xs[0]? := hel 0 _ rfl
  have e1 : DataW.trod enc Try.prog W 0 sp held m 5 ((cs.drop 32).take (Try.prog.cellsOf 5)) = xs[1]? := hel 1 _ rfl
  rw [Try.cells31, List.drop_zero] at e0
  rw [Try.cells5] at e1
  have h0 : xs[0]? = some xs[0] := List.getElem?_eq_getElem (by omega)
  have h1 : xs[1]? = some xs[1] := List.getElem?_eq_getElem (by omega)
  rw [h0] at e0
  rw [h1] at e1
  obtain ⟨z, hz, ez, bz⟩ := op_sum e0
  obtain ⟨n, en, _, wn⟩ := DataW.trod_int Try.underlying5 e1
  refine ⟨z, n, hz, ?_, ?_⟩
  · rw [bs_app, ← ez]
    have e2 : (cs.drop 32).take 1 = cs.drop 32 := List.take_of_length_le (by simp; omega)
    rw [e2] at en
    have := List.take_append_drop 32 cs
    rw [en] at this
    exact this.symm
  · intro y hy
    rcases List.mem_append.1 hy with hy | hy
    · exact bz y hy
    · simp at hy; subst hy; exact bounds_u8 wn

theorem op_bytes (h : DataW.trod enc Try.prog W 0 sp held fuel 23 cs = some x) : ∃ (v : Value) (l : List Int), cs = [v] ∧ Src W v l ∧ Bytes l ∧ l.length + 1 ≤ Rows.uptoBulk x.1 := by
  rcases ChangeShapes.open_ints Try.underlying23 Try.underlying5 Try.cells5 h with ⟨rfl, rfl⟩ | ⟨a, len, cap, zs, rfl, _, hl, _, hzl, rfl, hc, hw⟩
  · refine ⟨_, [], rfl, .inl ⟨rfl, rfl⟩, ?_, ?_⟩
    · intro y hy
      cases hy
    · exact bulk_pos _
  · have hlz : len ≤ zs.length := by rw [hzl]; split <;> omega
    have htl : (zs.take len).length = len := by rw [List.length_take]; omega
    refine ⟨_, zs.take len, rfl, .inr ⟨a, cap, by rw [htl], fun j u hu => ?_⟩, fun y hy => bounds_u8 (hw y (List.mem_of_mem_take hy)), ?_⟩
    · have hj : j < len := by have := (List.getElem?_eq_some_iff.1 hu).1; rw [bs_len, htl] at this; exact this
      have hcj := hc j (by omega)
      have hc0 := hc 0 (by omega)
      have hs : a.spot = none := by simpa [Addr.add] using World.cell?_spot hc0
      refine ⟨hs, ?_⟩
      obtain ⟨b, o, s⟩ := a
      simp only at hs
      subst hs
      rw [addr_add] at hcj
      rw [hcj, ← hu, bs_get _ _ (by omega)]
      simp only [List.getElem_take]
      rw [List.getD_eq_getElem?_getD, List.getElem?_eq_getElem (by omega)]
      rfl
    · simp only [Rows.uptoBulk]
      have := bulk_len (H := H) (ChangeShapes.lits .u8 (zs.take len))
      have e : (ChangeShapes.lits (H := H) .u8 (zs.take len)).length = len := by simp [ChangeShapes.lits]; omega
      omega

theorem op_step (h : DataW.trod enc Try.prog W 0 sp held fuel 35 cs = some x) : ∃ s : St, cs = s.cells ∧ Src W s.b s.l ∧ s.z.length = 32 ∧ s.n < 18446744073709551616 ∧ s.l.length + 1 ≤ Rows.uptoBulk x.1 := by
  obtain ⟨xs, m, _, rfl, hl, hxs, hel⟩ := DataW.trod_struct Try.underlying35 h
  have hxs : xs.length = 6 := hxs
  rw [Try.cells35] at hl
  have g : ∀ i, (h : i < 6) → xs[i]? = some (xs[i]'(by omega)) := fun i h => List.getElem?_eq_getElem (by omega)
  have e0 : DataW.trod enc Try.prog W 0 sp held m 3 ((cs.drop 0).take (Try.prog.cellsOf 3)) = xs[0]? := hel 0 _ rfl
  have e1 : DataW.trod enc Try.prog W 0 sp held m 3 ((cs.drop 1).take (Try.prog.cellsOf 3)) = xs[1]? := hel 1 _ rfl
  have e2 : DataW.trod enc Try.prog W 0 sp held m 29 ((cs.drop 2).take (Try.prog.cellsOf 29)) = xs[2]? := hel 2 _ rfl
  have e3 : DataW.trod enc Try.prog W 0 sp held m 3 ((cs.drop 3).take (Try.prog.cellsOf 3)) = xs[3]? := hel 3 _ rfl
  have e4 : DataW.trod enc Try.prog W 0 sp held m 23 ((cs.drop 4).take (Try.prog.cellsOf 23)) = xs[4]? := hel 4 _ rfl
  have e5 : DataW.trod enc Try.prog W 0 sp held m 33 ((cs.drop 5).take (Try.prog.cellsOf 33)) = xs[5]? := hel 5 _ rfl
  rw [Try.cells3, List.drop_zero] at e0
  rw [Try.cells3] at e1 e3
  rw [Try.cells29] at e2
  rw [Try.cells23] at e4
  rw [Try.cells33] at e5
  rw [g 0 (by omega)] at e0
  rw [g 1 (by omega)] at e1
  rw [g 2 (by omega)] at e2
  rw [g 3 (by omega)] at e3
  rw [g 4 (by omega)] at e4
  rw [g 5 (by omega)] at e5
  obtain ⟨n0, c0, _, _⟩ := DataW.trod_int Try.underlying3 e0
  obtain ⟨n1, c1, _, _⟩ := DataW.trod_int Try.underlying3 e1
  obtain ⟨n2, c2, _, w2⟩ := DataW.trod_int Try.underlying29 e2
  obtain ⟨n3, c3, _, _⟩ := DataW.trod_int Try.underlying3 e3
  obtain ⟨b, l, c4, hb, _, hbl⟩ := op_bytes e4
  obtain ⟨z, nth, hz, c5, _⟩ := op_addr e5
  have b2 := bounds_u64 w2
  refine ⟨⟨n0, n1, n2.toNat, n3, b, l, z, nth⟩, ?_, hb, hz, by show n2.toNat < _; omega, ?_⟩
  · have t5 : (cs.drop 5).take 33 = cs.drop 5 := List.take_of_length_le (by simp; omega)
    rw [t5] at c5
    show cs = stp n0 n1 n2.toNat n3 b z nth
    have e : (n2.toNat : Int) = n2 := by omega
    unfold stp
    rw [e, ← c5]
    have cut : ∀ k (v : Value), (cs.drop k).take 1 = [v] → cs.drop k = v :: cs.drop (k + 1) := by
      intro k v hv
      have hlt : k < cs.length := by
        rcases Nat.lt_or_ge k cs.length with h | h
        · exact h
        · rw [List.drop_of_length_le h] at hv; simp at hv
      rw [List.drop_eq_getElem_cons hlt] at hv ⊢
      injection hv with hv _
      rw [hv]
    have d0 := cut 0 _ (by rw [List.drop_zero]; exact c0)
    rw [List.drop_zero] at d0
    have d1 := cut 1 _ c1
    have d2 := cut 2 _ c2
    have d3 := cut 3 _ c3
    have d4 := cut 4 _ c4
    rw [d1, d2, d3, d4] at d0
    exact d0
  · have hm : (xs[4]'(by omega)).1 ∈ xs.map (·.1) := List.mem_map.2 ⟨_, List.getElem_mem _, rfl⟩
    have := bulk_mem hm
    simp only [Rows.uptoBulk]
    show l.length + 1 ≤ _
    omega

/-- How much the first k steps may lay down. -/
def budOf (st : Nat → St) : Nat → Nat
  | 0 => 0
  | k + 1 => budOf st k + (st k).l.length + 33

theorem op_script (h : DataW.trod enc Try.prog W 0 sp held fuel 22 cs = some x) (hb : Rows.uptoBulk x.1 ≤ 1048576) : ∃ (a : Option Addr) (N c : Nat) (st : Nat → St), cs = [.slice a N c] ∧ Scr W a N st (budOf st) := by
  rcases DataW.trod_slice Try.underlying22 h with ⟨rfl, _⟩ | ⟨a, len, cap, elems, rest, n, _, rfl, rfl, _, _, _, hlen, hel, _, _⟩
  · exact ⟨none, 0, 0, fun _ => ⟨0, 0, 0, 0, .slice none 0 0, [], [], 0⟩, rfl, ⟨fun i hi => by omega, fun i hi => by omega, fun i hi => by omega, fun i hi => by omega, fun i hi => by omega, fun i hi => by (obtain rfl : i = 0 := by omega); simp [budOf], by omega⟩⟩
  · have cells : ∀ i, (hi : i < len) → ∃ cs', W.cells? 0 (a.add (i * 38)) 38 = some cs' ∧ DataW.trod enc Try.prog W 0 sp held n 35 cs' = some (elems[i]'(by omega)) := by
      intro i hi
      have e := hel i hi
      rw [List.getElem?_eq_getElem (by omega), Option.bind_eq_some_iff] at e
      obtain ⟨cs', hcs, ht⟩ := e
      rw [Try.cells35] at hcs
      exact ⟨cs', hcs, ht⟩
    have spot : 0 < len → a.spot = none := by
      intro h0
      obtain ⟨cs', hcs, ht⟩ := cells 0 h0
      obtain ⟨_, hl, hc⟩ := World.cells?_some hcs
      have h1 := hc 0 (by omega)
      rw [List.getElem?_eq_getElem (by omega)] at h1
      simpa [Addr.add] using World.cell?_spot h1
    have key : ∀ i, (hi : i < len) → ∃ s : St, (∃ g o, some a = some ⟨g, o, none⟩ ∧ W.rangeAt g (o + i * 38) s.cells) ∧ Src W s.b s.l ∧ s.z.length = 32 ∧ s.n < 18446744073709551616 ∧ s.l.length + 1 ≤ Rows.uptoBulk (elems[i]'(by omega)).1 := by
      intro i hi
      obtain ⟨cs', hcs, ht⟩ := cells i hi
      obtain ⟨s, rfl, h1, h2, h3, h4⟩ := op_step ht
      obtain ⟨_, hl, hc⟩ := World.cells?_some hcs
      refine ⟨s, ?_, h1, h2, h3, h4⟩
      have hs := spot (by omega)
      obtain ⟨g, o, sp'⟩ := a
      simp only at hs
      subst hs
      refine ⟨g, o, rfl, fun j u hu => ?_⟩
      have hj : j < 38 := by have := (List.getElem?_eq_some_iff.1 hu).1; omega
      have := hc j hj
      rw [addr_add, addr_add] at this
      rw [this, hu]
    let dflt : St := ⟨0, 0, 0, 0, .slice none 0 0, [], [], 0⟩
    let st : Nat → St := fun i => if h : i < len then Classical.choose (key i h) else dflt
    have hst : ∀ i, (h : i < len) → st i = Classical.choose (key i h) := fun i h => by show (if h : i < len then _ else _) = _; rw [dif_pos h]
    have spec : ∀ i, (hi : i < len) → (∃ g o, some a = some ⟨g, o, none⟩ ∧ W.rangeAt g (o + i * 38) (st i).cells) ∧ Src W (st i).b (st i).l ∧ (st i).z.length = 32 ∧ (st i).n < 18446744073709551616 ∧ (st i).l.length + 1 ≤ Rows.uptoBulk (elems[i]'(by omega)).1 := by
      intro i hi
      rw [hst i hi]
      exact Classical.choose_spec (key i hi)
    have hbul : Rows.uptoBulkAll (elems.map (·.1)) ≤ 1048576 := by
      simp only [Rows.uptoBulk] at hb
      omega
    have bud : ∀ k, k ≤ len → budOf st k ≤ 33 * Rows.uptoBulkAll ((elems.map (·.1)).take k) := by
      intro k
      induction k with
      | zero => intro _; simp [budOf]
      | succ k ih =>
        intro hk
        have h1 := ih (by omega)
        have h2 := (spec k (by omega)).2.2.2.2
        rw [List.take_succ_eq_append_getElem (by simp; omega), bulk_app]
        simp only [budOf, Rows.uptoBulkAll, List.getElem_map]
        omega
    refine ⟨some a, len, cap, st, rfl, ⟨fun i hi => (spec i hi).1, fun i hi => (spec i hi).2.1, fun i hi => (spec i hi).2.2.1, fun i hi => (spec i hi).2.2.2.1, fun i _ => rfl, fun i hi => ?_, ?_⟩⟩
    · have h1 := bud i hi
      have h2 := bulk_app ((elems.map (·.1)).take i) ((elems.map (·.1)).drop i)
      rw [List.take_append_drop] at h2
      omega
    · have := bulk_len (elems.map (·.1))
      rw [List.length_map] at this
      omega
end
end Go.Proofs.Ytibcpokfgogopaa
