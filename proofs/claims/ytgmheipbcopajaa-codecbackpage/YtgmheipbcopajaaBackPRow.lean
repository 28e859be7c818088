/-
  CodecBackPage: the row, proved out of the walk.
-/
import Derived.Test.YtgmheipbcopajaaBackP
import Derived.Test.YtgmheipbcopajaaOpenS
import Derived.SizedLaws
import Derived.ChangeOld
namespace Go.Proofs.Ytgmheipbcopajaa
open Go.ChangeShapes Go.WideShapes Go.ChangeAt Go.RowKit

theorem Try.cp124 : Try.prog.cellsOf 124 = 2 := by kernel_rfl
theorem Try.cp128 : Try.prog.cellsOf 128 = 67 := by kernel_rfl
theorem Try.cp126 : Try.prog.cellsOf 126 = 66 := by kernel_rfl
theorem Try.cp130 : Try.prog.cellsOf 130 = 66 := by kernel_rfl
theorem Try.cp73 : Try.prog.cellsOf 73 = 65 := by kernel_rfl
theorem Try.cp49 : Try.prog.cellsOf 49 = 2 := by kernel_rfl
theorem Try.cp51 : Try.prog.cellsOf 51 = 7 := by kernel_rfl
theorem Try.cp45 : Try.prog.cellsOf 45 = 1 := by kernel_rfl
theorem Try.cp46 : Try.prog.cellsOf 46 = 1 := by kernel_rfl
theorem Try.cp47 : Try.prog.cellsOf 47 = 1 := by kernel_rfl

theorem cutOne {cs : List Value} {k : Nat} {v : Value} (hv : (cs.drop k).take 1 = [v]) : cs.drop k = v :: cs.drop (k + 1) := by
  have hlt : k < cs.length := by
    rcases Nat.lt_or_ge k cs.length with h | h
    · exact h
    · rw [List.drop_of_length_le h] at hv; simp at hv
  rw [List.drop_eq_getElem_cons hlt] at hv ⊢
  injection hv with hv _
  rw [hv]
theorem cutMore {cs x : List Value} {k m : Nat} (hv : (cs.drop k).take m = x) : cs.drop k = x ++ cs.drop (k + m) := by
  rw [← hv]
  have h9 := (List.take_append_drop m (cs.drop k)).symm
  rwa [List.drop_drop] at h9

section
variable {H : Type} {enc : TypeId × Value → H} {W : World} {sp : Nat → Bool} {held : Bool} {fuel : Nat} {cs : List Value} {x : DataW H × List MemPlace}

theorem opP_sum (h : DataW.trod enc Try.prog W 0 sp held fuel 31 cs = some x) : ∃ z : List Int, cs = bs z ∧ z.length = 32 ∧ Byts z := by
  obtain ⟨z, h1, h2, h3⟩ := op_sumS h
  exact ⟨z, h2, h1, h3⟩
theorem opP_addr (h : DataW.trod enc Try.prog W 0 sp held fuel 33 cs = some x) : ∃ z : List Int, cs = bs z ∧ z.length = 33 ∧ Byts z := by
  obtain ⟨z, nth, h1, h2, h3⟩ := op_addrS h
  exact ⟨z ++ [nth], h2, by simp [h1], h3⟩
theorem opP_limb (h : DataW.trod enc Try.prog W 0 sp held fuel 73 cs = some x) : ∃ (u y : List Int), cs = bs (u ++ y) ∧ u.length = 33 ∧ y.length = 32 ∧ Byts u ∧ Byts y := by
  obtain ⟨xs, m, _, _, hl, hxs, hel⟩ := DataW.trod_struct Try.underlying73 h
  have hxs : xs.length = 2 := hxs
  rw [Try.cp73] at hl
  have e0 : DataW.trod enc Try.prog W 0 sp held m 33 ((cs.drop 0).take (Try.prog.cellsOf 33)) = xs[0]? := hel 0 _ rfl
  have e1 : DataW.trod enc Try.prog W 0 sp held m 31 ((cs.drop 33).take (Try.prog.cellsOf 31)) = xs[1]? := hel 1 _ rfl
  rw [Try.c33] at e0
  rw [Try.c31] at e1
  rw [List.getElem?_eq_getElem (by omega)] at e0 e1
  obtain ⟨z, c0, hz, bz⟩ := opP_addr e0
  obtain ⟨y, c1, hy, bty⟩ := opP_sum e1
  refine ⟨z, y, ?_, hz, hy, bz, bty⟩
  have d0 := cutMore c0
  have d1 := cutMore c1
  have last : cs.drop (33 + 32) = [] := List.drop_of_length_le (by omega)
  rw [last, List.append_nil] at d1
  rw [List.drop_zero] at d0
  rw [bs_app, d0, d1]
/-- A list of records of plain cells. -/
theorem opP_list {α : Type} {sl ty sz : Nat} (hu : Try.prog.underlying sl = some (.slice ty)) (hc : Try.prog.cellsOf ty = sz) (hp : 0 < sz) (cell : α → List Value) (Q : α → Prop) (dflt : α)
    (hel0 : ∀ {n : Nat} {cs : List Value} {x : DataW H × List MemPlace}, DataW.trod enc Try.prog W 0 sp held n ty cs = some x → ∃ r, cs = cell r ∧ Q r)
    (h : DataW.trod enc Try.prog W 0 sp held fuel sl cs = some x) :
    ∃ (sa : Option Addr) (sn sc : Nat) (f : Nat → α), cs = [.slice sa sn sc] ∧ sn ≤ 9223372036854775807 ∧ RowsIn W (fun g => g < W.heap.size) sa sn sz (fun i => cell (f i)) ∧ ∀ i, i < sn → Q (f i) := by
  rcases DataW.trod_slice hu h with ⟨rfl, _⟩ | ⟨a, len, cap, elems, rest, n, _, rfl, rfl, _, hlc, hmx, hlen, hel, _, _⟩
  · exact ⟨none, 0, 0, fun _ => dflt, rfl, by omega, fun i hi => by omega, fun i hi => by omega⟩
  · have cells : ∀ i, (hi : i < len) → ∃ cs', W.cells? 0 (a.add (i * sz)) sz = some cs' ∧ DataW.trod enc Try.prog W 0 sp held n ty cs' = some (elems[i]'(by omega)) := by
      intro i hi
      have e := hel i hi
      rw [List.getElem?_eq_getElem (by omega), Option.bind_eq_some_iff] at e
      obtain ⟨cs', hcs, ht⟩ := e
      rw [hc] at hcs
      exact ⟨cs', hcs, ht⟩
    have spot : 0 < len → a.spot = none := by
      intro h0
      obtain ⟨cs', hcs, ht⟩ := cells 0 h0
      obtain ⟨_, hl, hcc⟩ := World.cells?_some hcs
      have h1 := hcc 0 hp
      rw [List.getElem?_eq_getElem (by omega)] at h1
      simpa [Addr.add] using World.cell?_spot h1
    have key : ∀ i, (hi : i < len) → ∃ r : α, (∃ g o, some a = some ⟨g, o, none⟩ ∧ g < W.heap.size ∧ W.rangeAt g (o + i * sz) (cell r)) ∧ Q r := by
      intro i hi
      obtain ⟨cs', hcs, ht⟩ := cells i hi
      obtain ⟨r, rfl, h1⟩ := hel0 ht
      obtain ⟨_, hl, hcc⟩ := World.cells?_some hcs
      refine ⟨r, ?_, h1⟩
      have hs := spot (by omega)
      obtain ⟨g, o, sp'⟩ := a
      simp only at hs
      subst hs
      have hr : W.rangeAt g (o + i * sz) (cell r) := fun j u hu => by
        have hj : j < sz := by have := (List.getElem?_eq_some_iff.1 hu).1; omega
        have := hcc j hj
        rw [addr_add, addr_add] at this
        rw [this, hu]
      refine ⟨g, o, rfl, ?_, hr⟩
      exact World.block_lt_of_cell? _ _ (hr 0 _ (List.getElem?_eq_getElem (by omega)))
    let f : Nat → α := fun i => if h : i < len then Classical.choose (key i h) else dflt
    have hf : ∀ i, (h : i < len) → f i = Classical.choose (key i h) := fun i h => by show (if h : i < len then _ else _) = _; rw [dif_pos h]
    refine ⟨some a, len, cap, f, rfl, by unfold maxLen at hmx; omega, fun i hi => ?_, fun i hi => ?_⟩
    · have h9 := (Classical.choose_spec (key i hi)).1
      rw [← hf i hi] at h9
      exact h9
    · rw [hf i hi]; exact (Classical.choose_spec (key i hi)).2

theorem opP_mark (h : DataW.trod enc Try.prog W 0 sp held fuel 124 cs = some x) : ∃ m : Mk, cs = m.cells ∧ m.se < 18446744073709551616 ∧ -9223372036854775808 ≤ m.us ∧ m.us ≤ 9223372036854775807 := by
  obtain ⟨xs, m, _, _, hl, hxs, hel⟩ := DataW.trod_struct Try.underlying124 h
  have hxs : xs.length = 2 := hxs
  rw [Try.cp124] at hl
  have e0 : DataW.trod enc Try.prog W 0 sp held m 29 ((cs.drop 0).take (Try.prog.cellsOf 29)) = xs[0]? := hel 0 _ rfl
  have e1 : DataW.trod enc Try.prog W 0 sp held m 3 ((cs.drop 1).take (Try.prog.cellsOf 3)) = xs[1]? := hel 1 _ rfl
  rw [Try.c29] at e0
  rw [Try.c3] at e1
  rw [List.getElem?_eq_getElem (by omega)] at e0 e1
  obtain ⟨n0, c0, _, w0⟩ := DataW.trod_int Try.underlying29 e0
  obtain ⟨n1, c1, _, w1⟩ := DataW.trod_int Try.underlying3 e1
  have i0 := bounds_u64 w0
  have i1 := bounds_i64 w1
  refine ⟨⟨n0.toNat, n1⟩, ?_, by show n0.toNat < _; omega, i1.1, i1.2⟩
  have d0 := cutOne c0
  have d1 := cutOne c1
  have e : ((n0.toNat : Nat) : Int) = n0 := by omega
  have last : cs.drop (1 + 1) = [] := List.drop_of_length_le (by omega)
  rw [last] at d1
  rw [List.drop_zero] at d0
  show cs = [.int .u64 ((n0.toNat : Nat) : Int), .int .i64 n1]
  rw [e, d0, d1]
theorem opP_peak (h : DataW.trod enc Try.prog W 0 sp held fuel 130 cs = some x) : ∃ k : Pk, cs = k.cells ∧ (k.n < 18446744073709551616 ∧ k.x.length = 33 ∧ k.y.length = 32) ∧ Byts k.x ∧ Byts k.y := by
  obtain ⟨xs, m, _, _, hl, hxs, hel⟩ := DataW.trod_struct Try.underlying130 h
  have hxs : xs.length = 2 := hxs
  rw [Try.cp130] at hl
  have e0 : DataW.trod enc Try.prog W 0 sp held m 29 ((cs.drop 0).take (Try.prog.cellsOf 29)) = xs[0]? := hel 0 _ rfl
  have e1 : DataW.trod enc Try.prog W 0 sp held m 73 ((cs.drop 1).take (Try.prog.cellsOf 73)) = xs[1]? := hel 1 _ rfl
  rw [Try.c29] at e0
  rw [Try.cp73] at e1
  rw [List.getElem?_eq_getElem (by omega)] at e0 e1
  obtain ⟨n0, c0, _, w0⟩ := DataW.trod_int Try.underlying29 e0
  obtain ⟨u, y, c1, hu, hy, bu, bty⟩ := opP_limb e1
  have i0 := bounds_u64 w0
  refine ⟨⟨n0.toNat, u, y⟩, ?_, ⟨by show n0.toNat < _; omega, hu, hy⟩, bu, bty⟩
  have d0 := cutOne c0
  have d1 := cutMore c1
  have e : ((n0.toNat : Nat) : Int) = n0 := by omega
  have last : cs.drop (1 + 65) = [] := List.drop_of_length_le (by omega)
  rw [last, List.append_nil] at d1
  rw [List.drop_zero] at d0
  show cs = .int .u64 ((n0.toNat : Nat) : Int) :: bs (u ++ y)
  rw [e, d0, d1]
theorem opP_tree (h : DataW.trod enc Try.prog W 0 sp held fuel 126 cs = some x) : ∃ (u : List Int) (c : Nat) (y : List Int), cs = bs u ++ .int .u64 c :: bs y ∧ u.length = 33 ∧ c < 18446744073709551616 ∧ y.length = 32 ∧ Byts u ∧ Byts y := by
  obtain ⟨xs, m, _, _, hl, hxs, hel⟩ := DataW.trod_struct Try.underlying126 h
  have hxs : xs.length = 3 := hxs
  rw [Try.cp126] at hl
  have e0 : DataW.trod enc Try.prog W 0 sp held m 33 ((cs.drop 0).take (Try.prog.cellsOf 33)) = xs[0]? := hel 0 _ rfl
  have e1 : DataW.trod enc Try.prog W 0 sp held m 29 ((cs.drop 33).take (Try.prog.cellsOf 29)) = xs[1]? := hel 1 _ rfl
  have e2 : DataW.trod enc Try.prog W 0 sp held m 31 ((cs.drop 34).take (Try.prog.cellsOf 31)) = xs[2]? := hel 2 _ rfl
  rw [Try.c33] at e0
  rw [Try.c29] at e1
  rw [Try.c31] at e2
  rw [List.getElem?_eq_getElem (by omega)] at e0 e1 e2
  obtain ⟨u, c0, hu, bu⟩ := opP_addr e0
  obtain ⟨n1, c1, _, w1⟩ := DataW.trod_int Try.underlying29 e1
  obtain ⟨y, c2, hy, bty⟩ := opP_sum e2
  have i1 := bounds_u64 w1
  refine ⟨u, n1.toNat, y, ?_, hu, by omega, hy, bu, bty⟩
  have d0 := cutMore c0
  have d1 := cutOne c1
  have d2 := cutMore c2
  have e : ((n1.toNat : Nat) : Int) = n1 := by omega
  have last : cs.drop (34 + 32) = [] := List.drop_of_length_le (by omega)
  rw [last, List.append_nil] at d2
  rw [List.drop_zero] at d0
  rw [e, d0, d1, d2]
theorem opP_vers (h : DataW.trod enc Try.prog W 0 sp held fuel 128 cs = some x) : ∃ v : Vs, cs = v.cells ∧ (v.n < 18446744073709551616 ∧ v.x.length = 33 ∧ v.c < 18446744073709551616 ∧ v.y.length = 32) ∧ Byts v.x ∧ Byts v.y := by
  obtain ⟨xs, m, _, _, hl, hxs, hel⟩ := DataW.trod_struct Try.underlying128 h
  have hxs : xs.length = 2 := hxs
  rw [Try.cp128] at hl
  have e0 : DataW.trod enc Try.prog W 0 sp held m 29 ((cs.drop 0).take (Try.prog.cellsOf 29)) = xs[0]? := hel 0 _ rfl
  have e1 : DataW.trod enc Try.prog W 0 sp held m 126 ((cs.drop 1).take (Try.prog.cellsOf 126)) = xs[1]? := hel 1 _ rfl
  rw [Try.c29] at e0
  rw [Try.cp126] at e1
  rw [List.getElem?_eq_getElem (by omega)] at e0 e1
  obtain ⟨n0, c0, _, w0⟩ := DataW.trod_int Try.underlying29 e0
  obtain ⟨u, c, y, c1, hu, hc, hy, bu, bty⟩ := opP_tree e1
  have i0 := bounds_u64 w0
  refine ⟨⟨n0.toNat, u, c, y⟩, ?_, ⟨by show n0.toNat < _; omega, hu, hc, hy⟩, bu, bty⟩
  have d0 := cutOne c0
  have d1 := cutMore c1
  have e : ((n0.toNat : Nat) : Int) = n0 := by omega
  have last : cs.drop (1 + 66) = [] := List.drop_of_length_le (by omega)
  rw [last, List.append_nil] at d1
  rw [List.drop_zero] at d0
  show cs = .int .u64 ((n0.toNat : Nat) : Int) :: (bs u ++ .int .u64 c :: bs y)
  rw [e, d0, d1]
theorem opP_annal (h : DataW.trod enc Try.prog W 0 sp held fuel 49 cs = some x) : ∃ (sz : Nat) (pa : Option Addr) (pn pc : Nat) (ps : Nat → Pk), cs = [.int .u64 sz, .slice pa pn pc] ∧ sz < 18446744073709551616 ∧ pn ≤ 9223372036854775807 ∧ RowsIn W (fun g => g < W.heap.size) pa pn 66 (fun i => (ps i).cells) ∧ ∀ i, i < pn → ((ps i).n < 18446744073709551616 ∧ (ps i).x.length = 33 ∧ (ps i).y.length = 32) ∧ Byts (ps i).x ∧ Byts (ps i).y := by
  obtain ⟨xs, m, _, _, hl, hxs, hel⟩ := DataW.trod_struct Try.underlying49 h
  have hxs : xs.length = 2 := hxs
  rw [Try.cp49] at hl
  have e0 : DataW.trod enc Try.prog W 0 sp held m 29 ((cs.drop 0).take (Try.prog.cellsOf 29)) = xs[0]? := hel 0 _ rfl
  have e1 : DataW.trod enc Try.prog W 0 sp held m 47 ((cs.drop 1).take (Try.prog.cellsOf 47)) = xs[1]? := hel 1 _ rfl
  rw [Try.c29] at e0
  rw [Try.cp47] at e1
  rw [List.getElem?_eq_getElem (by omega)] at e0 e1
  obtain ⟨n0, c0, _, w0⟩ := DataW.trod_int Try.underlying29 e0
  obtain ⟨pa, pn, pc, ps, c1, hpn, hrow, hq⟩ := opP_list Try.underlying47 Try.cp130 (by decide) Pk.cells (fun k => (k.n < 18446744073709551616 ∧ k.x.length = 33 ∧ k.y.length = 32) ∧ Byts k.x ∧ Byts k.y) ⟨0, [], []⟩ opP_peak e1
  have i0 := bounds_u64 w0
  refine ⟨n0.toNat, pa, pn, pc, ps, ?_, by omega, hpn, hrow, hq⟩
  have d0 := cutOne c0
  have d1 := cutOne c1
  have e : ((n0.toNat : Nat) : Int) = n0 := by omega
  have last : cs.drop (1 + 1) = [] := List.drop_of_length_le (by omega)
  rw [last] at d1
  rw [List.drop_zero] at d0
  rw [e, d0, d1]
theorem opP_page (h : DataW.trod enc Try.prog W 0 sp held fuel 51 cs = some x) : ∃ P : Pg, cs = P.cells ∧ PgIn W (fun g => g < W.heap.size) P ∧ PgByt P := by
  obtain ⟨xs, m, _, _, hl, hxs, hel⟩ := DataW.trod_struct Try.underlying51 h
  have hxs : xs.length = 6 := hxs
  rw [Try.cp51] at hl
  have e0 : DataW.trod enc Try.prog W 0 sp held m 29 ((cs.drop 0).take (Try.prog.cellsOf 29)) = xs[0]? := hel 0 _ rfl
  have e1 : DataW.trod enc Try.prog W 0 sp held m 3 ((cs.drop 1).take (Try.prog.cellsOf 3)) = xs[1]? := hel 1 _ rfl
  have e2 : DataW.trod enc Try.prog W 0 sp held m 29 ((cs.drop 2).take (Try.prog.cellsOf 29)) = xs[2]? := hel 2 _ rfl
  have e3 : DataW.trod enc Try.prog W 0 sp held m 45 ((cs.drop 3).take (Try.prog.cellsOf 45)) = xs[3]? := hel 3 _ rfl
  have e4 : DataW.trod enc Try.prog W 0 sp held m 46 ((cs.drop 4).take (Try.prog.cellsOf 46)) = xs[4]? := hel 4 _ rfl
  have e5 : DataW.trod enc Try.prog W 0 sp held m 49 ((cs.drop 5).take (Try.prog.cellsOf 49)) = xs[5]? := hel 5 _ rfl
  rw [Try.c29] at e0 e2
  rw [Try.c3] at e1
  rw [Try.cp45] at e3
  rw [Try.cp46] at e4
  rw [Try.cp49] at e5
  rw [List.getElem?_eq_getElem (by omega)] at e0 e1 e2 e3 e4 e5
  obtain ⟨n0, c0, _, w0⟩ := DataW.trod_int Try.underlying29 e0
  obtain ⟨n1, c1, _, w1⟩ := DataW.trod_int Try.underlying3 e1
  obtain ⟨n2, c2, _, w2⟩ := DataW.trod_int Try.underlying29 e2
  obtain ⟨ma, mn, mc, ms, c3, hmn, mrow, mq⟩ := opP_list Try.underlying45 Try.cp124 (by decide) Mk.cells (fun m => m.se < 18446744073709551616 ∧ -9223372036854775808 ≤ m.us ∧ m.us ≤ 9223372036854775807) ⟨0, 0⟩ opP_mark e3
  obtain ⟨va, vn, vc, vs, c4, hvn, vrow, vq⟩ := opP_list Try.underlying46 Try.cp128 (by decide) Vs.cells (fun v => (v.n < 18446744073709551616 ∧ v.x.length = 33 ∧ v.c < 18446744073709551616 ∧ v.y.length = 32) ∧ Byts v.x ∧ Byts v.y) ⟨0, [], 0, []⟩ opP_vers e4
  obtain ⟨sz, pa, pn, pc, ps, c5, hsz, hpn, prow, pq⟩ := opP_annal e5
  have i0 := bounds_u64 w0
  have i1 := bounds_i64 w1
  have i2 := bounds_u64 w2
  refine ⟨⟨n0.toNat, n1, n2.toNat, ma, mn, mc, ms, va, vn, vc, vs, sz, pa, pn, pc, ps⟩, ?_, ⟨by show n0.toNat < _; omega, i1, by show n2.toNat < _; omega, hsz, hmn, hvn, hpn, mrow, vrow, prow, mq, fun i hi => (vq i hi).1, fun i hi => (pq i hi).1⟩, ⟨fun i hi => (vq i hi).2, fun i hi => (pq i hi).2⟩⟩
  have d0 := cutOne c0
  have d1 := cutOne c1
  have d2 := cutOne c2
  have d3 := cutOne c3
  have d4 := cutOne c4
  have d5 := cutMore c5
  have q0 : ((n0.toNat : Nat) : Int) = n0 := by omega
  have q2 : ((n2.toNat : Nat) : Int) = n2 := by omega
  have last : cs.drop (5 + 2) = [] := List.drop_of_length_le (by omega)
  rw [last, List.append_nil] at d5
  rw [List.drop_zero] at d0
  show cs = [.int .u64 ((n0.toNat : Nat) : Int), .int .i64 n1, .int .u64 ((n2.toNat : Nat) : Int), .slice ma mn mc, .slice va vn vc, .int .u64 sz, .slice pa pn pc]
  rw [q0, q2, d0, d1, d2, d3, d4, d5]
end

set_option maxRecDepth 100000 in
theorem okWide_structP {W : World} {base : Nat} {t : TypeId} {v : Value} {fs : Array Field} (hu : Try.prog.underlying t = some (.struct fs)) (hv : Value.okWide Try.prog W .any base t v) : ∃ cs : List Value, v = .agg cs.toArray := by
  obtain ⟨cs, rfl, _, _⟩ : ∃ cs, v = .agg cs ∧ cs.size = Try.prog.cellsOf t ∧ Row.okWide Try.prog W .any base t cs := by
    simpa [Value.okWide, hu] using hv
  exact ⟨cs.toList, by simp⟩

set_option maxRecDepth 100000 in
theorem backPage_lifted (os : Os) (started : os.Started) (H : Type) (enc : TypeId × Value → H) :
    ReturnsInHanded {} Try.checked os 4 .any (Rows.codecBackPageSpec.pre6 enc Try.prog Try.f4 Rows.codecBackPageRow.domain false) (Rows.codecBackPageSpec.post enc Try.prog Try.f4 false true false false) := by
  refine returnsInHanded_of_change_sized (C := Try.checked) ownKn started (by kernel_rfl) Try.func4
    (ChangeSpec.witness6 (enc := enc) (C := Try.checked) false ⟨#[], #[.agg pgZ.toArray, .int .i64 0], []⟩ 8 (by kernel_rfl) (by kernel_rfl) (by kernel_rfl) (by kernel_rfl)) ?_
  intro W base args ds gs before hval0 hW hcnd hsz _
  have hval : ∀ (j : Nat) t v, Try.f4.params[j]? = some t → args[j]? = some v → Value.okWide Try.prog W .any base t v := hval0
  have hW' := hW
  obtain ⟨p, q, hA0, hV, rfl, hfz, hnd⟩ := hW
  have hA : DataW.TrodAll enc Try.prog W 0 (fun _ => true) true Try.f4.params.toList args.toList ds p := hA0
  rw [Try.params4] at hA hval
  obtain ⟨v0, vs0, d0, ds0, p0, q0, hargs, rfl, rfl, h0, r0⟩ := trodAll_cons hA
  obtain ⟨v1, vs1, d1, ds1, p1, q1, rfl, rfl, rfl, h1, r1⟩ := trodAll_cons r0
  obtain ⟨rfl, rfl, rfl⟩ := trodAll_nil r1
  obtain rfl : args = #[v0, v1] := by cases args; simp_all
  obtain ⟨rfl, rfl⟩ := trodVars_none hV
  have k0 := h0
  have k1 := h1
  have lt0 : ∀ x ∈ p0, x.block < W.heap.size := by obtain ⟨m, hm⟩ := k0; exact DataW.trod_lt m _ _ _ hm
  have lt1 : ∀ x ∈ p1, x.block < W.heap.size := by obtain ⟨m, hm⟩ := k1; exact DataW.trod_lt m _ _ _ hm
  obtain ⟨f0, hf0⟩ := h0
  obtain ⟨f1, hf1⟩ := h1
  obtain ⟨c0, rfl⟩ := okWide_structP Try.underlying51 (hval 0 51 v0 rfl rfl)
  obtain ⟨P, e0, hP, hPb⟩ := opP_page (cs := c0) hf0
  obtain ⟨cut, rfl⟩ := okWide_int Try.underlying3 (hval 1 3 v1 rfl rfl)
  obtain ⟨cut2, g3, _, w3⟩ := DataW.trod_int Try.underlying3 hf1
  have g3 : [Value.int .i64 cut] = [Value.int .i64 cut2] := g3
  injection g3 with g3 _
  injection g3 with _ g3
  subst g3
  subst e0
  clear hA0 hval0
  refine (backPage_any hP hPb cut (bounds_i64 w3)).mono fun e W' ⟨he, bel⟩ => ?_
  subst he
  exact ⟨_, rfl, _, _, _, [], _, [], hW', trodAll_mk1 (shut_bool Try.underlying4 _), trodAll_cons_mk (Below.trod laidOutS (by kernel_rfl) (of_decide_eq_true (by kernel_rfl)) k0 bel lt0) (trodAll_cons_mk (Below.trod laidOutS (by kernel_rfl) (of_decide_eq_true (by kernel_rfl)) k1 bel lt1) trodAll_mk0), rfl, bel.frame _, fun h => by cases h⟩

theorem codecBackPage_holds : Rows.CodecBackPageSaid :=
  OpenClaim.holds_of_wide 4 Try.f4 rfl rfl rfl rfl rfl rfl rfl ⟨rfl, rfl, rfl, rfl, rfl⟩ rfl rfl rfl rfl rfl (by kernel_rfl) Try.func4 (by kernel_rfl)
    (of_decide_eq_true (by kernel_rfl)) (by unfold Func.isWrapper; first | (rw [if_pos (by decide +kernel)]; kernel_rfl) | (rw [if_neg (by decide +kernel)]; exact ⟨rfl, rfl⟩))
    (fun os started H enc _ => backPage_lifted os started H enc)
end Go.Proofs.Ytgmheipbcopajaa
