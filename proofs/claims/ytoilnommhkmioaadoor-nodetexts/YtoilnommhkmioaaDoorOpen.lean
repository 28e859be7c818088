/-
  What came in, opened: bytes, sums, kids; the table of first bytes.
-/
import Derived.Test.YtoilnommhkmioaaDoorNdC
import Derived.Test.YtoilnommhkmioaaDoorTie
import Derived.Test.YtoilnommhkmioaaDoorCards
import Derived.ProofKit
import Derived.OpenShut
import Derived.ChangeSlices
import Derived.JoinedCond
import Derived.SizedLaws
import Derived.ChangeOld
import Derived.LaidMore
import Derived.Stop.Joined
namespace Go.Proofs.YtoilnommhkmioaaDoor
open Go.ChangeShapes Go.WideShapes Go.ChangeAt Go.RowKit

theorem ownS : ownKnob Tryd.prog.godebug = none := by kernel_rfl
theorem laidOutS : laidOutB Tryd.prog = true := by kernel_rfl
theorem Tryd.c5 : Tryd.prog.cellsOf 5 = 1 := by kernel_rfl
theorem Tryd.c3 : Tryd.prog.cellsOf 3 = 1 := by kernel_rfl
theorem Tryd.c22 : Tryd.prog.cellsOf 22 = 1 := by kernel_rfl
theorem Tryd.c23 : Tryd.prog.cellsOf 23 = 1 := by kernel_rfl
theorem Tryd.c25 : Tryd.prog.cellsOf 25 = 32 := by kernel_rfl
theorem Tryd.c29 : Tryd.prog.cellsOf 29 = 68 := by kernel_rfl
theorem Tryd.bytes5 : Tryd.prog.bytesOf 5 = 1 := by kernel_rfl
theorem Tryd.fields29 : ∃ ft, (Tryd.prog.fieldsOf 29).toList.map (fun f => (f.type, f.offset)) = [(3, 0), (22, 1), (23, 2), (ft, 3), (25, 36)] ∧ Tryd.prog.cellsOf ft = 33 := ⟨27, by kernel_rfl, by kernel_rfl⟩
def Byts (l : List Int) : Prop := ∀ y ∈ l, 0 ≤ y ∧ y ≤ 255
theorem Tryd.c27 : Tryd.prog.cellsOf 27 = 33 := by kernel_rfl

section
variable {H : Type} {enc : TypeId × Value → H} {W : World} {sp : Nat → Bool} {held : Bool} {fuel : Nat} {cs : List Value} {x : DataW H × List MemPlace}

theorem op_sumS (h : DataW.trod enc Tryd.prog W 0 sp held fuel 25 cs = some x) : ∃ z : List Int, z.length = 32 ∧ cs = bs z ∧ ∀ y ∈ z, 0 ≤ y ∧ y ≤ 255 := by
  obtain ⟨xs, m, _, _, hl, hxs, hel⟩ := DataW.trod_array Tryd.underlying25 h
  rw [Tryd.c25] at hl
  have key : ∀ i, i < 32 → ∃ n : Int, cs[i]? = some (.int .u8 n) ∧ 0 ≤ n ∧ n ≤ 255 := by
    intro i hi
    have e := hel i hi
    rw [Tryd.c5] at e
    have hx : xs[i]? = some xs[i] := List.getElem?_eq_getElem (by omega)
    rw [hx] at e
    obtain ⟨n, e1, _, wn⟩ := DataW.trod_int Tryd.underlying5 e
    refine ⟨n, ?_, bounds_u8 wn⟩
    rw [Nat.mul_one] at e1
    have h2 : ((cs.drop i).take 1)[0]? = some (.int .u8 n) := by rw [e1]; rfl
    simpa using h2
  refine ⟨(List.range 32).map fun i => if h : i < 32 then Classical.choose (key i h) else 0, by simp, ?_, ?_⟩
  · apply List.ext_getElem?
    intro i
    by_cases h : i < 32
    · rw [(Classical.choose_spec (key i h)).1]
      simp [bs, h]
    · rw [List.getElem?_eq_none (by omega), List.getElem?_eq_none (by simp [bs]; omega)]
  · intro y hy
    simp only [List.mem_map, List.mem_range] at hy
    obtain ⟨i, hi, rfl⟩ := hy
    have := (Classical.choose_spec (key i hi)).2
    simpa [hi] using this

theorem op_addrS (h : DataW.trod enc Tryd.prog W 0 sp held fuel 27 cs = some x) : ∃ (z : List Int) (nth : Int), z.length = 32 ∧ cs = bs (z ++ [nth]) ∧ ∀ y ∈ z ++ [nth], 0 ≤ y ∧ y ≤ 255 := by
  obtain ⟨xs, m, _, _, hl, hxs, hel⟩ := DataW.trod_struct Tryd.underlying27 h
  have hxs : xs.length = 2 := hxs
  rw [Tryd.c27] at hl
  have e0 : DataW.trod enc Tryd.prog W 0 sp held m 25 ((cs.drop 0).take (Tryd.prog.cellsOf 25)) = xs[0]? := hel 0 _ rfl
  have e1 : DataW.trod enc Tryd.prog W 0 sp held m 5 ((cs.drop 32).take (Tryd.prog.cellsOf 5)) = xs[1]? := hel 1 _ rfl
  rw [Tryd.c25, List.drop_zero] at e0
  rw [Tryd.c5] at e1
  have h0 : xs[0]? = some xs[0] := List.getElem?_eq_getElem (by omega)
  have h1 : xs[1]? = some xs[1] := List.getElem?_eq_getElem (by omega)
  rw [h0] at e0
  rw [h1] at e1
  obtain ⟨z, hz, ez, bz⟩ := op_sumS e0
  obtain ⟨n, en, _, wn⟩ := DataW.trod_int Tryd.underlying5 e1
  refine ⟨z, n, hz, ?_, ?_⟩
  · rw [bs_app, ← ez]
    have e2 : (cs.drop 32).take 1 = cs.drop 32 := List.take_of_length_le (by simp; omega)
    rw [e2] at en
    have := List.take_append_drop 32 cs
    rw [en] at this
    exact this.symm
  · intro y hy
    rcases List.mem_append.1 hy with hy | hy
    · exact bz y hy
    · simp at hy; subst hy; exact bounds_u8 wn

theorem op_bytes3 (h : DataW.trod enc Tryd.prog W 0 sp held fuel 22 cs = some x) : ∃ (v : Value) (l : List Int), cs = [v] ∧ Src W v l ∧ Byts l ∧ (∃ a c, v = .slice a l.length c ∧ l.length ≤ c ∧ c ≤ 9223372036854775807) ∧ (l = [] ∨ ∃ elems spare, x.1 = .slice elems spare ∧ elems.length = l.length) := by
  rcases ChangeShapes.open_ints Tryd.underlying22 Tryd.underlying5 Tryd.c5 h with ⟨rfl, rfl⟩ | ⟨a, len, cap, zs, rfl, _, hl, hcap, hzl, rfl, hc, hw⟩
  · refine ⟨_, [], rfl, .inl ⟨rfl, rfl⟩, ?_, ⟨none, 0, rfl, Nat.le_refl _, by omega⟩, .inl rfl⟩
    intro y hy
    cases hy
  · have hlz : len ≤ zs.length := by rw [hzl]; split <;> omega
    have htl : (zs.take len).length = len := by rw [List.length_take]; omega
    refine ⟨_, zs.take len, rfl, .inr ⟨a, cap, by rw [htl], fun j u hu => ?_⟩, fun y hy => bounds_u8 (hw y (List.mem_of_mem_take hy)), ⟨some a, cap, by rw [htl], by omega, by unfold maxLen at hcap; omega⟩, .inr ⟨_, _, rfl, ?_⟩⟩
    · have hj : j < len := by have := (List.getElem?_eq_some_iff.1 hu).1; rw [bs_len, htl] at this; exact this
      have hcj := hc j (by omega)
      have hc0 := hc 0 (by omega)
      have hs : a.spot = none := by simpa [Addr.add] using World.cell?_spot hc0
      refine ⟨hs, ?_⟩
      obtain ⟨b, o, s⟩ := a
      simp only at hs
      subst hs
      rw [addr_add] at hcj
      rw [hcj, ← hu, bs_get _ _ (by omega)]
      simp only [List.getElem_take]
      rw [List.getD_eq_getElem?_getD, List.getElem?_eq_getElem (by omega)]
      rfl
    · simp [ChangeShapes.lits]


theorem op_kid (h : DataW.trod enc Tryd.prog W 0 sp held fuel 29 cs = some x) : ∃ (lv cn : Int) (kv : Value) (m ad y : List Int), cs = kidC lv cn kv ad y ∧ (-9223372036854775808 ≤ lv ∧ lv ≤ 9223372036854775807) ∧ 0 ≤ cn ∧ cn < 18446744073709551616 ∧ ad.length = 33 ∧ y.length = 32 ∧ Src W kv m ∧ (m = [] ∨ ∃ d0 d2 d3 d4 elems spare, x.1 = .agg [d0, .slice elems spare, d2, d3, d4] ∧ elems.length = m.length) := by
  obtain ⟨xs, mm, _, hx, hl, hxs, hel⟩ := DataW.trod_struct Tryd.underlying29 h
  have hxs : xs.length = 5 := hxs
  obtain ⟨x0, x1, x2, x3, x4, rfl⟩ : ∃ x0 x1 x2 x3 x4, xs = [x0, x1, x2, x3, x4] := by
    match xs, hxs with
    | [x0, x1, x2, x3, x4], _ => exact ⟨_, _, _, _, _, rfl⟩
  rw [Tryd.c29] at hl
  have e0 : DataW.trod enc Tryd.prog W 0 sp held mm 3 ((cs.drop 0).take (Tryd.prog.cellsOf 3)) = some x0 := hel 0 _ rfl
  have e1 : DataW.trod enc Tryd.prog W 0 sp held mm 22 ((cs.drop 1).take (Tryd.prog.cellsOf 22)) = some x1 := hel 1 _ rfl
  have e2 : DataW.trod enc Tryd.prog W 0 sp held mm 23 ((cs.drop 2).take (Tryd.prog.cellsOf 23)) = some x2 := hel 2 _ rfl
  have e3 : DataW.trod enc Tryd.prog W 0 sp held mm 27 ((cs.drop 3).take (Tryd.prog.cellsOf 27)) = some x3 := hel 3 _ rfl
  have e4 : DataW.trod enc Tryd.prog W 0 sp held mm 25 ((cs.drop 36).take (Tryd.prog.cellsOf 25)) = some x4 := hel 4 _ rfl
  rw [Tryd.c3, List.drop_zero] at e0
  rw [Tryd.c22] at e1
  rw [Tryd.c23] at e2
  rw [Tryd.c27] at e3
  rw [Tryd.c25] at e4
  obtain ⟨lv, f0, _, w0⟩ := DataW.trod_int Tryd.underlying3 e0
  obtain ⟨kv, m, f1, sm, _, _, hm⟩ := op_bytes3 e1
  obtain ⟨cn, f2, _, w2⟩ := DataW.trod_int Tryd.underlying23 e2
  obtain ⟨z, nth, hz, f3, _⟩ := op_addrS e3
  obtain ⟨y, hy, f4, _⟩ := op_sumS e4
  have b0 := bounds_i64 w0
  have b2 := bounds_u64 w2
  refine ⟨lv, cn, kv, m, z ++ [nth], y, ?_, by omega, by omega, by omega, by simp [hz], hy, sm, ?_⟩
  · have g4 : cs.drop 36 = bs y := by rw [← f4, List.take_of_length_le (by simp; omega)]
    have g3 : cs.drop 3 = bs (z ++ [nth]) ++ bs y := by
      have := List.take_append_drop 33 (cs.drop 3)
      rw [f3, List.drop_drop, g4] at this
      exact this.symm
    have g2 : cs.drop 2 = .int .u64 cn :: (bs (z ++ [nth]) ++ bs y) := by
      have := List.take_append_drop 1 (cs.drop 2)
      rw [f2, List.drop_drop, g3] at this
      exact this.symm
    have g1 : cs.drop 1 = kv :: .int .u64 cn :: (bs (z ++ [nth]) ++ bs y) := by
      have := List.take_append_drop 1 (cs.drop 1)
      rw [f1, List.drop_drop, g2] at this
      exact this.symm
    have := List.take_append_drop 1 cs
    rw [f0, g1] at this
    rw [← this, kidC, bs_app (z ++ [nth])]
    rfl
  · rcases hm with hm | ⟨elems, spare, he, hl2⟩
    · exact .inl hm
    · refine .inr ⟨x0.1, x2.1, x3.1, x4.1, elems, spare, ?_, hl2⟩
      rw [hx]
      have he : x1.1 = .slice elems spare := he
      simp [he]
end

set_option maxRecDepth 100000 in
theorem okWide_struct {W : World} {base : Nat} {t : TypeId} {v : Value} {fs : Array Field} (hu : Tryd.prog.underlying t = some (.struct fs)) (hv : Value.okWide Tryd.prog W .any base t v) : ∃ cs : List Value, v = .agg cs.toArray := by
  obtain ⟨cs, rfl, _, _⟩ : ∃ cs, v = .agg cs ∧ cs.size = Tryd.prog.cellsOf t ∧ Row.okWide Tryd.prog W .any base t cs := by
    simpa [Value.okWide, hu] using hv
  exact ⟨cs.toList, by simp⟩
set_option maxRecDepth 100000 in
theorem okWide_array {W : World} {base : Nat} {t e : TypeId} {n : Nat} {v : Value} (hu : Tryd.prog.underlying t = some (.array n e)) (hv : Value.okWide Tryd.prog W .any base t v) : ∃ cs : List Value, v = .agg cs.toArray := by
  obtain ⟨cs, rfl, _, _⟩ : ∃ cs, v = .agg cs ∧ cs.size = Tryd.prog.cellsOf t ∧ Row.okWide Tryd.prog W .any base t cs := by
    simpa [Value.okWide, hu] using hv
  exact ⟨cs.toList, by simp⟩

theorem gTags : Tryd.prog.globalNamed "witness/node.tags" = some 0 := by kernel_rfl
theorem tTags : (Tryd.prog.globals[0]?).map (·.type) = some 54 := by kernel_rfl
theorem Tryd.c54 : Tryd.prog.cellsOf 54 = 5 := by kernel_rfl
def laidT : List (String × DataW Unit) := [("witness/node.tags", Rows.laid_witness_node_tags)]

theorem tags_of_laid {W : World} (h : laidMetH Tryd.prog laidT W) : Tags W := by
  rw [MakeChecks.laidMetH_plain _ _ _ (by kernel_rfl)] at h
  obtain ⟨ps, ⟨g0, t0, cs0, f0, p0, q0, hg0, ht0, hv0, hd0, _, _⟩, _, _⟩ := h
  obtain rfl := Option.some.inj (gTags.symm.trans hg0)
  obtain rfl := Option.some.inj (tTags.symm.trans ht0)
  obtain ⟨xs, m1, rfl, hx1, hlen, hn5, hel⟩ := DataW.trod_array Tryd.underlying54 hd0
  simp only [Prod.mk.injEq, Rows.laid_witness_node_tags, DataW.agg.injEq] at hx1
  intro i x hx
  have hi : i < 5 := by
    have := (List.getElem?_eq_some_iff.1 hx).1
    simpa using this
  have h0 := hel i hi
  rw [Tryd.c5] at h0
  have hxi : xs[i]? = some xs[i] := List.getElem?_eq_getElem (by omega)
  rw [hxi] at h0
  obtain ⟨k, e1, e2, _⟩ := DataW.trod_int Tryd.underlying5 h0
  have hk : k = x := by
    have e3 : (xs.map (·.1))[i]? = some (.lit (.int .u8 x)) := by
      rw [← hx1.1]
      match i, hi, hx with
      | 0, _, hx => simp at hx; subst hx; rfl
      | 1, _, hx => simp at hx; subst hx; rfl
      | 2, _, hx => simp at hx; subst hx; rfl
      | 3, _, hx => simp at hx; subst hx; rfl
      | 4, _, hx => simp at hx; subst hx; rfl
    rw [List.getElem?_map, hxi, e2] at e3
    simpa using e3
  subst hk
  have := World.var?_cell hg0 hv0 i
  rw [this]
  have h2 : ((cs0.toList.drop (i * 1)).take 1)[0]? = some (.int .u8 k) := by rw [e1]; rfl
  simpa using h2
end Go.Proofs.YtoilnommhkmioaaDoor
