/-
  CodecBack: the row, proved out of the walk.
-/
import Derived.Test.YtgmheipbcopajaaBack
import Derived.Test.YtgmheipbcopajaaOpenS
import Derived.Test.YtgmheipbcopajaaLeavesRow
namespace Go.Proofs.Ytgmheipbcopajaa
open Go.ChangeShapes Go.WideShapes Go.ChangeAt Go.RowKit

theorem Try.cells155 : Try.prog.cellsOf 155 = 68 := by kernel_rfl
theorem Try.cells69 : Try.prog.cellsOf 69 = 36 := by kernel_rfl
theorem Try.cells67 : Try.prog.cellsOf 67 = 1 := by kernel_rfl
theorem Try.cells4 : Try.prog.cellsOf 4 = 1 := by kernel_rfl
theorem Try.bytes155 : Try.prog.bytesOf 155 = 112 := by kernel_rfl

/-- A cell ahead of the others. -/
theorem cut_one {cs : List Value} {k : Nat} {v : Value} (hv : (cs.drop k).take 1 = [v]) : cs.drop k = v :: cs.drop (k + 1) := by
  have hlt : k < cs.length := by
    rcases Nat.lt_or_ge k cs.length with h | h
    · exact h
    · rw [List.drop_of_length_le h] at hv; simp at hv
  rw [List.drop_eq_getElem_cons hlt] at hv ⊢
  injection hv with hv _
  rw [hv]
theorem cut_more {cs x : List Value} {k m : Nat} (hv : (cs.drop k).take m = x) : cs.drop k = x ++ cs.drop (k + m) := by
  rw [← hv]
  have h9 := (List.take_append_drop m (cs.drop k)).symm
  rwa [List.drop_drop] at h9

section
variable {H : Type} {enc : TypeId × Value → H} {W : World} {sp : Nat → Bool} {held : Bool} {fuel : Nat} {cs : List Value} {x : DataW H × List MemPlace}

theorem op_sumB (h : DataW.trod enc Try.prog W 0 sp held fuel 31 cs = some x) : ∃ z : List Int, cs = bs z ∧ z.length = 32 ∧ Byts z := by
  obtain ⟨z, h1, h2, h3⟩ := op_sumS h
  exact ⟨z, h2, h1, h3⟩
theorem op_addrB (h : DataW.trod enc Try.prog W 0 sp held fuel 33 cs = some x) : ∃ z : List Int, cs = bs z ∧ z.length = 33 ∧ Byts z := by
  obtain ⟨z, nth, h1, h2, h3⟩ := op_addrS h
  exact ⟨z ++ [nth], h2, by simp [h1], h3⟩

/-- Bytes that came in, wherever they lie. -/
theorem op_text (h : DataW.trod enc Try.prog W 0 sp held fuel 23 cs = some x) : ∃ (a : Option Addr) (c : Nat) (l : List Int), cs = [.slice a l.length c] ∧ Src W (.slice a l.length c) l ∧ Byts l ∧ l.length ≤ 9223372036854775807 ∧ ∀ g, (Value.slice a l.length c).ownBlock = some g → g < W.heap.size ∨ l = [] := by
  rcases ChangeShapes.open_ints Try.underlying23 Try.underlying5 Try.c5 h with ⟨rfl, rfl⟩ | ⟨a, len, cap, zs, rfl, _, hl, hcap, hzl, rfl, hc, hw⟩
  · exact ⟨none, 0, [], rfl, .inl ⟨rfl, rfl⟩, (fun y hy => by cases hy), (by simp), (fun g hg => by simp [Value.ownBlock] at hg)⟩
  · have hlz : len ≤ zs.length := by rw [hzl]; split <;> omega
    have htl : (zs.take len).length = len := by rw [List.length_take]; omega
    have hsrc : Src W (.slice (some a) (zs.take len).length cap) (zs.take len) := .inr ⟨a, cap, rfl, fun j u hu => by
      have hj : j < len := by have := (List.getElem?_eq_some_iff.1 hu).1; rw [bs_len, htl] at this; exact this
      have hcj := hc j (by omega)
      have hc0 := hc 0 (by omega)
      have hs : a.spot = none := by simpa [Addr.add] using World.cell?_spot hc0
      refine ⟨hs, ?_⟩
      obtain ⟨b, o, s⟩ := a
      simp only at hs
      subst hs
      rw [addr_add] at hcj
      rw [hcj, ← hu, bs_get _ _ (by omega)]
      simp only [List.getElem_take]
      rw [List.getD_eq_getElem?_getD, List.getElem?_eq_getElem (by omega)]
      rfl⟩
    refine ⟨some a, cap, zs.take len, by rw [htl], hsrc, fun y hy => bounds_u8 (hw y (List.mem_of_mem_take hy)), by unfold maxLen at hcap; omega, fun g hg => ?_⟩
    rcases Nat.eq_zero_or_pos len with h0 | h0
    · exact .inr (List.eq_nil_of_length_eq_zero (by omega))
    · left
      have hc0 := hc 0 (by omega)
      have e : a.block = g := by simpa [Value.ownBlock] using hg
      have := World.block_lt_of_cell? _ _ hc0
      have e2 : (a.add 0).block = a.block := by unfold Addr.add; split <;> rfl
      omega

theorem op_kid (h : DataW.trod enc Try.prog W 0 sp held fuel 155 cs = some x) : ∃ k : Kd, cs = k.cells ∧ (KdIn W (fun g => g < W.heap.size) k ∧ k.kn = k.kl.length ∧ k.kl.length ≤ 9223372036854775807) ∧ Byts k.kl ∧ Byts k.ad ∧ Byts k.lb := by
  obtain ⟨xs, m, _, _, hl, hxs, hel⟩ := DataW.trod_struct Try.underlying155 h
  have hxs : xs.length = 5 := hxs
  rw [Try.cells155] at hl
  have e0 : DataW.trod enc Try.prog W 0 sp held m 3 ((cs.drop 0).take (Try.prog.cellsOf 3)) = xs[0]? := hel 0 _ rfl
  have e1 : DataW.trod enc Try.prog W 0 sp held m 23 ((cs.drop 1).take (Try.prog.cellsOf 23)) = xs[1]? := hel 1 _ rfl
  have e2 : DataW.trod enc Try.prog W 0 sp held m 29 ((cs.drop 2).take (Try.prog.cellsOf 29)) = xs[2]? := hel 2 _ rfl
  have e3 : DataW.trod enc Try.prog W 0 sp held m 33 ((cs.drop 3).take (Try.prog.cellsOf 33)) = xs[3]? := hel 3 _ rfl
  have e4 : DataW.trod enc Try.prog W 0 sp held m 31 ((cs.drop 36).take (Try.prog.cellsOf 31)) = xs[4]? := hel 4 _ rfl
  rw [Try.c3] at e0
  rw [Try.c23] at e1
  rw [Try.c29] at e2
  rw [Try.c33] at e3
  rw [Try.c31] at e4
  rw [List.getElem?_eq_getElem (by omega)] at e0 e1 e2 e3 e4
  obtain ⟨n0, c0, _, w0⟩ := DataW.trod_int Try.underlying3 e0
  obtain ⟨a, c, l, c1, s1, b1, l1, v1⟩ := op_text e1
  obtain ⟨n2, c2, _, w2⟩ := DataW.trod_int Try.underlying29 e2
  obtain ⟨z3, c3, h3, b3⟩ := op_addrB e3
  obtain ⟨z4, c4, h4, b4⟩ := op_sumB e4
  have i0 := bounds_i64 w0
  have i2 := bounds_u64 w2
  refine ⟨⟨n0, a, l.length, c, l, n2.toNat, z3, z4⟩, ?_, ⟨⟨s1, v1, i0, by show n2.toNat < _; omega, h3, h4⟩, rfl, l1⟩, b1, b3, b4⟩
  have d0 := cut_one c0
  have d1 := cut_one c1
  have d2 := cut_one c2
  have d3 := cut_more c3
  have d4 := cut_more c4
  have e : ((n2.toNat : Nat) : Int) = n2 := by omega
  have last : cs.drop (36 + 32) = [] := List.drop_of_length_le (by omega)
  rw [last, List.append_nil] at d4
  rw [List.drop_zero] at d0
  show cs = .int .i64 n0 :: .slice a l.length c :: .int .u64 ((n2.toNat : Nat) : Int) :: bs (z3 ++ z4)
  rw [e, bs_app, d0, d1, d2, d3, d4]

theorem op_kids (h : DataW.trod enc Try.prog W 0 sp held fuel 67 cs = some x) : ∃ (sa : Option Addr) (sn sc : Nat) (ks : Nat → Kd), cs = [.slice sa sn sc] ∧ sn ≤ 9223372036854775807 ∧ (∀ i, i < sn → ∃ g o, sa = some ⟨g, o, none⟩ ∧ g < W.heap.size ∧ W.rangeAt g (o + i * 68) (ks i).cells) ∧ (∀ i, i < sn → (KdIn W (fun g => g < W.heap.size) (ks i) ∧ (ks i).kn = (ks i).kl.length ∧ (ks i).kl.length ≤ 9223372036854775807) ∧ Byts (ks i).kl ∧ Byts (ks i).ad ∧ Byts (ks i).lb) := by
  have dflt : Kd := ⟨0, none, 0, 0, [], 0, [], []⟩
  rcases DataW.trod_slice Try.underlying67 h with ⟨rfl, _⟩ | ⟨a, len, cap, elems, rest, n, _, rfl, rfl, _, hlc, hmx, hlen, hel, _, _⟩
  · exact ⟨none, 0, 0, fun _ => dflt, rfl, by omega, fun i hi => by omega, fun i hi => by omega⟩
  · have cells : ∀ i, (hi : i < len) → ∃ cs', W.cells? 0 (a.add (i * 68)) 68 = some cs' ∧ DataW.trod enc Try.prog W 0 sp held n 155 cs' = some (elems[i]'(by omega)) := by
      intro i hi
      have e := hel i hi
      rw [List.getElem?_eq_getElem (by omega), Option.bind_eq_some_iff] at e
      obtain ⟨cs', hcs, ht⟩ := e
      rw [Try.cells155] at hcs
      exact ⟨cs', hcs, ht⟩
    have spot : 0 < len → a.spot = none := by
      intro h0
      obtain ⟨cs', hcs, ht⟩ := cells 0 h0
      obtain ⟨_, hl, hc⟩ := World.cells?_some hcs
      have h1 := hc 0 (by omega)
      rw [List.getElem?_eq_getElem (by omega)] at h1
      simpa [Addr.add] using World.cell?_spot h1
    have key : ∀ i, (hi : i < len) → ∃ k : Kd, (∃ g o, some a = some ⟨g, o, none⟩ ∧ g < W.heap.size ∧ W.rangeAt g (o + i * 68) k.cells) ∧ (KdIn W (fun g => g < W.heap.size) k ∧ k.kn = k.kl.length ∧ k.kl.length ≤ 9223372036854775807) ∧ Byts k.kl ∧ Byts k.ad ∧ Byts k.lb := by
      intro i hi
      obtain ⟨cs', hcs, ht⟩ := cells i hi
      obtain ⟨k, rfl, h1, h2⟩ := op_kid ht
      obtain ⟨_, hl, hc⟩ := World.cells?_some hcs
      refine ⟨k, ?_, h1, h2⟩
      have hs := spot (by omega)
      obtain ⟨g, o, sp'⟩ := a
      simp only at hs
      subst hs
      have hr : W.rangeAt g (o + i * 68) k.cells := fun j u hu => by
        have hj : j < 68 := by have := (List.getElem?_eq_some_iff.1 hu).1; omega
        have := hc j hj
        rw [addr_add, addr_add] at this
        rw [this, hu]
      refine ⟨g, o, rfl, ?_, hr⟩
      have := World.block_lt_of_cell? _ _ (hr 0 (.int .i64 k.lv) rfl)
      exact this
    let ks : Nat → Kd := fun i => if h : i < len then Classical.choose (key i h) else dflt
    have hks : ∀ i, (h : i < len) → ks i = Classical.choose (key i h) := fun i h => by show (if h : i < len then _ else _) = _; rw [dif_pos h]
    refine ⟨some a, len, cap, ks, rfl, by unfold maxLen at hmx; omega, fun i hi => ?_, fun i hi => ?_⟩
    · rw [hks i hi]; exact (Classical.choose_spec (key i hi)).1
    · rw [hks i hi]; exact (Classical.choose_spec (key i hi)).2

theorem op_tower (h : DataW.trod enc Try.prog W 0 sp held fuel 69 cs = some x) : ∃ T : Tw, cs = T.cells ∧ TwOp W T ∧ TwByt T := by
  obtain ⟨xs, m, _, _, hl, hxs, hel⟩ := DataW.trod_struct Try.underlying69 h
  have hxs : xs.length = 4 := hxs
  rw [Try.cells69] at hl
  have e0 : DataW.trod enc Try.prog W 0 sp held m 4 ((cs.drop 0).take (Try.prog.cellsOf 4)) = xs[0]? := hel 0 _ rfl
  have e1 : DataW.trod enc Try.prog W 0 sp held m 23 ((cs.drop 1).take (Try.prog.cellsOf 23)) = xs[1]? := hel 1 _ rfl
  have e2 : DataW.trod enc Try.prog W 0 sp held m 33 ((cs.drop 2).take (Try.prog.cellsOf 33)) = xs[2]? := hel 2 _ rfl
  have e3 : DataW.trod enc Try.prog W 0 sp held m 67 ((cs.drop 35).take (Try.prog.cellsOf 67)) = xs[3]? := hel 3 _ rfl
  rw [Try.cells4] at e0
  rw [Try.c23] at e1
  rw [Try.c33] at e2
  rw [Try.cells67] at e3
  rw [List.getElem?_eq_getElem (by omega)] at e0 e1 e2 e3
  obtain ⟨b0, c0, _⟩ := DataW.trod_bool Try.underlying4 e0
  obtain ⟨a, c, l, c1, s1, b1, l1, v1⟩ := op_text e1
  obtain ⟨z2, c2, h2, b2⟩ := op_addrB e2
  obtain ⟨sa, sn, sc, ks, c3, hsn, hrow, hkid⟩ := op_kids e3
  refine ⟨⟨b0, a, l.length, c, l, z2, sa, sn, sc, ks⟩, ?_, ⟨s1, v1, rfl, h2, hsn, l1, hrow, fun i hi => (hkid i hi).1⟩, ⟨b1, b2, fun i hi => (hkid i hi).2⟩⟩
  have d0 := cut_one c0
  have d1 := cut_one c1
  have d2 := cut_more c2
  have d3 := cut_one c3
  have last : cs.drop (35 + 1) = [] := List.drop_of_length_le (by omega)
  rw [last] at d3
  rw [List.drop_zero] at d0
  show cs = .bool b0 :: .slice a l.length c :: (bs z2 ++ [.slice sa sn sc])
  rw [d0, d1, d2, d3]

theorem op_leafB (h : DataW.trod enc Try.prog W 0 sp held fuel 71 cs = some x) : ∃ (n : Nat) (y : List Int), cs = leafC n y ∧ n < 18446744073709551616 ∧ y.length = 32 ∧ Byts y := by
  obtain ⟨xs, m, _, _, hl, hxs, hel⟩ := DataW.trod_struct Try.underlying71 h
  have hxs : xs.length = 2 := hxs
  rw [Try.cells71] at hl
  have e0 : DataW.trod enc Try.prog W 0 sp held m 29 ((cs.drop 0).take (Try.prog.cellsOf 29)) = xs[0]? := hel 0 _ rfl
  have e1 : DataW.trod enc Try.prog W 0 sp held m 31 ((cs.drop 1).take (Try.prog.cellsOf 31)) = xs[1]? := hel 1 _ rfl
  rw [Try.c29] at e0
  rw [Try.c31] at e1
  rw [List.getElem?_eq_getElem (by omega)] at e0 e1
  obtain ⟨n, c0, _, wn⟩ := DataW.trod_int Try.underlying29 e0
  obtain ⟨z, c1, hz, bz⟩ := op_sumB e1
  have b := bounds_u64 wn
  refine ⟨n.toNat, z, ?_, by omega, hz, bz⟩
  have e : ((n.toNat : Nat) : Int) = n := by omega
  have d0 := cut_one c0
  have d1 := cut_more c1
  have last : cs.drop (1 + 32) = [] := List.drop_of_length_le (by omega)
  rw [last, List.append_nil] at d1
  rw [List.drop_zero] at d0
  rw [leafC, e, d0, d1]
theorem op_limbB (h : DataW.trod enc Try.prog W 0 sp held fuel 73 cs = some x) : ∃ (u y : List Int), cs = bs (u ++ y) ∧ u.length = 33 ∧ y.length = 32 ∧ Byts (u ++ y) := by
  obtain ⟨xs, m, _, _, hl, hxs, hel⟩ := DataW.trod_struct Try.underlying73 h
  have hxs : xs.length = 2 := hxs
  rw [Try.cells73] at hl
  have e0 : DataW.trod enc Try.prog W 0 sp held m 33 ((cs.drop 0).take (Try.prog.cellsOf 33)) = xs[0]? := hel 0 _ rfl
  have e1 : DataW.trod enc Try.prog W 0 sp held m 31 ((cs.drop 33).take (Try.prog.cellsOf 31)) = xs[1]? := hel 1 _ rfl
  rw [Try.c33] at e0
  rw [Try.c31] at e1
  rw [List.getElem?_eq_getElem (by omega)] at e0 e1
  obtain ⟨z, c0, hz, bz⟩ := op_addrB e0
  obtain ⟨y, c1, hy, bty⟩ := op_sumB e1
  refine ⟨z, y, ?_, hz, hy, bz.app bty⟩
  have d0 := cut_more c0
  have d1 := cut_more c1
  have last : cs.drop (33 + 32) = [] := List.drop_of_length_le (by omega)
  rw [last, List.append_nil] at d1
  rw [List.drop_zero] at d0
  rw [bs_app, d0, d1]
theorem op_forkB (h : DataW.trod enc Try.prog W 0 sp held fuel 75 cs = some x) : ∃ (x1 y1 x2 y2 : List Int), cs = bs ((x1 ++ y1) ++ (x2 ++ y2)) ∧ x1.length = 33 ∧ y1.length = 32 ∧ x2.length = 33 ∧ y2.length = 32 ∧ Byts ((x1 ++ y1) ++ (x2 ++ y2)) := by
  obtain ⟨xs, m, _, _, hl, hxs, hel⟩ := DataW.trod_struct Try.underlying75 h
  have hxs : xs.length = 2 := hxs
  rw [Try.cells75] at hl
  have e0 : DataW.trod enc Try.prog W 0 sp held m 73 ((cs.drop 0).take (Try.prog.cellsOf 73)) = xs[0]? := hel 0 _ rfl
  have e1 : DataW.trod enc Try.prog W 0 sp held m 73 ((cs.drop 65).take (Try.prog.cellsOf 73)) = xs[1]? := hel 1 _ rfl
  rw [Try.cells73] at e0 e1
  rw [List.getElem?_eq_getElem (by omega)] at e0 e1
  obtain ⟨x1, y1, c0, h1, h2, b0⟩ := op_limbB e0
  obtain ⟨x2, y2, c1, h3, h4, b1⟩ := op_limbB e1
  refine ⟨x1, y1, x2, y2, ?_, h1, h2, h3, h4, b0.app b1⟩
  have d0 := cut_more c0
  have d1 := cut_more c1
  have last : cs.drop (65 + 65) = [] := List.drop_of_length_le (by omega)
  rw [last, List.append_nil] at d1
  rw [List.drop_zero] at d0
  rw [bs_app, d0, d1]
end

set_option maxRecDepth 100000 in
theorem back_lifted (os : Os) (started : os.Started) (H : Type) (enc : TypeId × Value → H) :
    ReturnsInHanded {} Try.checked os 6 .any (Rows.codecBackSpec.pre6 enc Try.prog Try.f6 Rows.codecBackRow.domain false) (Rows.codecBackSpec.post enc Try.prog Try.f6 false true false false) := by
  refine returnsInHanded_of_change_sized (C := Try.checked) ownKn started (by kernel_rfl) Try.func6
    (ChangeSpec.witness6 (enc := enc) (C := Try.checked) false ⟨#[], #[.agg towZ.toArray, .agg (leafC 0 (List.replicate 32 0)).toArray, .agg (bs (List.replicate 130 0)).toArray, .int .i64 0, .int .u8 0], []⟩ 8 (by kernel_rfl) (by kernel_rfl) (by kernel_rfl) (by kernel_rfl)) ?_
  intro W base args ds gs before hval0 hW hcnd hsz _
  have hval : ∀ (j : Nat) t v, Try.f6.params[j]? = some t → args[j]? = some v → Value.okWide Try.prog W .any base t v := hval0
  have hW' := hW
  obtain ⟨p, q, hA0, hV, rfl, hfz, hnd⟩ := hW
  have hA : DataW.TrodAll enc Try.prog W 0 (fun _ => true) true Try.f6.params.toList args.toList ds p := hA0
  rw [Try.params6] at hA hval
  obtain ⟨v0, vs0, d0, ds0, p0, q0, hargs, rfl, rfl, h0, r0⟩ := trodAll_cons hA
  obtain ⟨v1, vs1, d1, ds1, p1, q1, rfl, rfl, rfl, h1, r1⟩ := trodAll_cons r0
  obtain ⟨v2, vs2, d2, ds2, p2, q2, rfl, rfl, rfl, h2, r2⟩ := trodAll_cons r1
  obtain ⟨v3, vs3, d3, ds3, p3, q3, rfl, rfl, rfl, h3, r3⟩ := trodAll_cons r2
  obtain ⟨v4, vs4, d4, ds4, p4, q4, rfl, rfl, rfl, h4, r4⟩ := trodAll_cons r3
  obtain ⟨rfl, rfl, rfl⟩ := trodAll_nil r4
  obtain rfl : args = #[v0, v1, v2, v3, v4] := by cases args; simp_all
  obtain ⟨rfl, rfl⟩ := trodVars_none hV
  have k0 := h0
  have k1 := h1
  have k2 := h2
  have k3 := h3
  have k4 := h4
  have lt0 : ∀ x ∈ p0, x.block < W.heap.size := by obtain ⟨m, hm⟩ := k0; exact DataW.trod_lt m _ _ _ hm
  have lt1 : ∀ x ∈ p1, x.block < W.heap.size := by obtain ⟨m, hm⟩ := k1; exact DataW.trod_lt m _ _ _ hm
  have lt2 : ∀ x ∈ p2, x.block < W.heap.size := by obtain ⟨m, hm⟩ := k2; exact DataW.trod_lt m _ _ _ hm
  have lt3 : ∀ x ∈ p3, x.block < W.heap.size := by obtain ⟨m, hm⟩ := k3; exact DataW.trod_lt m _ _ _ hm
  have lt4 : ∀ x ∈ p4, x.block < W.heap.size := by obtain ⟨m, hm⟩ := k4; exact DataW.trod_lt m _ _ _ hm
  obtain ⟨f0, hf0⟩ := h0
  obtain ⟨f1, hf1⟩ := h1
  obtain ⟨f2, hf2⟩ := h2
  obtain ⟨f3, hf3⟩ := h3
  obtain ⟨f4, hf4⟩ := h4
  obtain ⟨c0, rfl⟩ := okWide_struct Try.underlying69 (hval 0 69 v0 rfl rfl)
  obtain ⟨c1, rfl⟩ := okWide_struct Try.underlying71 (hval 1 71 v1 rfl rfl)
  obtain ⟨c2, rfl⟩ := okWide_struct Try.underlying75 (hval 2 75 v2 rfl rfl)
  obtain ⟨T, e0, hT, hTb⟩ := op_tower (cs := c0) hf0
  obtain ⟨n, y, e1, hn, hy, bty⟩ := op_leafB (cs := c1) hf1
  obtain ⟨x1, y1, x2, y2, e2, hx1, hy1, hx2, hy2, btf⟩ := op_forkB (cs := c2) hf2
  obtain ⟨cut, rfl⟩ := okWide_int Try.underlying3 (hval 3 3 v3 rfl rfl)
  obtain ⟨more, rfl⟩ := okWide_int Try.underlying5 (hval 4 5 v4 rfl rfl)
  obtain ⟨cut2, g3, _, w3⟩ := DataW.trod_int Try.underlying3 hf3
  obtain ⟨more2, g4, _, w4⟩ := DataW.trod_int Try.underlying5 hf4
  have g3 : [Value.int .i64 cut] = [Value.int .i64 cut2] := g3
  have g4 : [Value.int .u8 more] = [Value.int .u8 more2] := g4
  injection g3 with g3 _
  injection g4 with g4 _
  injection g3 with _ g3
  injection g4 with _ g4
  subst g3 g4
  subst e0 e1 e2
  clear hA0 hval0
  refine (back_any hT hTb n y hn hy bty _ x1 y1 x2 y2 rfl hx1 hy1 hx2 hy2 btf cut (bounds_i64 w3) more (bounds_u8 w4)).mono fun e W' ⟨he, bel⟩ => ?_
  subst he
  exact ⟨_, rfl, _, _, _, [], _, [], hW', trodAll_mk1 (shut_bool Try.underlying4 _), trodAll_cons_mk (Below.trod laidOutS (by kernel_rfl) (of_decide_eq_true (by kernel_rfl)) k0 bel lt0) (trodAll_cons_mk (Below.trod laidOutS (by kernel_rfl) (of_decide_eq_true (by kernel_rfl)) k1 bel lt1) (trodAll_cons_mk (Below.trod laidOutS (by kernel_rfl) (of_decide_eq_true (by kernel_rfl)) k2 bel lt2) (trodAll_cons_mk (Below.trod laidOutS (by kernel_rfl) (of_decide_eq_true (by kernel_rfl)) k3 bel lt3) (trodAll_cons_mk (Below.trod laidOutS (by kernel_rfl) (of_decide_eq_true (by kernel_rfl)) k4 bel lt4) trodAll_mk0)))), rfl, bel.frame _, fun h => by cases h⟩

theorem codecBack_holds : Rows.CodecBackSaid :=
  OpenClaim.holds_of_wide 6 Try.f6 rfl rfl rfl rfl rfl rfl rfl ⟨rfl, rfl, rfl, rfl, rfl⟩ rfl rfl rfl rfl rfl (by kernel_rfl) Try.func6 (by kernel_rfl)
    (of_decide_eq_true (by kernel_rfl)) (by unfold Func.isWrapper; first | (rw [if_pos (by decide +kernel)]; kernel_rfl) | (rw [if_neg (by decide +kernel)]; exact ⟨rfl, rfl⟩))
    (fun os started H enc _ => back_lifted os started H enc)
end Go.Proofs.Ytgmheipbcopajaa
