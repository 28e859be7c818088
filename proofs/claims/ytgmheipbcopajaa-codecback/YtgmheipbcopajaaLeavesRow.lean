/-
  CodecLeaves: the row, proved out of the walk.
-/
import Derived.Test.YtgmheipbcopajaaLeaves
import Derived.Test.YtgmheipbcopajaaOpenS
import Derived.SizedLaws
import Derived.ChangeOld
namespace Go.Proofs.Ytgmheipbcopajaa
open Go.ChangeShapes Go.WideShapes Go.ChangeAt Go.RowKit

theorem Try.cells71 : Try.prog.cellsOf 71 = 33 := by kernel_rfl
theorem Try.cells73 : Try.prog.cellsOf 73 = 65 := by kernel_rfl
theorem Try.cells75 : Try.prog.cellsOf 75 = 130 := by kernel_rfl

section
variable {H : Type} {enc : TypeId × Value → H} {W : World} {sp : Nat → Bool} {held : Bool} {fuel : Nat} {cs : List Value} {x : DataW H × List MemPlace}

theorem op_bytes3 (h : DataW.trod enc Try.prog W 0 sp held fuel 23 cs = some x) : ∃ (v : Value) (l : List Int), cs = [v] ∧ Src W v l ∧ Byts l ∧ (∃ a c, v = .slice a l.length c ∧ l.length ≤ c ∧ c ≤ 9223372036854775807) ∧ (l = [] ∨ ∃ elems spare, x.1 = .slice elems spare ∧ elems.length = l.length) := by
  rcases ChangeShapes.open_ints Try.underlying23 Try.underlying5 Try.c5 h with ⟨rfl, rfl⟩ | ⟨a, len, cap, zs, rfl, _, hl, hcap, hzl, rfl, hc, hw⟩
  · refine ⟨_, [], rfl, .inl ⟨rfl, rfl⟩, ?_, ⟨none, 0, rfl, Nat.le_refl _, by omega⟩, .inl rfl⟩
    intro y hy
    cases hy
  · have hlz : len ≤ zs.length := by rw [hzl]; split <;> omega
    have htl : (zs.take len).length = len := by rw [List.length_take]; omega
    refine ⟨_, zs.take len, rfl, .inr ⟨a, cap, by rw [htl], fun j u hu => ?_⟩, fun y hy => bounds_u8 (hw y (List.mem_of_mem_take hy)), ⟨some a, cap, by rw [htl], by omega, by unfold maxLen at hcap; omega⟩, .inr ⟨_, _, rfl, ?_⟩⟩
    · have hj : j < len := by have := (List.getElem?_eq_some_iff.1 hu).1; rw [bs_len, htl] at this; exact this
      have hcj := hc j (by omega)
      have hc0 := hc 0 (by omega)
      have hs : a.spot = none := by simpa [Addr.add] using World.cell?_spot hc0
      refine ⟨hs, ?_⟩
      obtain ⟨b, o, s⟩ := a
      simp only at hs
      subst hs
      rw [addr_add] at hcj
      rw [hcj, ← hu, bs_get _ _ (by omega)]
      simp only [List.getElem_take]
      rw [List.getD_eq_getElem?_getD, List.getElem?_eq_getElem (by omega)]
      rfl
    · simp [ChangeShapes.lits]

theorem op_leaf (h : DataW.trod enc Try.prog W 0 sp held fuel 71 cs = some x) : ∃ (n : Nat) (y : List Int), cs = leafC n y ∧ n < 18446744073709551616 ∧ y.length = 32 := by
  obtain ⟨xs, m, _, _, hl, hxs, hel⟩ := DataW.trod_struct Try.underlying71 h
  have hxs : xs.length = 2 := hxs
  rw [Try.cells71] at hl
  have e0 : DataW.trod enc Try.prog W 0 sp held m 29 ((cs.drop 0).take (Try.prog.cellsOf 29)) = xs[0]? := hel 0 _ rfl
  have e1 : DataW.trod enc Try.prog W 0 sp held m 31 ((cs.drop 1).take (Try.prog.cellsOf 31)) = xs[1]? := hel 1 _ rfl
  rw [Try.c29, List.drop_zero] at e0
  rw [Try.c31] at e1
  rw [List.getElem?_eq_getElem (by omega)] at e0 e1
  obtain ⟨n, en, _, wn⟩ := DataW.trod_int Try.underlying29 e0
  obtain ⟨z, hz, ez, _⟩ := op_sumS e1
  have b := bounds_u64 wn
  refine ⟨n.toNat, z, ?_, by omega, hz⟩
  have e : (n.toNat : Int) = n := by omega
  have t1 : (cs.drop 1).take 32 = cs.drop 1 := List.take_of_length_le (by simp; omega)
  rw [t1] at ez
  have := List.take_append_drop 1 cs
  rw [en, ez] at this
  rw [← this, leafC, e]
  rfl
theorem op_limb (h : DataW.trod enc Try.prog W 0 sp held fuel 73 cs = some x) : ∃ (u y : List Int), cs = bs (u ++ y) ∧ u.length = 33 ∧ y.length = 32 := by
  obtain ⟨xs, m, _, _, hl, hxs, hel⟩ := DataW.trod_struct Try.underlying73 h
  have hxs : xs.length = 2 := hxs
  rw [Try.cells73] at hl
  have e0 : DataW.trod enc Try.prog W 0 sp held m 33 ((cs.drop 0).take (Try.prog.cellsOf 33)) = xs[0]? := hel 0 _ rfl
  have e1 : DataW.trod enc Try.prog W 0 sp held m 31 ((cs.drop 33).take (Try.prog.cellsOf 31)) = xs[1]? := hel 1 _ rfl
  rw [Try.c33, List.drop_zero] at e0
  rw [Try.c31] at e1
  rw [List.getElem?_eq_getElem (by omega)] at e0 e1
  obtain ⟨z, nth, hz, ez, _⟩ := op_addrS e0
  obtain ⟨y, hy, ey, _⟩ := op_sumS e1
  refine ⟨z ++ [nth], y, ?_, by simp [hz], hy⟩
  have t1 : (cs.drop 33).take 32 = cs.drop 33 := List.take_of_length_le (by simp; omega)
  rw [t1] at ey
  have := List.take_append_drop 33 cs
  rw [ez, ey] at this
  rw [← this, bs_app (z ++ [nth])]
theorem op_fork (h : DataW.trod enc Try.prog W 0 sp held fuel 75 cs = some x) : ∃ (x1 y1 x2 y2 : List Int), cs = bs ((x1 ++ y1) ++ (x2 ++ y2)) ∧ x1.length = 33 ∧ y1.length = 32 ∧ x2.length = 33 ∧ y2.length = 32 := by
  obtain ⟨xs, m, _, _, hl, hxs, hel⟩ := DataW.trod_struct Try.underlying75 h
  have hxs : xs.length = 2 := hxs
  rw [Try.cells75] at hl
  have e0 : DataW.trod enc Try.prog W 0 sp held m 73 ((cs.drop 0).take (Try.prog.cellsOf 73)) = xs[0]? := hel 0 _ rfl
  have e1 : DataW.trod enc Try.prog W 0 sp held m 73 ((cs.drop 65).take (Try.prog.cellsOf 73)) = xs[1]? := hel 1 _ rfl
  rw [Try.cells73, List.drop_zero] at e0
  rw [Try.cells73] at e1
  rw [List.getElem?_eq_getElem (by omega)] at e0 e1
  obtain ⟨x1, y1, c1, h1, h2⟩ := op_limb e0
  obtain ⟨x2, y2, c2, h3, h4⟩ := op_limb e1
  refine ⟨x1, y1, x2, y2, ?_, h1, h2, h3, h4⟩
  have t1 : (cs.drop 65).take 65 = cs.drop 65 := List.take_of_length_le (by simp; omega)
  rw [t1] at c2
  have := List.take_append_drop 65 cs
  rw [c1, c2] at this
  rw [← this, bs_app (x1 ++ y1)]
end

set_option maxRecDepth 100000 in
theorem okWide_struct {W : World} {base : Nat} {t : TypeId} {v : Value} {fs : Array Field} (hu : Try.prog.underlying t = some (.struct fs)) (hv : Value.okWide Try.prog W .any base t v) : ∃ cs : List Value, v = .agg cs.toArray := by
  obtain ⟨cs, rfl, _, _⟩ : ∃ cs, v = .agg cs ∧ cs.size = Try.prog.cellsOf t ∧ Row.okWide Try.prog W .any base t cs := by
    simpa [Value.okWide, hu] using hv
  exact ⟨cs.toList, by simp⟩

set_option maxRecDepth 100000 in
theorem slice_block2 {W : World} {base : Nat} {x : Option Addr} {y z k : Nat} (h : Value.okWide Try.prog W .any base 23 (.slice x y z)) (hk : (Value.slice x y z).ownBlock = some k) : k < W.heap.size := by
  cases x with
  | none => cases hk
  | some ad =>
    have h2 : Cell.okWide Try.prog W .any base 23 (.slice (some ad) y z) := by
      unfold Value.okWide at h
      rw [Try.underlying23] at h
      exact h
    unfold Cell.okWide at h2
    rw [Try.underlying23] at h2
    have h3 : Cell.ok Try.prog W .any base 23 (.slice (some ad) y z) := h2
    unfold Cell.ok at h3
    rw [Try.underlying23] at h3
    obtain ⟨_, _, _, _, row, cells, hs, _⟩ := h3
    have e : ad.block = k := by simpa [Value.ownBlock] using hk
    rw [← e]
    unfold World.shape? at hs
    rcases Nat.lt_or_ge ad.block W.heap.size with hlt | hge
    · exact hlt
    · rw [Array.getElem?_eq_none hge] at hs; cases hs

theorem Try.bytes5 : Try.prog.bytesOf 5 = 1 := by kernel_rfl

set_option maxRecDepth 100000 in
theorem leaves_lifted (os : Os) (started : os.Started) (H : Type) (enc : TypeId × Value → H) :
    ReturnsInHanded {} Try.checked os 8 .any (Rows.codecLeavesSpec.pre6 enc Try.prog Try.f8 Rows.codecLeavesRow.domain false) (Rows.codecLeavesSpec.post enc Try.prog Try.f8 false true false false) := by
  refine returnsInHanded_of_change_sized (C := Try.checked) ownKn started (by kernel_rfl) Try.func8
    (ChangeSpec.witness6 (enc := enc) (C := Try.checked) false ⟨#[], #[.agg (leafC 0 (List.replicate 32 0)).toArray, .agg (bs (List.replicate 130 0)).toArray, .slice none 0 0], []⟩ 8 (by kernel_rfl) (by kernel_rfl) (by kernel_rfl) (by kernel_rfl)) ?_
  intro W base args ds gs before hval0 hW hcnd hsz _
  have hval : ∀ (j : Nat) t v, Try.f8.params[j]? = some t → args[j]? = some v → Value.okWide Try.prog W .any base t v := hval0
  have hW' := hW
  obtain ⟨p, q, hA0, hV, rfl, hfz, hnd⟩ := hW
  have hA : DataW.TrodAll enc Try.prog W 0 (fun _ => true) true Try.f8.params.toList args.toList ds p := hA0
  rw [Try.params8] at hA hval
  obtain ⟨v0, vs0, d0, ds0, p0, q0, hargs, rfl, rfl, h0, r0⟩ := trodAll_cons hA
  obtain ⟨v1, vs1, d1, ds1, p1, q1, rfl, rfl, rfl, h1, r1⟩ := trodAll_cons r0
  obtain ⟨v2, vs2, d2, ds2, p2, q2, rfl, rfl, rfl, h2, r2⟩ := trodAll_cons r1
  obtain ⟨rfl, rfl, rfl⟩ := trodAll_nil r2
  obtain rfl : args = #[v0, v1, v2] := by cases args; simp_all
  obtain ⟨rfl, rfl⟩ := trodVars_none hV
  have k0 := h0
  have k1 := h1
  have k2 := h2
  have lt0 : ∀ x ∈ p0, x.block < W.heap.size := by obtain ⟨m, hm⟩ := k0; exact DataW.trod_lt m _ _ _ hm
  have lt1 : ∀ x ∈ p1, x.block < W.heap.size := by obtain ⟨m, hm⟩ := k1; exact DataW.trod_lt m _ _ _ hm
  have lt2 : ∀ x ∈ p2, x.block < W.heap.size := by obtain ⟨m, hm⟩ := k2; exact DataW.trod_lt m _ _ _ hm
  obtain ⟨f0, hf0⟩ := h0
  obtain ⟨f1, hf1⟩ := h1
  obtain ⟨f2, hf2⟩ := h2
  obtain ⟨c0, rfl⟩ := okWide_struct Try.underlying71 (hval 0 71 v0 rfl rfl)
  obtain ⟨c1, rfl⟩ := okWide_struct Try.underlying75 (hval 1 75 v1 rfl rfl)
  obtain ⟨n, y, e0, hn, hy⟩ := op_leaf (cs := c0) hf0
  obtain ⟨x1, y1, x2, y2, e1, hx1, hy1, hx2, hy2⟩ := op_fork (cs := c1) hf1
  obtain ⟨u2, T, hu2, sT, bT, cT, lT⟩ := op_bytes3 hf2
  obtain ⟨s0, s1, s2, rfl⟩ := okWide_slice Try.underlying23 (hval 2 23 v2 rfl rfl)
  have wv := hval 2 23 _ rfl rfl
  have g2 : [Value.slice s0 s1 s2] = [u2] := hu2
  injection g2 with g2 _
  subst g2
  have hlen : T.length ≤ 140737488355328 := by
    rcases lT with rfl | ⟨elems, spare, e, hl⟩
    · simp
    · have e : d2 = .slice elems spare := e
      have := sized_slice hsz (j := 2) (t := 23) (e := 5) (elems := elems) (spare := spare) rfl (by simp [e]) Try.underlying23
      have b5 : Try.checked.prog.bytesOf 5 = 1 := Try.bytes5
      rw [b5] at this
      unfold reachBytes at this
      omega
  subst e0 e1
  clear hA0 hval0
  refine (leaves_any n y hn hy _ x1 y1 x2 y2 rfl hx1 hy1 hx2 hy2 (s := .slice s0 s1 s2) (T := T) ⟨sT, bT, hlen, cT, fun k hk => slice_block2 wv hk⟩).mono fun e W' ⟨he, bel⟩ => ?_
  subst he
  exact ⟨_, rfl, _, _, _, [], _, [], hW', trodAll_mk1 (shut_bool Try.underlying4 _), trodAll_cons_mk (Below.trod laidOutS (by kernel_rfl) (of_decide_eq_true (by kernel_rfl)) k0 bel lt0) (trodAll_cons_mk (Below.trod laidOutS (by kernel_rfl) (of_decide_eq_true (by kernel_rfl)) k1 bel lt1) (trodAll_cons_mk (Below.trod laidOutS (by kernel_rfl) (of_decide_eq_true (by kernel_rfl)) k2 bel lt2) trodAll_mk0)), rfl, bel.frame _, fun h => by cases h⟩

theorem codecLeaves_holds : Rows.CodecLeavesSaid :=
  OpenClaim.holds_of_wide 8 Try.f8 rfl rfl rfl rfl rfl rfl rfl ⟨rfl, rfl, rfl, rfl, rfl⟩ rfl rfl rfl rfl rfl (by kernel_rfl) Try.func8 (by kernel_rfl)
    (of_decide_eq_true (by kernel_rfl)) (by unfold Func.isWrapper; first | (rw [if_pos (by decide +kernel)]; kernel_rfl) | (rw [if_neg (by decide +kernel)]; exact ⟨rfl, rfl⟩))
    (fun os started H enc _ => leaves_lifted os started H enc)
end Go.Proofs.Ytgmheipbcopajaa
