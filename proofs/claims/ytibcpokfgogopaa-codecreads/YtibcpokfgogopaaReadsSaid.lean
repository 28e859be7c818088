/-
  CodecReads: the row, proved out of the walk.
-/
import Derived.Test.YtibcpokfgogopaaReads
import Derived.Test.YtibcpokfgogopaaOpen
import Derived.SizedLaws
import Derived.ChangeOld
namespace Go.Proofs.Ytibcpokfgogopaa
open Go.ChangeShapes Go.WideShapes Go.ChangeAt Go.RowKit

section
variable {H : Type} {enc : TypeId × Value → H} {W : World} {sp : Nat → Bool} {held : Bool} {fuel : Nat} {cs : List Value} {x : DataW H × List MemPlace}

theorem op_bytes3 (h : DataW.trod enc Try.prog W 0 sp held fuel 23 cs = some x) : ∃ (v : Value) (l : List Int), cs = [v] ∧ Src W v l ∧ Byts l ∧ (∃ a c, v = .slice a l.length c ∧ l.length ≤ c ∧ c ≤ 9223372036854775807) ∧ (l = [] ∨ ∃ elems spare, x.1 = .slice elems spare ∧ elems.length = l.length) := by
  rcases ChangeShapes.open_ints Try.underlying23 Try.underlying5 Try.cells5 h with ⟨rfl, rfl⟩ | ⟨a, len, cap, zs, rfl, _, hl, hcap, hzl, rfl, hc, hw⟩
  · refine ⟨_, [], rfl, .inl ⟨rfl, rfl⟩, ?_, ⟨none, 0, rfl, Nat.le_refl _, by omega⟩, .inl rfl⟩
    intro y hy
    cases hy
  · have hlz : len ≤ zs.length := by rw [hzl]; split <;> omega
    have htl : (zs.take len).length = len := by rw [List.length_take]; omega
    refine ⟨_, zs.take len, rfl, .inr ⟨a, cap, by rw [htl], fun j u hu => ?_⟩, fun y hy => bounds_u8 (hw y (List.mem_of_mem_take hy)), ⟨some a, cap, by rw [htl], by omega, by unfold maxLen at hcap; omega⟩, .inr ⟨_, _, rfl, ?_⟩⟩
    · have hj : j < len := by have := (List.getElem?_eq_some_iff.1 hu).1; rw [bs_len, htl] at this; exact this
      have hcj := hc j (by omega)
      have hc0 := hc 0 (by omega)
      have hs : a.spot = none := by simpa [Addr.add] using World.cell?_spot hc0
      refine ⟨hs, ?_⟩
      obtain ⟨b, o, s⟩ := a
      simp only at hs
      subst hs
      rw [addr_add] at hcj
      rw [hcj, ← hu, bs_get _ _ (by omega)]
      simp only [List.getElem_take]
      rw [List.getD_eq_getElem?_getD, List.getElem?_eq_getElem (by omega)]
      rfl
    · simp [ChangeShapes.lits]

theorem op_step2 (h : DataW.trod enc Try.prog W 0 sp held fuel 35 cs = some x) : ∃ s : St, cs = s.cells ∧ Src W s.b s.l ∧ s.z.length = 32 ∧ s.n < 18446744073709551616 ∧ -9223372036854775808 ≤ s.m ∧ s.m ≤ 9223372036854775807 := by
  obtain ⟨s, rfl, h1, h2, h3, _⟩ := op_step h
  obtain ⟨xs, m, _, _, hl, hxs, hel⟩ := DataW.trod_struct Try.underlying35 h
  have hxs : xs.length = 6 := hxs
  have e3 : DataW.trod enc Try.prog W 0 sp held m 3 ((s.cells.drop 3).take (Try.prog.cellsOf 3)) = xs[3]? := hel 3 _ rfl
  rw [Try.cells3, List.getElem?_eq_getElem (by omega)] at e3
  obtain ⟨n3, c3, _, w3⟩ := DataW.trod_int Try.underlying3 e3
  have b3 := bounds_i64 w3
  have e : [Value.int .i64 s.m] = [Value.int .i64 n3] := c3
  injection e with e _
  injection e with _ e
  refine ⟨s, rfl, h1, h2, h3, ?_, ?_⟩ <;> omega

theorem op_script2 (h : DataW.trod enc Try.prog W 0 sp held fuel 22 cs = some x) (hbd : ∀ elems spare, x.1 = .slice elems spare → elems.length ≤ 140737488355328) : ∃ (a : Option Addr) (N c : Nat) (st : Nat → St), cs = [.slice a N c] ∧ Scr2 W a N st := by
  rcases DataW.trod_slice Try.underlying22 h with ⟨rfl, _⟩ | ⟨a, len, cap, elems, rest, n, _, rfl, rfl, _, _, _, hlen, hel, _, _⟩
  · exact ⟨none, 0, 0, fun _ => ⟨0, 0, 0, 0, .slice none 0 0, [], [], 0⟩, rfl, ⟨fun i hi => by omega, fun i hi => by omega, fun i hi => by omega, fun i hi => by omega, fun i hi => by omega, by omega⟩⟩
  · have cells : ∀ i, (hi : i < len) → ∃ cs', W.cells? 0 (a.add (i * 38)) 38 = some cs' ∧ DataW.trod enc Try.prog W 0 sp held n 35 cs' = some (elems[i]'(by omega)) := by
      intro i hi
      have e := hel i hi
      rw [List.getElem?_eq_getElem (by omega), Option.bind_eq_some_iff] at e
      obtain ⟨cs', hcs, ht⟩ := e
      rw [Try.cells35] at hcs
      exact ⟨cs', hcs, ht⟩
    have spot : 0 < len → a.spot = none := by
      intro h0
      obtain ⟨cs', hcs, ht⟩ := cells 0 h0
      obtain ⟨_, hl, hc⟩ := World.cells?_some hcs
      have h1 := hc 0 (by omega)
      rw [List.getElem?_eq_getElem (by omega)] at h1
      simpa [Addr.add] using World.cell?_spot h1
    have key : ∀ i, (hi : i < len) → ∃ s : St, (∃ g o, some a = some ⟨g, o, none⟩ ∧ W.rangeAt g (o + i * 38) s.cells) ∧ Src W s.b s.l ∧ s.z.length = 32 ∧ s.n < 18446744073709551616 ∧ -9223372036854775808 ≤ s.m ∧ s.m ≤ 9223372036854775807 := by
      intro i hi
      obtain ⟨cs', hcs, ht⟩ := cells i hi
      obtain ⟨s, rfl, h1, h2, h3, h4⟩ := op_step2 ht
      obtain ⟨_, hl, hc⟩ := World.cells?_some hcs
      refine ⟨s, ?_, h1, h2, h3, h4⟩
      have hs := spot (by omega)
      obtain ⟨g, o, sp'⟩ := a
      simp only at hs
      subst hs
      refine ⟨g, o, rfl, fun j u hu => ?_⟩
      have hj : j < 38 := by have := (List.getElem?_eq_some_iff.1 hu).1; omega
      have := hc j hj
      rw [addr_add, addr_add] at this
      rw [this, hu]
    let dflt : St := ⟨0, 0, 0, 0, .slice none 0 0, [], [], 0⟩
    let st : Nat → St := fun i => if h : i < len then Classical.choose (key i h) else dflt
    have hst : ∀ i, (h : i < len) → st i = Classical.choose (key i h) := fun i h => by show (if h : i < len then _ else _) = _; rw [dif_pos h]
    have spec : ∀ i, (hi : i < len) → (∃ g o, some a = some ⟨g, o, none⟩ ∧ W.rangeAt g (o + i * 38) (st i).cells) ∧ Src W (st i).b (st i).l ∧ (st i).z.length = 32 ∧ (st i).n < 18446744073709551616 ∧ -9223372036854775808 ≤ (st i).m ∧ (st i).m ≤ 9223372036854775807 := by
      intro i hi
      rw [hst i hi]
      exact Classical.choose_spec (key i hi)
    refine ⟨some a, len, cap, st, rfl, ⟨fun i hi => (spec i hi).1, fun i hi => (spec i hi).2.1, fun i hi => (spec i hi).2.2.1, fun i hi => (spec i hi).2.2.2.1, fun i hi => (spec i hi).2.2.2.2, ?_⟩⟩
    have h1 := hbd _ _ rfl
    rw [List.length_map] at h1
    omega
end

set_option maxRecDepth 100000 in
theorem slice_block {W : World} {base : Nat} {x : Option Addr} {y z k : Nat} (h : Value.okWide Try.prog W .any base 23 (.slice x y z)) (hk : (Value.slice x y z).ownBlock = some k) : k < W.heap.size := by
  cases x with
  | none => cases hk
  | some ad =>
    have h2 : Cell.okWide Try.prog W .any base 23 (.slice (some ad) y z) := by
      unfold Value.okWide at h
      rw [Try.underlying23] at h
      exact h
    unfold Cell.okWide at h2
    rw [Try.underlying23] at h2
    have h3 : Cell.ok Try.prog W .any base 23 (.slice (some ad) y z) := h2
    unfold Cell.ok at h3
    rw [Try.underlying23] at h3
    obtain ⟨_, _, _, _, row, cells, hs, _⟩ := h3
    have e : ad.block = k := by simpa [Value.ownBlock] using hk
    rw [← e]
    unfold World.shape? at hs
    rcases Nat.lt_or_ge ad.block W.heap.size with hlt | hge
    · exact hlt
    · rw [Array.getElem?_eq_none hge] at hs; cases hs

theorem Try.bytes5 : Try.prog.bytesOf 5 = 1 := by kernel_rfl
theorem Try.bytes35 : Try.prog.bytesOf 35 = 96 := by kernel_rfl

set_option maxRecDepth 100000 in
theorem reads_lifted (os : Os) (started : os.Started) (H : Type) (enc : TypeId × Value → H) :
    ReturnsInHanded {} Try.checked os 5 .any (Rows.codecReadsSpec.pre6 enc Try.prog Try.f5 Rows.codecReadsRow.domain false) (Rows.codecReadsSpec.post enc Try.prog Try.f5 false true false false) := by
  refine returnsInHanded_of_change_sized (C := Try.checked) own started (by kernel_rfl) Try.func5
    (ChangeSpec.witness6 (enc := enc) (C := Try.checked) false ⟨#[], #[.slice none 0 0, .slice none 0 0, .slice none 0 0], []⟩ 8 (by kernel_rfl) (by kernel_rfl) (by kernel_rfl) (by kernel_rfl)) ?_
  intro W base args ds gs before hval0 hW hcnd hsz _
  have hval : ∀ (j : Nat) t v, Try.f5.params[j]? = some t → args[j]? = some v → Value.okWide Try.prog W .any base t v := hval0
  have hW' := hW
  obtain ⟨p, q, hA0, hV, rfl, hfz, hnd⟩ := hW
  have hA : DataW.TrodAll enc Try.prog W 0 (fun _ => true) true Try.f5.params.toList args.toList ds p := hA0
  rw [Try.params5] at hA hval
  obtain ⟨v0, vs0, d0, ds0, p0, q0, hargs, rfl, rfl, h0, r0⟩ := trodAll_cons hA
  obtain ⟨v1, vs1, d1, ds1, p1, q1, rfl, rfl, rfl, h1, r1⟩ := trodAll_cons r0
  obtain ⟨v2, vs2, d2, ds2, p2, q2, rfl, rfl, rfl, h2, r2⟩ := trodAll_cons r1
  obtain ⟨rfl, rfl, rfl⟩ := trodAll_nil r2
  obtain rfl : args = #[v0, v1, v2] := by cases args; simp_all
  obtain ⟨rfl, rfl⟩ := trodVars_none hV
  have k0 := h0
  have k1 := h1
  have k2 := h2
  have lt0 : ∀ x ∈ p0, x.block < W.heap.size := by obtain ⟨m, hm⟩ := k0; exact DataW.trod_lt m _ _ _ hm
  have lt1 : ∀ x ∈ p1, x.block < W.heap.size := by obtain ⟨m, hm⟩ := k1; exact DataW.trod_lt m _ _ _ hm
  have lt2 : ∀ x ∈ p2, x.block < W.heap.size := by obtain ⟨m, hm⟩ := k2; exact DataW.trod_lt m _ _ _ hm
  have b5 : Try.checked.prog.bytesOf 5 = 1 := Try.bytes5
  have b35 : Try.checked.prog.bytesOf 35 = 96 := Try.bytes35
  obtain ⟨f0, hf0⟩ := h0
  obtain ⟨f1, hf1⟩ := h1
  obtain ⟨f2, hf2⟩ := h2
  obtain ⟨u0, A, hu0, sA, bA, cA, lA⟩ := op_bytes3 hf0
  obtain ⟨u1, C, hu1, sC, bC, cC, lC⟩ := op_bytes3 hf1
  obtain ⟨a, N, c, st, hcs, hscr⟩ := op_script2 hf2 (fun elems spare e => by
    have e : d2 = .slice elems spare := e
    have := sized_slice hsz (j := 2) (t := 22) (e := 35) (elems := elems) (spare := spare) rfl (by simp [e]) Try.underlying22
    rw [b35] at this
    unfold reachBytes at this
    omega)
  have hlA : A.length ≤ 140737488351232 := by
    rcases lA with rfl | ⟨elems, spare, e, hl⟩
    · simp
    · have e : d0 = .slice elems spare := e
      have := sized_slice hsz (j := 0) (t := 23) (e := 5) (elems := elems) (spare := spare) rfl (by simp [e]) Try.underlying23
      rw [b5] at this
      unfold reachBytes at this
      omega
  have hlC : C.length ≤ 140737488351232 := by
    rcases lC with rfl | ⟨elems, spare, e, hl⟩
    · simp
    · have e : d1 = .slice elems spare := e
      have := sized_slice hsz (j := 1) (t := 23) (e := 5) (elems := elems) (spare := spare) rfl (by simp [e]) Try.underlying23
      rw [b5] at this
      unfold reachBytes at this
      omega
  obtain ⟨x0, y0, z0, rfl⟩ := okWide_slice Try.underlying23 (hval 0 23 v0 rfl rfl)
  obtain ⟨x1, y1, z1, rfl⟩ := okWide_slice Try.underlying23 (hval 1 23 v1 rfl rfl)
  obtain ⟨x2, y2, z2, rfl⟩ := okWide_slice Try.underlying22 (hval 2 22 v2 rfl rfl)
  have w0 := hval 0 23 _ rfl rfl
  have w1 := hval 1 23 _ rfl rfl
  have g0 : [Value.slice x0 y0 z0] = [u0] := hu0
  have g1 : [Value.slice x1 y1 z1] = [u1] := hu1
  have g2 : [Value.slice x2 y2 z2] = [Value.slice a N c] := hcs
  injection g0 with g0 _
  injection g1 with g1 _
  injection g2 with g2 _
  injection g2 with i1 i2 i3
  subst g0 g1 i1 i2 i3
  clear hA0 hval0
  refine (reads_any sA sC bA bC cA cC hlA hlC hscr (fun k hk => slice_block w0 hk) (fun k hk => slice_block w1 hk)).mono fun e W' ⟨he, bel⟩ => ?_
  subst he
  exact ⟨_, rfl, _, _, _, [], _, [], hW', trodAll_mk1 (shut_bool Try.underlying4 _), trodAll_cons_mk (Below.trod laidOut (by kernel_rfl) (of_decide_eq_true (by kernel_rfl)) k0 bel lt0) (trodAll_cons_mk (Below.trod laidOut (by kernel_rfl) (of_decide_eq_true (by kernel_rfl)) k1 bel lt1) (trodAll_cons_mk (Below.trod laidOut (by kernel_rfl) (of_decide_eq_true (by kernel_rfl)) k2 bel lt2) trodAll_mk0)), rfl, bel.frame _, fun h => by cases h⟩

theorem codecReads_holds : Rows.CodecReadsSaid :=
  OpenClaim.holds_of_wide 5 Try.f5 rfl rfl rfl rfl rfl rfl rfl ⟨rfl, rfl, rfl, rfl, rfl⟩ rfl rfl rfl rfl rfl (by kernel_rfl) Try.func5 (by kernel_rfl)
    (of_decide_eq_true (by kernel_rfl)) (by unfold Func.isWrapper; first | (rw [if_pos (by decide +kernel)]; kernel_rfl) | (rw [if_neg (by decide +kernel)]; exact ⟨rfl, rfl⟩))
    (fun os started H enc _ => reads_lifted os started H enc)
end Go.Proofs.Ytibcpokfgogopaa
