/-
  CodecReads where what it reads is of bulk at most 1048576: the row, proved out of the walk.
-/
import Derived.Test.YtcbhjckmokgdeaaReads
import Derived.ChangeOld
namespace Go.Proofs.Ytcbhjckmokgdeaa
open Go.ChangeShapes Go.WideShapes Go.ChangeAt Go.RowKit

section
variable {H : Type} {enc : TypeId × Value → H} {W : World} {sp : Nat → Bool} {held : Bool} {fuel : Nat} {cs : List Value} {x : DataW H × List MemPlace}

theorem op_bytes2 (h : DataW.trod enc Try.prog W 0 sp held fuel 23 cs = some x) : ∃ (v : Value) (l : List Int), cs = [v] ∧ Src W v l ∧ Byts l ∧ l.length + 1 ≤ Rows.uptoBulk x.1 ∧ ∃ a c, v = .slice a l.length c ∧ l.length ≤ c ∧ c ≤ 9223372036854775807 := by
  obtain ⟨v, l, e, hs, hb, hl⟩ := op_bytes h
  refine ⟨v, l, e, hs, hb, hl, ?_⟩
  rcases DataW.trod_slice Try.underlying23 h with ⟨rfl, _⟩ | ⟨a, len, cap, elems, rest, n, _, rfl, _, _, h1, h2, _⟩
  · injection e with e _
    subst e
    rcases hs with ⟨_, rfl⟩ | ⟨_, _, e, _⟩
    · exact ⟨none, 0, rfl, Nat.le_refl _, by omega⟩
    · cases e
  · injection e with e _
    subst e
    rcases hs with ⟨e, _⟩ | ⟨ad, c, e, _⟩
    · cases e
    · injection e with e1 e2 e3
      subst e2
      exact ⟨_, _, rfl, h1, by unfold maxLen at h2; omega⟩

theorem op_step2 (h : DataW.trod enc Try.prog W 0 sp held fuel 35 cs = some x) : ∃ s : St, cs = s.cells ∧ Src W s.b s.l ∧ s.z.length = 32 ∧ s.n < 18446744073709551616 ∧ -9223372036854775808 ≤ s.m ∧ s.m ≤ 9223372036854775807 := by
  obtain ⟨s, rfl, h1, h2, h3, _⟩ := op_step h
  obtain ⟨xs, m, _, _, hl, hxs, hel⟩ := DataW.trod_struct Try.underlying35 h
  have hxs : xs.length = 6 := hxs
  have e3 : DataW.trod enc Try.prog W 0 sp held m 3 ((s.cells.drop 3).take (Try.prog.cellsOf 3)) = xs[3]? := hel 3 _ rfl
  rw [Try.cells3, List.getElem?_eq_getElem (by omega)] at e3
  obtain ⟨n3, c3, _, w3⟩ := DataW.trod_int Try.underlying3 e3
  have b3 := bounds_i64 w3
  have e : [Value.int .i64 s.m] = [Value.int .i64 n3] := c3
  injection e with e _
  injection e with _ e
  refine ⟨s, rfl, h1, h2, h3, ?_, ?_⟩ <;> omega

theorem op_script2 (h : DataW.trod enc Try.prog W 0 sp held fuel 22 cs = some x) (hb : Rows.uptoBulk x.1 ≤ 1048576) : ∃ (a : Option Addr) (N c : Nat) (st : Nat → St), cs = [.slice a N c] ∧ Scr2 W a N st := by
  rcases DataW.trod_slice Try.underlying22 h with ⟨rfl, _⟩ | ⟨a, len, cap, elems, rest, n, _, rfl, rfl, _, _, _, hlen, hel, _, _⟩
  · exact ⟨none, 0, 0, fun _ => ⟨0, 0, 0, 0, .slice none 0 0, [], [], 0⟩, rfl, ⟨fun i hi => by omega, fun i hi => by omega, fun i hi => by omega, fun i hi => by omega, fun i hi => by omega, by omega⟩⟩
  · have cells : ∀ i, (hi : i < len) → ∃ cs', W.cells? 0 (a.add (i * 38)) 38 = some cs' ∧ DataW.trod enc Try.prog W 0 sp held n 35 cs' = some (elems[i]'(by omega)) := by
      intro i hi
      have e := hel i hi
      rw [List.getElem?_eq_getElem (by omega), Option.bind_eq_some_iff] at e
      obtain ⟨cs', hcs, ht⟩ := e
      rw [Try.cells35] at hcs
      exact ⟨cs', hcs, ht⟩
    have spot : 0 < len → a.spot = none := by
      intro h0
      obtain ⟨cs', hcs, ht⟩ := cells 0 h0
      obtain ⟨_, hl, hc⟩ := World.cells?_some hcs
      have h1 := hc 0 (by omega)
      rw [List.getElem?_eq_getElem (by omega)] at h1
      simpa [Addr.add] using World.cell?_spot h1
    have key : ∀ i, (hi : i < len) → ∃ s : St, (∃ g o, some a = some ⟨g, o, none⟩ ∧ W.rangeAt g (o + i * 38) s.cells) ∧ Src W s.b s.l ∧ s.z.length = 32 ∧ s.n < 18446744073709551616 ∧ -9223372036854775808 ≤ s.m ∧ s.m ≤ 9223372036854775807 := by
      intro i hi
      obtain ⟨cs', hcs, ht⟩ := cells i hi
      obtain ⟨s, rfl, h1, h2, h3, h4⟩ := op_step2 ht
      obtain ⟨_, hl, hc⟩ := World.cells?_some hcs
      refine ⟨s, ?_, h1, h2, h3, h4⟩
      have hs := spot (by omega)
      obtain ⟨g, o, sp'⟩ := a
      simp only at hs
      subst hs
      refine ⟨g, o, rfl, fun j u hu => ?_⟩
      have hj : j < 38 := by have := (List.getElem?_eq_some_iff.1 hu).1; omega
      have := hc j hj
      rw [addr_add, addr_add] at this
      rw [this, hu]
    let dflt : St := ⟨0, 0, 0, 0, .slice none 0 0, [], [], 0⟩
    let st : Nat → St := fun i => if h : i < len then Classical.choose (key i h) else dflt
    have hst : ∀ i, (h : i < len) → st i = Classical.choose (key i h) := fun i h => by show (if h : i < len then _ else _) = _; rw [dif_pos h]
    have spec : ∀ i, (hi : i < len) → (∃ g o, some a = some ⟨g, o, none⟩ ∧ W.rangeAt g (o + i * 38) (st i).cells) ∧ Src W (st i).b (st i).l ∧ (st i).z.length = 32 ∧ (st i).n < 18446744073709551616 ∧ -9223372036854775808 ≤ (st i).m ∧ (st i).m ≤ 9223372036854775807 := by
      intro i hi
      rw [hst i hi]
      exact Classical.choose_spec (key i hi)
    refine ⟨some a, len, cap, st, rfl, ⟨fun i hi => (spec i hi).1, fun i hi => (spec i hi).2.1, fun i hi => (spec i hi).2.2.1, fun i hi => (spec i hi).2.2.2.1, fun i hi => (spec i hi).2.2.2.2, ?_⟩⟩
    have h1 := bulk_len (elems.map (·.1))
    rw [List.length_map] at h1
    simp only [Rows.uptoBulk] at hb
    omega
end

set_option maxRecDepth 100000 in
theorem slice_block {W : World} {base : Nat} {x : Option Addr} {y z k : Nat} (h : Value.okWide Try.prog W .any base 23 (.slice x y z)) (hk : (Value.slice x y z).ownBlock = some k) : k < W.heap.size := by
  cases x with
  | none => cases hk
  | some ad =>
    have h2 : Cell.okWide Try.prog W .any base 23 (.slice (some ad) y z) := by
      unfold Value.okWide at h
      rw [Try.underlying23] at h
      exact h
    unfold Cell.okWide at h2
    rw [Try.underlying23] at h2
    have h3 : Cell.ok Try.prog W .any base 23 (.slice (some ad) y z) := h2
    unfold Cell.ok at h3
    rw [Try.underlying23] at h3
    obtain ⟨_, _, _, _, row, cells, hs, _⟩ := h3
    have e : ad.block = k := by simpa [Value.ownBlock] using hk
    rw [← e]
    unfold World.shape? at hs
    rcases Nat.lt_or_ge ad.block W.heap.size with hlt | hge
    · exact hlt
    · rw [Array.getElem?_eq_none hge] at hs; cases hs

set_option maxRecDepth 100000 in
theorem reads_contract (H : Type) (enc : TypeId × Value → H) (W : World) (base : Nat) (args : Array Value) (ds gs : List (DataW H)) (before : List MemPlace)
    (hval : ∀ (j : Nat) t v, Try.f5.params[j]? = some t → args[j]? = some v → Value.okWide Try.prog W .any base t v)
    (hW : DataW.Whole enc Try.prog Try.f5.params.toList Rows.codecReadsSpec.vars false W args.toList ds gs before) (hk : Rows.uptoSmall H (ds ++ gs) = true) :
    Calls Try.prog 5 args W fun e W' => ∃ v, e = .returned v ∧ Rows.codecReadsSpec.post enc Try.prog Try.f5 false true false false W args v W' := by
  have hW' := hW
  obtain ⟨p, q, hA0, hV, rfl, hfz, hnd⟩ := hW
  have hA : DataW.TrodAll enc Try.prog W 0 (fun _ => true) true Try.f5.params.toList args.toList ds p := hA0
  rw [Try.params5] at hA hval
  obtain ⟨v0, vs0, d0, ds0, p0, q0, hargs, rfl, rfl, h0, r0⟩ := trodAll_cons hA
  obtain ⟨v1, vs1, d1, ds1, p1, q1, rfl, rfl, rfl, h1, r1⟩ := trodAll_cons r0
  obtain ⟨v2, vs2, d2, ds2, p2, q2, rfl, rfl, rfl, h2, r2⟩ := trodAll_cons r1
  obtain ⟨rfl, rfl, rfl⟩ := trodAll_nil r2
  obtain rfl : args = #[v0, v1, v2] := by cases args; simp_all
  obtain ⟨rfl, rfl⟩ := trodVars_none hV
  have k0 := h0
  have k1 := h1
  have k2 := h2
  have lt0 : ∀ x ∈ p0, x.block < W.heap.size := by obtain ⟨m, hm⟩ := k0; exact DataW.trod_lt m _ _ _ hm
  have lt1 : ∀ x ∈ p1, x.block < W.heap.size := by obtain ⟨m, hm⟩ := k1; exact DataW.trod_lt m _ _ _ hm
  have lt2 : ∀ x ∈ p2, x.block < W.heap.size := by obtain ⟨m, hm⟩ := k2; exact DataW.trod_lt m _ _ _ hm
  have hbd : Rows.uptoBulk d0 + Rows.uptoBulk d1 + Rows.uptoBulk d2 ≤ 1048576 := by
    have h : Rows.uptoBulkAll [d0, d1, d2] ≤ 1048576 := of_decide_eq_true hk
    simp only [Rows.uptoBulkAll] at h
    omega
  obtain ⟨f0, hf0⟩ := h0
  obtain ⟨f1, hf1⟩ := h1
  obtain ⟨f2, hf2⟩ := h2
  obtain ⟨u0, A, hu0, sA, bA, lA, cA⟩ := op_bytes2 hf0
  obtain ⟨u1, C, hu1, sC, bC, lC, cC⟩ := op_bytes2 hf1
  obtain ⟨a, N, c, st, hcs, hscr⟩ := op_script2 hf2 (by show Rows.uptoBulk d2 ≤ _; omega)
  obtain ⟨x0, y0, z0, rfl⟩ := okWide_slice Try.underlying23 (hval 0 23 v0 rfl rfl)
  obtain ⟨x1, y1, z1, rfl⟩ := okWide_slice Try.underlying23 (hval 1 23 v1 rfl rfl)
  obtain ⟨x2, y2, z2, rfl⟩ := okWide_slice Try.underlying22 (hval 2 22 v2 rfl rfl)
  have w0 := hval 0 23 _ rfl rfl
  have w1 := hval 1 23 _ rfl rfl
  have g0 : [Value.slice x0 y0 z0] = [u0] := hu0
  have g1 : [Value.slice x1 y1 z1] = [u1] := hu1
  have g2 : [Value.slice x2 y2 z2] = [Value.slice a N c] := hcs
  injection g0 with g0 _
  injection g1 with g1 _
  injection g2 with g2 _
  injection g2 with i1 i2 i3
  subst g0 g1 i1 i2 i3
  clear hA0
  have lA : A.length + 1 ≤ Rows.uptoBulk d0 := lA
  have lC : C.length + 1 ≤ Rows.uptoBulk d1 := lC
  refine (reads_any sA sC bA bC cA cC (by omega) (by omega) hscr ?_ ?_).mono fun e W' ⟨he, bel⟩ => ?_
  · exact fun k hk => slice_block w0 hk
  · exact fun k hk => slice_block w1 hk
  · subst he
    exact ⟨_, rfl, _, _, _, [], _, [], hW', trodAll_mk1 (shut_bool Try.underlying4 _), trodAll_cons_mk (Below.trod laidOut (by kernel_rfl) (of_decide_eq_true (by kernel_rfl)) k0 bel lt0) (trodAll_cons_mk (Below.trod laidOut (by kernel_rfl) (of_decide_eq_true (by kernel_rfl)) k1 bel lt1) (trodAll_cons_mk (Below.trod laidOut (by kernel_rfl) (of_decide_eq_true (by kernel_rfl)) k2 bel lt2) trodAll_mk0)), rfl, bel.frame _, fun h => by cases h⟩

set_option maxRecDepth 100000 in
theorem reads_lifted (os : Os) (started : os.Started) (H : Type) (enc : TypeId × Value → H) (F : Stop.Interp) :
    ReturnsInHanded {} Try.checked os 5 .any ((Rows.OpenSpec.upto Rows.codecReadsSpec).pre6 enc Try.prog Try.f5 Rows.codecReadsUptoRow.domain false) (((Rows.OpenSpec.upto Rows.codecReadsSpec).at F).post enc Try.prog Try.f5 false true false false) := by
  refine returnsInHanded_of_cond (C := Try.checked) (s := Rows.OpenSpec.upto Rows.codecReadsSpec) (k := Rows.uptoSmall) rfl own started (by kernel_rfl) Try.func5
    (OpenSpec.witness (enc := enc) (C := Try.checked) (s := Rows.OpenSpec.upto Rows.codecReadsSpec) (k := Rows.uptoSmall) rfl false ⟨#[], #[.slice none 0 0, .slice none 0 0, .slice none 0 0], []⟩ 8 (by kernel_rfl) (by kernel_rfl) (by kernel_rfl)
      (x := ([.nil, .nil, .nil], [], [])) (by kernel_rfl) rfl (by kernel_rfl)) ?_
  intro W base args ds gs before hval hW _ hk _
  exact reads_contract H enc W base args ds gs before hval hW hk

theorem codecReadsUpto_holds : Rows.CodecReadsUptoSaid :=
  OpenClaim.holds_of_cond 5 Try.f5 rfl rfl rfl rfl rfl rfl rfl ⟨rfl, rfl, rfl, rfl, rfl⟩ rfl rfl rfl rfl rfl (by kernel_rfl) Try.func5 (by kernel_rfl)
    (of_decide_eq_true (by kernel_rfl)) (by unfold Func.isWrapper; first | (rw [if_pos (by decide +kernel)]; kernel_rfl) | (rw [if_neg (by decide +kernel)]; exact ⟨rfl, rfl⟩))
    (fun os started H enc _ F => reads_lifted os started H enc F)

end Go.Proofs.Ytcbhjckmokgdeaa
