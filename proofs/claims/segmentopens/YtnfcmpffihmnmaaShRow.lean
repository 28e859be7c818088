/-
  SegmentOpens: the row, proved out of the walk.
-/
import Derived.Test.YtnfcmpffihmnmaaShC
import Derived.ProofKit
import Derived.OpenShut
import Derived.ChangeSlices
import Derived.JoinedCond
import Derived.SizedLaws
import Derived.ChangeOld
namespace Go.Proofs.Ytnfcmpffihmnmaa
open Go.ChangeShapes Go.WideShapes Go.ChangeAt Go.RowKit

theorem ownKn : ownKnob Try.prog.godebug = none := by kernel_rfl
theorem laidOutS : laidOutB Try.prog = true := by kernel_rfl
theorem Try.c3 : Try.prog.cellsOf 3 = 1 := by kernel_rfl
theorem Try.c22 : Try.prog.cellsOf 22 = 1 := by kernel_rfl
theorem Try.c23 : Try.prog.cellsOf 23 = 1 := by kernel_rfl
theorem Try.c45 : Try.prog.cellsOf 45 = 2 := by kernel_rfl
theorem Try.c25 : Try.prog.cellsOf 25 = 5 := by kernel_rfl
theorem Try.b45 : Try.prog.bytesOf 45 = 16 := by kernel_rfl

theorem cutOne {cs : List Value} {k : Nat} {v : Value} (hv : (cs.drop k).take 1 = [v]) : cs.drop k = v :: cs.drop (k + 1) := by
  have hlt : k < cs.length := by
    rcases Nat.lt_or_ge k cs.length with h | h
    · exact h
    · rw [List.drop_of_length_le h] at hv; simp at hv
  rw [List.drop_eq_getElem_cons hlt] at hv ⊢
  injection hv with hv _
  rw [hv]

section
variable {H : Type} {enc : TypeId × Value → H} {W : World} {sp : Nat → Bool} {held : Bool} {fuel : Nat} {cs : List Value} {x : DataW H × List MemPlace}

/-- A list of records of plain cells. -/
theorem opP_list {α : Type} {sl ty sz : Nat} (hu : Try.prog.underlying sl = some (.slice ty)) (hc : Try.prog.cellsOf ty = sz) (hp : 0 < sz) (cell : α → List Value) (Q : α → Prop) (dflt : α)
    (hel0 : ∀ {n : Nat} {cs : List Value} {x : DataW H × List MemPlace}, DataW.trod enc Try.prog W 0 sp held n ty cs = some x → ∃ r, cs = cell r ∧ Q r)
    (h : DataW.trod enc Try.prog W 0 sp held fuel sl cs = some x) :
    ∃ (sa : Option Addr) (sn sc : Nat) (f : Nat → α), cs = [.slice sa sn sc] ∧ sn ≤ 9223372036854775807 ∧ RowsIn W (fun g => g < W.heap.size) sa sn sz (fun i => cell (f i)) ∧ (∀ i, i < sn → Q (f i)) ∧ ((x.1 = .nil ∧ sn = 0) ∨ ∃ elems spare, x.1 = .slice elems spare ∧ elems.length = sn) := by
  rcases DataW.trod_slice hu h with ⟨rfl, rfl⟩ | ⟨a, len, cap, elems, rest, n, _, rfl, rfl, _, hlc, hmx, hlen, hel, _, _⟩
  · exact ⟨none, 0, 0, fun _ => dflt, rfl, by omega, fun i hi => by omega, fun i hi => by omega, .inl ⟨rfl, rfl⟩⟩
  · have cells : ∀ i, (hi : i < len) → ∃ cs', W.cells? 0 (a.add (i * sz)) sz = some cs' ∧ DataW.trod enc Try.prog W 0 sp held n ty cs' = some (elems[i]'(by omega)) := by
      intro i hi
      have e := hel i hi
      rw [List.getElem?_eq_getElem (by omega), Option.bind_eq_some_iff] at e
      obtain ⟨cs', hcs, ht⟩ := e
      rw [hc] at hcs
      exact ⟨cs', hcs, ht⟩
    have spot : 0 < len → a.spot = none := by
      intro h0
      obtain ⟨cs', hcs, ht⟩ := cells 0 h0
      obtain ⟨_, hl, hcc⟩ := World.cells?_some hcs
      have h1 := hcc 0 hp
      rw [List.getElem?_eq_getElem (by omega)] at h1
      simpa [Addr.add] using World.cell?_spot h1
    have key : ∀ i, (hi : i < len) → ∃ r : α, (∃ g o, some a = some ⟨g, o, none⟩ ∧ g < W.heap.size ∧ W.rangeAt g (o + i * sz) (cell r)) ∧ Q r := by
      intro i hi
      obtain ⟨cs', hcs, ht⟩ := cells i hi
      obtain ⟨r, rfl, h1⟩ := hel0 ht
      obtain ⟨_, hl, hcc⟩ := World.cells?_some hcs
      refine ⟨r, ?_, h1⟩
      have hs := spot (by omega)
      obtain ⟨g, o, sp'⟩ := a
      simp only at hs
      subst hs
      have hr : W.rangeAt g (o + i * sz) (cell r) := fun j u hu => by
        have hj : j < sz := by have := (List.getElem?_eq_some_iff.1 hu).1; omega
        have := hcc j hj
        rw [addr_add, addr_add] at this
        rw [this, hu]
      refine ⟨g, o, rfl, ?_, hr⟩
      exact World.block_lt_of_cell? _ _ (hr 0 _ (List.getElem?_eq_getElem (by omega)))
    let f : Nat → α := fun i => if h : i < len then Classical.choose (key i h) else dflt
    have hf : ∀ i, (h : i < len) → f i = Classical.choose (key i h) := fun i h => by show (if h : i < len then _ else _) = _; rw [dif_pos h]
    refine ⟨some a, len, cap, f, rfl, by unfold maxLen at hmx; omega, fun i hi => ?_, fun i hi => ?_, .inr ⟨_, _, rfl, by rw [List.length_map]; exact hlen⟩⟩
    · have h9 := (Classical.choose_spec (key i hi)).1
      rw [← hf i hi] at h9
      exact h9
    · rw [hf i hi]; exact (Classical.choose_spec (key i hi)).2

theorem opP_mark (h : DataW.trod enc Try.prog W 0 sp held fuel 45 cs = some x) : ∃ m : Mk, cs = m.cells ∧ 0 ≤ m.se := by
  obtain ⟨xs, m, _, _, hl, hxs, hel⟩ := DataW.trod_struct Try.underlying45 h
  have hxs : xs.length = 2 := hxs
  rw [Try.c45] at hl
  have e0 : DataW.trod enc Try.prog W 0 sp held m 22 ((cs.drop 0).take (Try.prog.cellsOf 22)) = xs[0]? := hel 0 _ rfl
  have e1 : DataW.trod enc Try.prog W 0 sp held m 3 ((cs.drop 1).take (Try.prog.cellsOf 3)) = xs[1]? := hel 1 _ rfl
  rw [Try.c22] at e0
  rw [Try.c3] at e1
  rw [List.getElem?_eq_getElem (by omega)] at e0 e1
  obtain ⟨n0, c0, _, w0⟩ := DataW.trod_int Try.underlying22 e0
  obtain ⟨n1, c1, _, _⟩ := DataW.trod_int Try.underlying3 e1
  have i0 := bounds_u64 w0
  refine ⟨⟨n0, n1⟩, ?_, i0.1⟩
  have d0 := cutOne c0
  have d1 := cutOne c1
  have last : cs.drop (1 + 1) = [] := List.drop_of_length_le (by omega)
  rw [last] at d1
  rw [List.drop_zero] at d0
  show cs = [.int .u64 n0, .int .i64 n1]
  rw [d0, d1]

theorem op_setup (h : DataW.trod enc Try.prog W 0 sp held fuel 25 cs = some x) (hw : ∀ k ∈ x.1.weights Try.prog 25, k ≤ reachBytes) : ∃ (s z q S : Int) (A : Option Addr) (n c : Nat) (ms : Nat → Mk), cs = suC s z q S A n c ∧ I64 q ∧ RowsIn W (fun g => g < W.heap.size) A n 2 (mF ms) ∧ (∀ i, i < n → 0 ≤ (ms i).se) ∧ n * 16 ≤ 140737488355328 := by
  obtain ⟨xs, m, _, hx, hl, hxs, hel⟩ := DataW.trod_struct Try.underlying25 h
  have hxs : xs.length = 5 := hxs
  rw [Try.c25] at hl
  have e0 : DataW.trod enc Try.prog W 0 sp held m 3 ((cs.drop 0).take (Try.prog.cellsOf 3)) = xs[0]? := hel 0 _ rfl
  have e1 : DataW.trod enc Try.prog W 0 sp held m 3 ((cs.drop 1).take (Try.prog.cellsOf 3)) = xs[1]? := hel 1 _ rfl
  have e2 : DataW.trod enc Try.prog W 0 sp held m 3 ((cs.drop 2).take (Try.prog.cellsOf 3)) = xs[2]? := hel 2 _ rfl
  have e3 : DataW.trod enc Try.prog W 0 sp held m 22 ((cs.drop 3).take (Try.prog.cellsOf 22)) = xs[3]? := hel 3 _ rfl
  have e4 : DataW.trod enc Try.prog W 0 sp held m 23 ((cs.drop 4).take (Try.prog.cellsOf 23)) = xs[4]? := hel 4 _ rfl
  rw [Try.c3] at e0 e1 e2
  rw [Try.c22] at e3
  rw [Try.c23] at e4
  have x4 : xs[4]? = some xs[4] := List.getElem?_eq_getElem (by omega)
  rw [x4] at e4
  rw [List.getElem?_eq_getElem (by omega)] at e0 e1 e2 e3
  obtain ⟨n0, c0, _, _⟩ := DataW.trod_int Try.underlying3 e0
  obtain ⟨n1, c1, _, _⟩ := DataW.trod_int Try.underlying3 e1
  obtain ⟨n2, c2, _, w2⟩ := DataW.trod_int Try.underlying3 e2
  obtain ⟨n3, c3, _, _⟩ := DataW.trod_int Try.underlying22 e3
  obtain ⟨A, n, c, ms, c4, _, hr, hq, hwt⟩ := opP_list Try.underlying23 Try.c45 (by decide) Mk.cells (fun k => 0 ≤ k.se) ⟨0, 0⟩ opP_mark e4
  refine ⟨n0, n1, n2, n3, A, n, c, ms, ?_, ⟨bounds_i64 w2⟩, hr, hq, ?_⟩
  · have d0 := cutOne c0
    have d1 := cutOne c1
    have d2 := cutOne c2
    have d3 := cutOne c3
    have d4 := cutOne c4
    have last : cs.drop (4 + 1) = [] := List.drop_of_length_le (by omega)
    rw [last] at d4
    rw [List.drop_zero] at d0
    show cs = [.int .i64 n0, .int .i64 n1, .int .i64 n2, .int .u64 n3, .slice A n c]
    rw [d0, d1, d2, d3, d4]
  · rcases hwt with ⟨_, e⟩ | ⟨elems, spare, e, el⟩
    · omega
    · have hm : (elems.length + spare.length) * Try.prog.bytesOf 45 ∈ x.1.weights Try.prog 25 := by
        rw [hx]
        simp only [DataW.weights, Try.underlying25]
        refine DataW.weights_mem_each (j := 4) (t := 23) (d := xs[4].1) rfl (by rw [List.getElem?_map, x4]; rfl) _ ?_
        rw [e]
        simp [DataW.weights, Try.underlying23]
      have := hw _ hm
      rw [Try.b45] at this
      have hr := reachBytes_lt
      omega
end

set_option maxRecDepth 100000 in
theorem okWide_struct {W : World} {base : Nat} {t : TypeId} {v : Value} {fs : Array Field} (hu : Try.prog.underlying t = some (.struct fs)) (hv : Value.okWide Try.prog W .any base t v) : ∃ cs : List Value, v = .agg cs.toArray := by
  obtain ⟨cs, rfl, _, _⟩ : ∃ cs, v = .agg cs ∧ cs.size = Try.prog.cellsOf t ∧ Row.okWide Try.prog W .any base t cs := by
    simpa [Value.okWide, hu] using hv
  exact ⟨cs.toList, by simp⟩

set_option maxRecDepth 100000 in
theorem opens_lifted (os : Os) (started : os.Started) (H : Type) (enc : TypeId × Value → H) :
    ReturnsInHanded {} Try.checked os 3 .any (Rows.segmentOpensSpec.pre6 enc Try.prog Try.f3 Rows.segmentOpensRow.domain false) (Rows.segmentOpensSpec.post enc Try.prog Try.f3 false true false false) := by
  refine returnsInHanded_of_change_sized (C := Try.checked) ownKn started (by kernel_rfl) Try.func3
    (ChangeSpec.witness6 (enc := enc) (C := Try.checked) false ⟨#[], #[.agg (suC 0 0 0 0 none 0 0).toArray, .int .i64 0, .int .i64 0], []⟩ 3 (by kernel_rfl) (by kernel_rfl) (by kernel_rfl) (by kernel_rfl)) ?_
  intro W base args ds gs before hval0 hW hcnd hsz _
  have hval : ∀ (j : Nat) t v, Try.f3.params[j]? = some t → args[j]? = some v → Value.okWide Try.prog W .any base t v := hval0
  have hW' := hW
  obtain ⟨p, q, hA0, hV, rfl, hfz, hnd⟩ := hW
  have hA : DataW.TrodAll enc Try.prog W 0 (fun _ => true) true Try.f3.params.toList args.toList ds p := hA0
  rw [Try.params3] at hA hval
  obtain ⟨v0, vs0, d0, ds0, p0, q0, hargs, rfl, rfl, h0, r0⟩ := trodAll_cons hA
  obtain ⟨v1, vs1, d1, ds1, p1, q1, rfl, rfl, rfl, h1, r1⟩ := trodAll_cons r0
  obtain ⟨v2, vs2, d2, ds2, p2, q2, rfl, rfl, rfl, h2, r2⟩ := trodAll_cons r1
  obtain ⟨rfl, rfl, rfl⟩ := trodAll_nil r2
  obtain rfl : args = #[v0, v1, v2] := by cases args; simp_all
  obtain ⟨rfl, rfl⟩ := trodVars_none hV
  have k0 := h0
  have k1 := h1
  have k2 := h2
  have lt0 : ∀ x ∈ p0, x.block < W.heap.size := by obtain ⟨m, hm⟩ := k0; exact DataW.trod_lt m _ _ _ hm
  have lt1 : ∀ x ∈ p1, x.block < W.heap.size := by obtain ⟨m, hm⟩ := k1; exact DataW.trod_lt m _ _ _ hm
  have lt2 : ∀ x ∈ p2, x.block < W.heap.size := by obtain ⟨m, hm⟩ := k2; exact DataW.trod_lt m _ _ _ hm
  obtain ⟨f0, hf0⟩ := h0
  obtain ⟨f1, hf1⟩ := h1
  obtain ⟨f2, hf2⟩ := h2
  obtain ⟨c0, rfl⟩ := okWide_struct Try.underlying25 (hval 0 25 v0 rfl rfl)
  obtain ⟨a, rfl⟩ := okWide_int Try.underlying3 (hval 1 3 v1 rfl rfl)
  obtain ⟨b, rfl⟩ := okWide_int Try.underlying3 (hval 2 3 v2 rfl rfl)
  obtain ⟨a', ea, _, wa⟩ := DataW.trod_int Try.underlying3 hf1
  obtain ⟨b', eb, _, wb⟩ := DataW.trod_int Try.underlying3 hf2
  have ea : a = a' := by simpa [Value.cells] using ea
  have eb : b = b' := by simpa [Value.cells] using eb
  subst ea
  subst eb
  obtain ⟨s, z, sp, S, A, n, c, ms, e0, hsp, hr, hm, hn⟩ := op_setup (cs := c0) hf0 (fun k hk => by
    have := List.all_eq_true.1 hsz k (DataW.weights_mem_each (j := 0) (t := 25) (d := d0) rfl rfl k hk)
    simpa using this)
  subst e0
  clear hA0 hval0
  refine (opens_any hr hm hn hsp ⟨bounds_i64 wa⟩ ⟨bounds_i64 wb⟩).mono fun e W' ⟨he, bel⟩ => ?_
  subst he
  exact ⟨_, rfl, _, _, _, [], _, [], hW', trodAll_mk1 (shut_bool Try.underlying4 _), trodAll_cons_mk (Below.trod laidOutS (by kernel_rfl) (of_decide_eq_true (by kernel_rfl)) k0 bel lt0) (trodAll_cons_mk (Below.trod laidOutS (by kernel_rfl) (of_decide_eq_true (by kernel_rfl)) k1 bel lt1) (trodAll_cons_mk (Below.trod laidOutS (by kernel_rfl) (of_decide_eq_true (by kernel_rfl)) k2 bel lt2) trodAll_mk0)), rfl, bel.frame _, fun h => by cases h⟩

theorem segmentOpens_holds : Rows.SegmentOpensSaid :=
  OpenClaim.holds_of_wide 3 Try.f3 rfl rfl rfl rfl rfl rfl rfl ⟨rfl, rfl, rfl, rfl, rfl⟩ rfl rfl rfl rfl rfl (by kernel_rfl) Try.func3 (by kernel_rfl)
    (of_decide_eq_true (by kernel_rfl)) (by unfold Func.isWrapper; first | (rw [if_pos (by decide +kernel)]; kernel_rfl) | (rw [if_neg (by decide +kernel)]; exact ⟨rfl, rfl⟩))
    (fun os started H enc _ => opens_lifted os started H enc)
end Go.Proofs.Ytnfcmpffihmnmaa
