/-
  AnnalTexts: the row, proved out of the walk.
-/
import Derived.Test.YtfbiafemmoamiaaAnE
import Derived.ProofKit
import Derived.OpenShut
import Derived.ChangeSlices
import Derived.JoinedCond
import Derived.SizedLaws
import Derived.ChangeOld
namespace Go.Proofs.Ytfbiafemmoamiaa
open Go.ChangeShapes Go.WideShapes Go.ChangeAt Go.RowKit

theorem ownKn : ownKnob Try.prog.godebug = none := by kernel_rfl
theorem laidOutS : laidOutB Try.prog = true := by kernel_rfl
theorem Try.c5 : Try.prog.cellsOf 5 = 1 := by kernel_rfl
theorem Try.c22 : Try.prog.cellsOf 22 = 1 := by kernel_rfl
theorem Try.c24 : Try.prog.cellsOf 24 = 32 := by kernel_rfl
theorem Try.cells26 : Try.prog.cellsOf 26 = 33 := by kernel_rfl

section
variable {H : Type} {enc : TypeId × Value → H} {W : World} {sp : Nat → Bool} {held : Bool} {fuel : Nat} {cs : List Value} {x : DataW H × List MemPlace}

theorem op_sumS (h : DataW.trod enc Try.prog W 0 sp held fuel 24 cs = some x) : ∃ z : List Int, z.length = 32 ∧ cs = bs z ∧ ∀ y ∈ z, 0 ≤ y ∧ y ≤ 255 := by
  obtain ⟨xs, m, _, _, hl, hxs, hel⟩ := DataW.trod_array Try.underlying24 h
  rw [Try.c24] at hl
  have key : ∀ i, i < 32 → ∃ n : Int, cs[i]? = some (.int .u8 n) ∧ 0 ≤ n ∧ n ≤ 255 := by
    intro i hi
    have e := hel i hi
    rw [Try.c5] at e
    have hx : xs[i]? = some xs[i] := List.getElem?_eq_getElem (by omega)
    rw [hx] at e
    obtain ⟨n, e1, _, wn⟩ := DataW.trod_int Try.underlying5 e
    refine ⟨n, ?_, bounds_u8 wn⟩
    rw [Nat.mul_one] at e1
    have h2 : ((cs.drop i).take 1)[0]? = some (.int .u8 n) := by rw [e1]; rfl
    simpa using h2
  refine ⟨(List.range 32).map fun i => if h : i < 32 then Classical.choose (key i h) else 0, by simp, ?_, ?_⟩
  · apply List.ext_getElem?
    intro i
    by_cases h : i < 32
    · rw [(Classical.choose_spec (key i h)).1]
      simp [bs, h]
    · rw [List.getElem?_eq_none (by omega), List.getElem?_eq_none (by simp [bs]; omega)]
  · intro y hy
    simp only [List.mem_map, List.mem_range] at hy
    obtain ⟨i, hi, rfl⟩ := hy
    have := (Classical.choose_spec (key i hi)).2
    simpa [hi] using this

theorem op_leaf (h : DataW.trod enc Try.prog W 0 sp held fuel 26 cs = some x) : ∃ (n : Nat) (y : List Int), cs = leafC n y ∧ n < 18446744073709551616 ∧ y.length = 32 := by
  obtain ⟨xs, m, _, _, hl, hxs, hel⟩ := DataW.trod_struct Try.underlying26 h
  have hxs : xs.length = 2 := hxs
  rw [Try.cells26] at hl
  have e0 : DataW.trod enc Try.prog W 0 sp held m 22 ((cs.drop 0).take (Try.prog.cellsOf 22)) = xs[0]? := hel 0 _ rfl
  have e1 : DataW.trod enc Try.prog W 0 sp held m 24 ((cs.drop 1).take (Try.prog.cellsOf 24)) = xs[1]? := hel 1 _ rfl
  rw [Try.c22, List.drop_zero] at e0
  rw [Try.c24] at e1
  rw [List.getElem?_eq_getElem (by omega)] at e0 e1
  obtain ⟨n, en, _, wn⟩ := DataW.trod_int Try.underlying22 e0
  obtain ⟨z, hz, ez, _⟩ := op_sumS e1
  have b := bounds_u64 wn
  refine ⟨n.toNat, z, ?_, by omega, hz⟩
  have e : (n.toNat : Int) = n := by omega
  have t1 : (cs.drop 1).take 32 = cs.drop 1 := List.take_of_length_le (by simp; omega)
  rw [t1] at ez
  have := List.take_append_drop 1 cs
  rw [en, ez] at this
  rw [← this, leafC, e]
  rfl
end

set_option maxRecDepth 100000 in
theorem okWide_struct {W : World} {base : Nat} {t : TypeId} {v : Value} {fs : Array Field} (hu : Try.prog.underlying t = some (.struct fs)) (hv : Value.okWide Try.prog W .any base t v) : ∃ cs : List Value, v = .agg cs.toArray := by
  obtain ⟨cs, rfl, _, _⟩ : ∃ cs, v = .agg cs ∧ cs.size = Try.prog.cellsOf t ∧ Row.okWide Try.prog W .any base t cs := by
    simpa [Value.okWide, hu] using hv
  exact ⟨cs.toList, by simp⟩

set_option maxRecDepth 100000 in
theorem okWide_array {W : World} {base : Nat} {t : TypeId} {v : Value} {e : TypeId} {n : Nat} (hu : Try.prog.underlying t = some (.array n e)) (hv : Value.okWide Try.prog W .any base t v) : ∃ cs : List Value, v = .agg cs.toArray := by
  obtain ⟨cs, rfl, _, _⟩ : ∃ cs, v = .agg cs ∧ cs.size = Try.prog.cellsOf t ∧ Row.okWide Try.prog W .any base t cs := by
    simpa [Value.okWide, hu] using hv
  exact ⟨cs.toList, by simp⟩


set_option maxRecDepth 100000 in
theorem texts_lifted (os : Os) (started : os.Started) (H : Type) (enc : TypeId × Value → H) :
    ReturnsInHanded {} Try.checked os 3 .any (Rows.annalTextsSpec.pre6 enc Try.prog Try.f3 Rows.annalTextsRow.domain false) (Rows.annalTextsSpec.post enc Try.prog Try.f3 false true false false) := by
  refine returnsInHanded_of_change_sized (C := Try.checked) ownKn started (by kernel_rfl) Try.func3
    (ChangeSpec.witness6 (enc := enc) (C := Try.checked) false ⟨#[], #[.agg (leafC 0 (List.replicate 32 0)).toArray, .agg (bs (List.replicate 32 0)).toArray, .agg (bs (List.replicate 32 0)).toArray], []⟩ 3 (by kernel_rfl) (by kernel_rfl) (by kernel_rfl) (by kernel_rfl)) ?_
  intro W base args ds gs before hval0 hW hcnd hsz _
  have hval : ∀ (j : Nat) t v, Try.f3.params[j]? = some t → args[j]? = some v → Value.okWide Try.prog W .any base t v := hval0
  have hW' := hW
  obtain ⟨p, q, hA0, hV, rfl, hfz, hnd⟩ := hW
  have hA : DataW.TrodAll enc Try.prog W 0 (fun _ => true) true Try.f3.params.toList args.toList ds p := hA0
  rw [Try.params3] at hA hval
  obtain ⟨v0, vs0, d0, ds0, p0, q0, hargs, rfl, rfl, h0, r0⟩ := trodAll_cons hA
  obtain ⟨v1, vs1, d1, ds1, p1, q1, rfl, rfl, rfl, h1, r1⟩ := trodAll_cons r0
  obtain ⟨v2, vs2, d2, ds2, p2, q2, rfl, rfl, rfl, h2, r2⟩ := trodAll_cons r1
  obtain ⟨rfl, rfl, rfl⟩ := trodAll_nil r2
  obtain rfl : args = #[v0, v1, v2] := by cases args; simp_all
  obtain ⟨rfl, rfl⟩ := trodVars_none hV
  have k0 := h0
  have k1 := h1
  have k2 := h2
  have lt0 : ∀ x ∈ p0, x.block < W.heap.size := by obtain ⟨m, hm⟩ := k0; exact DataW.trod_lt m _ _ _ hm
  have lt1 : ∀ x ∈ p1, x.block < W.heap.size := by obtain ⟨m, hm⟩ := k1; exact DataW.trod_lt m _ _ _ hm
  have lt2 : ∀ x ∈ p2, x.block < W.heap.size := by obtain ⟨m, hm⟩ := k2; exact DataW.trod_lt m _ _ _ hm
  obtain ⟨f0, hf0⟩ := h0
  obtain ⟨f1, hf1⟩ := h1
  obtain ⟨f2, hf2⟩ := h2
  obtain ⟨c0, rfl⟩ := okWide_struct Try.underlying26 (hval 0 26 v0 rfl rfl)
  obtain ⟨c1, rfl⟩ := okWide_array Try.underlying24 (hval 1 24 v1 rfl rfl)
  obtain ⟨c2, rfl⟩ := okWide_array Try.underlying24 (hval 2 24 v2 rfl rfl)
  obtain ⟨n, z, e0, hn, hz⟩ := op_leaf (cs := c0) hf0
  obtain ⟨x, hx, e1, _⟩ := op_sumS (cs := c1) hf1
  obtain ⟨y, hy, e2, _⟩ := op_sumS (cs := c2) hf2
  subst e0 e1 e2
  clear hA0 hval0
  refine (texts_any n z x y hn hz hx hy).mono fun e W' ⟨he, bel⟩ => ?_
  subst he
  exact ⟨_, rfl, _, _, _, [], _, [], hW', trodAll_mk1 (shut_bool Try.underlying4 _), trodAll_cons_mk (Below.trod laidOutS (by kernel_rfl) (of_decide_eq_true (by kernel_rfl)) k0 bel lt0) (trodAll_cons_mk (Below.trod laidOutS (by kernel_rfl) (of_decide_eq_true (by kernel_rfl)) k1 bel lt1) (trodAll_cons_mk (Below.trod laidOutS (by kernel_rfl) (of_decide_eq_true (by kernel_rfl)) k2 bel lt2) trodAll_mk0)), rfl, bel.frame _, fun h => by cases h⟩

theorem annalTexts_holds : Rows.AnnalTextsSaid :=
  OpenClaim.holds_of_wide 3 Try.f3 rfl rfl rfl rfl rfl rfl rfl ⟨rfl, rfl, rfl, rfl, rfl⟩ rfl rfl rfl rfl rfl (by kernel_rfl) Try.func3 (by kernel_rfl)
    (of_decide_eq_true (by kernel_rfl)) (by unfold Func.isWrapper; first | (rw [if_pos (by decide +kernel)]; kernel_rfl) | (rw [if_neg (by decide +kernel)]; exact ⟨rfl, rfl⟩))
    (fun os started H enc _ => texts_lifted os started H enc)
end Go.Proofs.Ytfbiafemmoamiaa
