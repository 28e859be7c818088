/-
  What came in, opened: sums, addresses.
-/
import Derived.Test.YtjmeaebehndheaaBase
import Derived.ProofKit
import Derived.OpenShut
import Derived.ChangeSlices
import Derived.JoinedCond
namespace Go.Proofs.Ytjmeaebehndheaa
open Go.ChangeShapes Go.WideShapes Go.ChangeAt Go.RowKit

theorem ownKn : ownKnob Try.prog.godebug = none := by kernel_rfl
theorem laidOutS : laidOutB Try.prog = true := by kernel_rfl
theorem Try.c5 : Try.prog.cellsOf 5 = 1 := by kernel_rfl
theorem Try.c3 : Try.prog.cellsOf 3 = 1 := by kernel_rfl
theorem Try.c29 : Try.prog.cellsOf 29 = 1 := by kernel_rfl
theorem Try.c23 : Try.prog.cellsOf 23 = 1 := by kernel_rfl
theorem Try.c31 : Try.prog.cellsOf 31 = 32 := by kernel_rfl
theorem Try.c33 : Try.prog.cellsOf 33 = 33 := by kernel_rfl

section
variable {H : Type} {enc : TypeId × Value → H} {W : World} {sp : Nat → Bool} {held : Bool} {fuel : Nat} {cs : List Value} {x : DataW H × List MemPlace}

theorem op_sumS (h : DataW.trod enc Try.prog W 0 sp held fuel 31 cs = some x) : ∃ z : List Int, z.length = 32 ∧ cs = bs z ∧ ∀ y ∈ z, 0 ≤ y ∧ y ≤ 255 := by
  obtain ⟨xs, m, _, _, hl, hxs, hel⟩ := DataW.trod_array Try.underlying31 h
  rw [Try.c31] at hl
  have key : ∀ i, i < 32 → ∃ n : Int, cs[i]? = some (.int .u8 n) ∧ 0 ≤ n ∧ n ≤ 255 := by
    intro i hi
    have e := hel i hi
    rw [Try.c5] at e
    have hx : xs[i]? = some xs[i] := List.getElem?_eq_getElem (by omega)
    rw [hx] at e
    obtain ⟨n, e1, _, wn⟩ := DataW.trod_int Try.underlying5 e
    refine ⟨n, ?_, bounds_u8 wn⟩
    rw [Nat.mul_one] at e1
    have h2 : ((cs.drop i).take 1)[0]? = some (.int .u8 n) := by rw [e1]; rfl
    simpa using h2
  refine ⟨(List.range 32).map fun i => if h : i < 32 then Classical.choose (key i h) else 0, by simp, ?_, ?_⟩
  · apply List.ext_getElem?
    intro i
    by_cases h : i < 32
    · rw [(Classical.choose_spec (key i h)).1]
      simp [bs, h]
    · rw [List.getElem?_eq_none (by omega), List.getElem?_eq_none (by simp [bs]; omega)]
  · intro y hy
    simp only [List.mem_map, List.mem_range] at hy
    obtain ⟨i, hi, rfl⟩ := hy
    have := (Classical.choose_spec (key i hi)).2
    simpa [hi] using this

theorem op_addrS (h : DataW.trod enc Try.prog W 0 sp held fuel 33 cs = some x) : ∃ (z : List Int) (nth : Int), z.length = 32 ∧ cs = bs (z ++ [nth]) ∧ ∀ y ∈ z ++ [nth], 0 ≤ y ∧ y ≤ 255 := by
  obtain ⟨xs, m, _, _, hl, hxs, hel⟩ := DataW.trod_struct Try.underlying33 h
  have hxs : xs.length = 2 := hxs
  rw [Try.c33] at hl
  have e0 : DataW.trod enc Try.prog W 0 sp held m 31 ((cs.drop 0).take (Try.prog.cellsOf 31)) = xs[0]? := hel 0 _ rfl
  have e1 : DataW.trod enc Try.prog W 0 sp held m 5 ((cs.drop 32).take (Try.prog.cellsOf 5)) = xs[1]? := hel 1 _ rfl
  rw [Try.c31, List.drop_zero] at e0
  rw [Try.c5] at e1
  have h0 : xs[0]? = some xs[0] := List.getElem?_eq_getElem (by omega)
  have h1 : xs[1]? = some xs[1] := List.getElem?_eq_getElem (by omega)
  rw [h0] at e0
  rw [h1] at e1
  obtain ⟨z, hz, ez, bz⟩ := op_sumS e0
  obtain ⟨n, en, _, wn⟩ := DataW.trod_int Try.underlying5 e1
  refine ⟨z, n, hz, ?_, ?_⟩
  · rw [bs_app, ← ez]
    have e2 : (cs.drop 32).take 1 = cs.drop 32 := List.take_of_length_le (by simp; omega)
    rw [e2] at en
    have := List.take_append_drop 32 cs
    rw [en] at this
    exact this.symm
  · intro y hy
    rcases List.mem_append.1 hy with hy | hy
    · exact bz y hy
    · simp at hy; subst hy; exact bounds_u8 wn

end
end Go.Proofs.Ytjmeaebehndheaa
