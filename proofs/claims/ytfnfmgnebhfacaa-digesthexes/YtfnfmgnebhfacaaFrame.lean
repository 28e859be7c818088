/-
  What the rows' proofs share: a [32]byte that came in.
-/
import Derived.Test.YtfnfmgnebhfacaaRows
import Derived.Test.YtfnfmgnebhfacaaDigits
import Derived.Test.YtfnfmgnebhfacaaZeros
import Derived.ProofKit
import Derived.OpenShut
import Derived.ChangeOld
import Derived.Below
namespace Go.Proofs.Ytfnfmgnebhfacaa
open Go.ChangeShapes Go.WideShapes Go.ChangeAt Go.RowKit

theorem own : ownKnob Try.prog.godebug = none := by kernel_rfl
theorem laidOut : laidOutB Try.prog = true := by kernel_rfl

/-- A [32]byte that came in: its 32 cells, each a byte. -/
theorem open_arr {H : Type} {enc : TypeId × Value → H} {W : World} {base : Nat} {sp : Nat → Bool} {held : Bool} {v : Value} {d : DataW H} {p : List MemPlace} {t : TypeId}
    (hu : Try.prog.underlying t = some (.array 32 5)) (hcl : Try.prog.cellsOf t = 32) (hv : Value.okWide Try.prog W .any base t v) (h : DataW.Trod enc Try.prog W 0 sp held t v d p) :
    ∃ (cs : List Value) (z : Nat → Int), v = .agg cs.toArray ∧ cs.length = 32 ∧ (∀ i, i < 32 → cs[i]? = some (.int .u8 (z i))) ∧ ∀ i, i < 32 → 0 ≤ z i ∧ z i ≤ 255 := by
  obtain ⟨cs, rfl, hsz, _⟩ : ∃ cs, v = .agg cs ∧ cs.size = Try.prog.cellsOf t ∧ Row.okWide Try.prog W .any base t cs := by
    simpa [Value.okWide, hu] using hv
  rw [hcl] at hsz
  obtain ⟨l⟩ := cs
  have hl : l.length = 32 := by simpa using hsz
  obtain ⟨fuel, hf⟩ := h
  obtain ⟨xs, m, _, _, _, hxs, hel⟩ := DataW.trod_array hu hf
  have key : ∀ i, i < 32 → ∃ n : Int, l[i]? = some (.int .u8 n) ∧ 0 ≤ n ∧ n ≤ 255 := by
    intro i hi
    have e := hel i hi
    rw [Try.cells5] at e
    have hx : xs[i]? = some xs[i] := List.getElem?_eq_getElem (by omega)
    rw [hx] at e
    obtain ⟨n, e1, _, wn⟩ := DataW.trod_int Try.underlying5 e
    have hb := bounds_u8 wn
    refine ⟨n, ?_, hb⟩
    simp only [Value.cells, Nat.mul_one] at e1
    have : (l.drop i)[0]? = some (.int .u8 n) := by
      have h2 : ((l.drop i).take 1)[0]? = some (.int .u8 n) := by rw [e1]; rfl
      simpa using h2
    simpa using this
  refine ⟨l, fun i => if h : i < 32 then Classical.choose (key i h) else 0, rfl, hl, fun i hi => ?_, fun i hi => ?_⟩
  · have := (Classical.choose_spec (key i hi)).1
    simpa [hi] using this
  · have := (Classical.choose_spec (key i hi)).2
    simpa [hi] using this

theorem Try.cells22 : Try.prog.cellsOf 22 = 32 := by kernel_rfl

theorem eq_arrOf {cs : List Value} {z : Nat → Int} (hs : cs.length = 32) (hc : ∀ i, i < 32 → cs[i]? = some (.int .u8 (z i))) : cs = arrOf z := by
  apply List.ext_getElem?
  intro i
  by_cases h : i < 32
  · rw [hc i h, arrOf_get z i h]
  · rw [List.getElem?_eq_none (by omega), List.getElem?_eq_none (by rw [arrOf_len]; omega)]

end Go.Proofs.Ytfnfmgnebhfacaa
