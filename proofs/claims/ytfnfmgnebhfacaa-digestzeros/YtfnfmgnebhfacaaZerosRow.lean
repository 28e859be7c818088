/-
  DigestZeros: the row, proved out of the walk.
-/
import Derived.Test.YtfnfmgnebhfacaaRows
import Derived.Test.YtfnfmgnebhfacaaZeros
import Derived.ProofKit
import Derived.OpenShut
import Derived.ChangeOld
import Derived.Below
namespace Go.Proofs.Ytfnfmgnebhfacaa
open Go.ChangeShapes Go.WideShapes Go.ChangeAt Go.RowKit

theorem own : ownKnob Try.prog.godebug = none := by kernel_rfl
theorem laidOut : laidOutB Try.prog = true := by kernel_rfl

/-- A [32]byte that came in: its 32 cells, each a byte. -/
theorem open_arr {H : Type} {enc : TypeId × Value → H} {W : World} {base : Nat} {sp : Nat → Bool} {held : Bool} {v : Value} {d : DataW H} {p : List MemPlace} {t : TypeId}
    (hu : Try.prog.underlying t = some (.array 32 5)) (hcl : Try.prog.cellsOf t = 32) (hv : Value.okWide Try.prog W .any base t v) (h : DataW.Trod enc Try.prog W 0 sp held t v d p) :
    ∃ (cs : List Value) (z : Nat → Int), v = .agg cs.toArray ∧ cs.length = 32 ∧ (∀ i, i < 32 → cs[i]? = some (.int .u8 (z i))) ∧ ∀ i, i < 32 → 0 ≤ z i ∧ z i ≤ 255 := by
  obtain ⟨cs, rfl, hsz, _⟩ : ∃ cs, v = .agg cs ∧ cs.size = Try.prog.cellsOf t ∧ Row.okWide Try.prog W .any base t cs := by
    simpa [Value.okWide, hu] using hv
  rw [hcl] at hsz
  obtain ⟨l⟩ := cs
  have hl : l.length = 32 := by simpa using hsz
  obtain ⟨fuel, hf⟩ := h
  obtain ⟨xs, m, _, _, _, hxs, hel⟩ := DataW.trod_array hu hf
  have key : ∀ i, i < 32 → ∃ n : Int, l[i]? = some (.int .u8 n) ∧ 0 ≤ n ∧ n ≤ 255 := by
    intro i hi
    have e := hel i hi
    rw [Try.cells5] at e
    have hx : xs[i]? = some xs[i] := List.getElem?_eq_getElem (by omega)
    rw [hx] at e
    obtain ⟨n, e1, _, wn⟩ := DataW.trod_int Try.underlying5 e
    have hb := bounds_u8 wn
    refine ⟨n, ?_, hb⟩
    simp only [Value.cells, Nat.mul_one] at e1
    have : (l.drop i)[0]? = some (.int .u8 n) := by
      have h2 : ((l.drop i).take 1)[0]? = some (.int .u8 n) := by rw [e1]; rfl
      simpa using h2
    simpa using this
  refine ⟨l, fun i => if h : i < 32 then Classical.choose (key i h) else 0, rfl, hl, fun i hi => ?_, fun i hi => ?_⟩
  · have := (Classical.choose_spec (key i hi)).1
    simpa [hi] using this
  · have := (Classical.choose_spec (key i hi)).2
    simpa [hi] using this

theorem Try.cells22 : Try.prog.cellsOf 22 = 32 := by kernel_rfl

set_option maxRecDepth 100000 in
theorem zeros_lifted (os : Os) (started : os.Started) (H : Type) (enc : TypeId × Value → H) :
    ReturnsInHanded {} Try.checked os 3 .any (Rows.digestZerosSpec.pre6 enc Try.prog Try.f3 Rows.digestZerosRow.domain false) (Rows.digestZerosSpec.post enc Try.prog Try.f3 false true false false) := by
  refine returnsInHanded_of_change (C := Try.checked) own started (by kernel_rfl) Try.func3
    (ChangeSpec.witness6 (enc := enc) (C := Try.checked) false ⟨#[], #[.agg (Array.replicate 32 (.int .u8 0))], []⟩ 8 (by kernel_rfl) (by kernel_rfl) (by kernel_rfl) (by kernel_rfl)) ?_
  intro W base args ds gs before hval0 hW hcnd _
  have hval : ∀ (j : Nat) t v, Try.f3.params[j]? = some t → args[j]? = some v → Value.okWide Try.prog W .any base t v := hval0
  have hW' := hW
  obtain ⟨p, q, hA0, hV, rfl, hfz, hnd⟩ := hW
  have hA : DataW.TrodAll enc Try.prog W 0 (fun _ => true) true Try.f3.params.toList args.toList ds p := hA0
  rw [Try.params3] at hA hval
  obtain ⟨v0, vs0, d0, ds0, p0, q0, hargs, rfl, rfl, h0, r0⟩ := trodAll_cons hA
  obtain ⟨rfl, rfl, rfl⟩ := trodAll_nil r0
  obtain rfl : args = #[v0] := by cases args; simp_all
  obtain ⟨rfl, rfl⟩ := trodVars_none hV
  have k0 := h0
  have lt0 : ∀ x ∈ p0, x.block < W.heap.size := by obtain ⟨m, hm⟩ := k0; exact DataW.trod_lt m _ _ _ hm
  obtain ⟨cs, z, rfl, hs, hc, hb⟩ := open_arr Try.underlying22 Try.cells22 (hval 0 22 v0 rfl rfl) h0
  clear hA0 hval0
  refine (law_any cs z hs hc hb W).mono fun e W' ⟨he, bel⟩ => ?_
  subst he
  exact ⟨_, rfl, _, _, _, [], _, [], hW', trodAll_mk1 (shut_bool Try.underlying4 _), (trodAll_cons_mk (Below.trod laidOut (by kernel_rfl) (of_decide_eq_true (by kernel_rfl)) k0 bel lt0) trodAll_mk0), rfl, bel.frame _, fun h => by cases h⟩

theorem digestZeros_holds : Rows.DigestZerosSaid :=
  OpenClaim.holds_of_wide 3 Try.f3 rfl rfl rfl rfl rfl rfl rfl ⟨rfl, rfl, rfl, rfl, rfl⟩ rfl rfl rfl rfl rfl (by kernel_rfl) Try.func3 (by kernel_rfl)
    (of_decide_eq_true (by kernel_rfl)) (by unfold Func.isWrapper; first | (rw [if_pos (by decide +kernel)]; kernel_rfl) | (rw [if_neg (by decide +kernel)]; exact ⟨rfl, rfl⟩))
    (fun os started H enc _ => zeros_lifted os started H enc)

end Go.Proofs.Ytfnfmgnebhfacaa
