/-
  Acts that came in, opened, with the bounds of all their numbers.
-/
import Derived.Test.YtpongepfjdgcmaaOpenA
namespace Go.Proofs.Ytpongepfjdgcmaa
open Go.ChangeShapes Go.WideShapes Go.ChangeAt Go.RowKit

section
variable {H : Type} {enc : TypeId × Value → H} {W : World} {sp : Nat → Bool} {held : Bool} {fuel : Nat} {cs : List Value} {x : DataW H × List MemPlace}

set_option maxRecDepth 100000 in
theorem op_act2 (h : DataW.trod enc Try.prog W 0 sp held fuel 45 cs = some x) : ∃ (a : Ac) (kl : List Bool), cs = a.cells ∧ KB W a.ka a.kn kl ∧ (-9223372036854775808 ≤ a.nm ∧ a.nm ≤ 9223372036854775807) ∧ (0 ≤ a.fill ∧ a.fill ≤ 255) ∧ -9223372036854775808 ≤ a.less ∧ a.less ≤ 9223372036854775807 := by
  obtain ⟨xs, m, _, rfl, hl, hxs, hel⟩ := DataW.trod_struct Try.underlying45 h
  have hxs : xs.length = 9 := hxs
  rw [Try.c45] at hl
  obtain ⟨v0, v1, v2, v3, v4, v5, v6, v7, v8, rfl⟩ := nine hl
  have g : ∀ i, (h : i < 9) → xs[i]? = some (xs[i]'(by omega)) := fun i h => List.getElem?_eq_getElem (by omega)
  have e0 : DataW.trod enc Try.prog W 0 sp held m 3 [v0] = xs[0]? := hel 0 _ rfl
  have e1 : DataW.trod enc Try.prog W 0 sp held m 3 [v1] = xs[1]? := hel 1 _ rfl
  have e2 : DataW.trod enc Try.prog W 0 sp held m 3 [v2] = xs[2]? := hel 2 _ rfl
  have e3 : DataW.trod enc Try.prog W 0 sp held m 5 [v3] = xs[3]? := hel 3 _ rfl
  have e4 : DataW.trod enc Try.prog W 0 sp held m 3 [v4] = xs[4]? := hel 4 _ rfl
  have e5 : DataW.trod enc Try.prog W 0 sp held m 3 [v5] = xs[5]? := hel 5 _ rfl
  have e6 : DataW.trod enc Try.prog W 0 sp held m 5 [v6] = xs[6]? := hel 6 _ rfl
  have e7 : DataW.trod enc Try.prog W 0 sp held m 43 [v7] = xs[7]? := hel 7 _ rfl
  have e8 : DataW.trod enc Try.prog W 0 sp held m 3 [v8] = xs[8]? := hel 8 _ rfl
  rw [g 0 (by omega)] at e0
  rw [g 1 (by omega)] at e1
  rw [g 2 (by omega)] at e2
  rw [g 3 (by omega)] at e3
  rw [g 4 (by omega)] at e4
  rw [g 5 (by omega)] at e5
  rw [g 6 (by omega)] at e6
  rw [g 7 (by omega)] at e7
  rw [g 8 (by omega)] at e8
  obtain ⟨n0, c0, _, _⟩ := DataW.trod_int Try.underlying3 e0
  obtain ⟨n1, c1, _, _⟩ := DataW.trod_int Try.underlying3 e1
  obtain ⟨n2, c2, _, w2⟩ := DataW.trod_int Try.underlying3 e2
  obtain ⟨n3, c3, _, w3⟩ := DataW.trod_int Try.underlying5 e3
  obtain ⟨n4, c4, _, w4⟩ := DataW.trod_int Try.underlying3 e4
  obtain ⟨n5, c5, _, _⟩ := DataW.trod_int Try.underlying3 e5
  obtain ⟨n6, c6, _, _⟩ := DataW.trod_int Try.underlying5 e6
  obtain ⟨ka, kn, kc, kl, c7, hkb⟩ := op_kb e7
  obtain ⟨n8, c8, _, _⟩ := DataW.trod_int Try.underlying3 e8
  refine ⟨⟨n0, n1, n2, n3, n4, n5, n6, ka, kn, kc, n8⟩, kl, ?_, hkb, bounds_i64 w2, bounds_u8 w3, bounds_i64 w4⟩
  simp only [List.cons.injEq, and_true] at c0 c1 c2 c3 c4 c5 c6 c7 c8
  rw [c0, c1, c2, c3, c4, c5, c6, c7, c8]
  rfl

theorem op_acts2 (h : DataW.trod enc Try.prog W 0 sp held fuel 42 cs = some x) : ∃ (a : Option Addr) (N c : Nat) (ac : Nat → Ac) (kls : Nat → List Bool), cs = [.slice a N c] ∧ Acs W a N ac ∧ (∀ i, i < N → KB W (ac i).ka (ac i).kn (kls i)) ∧ (∀ i, i < N → -9223372036854775808 ≤ (ac i).less ∧ (ac i).less ≤ 9223372036854775807) ∧ (N = 0 ∨ ∃ elems spare, x.1 = .slice elems spare ∧ elems.length = N) := by
  rcases Go.Deep.open_slice Try.underlying42 h with ⟨rfl, rfl⟩ | ⟨a, len, cap, m, n, D, Pl, rfl, _, hl, hcap, hm, rfl, hc⟩
  · exact ⟨_, _, _, fun _ => ⟨0, 0, 0, 0, 0, 0, 0, none, 0, 0, 0⟩, fun _ => [], rfl, ⟨fun i hi => by omega, fun i hi => by omega, fun i hi => by omega⟩, fun i hi => by omega, fun i hi => by omega, .inl rfl⟩
  · have hlm : len ≤ m := by rw [hm]; split <;> omega
    have at_ : ∀ i, i < len → ∃ (b : Ac × List Bool), (∀ j v, b.1.cells[j]? = some v → W.cell? ((a.add (i * 9)).add j) = some v) ∧ KB W b.1.ka b.1.kn b.2 ∧ (-9223372036854775808 ≤ b.1.nm ∧ b.1.nm ≤ 9223372036854775807) ∧ (0 ≤ b.1.fill ∧ b.1.fill ≤ 255) ∧ -9223372036854775808 ≤ b.1.less ∧ b.1.less ≤ 9223372036854775807 := fun i hi => by
      obtain ⟨cs', h1, h2⟩ := hc i (by omega)
      rw [Try.c45] at h1
      obtain ⟨b, kl, rfl, h3⟩ := op_act2 h2
      obtain ⟨_, h4, h5⟩ := World.cells?_some h1
      refine ⟨(b, kl), fun j v hv => ?_, h3⟩
      have hj : j < 9 := (List.getElem?_eq_some_iff.1 hv).1
      rw [h5 j hj]
      exact hv
    have spot : 0 < len → a.spot = none := by
      intro h0
      obtain ⟨b, h5, _⟩ := at_ 0 h0
      have := h5 0 _ rfl
      simpa [Addr.add] using World.cell?_spot this
    let dflt : Ac × List Bool := (⟨0, 0, 0, 0, 0, 0, 0, none, 0, 0, 0⟩, [])
    let F : Nat → Ac × List Bool := fun i => if h : i < len then Classical.choose (at_ i h) else dflt
    have hF : ∀ i, (h : i < len) → F i = Classical.choose (at_ i h) := fun i h => by show (if h : i < len then _ else _) = _; rw [dif_pos h]
    refine ⟨_, _, _, fun i => (F i).1, fun i => (F i).2, rfl, ⟨fun i hi => ?_, fun i hi => ?_, fun i hi => ?_⟩, fun i hi => ?_, fun i hi => ?_, .inr ⟨_, _, rfl, by simp⟩⟩
    · have hs := spot (by omega)
      have h9 := (Classical.choose_spec (at_ i hi)).1
      rw [← hF i hi] at h9
      obtain ⟨g, o, s⟩ := a
      simp only at hs
      subst hs
      refine ⟨g, o, rfl, fun j v hv => ?_⟩
      have := h9 j v hv
      rw [addr_add, addr_add] at this
      exact this
    · have h9 := (Classical.choose_spec (at_ i hi)).2.2.1
      rw [← hF i hi] at h9
      exact h9
    · have h9 := (Classical.choose_spec (at_ i hi)).2.2.2.1
      rw [← hF i hi] at h9
      exact h9
    · have h9 := (Classical.choose_spec (at_ i hi)).2.1
      rw [← hF i hi] at h9
      exact h9
    · have h9 := (Classical.choose_spec (at_ i hi)).2.2.2.2
      rw [← hF i hi] at h9
      exact h9
end
end Go.Proofs.Ytpongepfjdgcmaa
