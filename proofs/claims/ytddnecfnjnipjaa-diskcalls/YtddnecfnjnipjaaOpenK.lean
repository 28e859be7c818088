import Derived.Test.YtddnecfnjnipjaaAct
import Derived.ProofKit
import Derived.OpenShut
import Derived.ChangeSlices
import Derived.JoinedCond
import Derived.Deep.Slices
/-
  What DiskKeeps asks of a disk on its way.
-/
namespace Go.Proofs.Ytddnecfnjnipjaa
open Go.RowKit Go.RwLone

/-- The sector of a number. -/
def nuK (S : Nat) (nm : Int) : Nat := (nm % (S : Int)).toNat
theorem nuK_cases {S : Nat} (hS : 0 < S) (nm : Int) : (nm.tmod S < 0 ∧ nm.tmod S + S = nuK S nm) ∨ (¬ nm.tmod S < 0 ∧ nm.tmod S = nuK S nm) := by
  have h1 := Int.emod_nonneg nm (show (S : Int) ≠ 0 by omega)
  unfold nuK
  by_cases h : 0 ≤ nm
  · rw [Int.tmod_eq_emod_of_nonneg h]
    right
    omega
  · have h3 := Int.tmod_eq_emod (a := nm) (b := S)
    have h4 := Int.lt_tmod_of_pos nm (show (0 : Int) < S by omega)
    rw [h3]
    by_cases h5 : (S : Int) ∣ nm
    · rw [if_pos (.inr h5)]
      right
      have := Int.emod_eq_zero_of_dvd h5
      omega
    · rw [if_neg (by omega)]
      left
      have h6 := Int.emod_lt_of_pos nm (show (0 : Int) < S by omega)
      have : ((S : Int).natAbs : Int) = S := by omega
      omega
theorem nuK_lt {S : Nat} (hS : 0 < S) (nm : Int) : nuK S nm < S := by
  have h1 := Int.emod_nonneg nm (show (S : Int) ≠ 0 by omega)
  have h2 := Int.emod_lt_of_pos nm (show (0 : Int) < S by omega)
  unfold nuK
  omega

/-- Acts with their lists of what a crash keeps; all of it below B. -/
structure AcK (w : World) (B : Nat) (a : Option Addr) (N : Nat) (ac : Nat → Ac) (kls : Nat → List Bool) : Prop where
  acs : Acs w a N ac
  kb : ∀ i, i < N → KB w (ac i).ka (ac i).kn (kls i)
  ls : ∀ i, i < N → -9223372036854775808 ≤ (ac i).less ∧ (ac i).less ≤ 9223372036854775807
  size : w.heap.size ≤ B

theorem AcK.low {w : World} {B : Nat} {a : Option Addr} {N : Nat} {ac : Nat → Ac} {kls : Nat → List Bool} (h : AcK w B a N ac kls) {i : Nat} (hi : i < N) : ∀ g o, 0 < (ac i).kn → (ac i).ka = some ⟨g, o, none⟩ → g < B := fun g o h0 e => by
  obtain ⟨g', o', e', hc⟩ := (h.kb i hi).row 0 h0
  rw [e] at e'
  injection e' with e'
  injection e' with e1 _
  have := World.block_lt_of_cell? _ _ hc
  have := h.size
  simp only at *
  omega
theorem AcK.kept {w w' : World} {B : Nat} {a : Option Addr} {N : Nat} {ac : Nat → Ac} {kls : Nat → List Bool} (h : AcK w B a N ac kls) (bl : Below B w w') {i : Nat} (hi : i < N) : KB w' (ac i).ka (ac i).kn (kls i) :=
  (h.kb i hi).chg (S := fun g => B ≤ g) ⟨bl.os, bl.tape, bl.output, bl.size, fun k _ hn => bl.block k (by omega)⟩ (fun g o h0 e h2 => by have := h.low hi g o h0 e; omega)
theorem AcK.cell {w w' : World} {B : Nat} {a : Option Addr} {N : Nat} {ac : Nat → Ac} {kls : Nat → List Bool} (h : AcK w B a N ac kls) (bl : Below B w w') {i : Nat} (hi : i < N) : ∃ g o, a = some ⟨g, o, none⟩ ∧ ∀ j v, (ac i).cells[j]? = some v → w'.cell? ⟨g, o + i * 9 + j, none⟩ = some v := by
  obtain ⟨g, o, e, hc⟩ := h.acs.row i hi
  refine ⟨g, o, e, fun j v hv => ?_⟩
  have h1 := hc j v hv
  have h2 := World.block_lt_of_cell? _ _ h1
  have := h.size
  simp only at h2
  exact (World.cell?_of_block (a := ⟨g, o + i * 9 + j, none⟩) (bl.block g (by omega))).trans h1

section
variable {w w' : World} {B G p S Z b s : Nat} {l : List Int}
variable {pn : Nat} {A : Nat → List (Nat × List Int)} {F : Nat → Option (List Int)}
theorem imgT_zero {z S : Nat} {F : Nat → Option (List Int)} {t j : Nat} (hj : j / z = t) (h1 : F t = none) : (imgT z S F).getD j 0 = 0 := by
  unfold imgT
  rw [List.getD_eq_getElem?_getD, List.getElem?_map]
  by_cases hj2 : j < S * z
  · rw [List.getElem?_range hj2]
    show ((F (j / z)).getD (zs z)).getD (j % z) 0 = 0
    rw [hj, h1]
    show (zs z).getD (j % z) 0 = 0
    unfold zs
    rw [List.getD_eq_getElem?_getD, List.getElem?_replicate]
    split <;> rfl
  · rw [List.getElem?_eq_none (by simp; omega)]
    rfl
end
end Go.Proofs.Ytddnecfnjnipjaa

/-
  Acts that came in, opened.
-/
namespace Go.Proofs.Ytddnecfnjnipjaa
open Go.ChangeShapes Go.WideShapes Go.ChangeAt Go.RowKit

theorem ownA : ownKnob Try.prog.godebug = none := by kernel_rfl
theorem laidOutA : laidOutB Try.prog = true := by kernel_rfl
theorem Try.c3 : Try.prog.cellsOf 3 = 1 := by kernel_rfl
theorem Try.c4 : Try.prog.cellsOf 4 = 1 := by kernel_rfl
theorem Try.c5 : Try.prog.cellsOf 5 = 1 := by kernel_rfl
theorem Try.c43 : Try.prog.cellsOf 42 = 1 := by kernel_rfl
theorem Try.c45 : Try.prog.cellsOf 44 = 9 := by kernel_rfl
theorem Try.b45 : Try.prog.bytesOf 44 = 88 := by kernel_rfl

section
variable {H : Type} {enc : TypeId × Value → H} {W : World} {sp : Nat → Bool} {held : Bool} {fuel : Nat} {cs : List Value} {x : DataW H × List MemPlace}

set_option maxRecDepth 100000 in
theorem op_kb (h : DataW.trod enc Try.prog W 0 sp held fuel 42 cs = some x) : ∃ a N c kl, cs = [.slice a N c] ∧ KB W a N kl := by
  rcases Go.Deep.open_slice Try.underlying42 h with ⟨rfl, rfl⟩ | ⟨a, len, cap, m, n, D, Pl, rfl, _, hl, hcap, hm, rfl, hc⟩
  · exact ⟨_, _, _, [], rfl, ⟨rfl, fun i hi => by omega, by omega⟩⟩
  · have hlm : len ≤ m := by rw [hm]; split <;> omega
    have at_ : ∀ i, i < len → ∃ bl, W.cell? (a.add i) = some (.bool bl) := fun i hi => by
      obtain ⟨cs', h1, h2⟩ := hc i (by omega)
      rw [Try.c4] at h1
      obtain ⟨bl, e0, _⟩ := DataW.trod_bool Try.underlying4 h2
      obtain ⟨_, h3, h4⟩ := World.cells?_some h1
      have h5 := h4 0 (by omega)
      rw [e0] at h5
      refine ⟨bl, ?_⟩
      have e1 : (a.add (i * 1)).add 0 = a.add i := by simp [Addr.add]
      rw [e1] at h5
      exact h5
    have spot : 0 < len → a.spot = none := by
      intro h0
      obtain ⟨bl, h5⟩ := at_ 0 h0
      simpa [Addr.add] using World.cell?_spot h5
    obtain ⟨kf, hkf⟩ : ∃ kf : Nat → Bool, ∀ i, i < len → W.cell? (a.add i) = some (.bool (kf i)) := ⟨fun i => if h : i < len then Classical.choose (at_ i h) else false, fun i hi => by
      simp only [dif_pos hi]
      exact Classical.choose_spec (at_ i hi)⟩
    refine ⟨_, _, _, (List.range len).map kf, rfl, ⟨by simp, fun i hi => ?_, by unfold maxLen at hcap; omega⟩⟩
    have hs := spot (by omega)
    have h9 := hkf i hi
    obtain ⟨g, o, s⟩ := a
    simp only at hs
    subst hs
    refine ⟨g, o, rfl, ?_⟩
    rw [addr_add] at h9
    rw [h9]
    simp [hi]

theorem nine {cs : List Value} (h : cs.length = 9) : ∃ v0 v1 v2 v3 v4 v5 v6 v7 v8, cs = [v0, v1, v2, v3, v4, v5, v6, v7, v8] := by
  match cs, h with
  | [v0, v1, v2, v3, v4, v5, v6, v7, v8], _ => exact ⟨v0, v1, v2, v3, v4, v5, v6, v7, v8, rfl⟩

set_option maxRecDepth 100000 in
theorem op_act (h : DataW.trod enc Try.prog W 0 sp held fuel 44 cs = some x) : ∃ (a : Ac) (kl : List Bool), cs = a.cells ∧ KB W a.ka a.kn kl ∧ (-9223372036854775808 ≤ a.nm ∧ a.nm ≤ 9223372036854775807) ∧ 0 ≤ a.fill ∧ a.fill ≤ 255 := by
  obtain ⟨xs, m, _, rfl, hl, hxs, hel⟩ := DataW.trod_struct Try.underlying44 h
  have hxs : xs.length = 9 := hxs
  rw [Try.c45] at hl
  obtain ⟨v0, v1, v2, v3, v4, v5, v6, v7, v8, rfl⟩ := nine hl
  have g : ∀ i, (h : i < 9) → xs[i]? = some (xs[i]'(by omega)) := fun i h => List.getElem?_eq_getElem (by omega)
  have e0 : DataW.trod enc Try.prog W 0 sp held m 3 [v0] = xs[0]? := hel 0 _ rfl
  have e1 : DataW.trod enc Try.prog W 0 sp held m 3 [v1] = xs[1]? := hel 1 _ rfl
  have e2 : DataW.trod enc Try.prog W 0 sp held m 3 [v2] = xs[2]? := hel 2 _ rfl
  have e3 : DataW.trod enc Try.prog W 0 sp held m 5 [v3] = xs[3]? := hel 3 _ rfl
  have e4 : DataW.trod enc Try.prog W 0 sp held m 3 [v4] = xs[4]? := hel 4 _ rfl
  have e5 : DataW.trod enc Try.prog W 0 sp held m 3 [v5] = xs[5]? := hel 5 _ rfl
  have e6 : DataW.trod enc Try.prog W 0 sp held m 5 [v6] = xs[6]? := hel 6 _ rfl
  have e7 : DataW.trod enc Try.prog W 0 sp held m 42 [v7] = xs[7]? := hel 7 _ rfl
  have e8 : DataW.trod enc Try.prog W 0 sp held m 3 [v8] = xs[8]? := hel 8 _ rfl
  rw [g 0 (by omega)] at e0
  rw [g 1 (by omega)] at e1
  rw [g 2 (by omega)] at e2
  rw [g 3 (by omega)] at e3
  rw [g 4 (by omega)] at e4
  rw [g 5 (by omega)] at e5
  rw [g 6 (by omega)] at e6
  rw [g 7 (by omega)] at e7
  rw [g 8 (by omega)] at e8
  obtain ⟨n0, c0, _, _⟩ := DataW.trod_int Try.underlying3 e0
  obtain ⟨n1, c1, _, _⟩ := DataW.trod_int Try.underlying3 e1
  obtain ⟨n2, c2, _, w2⟩ := DataW.trod_int Try.underlying3 e2
  obtain ⟨n3, c3, _, w3⟩ := DataW.trod_int Try.underlying5 e3
  obtain ⟨n4, c4, _, _⟩ := DataW.trod_int Try.underlying3 e4
  obtain ⟨n5, c5, _, _⟩ := DataW.trod_int Try.underlying3 e5
  obtain ⟨n6, c6, _, _⟩ := DataW.trod_int Try.underlying5 e6
  obtain ⟨ka, kn, kc, kl, c7, hkb⟩ := op_kb e7
  obtain ⟨n8, c8, _, _⟩ := DataW.trod_int Try.underlying3 e8
  refine ⟨⟨n0, n1, n2, n3, n4, n5, n6, ka, kn, kc, n8⟩, kl, ?_, hkb, bounds_i64 w2, bounds_u8 w3⟩
  simp only [List.cons.injEq, and_true] at c0 c1 c2 c3 c4 c5 c6 c7 c8
  rw [c0, c1, c2, c3, c4, c5, c6, c7, c8]
  rfl

theorem op_acts (h : DataW.trod enc Try.prog W 0 sp held fuel 23 cs = some x) : ∃ (a : Option Addr) (N c : Nat) (ac : Nat → Ac) (kls : Nat → List Bool), cs = [.slice a N c] ∧ Acs W a N ac ∧ (∀ i, i < N → KB W (ac i).ka (ac i).kn (kls i)) ∧ (N = 0 ∨ ∃ elems spare, x.1 = .slice elems spare ∧ elems.length = N) := by
  rcases Go.Deep.open_slice Try.underlying23 h with ⟨rfl, rfl⟩ | ⟨a, len, cap, m, n, D, Pl, rfl, _, hl, hcap, hm, rfl, hc⟩
  · exact ⟨_, _, _, fun _ => ⟨0, 0, 0, 0, 0, 0, 0, none, 0, 0, 0⟩, fun _ => [], rfl, ⟨fun i hi => by omega, fun i hi => by omega, fun i hi => by omega⟩, fun i hi => by omega, .inl rfl⟩
  · have hlm : len ≤ m := by rw [hm]; split <;> omega
    have at_ : ∀ i, i < len → ∃ (b : Ac × List Bool), (∀ j v, b.1.cells[j]? = some v → W.cell? ((a.add (i * 9)).add j) = some v) ∧ KB W b.1.ka b.1.kn b.2 ∧ (-9223372036854775808 ≤ b.1.nm ∧ b.1.nm ≤ 9223372036854775807) ∧ 0 ≤ b.1.fill ∧ b.1.fill ≤ 255 := fun i hi => by
      obtain ⟨cs', h1, h2⟩ := hc i (by omega)
      rw [Try.c45] at h1
      obtain ⟨b, kl, rfl, h3⟩ := op_act h2
      obtain ⟨_, h4, h5⟩ := World.cells?_some h1
      refine ⟨(b, kl), fun j v hv => ?_, h3⟩
      have hj : j < 9 := (List.getElem?_eq_some_iff.1 hv).1
      rw [h5 j hj]
      exact hv
    have spot : 0 < len → a.spot = none := by
      intro h0
      obtain ⟨b, h5, _⟩ := at_ 0 h0
      have := h5 0 _ rfl
      simpa [Addr.add] using World.cell?_spot this
    let dflt : Ac × List Bool := (⟨0, 0, 0, 0, 0, 0, 0, none, 0, 0, 0⟩, [])
    let F : Nat → Ac × List Bool := fun i => if h : i < len then Classical.choose (at_ i h) else dflt
    have hF : ∀ i, (h : i < len) → F i = Classical.choose (at_ i h) := fun i h => by show (if h : i < len then _ else _) = _; rw [dif_pos h]
    refine ⟨_, _, _, fun i => (F i).1, fun i => (F i).2, rfl, ⟨fun i hi => ?_, fun i hi => ?_, fun i hi => ?_⟩, fun i hi => ?_, .inr ⟨_, _, rfl, by simp⟩⟩
    · have hs := spot (by omega)
      have h9 := (Classical.choose_spec (at_ i hi)).1
      rw [← hF i hi] at h9
      obtain ⟨g, o, s⟩ := a
      simp only at hs
      subst hs
      refine ⟨g, o, rfl, fun j v hv => ?_⟩
      have := h9 j v hv
      rw [addr_add, addr_add] at this
      exact this
    · have h9 := (Classical.choose_spec (at_ i hi)).2.2.1
      rw [← hF i hi] at h9
      exact h9
    · have h9 := (Classical.choose_spec (at_ i hi)).2.2.2
      rw [← hF i hi] at h9
      exact h9
    · have h9 := (Classical.choose_spec (at_ i hi)).2.1
      rw [← hF i hi] at h9
      exact h9
end

set_option maxRecDepth 100000 in
theorem okWide_act {W : World} {base : Nat} {t : TypeId} {v : Value} {fs : Array Field} (hu : Try.prog.underlying t = some (.struct fs)) (hv : Value.okWide Try.prog W .any base t v) : ∃ cs : List Value, v = .agg cs.toArray := by
  obtain ⟨cs, rfl, _⟩ := WideShapes.okWide_struct hu hv
  exact ⟨cs.toList, by simp⟩
end Go.Proofs.Ytddnecfnjnipjaa

/-
  Acts that came in, opened, with the bounds of all their numbers.
-/
namespace Go.Proofs.Ytddnecfnjnipjaa
open Go.ChangeShapes Go.WideShapes Go.ChangeAt Go.RowKit

section
variable {H : Type} {enc : TypeId × Value → H} {W : World} {sp : Nat → Bool} {held : Bool} {fuel : Nat} {cs : List Value} {x : DataW H × List MemPlace}

set_option maxRecDepth 100000 in
theorem op_act2 (h : DataW.trod enc Try.prog W 0 sp held fuel 44 cs = some x) : ∃ (a : Ac) (kl : List Bool), cs = a.cells ∧ KB W a.ka a.kn kl ∧ (-9223372036854775808 ≤ a.nm ∧ a.nm ≤ 9223372036854775807) ∧ (0 ≤ a.fill ∧ a.fill ≤ 255) ∧ -9223372036854775808 ≤ a.less ∧ a.less ≤ 9223372036854775807 := by
  obtain ⟨xs, m, _, rfl, hl, hxs, hel⟩ := DataW.trod_struct Try.underlying44 h
  have hxs : xs.length = 9 := hxs
  rw [Try.c45] at hl
  obtain ⟨v0, v1, v2, v3, v4, v5, v6, v7, v8, rfl⟩ := nine hl
  have g : ∀ i, (h : i < 9) → xs[i]? = some (xs[i]'(by omega)) := fun i h => List.getElem?_eq_getElem (by omega)
  have e0 : DataW.trod enc Try.prog W 0 sp held m 3 [v0] = xs[0]? := hel 0 _ rfl
  have e1 : DataW.trod enc Try.prog W 0 sp held m 3 [v1] = xs[1]? := hel 1 _ rfl
  have e2 : DataW.trod enc Try.prog W 0 sp held m 3 [v2] = xs[2]? := hel 2 _ rfl
  have e3 : DataW.trod enc Try.prog W 0 sp held m 5 [v3] = xs[3]? := hel 3 _ rfl
  have e4 : DataW.trod enc Try.prog W 0 sp held m 3 [v4] = xs[4]? := hel 4 _ rfl
  have e5 : DataW.trod enc Try.prog W 0 sp held m 3 [v5] = xs[5]? := hel 5 _ rfl
  have e6 : DataW.trod enc Try.prog W 0 sp held m 5 [v6] = xs[6]? := hel 6 _ rfl
  have e7 : DataW.trod enc Try.prog W 0 sp held m 42 [v7] = xs[7]? := hel 7 _ rfl
  have e8 : DataW.trod enc Try.prog W 0 sp held m 3 [v8] = xs[8]? := hel 8 _ rfl
  rw [g 0 (by omega)] at e0
  rw [g 1 (by omega)] at e1
  rw [g 2 (by omega)] at e2
  rw [g 3 (by omega)] at e3
  rw [g 4 (by omega)] at e4
  rw [g 5 (by omega)] at e5
  rw [g 6 (by omega)] at e6
  rw [g 7 (by omega)] at e7
  rw [g 8 (by omega)] at e8
  obtain ⟨n0, c0, _, _⟩ := DataW.trod_int Try.underlying3 e0
  obtain ⟨n1, c1, _, _⟩ := DataW.trod_int Try.underlying3 e1
  obtain ⟨n2, c2, _, w2⟩ := DataW.trod_int Try.underlying3 e2
  obtain ⟨n3, c3, _, w3⟩ := DataW.trod_int Try.underlying5 e3
  obtain ⟨n4, c4, _, w4⟩ := DataW.trod_int Try.underlying3 e4
  obtain ⟨n5, c5, _, _⟩ := DataW.trod_int Try.underlying3 e5
  obtain ⟨n6, c6, _, _⟩ := DataW.trod_int Try.underlying5 e6
  obtain ⟨ka, kn, kc, kl, c7, hkb⟩ := op_kb e7
  obtain ⟨n8, c8, _, _⟩ := DataW.trod_int Try.underlying3 e8
  refine ⟨⟨n0, n1, n2, n3, n4, n5, n6, ka, kn, kc, n8⟩, kl, ?_, hkb, bounds_i64 w2, bounds_u8 w3, bounds_i64 w4⟩
  simp only [List.cons.injEq, and_true] at c0 c1 c2 c3 c4 c5 c6 c7 c8
  rw [c0, c1, c2, c3, c4, c5, c6, c7, c8]
  rfl

theorem op_acts2 (h : DataW.trod enc Try.prog W 0 sp held fuel 23 cs = some x) : ∃ (a : Option Addr) (N c : Nat) (ac : Nat → Ac) (kls : Nat → List Bool), cs = [.slice a N c] ∧ Acs W a N ac ∧ (∀ i, i < N → KB W (ac i).ka (ac i).kn (kls i)) ∧ (∀ i, i < N → -9223372036854775808 ≤ (ac i).less ∧ (ac i).less ≤ 9223372036854775807) ∧ (N = 0 ∨ ∃ elems spare, x.1 = .slice elems spare ∧ elems.length = N) := by
  rcases Go.Deep.open_slice Try.underlying23 h with ⟨rfl, rfl⟩ | ⟨a, len, cap, m, n, D, Pl, rfl, _, hl, hcap, hm, rfl, hc⟩
  · exact ⟨_, _, _, fun _ => ⟨0, 0, 0, 0, 0, 0, 0, none, 0, 0, 0⟩, fun _ => [], rfl, ⟨fun i hi => by omega, fun i hi => by omega, fun i hi => by omega⟩, fun i hi => by omega, fun i hi => by omega, .inl rfl⟩
  · have hlm : len ≤ m := by rw [hm]; split <;> omega
    have at_ : ∀ i, i < len → ∃ (b : Ac × List Bool), (∀ j v, b.1.cells[j]? = some v → W.cell? ((a.add (i * 9)).add j) = some v) ∧ KB W b.1.ka b.1.kn b.2 ∧ (-9223372036854775808 ≤ b.1.nm ∧ b.1.nm ≤ 9223372036854775807) ∧ (0 ≤ b.1.fill ∧ b.1.fill ≤ 255) ∧ -9223372036854775808 ≤ b.1.less ∧ b.1.less ≤ 9223372036854775807 := fun i hi => by
      obtain ⟨cs', h1, h2⟩ := hc i (by omega)
      rw [Try.c45] at h1
      obtain ⟨b, kl, rfl, h3⟩ := op_act2 h2
      obtain ⟨_, h4, h5⟩ := World.cells?_some h1
      refine ⟨(b, kl), fun j v hv => ?_, h3⟩
      have hj : j < 9 := (List.getElem?_eq_some_iff.1 hv).1
      rw [h5 j hj]
      exact hv
    have spot : 0 < len → a.spot = none := by
      intro h0
      obtain ⟨b, h5, _⟩ := at_ 0 h0
      have := h5 0 _ rfl
      simpa [Addr.add] using World.cell?_spot this
    let dflt : Ac × List Bool := (⟨0, 0, 0, 0, 0, 0, 0, none, 0, 0, 0⟩, [])
    let F : Nat → Ac × List Bool := fun i => if h : i < len then Classical.choose (at_ i h) else dflt
    have hF : ∀ i, (h : i < len) → F i = Classical.choose (at_ i h) := fun i h => by show (if h : i < len then _ else _) = _; rw [dif_pos h]
    refine ⟨_, _, _, fun i => (F i).1, fun i => (F i).2, rfl, ⟨fun i hi => ?_, fun i hi => ?_, fun i hi => ?_⟩, fun i hi => ?_, fun i hi => ?_, .inr ⟨_, _, rfl, by simp⟩⟩
    · have hs := spot (by omega)
      have h9 := (Classical.choose_spec (at_ i hi)).1
      rw [← hF i hi] at h9
      obtain ⟨g, o, s⟩ := a
      simp only at hs
      subst hs
      refine ⟨g, o, rfl, fun j v hv => ?_⟩
      have := h9 j v hv
      rw [addr_add, addr_add] at this
      exact this
    · have h9 := (Classical.choose_spec (at_ i hi)).2.2.1
      rw [← hF i hi] at h9
      exact h9
    · have h9 := (Classical.choose_spec (at_ i hi)).2.2.2.1
      rw [← hF i hi] at h9
      exact h9
    · have h9 := (Classical.choose_spec (at_ i hi)).2.1
      rw [← hF i hi] at h9
      exact h9
    · have h9 := (Classical.choose_spec (at_ i hi)).2.2.2.2
      rw [← hF i hi] at h9
      exact h9
end
end Go.Proofs.Ytddnecfnjnipjaa
