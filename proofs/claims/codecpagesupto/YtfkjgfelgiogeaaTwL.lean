/-
  Leaves and forks: what was written is read back; nothing less and nothing more is taken.
-/
import Derived.Test.YtfkjgfelgiogeaaTwX
import Derived.Test.YtfkjgfelgiogeaaWhole
namespace Go.Proofs.Ytfkjgfelgiogeaa
open Go.RowKit

theorem leaf_back {R : List Int} {n : Nat} {y : List Int} (hn : n ≤ 4611686018427387904) (hy : y.length = 32) : leafS ((numB n ++ y) ++ R) 0 0 = (n, y, (numB n ++ y).length, 0) := by
  have e1 : (numB n ++ y) ++ R = [] ++ numB n ++ (y ++ R) := by simp
  have e2 : (numB n ++ y) ++ R = numB n ++ y ++ R := rfl
  have hu : uintS ((numB n ++ y) ++ R) 0 0 maxN = (n, (numB n).length, 0) := by
    have h9 := uint_back (A := []) (R := y ++ R) n maxN hn (by omega)
    rw [← e1] at h9
    rw [show uintS ((numB n ++ y) ++ R) 0 0 maxN = _ from h9]
    simp
  obtain ⟨x1, x2, x3⟩ := p_back (A := numB n) (R := R) y
  rw [hy] at x1 x2 x3
  have x1' : pL ((numB n ++ y) ++ R) (numB n).length 0 32 = y := x1
  have x2' : pA ((numB n ++ y) ++ R) (numB n).length 0 32 = (numB n).length + 32 := x2
  have x3' : pE ((numB n ++ y) ++ R) (numB n).length 0 32 = 0 := x3
  unfold leafS
  simp only [hu, x1', x2', x3', pad_full hy]
  simp [hy]
theorem leaf_ext {P : List Int} (R : List Int) (h : (leafS P 0 0).2.2.2 = 0) : leafS (P ++ R) 0 0 = leafS P 0 0 ∧ (leafS P 0 0).2.2.1 ≤ P.length := by
  unfold leafS at h
  simp only at h
  have h2 : (uintS P 0 0 maxN).2.2 = 0 := Classical.byContradiction fun x => p_bad2 x h
  obtain ⟨a1, b1⟩ := uint_ext R (Nat.zero_le _) h2
  obtain ⟨x1, x2, x3, x4⟩ := p_ext R h
  unfold leafS
  rw [a1, x1, x2, x3, h]
  exact ⟨rfl, x4⟩
theorem leaf_cut {n : Nat} {y : List Int} (hn : n ≤ 4611686018427387904) (hy : y.length = 32) {m : Nat} (hm : m < (numB n ++ y).length) : ¬ leafE ((numB n ++ y).take m) = 0 := fun e => by
  unfold leafE at e
  have he : (leafS ((numB n ++ y).take m) 0 0).2.2.2 = 0 := Classical.byContradiction fun x => by
    rw [endE_err x] at e
    exact x e
  obtain ⟨h1, h2⟩ := leaf_ext ((numB n ++ y).drop m) he
  rw [List.take_append_drop] at h1
  have h3 := leaf_back (R := []) hn hy
  rw [List.append_nil] at h3
  rw [← h1, h3, List.length_take] at h2
  have h2 : (numB n ++ y).length ≤ min m (numB n ++ y).length := h2
  omega
theorem leaf_more {n : Nat} {y : List Int} (hn : n ≤ 4611686018427387904) (hy : y.length = 32) (x : Int) : leafE ((numB n ++ y) ++ [x]) = 23 := by
  unfold leafE
  rw [leaf_back (R := [x]) hn hy]
  exact endE_yes (by simp)
theorem leaf_all {n : Nat} {y : List Int} (hn : n ≤ 4611686018427387904) (hy : y.length = 32) : leafE (numB n ++ y) = 0 ∧ leafA (numB n ++ y) = leafC n y := by
  have h3 := leaf_back (R := []) hn hy
  rw [List.append_nil] at h3
  have h4 : leafE (numB n ++ y) = 0 := by
    unfold leafE
    rw [h3]
    exact endE_no (by simp)
  refine ⟨h4, ?_⟩
  unfold leafA
  rw [h4, h3]
  rfl

theorem fork_back {R f : List Int} (hf : f.length = 130) : forkS (f ++ R) 0 0 = (f, 130, 0) := by
  obtain ⟨x, y, x', y', rfl, hx, hy, hx', hy'⟩ : ∃ x y x' y', f = x ++ y ++ (x' ++ y') ∧ x.length = 33 ∧ y.length = 32 ∧ x'.length = 33 ∧ y'.length = 32 :=
    ⟨f.take 33, (f.drop 33).take 32, (f.drop 65).take 33, f.drop 98, by
      have e1 : f.drop 65 = (f.drop 65).take 33 ++ f.drop 98 := by
        have h9 := (List.take_append_drop 33 (f.drop 65)).symm
        rw [List.drop_drop] at h9
        exact h9
      have e2 : f.drop 33 = (f.drop 33).take 32 ++ f.drop 65 := by
        have h9 := (List.take_append_drop 32 (f.drop 33)).symm
        rw [List.drop_drop] at h9
        exact h9
      rw [List.append_assoc, ← e1, ← e2, List.take_append_drop], by simp; omega, by simp; omega, by simp; omega, by simp; omega⟩
  obtain ⟨a1, a2, a3⟩ := p_back (A := []) (R := y ++ (x' ++ y') ++ R) x
  obtain ⟨b1, b2, b3⟩ := p_back (A := x) (R := (x' ++ y') ++ R) y
  obtain ⟨c1, c2, c3⟩ := p_back (A := x ++ y) (R := y' ++ R) x'
  obtain ⟨d1, d2, d3⟩ := p_back (A := x ++ y ++ x') (R := R) y'
  have E1 : [] ++ x ++ (y ++ (x' ++ y') ++ R) = x ++ y ++ (x' ++ y') ++ R := by simp
  have E2 : x ++ y ++ ((x' ++ y') ++ R) = x ++ y ++ (x' ++ y') ++ R := by simp
  have E3 : x ++ y ++ x' ++ (y' ++ R) = x ++ y ++ (x' ++ y') ++ R := by simp
  have E4 : x ++ y ++ x' ++ y' ++ R = x ++ y ++ (x' ++ y') ++ R := by simp
  rw [E1, hx] at a1 a2 a3
  rw [E2, hx, hy] at b1 b2 b3
  rw [E3, hx'] at c1 c2 c3
  rw [E4, hy'] at d1 d2 d3
  have l2 : (x ++ y).length = 65 := by simp [hx, hy]
  have l3 : (x ++ y ++ x').length = 98 := by simp [hx, hy, hx']
  rw [l2] at c1 c2 c3
  rw [l3] at d1 d2 d3
  obtain ⟨F, hF⟩ : ∃ F, F = x ++ y ++ (x' ++ y') ++ R := ⟨_, rfl⟩
  rw [← hF] at a1 a2 a3 b1 b2 b3 c1 c2 c3 d1 d2 d3 ⊢
  have a1 : pL F 0 0 33 = x := a1
  have a2 : pA F 0 0 33 = 33 := a2
  have a3 : pE F 0 0 33 = 0 := a3
  have b1 : pL F 33 0 32 = y := b1
  have b2 : pA F 33 0 32 = 65 := b2
  have b3 : pE F 33 0 32 = 0 := b3
  have c1 : pL F 65 0 33 = x' := c1
  have c2 : pA F 65 0 33 = 98 := c2
  have c3 : pE F 65 0 33 = 0 := c3
  have d1 : pL F 98 0 32 = y' := d1
  have d2 : pA F 98 0 32 = 130 := d2
  have d3 : pE F 98 0 32 = 0 := d3
  unfold forkS limbS
  simp only [a1, a2, a3, b1, b2, b3, c1, c2, c3, d1, d2, d3, pad_full hx, pad_full hy, pad_full hx', pad_full hy']
theorem limb_ext {P : List Int} (R : List Int) {a : Nat} {e : Int} (h : (limbS P a e).2.2 = 0) : limbS (P ++ R) a e = limbS P a e ∧ (limbS P a e).2.1 ≤ P.length ∧ e = 0 := by
  unfold limbS at h
  simp only at h
  have h2 : pE P a e 33 = 0 := Classical.byContradiction fun x => p_bad2 x h
  have h3 : e = 0 := Classical.byContradiction fun x => p_bad2 x h2
  obtain ⟨x1, x2, x3, _⟩ := p_ext R h2
  obtain ⟨y1, y2, y3, y4⟩ := p_ext R h
  unfold limbS
  rw [h2] at y1 y2 y3 y4 h
  rw [x1, x2, x3, h2, y1, y2, y3, h]
  exact ⟨rfl, y4, h3⟩
theorem fork_ext {P : List Int} (R : List Int) (h : (forkS P 0 0).2.2 = 0) : forkS (P ++ R) 0 0 = forkS P 0 0 ∧ (forkS P 0 0).2.1 ≤ P.length := by
  unfold forkS at h
  simp only at h
  obtain ⟨a1, b1, c1⟩ := limb_ext R h
  obtain ⟨a2, b2, c2⟩ := limb_ext R (a := 0) (e := 0) c1
  unfold forkS
  rw [a2, a1]
  exact ⟨rfl, b1⟩
theorem fork_cut {f : List Int} (hf : f.length = 130) {m : Nat} (hm : m < 130) : ¬ forkE (f.take m) = 0 := fun e => by
  unfold forkE at e
  have he : (forkS (f.take m) 0 0).2.2 = 0 := Classical.byContradiction fun x => by
    rw [endE_err x] at e
    exact x e
  obtain ⟨h1, h2⟩ := fork_ext (f.drop m) he
  rw [List.take_append_drop] at h1
  have h3 := fork_back (R := []) hf
  rw [List.append_nil] at h3
  rw [← h1, h3, List.length_take] at h2
  have h2 : 130 ≤ min m f.length := h2
  omega
theorem fork_more {f : List Int} (hf : f.length = 130) (x : Int) : forkE (f ++ [x]) = 23 := by
  unfold forkE
  rw [fork_back (R := [x]) hf]
  exact endE_yes (by simp [hf])
theorem fork_all {f : List Int} (hf : f.length = 130) : forkE f = 0 ∧ forkA f = bs f := by
  have h3 := fork_back (R := []) hf
  rw [List.append_nil] at h3
  have h4 : forkE f = 0 := by
    unfold forkE
    rw [h3]
    exact endE_no (by simp [hf])
  refine ⟨h4, ?_⟩
  unfold forkA
  rw [h4, h3]
  rfl
end Go.Proofs.Ytfkjgfelgiogeaa
