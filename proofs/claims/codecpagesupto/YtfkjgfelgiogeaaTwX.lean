/-
  What is read without a fault is read so whatever goes on behind it.
-/
import Derived.Test.YtfkjgfelgiogeaaTwN
namespace Go.Proofs.Ytfkjgfelgiogeaa
open Go.RowKit

section
variable {P : List Int} (R : List Int)
theorem drop_ext {a : Nat} (h : a ≤ P.length) : (P ++ R).drop a = P.drop a ++ R := List.drop_append_of_le_length h
theorem uint_ext {a : Nat} (ha : a ≤ P.length) {e : Int} {m : Nat} (h : (uintS P a e m).2.2 = 0) : uintS (P ++ R) a e m = uintS P a e m ∧ (uintS P a e m).2.1 ≤ P.length := by
  by_cases he : e = 0
  · subst he
    obtain ⟨e', n, u, hg⟩ : ∃ e' n u, numG (P.drop a) 0 0 = (e', n, u) := ⟨_, _, _, rfl⟩
    by_cases h1 : e' = 0
    · subst h1
      obtain ⟨h2, h3⟩ := num_ext (P.drop a) R 0 0 n u hg
      have hg2 : numG ((P ++ R).drop a) 0 0 = (0, n, u) := by rw [drop_ext R ha]; exact h2
      by_cases h4 : m < n
      · rw [uintS_long hg h4] at h
        simp at h
      · rw [uintS_ok hg h4, uintS_ok hg2 h4]
        refine ⟨rfl, ?_⟩
        rw [List.length_drop] at h3
        show a + u ≤ P.length
        omega
    · rw [uintS_bad hg h1] at h
      exact absurd h h1
  · rw [uintS_err he] at h
    exact absurd h he
theorem p_ext {a : Nat} {e n : Int} (h : pE P a e n = 0) : pL (P ++ R) a e n = pL P a e n ∧ pA (P ++ R) a e n = pA P a e n ∧ pE (P ++ R) a e n = 0 ∧ pA P a e n ≤ P.length := by
  by_cases he : e = 0
  · subst he
    by_cases hc : 0 ≤ n ∧ n ≤ (P.length : Int) - a
    · have hc2 : 0 ≤ n ∧ n ≤ ((P ++ R).length : Int) - a := by simp; omega
      have q1 : (0 : Int) = 0 ∧ 0 ≤ n ∧ n ≤ (P.length : Int) - a := ⟨rfl, hc⟩
      have q2 : (0 : Int) = 0 ∧ 0 ≤ n ∧ n ≤ ((P ++ R).length : Int) - a := ⟨rfl, hc2⟩
      unfold pL pA pE
      rw [if_pos q2, if_pos q1, if_pos q2, if_pos q1, if_neg (fun x => x.2 hc2)]
      refine ⟨?_, rfl, rfl, by omega⟩
      rw [drop_ext R (by omega), List.take_append_of_le_length (by rw [List.length_drop]; omega)]
    · unfold pE at h
      rw [if_pos ⟨rfl, hc⟩] at h
      simp at h
  · have := (p_err (T := P) (a := a) (n := n) he).2.2
    rw [this] at h
    exact absurd h he
theorem text_ext {a : Nat} (ha : a ≤ P.length) {e : Int} {m : Nat} (h : (textS P a e m).2.2 = 0) : textS (P ++ R) a e m = textS P a e m ∧ (textS P a e m).2.1 ≤ P.length := by
  by_cases he : e = 0
  · subst he
    obtain ⟨e', n, u, hg⟩ : ∃ e' n u, numG (P.drop a) 0 0 = (e', n, u) := ⟨_, _, _, rfl⟩
    by_cases h1 : e' = 0
    · subst h1
      obtain ⟨h2, h3⟩ := num_ext (P.drop a) R 0 0 n u hg
      have hg2 : numG ((P ++ R).drop a) 0 0 = (0, n, u) := by rw [drop_ext R ha]; exact h2
      unfold textS at h ⊢
      rw [if_pos rfl, hg] at h
      rw [if_pos rfl, if_pos rfl, hg, hg2]
      simp only [if_true] at h ⊢
      by_cases h4 : (m : Int) < 0 ∨ (m : Int) < n
      · rw [if_pos h4] at h
        simp at h
      · rw [if_neg h4] at h
        rw [if_neg h4, if_neg h4]
        by_cases h5 : P.length < a + u + n
        · rw [if_pos h5] at h
          simp at h
        · rw [if_neg h5, if_neg (by simp; omega)]
          refine ⟨?_, by show a + u + n ≤ P.length; omega⟩
          rw [drop_ext R (by omega), List.take_append_of_le_length (by rw [List.length_drop]; omega)]
    · rw [textS_bad hg h1] at h
      exact absurd h h1
  · rw [textS_err he] at h
    exact absurd h he
theorem fail_zero {e c : Int} (hc : ¬ c = 0) (h : failE e c = 0) : False := by
  unfold failE at h
  split at h
  · exact hc h
  · next he => exact he h
theorem flag_ext {a : Nat} {e : Int} (h : (flagS P a e).2.2 = 0) : flagS (P ++ R) a e = flagS P a e ∧ (flagS P a e).2.1 ≤ P.length := by
  have h1 : pE P a e 1 = 0 := by
    unfold flagS at h
    simp only at h
    split at h
    · exact (fail_zero (by decide) h).elim
    · exact h
  obtain ⟨x1, x2, x3, x4⟩ := p_ext R h1
  unfold flagS
  rw [x1, x2, x3, h1]
  exact ⟨rfl, x4⟩
theorem level_ext {a : Nat} {e : Int} (h : (levelS P a e).2.2 = 0) : levelS (P ++ R) a e = levelS P a e ∧ (levelS P a e).2.1 ≤ P.length := by
  have h1 : pE P a e 1 = 0 := by
    unfold levelS at h
    simp only at h
    split at h
    · exact (fail_zero (by decide) h).elim
    · exact h
  obtain ⟨x1, x2, x3, x4⟩ := p_ext R h1
  unfold levelS
  rw [x1, x2, x3, h1]
  exact ⟨rfl, x4⟩
end

/-- What went wrong once stays so. -/
theorem uint_bad {T : List Int} {a : Nat} {e : Int} {m : Nat} (h : ¬ e = 0) : ¬ (uintS T a e m).2.2 = 0 := by rw [uintS_err h]; exact h
theorem text_bad {T : List Int} {a : Nat} {e : Int} {m : Int} (h : ¬ e = 0) : ¬ (textS T a e m).2.2 = 0 := by rw [textS_err h]; exact h
theorem p_bad2 {T : List Int} {a : Nat} {e n : Int} (h : ¬ e = 0) : ¬ pE T a e n = 0 := by rw [(p_err (T := T) (a := a) (n := n) h).2.2]; exact h
theorem level_bad {T : List Int} {a : Nat} {e : Int} (h : ¬ e = 0) : ¬ (levelS T a e).2.2 = 0 := fun h2 => by
  unfold levelS at h2
  simp only at h2
  split at h2
  · exact fail_zero (by decide) h2
  · exact p_bad2 h h2
theorem flag_bad {T : List Int} {a : Nat} {e : Int} (h : ¬ e = 0) : ¬ (flagS T a e).2.2 = 0 := fun h2 => by
  unfold flagS at h2
  simp only at h2
  split at h2
  · exact fail_zero (by decide) h2
  · exact p_bad2 h h2

theorem kid_ext {P : List Int} (R : List Int) {a : Nat} {e : Int} (h : (kidS P a e).err = 0) : kidS (P ++ R) a e = kidS P a e ∧ (kidS P a e).at_ ≤ P.length := by
  unfold kidS limbS at h
  simp only at h
  have h5 := h
  have h4 : pE P (uintS P (textS P (levelS P a e).2.1 (levelS P a e).2.2 1024).2.1 (textS P (levelS P a e).2.1 (levelS P a e).2.2 1024).2.2 maxN).2.1 (uintS P (textS P (levelS P a e).2.1 (levelS P a e).2.2 1024).2.1 (textS P (levelS P a e).2.1 (levelS P a e).2.2 1024).2.2 maxN).2.2 33 = 0 := Classical.byContradiction fun x => p_bad2 x h5
  have h3 : (uintS P (textS P (levelS P a e).2.1 (levelS P a e).2.2 1024).2.1 (textS P (levelS P a e).2.1 (levelS P a e).2.2 1024).2.2 maxN).2.2 = 0 := Classical.byContradiction fun x => p_bad2 x h4
  have h2 : (textS P (levelS P a e).2.1 (levelS P a e).2.2 1024).2.2 = 0 := Classical.byContradiction fun x => uint_bad x h3
  have h1 : (levelS P a e).2.2 = 0 := Classical.byContradiction fun x => text_bad x h2
  obtain ⟨a1, b1⟩ := level_ext R h1
  obtain ⟨a2, b2⟩ := text_ext R b1 (m := 1024) h2
  have b2' : (textS P (levelS P a e).2.1 (levelS P a e).2.2 1024).2.1 ≤ P.length := b2
  obtain ⟨a3, b3⟩ := uint_ext R b2' h3
  obtain ⟨x1, x2, x3, x4⟩ := p_ext R h4
  obtain ⟨y1, y2, y3, y4⟩ := p_ext R h5
  unfold kidS limbS
  have a2' : textS (P ++ R) (levelS P a e).2.1 (levelS P a e).2.2 1024 = textS P (levelS P a e).2.1 (levelS P a e).2.2 1024 := a2
  simp only [a1, a2', a3, x1, x2, x3, h4]
  rw [h4] at y1 y2 y3 y4 h5
  simp only [y1, y2, y3, h5]
  exact ⟨trivial, y4⟩
theorem many_ext {P : List Int} (R : List Int) : ∀ (n a : Nat) (e : Int), a ≤ P.length → (manyS P n a e).2.2 = 0 → manyS (P ++ R) n a e = manyS P n a e ∧ (manyS P n a e).2.1 ≤ P.length
  | 0, a, e, ha, _ => ⟨rfl, ha⟩
  | n + 1, a, e, ha, h => by
    by_cases he : e = 0
    · subst he
      rw [manyS_step] at h
      have hk : (kidS P a 0).err = 0 := Classical.byContradiction fun x => by
        simp only [manyS_err x] at h
        exact x h
      obtain ⟨k1, k2⟩ := kid_ext R hk
      obtain ⟨m1, m2⟩ := many_ext R n (kidS P a 0).at_ (kidS P a 0).err k2 h
      rw [manyS_step, manyS_step, k1, m1]
      exact ⟨rfl, m2⟩
    · rw [manyS_err he] at h
      exact absurd h he
theorem own_ext {P : List Int} (R : List Int) {a : Nat} (ha : a ≤ P.length) {e : Int} {hd : Bool} (h : (ownS P a e hd).2.2.2 = 0) : ownS (P ++ R) a e hd = ownS P a e hd ∧ (ownS P a e hd).2.2.1 ≤ P.length := by
  cases hd with
  | true => exact ⟨rfl, ha⟩
  | false =>
    unfold ownS at h ⊢
    simp only [Bool.false_eq_true, if_false] at h ⊢
    have h2 : (textS P a e 1024).2.2 = 0 := Classical.byContradiction fun x => p_bad2 x h
    obtain ⟨a2, b2⟩ := text_ext R ha (m := 1024) h2
    have a2' : textS (P ++ R) a e 1024 = textS P a e 1024 := a2
    obtain ⟨x1, x2, x3, x4⟩ := p_ext R h
    rw [a2', x1, x2, x3, h]
    exact ⟨rfl, x4⟩
theorem own_bad {T : List Int} {a : Nat} {e : Int} {hd : Bool} (h : ¬ e = 0) : ¬ (ownS T a e hd).2.2.2 = 0 := by
  cases hd with
  | true => exact h
  | false =>
    unfold ownS
    simp only [Bool.false_eq_true, if_false]
    exact p_bad2 (text_bad h)
theorem many_bad {T : List Int} {n a : Nat} {e : Int} (h : ¬ e = 0) : ¬ (manyS T n a e).2.2 = 0 := by rw [manyS_err h]; exact h
theorem tower_ext {P : List Int} (R : List Int) (h : (towerS P 0 0).err = 0) : towerS (P ++ R) 0 0 = towerS P 0 0 ∧ (towerS P 0 0).at_ ≤ P.length := by
  unfold towerS at h
  simp only at h
  have h3 := Classical.byContradiction fun x => many_bad x h
  have h2 := Classical.byContradiction fun x => uint_bad x h3
  have h1 := Classical.byContradiction fun x => own_bad x h2
  obtain ⟨a1, b1⟩ := flag_ext R h1
  obtain ⟨a2, b2⟩ := own_ext R b1 h2
  obtain ⟨a3, b3⟩ := uint_ext R b2 h3
  obtain ⟨a4, b4⟩ := many_ext R _ _ _ b3 h
  unfold towerS
  simp only [a1, a2, a3, a4]
  exact ⟨trivial, b4⟩

/-- Nothing less, and nothing more, is taken. -/
theorem tower_cut {T : Tw} (h : TwFit T) {m : Nat} (hm : m < T.bytes.length) : ¬ endE (T.bytes.take m) (towerS (T.bytes.take m) 0 0).at_ (towerS (T.bytes.take m) 0 0).err = 0 := fun e => by
  have he : (towerS (T.bytes.take m) 0 0).err = 0 := Classical.byContradiction fun x => by
    rw [endE_err x] at e
    exact x e
  obtain ⟨h1, h2⟩ := tower_ext (T.bytes.drop m) he
  rw [List.take_append_drop] at h1
  have h3 := tower_back (R := []) h
  rw [List.append_nil, h1] at h3
  have h4 := h3.2.2.2.2.1
  rw [List.length_take] at h2
  omega
theorem tower_more {T : Tw} (h : TwFit T) (x : Int) : endE (T.bytes ++ [x]) (towerS (T.bytes ++ [x]) 0 0).at_ (towerS (T.bytes ++ [x]) 0 0).err = 23 := by
  obtain ⟨_, _, _, _, h5, h6⟩ := tower_back (R := [x]) h
  rw [h5, h6]
  exact endE_yes (by simp)
theorem tower_all {T : Tw} (h : TwFit T) : endE T.bytes (towerS T.bytes 0 0).at_ (towerS T.bytes 0 0).err = 0 := by
  have h3 := tower_back (R := []) h
  rw [List.append_nil] at h3
  rw [h3.2.2.2.2.1, h3.2.2.2.2.2]
  exact endE_no (by omega)
end Go.Proofs.Ytfkjgfelgiogeaa
