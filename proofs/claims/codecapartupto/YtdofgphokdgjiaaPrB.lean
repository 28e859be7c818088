import Derived.Test.YtdofgphokdgjiaaTwN
import Derived.Test.YtdofgphokdgjiaaPrP
/-
  What is read without a fault is read so whatever goes on behind it.
-/
namespace Go.Proofs.Ytdofgphokdgjiaa
open Go.RowKit

section
variable {P : List Int} (R : List Int)
theorem drop_ext {a : Nat} (h : a ≤ P.length) : (P ++ R).drop a = P.drop a ++ R := List.drop_append_of_le_length h
theorem uint_ext {a : Nat} (ha : a ≤ P.length) {e : Int} {m : Nat} (h : (uintS P a e m).2.2 = 0) : uintS (P ++ R) a e m = uintS P a e m ∧ (uintS P a e m).2.1 ≤ P.length := by
  by_cases he : e = 0
  · subst he
    obtain ⟨e', n, u, hg⟩ : ∃ e' n u, numG (P.drop a) 0 0 = (e', n, u) := ⟨_, _, _, rfl⟩
    by_cases h1 : e' = 0
    · subst h1
      obtain ⟨h2, h3⟩ := num_ext (P.drop a) R 0 0 n u hg
      have hg2 : numG ((P ++ R).drop a) 0 0 = (0, n, u) := by rw [drop_ext R ha]; exact h2
      by_cases h4 : m < n
      · rw [uintS_long hg h4] at h
        simp at h
      · rw [uintS_ok hg h4, uintS_ok hg2 h4]
        refine ⟨rfl, ?_⟩
        rw [List.length_drop] at h3
        show a + u ≤ P.length
        omega
    · rw [uintS_bad hg h1] at h
      exact absurd h h1
  · rw [uintS_err he] at h
    exact absurd h he
theorem p_ext {a : Nat} {e n : Int} (h : pE P a e n = 0) : pL (P ++ R) a e n = pL P a e n ∧ pA (P ++ R) a e n = pA P a e n ∧ pE (P ++ R) a e n = 0 ∧ pA P a e n ≤ P.length := by
  by_cases he : e = 0
  · subst he
    by_cases hc : 0 ≤ n ∧ n ≤ (P.length : Int) - a
    · have hc2 : 0 ≤ n ∧ n ≤ ((P ++ R).length : Int) - a := by simp; omega
      have q1 : (0 : Int) = 0 ∧ 0 ≤ n ∧ n ≤ (P.length : Int) - a := ⟨rfl, hc⟩
      have q2 : (0 : Int) = 0 ∧ 0 ≤ n ∧ n ≤ ((P ++ R).length : Int) - a := ⟨rfl, hc2⟩
      unfold pL pA pE
      rw [if_pos q2, if_pos q1, if_pos q2, if_pos q1, if_neg (fun x => x.2 hc2)]
      refine ⟨?_, rfl, rfl, by omega⟩
      rw [drop_ext R (by omega), List.take_append_of_le_length (by rw [List.length_drop]; omega)]
    · unfold pE at h
      rw [if_pos ⟨rfl, hc⟩] at h
      simp at h
  · have := (p_err (T := P) (a := a) (n := n) he).2.2
    rw [this] at h
    exact absurd h he
theorem text_ext {a : Nat} (ha : a ≤ P.length) {e : Int} {m : Nat} (h : (textS P a e m).2.2 = 0) : textS (P ++ R) a e m = textS P a e m ∧ (textS P a e m).2.1 ≤ P.length := by
  by_cases he : e = 0
  · subst he
    obtain ⟨e', n, u, hg⟩ : ∃ e' n u, numG (P.drop a) 0 0 = (e', n, u) := ⟨_, _, _, rfl⟩
    by_cases h1 : e' = 0
    · subst h1
      obtain ⟨h2, h3⟩ := num_ext (P.drop a) R 0 0 n u hg
      have hg2 : numG ((P ++ R).drop a) 0 0 = (0, n, u) := by rw [drop_ext R ha]; exact h2
      unfold textS at h ⊢
      rw [if_pos rfl, hg] at h
      rw [if_pos rfl, if_pos rfl, hg, hg2]
      simp only [if_true] at h ⊢
      by_cases h4 : (m : Int) < 0 ∨ (m : Int) < n
      · rw [if_pos h4] at h
        simp at h
      · rw [if_neg h4] at h
        rw [if_neg h4, if_neg h4]
        by_cases h5 : P.length < a + u + n
        · rw [if_pos h5] at h
          simp at h
        · rw [if_neg h5, if_neg (by simp; omega)]
          refine ⟨?_, by show a + u + n ≤ P.length; omega⟩
          rw [drop_ext R (by omega), List.take_append_of_le_length (by rw [List.length_drop]; omega)]
    · rw [textS_bad hg h1] at h
      exact absurd h h1
  · rw [textS_err he] at h
    exact absurd h he
theorem fail_zero {e c : Int} (hc : ¬ c = 0) (h : failE e c = 0) : False := by
  unfold failE at h
  split at h
  · exact hc h
  · next he => exact he h
theorem flag_ext {a : Nat} {e : Int} (h : (flagS P a e).2.2 = 0) : flagS (P ++ R) a e = flagS P a e ∧ (flagS P a e).2.1 ≤ P.length := by
  have h1 : pE P a e 1 = 0 := by
    unfold flagS at h
    simp only at h
    split at h
    · exact (fail_zero (by decide) h).elim
    · exact h
  obtain ⟨x1, x2, x3, x4⟩ := p_ext R h1
  unfold flagS
  rw [x1, x2, x3, h1]
  exact ⟨rfl, x4⟩
theorem level_ext {a : Nat} {e : Int} (h : (levelS P a e).2.2 = 0) : levelS (P ++ R) a e = levelS P a e ∧ (levelS P a e).2.1 ≤ P.length := by
  have h1 : pE P a e 1 = 0 := by
    unfold levelS at h
    simp only at h
    split at h
    · exact (fail_zero (by decide) h).elim
    · exact h
  obtain ⟨x1, x2, x3, x4⟩ := p_ext R h1
  unfold levelS
  rw [x1, x2, x3, h1]
  exact ⟨rfl, x4⟩
end

/-- What went wrong once stays so. -/
theorem uint_bad {T : List Int} {a : Nat} {e : Int} {m : Nat} (h : ¬ e = 0) : ¬ (uintS T a e m).2.2 = 0 := by rw [uintS_err h]; exact h
theorem text_bad {T : List Int} {a : Nat} {e : Int} {m : Int} (h : ¬ e = 0) : ¬ (textS T a e m).2.2 = 0 := by rw [textS_err h]; exact h
theorem p_bad2 {T : List Int} {a : Nat} {e n : Int} (h : ¬ e = 0) : ¬ pE T a e n = 0 := by rw [(p_err (T := T) (a := a) (n := n) h).2.2]; exact h
theorem level_bad {T : List Int} {a : Nat} {e : Int} (h : ¬ e = 0) : ¬ (levelS T a e).2.2 = 0 := fun h2 => by
  unfold levelS at h2
  simp only at h2
  split at h2
  · exact fail_zero (by decide) h2
  · exact p_bad2 h h2
theorem flag_bad {T : List Int} {a : Nat} {e : Int} (h : ¬ e = 0) : ¬ (flagS T a e).2.2 = 0 := fun h2 => by
  unfold flagS at h2
  simp only at h2
  split at h2
  · exact fail_zero (by decide) h2
  · exact p_bad2 h h2

theorem kid_ext {P : List Int} (R : List Int) {a : Nat} {e : Int} (h : (kidS P a e).err = 0) : kidS (P ++ R) a e = kidS P a e ∧ (kidS P a e).at_ ≤ P.length := by
  unfold kidS limbS at h
  simp only at h
  have h5 := h
  have h4 : pE P (uintS P (textS P (levelS P a e).2.1 (levelS P a e).2.2 1024).2.1 (textS P (levelS P a e).2.1 (levelS P a e).2.2 1024).2.2 maxN).2.1 (uintS P (textS P (levelS P a e).2.1 (levelS P a e).2.2 1024).2.1 (textS P (levelS P a e).2.1 (levelS P a e).2.2 1024).2.2 maxN).2.2 33 = 0 := Classical.byContradiction fun x => p_bad2 x h5
  have h3 : (uintS P (textS P (levelS P a e).2.1 (levelS P a e).2.2 1024).2.1 (textS P (levelS P a e).2.1 (levelS P a e).2.2 1024).2.2 maxN).2.2 = 0 := Classical.byContradiction fun x => p_bad2 x h4
  have h2 : (textS P (levelS P a e).2.1 (levelS P a e).2.2 1024).2.2 = 0 := Classical.byContradiction fun x => uint_bad x h3
  have h1 : (levelS P a e).2.2 = 0 := Classical.byContradiction fun x => text_bad x h2
  obtain ⟨a1, b1⟩ := level_ext R h1
  obtain ⟨a2, b2⟩ := text_ext R b1 (m := 1024) h2
  have b2' : (textS P (levelS P a e).2.1 (levelS P a e).2.2 1024).2.1 ≤ P.length := b2
  obtain ⟨a3, b3⟩ := uint_ext R b2' h3
  obtain ⟨x1, x2, x3, x4⟩ := p_ext R h4
  obtain ⟨y1, y2, y3, y4⟩ := p_ext R h5
  unfold kidS limbS
  have a2' : textS (P ++ R) (levelS P a e).2.1 (levelS P a e).2.2 1024 = textS P (levelS P a e).2.1 (levelS P a e).2.2 1024 := a2
  simp only [a1, a2', a3, x1, x2, x3, h4]
  rw [h4] at y1 y2 y3 y4 h5
  simp only [y1, y2, y3, h5]
  exact ⟨trivial, y4⟩
theorem many_ext {P : List Int} (R : List Int) : ∀ (n a : Nat) (e : Int), a ≤ P.length → (manyS P n a e).2.2 = 0 → manyS (P ++ R) n a e = manyS P n a e ∧ (manyS P n a e).2.1 ≤ P.length
  | 0, a, e, ha, _ => ⟨rfl, ha⟩
  | n + 1, a, e, ha, h => by
    by_cases he : e = 0
    · subst he
      rw [manyS_step] at h
      have hk : (kidS P a 0).err = 0 := Classical.byContradiction fun x => by
        simp only [manyS_err x] at h
        exact x h
      obtain ⟨k1, k2⟩ := kid_ext R hk
      obtain ⟨m1, m2⟩ := many_ext R n (kidS P a 0).at_ (kidS P a 0).err k2 h
      rw [manyS_step, manyS_step, k1, m1]
      exact ⟨rfl, m2⟩
    · rw [manyS_err he] at h
      exact absurd h he
theorem own_ext {P : List Int} (R : List Int) {a : Nat} (ha : a ≤ P.length) {e : Int} {hd : Bool} (h : (ownS P a e hd).2.2.2 = 0) : ownS (P ++ R) a e hd = ownS P a e hd ∧ (ownS P a e hd).2.2.1 ≤ P.length := by
  cases hd with
  | true => exact ⟨rfl, ha⟩
  | false =>
    unfold ownS at h ⊢
    simp only [Bool.false_eq_true, if_false] at h ⊢
    have h2 : (textS P a e 1024).2.2 = 0 := Classical.byContradiction fun x => p_bad2 x h
    obtain ⟨a2, b2⟩ := text_ext R ha (m := 1024) h2
    have a2' : textS (P ++ R) a e 1024 = textS P a e 1024 := a2
    obtain ⟨x1, x2, x3, x4⟩ := p_ext R h
    rw [a2', x1, x2, x3, h]
    exact ⟨rfl, x4⟩
theorem own_bad {T : List Int} {a : Nat} {e : Int} {hd : Bool} (h : ¬ e = 0) : ¬ (ownS T a e hd).2.2.2 = 0 := by
  cases hd with
  | true => exact h
  | false =>
    unfold ownS
    simp only [Bool.false_eq_true, if_false]
    exact p_bad2 (text_bad h)
theorem many_bad {T : List Int} {n a : Nat} {e : Int} (h : ¬ e = 0) : ¬ (manyS T n a e).2.2 = 0 := by rw [manyS_err h]; exact h
theorem tower_ext {P : List Int} (R : List Int) (h : (towerS P 0 0).err = 0) : towerS (P ++ R) 0 0 = towerS P 0 0 ∧ (towerS P 0 0).at_ ≤ P.length := by
  unfold towerS at h
  simp only at h
  have h3 := Classical.byContradiction fun x => many_bad x h
  have h2 := Classical.byContradiction fun x => uint_bad x h3
  have h1 := Classical.byContradiction fun x => own_bad x h2
  obtain ⟨a1, b1⟩ := flag_ext R h1
  obtain ⟨a2, b2⟩ := own_ext R b1 h2
  obtain ⟨a3, b3⟩ := uint_ext R b2 h3
  obtain ⟨a4, b4⟩ := many_ext R _ _ _ b3 h
  unfold towerS
  simp only [a1, a2, a3, a4]
  exact ⟨trivial, b4⟩

/-- Nothing less, and nothing more, is taken. -/
theorem tower_cut {T : Tw} (h : TwFit T) {m : Nat} (hm : m < T.bytes.length) : ¬ endE (T.bytes.take m) (towerS (T.bytes.take m) 0 0).at_ (towerS (T.bytes.take m) 0 0).err = 0 := fun e => by
  have he : (towerS (T.bytes.take m) 0 0).err = 0 := Classical.byContradiction fun x => by
    rw [endE_err x] at e
    exact x e
  obtain ⟨h1, h2⟩ := tower_ext (T.bytes.drop m) he
  rw [List.take_append_drop] at h1
  have h3 := tower_back (R := []) h
  rw [List.append_nil, h1] at h3
  have h4 := h3.2.2.2.2.1
  rw [List.length_take] at h2
  omega
theorem tower_more {T : Tw} (h : TwFit T) (x : Int) : endE (T.bytes ++ [x]) (towerS (T.bytes ++ [x]) 0 0).at_ (towerS (T.bytes ++ [x]) 0 0).err = 23 := by
  obtain ⟨_, _, _, _, h5, h6⟩ := tower_back (R := [x]) h
  rw [h5, h6]
  exact endE_yes (by simp)
theorem tower_all {T : Tw} (h : TwFit T) : endE T.bytes (towerS T.bytes 0 0).at_ (towerS T.bytes 0 0).err = 0 := by
  have h3 := tower_back (R := []) h
  rw [List.append_nil] at h3
  rw [h3.2.2.2.2.1, h3.2.2.2.2.2]
  exact endE_no (by omega)
end Go.Proofs.Ytdofgphokdgjiaa

/-
  Proofs: what is read without a fault to the end is just what would be written.
-/
namespace Go.Proofs.Ytdofgphokdgjiaa
open Go.RowKit

theorem numG_back : ∀ (l : List Int) (k acc n u : Nat), Byts l → numG l k acc = (0, n, u) → ∃ (m : Nat) (r : List Int), n = acc + m * 128 ^ k ∧ l = numB m ++ r ∧ u = k + (numB m).length ∧ (0 < k → 0 < m) := by
  intro l
  induction l with
  | nil => intro k acc n u _ h; rw [numG_nil] at h; simp at h
  | cons c l ih =>
    intro k acc n u hb h
    have hc := hb c (List.mem_cons_self ..)
    have hbl : Byts l := fun y hy => hb y (List.mem_cons_of_mem _ hy)
    rw [numG] at h
    split at h
    · simp at h
    · split at h
      · simp at h
      · next h1 h2 =>
        split at h
        · next h3 =>
          simp only [Prod.mk.injEq, true_and] at h
          obtain ⟨rfl, rfl⟩ := h
          have e : ((c.toNat : Nat) : Int) = c := by omega
          have e2 : numB c.toNat = [c] := by rw [numB, if_pos (by omega), e]
          refine ⟨c.toNat, l, ?_, by rw [e2]; rfl, by rw [e2]; rfl, fun hk => ?_⟩
          · have : (c % 128).toNat = c.toNat := by omega
            rw [this]
          · have : ¬ c = 0 := fun e => h2 ⟨hk, e⟩
            omega
        · next h3 =>
          obtain ⟨m, r, q1, q2, q3, q4⟩ := ih (k + 1) _ n u hbl h
          have m0 := q4 (by omega)
          have d : (c % 128).toNat < 128 := by omega
          have e : numB ((c % 128).toNat + 128 * m) = c :: numB m := by
            rw [numB, if_neg (by omega)]
            have x1 : ((c % 128).toNat + 128 * m) % 128 = (c % 128).toNat := by omega
            have x2 : ((c % 128).toNat + 128 * m) / 128 = m := by omega
            rw [x1, x2]
            congr 1
            omega
          refine ⟨(c % 128).toNat + 128 * m, r, ?_, by rw [e, q2]; rfl, by rw [e, q3, List.length_cons]; omega, fun _ => by omega⟩
          rw [q1, Nat.pow_succ, Nat.add_mul, Nat.add_assoc]
          congr 2
          rw [Nat.mul_comm 128 m, Nat.mul_assoc, Nat.mul_comm 128]
theorem drop_after {T A r : List Int} {a : Nat} (h : T.drop a = A ++ r) : T.drop (a + A.length) = r := by
  rw [← List.drop_drop, h, List.drop_left]
section
variable {T : List Int} (hb : Byts T)
include hb
theorem uint_form {a b m n : Nat} (h : uintS T a 0 m = (n, b, 0)) : T.drop a = numB n ++ T.drop b := by
  obtain ⟨e', n', u, hg⟩ : ∃ e' n u, numG (T.drop a) 0 0 = (e', n, u) := ⟨_, _, _, rfl⟩
  by_cases h1 : e' = 0
  · subst h1
    by_cases h2 : m < n'
    · rw [uintS_long hg h2] at h; simp at h
    · rw [uintS_ok hg h2] at h
      simp only [Prod.mk.injEq, and_true] at h
      obtain ⟨rfl, rfl⟩ := h
      obtain ⟨q, r, q1, q2, q3, _⟩ := numG_back _ 0 0 n' u (hb.drop a) hg
      have e : n' = q := by rw [q1]; simp
      rw [e, q2]
      congr 1
      rw [show u = (numB q).length by omega]
      exact (drop_after q2).symm
  · rw [uintS_bad hg h1] at h
    simp only [Prod.mk.injEq] at h
    exact absurd h.2.2 h1
theorem text_form {a b : Nat} {m : Int} {x : List Int} (h : textS T a 0 m = (x, b, 0)) : T.drop a = (numB x.length ++ x) ++ T.drop b := by
  obtain ⟨e', n', u, hg⟩ : ∃ e' n u, numG (T.drop a) 0 0 = (e', n, u) := ⟨_, _, _, rfl⟩
  unfold textS at h
  rw [if_pos rfl, hg] at h
  simp only at h
  split at h
  · next h1 =>
    subst h1
    split at h
    · simp at h
    · split at h
      · simp at h
      · next h3 =>
        simp only [Prod.mk.injEq, and_true] at h
        obtain ⟨rfl, rfl⟩ := h
        obtain ⟨q, r, q1, q2, q3, _⟩ := numG_back _ 0 0 n' u (hb.drop a) hg
        have e : n' = q := by rw [q1]; simp
        subst e
        have hu : u = (numB n').length := by omega
        have hd : T.drop (a + u) = r := by rw [hu]; exact drop_after q2
        have hl : ((T.drop (a + u)).take n').length = n' := by rw [List.length_take, List.length_drop]; omega
        rw [hl, q2, List.append_assoc]
        congr 1
        rw [← hd]
        have h9 := (List.take_append_drop n' (T.drop (a + u))).symm
        rw [List.drop_drop] at h9
        exact h9
  · next h1 =>
    simp only [Prod.mk.injEq] at h
    exact absurd h.2.2 h1
omit hb in
theorem p_form {a : Nat} {n : Int} (h : pE T a 0 n = 0) : T.drop a = pL T a 0 n ++ T.drop (pA T a 0 n) ∧ (pL T a 0 n).length = n.toNat := by
  by_cases hc : 0 ≤ n ∧ n ≤ (T.length : Int) - a
  · unfold pL pA
    rw [if_pos ⟨rfl, hc⟩, if_pos ⟨rfl, hc⟩, ← List.drop_drop, List.take_append_drop]
    refine ⟨rfl, ?_⟩
    rw [List.length_take, List.length_drop]
    omega
  · unfold pE at h
    rw [if_pos ⟨rfl, hc⟩] at h
    simp at h
theorem byte_form {a : Nat} (h : pE T a 0 1 = 0) : T.drop a = [((lowN (pL T a 0 1) : Nat) : Int)] ++ T.drop (pA T a 0 1) := by
  obtain ⟨h1, h2⟩ := p_form h
  have hl : (pL T a 0 1).length = 1 := h2
  obtain ⟨c, hc⟩ : ∃ c, pL T a 0 1 = [c] := List.length_eq_one_iff.1 hl
  have hm : c ∈ T.drop a := by rw [h1, hc]; simp
  have hcb := hb c (List.mem_of_mem_drop hm)
  have e : ((lowN [c] : Nat) : Int) = c := by simp [lowN]; omega
  rw [hc] at h1 ⊢
  rw [e]
  exact h1
end

/-- An op's bytes, out of what was read. -/
def OpS.nb (o : OpS) : List Int := [(o.lv : Int)] ++ (numB o.kl.length ++ o.kl) ++ numB o.ct
def OpS.bytes (o : OpS) : List Int :=
  [(o.ki : Int)] ++ (if o.ki = 1 then numB o.vl.length ++ o.vl else if o.ki = 2 then o.sm else if o.ki = 4 ∨ o.ki = 5 then o.nb ++ o.sm else if o.ki = 6 then o.nb else [])
theorem sum_form {T : List Int} {a : Nat} (h : pE T a 0 32 = 0) : T.drop a = pad 32 (pL T a 0 32) ++ T.drop (pA T a 0 32) := by
  obtain ⟨h1, h2⟩ := p_form h
  rw [pad_full (show (pL T a 0 32).length = 32 from h2)]
  exact h1
theorem nb_form {T : List Int} (hb : Byts T) {a : Nat} (h : (nbS T a 0).err = 0) : T.drop a = ([((nbS T a 0).lv : Int)] ++ (numB (nbS T a 0).kl.length ++ (nbS T a 0).kl) ++ numB (nbS T a 0).ct) ++ T.drop (nbS T a 0).at_ := by
  unfold nbS at h ⊢
  simp only at h ⊢
  obtain ⟨L, a1, e1, hL⟩ : ∃ L b c, levelS T a 0 = (L, b, c) := ⟨_, _, _, rfl⟩
  simp only [hL] at h ⊢
  obtain ⟨K, a2, e2, hK⟩ : ∃ L b c, textS T a1 e1 1024 = (L, b, c) := ⟨_, _, _, rfl⟩
  simp only [hK] at h ⊢
  obtain ⟨U, a3, e3, hU⟩ : ∃ L b c, uintS T a2 e2 maxN = (L, b, c) := ⟨_, _, _, rfl⟩
  simp only [hU] at h ⊢
  subst h
  have z2 : e2 = 0 := Classical.byContradiction fun x => uint_bad x (by rw [hU])
  subst z2
  have z1 : e1 = 0 := Classical.byContradiction fun x => text_bad x (by rw [hK])
  subst z1
  have q3 := uint_form hb hU
  have q2 := text_form hb hK
  have q1 : T.drop a = [(L : Int)] ++ T.drop a1 := by
    unfold levelS at hL
    simp only [Prod.mk.injEq] at hL
    obtain ⟨r1, r2, r3⟩ := hL
    have hp : pE T a 0 1 = 0 := by
      split at r3
      · exact (fail_zero (by decide) r3).elim
      · exact r3
    rw [← r1, ← r2]
    exact byte_form hb hp
  rw [q1, q2, q3]
  simp
theorem op_form {T : List Int} (hb : Byts T) {a : Nat} (h : (opS T a 0).err = 0) : T.drop a = (opS T a 0).bytes ++ T.drop (opS T a 0).at_ := by
  unfold opS at h ⊢
  simp only at h ⊢
  obtain ⟨K, hK⟩ : ∃ K, K = lowN (pL T a 0 1) := ⟨_, rfl⟩
  obtain ⟨a1, ha1⟩ : ∃ a1, a1 = pA T a 0 1 := ⟨_, rfl⟩
  obtain ⟨e1, he1⟩ : ∃ e1, e1 = pE T a 0 1 := ⟨_, rfl⟩
  have q0 : e1 = 0 → T.drop a = [(K : Int)] ++ T.drop a1 := fun e => by
    rw [hK, ha1]
    exact byte_form hb (by rw [← he1]; exact e)
  simp only [← hK, ← ha1, ← he1] at h ⊢
  clear hK ha1 he1
  split at h
  · next c1 =>
    subst c1
    rw [if_pos rfl]
    obtain ⟨x, a2, e2, hx⟩ : ∃ L b c, textS T a1 e1 65536 = (L, b, c) := ⟨_, _, _, rfl⟩
    simp only [hx] at h ⊢
    subst h
    have z1 : e1 = 0 := Classical.byContradiction fun y => text_bad y (by rw [hx])
    subst z1
    rw [q0 rfl, text_form hb hx]
    simp [OpS.bytes]
  · next c1 =>
    rw [if_neg c1]
    split at h
    · next c2 =>
      subst c2
      rw [if_pos rfl]
      have z1 : e1 = 0 := Classical.byContradiction fun y => p_bad2 y h
      subst z1
      rw [q0 rfl, sum_form h]
      simp [OpS.bytes]
    · next c2 =>
      rw [if_neg c2]
      split at h
      · next c3 =>
        subst c3
        rw [if_pos rfl]
        rw [q0 h]
        simp [OpS.bytes]
      · next c3 =>
        rw [if_neg c3]
        split at h
        · next c4 =>
          rw [if_pos c4]
          simp only at h
          have z2 : (nbS T a1 e1).err = 0 := Classical.byContradiction fun y => p_bad2 y h
          have z1 : e1 = 0 := Classical.byContradiction fun y => by
            unfold nbS at z2
            simp only at z2
            exact uint_bad (text_bad (level_bad y)) z2
          subst z1
          rw [z2] at h ⊢
          rw [q0 rfl, nb_form hb z2, sum_form h]
          simp [OpS.bytes, OpS.nb, c1, c2, c4]
        · next c4 =>
          rw [if_neg c4]
          split at h
          · next c6 =>
            subst c6
            rw [if_pos rfl]
            simp only at h
            have z1 : e1 = 0 := Classical.byContradiction fun y => by
              unfold nbS at h
              simp only at h
              exact uint_bad (text_bad (level_bad y)) h
            subst z1
            rw [q0 rfl, nb_form hb h]
            simp [OpS.bytes, OpS.nb]
          · exact (fail_zero (by decide) h).elim
theorem ops_form {T : List Int} (hb : Byts T) : ∀ (f a : Nat) (e : Int), (opsL T f a e).2.2 = 0 → T.length < a + f → T.drop a = ((opsL T f a e).1.map OpS.bytes).flatten ∧ T.length ≤ (opsL T f a e).2.1
  | 0, a, e, _, hf => by
    rw [List.drop_of_length_le (by omega)]
    exact ⟨rfl, by show T.length ≤ a; omega⟩
  | f + 1, a, e, h, hf => by
    by_cases hc : e = 0 ∧ a < T.length
    · obtain ⟨rfl, hal⟩ := hc
      rw [opsL_step hal] at h ⊢
      simp only at h ⊢
      have up := opS_up T a hal
      have ho : (opS T a 0).err = 0 := opsL_err h
      obtain ⟨i1, i2⟩ := ops_form hb f _ _ h (by omega)
      rw [op_form hb ho, i1]
      exact ⟨rfl, i2⟩
    · rw [opsL_stop hc] at h ⊢
      have : ¬ a < T.length := fun x => hc ⟨h, x⟩
      rw [List.drop_of_length_le (by omega)]
      exact ⟨rfl, by show T.length ≤ a; omega⟩
def proofB (S : PrS) : List Int := numB S.ct ++ (S.ops.map OpS.bytes).flatten
/-- One form: what is taken is just what would be written. -/
theorem proof_form {T : List Int} (hb : Byts T) (h : endE T (proofS T 0 0).at_ (proofS T 0 0).err = 0) : T = proofB (proofS T 0 0) := by
  have he : (proofS T 0 0).err = 0 := Classical.byContradiction fun x => by
    rw [endE_err x] at h
    exact x h
  unfold proofS at he ⊢
  obtain ⟨U, a1, e1, hU⟩ : ∃ L b c, uintS T 0 0 maxN = (L, b, c) := ⟨_, _, _, rfl⟩
  simp only [hU] at he ⊢
  split at he
  · next ok =>
    rw [if_pos ok]
    have z1 : e1 = 0 := opsL_err ok
    subst z1
    have q1 := uint_form hb hU
    obtain ⟨q2, _⟩ := ops_form hb (T.length + 1) a1 0 ok (by omega)
    rw [List.drop_zero] at q1
    rw [q2] at q1
    exact q1
  · next ok =>
    simp only at he
    unfold failE at he
    split at he
    · exact absurd he ok
    · next h1 => exact absurd he h1
end Go.Proofs.Ytdofgphokdgjiaa
