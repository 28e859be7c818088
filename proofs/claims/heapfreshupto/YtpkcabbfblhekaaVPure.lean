/-
  Plain facts of these heaps.
-/
import Derived.Test.YtpkcabbfblhekaaVPush
import Derived.Test.YtpkcabbfblhekaaPure
namespace Go.Proofs.Ytpkcabbfblhekaa.V

theorem riseF_cost (od : E → E → Int) : ∀ (f i : Nat) (H : List E), (riseF od f i H).2 ≤ dg i
  | 0, _, _ => Nat.zero_le _
  | f + 1, i, H => by
    unfold riseF
    split
    · exact Nat.zero_le _
    · rename_i h0
      rw [dg_pos (by omega : 0 < i)]
      split
      · have h1 := riseF_cost od f ((i - 1) / 2) (sw H i ((i - 1) / 2))
        have h2 := dg_mono (by omega : (i - 1) / 2 ≤ i / 2)
        simp only
        omega
      · simp only; omega

theorem sinkF_cost (od : E → E → Int) : ∀ (f i : Nat) (H : List E), i < H.length → (sinkF od f i H).2 ≤ 2 * dg (H.length / (i + 1))
  | 0, _, _, _ => Nat.zero_le _
  | f + 1, i, H, hi => by
    rw [sinkF]
    split
    · exact Nat.zero_le _
    · rename_i h0
      have hk := kidOf_gt od H i
      have hk1 : 2 * i + 1 ≤ kidOf od H i := by unfold kidOf; split <;> (try split) <;> omega
      have hl := kidOf_lt od h0
      have hc : kidC H i ≤ 1 := by unfold kidC; split <;> omega
      have hq : 0 < H.length / (i + 1) := Nat.div_pos (by omega) (by omega)
      rw [dg_pos hq]
      split
      · have h1 := sinkF_cost od f (kidOf od H i) (sw H i (kidOf od H i)) (by rw [sw_len]; exact hl)
        rw [sw_len] at h1
        have h3 : H.length / (kidOf od H i + 1) ≤ H.length / (i + 1) / 2 := by
          rw [Nat.div_div_eq_div_mul]
          exact Nat.div_le_div_left (by omega) (by omega)
        have h2 := dg_mono h3
        simp only
        omega
      · simp only; omega

/-- An order: of two things one goes first, and so on. -/
structure Tot (od : E → E → Int) : Prop where
  asym : ∀ a b, lt od a b = true → lt od b a = false
  trans : ∀ a b c, lt od b a = false → lt od c b = false → lt od c a = false

theorem nth_set (H : List E) (i j : Nat) (e : E) (h : i < H.length) : nth (H.set i e) j = if j = i then e else nth H j := by
  unfold nth
  rw [List.getD_eq_getElem?_getD, List.getD_eq_getElem?_getD, List.getElem?_set]
  split
  · rename_i h1; subst h1; simp
  · rename_i h1; rw [if_neg (fun e => h1 e.symm)]
theorem nth_sw (H : List E) {i j : Nat} (hi : i < H.length) (hj : j < H.length) (x : Nat) : nth (sw H i j) x = if x = j then nth H i else if x = i then nth H j else nth H x := by
  unfold sw
  rw [nth_set _ _ _ _ (by rw [List.length_set]; exact hj), nth_set _ _ _ _ hi]

/-- None goes ahead of its parent. -/
def HO (od : E → E → Int) (H : List E) : Prop := ∀ j, 0 < j → j < H.length → lt od (nth H j) (nth H ((j - 1) / 2)) = false
/-- .. but for place i, on the way up. -/
def UpX (od : E → E → Int) (H : List E) (i : Nat) : Prop :=
  (∀ j, 0 < j → j < H.length → j ≠ i → lt od (nth H j) (nth H ((j - 1) / 2)) = false) ∧ (∀ j, 0 < j → j < H.length → (j - 1) / 2 = i → 0 < i → lt od (nth H j) (nth H ((i - 1) / 2)) = false)
/-- .. on the way down. -/
def DownX (od : E → E → Int) (H : List E) (i : Nat) : Prop :=
  (∀ j, 0 < j → j < H.length → (j - 1) / 2 ≠ i → lt od (nth H j) (nth H ((j - 1) / 2)) = false) ∧ (∀ j, 0 < j → j < H.length → (j - 1) / 2 = i → 0 < i → lt od (nth H j) (nth H ((i - 1) / 2)) = false)

theorem riseF_HO {od : E → E → Int} (T : Tot od) : ∀ (f i : Nat) (H : List E), i ≤ f → i < H.length → UpX od H i → HO od (riseF od f i H).1
  | 0, i, H, hf, hi, hx => by
    intro j h1 h2
    exact hx.1 j h1 h2 (by omega)
  | f + 1, i, H, hf, hi, hx => by
    unfold riseF
    split
    · rename_i h0
      subst h0
      exact fun j h1 h2 => hx.1 j h1 h2 (by omega)
    · rename_i h0
      split
      · rename_i hl
        obtain ⟨q, hq⟩ : ∃ q, (i - 1) / 2 = q := ⟨_, rfl⟩
        rw [hq] at hl ⊢
        have hqi : q < i := by omega
        have hql : q < H.length := by omega
        refine riseF_HO T f q (sw H i q) (by omega) (by rw [sw_len]; exact hql) ⟨?_, ?_⟩
        · intro j h1 h2 h3
          rw [sw_len] at h2
          rw [nth_sw H hi hql, nth_sw H hi hql, if_neg h3]
          by_cases hji : j = i
          · subst hji
            rw [if_pos rfl, hq, if_pos rfl]
            exact T.asym _ _ hl
          · rw [if_neg hji]
            by_cases hp : (j - 1) / 2 = q
            · rw [if_pos hp]
              have h4 := hx.1 j h1 h2 hji
              rw [hp] at h4
              exact T.trans _ _ _ (T.asym _ _ hl) h4
            · rw [if_neg hp]
              by_cases hp2 : (j - 1) / 2 = i
              · rw [if_pos hp2]
                have := hx.2 j h1 h2 hp2 (by omega)
                rwa [hq] at this
              · rw [if_neg hp2]
                exact hx.1 j h1 h2 hji
        · intro j h1 h2 h3 h4
          rw [sw_len] at h2
          rw [nth_sw H hi hql, nth_sw H hi hql, if_neg (by omega : j ≠ q), if_neg (by omega : (q - 1) / 2 ≠ q), if_neg (by omega : (q - 1) / 2 ≠ i)]
          have h5 := hx.1 q h4 hql (by omega)
          split
          · exact h5
          · rename_i hji
            have h6 := hx.1 j h1 h2 hji
            rw [h3] at h6
            exact T.trans _ _ _ h5 h6
      · rename_i hl
        intro j h1 h2
        by_cases hji : j = i
        · subst hji; simpa using hl
        · exact hx.1 j h1 h2 hji

theorem kidOf_min {od : E → E → Int} (T : Tot od) (H : List E) (i j : Nat) (h1 : 0 < j) (h2 : j < H.length) (h3 : (j - 1) / 2 = i) : lt od (nth H j) (nth H (kidOf od H i)) = false := by
  have irr : ∀ a, lt od a a = false := fun a => by
    cases h : lt od a a with
    | false => rfl
    | true => have := T.asym _ _ h; rw [h] at this; cases this
  have hj : j = 2 * i + 1 ∨ j = 2 * i + 2 := by omega
  unfold kidOf
  rcases hj with rfl | rfl
  · split
    · split
      · rename_i h4; exact T.asym _ _ h4
      · exact irr _
    · exact irr _
  · rw [if_pos h2]
    split
    · exact irr _
    · rename_i h4; simpa using h4

theorem sinkF_HO {od : E → E → Int} (T : Tot od) : ∀ (f i : Nat) (H : List E), H.length ≤ f + i → i < H.length → DownX od H i → HO od (sinkF od f i H).1
  | 0, i, H, hf, hi, hx => by omega
  | f + 1, i, H, hf, hi, hx => by
    rw [sinkF]
    split
    · rename_i h0
      intro j h1 h2
      have h3 : j < H.length := h2
      exact hx.1 j h1 h3 (by omega)
    · rename_i h0
      have hk := kidOf_gt od H i
      have hk1 : (kidOf od H i - 1) / 2 = i := by unfold kidOf; split <;> (try split) <;> omega
      have hl := kidOf_lt od h0
      have hmin := fun j => kidOf_min T H i j
      obtain ⟨q, hq⟩ : ∃ q, kidOf od H i = q := ⟨_, rfl⟩
      rw [hq] at hk hk1 hl hmin ⊢
      split
      · rename_i hlt
        refine sinkF_HO T f q (sw H i q) (by rw [sw_len]; omega) (by rw [sw_len]; exact hl) ⟨?_, ?_⟩
        · intro j h1 h2 h3
          rw [sw_len] at h2
          rw [nth_sw H hi hl, nth_sw H hi hl, if_neg h3]
          by_cases hjq : j = q
          · subst hjq
            rw [if_pos rfl, hk1, if_pos rfl]
            exact T.asym _ _ hlt
          · rw [if_neg hjq]
            by_cases hji : j = i
            · subst hji
              rw [if_pos rfl, if_neg (by omega)]
              have := hx.2 q (by omega) hl hk1 h1
              exact this
            · rw [if_neg hji]
              split
              · rename_i hp; exact hmin j h1 h2 hp
              · rename_i hp; exact hx.1 j h1 h2 hp
        · intro j h1 h2 h3 h4
          rw [sw_len] at h2
          rw [nth_sw H hi hl, nth_sw H hi hl, if_neg (by omega : j ≠ q), if_neg (by omega : j ≠ i), hk1, if_neg (by omega : i ≠ q), if_pos rfl]
          have := hx.1 j h1 h2 (by omega)
          rwa [h3] at this
      · rename_i hlt
        intro j h1 h2
        by_cases hp : (j - 1) / 2 = i
        · rw [hp]
          exact T.trans _ _ _ (by simpa using hlt) (hmin j h1 h2 hp)
        · exact hx.1 j h1 h2 hp

/-- The first thing goes ahead of all. -/
theorem HO.first {od : E → E → Int} (T : Tot od) {H : List E} (h : HO od H) : ∀ j, j < H.length → lt od (nth H j) (nth H 0) = false := by
  have irr : ∀ a, lt od a a = false := fun a => by
    cases h : lt od a a with
    | false => rfl
    | true => have := T.asym _ _ h; rw [h] at this; cases this
  intro j
  induction j using Nat.strongRecOn with
  | ind j ih =>
    intro hj
    rcases Nat.eq_zero_or_pos j with h0 | h0
    · subst h0; exact irr _
    · exact T.trans _ _ _ (ih ((j - 1) / 2) (by omega) (by omega)) (h j h0 hj)

theorem HO.nil (od : E → E → Int) : HO od [] := fun j _ h => by simp at h

theorem nth_app {H : List E} {e : E} (j : Nat) : nth (H ++ [e]) j = if j < H.length then nth H j else if j = H.length then e else zE := by
  unfold nth
  rw [List.getD_eq_getElem?_getD, List.getD_eq_getElem?_getD, List.getElem?_append]
  split
  · rfl
  · split
    · rename_i h; subst h; simp
    · rename_i h1 h2
      rw [List.getElem?_eq_none (by simp; omega)]; rfl

theorem push1_HO {od : E → E → Int} (T : Tot od) {H : List E} (h : HO od H) (came : Nat) (a : Int × Int × Int) : HO od (push1 od H came a).1 := by
  unfold push1
  refine riseF_HO T _ _ _ (Nat.le_refl _) (by simp) ⟨fun j h1 h2 h3 => ?_, fun j h1 h2 h3 h4 => ?_⟩
  · simp only [List.length_append, List.length_cons, List.length_nil] at h2
    rw [nth_app, nth_app, if_pos (by omega), if_pos (by omega)]
    exact h j h1 (by omega)
  · simp only [List.length_append, List.length_cons, List.length_nil] at h2
    omega
theorem pushF_HO {od : E → E → Int} (T : Tot od) : ∀ (L : List (Int × Int × Int)) {H : List E} (came : Nat), HO od H → HO od (pushF od L H came).1
  | [], _, _, h => h
  | a :: L, _, came, h => pushF_HO T L (came + 1) (push1_HO T h came a)
theorem pushF_len (od : E → E → Int) : ∀ (L : List (Int × Int × Int)) (H : List E) (came : Nat), (pushF od L H came).1.length = H.length + L.length
  | [], _, _ => rfl
  | a :: L, H, came => by simp only [pushF]; rw [pushF_len od L, push1_len]; simp; omega
/-- What a Push of so many may cost. -/
def most (n : Nat) : Nat → Nat
  | 0 => 0
  | k + 1 => most n k + dg (n + k) + 1
theorem most_succ (n : Nat) : ∀ k, most n (k + 1) = dg n + 1 + most (n + 1) k
  | 0 => by simp [most]
  | k + 1 => by
    rw [most, most_succ n k, most, show n + (k + 1) = n + 1 + k by omega]; omega
theorem pushF_cost (od : E → E → Int) : ∀ (L : List (Int × Int × Int)) (H : List E) (came : Nat), (pushF od L H came).2 ≤ most H.length L.length
  | [], _, _ => Nat.zero_le _
  | a :: L, H, came => by
    have h1 := pushF_cost od L (push1 od H came a).1 (came + 1)
    rw [push1_len] at h1
    have h2 : (push1 od H came a).2 ≤ dg H.length := riseF_cost od _ _ _
    rw [List.length_cons, most_succ]
    simp only [pushF]
    omega

theorem nth_take (X : List E) (m j : Nat) (h : j < m) : nth (X.take m) j = nth X j := by
  unfold nth
  rw [List.getD_eq_getElem?_getD, List.getD_eq_getElem?_getD, List.getElem?_take, if_pos h]
theorem popT_len {H : List E} {m : Nat} (h : H.length = m + 1) : (popT H m).length = m := by unfold popT; rw [List.length_take, List.length_set, h]; omega
theorem popF_len (od : E → E → Int) (H : List E) : (popF od H).1.length = H.length - 1 := by
  unfold popF; rw [sinkF_len]; unfold popT; rw [List.length_take, List.length_set]; omega
theorem popF_HO {od : E → E → Int} (T : Tot od) {H : List E} (h : HO od H) (hl : 0 < H.length) : HO od (popF od H).1 := by
  unfold popF
  obtain ⟨m, hm⟩ : ∃ m, H.length = m + 1 := ⟨H.length - 1, by omega⟩
  rw [hm, Nat.add_sub_cancel]
  have hT := popT_len hm
  rcases Nat.eq_zero_or_pos m with h0 | h0
  · subst h0
    have : popT H 0 = [] := List.eq_nil_of_length_eq_zero hT
    rw [this, sinkF_end od (by simp)]
    exact HO.nil od
  · refine sinkF_HO T _ _ _ (by omega) (by omega) ⟨fun j h1 h2 h3 => ?_, fun j h1 h2 h3 h4 => by omega⟩
    rw [hT] at h2
    unfold popT
    rw [nth_take _ _ _ h2, nth_take _ _ _ (by omega), nth_set _ _ _ _ hl, nth_set _ _ _ _ hl, if_neg (by omega), if_neg h3]
    exact h j h1 (by omega)
theorem popF_cost (od : E → E → Int) (H : List E) : (popF od H).2 ≤ 2 * dg H.length := by
  unfold popF
  rcases Nat.eq_zero_or_pos (popT H (H.length - 1)).length with h0 | h0
  · rw [sinkF_end od (by omega)]; exact Nat.zero_le _
  · have h1 := sinkF_cost od (H.length - 1) 0 _ h0
    have h2 : (popT H (H.length - 1)).length ≤ H.length := by unfold popT; rw [List.length_take, List.length_set]; omega
    have h3 := dg_mono h2
    simp only [Nat.zero_add, Nat.div_one] at h1
    omega
/-- What Swap leaves of a heap that is not empty. -/
def swapF (od : E → E → Int) (H : List E) (e : E) : List E × Nat := sinkF od H.length 0 (H.set 0 e)
theorem swapF_len (od : E → E → Int) (H : List E) (e : E) : (swapF od H e).1.length = H.length := by unfold swapF; rw [sinkF_len, List.length_set]
theorem swapF_HO {od : E → E → Int} (T : Tot od) {H : List E} (h : HO od H) (hl : 0 < H.length) (e : E) : HO od (swapF od H e).1 := by
  unfold swapF
  refine sinkF_HO T _ _ _ (by rw [List.length_set]; omega) (by rw [List.length_set]; exact hl) ⟨fun j h1 h2 h3 => ?_, fun j h1 h2 h3 h4 => by omega⟩
  rw [List.length_set] at h2
  rw [nth_set _ _ _ _ hl, nth_set _ _ _ _ hl, if_neg (by omega), if_neg h3]
  exact h j h1 h2
theorem swapF_cost (od : E → E → Int) (H : List E) (e : E) : (swapF od H e).2 ≤ 2 * dg H.length := by
  unfold swapF
  rcases Nat.eq_zero_or_pos H.length with h0 | h0
  · rw [sinkF_end od (by rw [List.length_set]; omega)]; exact Nat.zero_le _
  · have h1 := sinkF_cost od H.length 0 (H.set 0 e) (by rw [List.length_set]; exact h0)
    rw [List.length_set] at h1
    simpa using h1

/-- Who is there behind an exchange was there. -/
theorem sw_mem {H : List E} {i j : Nat} (hi : i < H.length) (hj : j < H.length) {x : E} (h : x ∈ sw H i j) : x ∈ H := by
  have hm : ∀ k, k < H.length → nth H k ∈ H := fun k hk => by unfold nth; rw [List.getD_eq_getElem?_getD, List.getElem?_eq_getElem hk]; exact List.getElem_mem hk
  unfold sw at h
  rcases List.mem_or_eq_of_mem_set h with h | h
  · rcases List.mem_or_eq_of_mem_set h with h | h
    · exact h
    · rw [h]; exact hm j hj
  · rw [h]; exact hm i hi
theorem nth_mem {H : List E} {k : Nat} (hk : k < H.length) : nth H k ∈ H := by unfold nth; rw [List.getD_eq_getElem?_getD, List.getElem?_eq_getElem hk]; exact List.getElem_mem hk
theorem sinkF_mem (od : E → E → Int) : ∀ (f i : Nat) (H : List E) {x : E}, i < H.length → x ∈ (sinkF od f i H).1 → x ∈ H
  | 0, _, _, _, _, h => h
  | f + 1, i, H, x, hi, h => by
    rw [sinkF] at h
    split at h
    · exact h
    · rename_i h0
      split at h
      · exact sw_mem hi (kidOf_lt od h0) (sinkF_mem od f _ _ (by rw [sw_len]; exact kidOf_lt od h0) h)
      · exact h
theorem popF_mem (od : E → E → Int) {H : List E} {x : E} (h : x ∈ (popF od H).1) : x ∈ H := by
  unfold popF at h
  have hx : x ∈ popT H (H.length - 1) := by
    rcases Nat.eq_zero_or_pos (popT H (H.length - 1)).length with h0 | h0
    · rwa [sinkF_end od (by omega)] at h
    · exact sinkF_mem od _ _ _ h0 h
  unfold popT at hx
  have hx := List.mem_of_mem_take hx
  rcases Nat.eq_zero_or_pos H.length with h0 | h0
  · rw [List.eq_nil_of_length_eq_zero h0] at hx; simp at hx
  · rcases List.mem_or_eq_of_mem_set hx with h1 | h1
    · exact h1
    · rw [h1]; exact nth_mem (by omega)


end Go.Proofs.Ytpkcabbfblhekaa.V
