/-
  Nothing is lost in these heaps.
-/
import Derived.Test.YtpkcabbfblhekaaVPure
import Derived.Test.YtpkcabbfblhekaaPerm
namespace Go.Proofs.Ytpkcabbfblhekaa.V

theorem sw_perm {H : List E} {i j : Nat} (hi : i < H.length) (hj : j < H.length) : (sw H i j).Perm H := by
  have h := Array.swap_perm (xs := H.toArray) (i := i) (j := j) (by simpa using hi) (by simpa using hj)
  have e : (H.toArray.swap i j (by simpa using hi) (by simpa using hj)).toList = sw H i j := by
    unfold sw nth
    simp [Array.swap, List.getD_eq_getElem?_getD, hi, hj]
  have h2 := Array.perm_iff_toList_perm.1 h
  rw [e] at h2
  simpa using h2
theorem riseF_perm (od : E → E → Int) : ∀ (f i : Nat) (H : List E), i < H.length → (riseF od f i H).1.Perm H
  | 0, _, _, _ => List.Perm.refl _
  | f + 1, i, H, hi => by
    unfold riseF
    split
    · exact List.Perm.refl _
    · split
      · exact (riseF_perm od f _ _ (by rw [sw_len]; omega)).trans (sw_perm hi (by omega))
      · exact List.Perm.refl _
theorem sinkF_perm (od : E → E → Int) : ∀ (f i : Nat) (H : List E), i < H.length → (sinkF od f i H).1.Perm H
  | 0, _, _, _ => List.Perm.refl _
  | f + 1, i, H, hi => by
    rw [sinkF]
    split
    · exact List.Perm.refl _
    · rename_i h0
      split
      · exact (sinkF_perm od f _ _ (by rw [sw_len]; exact kidOf_lt od h0)).trans (sw_perm hi (kidOf_lt od h0))
      · exact List.Perm.refl _
theorem push1_perm (od : E → E → Int) (H : List E) (came : Nat) (a : Int × Int × Int) : (push1 od H came a).1.Perm (H ++ [⟨a.1, a.2.1, a.2.2, (came : Int) + 1⟩]) :=
  riseF_perm od _ _ _ (by simp)
theorem popT_perm {H : List E} {m : Nat} (h : H.length = m + 1) : H.Perm (nth H 0 :: popT H m) := by
  match H, h with
  | a :: T, h =>
    have hT : T.length = m := by simpa using h
    have e0 : nth (a :: T) 0 = a := rfl
    rw [e0]
    refine List.Perm.cons a ?_
    unfold popT
    rw [List.set_cons_zero]
    cases m with
    | zero =>
      have : T = [] := List.eq_nil_of_length_eq_zero hT
      rw [this]; exact List.Perm.refl _
    | succ m =>
      rw [List.take_succ_cons]
      have e1 : nth (a :: T) (m + 1) = T[m]'(by omega) := by unfold nth; simp [List.getD_eq_getElem?_getD, hT]
      rw [e1]
      have e2 : T = T.take m ++ [T[m]'(by omega)] := by
        have := List.take_append_drop m T
        rw [List.drop_eq_getElem_cons (by omega), List.drop_eq_nil_of_le (by omega)] at this
        exact this.symm
      have e3 : (T.take m ++ [T[m]'(by omega)]).Perm (T[m]'(by omega) :: T.take m) := List.perm_append_singleton _ _
      exact (List.Perm.of_eq e2).trans e3
theorem popF_perm (od : E → E → Int) {H : List E} (h : 0 < H.length) : H.Perm (nth H 0 :: (popF od H).1) := by
  obtain ⟨m, hm⟩ : ∃ m, H.length = m + 1 := ⟨H.length - 1, by omega⟩
  have h1 := popT_perm hm
  refine h1.trans (List.Perm.cons _ ?_)
  unfold popF
  rw [hm, Nat.add_sub_cancel]
  rcases Nat.eq_zero_or_pos m with h0 | h0
  · subst h0
    rw [sinkF_end od (by rw [popT_len hm]; omega)]
  · exact (sinkF_perm od _ _ _ (by rw [popT_len hm]; exact h0)).symm
theorem swapF_perm (od : E → E → Int) {H : List E} (h : 0 < H.length) (e : E) : ∃ X, H.Perm (nth H 0 :: X) ∧ (swapF od H e).1.Perm (e :: X) := by
  match H, h with
  | a :: T, _ =>
    exact ⟨T, List.Perm.refl _, sinkF_perm od _ _ _ (by simp)⟩


end Go.Proofs.Ytpkcabbfblhekaa.V
