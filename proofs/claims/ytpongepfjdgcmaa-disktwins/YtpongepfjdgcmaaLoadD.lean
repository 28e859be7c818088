/-
  What Image has laid down while it ranges over the sectors.
-/
import Derived.Test.YtpongepfjdgcmaaLoadA
namespace Go.Proofs.Ytpongepfjdgcmaa
open Go.RowKit

/-- A sector's key. -/
def kI (n : Nat) : Lit := .int .i64 (n : Int)
/-- The image, where the sectors that are still to come are 0. -/
def img (T : List Int) (z S : Nat) (left : Lit → Bool) : List Int := (List.range (S * z)).map fun j => if left (kI (j / z)) then 0 else T.getD j 0
theorem img_len (T : List Int) (z S : Nat) (left : Lit → Bool) : (img T z S left).length = S * z := by simp [img]
theorem img_start (T : List Int) (z S : Nat) (left : Lit → Bool) (h : ∀ i : Nat, i < S → left (kI i) = true) : bs (img T z S left) = zer (S * z) := by
  unfold img bs zer
  rw [List.map_map]
  apply List.ext_getElem (by simp)
  intro j h1 h2
  have hj : j < S * z := by simpa using h1
  have := h (j / z) (Nat.div_lt_of_lt_mul (by rw [Nat.mul_comm]; exact hj))
  simp only [List.getElem_map, List.getElem_range, Function.comp, this, if_true, List.getElem_replicate]
theorem img_end (T : List Int) (z S : Nat) (left : Lit → Bool) (hT : T.length = S * z) (h : ∀ kl, left kl = false) : img T z S left = T := by
  unfold img
  apply List.ext_getElem (by simp [hT])
  intro j h1 h2
  simp [h, h2]
theorem sameKey_int (a i : Nat) : (kI a).sameKey (kI i) = decide (a = i) := by
  unfold kI
  by_cases h : a = i
  · subst h; simp [Lit.sameKey]
  · have : ¬ (a : Int) = (i : Int) := by omega
    simp [Lit.sameKey, h, this]
theorem img_step (T : List Int) (z S : Nat) (left : Lit → Bool) (hz : 0 < z) (hT : T.length = S * z) (i : Nat) (hi : i < S) :
    splice (bs (img T z S left)) (i * z) (bs (piece T z i)) = bs (img T z S (fun y => left y && !y.sameKey (kI i))) := by
  have hp := piece_len hT hi
  have h1 : (i + 1) * z ≤ S * z := Nat.mul_le_mul_right z hi
  rw [Nat.add_mul, Nat.one_mul] at h1
  have e : splice (bs (img T z S left)) (i * z) (bs (piece T z i)) = bs (splice (img T z S left) (i * z) (piece T z i)) := by simp [splice, bs]
  rw [e]
  congr 1
  apply List.ext_getElem?
  intro j
  unfold splice
  have hil := img_len T z S left
  have hlen : (List.take (i * z) (img T z S left)).length = i * z := by rw [List.length_take, hil, Nat.min_eq_left (by omega)]
  by_cases a : j < i * z
  · rw [List.getElem?_append_left (by rw [hlen]; exact a), List.getElem?_take_of_lt a]
    have hne : ¬ j / z = i := by
      intro e2
      have := Nat.div_mul_le_self j z
      have h3 := Nat.lt_mul_of_div_lt (a := j) (b := i + 1) (c := z) (by omega) hz
      have h4 : i * z ≤ j := by rw [← e2]; exact this
      omega
    have hj : j < S * z := by omega
    simp [img, hj, sameKey_int, hne]
  · rw [List.getElem?_append_right (by rw [hlen]; omega), hlen]
    by_cases b : j < i * z + z
    · rw [List.getElem?_append_left (by omega)]
      have hd : j / z = i := by
        have : j = (j - i * z) + i * z := by omega
        rw [this, Nat.add_mul_div_right _ _ hz, Nat.div_eq_of_lt (by omega)]
        omega
      have hj : j < S * z := by omega
      have hjT : j < T.length := by omega
      have hq : j - i * z < z := by omega
      simp [img, hj, sameKey_int, hd, piece, hq, show i * z + (j - i * z) = j by omega, List.getElem?_eq_getElem hjT]
    · rw [List.getElem?_append_right (by omega), List.getElem?_drop, hp]
      rw [show i * z + z + (j - i * z - z) = j by omega]
      have hne : ¬ j / z = i := by
        intro e2
        have h3 := Nat.lt_mul_div_succ j hz
        rw [e2, Nat.mul_comm, Nat.add_mul, Nat.one_mul] at h3
        omega
      by_cases hj : j < S * z
      · simp [img, hj, sameKey_int, hne]
      · rw [List.getElem?_eq_none (by omega), List.getElem?_eq_none (by rw [img_len]; omega)]
end Go.Proofs.Ytpongepfjdgcmaa
