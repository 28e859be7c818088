/-
  Serials: none twice, as a sorted list shows.
-/
import Derived.Test.YtnfcmpffihmnmaaSgS
namespace Go.Proofs.Ytnfcmpffihmnmaa
open Go.RowKit

/-- The serials of the first marks, but for those that are zero. -/
def ser (ms : Nat → Mk) : Nat → List Int
  | 0 => []
  | n + 1 => if (ms n).se = 0 ∧ (ms n).us = 0 then ser ms n else ser ms n ++ [(ms n).se]

theorem ser_len (ms : Nat → Mk) : ∀ n, (ser ms n).length ≤ n
  | 0 => Nat.le_refl _
  | n + 1 => by
    have := ser_len ms n
    rw [ser]
    split
    · omega
    · rw [List.length_append]; simp; omega
theorem ser_mem (ms : Nat → Mk) (x : Int) : ∀ n, x ∈ ser ms n ↔ ∃ k, k < n ∧ ¬ (ms k).zero ∧ (ms k).se = x
  | 0 => by simp [ser]
  | n + 1 => by
    rw [ser]
    split
    · rename_i hz
      rw [ser_mem ms x n]
      constructor
      · rintro ⟨k, a, b⟩
        exact ⟨k, by omega, b⟩
      · rintro ⟨k, a, b, d⟩
        rcases Nat.lt_or_ge k n with e | e
        · exact ⟨k, e, b, d⟩
        · have e : k = n := by omega
          rw [e] at b
          exact absurd hz b
    · rename_i hz
      rw [List.mem_append, ser_mem ms x n, List.mem_singleton]
      constructor
      · rintro (⟨k, a, b⟩ | e)
        · exact ⟨k, by omega, b⟩
        · exact ⟨n, by omega, hz, e.symm⟩
      · rintro ⟨k, a, b, d⟩
        rcases Nat.lt_or_ge k n with e | e
        · exact .inl ⟨k, e, b, d⟩
        · have e : k = n := by omega
          rw [e] at d
          exact .inr d.symm
theorem ser_good {S Z : Int} {ms : Nat → Mk} : ∀ n, (∀ i, i < n → (ms i).zero ∨ (ms i).ok S Z) → ((ser ms n).Nodup ↔ Good S Z ms n)
  | 0, _ => ⟨fun _ i hi => by omega, fun _ => List.nodup_nil⟩
  | n + 1, h => by
    have ih := ser_good n (fun i hi => h i (by omega))
    rw [ser]
    split
    · rename_i hz
      rw [ih]
      constructor
      · intro g i hi
        rcases Nat.lt_or_ge i n with e | e
        · exact g i e
        · have e : i = n := by omega
          rw [e]
          exact .inl hz
      · exact fun g i hi => g i (by omega)
    · rename_i hz
      have hk := (h n (by omega)).resolve_left hz
      rw [List.nodup_append]
      constructor
      · rintro ⟨a, _, b⟩ i hi
        rcases Nat.lt_or_ge i n with e | e
        · exact ih.1 a i e
        · have e : i = n := by omega
          rw [e]
          refine .inr ⟨hk, fun k hkn he => ?_⟩
          by_cases zk : (ms k).zero
          · have := zk.1
            have := hk.1
            omega
          · exact b _ ((ser_mem ms _ n).2 ⟨k, hkn, zk, he⟩) _ (List.mem_singleton.2 rfl) rfl
      · intro g
        refine ⟨ih.2 (fun i hi => g i (by omega)), (by simp), fun a ha b hb => ?_⟩
        rw [List.mem_singleton] at hb
        subst hb
        intro e
        subst e
        obtain ⟨k, k1, k2, k3⟩ := (ser_mem ms _ n).1 ha
        rcases g n (by omega) with z | z
        · exact hz z
        · exact z.2 k k1 k3

theorem adj_nodup : ∀ L : List Int, L.Pairwise (· ≤ ·) → ((∀ i, i + 1 < L.length → ¬ L[i + 1]! = L[i]!) ↔ L.Nodup)
  | [], _ => ⟨fun _ => List.nodup_nil, fun _ i hi => by simp at hi⟩
  | [x], _ => ⟨fun _ => by simp, fun _ i hi => by simp at hi⟩
  | x :: y :: t, h => by
    rw [List.pairwise_cons] at h
    have ih := adj_nodup (y :: t) h.2
    rw [List.nodup_cons, ← ih]
    constructor
    · intro a
      refine ⟨fun m => ?_, fun i hi => ?_⟩
      · have h0 := a 0 (by simp)
        have h0 : ¬ y = x := by simpa using h0
        have h1 := h.1 y (by simp)
        rw [List.mem_cons] at m
        rcases m with m | m
        · exact h0 m.symm
        · have h3 := (List.pairwise_cons.1 h.2).1 x m
          omega
      · have := a (i + 1) (by simpa using hi)
        simpa using this
    · rintro ⟨m, a⟩ i hi
      cases i with
      | zero =>
        intro e
        have e : y = x := by simpa using e
        exact m (by rw [e]; simp)
      | succ i =>
        have := a i (by simpa using hi)
        simpa using this

theorem sort_apart (l : List Int) : Apart (Sort.pdq ltI l.toArray 0 l.length (Sort.bitsLen l.length) true true) l.length ↔ l.Nodup := by
  have e := Sort.sortInt l
  obtain ⟨R, hR⟩ : ∃ R, R = Sort.pdq ltI l.toArray 0 l.length (Sort.bitsLen l.length) true true := ⟨_, rfl⟩
  have e : R.toList = l.mergeSort (fun x y => decide (x ≤ y)) := by
    rw [hR, ← e]
    unfold Sort.sort
    rw [List.size_toArray]
    rfl
  rw [← hR]
  have hp : R.toList.Perm l := by rw [e]; exact List.mergeSort_perm _ _
  have hs : R.toList.Pairwise (· ≤ ·) := by
    rw [e]
    have := List.pairwise_mergeSort (le := fun x y : Int => decide (x ≤ y)) (fun a b c => by simp; omega) (fun a b => by simp; omega) l
    exact this.imp (fun h => by simpa using h)
  rw [← hp.nodup_iff, ← adj_nodup _ hs, ← hp.length_eq]
  unfold Apart
  simp only [Array.length_toList]
  constructor
  · intro h i hi
    have := h i hi
    simpa [getElem!_def] using this
  · intro h i hi
    have := h i hi
    simpa [getElem!_def] using this
end Go.Proofs.Ytnfcmpffihmnmaa
