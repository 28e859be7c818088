/-
  What DiskKeeps asks of a disk on its way.
-/
import Derived.Test.YtpongepfjdgcmaaAct
namespace Go.Proofs.Ytpongepfjdgcmaa
open Go.RowKit Go.RwLone

/-- The sector of a number. -/
def nuK (S : Nat) (nm : Int) : Nat := (nm % (S : Int)).toNat
theorem nuK_cases {S : Nat} (hS : 0 < S) (nm : Int) : (nm.tmod S < 0 ∧ nm.tmod S + S = nuK S nm) ∨ (¬ nm.tmod S < 0 ∧ nm.tmod S = nuK S nm) := by
  have h1 := Int.emod_nonneg nm (show (S : Int) ≠ 0 by omega)
  unfold nuK
  by_cases h : 0 ≤ nm
  · rw [Int.tmod_eq_emod_of_nonneg h]
    right
    omega
  · have h3 := Int.tmod_eq_emod (a := nm) (b := S)
    have h4 := Int.lt_tmod_of_pos nm (show (0 : Int) < S by omega)
    rw [h3]
    by_cases h5 : (S : Int) ∣ nm
    · rw [if_pos (.inr h5)]
      right
      have := Int.emod_eq_zero_of_dvd h5
      omega
    · rw [if_neg (by omega)]
      left
      have h6 := Int.emod_lt_of_pos nm (show (0 : Int) < S by omega)
      have : ((S : Int).natAbs : Int) = S := by omega
      omega
theorem nuK_lt {S : Nat} (hS : 0 < S) (nm : Int) : nuK S nm < S := by
  have h1 := Int.emod_nonneg nm (show (S : Int) ≠ 0 by omega)
  have h2 := Int.emod_lt_of_pos nm (show (0 : Int) < S by omega)
  unfold nuK
  omega

/-- Acts with their lists of what a crash keeps; all of it below B. -/
structure AcK (w : World) (B : Nat) (a : Option Addr) (N : Nat) (ac : Nat → Ac) (kls : Nat → List Bool) : Prop where
  acs : Acs w a N ac
  kb : ∀ i, i < N → KB w (ac i).ka (ac i).kn (kls i)
  ls : ∀ i, i < N → -9223372036854775808 ≤ (ac i).less ∧ (ac i).less ≤ 9223372036854775807
  size : w.heap.size ≤ B

theorem AcK.low {w : World} {B : Nat} {a : Option Addr} {N : Nat} {ac : Nat → Ac} {kls : Nat → List Bool} (h : AcK w B a N ac kls) {i : Nat} (hi : i < N) : ∀ g o, 0 < (ac i).kn → (ac i).ka = some ⟨g, o, none⟩ → g < B := fun g o h0 e => by
  obtain ⟨g', o', e', hc⟩ := (h.kb i hi).row 0 h0
  rw [e] at e'
  injection e' with e'
  injection e' with e1 _
  have := World.block_lt_of_cell? _ _ hc
  have := h.size
  simp only at *
  omega
theorem AcK.kept {w w' : World} {B : Nat} {a : Option Addr} {N : Nat} {ac : Nat → Ac} {kls : Nat → List Bool} (h : AcK w B a N ac kls) (bl : Below B w w') {i : Nat} (hi : i < N) : KB w' (ac i).ka (ac i).kn (kls i) :=
  (h.kb i hi).chg (S := fun g => B ≤ g) ⟨bl.os, bl.tape, bl.output, bl.size, fun k _ hn => bl.block k (by omega)⟩ (fun g o h0 e h2 => by have := h.low hi g o h0 e; omega)
theorem AcK.cell {w w' : World} {B : Nat} {a : Option Addr} {N : Nat} {ac : Nat → Ac} {kls : Nat → List Bool} (h : AcK w B a N ac kls) (bl : Below B w w') {i : Nat} (hi : i < N) : ∃ g o, a = some ⟨g, o, none⟩ ∧ ∀ j v, (ac i).cells[j]? = some v → w'.cell? ⟨g, o + i * 9 + j, none⟩ = some v := by
  obtain ⟨g, o, e, hc⟩ := h.acs.row i hi
  refine ⟨g, o, e, fun j v hv => ?_⟩
  have h1 := hc j v hv
  have h2 := World.block_lt_of_cell? _ _ h1
  have := h.size
  simp only at h2
  exact (World.cell?_of_block (a := ⟨g, o + i * 9 + j, none⟩) (bl.block g (by omega))).trans h1

section
variable {w w' : World} {B G p S Z b s : Nat} {l : List Int}
variable {pn : Nat} {A : Nat → List (Nat × List Int)} {F : Nat → Option (List Int)}
theorem imgT_zero {z S : Nat} {F : Nat → Option (List Int)} {t j : Nat} (hj : j / z = t) (h1 : F t = none) : (imgT z S F).getD j 0 = 0 := by
  unfold imgT
  rw [List.getD_eq_getElem?_getD, List.getElem?_map]
  by_cases hj2 : j < S * z
  · rw [List.getElem?_range hj2]
    show ((F (j / z)).getD (zs z)).getD (j % z) 0 = 0
    rw [hj, h1]
    show (zs z).getD (j % z) 0 = 0
    unfold zs
    rw [List.getD_eq_getElem?_getD, List.getElem?_replicate]
    split <;> rfl
  · rw [List.getElem?_eq_none (by simp; omega)]
    rfl
end
end Go.Proofs.Ytpongepfjdgcmaa
