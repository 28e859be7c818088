/-
  Pending where nothing is in the cache.
-/
import Derived.Test.YtpongepfjdgcmaaAbs
namespace Go.Proofs.Ytpongepfjdgcmaa
open Go.RowKit Go.RwLone

theorem burn_on {x : Nums} (h1 : x.fuse = -1) (h2 : x.off = false) : burnE x = 0 ∧ burnN x = x := by
  have hx : ¬ (x.off = true ∨ x.fuse = 0) := by rw [h1, h2]; simp
  unfold burnE burnN
  rw [if_neg hx, if_neg hx, if_pos h1]
  exact ⟨rfl, rfl⟩

section
variable {w w' : World} {N p S z b pn : Nat} {A : Nat → List (Nat × List Int)} {F : Nat → Option (List Int)}
end
end Go.Proofs.Ytpongepfjdgcmaa
