/-
  A disk between two calls, as the laws see it: how far its fuse has burnt; all its blocks lie above those that came in.
-/
import Derived.Test.YtpongepfjdgcmaaCrash0
namespace Go.Proofs.Ytpongepfjdgcmaa
open Go.RowKit Go.RwLone

theorem burn_no {x : Nums} (h : x.off = true ∨ x.fuse = 0) : burnE x = 32 ∧ burnN x = { x with off := true } := by
  unfold burnE burnN
  rw [if_pos h, if_pos h]
  exact ⟨rfl, rfl⟩
theorem burn_yes {x : Nums} (h : ¬ (x.off = true ∨ x.fuse = 0)) : burnE x = 0 ∧ (burnN x).off = x.off ∧ (burnN x).fuse = if x.fuse = -1 then -1 else x.fuse - 1 := by
  unfold burnE burnN
  rw [if_neg h, if_neg h]
  refine ⟨rfl, ?_⟩
  split
  · rename_i e
    exact ⟨rfl, e⟩
  · exact ⟨rfl, rfl⟩

section
variable {w w' : World} {N p S z b : Nat} {f : Int} {o : Bool}

end
end Go.Proofs.Ytpongepfjdgcmaa
