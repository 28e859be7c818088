/-
  The walk of DiskFuses.
-/
import Derived.Test.YtpongepfjdgcmaaPack
import Derived.Deep.RegionWith
namespace Go.Proofs.Ytpongepfjdgcmaa
open Go.RowKit Go.RwLone

theorem src_row {w : World} {g z : Nat} {l : List Int} (h : Rw w g (bs l).toArray 5) (hl : l.length = z) : Src w (.slice (some ⟨g, 0, none⟩) z z) l := by
  subst hl
  refine .inr ⟨⟨g, 0, none⟩, l.length, rfl, fun j u hu => ⟨rfl, ?_⟩⟩
  rw [Nat.zero_add, h.cell, List.getElem?_toArray]
  exact hu

end Go.Proofs.Ytpongepfjdgcmaa
