/-
  A disk as what it holds, beside a block of bytes that is not its own.
-/
import Derived.Test.YtpongepfjdgcmaaRot
import Derived.Test.YtpongepfjdgcmaaImage
import Derived.Test.YtpongepfjdgcmaaOther
namespace Go.Proofs.Ytpongepfjdgcmaa
open Go.RowKit Go.RwLone

section
variable {w w' : World} {N G p S z b : Nat} {x : Nums} {A : Nat → List (Nat × List Int)} {F : Nat → Option (List Int)}

end

end Go.Proofs.Ytpongepfjdgcmaa
