/-
  One turn of HeapTurns, whatever its kind.
-/
import Derived.Test.YtpkcabbfblhekaaTurn5
namespace Go.Proofs.Ytpkcabbfblhekaa

theorem turn_all {w : World} {all : Bool} {p : Nat} {v : Value} {H : List E} {came : Nat} {lv : Value} {l : List (Int × Int)} (h : TS w all p v H came lv l) {kind which : Int} {s : Value} {L : List (Int × Int)} (hL : Ths w s L)
    (hsb : ∀ k, L ≠ [] → s.ownBlock = some k → k ≠ p ∧ some k ≠ v.ownBlock) (hcm : came + L.length + 1 ≤ 2097152) :
    Calls Try.prog 25 #[.pointer (some ⟨p, 0, none⟩), lv, .agg #[.int .i64 kind, .int .i64 which, s], .bool all] w fun e w' => ∃ lv', e = .returned (.tuple #[lv', .bool true]) ∧ TP w w' all p v came lv (L.length + 1) lv' := by
  by_cases k1 : kind = 1
  · subst k1; exact turn_push h hL hsb hcm
  · by_cases k4 : kind = 4
    · subst k4; exact turn_swap h hL hsb hcm
    · exact turn_any h hL hsb hcm k1 k4

end Go.Proofs.Ytpkcabbfblhekaa
