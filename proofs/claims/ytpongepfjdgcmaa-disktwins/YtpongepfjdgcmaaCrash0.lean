/-
  A crash that keeps nothing.
-/
import Derived.Test.YtpongepfjdgcmaaFlush
import Derived.Test.YtpongepfjdgcmaaFlushN
namespace Go.Proofs.Ytpongepfjdgcmaa
open Go.RowKit Go.RwLone

set_option maxRecDepth 100000 in
set_option maxHeartbeats 1000000 in
theorem apply_none {w : World} {p : Nat} (s : Int) (a : Option Addr) (c : Nat) :
    Calls Try.prog 45 #[.pointer (some ⟨p, 0, none⟩), .int .i64 s, .slice a 0 c] w fun e w' => e = .returned (.tuple #[]) ∧ w = w' := by
  go_enter Try.func45, Try.ntmps45
  go_wp2_with fail
  go_end0
  exact ⟨rfl, rfl⟩

set_option maxRecDepth 100000 in
set_option maxHeartbeats 1000000 in
theorem kept_none {w : World} {p : Nat} (n : Nat) (at_ : Int) (_hn : n ≤ 4611686018427387904) :
    Calls Try.prog 46 #[.pointer (some ⟨p, 0, none⟩), .agg #[.slice none 0 0, .int .i64 (-1), .int .i64 at_], .int .i64 n] w fun e w' => e = .returned (.int .i64 0) ∧ Chg (fun _ => False) w w' := by
  have h1 : ((n : Int) == -1) = false := by simp
  have h2 : ¬ ((n : Int) < 0) := by omega
  go_enter Try.func46, Try.ntmps46
  go_wp2_with fail
  go_ret
  exact ⟨rfl, (Chg.refl _ _).alloc _⟩

theorem wcells_get (z : Nat) : ∀ (l : List (Nat × Nat)) (i : Nat) (y : Nat × Nat), l[i]? = some y → (wcells z l)[i * 2]? = some (.int .i64 y.1) ∧ (wcells z l)[i * 2 + 1]? = some (.slice (some ⟨y.2, 0, none⟩) z z)
  | [], i, y, h => by simp at h
  | x :: l, 0, y, h => by
    simp at h
    subst h
    exact ⟨rfl, rfl⟩
  | x :: l, i + 1, y, h => by
    have := wcells_get z l i y (by simpa using h)
    have e : (i + 1) * 2 = i * 2 + 2 := by omega
    rw [e]
    exact this

end Go.Proofs.Ytpongepfjdgcmaa
