/-
  New: the code's and the reference's.
-/
import Derived.Test.YtpongepfjdgcmaaDisk
namespace Go.Proofs.Ytpongepfjdgcmaa
open Go.RowKit

/-- A size that a disk may have. -/
def fits (z : Int) : Prop := z = 128 ∨ z = 256 ∨ z = 512 ∨ z = 1024 ∨ z = 2048 ∨ z = 4096

theorem and_fits {z : Int} (h0 : 128 ≤ z) (h1 : z ≤ 4096) : bits .and .i64 z (z - 1) = 0 ↔ fits z := by
  have key : ∀ a : Fin 65, ∀ b : Fin 64, (128 ≤ 64 * a.val + b.val → (bits .and .i64 ((64 * a.val + b.val : Nat) : Int) (((64 * a.val + b.val : Nat) : Int) - 1) = 0 ↔ (64 * a.val + b.val = 128 ∨ 64 * a.val + b.val = 256 ∨ 64 * a.val + b.val = 512 ∨ 64 * a.val + b.val = 1024 ∨ 64 * a.val + b.val = 2048 ∨ 64 * a.val + b.val = 4096))) ∨ 4096 < 64 * a.val + b.val := by decide +kernel
  have := key ⟨z.toNat / 64, by omega⟩ ⟨z.toNat % 64, by omega⟩
  simp only at this
  rw [Nat.div_add_mod] at this
  rw [show ((z.toNat : Nat) : Int) = z by omega] at this
  have := (this.resolve_right (by omega)) (by omega)
  rw [this]
  unfold fits
  omega

set_option maxRecDepth 100000 in
set_option maxHeartbeats 1000000 in
theorem fit_yes {w : World} (z : Int) (h : fits z) : Calls Try.prog 32 #[.int .i64 z] w fun e w' => e = .returned (.bool true) ∧ w = w' := by
  rcases h with rfl | rfl | rfl | rfl | rfl | rfl <;>
  · go_enter Try.func32, Try.ntmps32
    go_wp2_with fail
    go_ret
    exact ⟨rfl, rfl⟩
set_option maxRecDepth 100000 in
set_option maxHeartbeats 1000000 in
theorem fit_no {w : World} (z : Int) (h : ¬ fits z) : Calls Try.prog 32 #[.int .i64 z] w fun e w' => e = .returned (.bool false) ∧ w = w' := by
  by_cases h0 : 128 ≤ z
  · by_cases h1 : z ≤ 4096
    · have h2 : ¬ bits .and .i64 z (z - 1) = 0 := fun e => h ((and_fits h0 h1).1 e)
      clear h
      go_enter Try.func32, Try.ntmps32
      go_wp2_with fail
      go_ret
      exact ⟨by simp [h2], rfl⟩
    · clear h
      go_enter Try.func32, Try.ntmps32
      go_wp2_with fail
      go_ret
      exact ⟨rfl, rfl⟩
  · clear h
    go_enter Try.func32, Try.ntmps32
    go_wp2_with fail
    go_ret
    exact ⟨rfl, rfl⟩

set_option maxRecDepth 100000 in
set_option maxHeartbeats 4000000 in
theorem sized_yes {w : World} (z : Int) (h : fits z) : Calls Try.prog 34 #[.int .i64 z] w fun e w' => e = .returned (.bool true) ∧ w = w' := by
  rcases h with rfl | rfl | rfl | rfl | rfl | rfl <;>
  · go_enter Try.func34, Try.ntmps34
    go_wp2_with fail
    refine wp_loop_rounds 7 ?_
    repeat (rw [rounds_succ]; go_wp2_with fail)
    go_ret
    exact ⟨rfl, rfl⟩
set_option maxRecDepth 100000 in
set_option maxHeartbeats 4000000 in
theorem sized_no {w : World} (z : Int) (h : ¬ fits z) : Calls Try.prog 34 #[.int .i64 z] w fun e w' => e = .returned (.bool false) ∧ w = w' := by
  have n1 : ¬ (128 : Int) = z := fun e => h (by unfold fits; omega)
  have n2 : ¬ (256 : Int) = z := fun e => h (by unfold fits; omega)
  have n3 : ¬ (512 : Int) = z := fun e => h (by unfold fits; omega)
  have n4 : ¬ (1024 : Int) = z := fun e => h (by unfold fits; omega)
  have n5 : ¬ (2048 : Int) = z := fun e => h (by unfold fits; omega)
  have n6 : ¬ (4096 : Int) = z := fun e => h (by unfold fits; omega)
  clear h
  go_enter Try.func34, Try.ntmps34
  go_wp2_with fail
  refine wp_loop_rounds 7 ?_
  repeat (rw [rounds_succ]; go_wp2_with fail)
  go_ret
  exact ⟨rfl, rfl⟩
end Go.Proofs.Ytpongepfjdgcmaa
