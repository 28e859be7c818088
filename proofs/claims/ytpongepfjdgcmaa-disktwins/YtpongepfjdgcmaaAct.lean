/-
  One act on a disk, whatever it is.
-/
import Derived.Test.YtpongepfjdgcmaaGard
namespace Go.Proofs.Ytpongepfjdgcmaa
open Go.RowKit Go.RwLone

set_option maxRecDepth 100000 in
set_option maxHeartbeats 2000000 in
theorem written_none {w : World} (z : Int) (on kd nm fill less at_ mask : Int) (kp : Value) (torn : Int) (hn : ¬ (0 ≤ z - less ∧ z - less ≤ 8192)) (hz0 : 0 ≤ z) (hz : z ≤ 8192) (hl1 : -9223372036854775808 ≤ less) (hl2 : less ≤ 9223372036854775807) :
    Calls Try.prog 20 #[.int .i64 z, .agg (actC on kd nm fill less at_ mask kp torn).toArray] w fun e w' => ∃ g, e = .returned (.slice (some ⟨g, 0, none⟩) 0 0) ∧ w.heap.size ≤ g ∧ Below w.heap.size w w' := by
  have hmk : ∀ w : World, (Instr.makeSlice 22 (.int .i64 0) (.int .i64 0)).run Try.prog w = .ok (.slice (some ⟨w.heap.size, 0, none⟩) 0 0) (w.alloc (.cells (zer 0).toArray 5)) := fun w => run_mk 0 (by omega) w
  obtain ⟨v, hv⟩ : ∃ v, wrap64 (z - less) = v := ⟨_, rfl⟩
  have hv2 : v < 0 ∨ (¬ v < 0 ∧ 8192 < v) := by
    rw [← hv]
    unfold wrap64
    omega
  obtain ⟨W, hW⟩ : ∃ W, W = w.alloc (.cells (actC on kd nm fill less at_ mask kp torn).toArray 45) := ⟨_, rfl⟩
  have R0 : Hid (Rw W w.heap.size (actC on kd nm fill less at_ mask kp torn).toArray 45) := by rw [hW]; exact ⟨heap_alloc_new _ _⟩
  have B0 : Hid (Below w.heap.size w W) := by rw [hW]; exact (Below.refl _ _).alloc (Nat.le_refl _) _
  have d4 : W.cell? ⟨w.heap.size, 4, none⟩ = some (.int .i64 less) := Rw.cell R0.out 4
  clear hn
  rcases hv2 with h1 | ⟨h1, h2⟩
  · go_enter Try.func20, Try.ntmps20
    go_upto_region 1 with fail
    rw [← hW]
    clear hW
    go_wp2_with fail
    refine wp_loop_rounds 1 ?_
    rw [rounds_succ]
    go_wp2_with fail
    go_ret
    exact ⟨_, rfl, B0.out.size, B0.out.alloc B0.out.size _⟩
  · go_enter Try.func20, Try.ntmps20
    go_upto_region 1 with fail
    rw [← hW]
    clear hW
    go_wp2_with fail
    refine wp_loop_rounds 1 ?_
    rw [rounds_succ]
    go_wp2_with fail
    go_ret
    exact ⟨_, rfl, B0.out.size, B0.out.alloc B0.out.size _⟩

section
variable {w w' : World} {N G p S z b : Nat} {x : Nums} {A : Nat → List (Nat × List Int)} {F : Nat → Option (List Int)} {kd nm : Int}

theorem burnN_bd {x : Nums} (h : -1 ≤ x.fuse ∧ x.fuse ≤ 9223372036854775807) : -1 ≤ (burnN x).fuse ∧ (burnN x).fuse ≤ 9223372036854775807 := by
  unfold burnN
  split
  · exact h
  · split
    · exact h
    · rename_i h1 h2
      simp only
      simp only [not_or] at h1
      omega

end

end Go.Proofs.Ytpongepfjdgcmaa
