import Derived.Test.YtddnecfnjnipjaaDisk
/-
  New: the code's and the reference's.
-/
namespace Go.Proofs.Ytddnecfnjnipjaa
open Go.RowKit

/-- A size that a disk may have. -/
def fits (z : Int) : Prop := z = 128 ∨ z = 256 ∨ z = 512 ∨ z = 1024 ∨ z = 2048 ∨ z = 4096

theorem and_fits {z : Int} (h0 : 128 ≤ z) (h1 : z ≤ 4096) : bits .and .i64 z (z - 1) = 0 ↔ fits z := by
  have key : ∀ a : Fin 65, ∀ b : Fin 64, (128 ≤ 64 * a.val + b.val → (bits .and .i64 ((64 * a.val + b.val : Nat) : Int) (((64 * a.val + b.val : Nat) : Int) - 1) = 0 ↔ (64 * a.val + b.val = 128 ∨ 64 * a.val + b.val = 256 ∨ 64 * a.val + b.val = 512 ∨ 64 * a.val + b.val = 1024 ∨ 64 * a.val + b.val = 2048 ∨ 64 * a.val + b.val = 4096))) ∨ 4096 < 64 * a.val + b.val := by decide +kernel
  have := key ⟨z.toNat / 64, by omega⟩ ⟨z.toNat % 64, by omega⟩
  simp only at this
  rw [Nat.div_add_mod] at this
  rw [show ((z.toNat : Nat) : Int) = z by omega] at this
  have := (this.resolve_right (by omega)) (by omega)
  rw [this]
  unfold fits
  omega

set_option maxRecDepth 100000 in
set_option maxHeartbeats 1000000 in
theorem fit_yes {w : World} (z : Int) (h : fits z) : Calls Try.prog 19 #[.int .i64 z] w fun e w' => e = .returned (.bool true) ∧ w = w' := by
  rcases h with rfl | rfl | rfl | rfl | rfl | rfl <;>
  · go_enter Try.func19, Try.ntmps19
    go_wp2_with fail
    go_ret
    exact ⟨rfl, rfl⟩
set_option maxRecDepth 100000 in
set_option maxHeartbeats 1000000 in
theorem fit_no {w : World} (z : Int) (h : ¬ fits z) : Calls Try.prog 19 #[.int .i64 z] w fun e w' => e = .returned (.bool false) ∧ w = w' := by
  by_cases h0 : 128 ≤ z
  · by_cases h1 : z ≤ 4096
    · have h2 : ¬ bits .and .i64 z (z - 1) = 0 := fun e => h ((and_fits h0 h1).1 e)
      clear h
      go_enter Try.func19, Try.ntmps19
      go_wp2_with fail
      go_ret
      exact ⟨by simp [h2], rfl⟩
    · clear h
      go_enter Try.func19, Try.ntmps19
      go_wp2_with fail
      go_ret
      exact ⟨rfl, rfl⟩
  · clear h
    go_enter Try.func19, Try.ntmps19
    go_wp2_with fail
    go_ret
    exact ⟨rfl, rfl⟩

set_option maxRecDepth 100000 in
set_option maxHeartbeats 4000000 in
theorem sized_yes {w : World} (z : Int) (h : fits z) : Calls Try.prog 21 #[.int .i64 z] w fun e w' => e = .returned (.bool true) ∧ w = w' := by
  rcases h with rfl | rfl | rfl | rfl | rfl | rfl <;>
  · go_enter Try.func21, Try.ntmps21
    go_wp2_with fail
    refine wp_loop_rounds 7 ?_
    repeat (rw [rounds_succ]; go_wp2_with fail)
    go_ret
    exact ⟨rfl, rfl⟩
set_option maxRecDepth 100000 in
set_option maxHeartbeats 4000000 in
theorem sized_no {w : World} (z : Int) (h : ¬ fits z) : Calls Try.prog 21 #[.int .i64 z] w fun e w' => e = .returned (.bool false) ∧ w = w' := by
  have n1 : ¬ (128 : Int) = z := fun e => h (by unfold fits; omega)
  have n2 : ¬ (256 : Int) = z := fun e => h (by unfold fits; omega)
  have n3 : ¬ (512 : Int) = z := fun e => h (by unfold fits; omega)
  have n4 : ¬ (1024 : Int) = z := fun e => h (by unfold fits; omega)
  have n5 : ¬ (2048 : Int) = z := fun e => h (by unfold fits; omega)
  have n6 : ¬ (4096 : Int) = z := fun e => h (by unfold fits; omega)
  clear h
  go_enter Try.func21, Try.ntmps21
  go_wp2_with fail
  refine wp_loop_rounds 7 ?_
  repeat (rw [rounds_succ]; go_wp2_with fail)
  go_ret
  exact ⟨rfl, rfl⟩
end Go.Proofs.Ytddnecfnjnipjaa

/-
  New, whole: the code's and the reference's.
-/
namespace Go.Proofs.Ytddnecfnjnipjaa
open Go.RowKit

/-- The sizes that a disk may have. -/
def okDisk (s z : Int) : Prop := fits z ∧ 1 ≤ s ∧ s ≤ 65536 ∧ s * z ≤ 16777216
theorem fits_b {z : Int} (h : fits z) : 128 ≤ z ∧ z ≤ 4096 := by unfold fits at h; omega
theorem mul_b {s z : Int} (hz : fits z) (h0 : 1 ≤ s) (h1 : s ≤ 65536) : 0 ≤ s * z ∧ s * z ≤ 268435456 := by
  have hb := fits_b hz
  exact ⟨Int.mul_nonneg (by omega) (by omega), by
    have := Int.mul_le_mul h1 hb.2 (by omega) (by omega)
    omega⟩

set_option maxRecDepth 100000 in
set_option maxHeartbeats 1000000 in
theorem blank_any {w : World} (s z : Int) :
    Calls Try.prog 20 #[.int .i64 s, .int .i64 z] w fun e w' => e = .returned (.pointer (some ⟨w.heap.size + 2, 0, none⟩)) ∧ DK w' (w.heap.size + 2) s z w.heap.size (w.heap.size + 1) 0 0 ∧ Below w.heap.size w w' := by
  have hmm := @run_makeMap Try.prog
  go_enter Try.func20, Try.ntmps20
  go_wp2_with fail
  go_ret
  have b1 : Below w.heap.size w (w.alloc (.map #[] 0)) := (Below.refl _ _).alloc (Nat.le_refl _) _
  have b2 : Below w.heap.size w ((w.alloc (.map #[] 0)).alloc (.map #[] 0)) := b1.alloc (by simp) _
  refine ⟨rfl, ⟨?_, ?_, ?_, by omega, by omega⟩, b2.alloc (by simp; omega) _⟩
  · have := heap_alloc_new ((w.alloc (.map #[] 0)).alloc (.map #[] 0)) (.cells (dk s z w.heap.size (w.heap.size + 1) 0 0) 86)
    rw [World.size_alloc, World.size_alloc] at this
    exact this
  · rw [Below.heap_alloc _ _ _ (by simp; omega), Below.heap_alloc _ _ _ (by simp)]; exact heap_alloc_new _ _
  · rw [Below.heap_alloc _ _ _ (by simp)]
    have := heap_alloc_new (w.alloc (.map #[] 0)) (.map #[] 0)
    rw [World.size_alloc] at this
    exact this

set_option maxRecDepth 100000 in
set_option maxHeartbeats 2000000 in
theorem new_yes {w : World} (s z : Int) (h : okDisk s z) :
    Calls Try.prog 8 #[.int .i64 s, .int .i64 z] w fun e w' => e = .returned (.tuple #[.pointer (some ⟨w.heap.size + 2, 0, none⟩), .int .i64 0]) ∧ DK w' (w.heap.size + 2) s z w.heap.size (w.heap.size + 1) 0 0 ∧ Below w.heap.size w w' := by
  obtain ⟨hf, h1, h2, h3⟩ := h
  have hm := (mul_b hf h1 h2).1
  have HF : Hid _ := fit_yes (w := w) z hf
  have HB : Hid _ := blank_any (w := w) s z
  clear hf
  go_enter Try.func8, Try.ntmps8
  go_wp2_with (go_at_call 19; refine Calls.mono HF.out ?_; rintro e w9 ⟨rfl, h9⟩; subst h9)
  refine Calls.mono HB.out ?_
  rintro e w1 ⟨rfl, d1, b1⟩
  have D1 : Hid _ := d1
  have B1 : Hid _ := b1
  clear d1 b1
  go_wp2_with fail
  go_ret2
  exact ⟨rfl, D1.out, B1.out⟩

set_option maxRecDepth 100000 in
set_option maxHeartbeats 2000000 in
theorem new_no {w : World} (s z : Int) (h : ¬ okDisk s z) :
    Calls Try.prog 8 #[.int .i64 s, .int .i64 z] w fun e w' => e = .returned (.tuple #[.pointer none, .int .i64 30]) ∧ w = w' := by
  by_cases hf : fits z
  · have HF : Hid _ := fit_yes (w := w) z hf
    by_cases h1 : 1 ≤ s
    · by_cases h2 : s ≤ 65536
      · have h3 : ¬ s * z ≤ 16777216 := fun e => h ⟨hf, h1, h2, e⟩
        have hm := (mul_b hf h1 h2).2
        have hm0 := (mul_b hf h1 h2).1
        clear hf h
        go_enter Try.func8, Try.ntmps8
        go_wp2_with (go_at_call 19; refine Calls.mono HF.out ?_; rintro e w9 ⟨rfl, h9⟩; subst h9)
        go_ret2
        exact ⟨rfl, rfl⟩
      · clear hf h
        go_enter Try.func8, Try.ntmps8
        go_wp2_with (go_at_call 19; refine Calls.mono HF.out ?_; rintro e w9 ⟨rfl, h9⟩; subst h9)
        go_ret2
        exact ⟨rfl, rfl⟩
    · clear hf h
      go_enter Try.func8, Try.ntmps8
      go_wp2_with (go_at_call 19; refine Calls.mono HF.out ?_; rintro e w9 ⟨rfl, h9⟩; subst h9)
      go_ret2
      exact ⟨rfl, rfl⟩
  · have HF : Hid _ := fit_no (w := w) z hf
    clear hf h
    go_enter Try.func8, Try.ntmps8
    go_wp2_with (go_at_call 19; refine Calls.mono HF.out ?_; rintro e w9 ⟨rfl, h9⟩; subst h9)
    go_ret2
    exact ⟨rfl, rfl⟩

/-- The reference's disk, on which nothing was done. -/
def rdk (s z rd : Int) : Array Value := #[.int .i64 s, .int .i64 z, .slice none 0 0, .slice none 0 0, .slice none 0 0, .bool false, .int .i64 0, .bool false, .int .u64 rd, .int .u64 0, .int .u64 0, .int .i64 0]

set_option maxRecDepth 100000 in
set_option maxHeartbeats 2000000 in
theorem xnew_yes {w : World} (s z : Int) (h : okDisk s z) :
    Calls Try.prog 9 #[.int .i64 s, .int .i64 z] w fun e w' => e = .returned (.tuple #[.pointer (some ⟨w.heap.size, 0, none⟩), .int .i64 0]) ∧ Rw w' w.heap.size (rdk s z 0) 52 ∧ Below w.heap.size w w' := by
  obtain ⟨hf, h1, h2, h3⟩ := h
  have hm := (mul_b hf h1 h2).1
  have HF : Hid _ := sized_yes (w := w) z hf
  clear hf
  go_enter Try.func9, Try.ntmps9
  go_wp2_with (go_at_call 21; refine Calls.mono HF.out ?_; rintro e w9 ⟨rfl, h9⟩; subst h9)
  go_ret2
  exact ⟨rfl, ⟨heap_alloc_new _ _⟩, (Below.refl _ _).alloc (Nat.le_refl _) _⟩

set_option maxRecDepth 100000 in
set_option maxHeartbeats 2000000 in
theorem xnew_no {w : World} (s z : Int) (h : ¬ okDisk s z) :
    Calls Try.prog 9 #[.int .i64 s, .int .i64 z] w fun e w' => e = .returned (.tuple #[.pointer none, .int .i64 30]) ∧ w = w' := by
  by_cases hf : fits z
  · have HF : Hid _ := sized_yes (w := w) z hf
    by_cases h1 : 1 ≤ s
    · by_cases h2 : s ≤ 65536
      · have h3 : ¬ s * z ≤ 16777216 := fun e => h ⟨hf, h1, h2, e⟩
        have hm := (mul_b hf h1 h2).2
        have hm0 := (mul_b hf h1 h2).1
        clear hf h
        go_enter Try.func9, Try.ntmps9
        go_wp2_with (go_at_call 21; refine Calls.mono HF.out ?_; rintro e w9 ⟨rfl, h9⟩; subst h9)
        go_ret2
        exact ⟨rfl, rfl⟩
      · clear hf h
        go_enter Try.func9, Try.ntmps9
        go_wp2_with (go_at_call 21; refine Calls.mono HF.out ?_; rintro e w9 ⟨rfl, h9⟩; subst h9)
        go_ret2
        exact ⟨rfl, rfl⟩
    · clear hf h
      go_enter Try.func9, Try.ntmps9
      go_wp2_with (go_at_call 21; refine Calls.mono HF.out ?_; rintro e w9 ⟨rfl, h9⟩; subst h9)
      go_ret2
      exact ⟨rfl, rfl⟩
  · have HF : Hid _ := sized_no (w := w) z hf
    clear hf h
    go_enter Try.func9, Try.ntmps9
    go_wp2_with (go_at_call 21; refine Calls.mono HF.out ?_; rintro e w9 ⟨rfl, h9⟩; subst h9)
    go_ret2
    exact ⟨rfl, rfl⟩
end Go.Proofs.Ytddnecfnjnipjaa
