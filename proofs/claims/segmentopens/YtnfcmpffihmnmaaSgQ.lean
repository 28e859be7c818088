/-
  The disks that are made; counts and sizes.
-/
import Derived.Test.YtnfcmpffihmnmaaSgP
namespace Go.Proofs.Ytnfcmpffihmnmaa
open Go.RowKit

/-- A size that a disk may have. -/
def fits (z : Int) : Prop := z = 128 ∨ z = 256 ∨ z = 512 ∨ z = 1024 ∨ z = 2048 ∨ z = 4096

theorem and_fits {z : Int} (h0 : 128 ≤ z) (h1 : z ≤ 4096) : bits .and .i64 z (z - 1) = 0 ↔ fits z := by
  have key : ∀ a : Fin 65, ∀ b : Fin 64, (128 ≤ 64 * a.val + b.val → (bits .and .i64 ((64 * a.val + b.val : Nat) : Int) (((64 * a.val + b.val : Nat) : Int) - 1) = 0 ↔ (64 * a.val + b.val = 128 ∨ 64 * a.val + b.val = 256 ∨ 64 * a.val + b.val = 512 ∨ 64 * a.val + b.val = 1024 ∨ 64 * a.val + b.val = 2048 ∨ 64 * a.val + b.val = 4096))) ∨ 4096 < 64 * a.val + b.val := by decide +kernel
  have := key ⟨z.toNat / 64, by omega⟩ ⟨z.toNat % 64, by omega⟩
  simp only at this
  rw [Nat.div_add_mod] at this
  rw [show ((z.toNat : Nat) : Int) = z by omega] at this
  have := (this.resolve_right (by omega)) (by omega)
  rw [this]
  unfold fits
  omega

set_option maxRecDepth 100000 in
set_option maxHeartbeats 1000000 in
theorem fit_yes {w : World} (z : Int) (h : fits z) : Calls Try.prog 17 #[.int .i64 z] w fun e w' => e = .returned (.bool true) ∧ w = w' := by
  rcases h with rfl | rfl | rfl | rfl | rfl | rfl <;>
  · go_enter Try.func17, Try.ntmps17
    go_wp2_with fail
    go_ret
    exact ⟨rfl, rfl⟩
set_option maxRecDepth 100000 in
set_option maxHeartbeats 1000000 in
theorem fit_no {w : World} (z : Int) (h : ¬ fits z) : Calls Try.prog 17 #[.int .i64 z] w fun e w' => e = .returned (.bool false) ∧ w = w' := by
  by_cases h0 : 128 ≤ z
  · by_cases h1 : z ≤ 4096
    · have h2 : ¬ bits .and .i64 z (z - 1) = 0 := fun e => h ((and_fits h0 h1).1 e)
      clear h
      go_enter Try.func17, Try.ntmps17
      go_wp2_with fail
      go_ret
      exact ⟨by simp [h2], rfl⟩
    · clear h
      go_enter Try.func17, Try.ntmps17
      go_wp2_with fail
      go_ret
      exact ⟨rfl, rfl⟩
  · clear h
    go_enter Try.func17, Try.ntmps17
    go_wp2_with fail
    go_ret
    exact ⟨rfl, rfl⟩

set_option maxRecDepth 100000 in
set_option maxHeartbeats 4000000 in
theorem sized_yes {w : World} (z : Int) (h : fits z) : Calls Try.prog 19 #[.int .i64 z] w fun e w' => e = .returned (.bool true) ∧ w = w' := by
  rcases h with rfl | rfl | rfl | rfl | rfl | rfl <;>
  · go_enter Try.func19, Try.ntmps19
    go_wp2_with fail
    refine wp_loop_rounds 7 ?_
    repeat (rw [rounds_succ]; go_wp2_with fail)
    go_ret
    exact ⟨rfl, rfl⟩
set_option maxRecDepth 100000 in
set_option maxHeartbeats 4000000 in
theorem sized_no {w : World} (z : Int) (h : ¬ fits z) : Calls Try.prog 19 #[.int .i64 z] w fun e w' => e = .returned (.bool false) ∧ w = w' := by
  have n1 : ¬ (128 : Int) = z := fun e => h (by unfold fits; omega)
  have n2 : ¬ (256 : Int) = z := fun e => h (by unfold fits; omega)
  have n3 : ¬ (512 : Int) = z := fun e => h (by unfold fits; omega)
  have n4 : ¬ (1024 : Int) = z := fun e => h (by unfold fits; omega)
  have n5 : ¬ (2048 : Int) = z := fun e => h (by unfold fits; omega)
  have n6 : ¬ (4096 : Int) = z := fun e => h (by unfold fits; omega)
  clear h
  go_enter Try.func19, Try.ntmps19
  go_wp2_with fail
  refine wp_loop_rounds 7 ?_
  repeat (rw [rounds_succ]; go_wp2_with fail)
  go_ret
  exact ⟨rfl, rfl⟩

/-- The sizes that a disk may have. -/
def okDisk (s z : Int) : Prop := fits z ∧ 1 ≤ s ∧ s ≤ 65536 ∧ s * z ≤ 16777216
theorem fits_b {z : Int} (h : fits z) : 128 ≤ z ∧ z ≤ 4096 := by unfold fits at h; omega
theorem mul_b {s z : Int} (hz : fits z) (h0 : 1 ≤ s) (h1 : s ≤ 65536) : 0 ≤ s * z ∧ s * z ≤ 268435456 := by
  have hb := fits_b hz
  exact ⟨Int.mul_nonneg (by omega) (by omega), by
    have := Int.mul_le_mul h1 hb.2 (by omega) (by omega)
    omega⟩

/-- A disk of that many sectors of that size. -/
structure Dk (w : World) (p : Nat) (s z : Int) : Prop where
  s : w.cell? ⟨p, 0, none⟩ = some (.int .i64 s)
  z : w.cell? ⟨p, 1, none⟩ = some (.int .i64 z)
theorem Dk.kept {w w' : World} {p : Nat} {s z : Int} (h : Dk w p s z) {S : Nat → Prop} (c : Chg S w w') (hn : ¬ S p) : Dk w' p s z := ⟨c.cell_some h.s hn, c.cell_some h.z hn⟩

set_option maxRecDepth 100000 in
set_option maxHeartbeats 1000000 in
theorem blank_any {w : World} (s z : Int) :
    Calls Try.prog 18 #[.int .i64 s, .int .i64 z] w fun e w' => ∃ p, e = .returned (.pointer (some ⟨p, 0, none⟩)) ∧ Dk w' p s z ∧ w.heap.size ≤ p ∧ Chg (fun _ => False) w w' := by
  have hmm := @run_makeMap Try.prog
  go_enter Try.func18, Try.ntmps18
  go_wp2_with fail
  go_ret
  refine ⟨_, rfl, ⟨?_, ?_⟩, by omega, ((Chg.refl _ _).alloc _ |>.alloc _).alloc _⟩
  · rw [cell_of_row _ _ _ _ _ _ (by have := heap_alloc_new ((w.alloc (.map #[] 0)).alloc (.map #[] 0)); simpa using this _)]
    rfl
  · rw [cell_of_row _ _ _ _ _ _ (by have := heap_alloc_new ((w.alloc (.map #[] 0)).alloc (.map #[] 0)); simpa using this _)]
    rfl

set_option maxRecDepth 100000 in
set_option maxHeartbeats 2000000 in
theorem new_yes {w : World} (s z : Int) (h : okDisk s z) :
    Calls Try.prog 7 #[.int .i64 s, .int .i64 z] w fun e w' => ∃ p, e = .returned (.tuple #[.pointer (some ⟨p, 0, none⟩), .int .i64 0]) ∧ Dk w' p s z ∧ w.heap.size ≤ p ∧ Chg (fun _ => False) w w' := by
  obtain ⟨hf, h1, h2, h3⟩ := h
  have hm := (mul_b hf h1 h2).1
  have HF : Hid _ := fit_yes (w := w) z hf
  have HB : Hid _ := blank_any (w := w) s z
  clear hf
  go_enter Try.func7, Try.ntmps7
  go_wp2_with (go_at_call 17; refine Calls.mono HF.out ?_; rintro e w9 ⟨rfl, h9⟩; subst h9)
  refine Calls.mono HB.out ?_
  rintro e w1 ⟨p, rfl, d1, b1, c1⟩
  have D1 : Hid _ := And.intro d1 (And.intro b1 c1)
  clear d1 b1 c1
  go_wp2_with fail
  refine bodyPost_ret (results_tt rfl _ _) rfl ?_
  exact ⟨p, rfl, D1.out⟩

set_option maxRecDepth 100000 in
set_option maxHeartbeats 2000000 in
theorem new_no {w : World} (s z : Int) (h : ¬ okDisk s z) :
    Calls Try.prog 7 #[.int .i64 s, .int .i64 z] w fun e w' => e = .returned (.tuple #[.pointer none, .int .i64 30]) ∧ w = w' := by
  by_cases hf : fits z
  · have HF : Hid _ := fit_yes (w := w) z hf
    by_cases h1 : 1 ≤ s
    · by_cases h2 : s ≤ 65536
      · have h3 : ¬ s * z ≤ 16777216 := fun e => h ⟨hf, h1, h2, e⟩
        have hm := (mul_b hf h1 h2).2
        have hm0 := (mul_b hf h1 h2).1
        clear hf h
        go_enter Try.func7, Try.ntmps7
        go_wp2_with (go_at_call 17; refine Calls.mono HF.out ?_; rintro e w9 ⟨rfl, h9⟩; subst h9)
        refine bodyPost_ret (results_tt rfl _ _) rfl ?_
        exact ⟨rfl, rfl⟩
      · clear hf h
        go_enter Try.func7, Try.ntmps7
        go_wp2_with (go_at_call 17; refine Calls.mono HF.out ?_; rintro e w9 ⟨rfl, h9⟩; subst h9)
        refine bodyPost_ret (results_tt rfl _ _) rfl ?_
        exact ⟨rfl, rfl⟩
    · clear hf h
      go_enter Try.func7, Try.ntmps7
      go_wp2_with (go_at_call 17; refine Calls.mono HF.out ?_; rintro e w9 ⟨rfl, h9⟩; subst h9)
      refine bodyPost_ret (results_tt rfl _ _) rfl ?_
      exact ⟨rfl, rfl⟩
  · have HF : Hid _ := fit_no (w := w) z hf
    clear hf h
    go_enter Try.func7, Try.ntmps7
    go_wp2_with (go_at_call 17; refine Calls.mono HF.out ?_; rintro e w9 ⟨rfl, h9⟩; subst h9)
    refine bodyPost_ret (results_tt rfl _ _) rfl ?_
    exact ⟨rfl, rfl⟩

set_option maxRecDepth 100000 in
set_option maxHeartbeats 2000000 in
theorem xnew_yes {w : World} (s z : Int) (h : okDisk s z) :
    Calls Try.prog 8 #[.int .i64 s, .int .i64 z] w fun e w' => ∃ p, e = .returned (.tuple #[.pointer (some ⟨p, 0, none⟩), .int .i64 0]) ∧ Dk w' p s z ∧ w.heap.size ≤ p ∧ Chg (fun _ => False) w w' := by
  obtain ⟨hf, h1, h2, h3⟩ := h
  have hm := (mul_b hf h1 h2).1
  have HF : Hid _ := sized_yes (w := w) z hf
  clear hf
  go_enter Try.func8, Try.ntmps8
  go_wp2_with (go_at_call 19; refine Calls.mono HF.out ?_; rintro e w9 ⟨rfl, h9⟩; subst h9)
  refine bodyPost_ret (results_tt rfl _ _) rfl ?_
  refine ⟨_, rfl, ⟨?_, ?_⟩, Nat.le_refl _, (Chg.refl _ _).alloc _⟩
  · rw [cell_of_row _ _ _ _ _ _ (heap_alloc_new _ _)]
    rfl
  · rw [cell_of_row _ _ _ _ _ _ (heap_alloc_new _ _)]
    rfl

set_option maxRecDepth 100000 in
set_option maxHeartbeats 2000000 in
theorem xnew_no {w : World} (s z : Int) (h : ¬ okDisk s z) :
    Calls Try.prog 8 #[.int .i64 s, .int .i64 z] w fun e w' => e = .returned (.tuple #[.pointer none, .int .i64 30]) ∧ w = w' := by
  by_cases hf : fits z
  · have HF : Hid _ := sized_yes (w := w) z hf
    by_cases h1 : 1 ≤ s
    · by_cases h2 : s ≤ 65536
      · have h3 : ¬ s * z ≤ 16777216 := fun e => h ⟨hf, h1, h2, e⟩
        have hm := (mul_b hf h1 h2).2
        have hm0 := (mul_b hf h1 h2).1
        clear hf h
        go_enter Try.func8, Try.ntmps8
        go_wp2_with (go_at_call 19; refine Calls.mono HF.out ?_; rintro e w9 ⟨rfl, h9⟩; subst h9)
        refine bodyPost_ret (results_tt rfl _ _) rfl ?_
        exact ⟨rfl, rfl⟩
      · clear hf h
        go_enter Try.func8, Try.ntmps8
        go_wp2_with (go_at_call 19; refine Calls.mono HF.out ?_; rintro e w9 ⟨rfl, h9⟩; subst h9)
        refine bodyPost_ret (results_tt rfl _ _) rfl ?_
        exact ⟨rfl, rfl⟩
    · clear hf h
      go_enter Try.func8, Try.ntmps8
      go_wp2_with (go_at_call 19; refine Calls.mono HF.out ?_; rintro e w9 ⟨rfl, h9⟩; subst h9)
      refine bodyPost_ret (results_tt rfl _ _) rfl ?_
      exact ⟨rfl, rfl⟩
  · have HF : Hid _ := sized_no (w := w) z hf
    clear hf h
    go_enter Try.func8, Try.ntmps8
    go_wp2_with (go_at_call 19; refine Calls.mono HF.out ?_; rintro e w9 ⟨rfl, h9⟩; subst h9)
    refine bodyPost_ret (results_tt rfl _ _) rfl ?_
    exact ⟨rfl, rfl⟩

/-- How many segments there are. -/
def cnt (s p : Int) : Int := if p < 1 ∨ s < 2 then 0 else (s - 2) / p
theorem cnt_b {s p : Int} (hs : s ≤ 65536) (hp : 2 ≤ p) : 0 ≤ cnt s p ∧ cnt s p ≤ 32767 := by
  unfold cnt
  split
  · omega
  · refine ⟨Int.ediv_nonneg (by omega) (by omega), ?_⟩
    have : (s - 2) / p * 2 ≤ s - 2 := Int.le_trans (Int.mul_le_mul_of_nonneg_left hp (Int.ediv_nonneg (by omega) (by omega))) (Int.ediv_mul_le _ (by omega))
    omega

set_option maxRecDepth 100000 in
theorem count_any {w : World} (s p : Int) (hs : -9223372036854775808 ≤ s ∧ s ≤ 9223372036854775807) (hp : -9223372036854775808 ≤ p ∧ p ≤ 9223372036854775807) :
    Calls Try.prog 5 #[.int .i64 s, .int .i64 p] w fun e w' => e = .returned (.int .i64 (cnt s p)) ∧ w' = w := by
  by_cases c : p < 1
  · have h : cnt s p = 0 := if_pos (.inl c)
    rw [h]
    go_enter Try.func5, Try.ntmps5
    go_wp2
    go_ret
    exact ⟨rfl, rfl⟩
  · by_cases c2 : s < 2
    · have h : cnt s p = 0 := if_pos (.inr c2)
      rw [h]
      go_enter Try.func5, Try.ntmps5
      go_wp2
      go_ret
      exact ⟨rfl, rfl⟩
    · have h : cnt s p = (s - 2) / p := if_neg (by omega)
      rw [h]
      clear h
      go_enter Try.func5, Try.ntmps5
      go_wp2
      go_ret
      exact ⟨rfl, rfl⟩

set_option maxRecDepth 100000 in
theorem xcount_any {w : World} (s p : Int) (hs : -9223372036854775808 ≤ s ∧ s ≤ 9223372036854775807) (hp : -9223372036854775808 ≤ p ∧ p ≤ 9223372036854775807) :
    Calls Try.prog 6 #[.int .i64 s, .int .i64 p] w fun e w' => e = .returned (.int .i64 (cnt s p)) ∧ w' = w := by
  by_cases c : p < 1
  · have h : cnt s p = 0 := if_pos (.inl c)
    rw [h]
    go_enter Try.func6, Try.ntmps6
    go_wp2
    go_ret
    exact ⟨rfl, rfl⟩
  · by_cases c2 : s < 2
    · have h : cnt s p = 0 := if_pos (.inr c2)
      rw [h]
      go_enter Try.func6, Try.ntmps6
      go_wp2
      go_ret
      exact ⟨rfl, rfl⟩
    · have h : cnt s p = (s - 2) / p := if_neg (by omega)
      rw [h]
      clear h
      go_enter Try.func6, Try.ntmps6
      go_wp2
      go_ret
      exact ⟨rfl, rfl⟩

set_option maxRecDepth 100000 in
theorem sectors_any {w : World} {p : Nat} {s z : Int} (h : Dk w p s z) : Calls Try.prog 20 #[.pointer (some ⟨p, 0, none⟩)] w fun e w' => e = .returned (.int .i64 s) ∧ w' = w := by
  have k := h.s
  go_enter Try.func20, Try.ntmps20
  go_wp2
  go_ret
  exact ⟨rfl, rfl⟩
set_option maxRecDepth 100000 in
theorem dsize_any {w : World} {p : Nat} {s z : Int} (h : Dk w p s z) : Calls Try.prog 27 #[.pointer (some ⟨p, 0, none⟩)] w fun e w' => e = .returned (.int .i64 z) ∧ w' = w := by
  have k := h.z
  go_enter Try.func27, Try.ntmps27
  go_wp2
  go_ret
  exact ⟨rfl, rfl⟩
theorem Dk.drewN {w : World} {p : Nat} {s z : Int} (h : Dk w p s z) (n : Nat) : Dk (w.drewN n) p s z := ⟨h.s, h.z⟩

/-- A log's first two fields. -/
structure Lg (w : World) (q p : Nat) (sp s z : Int) : Prop where
  dp : w.cell? ⟨q, 0, none⟩ = some (.pointer (some ⟨p, 0, none⟩))
  sp : w.cell? ⟨q, 1, none⟩ = some (.int .i64 sp)
  dk : Dk w p s z
theorem Lg.kept {w w' : World} {q p : Nat} {sp s z : Int} (h : Lg w q p sp s z) {S : Nat → Prop} (c : Chg S w w') (hn : ¬ S q) (hp : ¬ S p) : Lg w' q p sp s z := ⟨c.cell_some h.dp hn, c.cell_some h.sp hn, h.dk.kept c hp⟩
theorem Lg.drewN {w : World} {q p : Nat} {sp s z : Int} (h : Lg w q p sp s z) (n : Nat) : Lg (w.drewN n) q p sp s z := ⟨h.dp, h.sp, h.dk.drewN n⟩

/-- What a log and its disk may have. -/
structure LgB (sp s z : Int) : Prop where
  a : 2 ≤ sp ∧ sp ≤ 1024
  b : 128 ≤ z ∧ z ≤ 4096
  c : 1 ≤ s ∧ s ≤ 65536
theorem LgB.m {sp s z : Int} (h : LgB sp s z) : 0 ≤ sp * z ∧ sp * z ≤ 4194304 :=
  ⟨Int.mul_nonneg (by have := h.a; omega) (by have := h.b; omega), by
    have := Int.mul_le_mul h.a.2 h.b.2 (by have := h.b; omega) (by omega)
    omega⟩

set_option maxRecDepth 100000 in
set_option maxHeartbeats 1000000 in
theorem lsize_any {w : World} {q p : Nat} {sp s z : Int} (h : Lg w q p sp s z) (hb : LgB sp s z) : Calls Try.prog 14 #[.pointer (some ⟨q, 0, none⟩)] w fun e w' => e = .returned (.int .i64 (sp * z)) ∧ ∃ m, w' = w.drewN m := by
  have k0 := h.dp
  have k1 := h.sp
  have m1 := hb.m.1
  have m2 := hb.m.2
  have D : Hid (∀ n, Calls Try.prog 27 #[.pointer (some ⟨p, 0, none⟩)] (w.drewN n) fun e w' => e = .returned (.int .i64 z) ∧ w' = w.drewN n) := fun n => dsize_any (h.dk.drewN n)
  clear h hb
  go_enter Try.func14, Try.ntmps14
  go_wp2_with fail
  go_quiet ((go_at_call 27; refine Calls.quiet_of_same (D.out _)))
  go_wp2_with fail
  go_ret
  exact ⟨rfl, _, rfl⟩

set_option maxRecDepth 100000 in
set_option maxHeartbeats 1000000 in
theorem xlsize_any {w : World} {q p : Nat} {sp s z : Int} (h : Lg w q p sp s z) (hb : LgB sp s z) : Calls Try.prog 15 #[.pointer (some ⟨q, 0, none⟩)] w fun e w' => e = .returned (.int .i64 (sp * z)) ∧ ∃ m, w' = w.drewN m := by
  have k0 := h.dp
  have k1 := h.sp
  have k2 := h.dk.z
  have m1 := hb.m.1
  have m2 := hb.m.2
  clear h hb
  go_enter Try.func15, Try.ntmps15
  go_wp2_with fail
  go_quiet (fail)
  go_wp2_with fail
  go_ret
  exact ⟨rfl, _, rfl⟩

set_option maxRecDepth 100000 in
theorem ldisk_any {w : World} {q p : Nat} {sp s z : Int} (h : Lg w q p sp s z) : Calls Try.prog 16 #[.pointer (some ⟨q, 0, none⟩)] w fun e w' => e = .returned (.pointer (some ⟨p, 0, none⟩)) ∧ w' = w := by
  have k0 := h.dp
  go_enter Try.func16, Try.ntmps16
  go_wp2
  go_ret
  exact ⟨rfl, rfl⟩
end Go.Proofs.Ytnfcmpffihmnmaa
