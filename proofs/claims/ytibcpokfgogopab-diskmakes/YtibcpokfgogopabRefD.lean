/-
  The reference's Read on a disk on which nothing was done; sameBytes.
-/
import Derived.Test.YtibcpokfgogopabNew2
namespace Go.Proofs.Ytibcpokfgogopab
open Go.RowKit

set_option maxRecDepth 100000 in
set_option maxHeartbeats 1000000 in
theorem xhas_any {w : World} {p : Nat} {s z rd : Int} (h : Rw w p (rdk s z rd) 34) (i : Int) :
    Calls Try.prog 45 #[.pointer (some ⟨p, 0, none⟩), .int .i64 i] w fun e w' => e = .returned (.bool (decide (0 ≤ i ∧ i < s))) ∧ w = w' := by
  have h0 : w.cell? ⟨p, 0, none⟩ = some (.int .i64 s) := h.cell 0
  clear h
  by_cases h1 : 0 ≤ i
  · by_cases h2 : i < s
    · go_enter Try.func45, Try.ntmps45
      go_wp2_with fail
      go_ret
      exact ⟨by simp [h1, h2], rfl⟩
    · go_enter Try.func45, Try.ntmps45
      go_wp2_with fail
      go_ret
      exact ⟨by simp [h2], rfl⟩
  · go_enter Try.func45, Try.ntmps45
    go_wp2_with fail
    go_ret
    exact ⟨by simp; omega, rfl⟩

set_option maxRecDepth 100000 in
set_option maxHeartbeats 1000000 in
theorem over_none {w : World} (d b : Value) (i : Int) :
    Calls Try.prog 65 #[d, b, .int .i64 i, .slice none 0 0] w fun e w' => e = .returned (.tuple #[]) ∧ w = w' := by
  go_enter Try.func65, Try.ntmps65
  go_wp2_with fail
  refine wp_loop_rounds 1 ?_
  rw [rounds_succ]
  go_wp2_with fail
  exact bodyPost_end (results_none rfl _ _ _) rfl ⟨rfl, rfl⟩

set_option maxRecDepth 100000 in
set_option maxHeartbeats 1000000 in
theorem sure_any {w : World} {q : Nat} {s rd : Int} {n : Nat} (h : Rw w q (rdk s n rd) 34) (hn : n ≤ 4096) (i : Int) :
    Calls Try.prog 46 #[.pointer (some ⟨q, 0, none⟩), .int .i64 i] w fun e w' => e = .returned (.slice (some ⟨w.heap.size, 0, none⟩) n n) ∧ w' = w.alloc (.cells (zer n).toArray 5) := by
  have hmk := run_mk n (by omega)
  have h1 : w.cell? ⟨q, 1, none⟩ = some (.int .i64 n) := h.cell 1
  have r2 := h.alloc (.cells (zer n).toArray 5)
  have h2 : (w.alloc (.cells (zer n).toArray 5)).cell? ⟨q, 2, none⟩ = some (.slice none 0 0) := r2.cell 2
  have h3 : (w.alloc (.cells (zer n).toArray 5)).cell? ⟨q, 3, none⟩ = some (.slice none 0 0) := r2.cell 3
  clear h r2
  go_enter Try.func46, Try.ntmps46
  go_wp2_with fail
  refine Calls.mono (over_none _ _ _) ?_
  rintro e w9 ⟨rfl, h9⟩
  subst h9
  go_wp2_with fail
  go_ret
  exact ⟨rfl, rfl⟩

theorem Rw.set8 {w : World} {q : Nat} {s z rd : Int} (h : Rw w q (rdk s z rd) 34) (x : Int) : Rw (w.setCell ⟨q, 8, none⟩ (.int .u64 x)) q (rdk s z x) 34 := h.set 8 _

set_option maxRecDepth 100000 in
set_option maxHeartbeats 2000000 in
theorem xread_yes {w : World} {q : Nat} {s rd : Int} {n : Nat} (h : Rw w q (rdk s n rd) 34) (hn : n ≤ 4096) (i : Int) (h0 : 0 ≤ i) (h1 : i < s) :
    Calls Try.prog 27 #[.pointer (some ⟨q, 0, none⟩), .int .i64 i] w fun e w' => ∃ v, e = .returned (.tuple #[v, .int .i64 0]) ∧ (∃ rd', Rw w' q (rdk s n rd') 34) ∧ Chg (fun k => k = q) w w' ∧ ∃ g, v = .slice (some ⟨g, 0, none⟩) n n ∧ w.heap.size ≤ g ∧ Rw w' g (zer n).toArray 5 := by
  have hhas := xhas_any h i
  rw [decide_eq_true ⟨h0, h1⟩] at hhas
  have HH : Hid _ := hhas
  have h7 : w.cell? ⟨q, 7, none⟩ = some (.bool false) := h.cell 7
  have h8 : w.cell? ⟨q, 8, none⟩ = some (.int .u64 rd) := h.cell 8
  have f8 := h.fr 8
  have H0 : Hid _ := h
  clear h hhas h0 h1
  go_enter Try.func27, Try.ntmps27
  go_wp2_with (go_at_call 45; refine Calls.mono HH.out ?_; rintro e w9 ⟨rfl, h9⟩; subst h9)
  refine Calls.mono (sure_any (Rw.set8 H0.out _) hn i) ?_
  rintro e w1 ⟨rfl, rfl⟩
  obtain ⟨x, hx⟩ : ∃ x, x = IntKind.u64.wrap (rd + 1) := ⟨_, rfl⟩
  obtain ⟨w1, hw1⟩ : ∃ w1, w1 = (w.setCell ⟨q, 8, none⟩ (.int .u64 x)).alloc (.cells (zer n).toArray 5) := ⟨_, rfl⟩
  have r1 : Rw w1 q (rdk s n x) 34 := by rw [hw1]; exact (Rw.set8 H0.out x).alloc _
  have h4 : w1.cell? ⟨q, 4, none⟩ = some (.slice none 0 0) := r1.cell 4
  have R1 : Hid _ := r1
  have hsz : (w.setCell ⟨q, 8, none⟩ (.int .u64 x)).heap.size = w.heap.size := by simp
  have G1 : Hid (Rw w1 w.heap.size (zer n).toArray 5) := by rw [hw1, ← hsz]; exact ⟨heap_alloc_new _ _⟩
  have C1 : Hid (Chg (fun k => k = q) w w1) := by rw [hw1]; exact ((Chg.refl (fun k => k = q) w).setCell (.inl rfl) _).alloc _
  rw [← hx, ← hw1, hsz]
  clear hw1 hsz hx r1 h7 h8 f8 HH
  go_wp2_with fail
  refine wp_loop_rounds 1 ?_
  rw [rounds_succ]
  go_wp2_with fail
  go_ret2
  exact ⟨_, rfl, ⟨x, R1.out⟩, C1.out, w.heap.size, rfl, Nat.le_refl _, G1.out⟩

set_option maxRecDepth 100000 in
set_option maxHeartbeats 2000000 in
theorem xread_no {w : World} {q : Nat} {s z rd : Int} (h : Rw w q (rdk s z rd) 34) (i : Int) (h0 : ¬ (0 ≤ i ∧ i < s)) :
    Calls Try.prog 27 #[.pointer (some ⟨q, 0, none⟩), .int .i64 i] w fun e w' => e = .returned (.tuple #[.slice none 0 0, .int .i64 31]) ∧ w = w' := by
  have hhas := xhas_any h i
  rw [decide_eq_false h0] at hhas
  have HH : Hid _ := hhas
  clear h hhas h0
  go_enter Try.func27, Try.ntmps27
  go_wp2_with (go_at_call 45; refine Calls.mono HH.out ?_; rintro e w9 ⟨rfl, h9⟩; subst h9)
  go_ret2
  exact ⟨rfl, rfl⟩

theorem zer_at (n k : Nat) (h : k < n) : (zer n).toArray[k]? = some (.int .u8 0) := by simp [zer, h]

set_option maxRecDepth 100000 in
set_option maxHeartbeats 1000000 in
theorem same_zer {w : World} {g g2 n : Nat} (h1 : Rw w g (zer n).toArray 5) (h2 : Rw w g2 (zer n).toArray 5) (hn : n ≤ 4096) :
    Calls Try.prog 11 #[.slice (some ⟨g, 0, none⟩) n n, .slice (some ⟨g2, 0, none⟩) n n] w fun e w' => e = .returned (.bool true) ∧ ∃ j, w' = w.drewN j := by
  have H1 : Hid _ := h1
  have H2 : Hid _ := h2
  clear h1 h2
  go_enter Try.func11, Try.ntmps11
  go_wp2_with fail
  go_loopw [5] (fun x wr => ∃ (k j : Nat), x = .int .i64 k ∧ wr = w.drewN j ∧ k ≤ n) (fun x _ => n - (intOf x).toNat)
  case atStart => exact ⟨0, 0, rfl, rfl, Nat.zero_le _⟩
  case round =>
    obtain ⟨k, j, rfl, rfl, hk⟩ := hrel
    by_cases hlt : k < n
    · have hc1 : ∀ j, (w.drewN j).cell? ⟨g, k, none⟩ = some (.int .u8 0) := fun j => (Rw.cell H1.out k).trans (zer_at n k hlt)
      have hc2 : ∀ j, (w.drewN j).cell? ⟨g2, k, none⟩ = some (.int .u8 0) := fun j => (Rw.cell H2.out k).trans (zer_at n k hlt)
      go_wp2_with fail
      go_quiet (fail)
      go_wp2_with fail
      go_roundw
      case rel => exact ⟨k + 1, _, by go_num, rfl, by omega⟩
      case measure => simp [intOf]; omega
    · go_wp2_with fail
      go_ret
      exact ⟨rfl, _, rfl⟩

set_option maxRecDepth 100000 in
set_option maxHeartbeats 1000000 in
theorem same_nil {w : World} :
    Calls Try.prog 11 #[.slice none 0 0, .slice none 0 0] w fun e w' => e = .returned (.bool true) ∧ w = w' := by
  go_enter Try.func11, Try.ntmps11
  go_wp2_with fail
  refine wp_loop_rounds 1 ?_
  rw [rounds_succ]
  go_wp2_with fail
  go_ret
  exact ⟨rfl, rfl⟩
end Go.Proofs.Ytibcpokfgogopab
