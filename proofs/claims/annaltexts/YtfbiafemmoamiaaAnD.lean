/-
  slices.Grow of nothing, slices.Concat of three, and ForkText.
-/
import Derived.Test.YtfbiafemmoamiaaAnL
import Derived.Test.YtfbiafemmoamiaaAnR
import Derived.Lib.AppendZeros
namespace Go.Proofs.Ytfbiafemmoamiaa
open Go.RowKit

theorem grow_made (w : World) (n : Nat) (hn : n ≤ 140737488355328) :
    Made w (w.drew.alloc (.cells (Builtin.zeroCells (Value.int .u8 0).cells n ++ Builtin.zeroCells (Value.int .u8 0).cells (grownCap w n 0 5 - n)) 5)) (.slice (some ⟨w.heap.size, 0, none⟩) 0 (grownCap w n 0 5)) [] := by
  have g1 := grownCap_ge w n 0 5
  have g2 := grownCap_le_maxLen w n 0 5 (by unfold maxLen; omega)
  have e1 : (Value.int .u8 0).cells.size = 1 := rfl
  refine ⟨⟨rfl, .inr ⟨w.heap.size, _, _, rfl, Nat.zero_le _, heap_alloc_new _ _, Nat.zero_le _, g2, ?_, ?_⟩⟩, ?_, fun k hk => ?_⟩
  · rw [Array.size_append, size_zeroCells, size_zeroCells, e1]
    omega
  · rfl
  · exact (Chg.alloc (Chg.drew (Chg.refl (fun _ => False) w)) _).below (Nat.le_refl _) (fun _ h => h.elim)
  · simp [Value.ownBlock] at hk
    omega

set_option maxRecDepth 100000 in
set_option maxHeartbeats 1000000 in
theorem grow_any {w : World} (n : Nat) (h0 : 0 < n) (hn : n ≤ 140737488355328) :
    Calls Try.prog 13 #[.slice none 0 0, .int .i64 n] w fun e w' => ∃ v, e = .returned v ∧ Made w w' v [] := by
  obtain ⟨i0, hi, hz0, hz1, hz2⟩ := info_parts info5
  have R : Hid _ := Lib.run_append_nil_zeros (P := Try.prog) w 28 3 28 5 i0 (.int .u8 0) .i64 .i64 Try.underlying28 Try.underlying3 hi hz0 n h0 (by omega) (by omega) (by rw [hz2]; omega)
  have M : Hid _ := grow_made w n hn
  clear hi hz0 hz1 hz2
  go_enter Try.func13, Try.ntmps13
  go_wp2_with (at_builtin; refine Lib.wpList_append_run _ rfl _ _ _ _ rfl _ _ rfl rfl _ _ R.out ?_)
  go_ret
  exact ⟨_, rfl, M.out⟩

set_option maxRecDepth 100000 in
set_option maxHeartbeats 1000000 in
theorem concat_any {w : World} {g : Nat} {v0 v1 v2 : Value} {l0 l1 l2 : List Int} (c0 : w.cell? ⟨g, 0, none⟩ = some v0) (c1 : w.cell? ⟨g, 1, none⟩ = some v1) (c2 : w.cell? ⟨g, 2, none⟩ = some v2) (s0 : Src w v0 l0) (s1 : Src w v1 l1) (s2 : Src w v2 l2)
    (hl : 0 < l0.length + l1.length + l2.length) (hb : l0.length + l1.length + l2.length ≤ 140737488355328) :
    Calls Try.prog 12 #[.slice (some ⟨g, 0, none⟩) 3 3] w fun e w' => ∃ v, e = .returned v ∧ Made w w' v (l0 ++ l1 ++ l2) := by
  obtain ⟨a0, k0, rfl⟩ := s0.form
  obtain ⟨a1, k1, rfl⟩ := s1.form
  obtain ⟨a2, k2, rfl⟩ := s2.form
  have S0 : Hid _ := s0
  have S1 : Hid _ := s1
  have S2 : Hid _ := s2
  have GR : Hid _ := grow_any (w := w) (l0.length + l1.length + l2.length) hl hb
  have hg : g < w.heap.size := World.block_lt_of_cell? _ _ c0
  clear s0 s1 s2
  go_enter Try.func12, Try.ntmps12
  go_wp2_with fail
  go_loopw [3, 11] (fun sz i wr => ∃ k : Nat, wr = w ∧ k ≤ 3 ∧ i = .int .i64 k ∧ sz = .int .i64 (if k = 0 then 0 else if k = 1 then (l0.length : Int) else if k = 2 then (l0.length : Int) + l1.length else (l0.length : Int) + l1.length + l2.length)) (fun _ i _ => 3 - (intOf i).toNat)
  case atStart => exact ⟨0, rfl, by omega, rfl, rfl⟩
  case round =>
    obtain ⟨k, rfl, hk, rfl, rfl⟩ := hrel
    obtain rfl | rfl | rfl | rfl : k = 0 ∨ k = 1 ∨ k = 2 ∨ k = 3 := by omega
    · go_wp2_with fail
      go_roundw
      case rel => exact ⟨1, trivial, by omega, rfl, by go_num⟩
      case measure => simp [intOf]
    · go_wp2_with fail
      go_roundw
      case rel => exact ⟨2, trivial, by omega, rfl, by go_num⟩
      case measure => simp [intOf]
    · go_wp2_with fail
      go_roundw
      case rel => exact ⟨3, trivial, by omega, rfl, by go_num⟩
      case measure => simp [intOf]
    · have e9 : ((l0.length : Int) + l1.length + l2.length) = ((l0.length + l1.length + l2.length : Nat) : Int) := by omega
      simp only [Nat.reduceEqDiff, if_false, e9]
      clear e9
      go_wp2_with (go_at_call 13; refine Calls.mono GR.out ?_; rintro e w1 ⟨u6, rfl, m1⟩; have M1 : Hid _ := m1; clear m1)
      go_loopw [6, 27] (fun u i wq => ∃ k : Nat, k ≤ 3 ∧ i = .int .i64 k ∧ Hid (Made wr wq u (if k = 0 then [] else if k = 1 then l0 else if k = 2 then l0 ++ l1 else l0 ++ l1 ++ l2))) (fun _ i _ => 3 - (intOf i).toNat)
      case atStart => exact ⟨0, by omega, rfl, M1.out⟩
      case round =>
        obtain ⟨k, hk, rfl, M2⟩ := hrel
        have d0 := (M2.out.2.1.cell hg).trans c0
        have d1 := (M2.out.2.1.cell hg).trans c1
        have d2 := (M2.out.2.1.cell hg).trans c2
        obtain rfl | rfl | rfl | rfl : k = 0 ∨ k = 1 ∨ k = 2 ∨ k = 3 := by omega
        · go_wp2_with (refine wpList_app rfl (.tmp 31) (.tmp 32) rfl (l := []) (m := l0) rfl rfl M2.out.1 (Src.kept0 S0.out M2.out.2.1) (by simp; omega) ?_; intro v' w2 hv hch hat; have R : Hid _ := Made.app M2.out hv hch hat; clear hv hch hat)
          go_roundw
          case rel => exact ⟨1, by omega, rfl, R.out⟩
          case measure => simp [intOf]
        · go_wp2_with (refine wpList_app rfl (.tmp 31) (.tmp 32) rfl (l := l0) (m := l1) rfl rfl M2.out.1 (Src.kept0 S1.out M2.out.2.1) (by omega) ?_; intro v' w2 hv hch hat; have R : Hid _ := Made.app M2.out hv hch hat; clear hv hch hat)
          go_roundw
          case rel => exact ⟨2, by omega, rfl, R.out⟩
          case measure => simp [intOf]
        · go_wp2_with (refine wpList_app rfl (.tmp 31) (.tmp 32) rfl (l := l0 ++ l1) (m := l2) rfl rfl M2.out.1 (Src.kept0 S2.out M2.out.2.1) (by simp; omega) ?_; intro v' w2 hv hch hat; have R : Hid _ := Made.app M2.out hv hch hat; clear hv hch hat)
          go_roundw
          case rel => exact ⟨3, by omega, rfl, R.out⟩
          case measure => simp [intOf]
        · go_wp2_with fail
          go_ret
          exact ⟨_, rfl, M2.out⟩
end Go.Proofs.Ytfbiafemmoamiaa
