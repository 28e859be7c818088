/-
  The current segment: the code's and the reference's.
-/
import Derived.Test.YtnfcmpffihmnmaaSgQ
namespace Go.Proofs.Ytnfcmpffihmnmaa
open Go.RowKit

/-- The current segment of the first marks, and its serial. -/
def curF (ms : Nat → Mk) : Nat → Int × Int
  | 0 => (-1, 0)
  | j + 1 => if (curF ms j).2 < (ms j).se then ((j : Int), (ms j).se) else curF ms j

set_option maxRecDepth 100000 in
set_option maxHeartbeats 4000000 in
theorem cur_any {w : World} {Av : Nat → Prop} {A : Option Addr} {n c : Nat} {ms : Nat → Mk} (hr : RowsIn w Av A n 2 (fun i => (ms i).cells)) (hn : n ≤ 9223372036854775806) :
    Calls Try.prog 23 #[.slice A n c] w fun e w' => e = .returned (.int .i64 (curF ms n).1) ∧ Chg (fun _ => False) w w' := by
  have HR : Hid _ := hr
  clear hr
  go_enter Try.func23, Try.ntmps23
  go_wp2_with fail
  go_loopw [3, 4, 9] (fun s3 s4 s9 wr => ∃ (j : Nat) (x y : Int), s3 = .int .i64 x ∧ s4 = .int .u64 y ∧ s9 = .int .i64 j ∧ j ≤ n ∧ Hid (curF ms j = (x, y) ∧ Chg (fun _ => False) w wr)) (fun _ _ s9 _ => n - (intOf s9).toNat)
  case atStart => exact ⟨0, -1, 0, rfl, rfl, rfl, Nat.zero_le _, rfl, Chg.refl _ _⟩
  case round =>
    obtain ⟨j, x, y, rfl, rfl, rfl, hj, hid⟩ := hrel
    obtain ⟨hc, ch⟩ := hid.out
    have HC : Hid _ := hc
    have CH : Hid _ := ch
    clear hid hc ch
    by_cases hlt : j < n
    · obtain ⟨k, hk⟩ : ∃ k, k = ms j := ⟨_, rfl⟩
      obtain ⟨g, o, hsa, hav, hrg⟩ := HR.out j hlt
      have hrg : w.rangeAt g (o + j * 2) k.cells := by rw [hk]; exact hrg
      have hix := ix_at Try.underlying23 Try.elem23 Try.so45 (c := c) hsa hlt
      have RG : Hid (wr.rangeAt g (o + j * 2) k.cells) := rangeAt_kept hrg CH.out (fun e => e)
      have HKK : Hid _ := hk
      clear hrg hk hsa hav
      go_upto_region 5 with (first
        | refine wpList_load_mid rfl 45 (.tmp 12) rfl g (o + j * 2) rfl k.cells _ RG.out Try.underlying45 rfl (Try.mkSz k) ?_
        | (refine wpList_store_part rfl 45 (.tmp 6) (.tmp 13) rfl wr.heap.size 0 k.cells rfl rfl (t := 45) ⟨heap_alloc_new _ _⟩ (by simp [Mk.cells]) (Try.mkSz k) (k.one) ?_; intro wB hw8 hc8; rw [splice_all _ _ (by simp [Mk.cells])] at hw8; have c8 : Chg (fun _ => False) wr wB := ((Chg.refl (fun _ => False) wr).alloc _).trans hc8 (fun i e => .inr (by omega)); have BK : Hid _ := hw8; have CB : Hid _ := c8; clear hw8 hc8 c8))
      have C9 : Hid (Chg (fun _ => False) w wB) := CH.out.trans CB.out (fun _ e => e.elim)
      have q0 : wB.cell? ⟨wr.heap.size, 0, none⟩ = some (.int .u64 k.se) := BK.out.cell 0
      clear hix CB BK CH
      by_cases l0 : y < k.se
      · have F : Hid (∀ nq, curF ms (j + 1) = ((j : Int), k.se) ∧ Chg (fun _ => False) w (wB.drewN nq)) := fun nq => ⟨by rw [curF, HC.out, ← HKK.out]; exact if_pos l0, C9.out.os, C9.out.tape, C9.out.output, C9.out.size, C9.out.block⟩
        go_wp2_with fail
        go_quiet (fail)
        go_wp2_with fail
        go_roundw
        case rel => exact ⟨j + 1, j, k.se, rfl, rfl, by go_num, by omega, F.out _⟩
        case measure => simp [intOf]; omega
      · have F : Hid (curF ms (j + 1) = (x, y)) := by
          show curF ms (j + 1) = (x, y)
          rw [curF, HC.out, ← HKK.out]
          exact if_neg l0
        go_wp2_with fail
        go_roundw
        case rel => exact ⟨j + 1, x, y, rfl, rfl, by go_num, by omega, F.out, C9.out⟩
        case measure => simp [intOf]; omega
    · have e : j = n := by omega
      have F : Hid ((curF ms n).1 = x) := by
        show (curF ms n).1 = x
        rw [← e, HC.out]
      go_wp2_with fail
      go_ret
      exact ⟨by rw [F.out]; rfl, CH.out⟩

set_option maxRecDepth 100000 in
set_option maxHeartbeats 4000000 in
theorem xcur_any {w : World} {Av : Nat → Prop} {A : Option Addr} {n c : Nat} {ms : Nat → Mk} (hr : RowsIn w Av A n 2 (fun i => (ms i).cells)) (hn : n ≤ 9223372036854775806) :
    Calls Try.prog 26 #[.slice A n c] w fun e w' => e = .returned (.int .i64 (curF ms n).1) ∧ Chg (fun _ => False) w w' := by
  have HR : Hid _ := hr
  clear hr
  go_enter Try.func26, Try.ntmps26
  go_wp2_with fail
  go_loopw [3, 4, 9] (fun s3 s4 s9 wr => ∃ (j : Nat) (x y : Int), s3 = .int .i64 x ∧ s4 = .int .u64 y ∧ s9 = .int .i64 j ∧ j ≤ n ∧ Hid (curF ms j = (x, y) ∧ Chg (fun _ => False) w wr)) (fun _ _ s9 _ => n - (intOf s9).toNat)
  case atStart => exact ⟨0, -1, 0, rfl, rfl, rfl, Nat.zero_le _, rfl, Chg.refl _ _⟩
  case round =>
    obtain ⟨j, x, y, rfl, rfl, rfl, hj, hid⟩ := hrel
    obtain ⟨hc, ch⟩ := hid.out
    have HC : Hid _ := hc
    have CH : Hid _ := ch
    clear hid hc ch
    by_cases hlt : j < n
    · obtain ⟨k, hk⟩ : ∃ k, k = ms j := ⟨_, rfl⟩
      obtain ⟨g, o, hsa, hav, hrg⟩ := HR.out j hlt
      have hrg : w.rangeAt g (o + j * 2) k.cells := by rw [hk]; exact hrg
      have hix := ix_at Try.underlying23 Try.elem23 Try.so45 (c := c) hsa hlt
      have RG : Hid (wr.rangeAt g (o + j * 2) k.cells) := rangeAt_kept hrg CH.out (fun e => e)
      have HKK : Hid _ := hk
      clear hrg hk hsa hav
      go_upto_region 6 with (first
        | refine wpList_load_mid rfl 45 (.tmp 12) rfl g (o + j * 2) rfl k.cells _ RG.out Try.underlying45 rfl (Try.mkSz k) ?_
        | (refine wpList_store_part rfl 45 (.tmp 6) (.tmp 13) rfl wr.heap.size 0 k.cells rfl rfl (t := 45) ⟨heap_alloc_new _ _⟩ (by simp [Mk.cells]) (Try.mkSz k) (k.one) ?_; intro wB hw8 hc8; rw [splice_all _ _ (by simp [Mk.cells])] at hw8; have c8 : Chg (fun _ => False) wr wB := ((Chg.refl (fun _ => False) wr).alloc _).trans hc8 (fun i e => .inr (by omega)); have BK : Hid _ := hw8; have CB : Hid _ := c8; clear hw8 hc8 c8))
      have C9 : Hid (Chg (fun _ => False) w wB) := CH.out.trans CB.out (fun _ e => e.elim)
      have q0 : wB.cell? ⟨wr.heap.size, 0, none⟩ = some (.int .u64 k.se) := BK.out.cell 0
      clear hix CB BK CH
      by_cases l0 : y < k.se
      · have F : Hid (curF ms (j + 1) = ((j : Int), k.se) ∧ Chg (fun _ => False) w wB) := ⟨by rw [curF, HC.out, ← HKK.out]; exact if_pos l0, C9.out⟩
        go_wp2_with fail
        go_roundw
        case rel => exact ⟨j + 1, j, k.se, rfl, rfl, by go_num, by omega, F.out⟩
        case measure => simp [intOf]; omega
      · have F : Hid (curF ms (j + 1) = (x, y)) := by
          show curF ms (j + 1) = (x, y)
          rw [curF, HC.out, ← HKK.out]
          exact if_neg l0
        go_wp2_with fail
        go_roundw
        case rel => exact ⟨j + 1, x, y, rfl, rfl, by go_num, by omega, F.out, C9.out⟩
        case measure => simp [intOf]; omega
    · have e : j = n := by omega
      have F : Hid ((curF ms n).1 = x) := by
        show (curF ms n).1 = x
        rw [← e, HC.out]
      go_wp2_with fail
      go_ret
      exact ⟨by rw [F.out]; rfl, CH.out⟩
end Go.Proofs.Ytnfcmpffihmnmaa
