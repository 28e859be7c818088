/-
  Tail; marks and tails that are the same.
-/
import Derived.Test.YtnfcmpffihmnmaaSgV
namespace Go.Proofs.Ytnfcmpffihmnmaa
open Go.RowKit

/-- A log's cells. -/
def lgC (p : Nat) (sp : Int) (A : Option Addr) (n c : Nat) (S C : Int) (H : Option Addr) (hc : Nat) : List Value := [.pointer (some ⟨p, 0, none⟩), .int .i64 sp, .slice A n c, .int .u64 S, .int .i64 C, .slice H n hc, .int .i64 0]

set_option maxRecDepth 100000 in
set_option maxHeartbeats 2000000 in
theorem tail_any {w : World} {Av Av2 : Nat → Prop} {a h : Addr} {q p n c hc : Nat} {sp S C : Int} {ms : Nat → Mk} (hb : Blk w q (lgC p sp (some a) n c S C (some h) hc) 67) (hr : RowsIn w Av (some a) n 2 (mF ms)) (hh : RowsIn w Av2 (some h) n 1 bF) (hn : n ≤ 65536) :
    Calls Try.prog 12 #[.pointer (some ⟨q, 0, none⟩)] w fun e w' => ∃ A cc H hcc, e = .returned (.agg (tlC A n cc S C H hcc).toArray) ∧ NL w' w.heap.size A n 2 (mF ms) ∧ NL w' w.heap.size H n 1 bF ∧ Chg (fun _ => False) w w' := by
  obtain ⟨X, hX⟩ : ∃ X, X = w.heap.size := ⟨_, rfl⟩
  obtain ⟨W, hW⟩ : ∃ W, W = w.alloc (.cells #[.slice none 0 0, .int .u64 0, .int .i64 0, .slice none 0 0] 56) := ⟨_, rfl⟩
  have cW : Chg (fun _ => False) w W := by rw [hW]; exact (Chg.refl _ _).alloc _
  have b1 : Blk W X [.slice none 0 0, .int .u64 0, .int .i64 0, .slice none 0 0] 56 := by rw [hW, hX]; exact Blk.made _ _ _
  have CP : Hid _ := copied_any (c := c) (hc := hc) (S := S) (C := C) (hr.kept cW (fun _ _ e => e)) (hh.kept cW (fun _ _ e => e)) hn
  have BQ : Hid _ := hb.keep cW (fun e => e)
  have B1 : Hid _ := b1
  have CW : Hid _ := cW
  have HX : Hid (X = w.heap.size ∧ X + 1 ≤ W.heap.size) := ⟨hX, b1.lt⟩
  clear hr hh cW b1 hb
  go_enter Try.func12, Try.ntmps12
  go_upto_region 1 with fail
  rw [← hX, ← hW]
  clear hX hW
  go_wp2_with (first
    | refine wpList_load_part rfl 56 (.tmp 5) rfl q 2 (tlC (some a) n c S C (some h) hc) rfl BQ.out rfl Try.underlying56 rfl Try.tlSz ?_
    | (go_at_call 22; refine Calls.mono CP.out ?_; rintro e w1 ⟨A, cc, H, hcc, rfl, n1, n2, hch⟩; have N1 : Hid (NL w1 W.heap.size A n 2 (mF ms) ∧ NL w1 W.heap.size H n 1 bF) := ⟨n1, n2⟩; have CH1 : Hid _ := hch; clear n1 n2 hch)
    | (refine wpList_store_part rfl 56 (.tmp 2) (.tmp 7) rfl X 0 (tlC A n cc S C H hcc) rfl rfl (B1.out.keep CH1.out (fun e => e)) (by simp [tlC]) Try.tlSz (tlC_one _ _ _ _ _ _ _) ?_; intro wB hw8 hc8; rw [splice_all _ _ (by simp [tlC])] at hw8; have BK : Hid _ := hw8; have CB : Hid _ := hc8; clear hw8 hc8))
  refine bodyPost_ret (results_row rfl _ _ X 56 _ _ rfl BK.out Try.underlying56 rfl Try.tlSz) rfl ?_
  have hX := HX.out
  refine ⟨A, cc, H, hcc, rfl, NL.mono (NL.kept N1.out.1 CB.out (fun g hg => by omega)) CW.out.size, NL.mono (NL.kept N1.out.2 CB.out (fun g hg => by omega)) CW.out.size, ?_⟩
  exact (CW.out.trans CH1.out (fun i e => e.elim)).trans CB.out (fun i e => .inr (by omega))

set_option maxRecDepth 100000 in
set_option maxHeartbeats 2000000 in
theorem sameM_any {w : World} {Av Av2 : Nat → Prop} {A B : Option Addr} {n ca cb : Nat} {ms : Nat → Mk} (hA : RowsIn w Av A n 2 (mF ms)) (hB : RowsIn w Av2 B n 2 (mF ms)) (hn : n ≤ 65536) :
    Calls Try.prog 25 #[.slice A n ca, .slice B n cb] w fun e w' => e = .returned (.bool true) ∧ Chg (fun _ => False) w w' := by
  have HA : Hid _ := hA
  have HB : Hid _ := hB
  clear hA hB
  go_enter Try.func25, Try.ntmps25
  go_wp2_with fail
  go_loopw [13] (fun i wr => ∃ j : Nat, j ≤ n ∧ i = .int .i64 j ∧ Hid (Chg (fun _ => False) w wr)) (fun i _ => n - (intOf i).toNat)
  case atStart => exact ⟨0, Nat.zero_le _, rfl, Chg.refl _ _⟩
  case round =>
    obtain ⟨j, hj, rfl, hid⟩ := hrel
    by_cases hlt : j < n
    · obtain ⟨g, o, hsa, _, hrg⟩ := HA.out j hlt
      obtain ⟨g2, o2, hsb, _, hrg2⟩ := HB.out j hlt
      have hix := ix_at Try.underlying23 Try.elem23 Try.so45 (c := ca) hsa hlt
      have hiy := ix_at Try.underlying23 Try.elem23 Try.so45 (c := cb) hsb hlt
      obtain ⟨k, hk⟩ : ∃ k, k = ms j := ⟨_, rfl⟩
      have r1 := rangeAt_kept hrg hid.out (fun e => e)
      have r2 := rangeAt_kept hrg2 hid.out (fun e => e)
      have a0 := r1 0 (.int .u64 k.se) (by rw [hk]; rfl)
      have a1 := r1 1 (.int .i64 k.us) (by rw [hk]; rfl)
      have b0 := r2 0 (.int .u64 k.se) (by rw [hk]; rfl)
      have b1 := r2 1 (.int .i64 k.us) (by rw [hk]; rfl)
      have C : Hid (∀ nq, Chg (fun _ => False) w (wr.drewN nq)) := fun nq => ⟨hid.out.os, hid.out.tape, hid.out.output, hid.out.size, hid.out.block⟩
      have EQ := eqs45 k.se k.us
      rw [Nat.add_zero] at a0 b0
      clear hsa hsb hrg hrg2 hk r1 r2 hid
      go_wp2_with fail
      go_quiet (fail)
      go_wp2_with fail
      go_roundw
      case rel => exact ⟨j + 1, by omega, by go_num, C.out _⟩
      case measure => simp [intOf]; omega
    · have e : j = n := by omega
      go_wp2_with fail
      go_ret
      exact ⟨rfl, hid.out⟩

set_option maxRecDepth 100000 in
set_option maxHeartbeats 2000000 in
theorem sameT_any {w : World} {V1 V2 V3 V4 : Nat → Prop} {A B H G : Option Addr} {n ca cb ch cg : Nat} {S C : Int} {ms : Nat → Mk} (hA : RowsIn w V1 A n 2 (mF ms)) (hB : RowsIn w V2 B n 2 (mF ms)) (hH : RowsIn w V3 H n 1 bF) (hG : RowsIn w V4 G n 1 bF) (hn : n ≤ 65536) :
    Calls Try.prog 11 #[.agg (tlC A n ca S C H ch).toArray, .agg (tlC B n cb S C G cg).toArray] w fun e w' => e = .returned (.bool true) ∧ Chg (fun _ => False) w w' := by
  obtain ⟨X, hX⟩ : ∃ X, X = w.heap.size := ⟨_, rfl⟩
  obtain ⟨W, hW⟩ : ∃ W, W = (w.alloc (.cells (tlC A n ca S C H ch).toArray 56)).alloc (.cells (tlC B n cb S C G cg).toArray 56) := ⟨_, rfl⟩
  have cW : Chg (fun _ => False) w W := by rw [hW]; exact ((Chg.refl _ _).alloc _).alloc _
  have b0 : Blk W X (tlC A n ca S C H ch) 56 := by rw [hW, hX]; exact (Blk.made w _ 56).alloc _
  have b1 : Blk W (X + 1) (tlC B n cb S C G cg) 56 := by
    have := Blk.made (w.alloc (.cells (tlC A n ca S C H ch).toArray 56)) (tlC B n cb S C G cg) 56
    rw [World.size_alloc, ← hX] at this
    rw [hW]
    exact this
  have SM : Hid _ := sameM_any (ca := ca) (cb := cb) (hA.kept cW (fun _ _ e => e)) (hB.kept cW (fun _ _ e => e)) hn
  have RH : Hid _ := hH.kept cW (fun _ _ e => e)
  have RG : Hid _ := hG.kept cW (fun _ _ e => e)
  have CW : Hid _ := cW
  have B0 : Hid _ := b0
  have B1 : Hid _ := b1
  have k0 : W.cell? ⟨X, 0, none⟩ = some (.slice A n ca) := b0.cell 0
  have k1 : W.cell? ⟨X, 1, none⟩ = some (.int .u64 S) := b0.cell 1
  have k2 : W.cell? ⟨X, 2, none⟩ = some (.int .i64 C) := b0.cell 2
  have k3 : W.cell? ⟨X, 3, none⟩ = some (.slice H n ch) := b0.cell 3
  have l0 : W.cell? ⟨X + 1, 0, none⟩ = some (.slice B n cb) := b1.cell 0
  have l1 : W.cell? ⟨X + 1, 1, none⟩ = some (.int .u64 S) := b1.cell 1
  have l2 : W.cell? ⟨X + 1, 2, none⟩ = some (.int .i64 C) := b1.cell 2
  have l3 : W.cell? ⟨X + 1, 3, none⟩ = some (.slice G n cg) := b1.cell 3
  clear hA hB hH hG cW b0 b1
  go_enter Try.func11, Try.ntmps11
  go_upto_region 1 with fail
  rw [← hX, ← hW]
  clear hX hW
  go_upto_region 3 with (go_at_call 25; refine Calls.mono SM.out ?_; rintro e w1 ⟨rfl, hch⟩; have CH1 : Hid _ := hch; clear hch)
  have x3 : w1.cell? ⟨X, 3, none⟩ = some (.slice H n ch) := (B0.out.keep CH1.out (fun e => e)).cell 3
  clear k0 k1 k2 k3 l0 l1 l2 l3 SM
  go_wp2_with fail
  clear x3
  go_loopw [38] (fun i wr => ∃ j : Nat, j ≤ n ∧ i = .int .i64 j ∧ Hid (Chg (fun _ => False) W wr)) (fun i _ => n - (intOf i).toNat)
  case atStart => exact ⟨0, Nat.zero_le _, rfl, CH1.out⟩
  case round =>
    obtain ⟨j, hj, rfl, hid⟩ := hrel
    by_cases hlt : j < n
    · obtain ⟨g, o, hsa, _, hrg⟩ := RH.out j hlt
      obtain ⟨g2, o2, hsb, _, hrg2⟩ := RG.out j hlt
      have hix := ix_at Try.underlying54 Try.elem54 Try.so4 (c := ch) hsa hlt
      have hiy := ix_at Try.underlying54 Try.elem54 Try.so4 (c := cg) hsb hlt
      have r1 := rangeAt_kept hrg hid.out (fun e => e)
      have r2 := rangeAt_kept hrg2 hid.out (fun e => e)
      have a0 := r1 0 (.bool false) rfl
      have b0 := r2 0 (.bool false) rfl
      have x3 : wr.cell? ⟨X, 3, none⟩ = some (.slice H n ch) := (B0.out.keep hid.out (fun e => e)).cell 3
      have y3 : wr.cell? ⟨X + 1, 3, none⟩ = some (.slice G n cg) := (B1.out.keep hid.out (fun e => e)).cell 3
      have C : Hid (∀ nq, Chg (fun _ => False) W (wr.drewN nq)) := fun nq => ⟨hid.out.os, hid.out.tape, hid.out.output, hid.out.size, hid.out.block⟩
      rw [Nat.add_zero, Nat.mul_one] at a0 b0
      simp only [Nat.mul_one] at hix hiy
      clear hsa hsb hrg hrg2 r1 r2 hid
      go_wp2_with fail
      go_quiet (fail)
      go_wp2_with fail
      go_roundw
      case rel => exact ⟨j + 1, by omega, by go_num, C.out _⟩
      case measure => simp [intOf]; omega
    · have e : j = n := by omega
      go_wp2_with fail
      go_ret
      exact ⟨rfl, CW.out.trans hid.out (fun _ e => e.elim)⟩
end Go.Proofs.Ytnfcmpffihmnmaa
