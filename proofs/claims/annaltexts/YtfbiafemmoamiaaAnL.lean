/-
  LeafText.
-/
import Derived.Test.YtfbiafemmoamiaaAnC
namespace Go.Proofs.Ytfbiafemmoamiaa
open Go.RowKit

theorem src_part {w1 : World} {n : Nat} {z : List Int} (hz : z.length = 32) {g : Nat} (h : Blk w1 g (leafC n z) 26) : Src w1 (.slice (some ⟨g, 1, none⟩) 32 32) z :=
  .inr ⟨_, _, by rw [hz], fun j u hu => ⟨rfl, by show w1.cell? ⟨g, 1 + j, none⟩ = _; rw [h.cell, Nat.add_comm]; exact hu⟩⟩

theorem step_fx {W wr : World} {u : Value} {n k : Nat} {x : Int} (hx : (fx n 8)[k]? = some x) (h : Made W wr u ([21] ++ (fx n 8).take k ++ [x])) : Hid (Made W wr u ([21] ++ (fx n 8).take (k + 1))) := by
  have hk : k < (fx n 8).length := (List.getElem?_eq_some_iff.1 hx).1
  have e : (fx n 8)[k] = x := (List.getElem?_eq_some_iff.1 hx).2
  show Made _ _ _ _
  rw [List.take_succ_eq_append_getElem hk, e, ← List.append_assoc]
  exact h

set_option maxRecDepth 100000 in
set_option maxHeartbeats 4000000 in
theorem leafText_any {w : World} (n : Nat) (hn : n < 18446744073709551616) (z : List Int) (hz : z.length = 32) :
    Calls Try.prog 5 #[.agg (leafC n z).toArray] w fun e w' => ∃ v, e = .returned v ∧ Made w w' v (leafT n z) := by
  obtain ⟨W, hW⟩ : ∃ W, W = w.alloc (.cells (leafC n z).toArray 26) := ⟨_, rfl⟩
  have bb : Below w.heap.size w W := by rw [hW]; exact (Below.refl _ _).alloc (Nat.le_refl _) _
  have BW : Hid _ := bb
  have BL : Hid (Blk W w.heap.size (leafC n z) 26) := by rw [hW]; exact Blk.made _ _ _
  obtain ⟨W1, hW1⟩ : ∃ W1, W1 = W.alloc (.cells (bs [21]).toArray 5) := ⟨_, rfl⟩
  have M1 : Hid (Made W W1 (.slice (some ⟨W.heap.size, 0, none⟩) 1 1) [21]) := by rw [hW1]; exact made_new (Below.refl _ _) [21] (by simp)
  clear bb
  go_enter Try.func5, Try.ntmps5
  go_upto_region 1 with fail
  rw [← hW]
  clear hW
  have hW1' : W.alloc (.cells #[.int .u8 21] 5) = W1 := hW1.symm
  clear hW1
  go_wp2_with fail
  go_loopw [3, 4] (fun u i wr => ∃ k : Nat, k ≤ 8 ∧ i = .int .i64 (56 - 8 * k) ∧ Hid (Made W wr u ([21] ++ (fx n 8).take k))) (fun _ i _ => (intOf i + 8).toNat)
  case atStart => exact ⟨0, by omega, rfl, M1.out⟩
  case round =>
    obtain ⟨k, hk, rfl, M2⟩ := hrel
    have B2 : Hid _ := Blk.keep0 BL.out M2.out.2.1
    have c0 : ∀ o, (wr.alloc o).cell? ⟨w.heap.size, 0, none⟩ = some (.int .u64 n) := fun o => (B2.out.alloc o).cell 0
    have c1 : wr.cell? ⟨w.heap.size, 0, none⟩ = some (.int .u64 n) := B2.out.cell 0
    have hl : (fx n 8).length = 8 := fx_len n 8
    have HL : Hid _ := hl
    clear hl
    have F : Hid _ := fx_eq n
    obtain rfl | rfl | rfl | rfl | rfl | rfl | rfl | rfl | rfl : k = 0 ∨ k = 1 ∨ k = 2 ∨ k = 3 ∨ k = 4 ∨ k = 5 ∨ k = 6 ∨ k = 7 ∨ k = 8 := by omega
    · go_wp2_with (refine wpList_app rfl (.tmp 10) (.tmp 16) rfl (v := u3) (m := [_]) rfl rfl (Made.alloc M2.out _).1 (src_new _ [_] 1) (by simp) ?_; intro v' w2 hv hch hat; have R : Hid _ := Made.app (Made.alloc M2.out _) hv hch hat; clear hv hch hat)
      go_roundw
      case rel => exact ⟨1, by omega, rfl, step_fx (k := 0) (by rw [F.out]; show some _ = some _; congr 1; omega) R.out⟩
      case measure => simp [intOf]
    · go_wp2_with (refine wpList_app rfl (.tmp 10) (.tmp 16) rfl (v := u3) (m := [_]) rfl rfl (Made.alloc M2.out _).1 (src_new _ [_] 1) (by simp [fx_len]) ?_; intro v' w2 hv hch hat; have R : Hid _ := Made.app (Made.alloc M2.out _) hv hch hat; clear hv hch hat)
      go_roundw
      case rel => exact ⟨2, by omega, rfl, step_fx (k := 1) (by rw [F.out]; show some _ = some _; congr 1) R.out⟩
      case measure => simp [intOf]
    · go_wp2_with (refine wpList_app rfl (.tmp 10) (.tmp 16) rfl (v := u3) (m := [_]) rfl rfl (Made.alloc M2.out _).1 (src_new _ [_] 1) (by simp [fx_len]) ?_; intro v' w2 hv hch hat; have R : Hid _ := Made.app (Made.alloc M2.out _) hv hch hat; clear hv hch hat)
      go_roundw
      case rel => exact ⟨3, by omega, rfl, step_fx (k := 2) (by rw [F.out]; show some _ = some _; congr 1) R.out⟩
      case measure => simp [intOf]
    · go_wp2_with (refine wpList_app rfl (.tmp 10) (.tmp 16) rfl (v := u3) (m := [_]) rfl rfl (Made.alloc M2.out _).1 (src_new _ [_] 1) (by simp [fx_len]) ?_; intro v' w2 hv hch hat; have R : Hid _ := Made.app (Made.alloc M2.out _) hv hch hat; clear hv hch hat)
      go_roundw
      case rel => exact ⟨4, by omega, rfl, step_fx (k := 3) (by rw [F.out]; show some _ = some _; congr 1) R.out⟩
      case measure => simp [intOf]
    · go_wp2_with (refine wpList_app rfl (.tmp 10) (.tmp 16) rfl (v := u3) (m := [_]) rfl rfl (Made.alloc M2.out _).1 (src_new _ [_] 1) (by simp [fx_len]) ?_; intro v' w2 hv hch hat; have R : Hid _ := Made.app (Made.alloc M2.out _) hv hch hat; clear hv hch hat)
      go_roundw
      case rel => exact ⟨5, by omega, rfl, step_fx (k := 4) (by rw [F.out]; show some _ = some _; congr 1) R.out⟩
      case measure => simp [intOf]
    · go_wp2_with (refine wpList_app rfl (.tmp 10) (.tmp 16) rfl (v := u3) (m := [_]) rfl rfl (Made.alloc M2.out _).1 (src_new _ [_] 1) (by simp [fx_len]) ?_; intro v' w2 hv hch hat; have R : Hid _ := Made.app (Made.alloc M2.out _) hv hch hat; clear hv hch hat)
      go_roundw
      case rel => exact ⟨6, by omega, rfl, step_fx (k := 5) (by rw [F.out]; show some _ = some _; congr 1) R.out⟩
      case measure => simp [intOf]
    · go_wp2_with (refine wpList_app rfl (.tmp 10) (.tmp 16) rfl (v := u3) (m := [_]) rfl rfl (Made.alloc M2.out _).1 (src_new _ [_] 1) (by simp [fx_len]) ?_; intro v' w2 hv hch hat; have R : Hid _ := Made.app (Made.alloc M2.out _) hv hch hat; clear hv hch hat)
      go_roundw
      case rel => exact ⟨7, by omega, rfl, step_fx (k := 6) (by rw [F.out]; show some _ = some _; congr 1) R.out⟩
      case measure => simp [intOf]
    · go_wp2_with (refine wpList_app rfl (.tmp 10) (.tmp 16) rfl (v := u3) (m := [_]) rfl rfl (Made.alloc M2.out _).1 (src_new _ [_] 1) (by simp [fx_len]) ?_; intro v' w2 hv hch hat; have R : Hid _ := Made.app (Made.alloc M2.out _) hv hch hat; clear hv hch hat)
      go_roundw
      case rel => exact ⟨8, by omega, rfl, step_fx (k := 7) (by rw [F.out]; show some _ = some _; congr 1) R.out⟩
      case measure => simp [intOf]
    · have R : Hid (Made W wr u3 ([21] ++ fx n 8)) := by have := M2.out; rw [List.take_of_length_le (by rw [HL.out]; omega)] at this; exact this
      go_wp2_with (refine wpList_app rfl (.tmp 18) (.tmp 20) rfl (v := u3) (l := [21] ++ fx n 8) (m := z) rfl rfl R.out.1 (src_part hz B2.out) (by simp [fx_len]; omega) ?_; intro v' w2 hv hch hat; have R5 : Hid _ := Made.app R.out hv hch hat; clear hv hch hat)
      go_ret
      exact ⟨_, rfl, Made.outer R5.out BW.out⟩

end Go.Proofs.Ytfbiafemmoamiaa
