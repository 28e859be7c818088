/-
  The walk of digest.Parse.
-/
import Derived.Test.YtfnfmgnebhfacaaHex
import Derived.Test.YtfnfmgnebhfacaaArr
namespace Go.Proofs.Ytfnfmgnebhfacaa
open Go.RowKit

theorem run_index_byt (s : ByteArray) (k : Nat) (h : k < s.size) (w : World) :
    (Instr.index 9 (.string s) (.int .i64 (k : Int))).run Try.prog w = .ok (.int .u8 (byt s k)) w := by
  rw [run_index_string w 9 s .i64 k Try.underlying9, dif_pos ⟨by omega, by omega⟩]
  rw [← byt_at s k h]
  rfl

theorem info25 (z : Nat → Int) : (Try.prog.info? 25).map (·.size) = some (arrOf z).toArray.size := by rw [List.size_toArray, arrOf_len]; kernel_rfl

theorem or_nib : ∀ a b : Fin 16, bits .or .u8 ((a.val * 16 : Nat) : Int) (b.val : Int) = ((16 * a.val + b.val : Nat) : Int) := by decide +kernel

theorem or_nibs (u v : Int) (h0 : 0 ≤ u) (h1 : u < 16) (h2 : 0 ≤ v) (h3 : v < 16) : bits .or .u8 (u * 16) v = 16 * u + v := by
  have h := or_nib ⟨u.toNat, by omega⟩ ⟨v.toNat, by omega⟩
  simp only at h
  rw [show ((u.toNat * 16 : Nat) : Int) = u * 16 from by omega, show ((v.toNat : Nat) : Int) = v from by omega] at h
  rw [h]
  omega

set_option maxHeartbeats 400000 in
theorem parse_short (s : ByteArray) (h64 : ¬ s.size = 64) (w : World) :
    Calls Try.prog 8 #[.string s] w fun e w' => ∃ cs x, parsed s cs x ∧ e = .returned (.tuple #[.agg cs.toArray, .int .i64 x]) ∧ Below w.heap.size w w' := by
  have hne : ((s.size : Int) != 64) = true := by rw [bne_iff_ne]; omega
  go_enter Try.func8, Try.ntmps8
  go_wp2_with (refine wpList_store_row rfl 25 _ _ rfl w.heap.size (arrOf (fun _ => 0)).toArray rfl rfl 25 (arrOf (fun _ => 0)).toArray (heap_alloc2_old _ _ _) (info25 _) rfl (arrOf_one _) ?_)
  refine bodyPost_ret (v := .tuple #[.agg (arrOf (fun _ => 0)).toArray, .int .i64 10]) (results_row_tmp rfl _ _ w.heap.size 25 _ _ _ _ rfl (setRow_heap _ _ _ _ _ _ (heap_alloc2_old _ _ _)) Try.underlying25 rfl (info25 _) rfl) rfl ⟨arrOf (fun _ => 0), 10, .inr ⟨fun h => h64 h.1, rfl, rfl⟩, rfl, ?_⟩
  exact below_setRow (((Below.refl _ _).alloc (Nat.le_refl _) _).alloc (by simp) _) (Nat.le_refl _) _

set_option maxHeartbeats 400000 in
theorem parse_full (s : ByteArray) (h64 : s.size = 64) (w : World) :
    Calls Try.prog 8 #[.string s] w fun e w' => ∃ cs x, parsed s cs x ∧ e = .returned (.tuple #[.agg cs.toArray, .int .i64 x]) ∧ Below w.heap.size w w' := by
  have H64 : Hid (s.size = 64) := h64
  go_enter Try.func8, Try.ntmps8
  go_wp2
  go_loopw [14] (fun i wr => ∃ k : Nat, k ≤ 64 ∧ i = .int .i64 k ∧ (∀ j, j < k → dq (byt s j) = true) ∧ wr = (w.alloc (.cells (arrOf (fun _ => 0)).toArray 25)).alloc (.cells (arrOf (acc s k)).toArray 25)) (fun i _ => 64 - (intOf i).toNat)
  case atStart => exact ⟨0, Nat.zero_le _, rfl, fun j h => by omega, rfl⟩
  case round =>
    obtain ⟨k, hk, rfl, hd, rfl⟩ := hrel
    have HD : Hid (∀ j, j < k → dq (byt s j) = true) := hd
    clear hd
    by_cases hlt : k < 64
    · have hix := run_index_byt s k (by omega)
      have hbk := byt_bd s k
      have hdo := digitOf_any (byt s k)
      have HO : Hid _ := hdo
      clear hdo
      by_cases hq : dq (byt s k) = true
      · have hcell := arrOf_get (acc s k) (k / 2) (by omega)
        have hac := acc_at s k
        go_wp2_with (go_at_call 13; refine (HO.out _ hbk.1 hbk.2).mono ?_; rintro e w' ⟨rfl, rfl⟩)
        refine ⟨⟨k + 1, by omega, by go_num, fun j hj => ?_, ?_⟩, by simp [intOf]; omega⟩
        · rcases Nat.lt_succ_iff_lt_or_eq.1 hj with h | rfl
          · exact HD.out j h
          · exact hq
        · rw [acc_set s k _ (or_nibs _ _ hac.1 hac.2.1 (dv_bd _).1 (dv_bd _).2)]
      · have hq' : dq (byt s k) = false := by simpa using hq
        go_wp2_with (first | (go_at_call 13; refine (HO.out _ hbk.1 hbk.2).mono ?_; rintro e w' ⟨rfl, rfl⟩) | refine wpList_store_row rfl 25 _ _ rfl w.heap.size (arrOf (fun _ => 0)).toArray rfl rfl 25 (arrOf (fun _ => 0)).toArray (heap_alloc2_old _ _ _) (info25 _) rfl (arrOf_one _) ?_)
        refine bodyPost_ret (v := .tuple #[.agg (arrOf (fun _ => 0)).toArray, .int .i64 10]) (results_row_tmp rfl _ _ w.heap.size 25 _ _ _ _ rfl (setRow_heap _ _ _ _ _ _ (heap_alloc2_old _ _ _)) Try.underlying25 rfl (info25 _) rfl) rfl ⟨arrOf (fun _ => 0), 10, .inr ⟨fun h => hq (h.2 k hlt), rfl, rfl⟩, rfl, ?_⟩
        exact below_setRow (((Below.refl _ _).alloc (Nat.le_refl _) _).alloc (by simp) _) (Nat.le_refl _) _
    · have hk64 : k = 64 := by omega
      subst hk64
      go_wp2_with (first | refine wpList_load_row rfl 25 _ rfl (w.heap.size + 1) rfl 25 (arrOf (acc s 64)).toArray _ _ (heap_alloc2_new _ _ _) Try.underlying25 rfl (info25 _) ?_ | refine wpList_store_row rfl 25 _ _ rfl w.heap.size (arrOf (acc s 64)).toArray rfl rfl 25 (arrOf (fun _ => 0)).toArray (heap_alloc2_old _ _ _) (info25 _) rfl (arrOf_one _) ?_)
      refine bodyPost_ret (v := .tuple #[.agg (arrOf (acc s 64)).toArray, .int .i64 0]) (results_row_tmp rfl _ _ w.heap.size 25 _ _ _ _ rfl (setRow_heap _ _ _ _ _ _ (heap_alloc2_old _ _ _)) Try.underlying25 rfl (info25 _) rfl) rfl ⟨arrOf (acc s 64), 0, .inl ⟨⟨H64.out, HD.out⟩, rfl, rfl⟩, rfl, ?_⟩
      exact below_setRow (((Below.refl _ _).alloc (Nat.le_refl _) _).alloc (by simp) _) (Nat.le_refl _) _

theorem parse_any (s : ByteArray) (w : World) :
    Calls Try.prog 8 #[.string s] w fun e w' => ∃ cs x, parsed s cs x ∧ e = .returned (.tuple #[.agg cs.toArray, .int .i64 x]) ∧ Below w.heap.size w w' := by
  by_cases h : s.size = 64
  · exact parse_full s h w
  · exact parse_short s h w
end Go.Proofs.Ytfnfmgnebhfacaa
