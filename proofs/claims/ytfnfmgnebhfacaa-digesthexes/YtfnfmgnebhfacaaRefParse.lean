/-
  The walk of the reference's Parse.
-/
import Derived.Test.YtfnfmgnebhfacaaParse
namespace Go.Proofs.Ytfnfmgnebhfacaa
open Go.RowKit

theorem run_index_tab64 (m : Nat) (h1 : m < 16) (w : World) :
    (Instr.index 9 (.string ⟨#[48, 49, 50, 51, 52, 53, 54, 55, 56, 57, 97, 98, 99, 100, 101, 102]⟩) (.int .i64 (m : Int))).run Try.prog w = .ok (.int .u8 (hx m)) w := by
  have h : m = 0 ∨ m = 1 ∨ m = 2 ∨ m = 3 ∨ m = 4 ∨ m = 5 ∨ m = 6 ∨ m = 7 ∨ m = 8 ∨ m = 9 ∨ m = 10 ∨ m = 11 ∨ m = 12 ∨ m = 13 ∨ m = 14 ∨ m = 15 := by omega
  rcases h with rfl | rfl | rfl | rfl | rfl | rfl | rfl | rfl | rfl | rfl | rfl | rfl | rfl | rfl | rfl | rfl <;> (simp only [run_index_string w 9 _ .i64 _ Try.underlying9]; rfl)

/-- What the search has found behind m digits. -/
def dI (c : Int) (m : Nat) : Int := if dq c = true ∧ dv c < m then dv c else -1
theorem dI_hit (c : Int) (m : Nat) (h1 : m < 16) (h : (hx m == c) = true) : dI c (m + 1) = m := by
  have e := eq_of_beq h
  subst e
  unfold dI
  rw [dq_hx m (by omega) (by omega), dv_hx m (by omega) (by omega), if_pos ⟨rfl, by omega⟩]
theorem dI_miss (c : Int) (m : Nat) (h : (hx m == c) = false) : dI c (m + 1) = dI c m := by
  have e := ne_of_beq_false h
  unfold dI
  by_cases q : dq c = true
  · by_cases l : dv c < m
    · rw [if_pos (⟨q, by omega⟩ : dq c = true ∧ dv c < ((m + 1 : Nat) : Int)), if_pos ⟨q, l⟩]
    · have hne : dv c ≠ m := fun e' => e (by rw [← e']; exact hx_dv c q)
      rw [if_neg (fun x : dq c = true ∧ dv c < ((m + 1 : Nat) : Int) => by have := x.2; omega), if_neg (fun x => l x.2)]
  · rw [if_neg (fun x => q x.1), if_neg (fun x => q x.1)]
theorem dI_all (c : Int) : dI c 16 = if dq c = true then dv c else -1 := by
  unfold dI
  have := dv_bd c
  by_cases q : dq c = true
  · rw [if_pos ⟨q, by omega⟩, if_pos q]
  · rw [if_neg (fun x => q x.1), if_neg q]

/-- The two arrays of the call, behind k digits. -/
structure Two (w : World) (s : ByteArray) (k : Nat) (wr : World) : Prop where
  res : wr.heap[w.heap.size]? = some (.cells (arrOf (fun _ => 0)).toArray 25 (0, 0))
  sum : wr.heap[w.heap.size + 1]? = some (.cells (arrOf (acc s k)).toArray 25 (0, 0))
  bel : Below w.heap.size w wr

theorem Two.drew {w : World} {s : ByteArray} {k : Nat} {wr : World} (h : Two w s k wr) : Two w s k wr.drew := ⟨h.res, h.sum, h.bel.drew⟩
theorem Two.drewN {w : World} {s : ByteArray} {k n : Nat} {wr : World} (h : Two w s k wr) : Two w s k (wr.drewN n) := by
  induction n with
  | zero => exact h
  | succ n ih => exact ih.drew
theorem Two.step {w : World} {s : ByteArray} {k : Nat} {wr : World} (h : Two w s k wr) (v : Int) (hv : v = 16 * acc s k (k / 2) + dv (byt s k)) :
    Two w s (k + 1) (wr.setCell ⟨w.heap.size + 1, k / 2, none⟩ (.int .u8 v)) := by
  refine ⟨?_, ?_, h.bel.setCell (by simp) _⟩
  · rw [heap_setCell_other _ _ _ _ (by simp)]; exact h.res
  · rw [heap_setCell_same _ _ _ _ _ _ h.sum, List.setIfInBounds_toArray, acc_set s k v hv]

set_option maxHeartbeats 400000 in
theorem refParse_short (s : ByteArray) (h64 : ¬ s.size = 64) (w : World) :
    Calls Try.prog 10 #[.string s] w fun e w' => ∃ cs x, parsed s cs x ∧ e = .returned (.tuple #[.agg cs.toArray, .int .i64 x]) ∧ Below w.heap.size w w' := by
  have hne : ((s.size : Int) != 64) = true := by rw [bne_iff_ne]; omega
  go_enter Try.func10, Try.ntmps10
  go_wp2_with (first | refine wpList_load_row rfl 25 _ rfl (w.heap.size + 1) rfl 25 (arrOf (fun _ => 0)).toArray _ _ (heap_alloc2_new _ _ _) Try.underlying25 rfl (info25 _) ?_ | refine wpList_store_row rfl 25 _ _ rfl w.heap.size (arrOf (fun _ => 0)).toArray rfl rfl 25 (arrOf (fun _ => 0)).toArray (heap_alloc2_old _ _ _) (info25 _) rfl (arrOf_one _) ?_)
  refine bodyPost_ret (v := .tuple #[.agg (arrOf (fun _ => 0)).toArray, .int .i64 10]) (results_row_tmp rfl _ _ w.heap.size 25 _ _ _ _ rfl (setRow_heap _ _ _ _ _ _ (heap_alloc2_old _ _ _)) Try.underlying25 rfl (info25 _) rfl) rfl ⟨arrOf (fun _ => 0), 10, .inr ⟨fun h => h64 h.1, rfl, rfl⟩, rfl, ?_⟩
  exact below_setRow (((Below.refl _ _).alloc (Nat.le_refl _) _).alloc (by simp) _) (Nat.le_refl _) _

set_option maxHeartbeats 400000 in
theorem refParse_full (s : ByteArray) (h64 : s.size = 64) (w : World) :
    Calls Try.prog 10 #[.string s] w fun e w' => ∃ cs x, parsed s cs x ∧ e = .returned (.tuple #[.agg cs.toArray, .int .i64 x]) ∧ Below w.heap.size w w' := by
  have H64 : Hid (s.size = 64) := h64
  go_enter Try.func10, Try.ntmps10
  go_wp2
  go_loopw [5] (fun i wr => ∃ k : Nat, k ≤ 64 ∧ i = .int .i64 k ∧ (∀ j, j < k → dq (byt s j) = true) ∧ Two w s k wr) (fun i _ => 64 - (intOf i).toNat)
  case atStart => exact ⟨0, Nat.zero_le _, rfl, fun j h => by omega, heap_alloc2_old _ _ _, heap_alloc2_new _ _ _, ((Below.refl _ _).alloc (Nat.le_refl _) _).alloc (by simp) _⟩
  case round =>
    obtain ⟨k, hk, rfl, hd, hT⟩ := hrel
    have HD : Hid (∀ j, j < k → dq (byt s j) = true) := hd
    have HT : Hid (Two w s k wr) := hT
    clear hd hT
    by_cases hlt : k < 64
    · have hix := run_index_byt s k (by omega)
      have hbk := byt_bd s k
      go_wp2
      go_loopw [6, 7] (fun d i wr => ∃ m : Nat, m ≤ 16 ∧ i = .int .i64 m ∧ d = .int .i64 (dI (byt s k) m) ∧ Two w s k wr) (fun _ i _ => 16 - (intOf i).toNat)
      case atStart => exact ⟨0, Nat.zero_le _, rfl, by simp [dI]; have := dv_bd (byt s k); omega, HT.out⟩
      case round =>
        obtain ⟨m, hm, rfl, rfl, hT2⟩ := hrel
        have HT2 : Hid (Two w s k _) := hT2
        clear hT2 HT
        by_cases hml : m < 16
        · have htab := run_index_tab64 m hml
          go_wp2
          go_quiet (fail)
          go_wp2
          · have hit : (hx m == byt s k) = true := by assumption
            exact ⟨⟨m + 1, by omega, by go_num, by rw [dI_hit _ m hml hit], HT2.out.drewN⟩, by simp [intOf]; omega⟩
          · have miss : (hx m == byt s k) = false := by assumption
            exact ⟨⟨m + 1, by omega, by go_num, by rw [dI_miss _ m miss], HT2.out.drewN⟩, by simp [intOf]; omega⟩
        · have hm16 : m = 16 := by omega
          subst hm16
          rw [dI_all]
          by_cases hq : dq (byt s k) = true
          · rw [if_pos hq]
            have hdv := dv_bd (byt s k)
            have hac := acc_at s k
            have hc1 := cell_of_row _ _ (k / 2) _ _ _ HT2.out.sum
            rw [List.getElem?_toArray, arrOf_get (acc s k) (k / 2) (by omega)] at hc1
            have hf1 := frozen_of_row _ _ (k / 2) _ _ HT2.out.sum
            go_wp2
            refine ⟨⟨k + 1, by omega, by go_num, fun j hj => ?_, HT2.out.step _ (by omega)⟩, by simp [intOf]; omega⟩
            rcases Nat.lt_succ_iff_lt_or_eq.1 hj with h | rfl
            · exact HD.out j h
            · exact hq
          · rw [if_neg hq]
            go_wp2_with (refine wpList_store_row rfl 25 _ _ rfl w.heap.size (arrOf (fun _ => 0)).toArray rfl rfl 25 (arrOf (fun _ => 0)).toArray HT2.out.res (info25 _) rfl (arrOf_one _) ?_)
            refine bodyPost_ret (v := .tuple #[.agg (arrOf (fun _ => 0)).toArray, .int .i64 10]) (results_row_tmp rfl _ _ w.heap.size 25 _ _ _ _ rfl (setRow_heap _ _ _ _ _ _ HT2.out.res) Try.underlying25 rfl (info25 _) rfl) rfl ⟨arrOf (fun _ => 0), 10, .inr ⟨fun h => hq (h.2 k hlt), rfl, rfl⟩, rfl, ?_⟩
            exact below_setRow HT2.out.bel (Nat.le_refl _) _
    · have hk64 : k = 64 := by omega
      subst hk64
      go_wp2_with (first | refine wpList_load_row rfl 25 _ rfl (w.heap.size + 1) rfl 25 (arrOf (acc s 64)).toArray _ _ HT.out.sum Try.underlying25 rfl (info25 _) ?_ | refine wpList_store_row rfl 25 _ _ rfl w.heap.size (arrOf (acc s 64)).toArray rfl rfl 25 (arrOf (fun _ => 0)).toArray HT.out.res (info25 _) rfl (arrOf_one _) ?_)
      refine bodyPost_ret (v := .tuple #[.agg (arrOf (acc s 64)).toArray, .int .i64 0]) (results_row_tmp rfl _ _ w.heap.size 25 _ _ _ _ rfl (setRow_heap _ _ _ _ _ _ HT.out.res) Try.underlying25 rfl (info25 _) rfl) rfl ⟨arrOf (acc s 64), 0, .inl ⟨⟨H64.out, HD.out⟩, rfl, rfl⟩, rfl, ?_⟩
      exact below_setRow HT.out.bel (Nat.le_refl _) _

theorem refParse_any (s : ByteArray) (w : World) :
    Calls Try.prog 10 #[.string s] w fun e w' => ∃ cs x, parsed s cs x ∧ e = .returned (.tuple #[.agg cs.toArray, .int .i64 x]) ∧ Below w.heap.size w w' := by
  by_cases h : s.size = 64
  · exact refParse_full s h w
  · exact refParse_short s h w
end Go.Proofs.Ytfnfmgnebhfacaa
