/-
  The walk of DigestBack.
-/
import Derived.Test.YtfnfmgnebhfacaaParse
import Derived.Test.YtfnfmgnebhfacaaEq
import Derived.Test.YtfnfmgnebhfacaaThere
import Derived.Deep.WholeRow
namespace Go.Proofs.Ytfnfmgnebhfacaa
open Go.RowKit

theorem hexOf (z : Nat → Int) (hb : ∀ i, i < 32 → 0 ≤ z i ∧ z i ≤ 255) (w : World) :
    Calls Try.prog 9 #[.agg (arrOf z).toArray] w fun e w' => e = .returned (.string (strOf (hexNs z))) ∧ Below w.heap.size w w' :=
  hex_any (arrOf z) z (arrOf_len z) (arrOf_get z) hb w
theorem info22 (z : Nat → Int) : (Try.prog.info? 22).map (·.size) = some (arrOf z).toArray.size := by rw [List.size_toArray, arrOf_len]; kernel_rfl
theorem arr_sizes (y z : Nat → Int) : (arrOf y).toArray.size = (arrOf z).toArray.size := by simp [arrOf_len]

theorem at_box {w w1 : World} {o : Obj} (b1 : Below (w.alloc o).heap.size (w.alloc o) w1) : w1.heap[w.heap.size]? = some o ∧ w.heap.size < w1.heap.size ∧ Below w.heap.size w w1 :=
  ⟨(b1.block _ (by simp)).trans (heap_alloc_new _ _), Nat.lt_of_lt_of_le (by simp) b1.size, ((Below.refl _ _).alloc (Nat.le_refl _) _).trans (b1.mono (by simp))⟩
theorem at_on {w w1 w2 : World} {o : Obj} (h : w1.heap[w.heap.size]? = some o ∧ w.heap.size < w1.heap.size ∧ Below w.heap.size w w1) (b2 : Below w1.heap.size w1 w2) :
    w2.heap[w.heap.size]? = some o ∧ w.heap.size < w2.heap.size ∧ Below w.heap.size w w2 :=
  ⟨(b2.block _ h.2.1).trans h.1, Nat.lt_of_lt_of_le h.2.1 b2.size, h.2.2.trans (b2.mono (Nat.le_of_lt h.2.1))⟩
theorem at_alloc {w w1 : World} {o : Obj} (h : w1.heap[w.heap.size]? = some o ∧ w.heap.size < w1.heap.size ∧ Below w.heap.size w w1) (p : Obj) :
    (w1.alloc p).heap[w.heap.size]? = some o ∧ w.heap.size < (w1.alloc p).heap.size ∧ Below w.heap.size w (w1.alloc p) :=
  at_on h ((Below.refl _ _).alloc (Nat.le_refl _) _)

set_option maxHeartbeats 400000 in
theorem back_any (z : Nat → Int) (hb : ∀ i, i < 32 → 0 ≤ z i ∧ z i ≤ 255) (s : ByteArray) (w : World) :
    Calls Try.prog 4 #[.agg (arrOf z).toArray, .string s] w fun e w' => e = .returned (.bool true) ∧ Below w.heap.size w w' := by
  have HH : Hid _ := hexOf z hb
  have hq := fun w => run_equalIn_arr 9998 25 Try.underlying25 z w
  have h64 : (strOf (hexNs z)).size = 64 := by rw [strOf_size, hexNs_len]
  go_enter Try.func4, Try.ntmps4
  go_wp2_with (first | refine wpList_load_row rfl 22 _ rfl w.heap.size rfl 22 (arrOf z).toArray _ _ (heap_alloc_new _ _) Try.underlying22 rfl (info22 _) ?_)
  refine (HH.out _).mono ?_
  rintro e w1 ⟨rfl, b1⟩
  have A1 := at_box b1
  go_wp2_with fail
  refine (parse_any _ _).mono ?_
  rintro e w2 ⟨cs, x, hp, rfl, b2⟩
  obtain ⟨rfl, rfl⟩ := parsed_hex hb hp
  have A2 : Hid _ := at_on A1 b2
  clear b1 b2 A1 hp
  go_wp2_with (first | (refine wpList_store_row rfl 25 _ _ rfl w2.heap.size (arrOf z).toArray rfl rfl 25 (arrOf (fun _ => 0)).toArray (heap_alloc_new _ _) (info25 _) (arr_sizes _ _) (arrOf_one _) ?_; rw [World.setRow_alloc_new]) | refine wpList_load_row rfl 22 _ rfl w.heap.size rfl 22 (arrOf z).toArray _ _ (at_alloc A2.out _).1 Try.underlying22 rfl (info22 _) ?_ | refine wpList_load_row_if (by rfl) 22 _ rfl w.heap.size rfl 22 (arrOf z).toArray _ _ (at_alloc A2.out _).1 Try.underlying22 rfl (info22 _) ?_ | refine wpList_load_row rfl 25 _ rfl w2.heap.size rfl 25 (arrOf z).toArray _ _ (heap_alloc_new _ _) Try.underlying25 rfl (info25 _) ?_)
  refine (HH.out _).mono ?_
  rintro e w3 ⟨rfl, b3⟩
  have A3 := at_on (at_alloc A2.out _) b3
  go_wp2_with fail
  refine (parse_any _ _).mono ?_
  rintro e w4 ⟨cs, x, hp, rfl, b4⟩
  have A4 : Hid _ := at_on A3 b4
  clear b3 b4 A3 A2 HH hq h64
  rcases hp with ⟨ok, rfl, rfl⟩ | ⟨_, rfl, rfl⟩
  · have HX : Hid _ := hexOf (acc s 64) (fun i _ => acc_bd s 64 i)
    have hl := hex_acc s ok
    go_wp2_with (first | (refine wpList_store_row rfl 25 _ _ rfl w4.heap.size (arrOf (acc s 64)).toArray rfl rfl 25 (arrOf (fun _ => 0)).toArray (heap_alloc_new _ _) (info25 _) (arr_sizes _ _) (arrOf_one _) ?_; rw [World.setRow_alloc_new]) | refine wpList_load_row rfl 25 _ rfl w4.heap.size rfl 25 (arrOf (acc s 64)).toArray _ _ (heap_alloc_new _ _) Try.underlying25 rfl (info25 _) ?_)
    refine (HX.out _).mono ?_
    rintro e w5 ⟨rfl, b5⟩
    have A5 : Hid _ := at_on (at_alloc A4.out _) b5
    go_wp2
    go_ret
    exact ⟨rfl, A5.out.2.2⟩
  · have hz : ∀ w, (Op.equalIn 10000 25 (.agg (arrOf (fun _ => 0)).toArray) (.agg #[.int .u8 0, .int .u8 0, .int .u8 0, .int .u8 0, .int .u8 0, .int .u8 0, .int .u8 0, .int .u8 0, .int .u8 0, .int .u8 0, .int .u8 0, .int .u8 0, .int .u8 0, .int .u8 0, .int .u8 0, .int .u8 0, .int .u8 0, .int .u8 0, .int .u8 0, .int .u8 0, .int .u8 0, .int .u8 0, .int .u8 0, .int .u8 0, .int .u8 0, .int .u8 0, .int .u8 0, .int .u8 0, .int .u8 0, .int .u8 0, .int .u8 0, .int .u8 0])).run Try.prog w = .ok true w := fun w => run_equalIn_arr 9998 25 Try.underlying25 (fun _ => 0) w
    go_wp2_with (first | (refine wpList_store_row rfl 25 _ _ rfl w4.heap.size (arrOf (fun _ => 0)).toArray rfl rfl 25 (arrOf (fun _ => 0)).toArray (heap_alloc_new _ _) (info25 _) (arr_sizes _ _) (arrOf_one _) ?_; rw [World.setRow_alloc_new]) | refine wpList_load_row_if (by rfl) 25 _ rfl w4.heap.size rfl 25 (arrOf (fun _ => 0)).toArray _ _ (heap_alloc_new _ _) Try.underlying25 rfl (info25 _) ?_)
    go_ret
    exact ⟨rfl, (at_alloc A4.out _).2.2⟩
end Go.Proofs.Ytfnfmgnebhfacaa
