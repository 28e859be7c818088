/-
  Small functions: blanks, digits, clones.
-/
import Derived.Test.YtnmlhlgeacdcgaaCwB
import Derived.Lib.UnsafeStr
import Derived.Lib.BufferWrite
import Derived.Laws.MakeOwn
namespace Go.Proofs.Ytnmlhlgeacdcgaa
open Go.RowKit

theorem blank_of (c : Nat) : blankN c = decide ((c : Int) = 32 ∨ (c : Int) = 9 ∨ (c : Int) = 13) := by
  unfold blankN
  rw [Bool.eq_iff_iff]
  simp
  omega
theorem tup {a b : Int} {x y : Bool} (h : a = b) (k : x = y) : Value.tuple #[.int .u8 a, .bool x] = .tuple #[.int .u8 b, .bool y] := by rw [h, k]

set_option maxRecDepth 100000 in
theorem isBlank_any (c : Nat) (w : World) : Calls Try.prog 21 #[.int .i32 c] w fun e w' => e = .returned (.bool (blankN c)) ∧ w = w' := by
  rw [blank_of]
  go_enter Try.func21, Try.ntmps21
  go_wp2
  all_goals
    go_ret
    refine ⟨congrArg Ending.returned (congrArg Value.bool ?_), rfl⟩
    first | exact (decide_eq_true (by omega)).symm | (rw [Bool.eq_iff_iff, decide_eq_true_iff]; simp; omega)

set_option maxRecDepth 100000 in
theorem blank_any (c : Nat) (w : World) : Calls Try.prog 13 #[.int .u8 c] w fun e w' => e = .returned (.bool (blankN c)) ∧ w = w' := by
  rw [blank_of]
  go_enter Try.func13, Try.ntmps13
  go_wp2
  all_goals
    go_ret
    refine ⟨congrArg Ending.returned (congrArg Value.bool ?_), rfl⟩
    first | exact (decide_eq_true (by omega)).symm | (rw [Bool.eq_iff_iff, decide_eq_true_iff]; simp; omega)

theorem dig1 {c : Nat} (h1 : 48 ≤ (c : Int)) (h2 : (c : Int) ≤ 57) : digN c = some (c - 48) := by unfold digN; rw [if_pos (by omega)]
theorem dig2 {c : Nat} (h1 : 97 ≤ (c : Int)) (h2 : (c : Int) ≤ 102) : digN c = some (c - 87) := by unfold digN; rw [if_neg (by omega), if_pos (by omega)]
theorem dig3 {c : Nat} (h1 : 65 ≤ (c : Int)) (h2 : (c : Int) ≤ 70) : digN c = some (c - 55) := by unfold digN; rw [if_neg (by omega), if_neg (by omega), if_pos (by omega)]
theorem dig0 {c : Nat} (h1 : (c : Int) < 48 ∨ 57 < (c : Int)) (h2 : (c : Int) < 97 ∨ 102 < (c : Int)) (h3 : (c : Int) < 65 ∨ 70 < (c : Int)) : digN c = none := by unfold digN; rw [if_neg (by omega), if_neg (by omega), if_neg (by omega)]

set_option maxRecDepth 100000 in
theorem digitOf_any (c : Nat) (w : World) (hc : c ≤ 2147483647) : Calls Try.prog 25 #[.int .i32 c] w fun e w' => e = .returned (.tuple #[.int .u8 ((digN c).getD 0 : Nat), .bool (digN c).isSome]) ∧ w = w' := by
  go_enter Try.func25, Try.ntmps25
  go_wp2
  all_goals
    go_ret2
    first
      | (rw [dig1 (by omega) (by omega)]; exact ⟨congrArg Ending.returned (tup (by show _ = ((_ : Nat) : Int); simp; omega) rfl), rfl⟩)
      | (rw [dig2 (by omega) (by omega)]; exact ⟨congrArg Ending.returned (tup (by show _ = ((_ : Nat) : Int); simp; omega) rfl), rfl⟩)
      | (rw [dig3 (by omega) (by omega)]; exact ⟨congrArg Ending.returned (tup (by show _ = ((_ : Nat) : Int); simp; omega) rfl), rfl⟩)
      | (rw [dig0 (by omega) (by omega) (by omega)]; exact ⟨rfl, rfl⟩)

set_option maxRecDepth 100000 in
theorem digit_any (c : Nat) (w : World) (hc : c < 256) : Calls Try.prog 27 #[.int .u8 c] w fun e w' => e = .returned (.int .i64 (((digN c).map fun d => (d : Int)).getD (-1))) ∧ w = w' := by
  go_enter Try.func27, Try.ntmps27
  go_wp2
  all_goals
    go_ret
    first
      | (rw [dig1 (by omega) (by omega)]; refine ⟨congrArg Ending.returned (congrArg (Value.int .i64) ?_), rfl⟩; simp; omega)
      | (rw [dig2 (by omega) (by omega)]; refine ⟨congrArg Ending.returned (congrArg (Value.int .i64) ?_), rfl⟩; simp; omega)
      | (rw [dig3 (by omega) (by omega)]; refine ⟨congrArg Ending.returned (congrArg (Value.int .i64) ?_), rfl⟩; simp; omega)
      | (rw [dig0 (by omega) (by omega) (by omega)]; exact ⟨rfl, rfl⟩)

set_option maxHeartbeats 4000000 in
set_option maxRecDepth 100000 in
/-- internal/stringslite.Clone. -/
theorem clone0_any (s : ByteArray) (w : World) (hlim : s.size ≤ 281474976710656) :
    Calls Try.prog 26 #[.string s] w fun e w' => e = .returned (.string s) ∧ Chg (fun _ => False) w w' := by
  by_cases h0 : s.size = 0
  · have hs : s = ⟨#[]⟩ := by
      apply ByteArray.ext
      exact Array.eq_empty_of_size_eq_zero h0
    subst hs
    go_enter Try.func26, Try.ntmps26
    go_wp2
    go_ret
    exact ⟨rfl, Chg.refl _ _⟩
  · obtain ⟨i0, hi, hz0, hz1, hz2⟩ := info_parts info5
    have hinfo : (Try.prog.info? 5).map (·.size) = some 1 := by rw [hi]; simp [hz1]
    have hco : Try.prog.cellsOf 5 = 1 := by simp [Program.cellsOf, hi, hz1]
    obtain ⟨M, hM⟩ : ∃ M, M = madeCells (Value.int .u8 0).cells (((s.size : Nat) : Int).toNat * i0.size) := ⟨_, rfl⟩
    have hMs : M.size = s.size := by rw [hM, size_madeCells, hz1]; simp
    have hmk : ∀ W : World, (Instr.makeSlice 22 (.int .i64 (s.size : Int)) (.int .i64 (s.size : Int))).run Try.prog W = .ok (.slice (some ⟨W.heap.size, 0, none⟩) s.size s.size) (W.alloc (.cells M 5)) := fun W => by
      have h := run_make (P := Try.prog) W 22 5 i0 (.int .u8 0) Try.underlying22 hi hz0 .i64 .i64 (s.size : Int) (s.size : Int) (by omega) (by omega) (by rw [hz2]; omega) (by omega)
      rw [← hM] at h
      simpa using h
    clear hM
    have hcp := Lib.run_copy_row_string (P := Try.prog) (w.alloc (.cells M 5)) 22 9 3 5 w.heap.size 0 s.size s.size s M 5 Try.underlying22 hinfo (heap_alloc_new w _) (Nat.le_refl _) (by omega)
    obtain ⟨Y, hY⟩ : ∃ Y, Y = (M.toList.take 0 ++ Lib.byteCells s.data.toList ++ M.toList.drop (0 + s.size)).toArray := ⟨_, rfl⟩
    rw [← hY] at hcp
    have hYl : Y.toList = Lib.byteCells s.data.toList := by
      rw [hY, List.toList_toArray, List.take_zero, List.nil_append, List.drop_of_length_le (by rw [Array.length_toList]; omega), List.append_nil]
    have hYs : Y.size = s.size := by rw [← Array.length_toList, hYl, Lib.byteCells_length, ← Lib.size_eq]
    have hgY : ((w.alloc (.cells M 5)).setRow w.heap.size Y).heap[w.heap.size]? = some (.cells Y 5 (0, 0)) := setRow_heap _ _ M _ 5 (0, 0) (heap_alloc_new w _)
    have hne : s.data.toList ≠ [] := fun e => h0 (by rw [Lib.size_eq, e]; rfl)
    have hUS := Lib.run_unsafeString_row (P := Try.prog) ((w.alloc (.cells M 5)).setRow w.heap.size Y) 53 3 9 5 Try.underlying53 hco w.heap.size Y.size (by unfold World.shape?; rw [hgY]) s.data.toList hne (by rw [← Lib.size_eq]; omega) (by rw [← Lib.size_eq]; omega)
      (fun j x hx => Lib.cells_of_row hgY Y.size j _ (by rw [List.take_of_length_le (by rw [Array.length_toList]; exact Nat.le_refl _), hYl]; simp [Lib.byteCells, hx]))
    rw [← Lib.size_eq] at hUS
    clear hY
    go_enter Try.func26, Try.ntmps26
    go_wp2
    go_ret
    have hb1 : Below w.heap.size w (w.alloc (.cells M 5)) := (Below.refl _ w).alloc (Nat.le_refl _) _
    have hb2 : Below w.heap.size (w.alloc (.cells M 5)) ((w.alloc (.cells M 5)).setRow w.heap.size Y) := ⟨rfl, rfl, rfl, by simp, fun k hk => setRow_other _ _ _ _ (by omega)⟩
    exact ⟨rfl, Chg.of_below (Lib.below_freeze (hb1.trans hb2) (p := ⟨w.heap.size, 0, none⟩) (Nat.le_refl _) _) _⟩

set_option maxRecDepth 100000 in
theorem clone_any (s : ByteArray) (w : World) (hlim : s.size ≤ 281474976710656) :
    Calls Try.prog 22 #[.string s] w fun e w' => e = .returned (.string s) ∧ Chg (fun _ => False) w w' := by
  have H : Hid _ := clone0_any s w hlim
  go_enter Try.func22, Try.ntmps22
  go_wp2_with fail
  refine Calls.mono H.out ?_
  rintro e w1 ⟨rfl, hc⟩
  have HC : Hid _ := hc
  clear hc
  go_wp2_with fail
  go_ret
  exact ⟨rfl, HC.out⟩
end Go.Proofs.Ytnmlhlgeacdcgaa
