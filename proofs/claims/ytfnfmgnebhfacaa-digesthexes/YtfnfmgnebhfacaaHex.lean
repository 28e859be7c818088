/-
  The walks of digest.digitOf and digest.Hex.
-/
import Derived.Test.YtfnfmgnebhfacaaZeros
import Derived.Test.YtfnfmgnebhfacaaDigits
namespace Go.Proofs.Ytfnfmgnebhfacaa
open Go.RowKit

set_option maxHeartbeats 400000 in
theorem digitOf_any (c : Int) (w : World) (h0 : 0 ≤ c) (h1 : c ≤ 255) :
    Calls Try.prog 13 #[.int .u8 c] w fun e w' => e = .returned (.tuple #[.int .u8 (dv c), .bool (dq c)]) ∧ w' = w := by
  go_enter Try.func13, Try.ntmps13
  go_wp2
  all_goals
    go_ret2
    refine ⟨congrArg Ending.returned (congrArg Value.tuple ?_), rfl⟩
    unfold dv dq
    simp
    omega

theorem run_index_tab (n : Int) (h0 : 0 ≤ n) (h1 : n < 16) (w : World) :
    (Instr.index 9 (.string ⟨#[48, 49, 50, 51, 52, 53, 54, 55, 56, 57, 97, 98, 99, 100, 101, 102]⟩) (.int .u8 n)).run Try.prog w = .ok (.int .u8 (hx n)) w := by
  have h : n = 0 ∨ n = 1 ∨ n = 2 ∨ n = 3 ∨ n = 4 ∨ n = 5 ∨ n = 6 ∨ n = 7 ∨ n = 8 ∨ n = 9 ∨ n = 10 ∨ n = 11 ∨ n = 12 ∨ n = 13 ∨ n = 14 ∨ n = 15 := by omega
  rcases h with rfl | rfl | rfl | rfl | rfl | rfl | rfl | rfl | rfl | rfl | rfl | rfl | rfl | rfl | rfl | rfl <;> (simp only [run_index_string w 9 _ .u8 _ Try.underlying9]; rfl)

theorem txt_full (z : Nat → Int) : (txt z 32).toList = (hexNs z).map (Value.int .u8) := by
  simp only [txt, hexNs, List.toList_toArray, List.map_map]
  refine List.map_congr_left fun j hj => ?_
  have : j < 64 := by simpa using hj
  simp [this]

theorem run_conv (b : Nat) (w : World) (ns : List Int) (c : Array Value) (t : TypeId) (fr : Nat × Nat) (hb : w.heap[b]? = some (.cells c t fr)) (hn : c.toList = ns.map (Value.int .u8)) (k : Nat) (hk : ns.length = k) (cap : Nat) :
    (convert 38 9 (.slice (some ⟨b, 0, none⟩) k cap)).run Try.prog w = .ok (.string (strOf ns)) w := by
  subst hk
  rw [run_convert_bytes_string w 38 9 5 _ _ _ Try.underlying38 Try.underlying5 Try.underlying9]
  refine run_bytesToString w _ _ _ ns ?_
  have := run_loadCells_list (P := Try.prog) w ⟨b, 0, none⟩ (ns.map (Value.int .u8)) (fun j v hv => by
    rw [Addr.add_mid, cell_of_row w b (0 + j) c t fr hb]
    rw [← hn] at hv
    simpa using hv)
  simpa using this

set_option maxHeartbeats 400000 in
theorem hex_any (cs : List Value) (z : Nat → Int) (hs : cs.length = 32) (hc : ∀ i, i < 32 → cs[i]? = some (.int .u8 (z i))) (hb : ∀ i, i < 32 → 0 ≤ z i ∧ z i ≤ 255) (w : World) :
    Calls Try.prog 9 #[.agg cs.toArray] w fun e w' => e = .returned (.string (strOf (hexNs z))) ∧ Below w.heap.size w w' := by
  have hi : (Try.prog.info? 25).map (·.size) = some cs.length := by rw [hs]; kernel_rfl
  clear hs
  go_enter Try.func9, Try.ntmps9
  go_wp2_with (refine wpList_load_row rfl 25 _ rfl w.heap.size rfl 25 cs.toArray _ _ (by first | exact heap_alloc_new _ _ | exact heap_alloc2_old _ _ _) Try.underlying25 rfl (by simpa using hi) ?_)
  go_loopw [7] (fun i wr => ∃ k : Nat, k ≤ 32 ∧ i = .int .i64 k ∧ wr = (w.alloc (.cells cs.toArray 25)).alloc (.cells (txt z k) 37)) (fun i _ => 32 - (intOf i).toNat)
  case atStart => exact ⟨0, Nat.zero_le _, rfl, rfl⟩
  case round =>
    obtain ⟨k, hk, rfl, rfl⟩ := hrel
    by_cases hlt : k < 32
    · have hix := run_index_arr cs z hc k hlt
      have hbk := hb k hlt
      have hx1 := run_index_tab (z k / 16) (by omega) (by omega)
      have hx2 := run_index_tab (z k % 16) (by omega) (by omega)
      have ht1 := txt_get z k (2 * k) (by omega)
      have ht2 := txt_get z k (2 * k + 1) (by omega)
      have HS : Hid _ := txt_step z k hlt
      clear hc hb hi
      go_wp2
      refine ⟨⟨k + 1, by omega, by go_num, ?_⟩, by simp [intOf]; omega⟩
      rw [HS.out]
    · have hk32 : k = 32 := by omega
      subst hk32
      have hcv := run_conv (w.heap.size + 1) ((w.alloc (.cells cs.toArray 25)).alloc (.cells (txt z 32) 37)) (hexNs z) _ _ _ (heap_alloc2_new _ _ _) (txt_full z) 64 (hexNs_len z) 64
      clear hc hb hi
      go_wp2
      go_ret
      exact ⟨rfl, ((Below.refl _ _).alloc (Nat.le_refl _) _).alloc (by simp) _⟩
end Go.Proofs.Ytfnfmgnebhfacaa
