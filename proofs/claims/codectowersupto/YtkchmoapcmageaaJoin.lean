/-
  The walks of the reference's sum, join and addr.
-/
import Derived.Test.YtkchmoapcmageaaInv
import Derived.Deep.Cut
namespace Go.Proofs.Ytkchmoapcmageaa
open Go.RowKit

set_option maxRecDepth 100000 in
set_option maxHeartbeats 1000000 in
theorem xsum_any {w : World} (z : List Int) (hz : z.length = 32) :
    Calls Try.prog 100 #[.agg (bs z).toArray] w fun e w' => ∃ v, e = .returned v ∧ Made w w' v z := by
  go_enter Try.func100, Try.ntmps100
  go_wp2_with fail
  go_loopw [3, 4] (fun u i wr => ∃ k : Nat, k ≤ 32 ∧ i = .int .i64 k ∧ Made (w.alloc (.cells (bs z).toArray 31)) wr u (z.take k)) (fun _ i _ => 32 - (intOf i).toNat)
  case atStart => exact ⟨0, Nat.zero_le _, rfl, Made.nil _⟩
  case round =>
    obtain ⟨k, hk, rfl, hmd⟩ := hrel
    by_cases hlt : k < 32
    · have hzl : k < z.length := by omega
      obtain ⟨x, hx⟩ : ∃ x, x = z[k]'hzl := ⟨_, rfl⟩
      have hcell : wr.cell? ⟨w.heap.size, k, none⟩ = some (.int .u8 x) := by
        rw [hmd.2.1.cell (by simp), hx, cell_of_row _ _ k _ 31 _ (heap_alloc_new _ _)]
        simpa using bs_get z k hzl
      have HX : Hid _ := (show z.take k ++ [x] = z.take (k + 1) by rw [hx]; exact take_one hzl)
      have hbd : (z.take k).length + [x].length ≤ 140737488355328 := by simp; omega
      have M1 : Hid _ := hmd
      clear hmd hx
      go_wp2_with (refine wpList_app rfl (.tmp 9) (.tmp 13) rfl (v := u3) rfl rfl (Made.alloc M1.out _).1 (src_new _ [x] 1) hbd ?_; intro v' w2 hv hch hat; have R : Hid _ := Made.app (Made.alloc M1.out _) hv hch hat; clear hv hch hat)
      go_roundw
      case rel => exact ⟨k + 1, by omega, by go_num, by rw [← HX.out]; exact R.out⟩
      case measure => simp [intOf]; omega
    · have ht : z.take k = z := List.take_of_length_le (by omega)
      rw [ht] at hmd
      have R : Hid _ := hmd
      clear hmd ht
      go_wp2_with fail
      go_ret
      exact ⟨_, rfl, R.out.1, ((Below.refl _ _).alloc (Nat.le_refl _) _).trans (R.out.2.1.mono (by simp)), fun j hj => by have := R.out.2.2 j hj; simp at this; omega⟩

theorem rangeKept {w w' : World} {g o : Nat} {cs : List Value} (h : w.rangeAt g o cs) (b : Below w.heap.size w w') : w'.rangeAt g o cs := fun j v hv => by
  have := h j v hv
  rw [b.cell (World.block_lt_of_cell? _ _ this)]; exact this

/-- The pieces that join is given, one behind the other. -/
structure Pieces (w : World) (g n : Nat) (vs : Nat → Value) (ls : Nat → List Int) : Prop where
  cell : ∀ i, i < n → w.cell? ⟨g, i, none⟩ = some (vs i)
  src : ∀ i, i < n → Src w (vs i) (ls i)
def flat (ls : Nat → List Int) : Nat → List Int
  | 0 => []
  | k + 1 => flat ls k ++ ls k

set_option maxRecDepth 100000 in
set_option maxHeartbeats 1000000 in
theorem join_any {w : World} {g n c : Nat} {vs : Nat → Value} {ls : Nat → List Int} (h : Pieces w g n vs ls) (hn : n ≤ 1000) (hb : ∀ k, k ≤ n → (flat ls k).length ≤ 140737488355328) :
    Calls Try.prog 98 #[.slice (some ⟨g, 0, none⟩) n c] w fun e w' => ∃ v, e = .returned v ∧ Made w w' v (flat ls n) := by
  have H : Hid _ := h
  have HB : Hid _ := hb
  clear h hb
  go_enter Try.func98, Try.ntmps98
  go_wp2_with fail
  go_loopw [3, 8] (fun u i wr => ∃ k : Nat, k ≤ n ∧ i = .int .i64 k ∧ Made w wr u (flat ls k)) (fun _ i _ => n - (intOf i).toNat)
  case atStart => exact ⟨0, Nat.zero_le _, rfl, Made.nil _⟩
  case round =>
    obtain ⟨k, hk, rfl, hmd⟩ := hrel
    by_cases hlt : k < n
    · have hcw := H.out.cell k hlt
      have hcell : wr.cell? ⟨g, k, none⟩ = some (vs k) := by rw [hmd.2.1.cell (World.block_lt_of_cell? _ _ hcw)]; exact hcw
      have hS : Hid _ := Src.kept0 (H.out.src k hlt) hmd.2.1
      have hbd := HB.out (k + 1) (by omega)
      simp only [flat, List.length_append] at hbd
      have M1 : Hid _ := hmd
      clear hmd hcw
      obtain ⟨va, vn, vc, hvk⟩ : ∃ a n c, vs k = .slice a n c := by obtain ⟨a, c, e⟩ := Src.form hS.out; exact ⟨a, _, c, e⟩
      go_wp2_with (refine wpList_app rfl (.tmp 12) (.tmp 13) rfl (v := u3) (u := vs k) rfl (by first | rfl | exact hvk.symm) M1.out.1 hS.out hbd ?_; intro v' w2 hv hch hat; have R : Hid _ := Made.app M1.out hv hch hat; clear hv hch hat)
      go_roundw
      case rel => exact ⟨k + 1, by omega, by go_num, R.out⟩
      case measure => simp [intOf]; omega
    · have hkn : k = n := by omega
      subst hkn
      have R : Hid _ := hmd
      clear hmd
      go_wp2_with fail
      go_ret
      exact ⟨_, rfl, R.out⟩

end Go.Proofs.Ytkchmoapcmageaa
