/-
  The reference's LeafText and ForkText, and LeafText.
-/
import Derived.Test.YtfbiafemmoamiaaAnB
import Derived.Deep.Cut
namespace Go.Proofs.Ytfbiafemmoamiaa
open Go.RowKit

def leafT (n : Nat) (z : List Int) : List Int := [21] ++ fx n 8 ++ z
def forkT (x y : List Int) : List Int := [22] ++ x ++ y

theorem fx_eq (n : Nat) : fx n 8 = [((n / 72057594037927936 % 256 : Nat) : Int), ((n / 281474976710656 % 256 : Nat) : Int), ((n / 1099511627776 % 256 : Nat) : Int), ((n / 4294967296 % 256 : Nat) : Int), ((n / 16777216 % 256 : Nat) : Int), ((n / 65536 % 256 : Nat) : Int), ((n / 256 % 256 : Nat) : Int), ((n % 256 : Nat) : Int)] := by
  simp only [fx, List.nil_append, List.cons_append, Nat.div_div_eq_div_mul, Nat.reduceMul]

/-- A leaf in a block of its own. -/
def leafC (n : Nat) (z : List Int) : List Value := .int .u64 n :: bs z

theorem sz24 (z : List Int) (hz : z.length = 32) : (Try.prog.info? 24).map (·.size) = some (bs z).length := by rw [bs_len, hz]; kernel_rfl

set_option maxRecDepth 100000 in
set_option maxHeartbeats 1000000 in
theorem rLeaf_any {w : World} (n : Nat) (hn : n < 18446744073709551616) (z : List Int) (hz : z.length = 32) :
    Calls Try.prog 6 #[.agg (leafC n z).toArray] w fun e w' => ∃ v, e = .returned v ∧ Made w w' v (leafT n z) := by
  obtain ⟨W, hW⟩ : ∃ W, W = w.alloc (.cells (leafC n z).toArray 26) := ⟨_, rfl⟩
  have bb : Below w.heap.size w W := by rw [hW]; exact (Below.refl _ _).alloc (Nat.le_refl _) _
  have BW : Hid _ := bb
  have BL : Hid (Blk W w.heap.size (leafC n z) 26) := by rw [hW]; exact Blk.made _ _ _
  obtain ⟨W1, hW1⟩ : ∃ W1, W1 = W.alloc (.cells (bs [21]).toArray 5) := ⟨_, rfl⟩
  have M1 : Hid (Made W W1 (.slice (some ⟨W.heap.size, 0, none⟩) 1 1) [21]) := by rw [hW1]; exact made_new (Below.refl _ _) [21] (by simp)
  clear bb
  go_enter Try.func6, Try.ntmps6
  go_upto_region 1 with fail
  rw [← hW]
  clear hW
  have F0 : Hid _ := fun w0 => fixed_any (w := w0) n 8 hn (by omega)
  have S0 : Hid _ := fun w0 => xsum_any (w := w0) z hz
  have hW1' : W.alloc (.cells #[.int .u8 21] 5) = W1 := hW1.symm
  have c0 : W1.cell? ⟨w.heap.size, 0, none⟩ = some (.int .u64 n) := (Blk.keep0 BL.out M1.out.2.1).cell 0
  clear hW1
  go_upto_region 2 with (first
    | (go_at_call 10; refine Calls.mono (F0.out _) ?_; rintro e w2 ⟨v2, rfl, m2⟩; have M2 : Hid _ := m2; have N2 : Hid _ := Made.then M1.out m2.2.1; clear m2)
    | (refine wpList_app rfl (.tmp 4) (.tmp 7) rfl (l := [21]) (m := fx n 8) rfl rfl N2.out.1 (Own.src M2.out.1) (by simp [fx_len]) ?_; intro v3 w3 o3 c3 a3; have M3 : Hid _ := Made.app N2.out o3 c3 a3; clear o3 c3 a3))
  have B3 : Hid _ := Blk.keep0 BL.out M3.out.2.1
  go_wp2_with (first
    | (refine wpList_load_part rfl 24 (.tmp 10) rfl w.heap.size 1 (bs z) rfl B3.out (show ((leafC n z).drop 1).take (bs z).length = bs z from List.take_of_length_le (Nat.le_refl _)) Try.underlying24 rfl (sz24 z hz) ?_)
    | (go_at_call 11; refine Calls.mono (S0.out _) ?_; rintro e w4 ⟨v4, rfl, m4⟩; have M4 : Hid _ := m4; have N4 : Hid _ := Made.then M3.out m4.2.1; clear m4)
    | (refine wpList_app rfl (.tmp 9) (.tmp 12) rfl (l := [21] ++ fx n 8) (m := z) rfl rfl N4.out.1 (Own.src M4.out.1) (by simp [fx_len]; omega) ?_; intro v5 w5 o5 c5 a5; have M5 : Hid _ := Made.app N4.out o5 c5 a5; clear o5 c5 a5))
  go_ret
  exact ⟨_, rfl, Made.outer M5.out BW.out⟩
set_option maxRecDepth 100000 in
set_option maxHeartbeats 1000000 in
theorem rFork_any {w : World} (x y : List Int) (hx : x.length = 32) (hy : y.length = 32) :
    Calls Try.prog 8 #[.agg (bs x).toArray, .agg (bs y).toArray] w fun e w' => ∃ v, e = .returned v ∧ Made w w' v (forkT x y) := by
  obtain ⟨W, hW⟩ : ∃ W, W = (w.alloc (.cells (bs x).toArray 24)).alloc (.cells (bs y).toArray 24) := ⟨_, rfl⟩
  have bb : Below w.heap.size w W := by rw [hW]; exact ((Below.refl _ _).alloc (Nat.le_refl _) _).alloc (by simp) _
  have BW : Hid _ := bb
  have BX : Hid (Blk W w.heap.size (bs x) 24) := by rw [hW]; exact (Blk.made _ _ _).alloc _
  have BY : Hid (Blk W (w.heap.size + 1) (bs y) 24) := by rw [hW]; have := Blk.made (w.alloc (.cells (bs x).toArray 24)) (bs y) 24; rwa [World.size_alloc] at this
  obtain ⟨W1, hW1⟩ : ∃ W1, W1 = W.alloc (.cells (bs [22]).toArray 5) := ⟨_, rfl⟩
  have M1 : Hid (Made W W1 (.slice (some ⟨W.heap.size, 0, none⟩) 1 1) [22]) := by rw [hW1]; exact made_new (Below.refl _ _) [22] (by simp)
  clear bb
  go_enter Try.func8, Try.ntmps8
  go_upto_region 1 with fail
  rw [← hW]
  clear hW
  have S0 : Hid _ := fun w0 => xsum_any (w := w0) x hx
  have S1 : Hid _ := fun w0 => xsum_any (w := w0) y hy
  have hW1' : W.alloc (.cells #[.int .u8 22] 5) = W1 := hW1.symm
  have B1 : Hid _ := Blk.keep0 BX.out M1.out.2.1
  clear hW1
  go_upto_region 2 with (first
    | (refine wpList_load_part rfl 24 (.tmp 2) rfl w.heap.size 0 (bs x) rfl B1.out (by simp) Try.underlying24 rfl (sz24 x hx) ?_)
    | (go_at_call 11; refine Calls.mono (S0.out _) ?_; rintro e w2 ⟨v2, rfl, m2⟩; have M2 : Hid _ := m2; have N2 : Hid _ := Made.then M1.out m2.2.1; clear m2)
    | (refine wpList_app rfl (.tmp 6) (.tmp 8) rfl (l := [22]) (m := x) rfl rfl N2.out.1 (Own.src M2.out.1) (by simp; omega) ?_; intro v3 w3 o3 c3 a3; have M3 : Hid _ := Made.app N2.out o3 c3 a3; clear o3 c3 a3))
  have B3 : Hid _ := Blk.keep0 BY.out M3.out.2.1
  go_wp2_with (first
    | (refine wpList_load_part rfl 24 (.tmp 3) rfl (w.heap.size + 1) 0 (bs y) rfl B3.out (by simp) Try.underlying24 rfl (sz24 y hy) ?_)
    | (go_at_call 11; refine Calls.mono (S1.out _) ?_; rintro e w4 ⟨v4, rfl, m4⟩; have M4 : Hid _ := m4; have N4 : Hid _ := Made.then M3.out m4.2.1; clear m4)
    | (refine wpList_app rfl (.tmp 10) (.tmp 12) rfl (l := [22] ++ x) (m := y) rfl rfl N4.out.1 (Own.src M4.out.1) (by simp; omega) ?_; intro v5 w5 o5 c5 a5; have M5 : Hid _ := Made.app N4.out o5 c5 a5; clear o5 c5 a5))
  go_ret
  exact ⟨_, rfl, Made.outer M5.out BW.out⟩

end Go.Proofs.Ytfbiafemmoamiaa
