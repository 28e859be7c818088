/-
  The walks of digest.Zeros, of the reference's Zeros and of DigestZeros.
-/
import Derived.Test.YtfnfmgnebhfacaaRows
import Derived.WalkKit
import Derived.WalkSpells
import Derived.WalkLawsBesides
import Derived.Lib.BitFns
import Derived.BigQuiet
import Derived.Deep.QuietTactic
import Derived.Deep.RegionHeld3
namespace Go.Proofs.Ytfnfmgnebhfacaa
open Go.RowKit

theorem ret_int {k : IntKind} {a b : Int} (h : a = b) : Ending.returned (.int k a) = .returned (.int k b) := by rw [h]

set_option maxRecDepth 100000 in
theorem len8_any (x : Int) (w : World) (h0 : 0 ≤ x) (h1 : x ≤ 255) :
    Calls Try.prog 14 #[.int .u8 x] w fun e w' => e = .returned (.int .i64 (Lib.bitLen x.toNat)) ∧ w' = w := by
  go_enter Try.func14, Try.ntmps14
  go_wp2
  go_ret
  refine ⟨?_, rfl⟩
  have e := Lib.len8_of x h0 h1
  have l := Lib.bitLen_le8 ⟨x.toNat, by omega⟩
  simp only at l
  refine ret_int (a := wrap64 (Lib.len8 x)) ?_
  rw [e]
  unfold wrap64
  omega

theorem lz8_any (x : Int) (w : World) (h0 : 0 ≤ x) (h1 : x ≤ 255) :
    Calls Try.prog 12 #[.int .u8 x] w fun e w' => e = .returned (.int .i64 (8 - (Lib.bitLen x.toNat : Int))) ∧ w' = w := by
  have l := Lib.bitLen_le8 ⟨x.toNat, by omega⟩
  simp only at l
  go_enter Try.func12, Try.ntmps12
  go_wp2_with (go_at_call 14; refine (len8_any x _ h0 h1).mono ?_; rintro e w' ⟨rfl, rfl⟩)
  go_ret
  exact ⟨rfl, rfl⟩

theorem Try.cells25 : Try.prog.cellsOf 25 = 32 := by kernel_rfl
theorem Try.cells5 : Try.prog.cellsOf 5 = 1 := by kernel_rfl

theorem run_index_arr (cs : List Value) (z : Nat → Int) (hc : ∀ i, i < 32 → cs[i]? = some (.int .u8 (z i))) (k : Nat) (h : k < 32) (w : World) :
    (Instr.index 25 (.agg cs.toArray) (.int .i64 (k : Int))).run Try.prog w = .ok (.int .u8 (z k)) w := by
  have h1 : (0 : Int) ≤ k ∧ (k : Int) < 32 := by omega
  have hk := hc k h
  simp [Instr.index, run_underlying Try.underlying25, asIntOf, go_sem, part, h, hk]

/-- What 'Zeros' answers: eight for each byte that is 0 ahead of the first that is not, and the zeros ahead in that one. -/
def IsZ (z : Nat → Int) (n : Nat) : Prop :=
  (n = 256 ∧ ∀ i, i < 32 → z i = 0) ∨ ∃ k, k < 32 ∧ (∀ i, i < k → z i = 0) ∧ z k ≠ 0 ∧ n = 8 * k + (8 - Lib.bitLen (z k).toNat)

set_option maxHeartbeats 400000 in
theorem zeros_any (cs : List Value) (z : Nat → Int) (hs : cs.length = 32) (hc : ∀ i, i < 32 → cs[i]? = some (.int .u8 (z i))) (hb : ∀ i, i < 32 → 0 ≤ z i ∧ z i ≤ 255) (w : World) :
    Calls Try.prog 6 #[.agg cs.toArray] w fun e w' => ∃ n : Nat, IsZ z n ∧ e = .returned (.int .i64 n) ∧ Below w.heap.size w w' := by
  have hi : (Try.prog.info? 25).map (·.size) = some cs.length := by rw [hs]; kernel_rfl
  have hc' := hc
  clear hs hc
  go_enter Try.func6, Try.ntmps6
  go_wp2_with (refine wpList_load_row rfl 25 _ rfl w.heap.size rfl 25 cs.toArray _ _ (heap_alloc_new _ _) Try.underlying25 rfl (by simpa using hi) ?_)
  go_loop [3, 7] (fun t i => ∃ k : Nat, k ≤ 32 ∧ i = .int .i64 k ∧ t = .int .i64 (8 * k : Nat) ∧ ∀ j, j < k → z j = 0) (fun _ i => 32 - (intOf i).toNat)
  case atStart => exact ⟨0, Nat.zero_le _, rfl, rfl, fun j h => by omega⟩
  case round =>
    obtain ⟨k, hk, rfl, rfl, hz⟩ := hrel
    by_cases hlt : k < 32
    · have hix := run_index_arr cs z hc' k hlt
      have hbk := hb k hlt
      have l := Lib.bitLen_le8 ⟨(z k).toNat, by omega⟩
      simp only at l
      clear hc' hb hi
      by_cases h0 : z k = 0
      · have hn : (z k != 0) = false := by simp [h0]
        have h8 : Lib.bitLen (z k).toNat = 0 := by rw [h0]; decide
        have H0 : Hid (z k = 0) := h0
        clear h0
        go_wp2_with (go_at_call 12; refine (lz8_any _ _ hbk.1 hbk.2).mono ?_; rintro e w' ⟨rfl, rfl⟩)
        go_round
        case rel => exact ⟨k + 1, by omega, by go_num, by go_num, fun j hj => by rcases Nat.lt_succ_iff_lt_or_eq.1 hj with h | rfl; exact hz j h; exact H0.out⟩
        case measure => simp [intOf]; omega
      · have hn : (z k != 0) = true := by simp [h0]
        go_wp2_with (go_at_call 12; refine (lz8_any _ _ hbk.1 hbk.2).mono ?_; rintro e w' ⟨rfl, rfl⟩)
        go_ret
        exact ⟨8 * k + (8 - Lib.bitLen (z k).toNat), .inr ⟨k, hlt, hz, h0, rfl⟩, ret_int (by omega), (Below.refl _ _).alloc (Nat.le_refl _) _⟩
    · have hk32 : k = 32 := by omega
      subst hk32
      go_wp2
      go_ret
      exact ⟨256, .inl ⟨rfl, hz⟩, rfl, (Below.refl _ _).alloc (Nat.le_refl _) _⟩

/-- Bit i of the 256, the highest of each byte first. -/
def bitAt (z : Nat → Int) (i : Nat) : Nat := (z (i / 8)).toNat / 2 ^ (7 - i % 8) % 2
def IsF (z : Nat → Int) (n : Nat) : Prop := (∀ i, i < n → bitAt z i = 0) ∧ (n = 256 ∨ n < 256 ∧ bitAt z n = 1)

theorem bit_of (b : Int) (h0 : 0 ≤ b) (h1 : b ≤ 255) (m : Nat) : bits .and .u8 (b / 2 ^ m) 1 = ((b.toNat / 2 ^ m % 2 : Nat) : Int) := by
  obtain ⟨n, rfl⟩ := Int.eq_ofNat_of_zero_le h0
  have e : ((n : Int) / 2 ^ m) = ((n / 2 ^ m : Nat) : Int) := by simp
  have l : n / 2 ^ m ≤ n := Nat.div_le_self _ _
  rw [e, show (1 : Int) = ((1 : Nat) : Int) from rfl, u8_and_nat _ _ (by omega) (by omega), nat_mask1, Int.toNat_natCast]

set_option maxHeartbeats 400000 in
set_option maxRecDepth 100000 in
theorem refZeros_any (cs : List Value) (z : Nat → Int) (hc : ∀ i, i < 32 → cs[i]? = some (.int .u8 (z i))) (hb : ∀ i, i < 32 → 0 ≤ z i ∧ z i ≤ 255) (w : World) :
    Calls Try.prog 7 #[.agg cs.toArray] w fun e w' => ∃ n : Nat, IsF z n ∧ e = .returned (.int .i64 n) ∧ Below w.heap.size w w' := by
  go_enter Try.func7, Try.ntmps7
  go_wp2
  go_loop [3] (fun i => ∃ k : Nat, k ≤ 256 ∧ i = .int .i64 k ∧ ∀ j, j < k → bitAt z j = 0) (fun i => 256 - (intOf i).toNat)
  case atStart => exact ⟨0, Nat.zero_le _, rfl, fun j h => by omega⟩
  case round =>
    obtain ⟨k, hk, rfl, hz⟩ := hrel
    by_cases hlt : k < 256
    · have hq : k / 8 < 32 := by omega
      have hcell : (w.alloc (.cells cs.toArray 25)).cell? ⟨w.heap.size, k / 8, none⟩ = some (.int .u8 (z (k / 8))) := by
        rw [cell_of_row _ _ _ cs.toArray 25 _ (heap_alloc_new _ _)]; simpa using hc _ hq
      have hbk := hb _ hq
      clear hc hb
      go_wp2
      · rename_i hbit _
        go_ret
        rw [bit_of _ hbk.1 hbk.2] at hbit
        exact ⟨k, ⟨hz, .inr ⟨hlt, by have := eq_of_beq hbit; unfold bitAt; omega⟩⟩, rfl, (Below.refl _ _).alloc (Nat.le_refl _) _⟩
      · rename_i hbit
        rw [bit_of _ hbk.1 hbk.2] at hbit
        have hb0 : bitAt z k = 0 := by have := ne_of_beq_false hbit; unfold bitAt; omega
        refine ⟨⟨k + 1, by omega, by go_num, fun j hj => ?_⟩, by simp [intOf]; omega⟩
        rcases Nat.lt_succ_iff_lt_or_eq.1 hj with h | rfl
        · exact hz j h
        · exact hb0
    · have hk32 : k = 256 := by omega
      subst hk32
      go_wp2
      go_ret
      exact ⟨256, ⟨hz, .inl rfl⟩, rfl, (Below.refl _ _).alloc (Nat.le_refl _) _⟩

theorem byte_bits : ∀ b : Fin 256, b.val ≠ 0 → (Lib.bitLen b.val ≤ 8 ∧ 0 < Lib.bitLen b.val) ∧ b.val / 2 ^ (7 - (8 - Lib.bitLen b.val)) % 2 = 1 ∧ ∀ j : Fin 8, j.val < 8 - Lib.bitLen b.val → b.val / 2 ^ (7 - j.val) % 2 = 0 := by decide +kernel

theorem isF_of (z : Nat → Int) (hb : ∀ i, i < 32 → 0 ≤ z i ∧ z i ≤ 255) (n : Nat) (h : IsZ z n) : IsF z n := by
  rcases h with ⟨rfl, h⟩ | ⟨k, hk, hz, hne, rfl⟩
  · exact ⟨fun i hi => by unfold bitAt; rw [h (i / 8) (by omega)]; simp, .inl rfl⟩
  · obtain ⟨g0, g1⟩ := hb k hk
    obtain ⟨⟨l8, l0⟩, one, nil⟩ := byte_bits ⟨(z k).toNat, by omega⟩ (by simp; omega)
    simp only at l8 l0 one nil
    refine ⟨fun i hi => ?_, .inr ⟨by omega, ?_⟩⟩
    · by_cases hik : i / 8 < k
      · unfold bitAt; rw [hz _ hik]; simp
      · have e : i / 8 = k := by omega
        have := nil ⟨i % 8, by omega⟩ (by simp only; omega)
        unfold bitAt; rw [e]; exact this
    · have e : (8 * k + (8 - Lib.bitLen (z k).toNat)) / 8 = k := by omega
      have e2 : (8 * k + (8 - Lib.bitLen (z k).toNat)) % 8 = 8 - Lib.bitLen (z k).toNat := by omega
      unfold bitAt; rw [e, e2]; exact one

theorem isF_unique (z : Nat → Int) (n m : Nat) (h : IsF z n) (h' : IsF z m) : n = m := by
  obtain ⟨a, b⟩ := h
  obtain ⟨c, d⟩ := h'
  rcases Nat.lt_trichotomy n m with g | g | g
  · have := c n g; omega
  · exact g
  · have := a m g; omega


/-- Below the old size nothing has turned, and the box on top of it is there still. -/
def Bel (w w' : World) : Prop := Below w.heap.size w w' ∧ w.heap.size < w'.heap.size

theorem keep_drew {w w1 : World} {cs : List Value} (h : w1.rangeAt w.heap.size 0 cs ∧ Bel w w1) : w1.drew.rangeAt w.heap.size 0 cs ∧ Bel w w1.drew :=
  ⟨(World.rangeAt_drew _ _ _ _).2 h.1, h.2.1.drew, h.2.2⟩
theorem keep_call {w w1 w2 : World} {cs : List Value} (h : w1.rangeAt w.heap.size 0 cs ∧ Bel w w1) (hb : Below w1.heap.size w1 w2) : w2.rangeAt w.heap.size 0 cs ∧ Bel w w2 :=
  ⟨fun j v hv => (hb.cell (p := ⟨w.heap.size, 0 + j, none⟩) h.2.2).trans (h.1 j v hv), h.2.1.trans (hb.mono (Nat.le_of_lt h.2.2)), Nat.lt_of_lt_of_le h.2.2 hb.size⟩
theorem keep_new (w : World) (cs : List Value) (t : TypeId) : (w.alloc (.cells cs.toArray t)).rangeAt w.heap.size 0 cs ∧ Bel w (w.alloc (.cells cs.toArray t)) :=
  ⟨fun j v hv => by rw [cell_of_row _ _ _ cs.toArray t _ (heap_alloc_new _ _)]; simpa using hv, (Below.refl _ _).alloc (Nat.le_refl _) _, by simp⟩

set_option maxHeartbeats 400000 in
theorem law_any (cs : List Value) (z : Nat → Int) (hs : cs.length = 32) (hc : ∀ i, i < 32 → cs[i]? = some (.int .u8 (z i))) (hb : ∀ i, i < 32 → 0 ≤ z i ∧ z i ≤ 255) (w : World) :
    Calls Try.prog 3 #[.agg cs.toArray] w fun e w' => e = .returned (.bool true) ∧ Below w.heap.size w w' := by
  have hi : (Try.prog.info? 22).map (·.size) = some cs.length := by rw [hs]; kernel_rfl
  have hu := Try.underlying22
  have h6 := zeros_any cs z hs hc hb
  have h7 := refZeros_any cs z hc hb
  have H6 : Hid _ := h6
  have H7 : Hid _ := h7
  have hF := isF_of z hb
  have HF : Hid _ := hF
  have hn := keep_new w cs 22
  clear h6 h7 hF hc hb hs
  go_enter Try.func3, Try.ntmps3
  go_wp2_with fail
  refine wp_region_held_drew (S := fun w' => w'.rangeAt w.heap.size 0 cs ∧ Bel w w') (by kernel_rfl) (keep_drew hn) (fun hH => ?_)
  refine wpAnyH_take (i := 0) (v := .agg cs.toArray) rfl (by kernel_rfl) (by kernel_rfl) (by kernel_rfl) (fun _ _ _ h => h) (yieldsIf_load_mid (by rfl) _ _ rfl w.heap.size 0 rfl cs _ (fun w h => h.1) Try.underlying22 rfl hi) hH ?_
  refine wpAnyH_take (i := 2) (v := .agg cs.toArray) rfl (by kernel_rfl) (by kernel_rfl) (by kernel_rfl) (fun _ _ _ h => h) (yieldsIf_load_mid (by rfl) _ _ rfl w.heap.size 0 rfl cs _ (fun w h => h.1) Try.underlying22 rfl hi) hH ?_
  refine wpAnyH_ready (rs := [1]) (by kernel_rfl) (by simp) ?_
  refine AllReadyH.cons rfl (fun K hK => ?_) AllReadyH.nil
  go_simp
  refine (H6.out _).mono ?_
  rintro e w1 ⟨n, hz1, rfl, hb1⟩
  refine hK.out _ _ (keep_call hH hb1) (fun hH1 => ?_)
  clear hK K hH
  refine wpAnyH_ready (rs := [3]) (by kernel_rfl) (by simp) ?_
  refine AllReadyH.cons rfl (fun K hK => ?_) AllReadyH.nil
  go_simp
  refine (H7.out _).mono ?_
  rintro e w2 ⟨m, hz2, rfl, hb2⟩
  refine hK.out _ _ (keep_call hH1 hb2) (fun hH2 => ?_)
  clear hK K hH1
  obtain rfl := isF_unique z n m (HF.out n hz1) hz2
  refine wpAnyH_ready (rs := [4]) (by kernel_rfl) (by simp) ?_
  refine AllReadyH.cons rfl (fun K hK => ?_) AllReadyH.nil
  go_simp
  refine hK.out _ _ hH2 (fun _ => ?_)
  clear hK K
  refine wpAnyH_ready (rs := [5]) (by kernel_rfl) (by simp) ?_
  refine AllReadyH.cons rfl (fun K hK => ?_) AllReadyH.nil
  go_simp
  refine hK.out _ _ hH2 (fun _ => ?_)
  clear hK K
  refine wpAnyH_done (by kernel_rfl) ?_ _
  go_wp2
  go_ret
  exact ⟨rfl, hH2.2.1⟩
end Go.Proofs.Ytfnfmgnebhfacaa
