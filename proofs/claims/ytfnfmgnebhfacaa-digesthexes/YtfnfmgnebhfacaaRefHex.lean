/-
  The walk of the reference's Hex.
-/
import Derived.Test.YtfnfmgnebhfacaaHex
import Derived.Deep.AppendLies
import Derived.OwnWalk
namespace Go.Proofs.Ytfnfmgnebhfacaa
open Go.RowKit

/-- The first 2 k digits, as cells. -/
def digs (z : Nat → Int) (k : Nat) : List Value := ((hexNs z).take (2 * k)).map (Value.int .u8)
theorem digs_step (z : Nat → Int) (k : Nat) (h : k < 32) : digs z k ++ [.int .u8 (hx (z k / 16)), .int .u8 (hx (z k % 16))] = digs z (k + 1) := by
  unfold digs
  have e : 2 * (k + 1) = 2 * k + 1 + 1 := by omega
  have l := hexNs_len z
  rw [e, List.take_succ_eq_append_getElem (by omega), List.take_succ_eq_append_getElem (by omega), ← hd_even, ← hd_odd]
  have g1 : (hexNs z)[2 * k]'(by omega) = hd z (2 * k) := by simp [hexNs]
  have g2 : (hexNs z)[2 * k + 1]'(by omega) = hd z (2 * k + 1) := by simp [hexNs]
  rw [g1, g2]
  simp

theorem info5 : (Try.prog.info? 5).map (fun i => (i.zero, i.size, i.bytes)) = some (some (.int .u8 0), 1, 1) := by kernel_rfl

theorem cell_up {w : World} {a : Addr} {v : Value} {o : Obj} (h : w.cell? a = some v) : (w.alloc o).cell? a = some v := by
  rw [World.cell?_alloc_lt _ _ _ (World.block_lt_of_cell? _ _ h)]; exact h
theorem one_two (a b : Int) : ∀ u ∈ [Value.int .u8 a, .int .u8 b], u.oneCell' = true := fun u hu => by
  simp at hu
  rcases hu with rfl | rfl <;> rfl
theorem cell_on {w w1 : World} {base : Nat} {e : TypeId} {sz : Nat} {u : Value} {n : Nat} {xs : List Value} {a : Addr} {v : Value} {o : Obj} (hown : w.ownsRow base e sz u n xs) (hg : (w.drew.alloc o).grownBy w1 u.ownBlock)
    (h : w.drew.cell? a = some v) (hlt : a.block < base) : w1.cell? a = some v := by
  have hb : a.block < w.drew.heap.size := World.block_lt_of_cell? _ _ h
  rw [hg.cell_far a (by simp; exact Nat.lt_succ_of_lt hb) (fun e => by have := (hown.lt _ e.symm).1; omega)]
  exact cell_up h

theorem own_next (z : Nat → Int) (k : Nat) (h : k < 32) {w1 : World} {base g cap : Nat}
    (hown : w1.ownsRow base 5 1 (.slice (some ⟨g, 0, none⟩) (2 * k + 2) cap) (2 * k + 2) (digs z k ++ [.int .u8 (hx (z k / 16)), .int .u8 (hx (z k % 16))])) :
    w1.ownsRow base 5 1 (.slice (some ⟨g, 0, none⟩) (2 * k + 2) cap) (2 * (k + 1)) (digs z (k + 1)) := by
  rw [← digs_step z k h]; exact hown
theorem below_next {W w w1 : World} {b : Nat} {e : TypeId} {sz : Nat} {u : Value} {n : Nat} {xs : List Value} {o : Obj} (hown : w.ownsRow b e sz u n xs) (bel : Below b W w) (hsz : b ≤ w.heap.size) (hg : (w.drew.alloc o).grownBy w1 u.ownBlock) : Below b W w1 :=
  (bel.drew.alloc hsz o).grown hg (by simp; exact Nat.le_succ_of_le hsz) (fun k e => (hown.lt _ e).1)
theorem run_conv_own (z : Nat → Int) (g cap : Nat) (w : World) {base : Nat} (hown : w.ownsRow base 5 1 (.slice (some ⟨g, 0, none⟩) (2 * 32) cap) (2 * 32) (digs z 32)) :
    (convert 38 9 (.slice (some ⟨g, 0, none⟩) 64 cap)).run Try.prog w = .ok (.string (strOf (hexNs z))) w := by
  rw [run_convert_bytes_string w 38 9 5 _ _ _ Try.underlying38 Try.underlying5 Try.underlying9]
  refine run_bytesToString w _ _ _ (hexNs z) ?_
  have e : digs z 32 = (hexNs z).map (Value.int .u8) := by unfold digs; rw [List.take_of_length_le (by rw [hexNs_len]; omega)]
  have := run_loadCells_list (P := Try.prog) w ⟨g, 0, none⟩ ((hexNs z).map (Value.int .u8)) (fun j v hv => by
    have hj : j < 64 := by have := (List.getElem?_eq_some_iff.1 hv).1; simpa [hexNs_len] using this
    rw [Addr.add_mid, Nat.zero_add, hown.cellAt j (by omega), e]
    exact hv)
  simpa [hexNs_len] using this

set_option maxHeartbeats 400000 in
theorem refHex_any (z : Nat → Int) (hb : ∀ i, i < 32 → 0 ≤ z i ∧ z i ≤ 255) (w : World) :
    Calls Try.prog 11 #[.agg (arrOf z).toArray] w fun e w' => e = .returned (.string (strOf (hexNs z))) ∧ Below w.heap.size w w' := by
  obtain ⟨i0, hi, hz0, hz1, hz2⟩ := info_parts info5
  go_enter Try.func11, Try.ntmps11
  go_wp2
  go_loopw [3, 4] (fun v i wr => ∃ k : Nat, k ≤ 32 ∧ i = .int .i64 k ∧ wr.ownsRow (w.heap.size + 1) 5 1 v (2 * k) (digs z k) ∧ Below (w.heap.size + 1) (w.alloc (.cells (arrOf z).toArray 25)) wr) (fun _ i _ => 32 - (intOf i).toNat)
  case atStart => exact ⟨0, Nat.zero_le _, rfl, World.ownsRow_nil _ _ _ _, Below.refl _ _⟩
  case round =>
    obtain ⟨k, hk, rfl, hown, bel⟩ := hrel
    by_cases hlt : k < 32
    · have hcell : wr.cell? ⟨w.heap.size, k, none⟩ = some (.int .u8 (z k)) := by
        rw [bel.cell (by simp), cell_of_row _ _ _ (arrOf z).toArray 25 _ (heap_alloc_new _ _)]
        simpa using arrOf_get z k hlt
      have hbk := hb k hlt
      have hx1 := run_index_tab (z k / 16) (by omega) (by omega)
      have hx2 := run_index_tab (z k % 16) (by omega) (by omega)
      have hsz := bel.size
      simp at hsz
      clear hb
      go_wp2
      have hq1 : IntKind.u8.wrap ((z k).tdiv 16) = z k / 16 := IntWalk.u8_quo _ _ (by omega)
      have hq2 : IntKind.u8.wrap ((z k).tmod 16) = z k % 16 := by rw [Int.tmod_eq_emod_of_nonneg hbk.1]; simp [IntKind.wrap, IntKind.signed, IntKind.bits]; omega
      have hq3 : (z k).tmod 16 = z k % 16 := Int.tmod_eq_emod_of_nonneg hbk.1
      have hm1 : 2 * k + 2 ≤ maxLen := by unfold maxLen; omega
      have hm2 : (2 * k + 2) * 1 ≤ 140737488355328 := by omega
      have hm3 : ∀ o, w.heap.size + 1 ≤ (wr.drew.alloc o).heap.size := fun o => by simp; omega
      have hm4 : w.heap.size < w.heap.size + 1 := by omega
      have hS0 : wr.drew.cell? ⟨w.heap.size, k, none⟩ = some (.int .u8 (z k)) := hcell
      go_region_held3 (fun w' => w'.cell? ⟨w.heap.size, k, none⟩ = some (.int .u8 (z k))) (first | assumption | exact cell_up (by assumption)) (first | (refine step_append_lies _ rfl (.tmp 9) (.tmp 20) 38 rfl (w.heap.size + 1) 5 i0 (.int .u8 0) 1 1 Try.underlying38 hi hz0 hz1 hz2 rfl (by decide) _ _ _ rfl ((hown.drew).alloc _) ⟨wr.heap.size, 0, none⟩ 2 2 [.int .u8 (hx (z k / 16)), .int .u8 (hx (z k % 16))] rfl rfl (World.news_of_block (heap_alloc_new _ _)) (one_two _ _) (by decide) hm1 hm2 (hm3 _) _ rfl ?_; intro g cap w1 hown' hgrow hat hlt1; have hS1 := cell_on hown hgrow hS0 hm4))
      all_goals
        have R1 : Hid _ := own_next z k hlt hown'
        have R2 : Hid _ := below_next hown bel hsz hgrow
        clear hown' hgrow hown bel hcell hx1 hx2 hq1 hq2 hq3 hm1 hm2 hm3 hm4 hS0 hS1
        go_wp2
        go_roundw
        case rel => exact ⟨k + 1, by omega, by go_num, R1.out, R2.out⟩
        case measure => simp [intOf]; omega
    · have hk32 : k = 32 := by omega
      subst hk32
      obtain ⟨g, cap, hv, _, _⟩ := hown.form (by omega)
      subst hv
      have hcv := run_conv_own z g cap wr hown
      have R2 : Hid _ := bel
      clear hown bel hb
      go_wp2
      go_ret
      exact ⟨rfl, ((Below.refl _ _).alloc (Nat.le_refl _) _).trans (R2.out.mono (by omega))⟩
end Go.Proofs.Ytfnfmgnebhfacaa
