/-
  Spans are copied.
-/
import Derived.Test.YtjmeaebehndheaaMxE
import Derived.Test.YtjmeaebehndheaaTrC
namespace Go.Proofs.Ytjmeaebehndheaa
open Go.RowKit


/-- What CopySpan answers. -/
structure CsQ (w w' : World) (o : Sp) (e : Ending) : Prop where
  ex : ∃ o' : Sp, e = .returned (.agg o'.cells.toArray) ∧ Below w.heap.size w w' ∧ o'.op = o.op ∧ o'.lo.l = o.lo.l ∧ o'.hi.l = o.hi.l ∧ SpIn w' (fun g => g < w'.heap.size) o' ∧ ∀ g, o'.lo.val.ownBlock = some g ∨ o'.hi.val.ownBlock = some g → w.heap.size ≤ g

set_option maxRecDepth 100000 in
set_option maxHeartbeats 8000000 in
theorem copySpan_any {w : World} {o : Sp} (h1 : Src w o.lo.val o.lo.l) (h2 : Src w o.hi.val o.hi.l) (l1 : o.lo.l.length ≤ 1048576) (l2 : o.hi.l.length ≤ 1048576) :
    Calls Try.prog 39 #[.agg o.cells.toArray] w fun e w' => CsQ w w' o e := by
  obtain ⟨⟨la, ln, lc, ll⟩, ⟨ha, hn, hc, hl⟩, op⟩ := o
  simp only [Tx.val] at h1 h2 l1 l2
  show Calls Try.prog 39 #[.agg (spC (.slice la ln lc) (.slice ha hn hc) op).toArray] w _
  obtain ⟨W, hW⟩ : ∃ W, W = (w.alloc (.cells (spC (.slice la ln lc) (.slice ha hn hc) op).toArray 89)).alloc (.cells (spC (.slice none 0 0) (.slice none 0 0) false).toArray 89) := ⟨_, rfl⟩
  have cW : Chg (fun _ => False) w W := by rw [hW]; exact ((Chg.refl _ _).alloc _).alloc _
  have hb : Below w.heap.size w W := cW.below (Nat.le_refl _) (fun _ e => e.elim)
  have B0 : Hid (Blk W w.heap.size (spC (.slice la ln lc) (.slice ha hn hc) op) 89) := by rw [hW]; exact (Blk.made w _ 89).alloc _
  have R0 : Hid (Blk W (w.heap.size + 1) (spC (.slice none 0 0) (.slice none 0 0) false) 89) := by
    rw [hW]
    have h9 := Blk.made (w.alloc (.cells (spC (.slice la ln lc) (.slice ha hn hc) op).toArray 89)) (spC (.slice none 0 0) (.slice none 0 0) false) 89
    rwa [World.size_alloc] at h9
  have SW : Hid (W.heap.size = w.heap.size + 2) := by show _ = _; rw [hW]; simp
  have HB : Hid _ := hb
  have HL : Hid (Src w (.slice la ln lc) ll) := h1
  have HH : Hid (Src w (.slice ha hn hc) hl) := h2
  clear h1 h2 cW hb
  go_enter Try.func39, Try.ntmps39
  go_upto_region 1 with fail
  have hW2 : W = (w.alloc (.cells (spC (.slice la ln lc) (.slice ha hn hc) op).toArray 89)).alloc (.cells #[.slice none 0 0, .slice none 0 0, .bool false] 89) := hW
  rw [← hW2]
  clear hW hW2
  refine wp_region_held_drew (S := fun w' => Blk w' w.heap.size (spC (.slice la ln lc) (.slice ha hn hc) op) 89 ∧ Below w.heap.size w w') (by kernel_rfl) (⟨B0.out.drew, HB.out.drew⟩) (fun hH => ?_)
  refine wpAnyH_take (i := 0) (v := .pointer (some ⟨w.heap.size, 0, none⟩)) rfl (by kernel_rfl) (by kernel_rfl) (by kernel_rfl) (fun _ _ _ h => h) (Or.inl ⟨by rfl, fun w' _ => by go_simp⟩) hH ?_
  refine wpAnyH_take (i := 1) (v := .slice la ln lc) rfl (by kernel_rfl) (by kernel_rfl) (by kernel_rfl) (fun _ _ _ h => h) (Or.inl ⟨by rfl, fun w' hw' => by have h2 : w'.cell? ⟨w.heap.size, 0, none⟩ = some (.slice la ln lc) := Blk.cell hw'.1 0; go_simp⟩) hH ?_
  refine wpAnyH_take (i := 3) (v := .pointer (some ⟨w.heap.size, 1, none⟩)) rfl (by kernel_rfl) (by kernel_rfl) (by kernel_rfl) (fun _ _ _ h => h) (Or.inl ⟨by rfl, fun w' _ => by go_simp⟩) hH ?_
  refine wpAnyH_take (i := 4) (v := .slice ha hn hc) rfl (by kernel_rfl) (by kernel_rfl) (by kernel_rfl) (fun _ _ _ h => h) (Or.inl ⟨by rfl, fun w' hw' => by have h2 : w'.cell? ⟨w.heap.size, 1, none⟩ = some (.slice ha hn hc) := Blk.cell hw'.1 1; go_simp⟩) hH ?_
  refine wpAnyH_take (i := 6) (v := .pointer (some ⟨w.heap.size, 2, none⟩)) rfl (by kernel_rfl) (by kernel_rfl) (by kernel_rfl) (fun _ _ _ h => h) (Or.inl ⟨by rfl, fun w' _ => by go_simp⟩) hH ?_
  refine wpAnyH_take (i := 7) (v := .bool op) rfl (by kernel_rfl) (by kernel_rfl) (by kernel_rfl) (fun _ _ _ h => h) (Or.inl ⟨by rfl, fun w' hw' => by have h2 : w'.cell? ⟨w.heap.size, 2, none⟩ = some (.bool op) := Blk.cell hw'.1 2; go_simp⟩) hH ?_
  refine wpAnyH_ready (rs := [2]) (by kernel_rfl) (by simp) ?_
  refine AllReadyH.cons rfl (fun K hK => ?_) AllReadyH.nil
  go_simp
  refine Calls.mono (copy_any (Src.kept0 HL.out hH.2) (by omega)) ?_
  rintro e q0 ⟨r0, rfl, m0⟩
  refine hK.out _ _ (⟨hH.1.keep0 (m0.2.1), hH.2.trans ((m0.2.1).mono hH.2.size)⟩) (fun h0 => ?_)
  clear hK K
  obtain ⟨ta, tc, hv⟩ := m0.1.form
  obtain ⟨tn, hn9⟩ : ∃ nn : Nat, nn = ll.length := ⟨_, rfl⟩
  rw [← hn9] at hv
  subst hv
  clear hn9
  refine wpAnyH_ready (rs := [5]) (by kernel_rfl) (by simp) ?_
  refine AllReadyH.cons rfl (fun K hK => ?_) AllReadyH.nil
  go_simp
  refine Calls.mono (copy_any (Src.kept0 HH.out h0.2) (by omega)) ?_
  rintro e q1 ⟨r1, rfl, m1⟩
  refine hK.out _ _ (⟨h0.1.keep0 (m1.2.1), h0.2.trans ((m1.2.1).mono h0.2.size)⟩) (fun h1 => ?_)
  clear hK K
  obtain ⟨ua, uc, hv⟩ := m1.1.form
  obtain ⟨un, hm9⟩ : ∃ nn : Nat, nn = hl.length := ⟨_, rfl⟩
  rw [← hm9] at hv
  subst hv
  clear hm9
  have R1 : Hid (Blk q1 (w.heap.size + 1) (spC (.slice none 0 0) (.slice none 0 0) false) 89) := ((R0.out.drew).keep0 m0.2.1).keep0 m1.2.1
  have BE : Hid (Below w.heap.size w q1) := h1.2
  have O0 : Hid (Own q1 (.slice ta tn tc) ll) := Own.kept m0.1 (Chg.of_below m1.2.1 (fun _ => False)) (fun _ _ e => e)
  have O1 : Hid (Own q1 (.slice ua un uc) hl) := m1.1
  have G0 : Hid (∀ g, (Value.slice ta tn tc).ownBlock = some g → w.heap.size + 2 ≤ g) := fun g hg => by have := m0.2.2 g hg; have := SW.out; have e9 : W.drew.heap.size = W.heap.size := rfl; omega
  have G1 : Hid (∀ g, (Value.slice ua un uc).ownBlock = some g → w.heap.size + 2 ≤ g) := fun g hg => by have := m1.2.2 g hg; have := SW.out; have := m0.2.1.size; have e9 : W.drew.heap.size = W.heap.size := rfl; omega
  clear m0 m1
  refine wpAnyH_take (i := 8) (v := .agg (spC (.slice ta tn tc) (.slice ua un uc) op).toArray) rfl (by kernel_rfl) (by kernel_rfl) (by kernel_rfl) (fun _ _ _ h => h) (Or.inl ⟨by rfl, fun w' _ => by go_simp; rfl⟩) h1 ?_
  refine wpAnyH_ready (rs := [9]) (by kernel_rfl) (by simp) ?_
  refine AllReadyH.cons rfl (fun K hK => ?_) AllReadyH.nil
  refine step_storeF rfl 89 (.tmp 2) (.tmp 11) rfl (w.heap.size + 1) (spC (.slice ta tn tc) (.slice ua un uc) op) (by kernel_rfl) (by kernel_rfl) R1.out rfl (Try.spSz _ _ _) (spC_one rfl rfl _) ?_
  intro w8 b8 c8
  have RR : Hid _ := b8
  have F8 : Hid (Below w.heap.size w w8) := BE.out.trans (c8.below BE.out.size (fun k e => by omega))
  have P0 : Hid (Own w8 (.slice ta tn tc) ll) := O0.out.kept c8 (fun k hk e => by have := G0.out k hk; omega)
  have P1 : Hid (Own w8 (.slice ua un uc) hl) := O1.out.kept c8 (fun k hk e => by have := G1.out k hk; omega)
  refine hK.out _ _ ⟨h1.1.keep c8 (by omega), h1.2.trans (c8.below h1.2.size (fun k e => by omega))⟩ (fun _ => ?_)
  clear hK K hH h0 h1 b8 c8 R1 O0 O1
  refine wpAnyH_done (by kernel_rfl) ?_ _
  go_wp2_with fail
  exact bodyPost_ret (v := .agg (spC (.slice ta tn tc) (.slice ua un uc) op).toArray) (results_row1 rfl _ _ (w.heap.size + 1) 89 _ _ _ rfl RR.out.eq Try.underlying89 rfl (Try.spSz _ _ _)) rfl ⟨⟨⟨⟨ta, tn, tc, ll⟩, ⟨ua, un, uc, hl⟩, op⟩, rfl, F8.out, rfl, rfl, rfl, ⟨⟨P0.out.src, fun g hg => .inl (P0.out.lt hg), by show ll.length ≤ _; omega⟩, ⟨P1.out.src, fun g hg => .inl (P1.out.lt hg), by show hl.length ≤ _; omega⟩⟩, fun g hg => hg.elim (fun e => Nat.le_trans (Nat.le_add_right _ 2) (G0.out g e)) (fun e => Nat.le_trans (Nat.le_add_right _ 2) (G1.out g e))⟩⟩
end Go.Proofs.Ytjmeaebehndheaa
