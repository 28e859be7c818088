/-
  asked: Rot; what is no call.
-/
import Derived.Test.YtddnecfnjnipjaaPlC
namespace Go.Proofs.Ytddnecfnjnipjaa
open Go.RowKit

set_option maxRecDepth 100000 in
set_option maxHeartbeats 4000000 in
theorem TS.askedRot {w : World} {BD BR BL : Nat → Prop} {p q lg S z b : Nat} {s : St} {r : Rs} (h : TS w BD BR BL p q lg S z b b b s r) (re : Re z s r) (hb : Bd S z b) (a : Ac) (ha : a.kd = 9) :
    Calls Try.prog 16 #[.pointer (some ⟨p, 0, none⟩), .pointer (some ⟨q, 0, none⟩), .agg a.cells.toArray, .pointer (some ⟨lg, 0, none⟩)] w fun e w' => e = .returned (.bool true) ∧ PT w w' BD BR BL p q lg S z b := by
  obtain ⟨W, hW⟩ : ∃ W, W = w.alloc (.cells a.cells.toArray 44) := ⟨_, rfl⟩
  have c0 : Chg (fun _ => False) w W := by rw [hW]; exact (Chg.refl _ _).alloc _
  have r0 : Rw W w.heap.size a.cells.toArray 44 := by rw [hW]; exact ⟨heap_alloc_new _ _⟩
  have h0 := h.fresh c0
  have hlow := h.low
  have nB : ¬ B3 BD BR BL w.heap.size := fun e => by have := hlow _ e; omega
  have k1 : W.cell? ⟨w.heap.size, 1, none⟩ = some (.int .i64 9) := by rw [← ha]; exact r0.cell 1
  have H0 : Hid _ := h0
  have HB : Hid _ := hb
  have RE : Hid _ := re
  have C0 : Hid _ := c0
  have R0 : Hid _ := r0
  have NB : Hid _ := nB
  have HLOW : Hid _ := hlow
  clear h re hb c0 r0 h0 hlow nB
  go_enter Try.func16, Try.ntmps16
  go_upto_region 1 with fail
  rw [← hW]
  clear hW
  have r0d : Rw W.drew w.heap.size a.cells.toArray 44 := ⟨R0.out.eq⟩
  go_upto_region 21 with fail
  clear k1
  refine wp_region_held_drew (S := fun w' => Rw w' w.heap.size a.cells.toArray 44) (by kernel_rfl) r0d (fun hH => ?_)
  refine wpAnyH_take (i := 0) (v := .pointer (some ⟨p, 0, none⟩)) rfl (by kernel_rfl) (by kernel_rfl) (by kernel_rfl) (fun _ _ _ h => h) (Or.inl ⟨by rfl, fun w' _ => by go_simp⟩) hH ?_
  refine wpAnyH_take (i := 1) (v := .pointer (some ⟨w.heap.size, 2, none⟩)) rfl (by kernel_rfl) (by kernel_rfl) (by kernel_rfl) (fun _ _ _ h => h) (Or.inl ⟨by rfl, fun w' _ => by go_simp⟩) hH ?_
  refine wpAnyH_take (i := 2) (v := .int .i64 a.nm) rfl (by kernel_rfl) (by kernel_rfl) (by kernel_rfl) (fun _ _ _ h => h) (Or.inl ⟨by rfl, fun w' hw' => by have q1 : w'.cell? ⟨w.heap.size, 2, none⟩ = some (.int .i64 a.nm) := Rw.cell hw' 2; go_simp⟩) hH ?_
  refine wpAnyH_take (i := 3) (v := .pointer (some ⟨w.heap.size, 5, none⟩)) rfl (by kernel_rfl) (by kernel_rfl) (by kernel_rfl) (fun _ _ _ h => h) (Or.inl ⟨by rfl, fun w' _ => by go_simp⟩) hH ?_
  refine wpAnyH_take (i := 4) (v := .int .i64 a.at_) rfl (by kernel_rfl) (by kernel_rfl) (by kernel_rfl) (fun _ _ _ h => h) (Or.inl ⟨by rfl, fun w' hw' => by have q1 : w'.cell? ⟨w.heap.size, 5, none⟩ = some (.int .i64 a.at_) := Rw.cell hw' 5; go_simp⟩) hH ?_
  refine wpAnyH_take (i := 5) (v := .pointer (some ⟨w.heap.size, 6, none⟩)) rfl (by kernel_rfl) (by kernel_rfl) (by kernel_rfl) (fun _ _ _ h => h) (Or.inl ⟨by rfl, fun w' _ => by go_simp⟩) hH ?_
  refine wpAnyH_take (i := 6) (v := .int .u8 a.mask) rfl (by kernel_rfl) (by kernel_rfl) (by kernel_rfl) (fun _ _ _ h => h) (Or.inl ⟨by rfl, fun w' hw' => by have q1 : w'.cell? ⟨w.heap.size, 6, none⟩ = some (.int .u8 a.mask) := Rw.cell hw' 6; go_simp⟩) hH ?_
  refine wpAnyH_take (i := 8) (v := .pointer (some ⟨q, 0, none⟩)) rfl (by kernel_rfl) (by kernel_rfl) (by kernel_rfl) (fun _ _ _ h => h) (Or.inl ⟨by rfl, fun w' _ => by go_simp⟩) hH ?_
  refine wpAnyH_take (i := 9) (v := .pointer (some ⟨w.heap.size, 2, none⟩)) rfl (by kernel_rfl) (by kernel_rfl) (by kernel_rfl) (fun _ _ _ h => h) (Or.inl ⟨by rfl, fun w' _ => by go_simp⟩) hH ?_
  refine wpAnyH_take (i := 10) (v := .int .i64 a.nm) rfl (by kernel_rfl) (by kernel_rfl) (by kernel_rfl) (fun _ _ _ h => h) (Or.inl ⟨by rfl, fun w' hw' => by have q1 : w'.cell? ⟨w.heap.size, 2, none⟩ = some (.int .i64 a.nm) := Rw.cell hw' 2; go_simp⟩) hH ?_
  refine wpAnyH_take (i := 11) (v := .pointer (some ⟨w.heap.size, 5, none⟩)) rfl (by kernel_rfl) (by kernel_rfl) (by kernel_rfl) (fun _ _ _ h => h) (Or.inl ⟨by rfl, fun w' _ => by go_simp⟩) hH ?_
  refine wpAnyH_take (i := 12) (v := .int .i64 a.at_) rfl (by kernel_rfl) (by kernel_rfl) (by kernel_rfl) (fun _ _ _ h => h) (Or.inl ⟨by rfl, fun w' hw' => by have q1 : w'.cell? ⟨w.heap.size, 5, none⟩ = some (.int .i64 a.at_) := Rw.cell hw' 5; go_simp⟩) hH ?_
  refine wpAnyH_take (i := 13) (v := .pointer (some ⟨w.heap.size, 6, none⟩)) rfl (by kernel_rfl) (by kernel_rfl) (by kernel_rfl) (fun _ _ _ h => h) (Or.inl ⟨by rfl, fun w' _ => by go_simp⟩) hH ?_
  refine wpAnyH_take (i := 14) (v := .int .u8 a.mask) rfl (by kernel_rfl) (by kernel_rfl) (by kernel_rfl) (fun _ _ _ h => h) (Or.inl ⟨by rfl, fun w' hw' => by have q1 : w'.cell? ⟨w.heap.size, 6, none⟩ = some (.int .u8 a.mask) := Rw.cell hw' 6; go_simp⟩) hH ?_
  refine wpAnyH_ready (rs := [7]) (by kernel_rfl) (by simp) ?_
  refine AllReadyH.cons rfl (fun K hK => ?_) AllReadyH.nil
  go_simp
  have hd := H0.out.fresh ((Chg.refl (fun _ => False) W).drew)
  refine Calls.mono (AB.aRot (w := W.drew) hd.d hd.hf HB.out.hS HB.out.hz (by have := HB.out.hb; omega) a.nm a.at_ a.mask) ?_
  rintro e w1 ⟨rfl, po⟩
  obtain ⟨BD1, hB1, h1⟩ := hd.disk po (fs_rot hd a.nm a.at_ a.mask)
  have r1 : Rw w1 w.heap.size a.cells.toArray 44 := ⟨po.ch.heap_some R0.out.eq (fun e => NB.out (.inl e))⟩
  have C1 : Hid (Chg BD W w1) := ⟨po.ch.os, po.ch.tape, po.ch.output, po.ch.size, po.ch.block⟩
  have HB1 : Hid (∀ g, BD1 g → grB BD W w1 g) := hB1
  have H1 : Hid _ := h1
  refine hK.out _ _ r1 (fun hH => ?_)
  clear hK K po hd h1 hB1
  refine wpAnyH_ready (rs := [15]) (by kernel_rfl) (by simp) ?_
  refine AllReadyH.cons rfl (fun K hK => ?_) AllReadyH.nil
  go_simp
  refine Calls.mono (H1.out.r.rot RE.out HB.out.hb HB.out.hS HB.out.hz a.nm a.at_ a.mask) ?_
  rintro e w2 ⟨rfl, r', po, re'⟩
  obtain ⟨BR1, hB2, h2⟩ := H1.out.ref po
  have r2 : Rw w2 w.heap.size a.cells.toArray 44 := ⟨po.ch.heap_some r1.eq (fun e => NB.out (.inr (.inl e)))⟩
  have FIN : Hid (PT w w2 BD BR BL p q lg S z b) := by
    have s0 := C0.out.size
    have s1 := C1.out.size
    have s2 := po.ch.size
    refine ⟨((C0.out.mono (fun _ _ h => h.elim)).trans C1.out (fun g e => .inl (.inl e))).trans po.ch (fun g e => .inl (.inr (.inl e))), BD1, BR1, BL, _, _, fun g hg => grB.wide (fun _ h => .inl h) (by omega) (by omega) (HB1.out g hg), fun g hg => grB.wide (fun _ h => .inr (.inl h)) (by omega) (by omega) (hB2 g hg), fun g hg => .inl (.inr (.inr hg)), h2.mono (Nat.le_refl _) (Nat.le_refl _) (Nat.le_succ _), re'⟩
  refine hK.out _ _ r2 (fun hH => ?_)
  clear hK K po h2 hB2 re' r1
  refine wpAnyH_take (i := 16) (v := .bool true) rfl (by kernel_rfl) (by kernel_rfl) (by kernel_rfl) (fun _ _ _ h => h) (Or.inl ⟨by rfl, fun w' _ => by go_simp⟩) hH ?_
  refine wpAnyH_take (i := 17) (v := .bool true) rfl (by kernel_rfl) (by kernel_rfl) (by kernel_rfl) (fun _ _ _ h => h) (Or.inl ⟨by rfl, fun w' _ => by go_simp⟩) hH ?_
  refine wpAnyH_done (by kernel_rfl) ?_ _
  clear hH
  go_wp2_with fail
  go_ret
  exact ⟨rfl, FIN.out⟩

set_option maxRecDepth 100000 in
set_option maxHeartbeats 4000000 in
theorem TS.askedElse {w : World} {BD BR BL : Nat → Prop} {p q lg S z b : Nat} {s : St} {r : Rs} (h : TS w BD BR BL p q lg S z b b b s r) (re : Re z s r) (hb : Bd S z b) (a : Ac) (n1 : ¬ a.kd = 1) (n7 : ¬ a.kd = 7) (n8 : ¬ a.kd = 8) (n9 : ¬ a.kd = 9) (n10 : ¬ a.kd = 10) (n12 : ¬ a.kd = 12) :
    Calls Try.prog 16 #[.pointer (some ⟨p, 0, none⟩), .pointer (some ⟨q, 0, none⟩), .agg a.cells.toArray, .pointer (some ⟨lg, 0, none⟩)] w fun e w' => e = .returned (.bool true) ∧ PT w w' BD BR BL p q lg S z b := by
  obtain ⟨W, hW⟩ : ∃ W, W = w.alloc (.cells a.cells.toArray 44) := ⟨_, rfl⟩
  have c0 : Chg (fun _ => False) w W := by rw [hW]; exact (Chg.refl _ _).alloc _
  have r0 : Rw W w.heap.size a.cells.toArray 44 := by rw [hW]; exact ⟨heap_alloc_new _ _⟩
  have h0 := h.fresh c0
  have hlow := h.low
  have nB : ¬ B3 BD BR BL w.heap.size := fun e => by have := hlow _ e; omega
  have k1 : W.cell? ⟨w.heap.size, 1, none⟩ = some (.int .i64 a.kd) := r0.cell 1
  have H0 : Hid _ := h0
  have HB : Hid _ := hb
  have RE : Hid _ := re
  have C0 : Hid _ := c0
  have R0 : Hid _ := r0
  have NB : Hid _ := nB
  have HLOW : Hid _ := hlow
  clear h re hb c0 r0 h0 hlow nB
  go_enter Try.func16, Try.ntmps16
  go_upto_region 1 with fail
  rw [← hW]
  clear hW
  have FIN : Hid (PT w W BD BR BL p q lg S z b) := ⟨C0.out.mono (fun _ _ h => h.elim), BD, BR, BL, s, r, fun g hg => .inl (.inl hg), fun g hg => .inl (.inr (.inl hg)), fun g hg => .inl (.inr (.inr hg)), H0.out.mono (Nat.le_succ _) (Nat.le_succ _) (Nat.le_succ _), RE.out⟩
  go_wp2_with fail
  go_ret
  exact ⟨rfl, FIN.out⟩
end Go.Proofs.Ytddnecfnjnipjaa
