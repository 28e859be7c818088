/-
  powered: Flush, Fuse, Off.
-/
import Derived.Test.YtddnecfnjnipjaaPlD
namespace Go.Proofs.Ytddnecfnjnipjaa
open Go.RowKit

set_option maxRecDepth 100000 in
set_option maxHeartbeats 4000000 in
theorem TS.powFlush {w : World} {BD BR BL : Nat → Prop} {p q lg S z b : Nat} {s : St} {r : Rs} (h : TS w BD BR BL p q lg S z b b b s r) (re : Re z s r) (hb : Bd S z b) (a : Ac) (ha : a.kd = 3) :
    Calls Try.prog 10 #[.pointer (some ⟨p, 0, none⟩), .pointer (some ⟨q, 0, none⟩), .agg a.cells.toArray, .pointer (some ⟨lg, 0, none⟩)] w fun e w' => e = .returned (.bool true) ∧ PT w w' BD BR BL p q lg S z b := by
  obtain ⟨W, hW⟩ : ∃ W, W = w.alloc (.cells a.cells.toArray 44) := ⟨_, rfl⟩
  have c0 : Chg (fun _ => False) w W := by rw [hW]; exact (Chg.refl _ _).alloc _
  have r0 : Rw W w.heap.size a.cells.toArray 44 := by rw [hW]; exact ⟨heap_alloc_new _ _⟩
  have h0 := h.fresh c0
  have hlow := h.low
  have nB : ¬ B3 BD BR BL w.heap.size := fun e => by have := hlow _ e; omega
  have k1 : W.cell? ⟨w.heap.size, 1, none⟩ = some (.int .i64 3) := by rw [← ha]; exact r0.cell 1
  have H0 : Hid _ := h0
  have HB : Hid _ := hb
  have RE : Hid _ := re
  have C0 : Hid _ := c0
  have R0 : Hid _ := r0
  have NB : Hid _ := nB
  have HLOW : Hid _ := hlow
  clear h re hb c0 r0 h0 hlow nB
  go_enter Try.func10, Try.ntmps10
  go_upto_region 1 with fail
  rw [← hW]
  clear hW
  go_wp2_with fail
  refine Calls.mono (AB.aFlush H0.out.d H0.out.hf HB.out.hS (by have := HB.out.hb; omega)) ?_
  rintro e w1 ⟨rfl, po⟩
  obtain ⟨BD1, hB1, h1⟩ := H0.out.disk po (fs_flush H0.out)
  have C1 : Hid (Chg BD W w1) := po.ch
  have HB1 : Hid (∀ g, BD1 g → grB BD W w1 g) := hB1
  have H1 : Hid _ := h1
  clear po h1 hB1 k1
  go_wp2_with fail
  refine Calls.mono (H1.out.r.flush RE.out HB.out.hb) ?_
  rintro e w2 ⟨rfl, r', po, re'⟩
  obtain ⟨BR1, hB2, h2⟩ := H1.out.ref po
  have FIN : Hid (PT w w2 BD BR BL p q lg S z b) := by
    have s0 := C0.out.size
    have s1 := C1.out.size
    have s2 := po.ch.size
    refine ⟨((C0.out.mono (fun _ _ h => h.elim)).trans C1.out (fun g e => .inl (.inl e))).trans po.ch (fun g e => .inl (.inr (.inl e))), BD1, BR1, BL, _, _, fun g hg => grB.wide (fun _ h => .inl h) (by omega) (by omega) (HB1.out g hg), fun g hg => grB.wide (fun _ h => .inr (.inl h)) (by omega) (by omega) (hB2 g hg), fun g hg => .inl (.inr (.inr hg)), h2.mono (Nat.le_refl _) (Nat.le_refl _) (Nat.le_succ _), re'⟩
  clear po h2 hB2 re'
  go_wp2_with fail
  go_ret
  exact ⟨rfl, FIN.out⟩

set_option maxRecDepth 100000 in
set_option maxHeartbeats 4000000 in
theorem TS.powFuse {w : World} {BD BR BL : Nat → Prop} {p q lg S z b : Nat} {s : St} {r : Rs} (h : TS w BD BR BL p q lg S z b b b s r) (re : Re z s r) (hb : Bd S z b) (a : Ac) (ha : a.kd = 4) (hn : -9223372036854775808 ≤ a.nm ∧ a.nm ≤ 9223372036854775807) :
    Calls Try.prog 10 #[.pointer (some ⟨p, 0, none⟩), .pointer (some ⟨q, 0, none⟩), .agg a.cells.toArray, .pointer (some ⟨lg, 0, none⟩)] w fun e w' => e = .returned (.bool true) ∧ PT w w' BD BR BL p q lg S z b := by
  obtain ⟨W, hW⟩ : ∃ W, W = w.alloc (.cells a.cells.toArray 44) := ⟨_, rfl⟩
  have c0 : Chg (fun _ => False) w W := by rw [hW]; exact (Chg.refl _ _).alloc _
  have r0 : Rw W w.heap.size a.cells.toArray 44 := by rw [hW]; exact ⟨heap_alloc_new _ _⟩
  have h0 := h.fresh c0
  have hlow := h.low
  have nB : ¬ B3 BD BR BL w.heap.size := fun e => by have := hlow _ e; omega
  have k1 : W.cell? ⟨w.heap.size, 1, none⟩ = some (.int .i64 4) := by rw [← ha]; exact r0.cell 1
  have k2 : W.cell? ⟨w.heap.size, 2, none⟩ = some (.int .i64 a.nm) := r0.cell 2
  have H0 : Hid _ := h0
  have HB : Hid _ := hb
  have RE : Hid _ := re
  have C0 : Hid _ := c0
  have R0 : Hid _ := r0
  have NB : Hid _ := nB
  have HLOW : Hid _ := hlow
  clear h re hb c0 r0 h0 hlow nB
  go_enter Try.func10, Try.ntmps10
  go_upto_region 1 with fail
  rw [← hW]
  clear hW
  go_wp2_with fail
  refine Calls.mono (AB.eFuse H0.out.d H0.out.hf a.nm hn.1 hn.2) ?_
  rintro e w1 ⟨v, rfl, po⟩
  obtain ⟨BD1, hB1, h1⟩ := H0.out.disk po (H0.out.fs)
  have C1 : Hid (Chg BD W w1) := po.ch
  have HB1 : Hid (∀ g, BD1 g → grB BD W w1 g) := hB1
  have H1 : Hid _ := h1
  have k2' : w1.cell? ⟨w.heap.size, 2, none⟩ = some (.int .i64 a.nm) := by
    have r1 : Rw w1 w.heap.size a.cells.toArray 44 := ⟨po.ch.heap_some R0.out.eq (fun e => NB.out (.inl e))⟩
    exact r1.cell 2
  clear po h1 hB1 k1 k2
  go_wp2_with fail
  refine Calls.mono (H1.out.r.fuse RE.out a.nm hn.2) ?_
  rintro e w2 ⟨rfl, r', po, re'⟩
  obtain ⟨BR1, hB2, h2⟩ := H1.out.ref po
  have FIN : Hid (PT w w2 BD BR BL p q lg S z b) := by
    have s0 := C0.out.size
    have s1 := C1.out.size
    have s2 := po.ch.size
    refine ⟨((C0.out.mono (fun _ _ h => h.elim)).trans C1.out (fun g e => .inl (.inl e))).trans po.ch (fun g e => .inl (.inr (.inl e))), BD1, BR1, BL, _, _, fun g hg => grB.wide (fun _ h => .inl h) (by omega) (by omega) (HB1.out g hg), fun g hg => grB.wide (fun _ h => .inr (.inl h)) (by omega) (by omega) (hB2 g hg), fun g hg => .inl (.inr (.inr hg)), h2.mono (Nat.le_refl _) (Nat.le_refl _) (Nat.le_succ _), re'⟩
  clear po h2 hB2 re'
  go_wp2_with fail
  go_ret
  exact ⟨rfl, FIN.out⟩

theorem RB.rrow' {w : World} {Bl : Nat → Prop} {q S z b : Nat} {r : Rs} (h : RB w Bl q S z b r) : ∃ dv cv, Rw w q (rrow S z dv cv r.y) 52 := by
  obtain ⟨dl, cl, dv, cv, C, hd, _⟩ := h.ex
  exact ⟨dv, cv, hd.row⟩

set_option maxRecDepth 100000 in
set_option maxHeartbeats 4000000 in
theorem TS.powOff {w : World} {BD BR BL : Nat → Prop} {p q lg S z b : Nat} {s : St} {r : Rs} (h : TS w BD BR BL p q lg S z b b b s r) (re : Re z s r) (hb : Bd S z b) (a : Ac) (ha : a.kd = 5) :
    Calls Try.prog 10 #[.pointer (some ⟨p, 0, none⟩), .pointer (some ⟨q, 0, none⟩), .agg a.cells.toArray, .pointer (some ⟨lg, 0, none⟩)] w fun e w' => e = .returned (.bool true) ∧ PT w w' BD BR BL p q lg S z b := by
  obtain ⟨W, hW⟩ : ∃ W, W = w.alloc (.cells a.cells.toArray 44) := ⟨_, rfl⟩
  have c0 : Chg (fun _ => False) w W := by rw [hW]; exact (Chg.refl _ _).alloc _
  have r0 : Rw W w.heap.size a.cells.toArray 44 := by rw [hW]; exact ⟨heap_alloc_new _ _⟩
  have h0 := h.fresh c0
  have hlow := h.low
  have nB : ¬ B3 BD BR BL w.heap.size := fun e => by have := hlow _ e; omega
  have k1 : W.cell? ⟨w.heap.size, 1, none⟩ = some (.int .i64 5) := by rw [← ha]; exact r0.cell 1
  have H0 : Hid _ := h0
  have HB : Hid _ := hb
  have RE : Hid _ := re
  have C0 : Hid _ := c0
  have R0 : Hid _ := r0
  have NB : Hid _ := nB
  have HLOW : Hid _ := hlow
  clear h re hb c0 r0 h0 hlow nB
  go_enter Try.func10, Try.ntmps10
  go_upto_region 1 with fail
  rw [← hW]
  clear hW
  have h0 := H0.out.fresh ((Chg.refl (fun _ => False) W).drew)
  obtain ⟨dv, cv, rr⟩ := h0.r.rrow'
  have bp := h0.d.bp
  have H0D : Hid _ := h0
  have BP : Hid _ := bp
  clear h0 bp
  go_upto_region 17 with fail
  clear k1
  refine wp_region_held_drew (S := fun w' => Rw w' q (rrow S z dv cv r.y) 52) (by kernel_rfl) rr (fun hH => ?_)
  refine wpAnyH_take (i := 0) (v := .pointer (some ⟨p, 0, none⟩)) rfl (by kernel_rfl) (by kernel_rfl) (by kernel_rfl) (fun _ _ _ h => h) (Or.inl ⟨by rfl, fun w' _ => by go_simp⟩) hH ?_
  refine wpAnyH_take (i := 2) (v := .pointer (some ⟨q, 0, none⟩)) rfl (by kernel_rfl) (by kernel_rfl) (by kernel_rfl) (fun _ _ _ h => h) (Or.inl ⟨by rfl, fun w' _ => by go_simp⟩) hH ?_
  refine wpAnyH_take (i := 3) (v := .pointer (some ⟨q, 0, none⟩)) rfl (by kernel_rfl) (by kernel_rfl) (by kernel_rfl) (fun _ _ _ h => h) (Or.inl ⟨by rfl, fun w' _ => by go_simp⟩) hH ?_
  refine wpAnyH_take (i := 4) (v := .pointer (some ⟨q, 7, none⟩)) rfl (by kernel_rfl) (by kernel_rfl) (by kernel_rfl) (fun _ _ _ h => h) (Or.inl ⟨by rfl, fun w' _ => by go_simp⟩) hH ?_
  refine wpAnyH_take (i := 5) (v := .bool r.y.off) rfl (by kernel_rfl) (by kernel_rfl) (by kernel_rfl) (fun _ _ _ h => h) (Or.inl ⟨by rfl, fun w' hw' => by have q1 : w'.cell? ⟨q, 7, none⟩ = some (.bool r.y.off) := Rw.cell hw' 7; go_simp⟩) hH ?_
  refine wpAnyH_ready (rs := [1]) (by kernel_rfl) (by simp) ?_
  refine AllReadyH.cons rfl (fun K hK => ?_) AllReadyH.nil
  go_simp
  refine Calls.mono (AB.off H0D.out.d) ?_
  rintro e w1 ⟨rfl, ch, d1⟩
  rw [RE.out.n.off]
  have h1 := H0D.out.row ch d1
  have rr1 : Rw w1 q (rrow S z dv cv r.y) 52 := ⟨ch.heap_some rr.eq (fun e => h1.dr p BP.out (by rw [← e]; exact h1.r.bq))⟩
  have FIN : Hid (PT w w1 BD BR BL p q lg S z b) := ⟨(C0.out.drew.mono (fun _ _ h => h.elim)).trans ch (fun g e => .inl (.inl (by rw [e]; exact BP.out))), BD, BR, BL, s, r, fun g hg => .inl (.inl hg), fun g hg => .inl (.inr (.inl hg)), fun g hg => .inl (.inr (.inr hg)), h1.mono (Nat.le_succ _) (Nat.le_succ _) (Nat.le_succ _), RE.out⟩
  refine hK.out _ _ rr1 (fun hH => ?_)
  clear hK K ch h1 d1
  refine wpAnyH_take (i := 6) (v := .bool true) rfl (by kernel_rfl) (by kernel_rfl) (by kernel_rfl) (fun _ _ _ h => h) (Or.inl ⟨by rfl, fun w' _ => by go_simp⟩) hH ?_
  refine wpAnyH_take (i := 7) (v := .bool true) rfl (by kernel_rfl) (by kernel_rfl) (by kernel_rfl) (fun _ _ _ h => h) (Or.inl ⟨by rfl, fun w' _ => by go_simp⟩) hH ?_
  refine wpAnyH_done (by kernel_rfl) ?_ _
  clear hH
  go_wp2_with fail
  go_ret
  exact ⟨rfl, FIN.out⟩
end Go.Proofs.Ytddnecfnjnipjaa
