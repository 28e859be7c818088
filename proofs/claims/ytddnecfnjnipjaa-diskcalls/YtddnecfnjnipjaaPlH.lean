/-
  powered: Write.
-/
import Derived.Test.YtddnecfnjnipjaaPlG
import Derived.Deep.MidRow
namespace Go.Proofs.Ytddnecfnjnipjaa
open Go.RowKit

set_option maxRecDepth 100000 in
set_option maxHeartbeats 2000000 in
theorem written_none2 {w : World} (z : Int) (on kd nm fill less at_ mask : Int) (kp : Value) (torn : Int) (hn : ¬ (0 ≤ z - less ∧ z - less ≤ 8192)) (hz0 : 0 ≤ z) (hz : z ≤ 8192) (hl1 : -9223372036854775808 ≤ less) (hl2 : less ≤ 9223372036854775807) :
    Calls Try.prog 22 #[.int .i64 z, .agg (actC on kd nm fill less at_ mask kp torn).toArray] w fun e w' => ∃ g, e = .returned (.slice (some ⟨g, 0, none⟩) 0 0) ∧ Rw w' g (bs (wrB fill 0)).toArray 5 ∧ w.heap.size ≤ g ∧ Below w.heap.size w w' := by
  have hmk : ∀ w : World, (Instr.makeSlice 48 (.int .i64 0) (.int .i64 0)).run Try.prog w = .ok (.slice (some ⟨w.heap.size, 0, none⟩) 0 0) (w.alloc (.cells (zer 0).toArray 5)) := fun w => run_mk 0 (by omega) w
  obtain ⟨v, hv⟩ : ∃ v, wrap64 (z - less) = v := ⟨_, rfl⟩
  have hv2 : v < 0 ∨ (¬ v < 0 ∧ 8192 < v) := by
    rw [← hv]
    unfold wrap64
    omega
  obtain ⟨W, hW⟩ : ∃ W, W = w.alloc (.cells (actC on kd nm fill less at_ mask kp torn).toArray 44) := ⟨_, rfl⟩
  have R0 : Hid (Rw W w.heap.size (actC on kd nm fill less at_ mask kp torn).toArray 44) := by rw [hW]; exact ⟨heap_alloc_new _ _⟩
  have B0 : Hid (Below w.heap.size w W) := by rw [hW]; exact (Below.refl _ _).alloc (Nat.le_refl _) _
  have d4 : W.cell? ⟨w.heap.size, 4, none⟩ = some (.int .i64 less) := Rw.cell R0.out 4
  clear hn
  rcases hv2 with h1 | ⟨h1, h2⟩
  · go_enter Try.func22, Try.ntmps22
    go_upto_region 1 with fail
    rw [← hW]
    clear hW
    go_wp2_with fail
    refine wp_loop_rounds 1 ?_
    rw [rounds_succ]
    go_wp2_with fail
    go_ret
    exact ⟨_, rfl, ⟨heap_alloc_new _ _⟩, B0.out.size, B0.out.alloc B0.out.size _⟩
  · go_enter Try.func22, Try.ntmps22
    go_upto_region 1 with fail
    rw [← hW]
    clear hW
    go_wp2_with fail
    refine wp_loop_rounds 1 ?_
    rw [rounds_succ]
    go_wp2_with fail
    go_ret
    exact ⟨_, rfl, ⟨heap_alloc_new _ _⟩, B0.out.size, B0.out.alloc B0.out.size _⟩

theorem written_all {w : World} (z : Nat) (a : Ac) (hz : z ≤ 8192) (hf : 0 ≤ a.fill ∧ a.fill ≤ 255) (hl : -9223372036854775808 ≤ a.less ∧ a.less ≤ 9223372036854775807) :
    Calls Try.prog 22 #[.int .i64 z, .agg a.cells.toArray] w fun e w' => ∃ g, e = .returned (.slice (some ⟨g, 0, none⟩) (wlen z a.less) (wlen z a.less)) ∧ Rw w' g (bs (wrB a.fill (wlen z a.less))).toArray 5 ∧ w.heap.size ≤ g ∧ Below w.heap.size w w' := by
  unfold wlen
  by_cases h : 0 ≤ (z : Int) - a.less ∧ (z : Int) - a.less ≤ 8192
  · rw [if_pos h]
    exact written_fit (z : Int) a.on a.kd a.nm a.fill a.less a.at_ a.mask _ a.torn _ (by omega) (by omega) (by omega) (by omega) hf
  · rw [if_neg h]
    exact written_none2 (z : Int) a.on a.kd a.nm a.fill a.less a.at_ a.mask _ a.torn h (by omega) (by omega) hl.1 hl.2
theorem wlen_le (z : Nat) (less : Int) : wlen z less ≤ 8192 := by
  unfold wlen
  split <;> omega
theorem act_range {w : World} {g : Nat} {a : Ac} (h : Rw w g a.cells.toArray 44) : w.rangeAt g 0 a.cells := fun j v hj => by
  rw [Nat.zero_add, cell_of_row _ _ _ _ _ _ h.eq]
  simpa using hj
theorem own_front {w : World} {g n k c : Nat} {l m : List Int} (h : Own w (.slice (some ⟨g, 0, none⟩) k c) (l ++ m)) (hn : n = l.length) : Src w (.slice (some ⟨g, 0, none⟩) n c) l := by
  subst hn
  refine .inr ⟨⟨g, 0, none⟩, c, rfl, fun j u hu => ⟨rfl, ?_⟩⟩
  have := World.ownsRow.cells h (g := g) rfl j u (by rw [bs_app, List.getElem?_append_left (List.getElem?_eq_some_iff.1 hu).1]; exact hu)
  rwa [addr_add] at this
theorem rwb {w w' : World} {g : Nat} {cs : Array Value} {t : TypeId} (h : Rw w g cs t) (b : Below w.heap.size w w') : Rw w' g cs t := ⟨by rw [b.block g h.lt]; exact h.eq⟩

set_option maxRecDepth 100000 in
set_option maxHeartbeats 4000000 in
theorem TS.powWrite {w : World} {BD BR BL : Nat → Prop} {p q lg S z b : Nat} {s : St} {r : Rs} (h : TS w BD BR BL p q lg S z b b b s r) (re : Re z s r) (hb : Bd S z b) (a : Ac) (ha : a.kd = 2) (hfi : 0 ≤ a.fill ∧ a.fill ≤ 255) (hle : -9223372036854775808 ≤ a.less ∧ a.less ≤ 9223372036854775807) :
    Calls Try.prog 10 #[.pointer (some ⟨p, 0, none⟩), .pointer (some ⟨q, 0, none⟩), .agg a.cells.toArray, .pointer (some ⟨lg, 0, none⟩)] w fun e w' => e = .returned (.bool true) ∧ PT w w' BD BR BL p q lg S z b := by
  obtain ⟨W, hW⟩ : ∃ W, W = w.alloc (.cells a.cells.toArray 44) := ⟨_, rfl⟩
  have c0 : Chg (fun _ => False) w W := by rw [hW]; exact (Chg.refl _ _).alloc _
  have r0 : Rw W w.heap.size a.cells.toArray 44 := by rw [hW]; exact ⟨heap_alloc_new _ _⟩
  have h0 := h.fresh c0
  have hlow := h.low
  have nB : ¬ B3 BD BR BL w.heap.size := fun e => by have := hlow _ e; omega
  have k1 : W.cell? ⟨w.heap.size, 1, none⟩ = some (.int .i64 2) := by rw [← ha]; exact r0.cell 1
  have H0 : Hid _ := h0
  have HB : Hid _ := hb
  have RE : Hid _ := re
  have C0 : Hid _ := c0
  have R0 : Hid _ := r0
  have NB : Hid _ := nB
  have HLOW : Hid _ := hlow
  clear h re hb c0 r0 h0 hlow nB
  go_enter Try.func10, Try.ntmps10
  go_upto_region 1 with fail
  rw [← hW]
  clear hW
  obtain ⟨dv, cv, rr0⟩ := H0.out.r.rrow'
  have RR3 : Hid _ := rr0
  have RX3 : Hid _ := R0.out
  clear rr0
  go_upto_region 3 with fail
  refine wp_region_held_drew (S := fun w' => Rw w' q (rrow S z dv cv r.y) 52 ∧ Rw w' w.heap.size a.cells.toArray 44) (by kernel_rfl) ⟨⟨RR3.out.eq⟩, ⟨RX3.out.eq⟩⟩ (fun hH => ?_)
  refine wpAnyH_take (i := 0) (v := .pointer (some ⟨q, 0, none⟩)) rfl (by kernel_rfl) (by kernel_rfl) (by kernel_rfl) (fun _ _ _ h => h) (Or.inl ⟨by rfl, fun w' _ => by go_simp⟩) hH ?_
  refine wpAnyH_take (i := 1) (v := .pointer (some ⟨q, 0, none⟩)) rfl (by kernel_rfl) (by kernel_rfl) (by kernel_rfl) (fun _ _ _ h => h) (Or.inl ⟨by rfl, fun w' _ => by go_simp⟩) hH ?_
  refine wpAnyH_take (i := 2) (v := .pointer (some ⟨q, 1, none⟩)) rfl (by kernel_rfl) (by kernel_rfl) (by kernel_rfl) (fun _ _ _ h => h) (Or.inl ⟨by rfl, fun w' _ => by go_simp⟩) hH ?_
  refine wpAnyH_take (i := 3) (v := .int .i64 z) rfl (by kernel_rfl) (by kernel_rfl) (by kernel_rfl) (fun _ _ _ h => h) (Or.inl ⟨by rfl, fun w' hw' => by have q1 : w'.cell? ⟨q, 1, none⟩ = some (.int .i64 z) := Rw.cell hw'.1 1; go_simp⟩) hH ?_
  refine wpAnyH_take (i := 4) (v := .agg a.cells.toArray) rfl (by kernel_rfl) (by kernel_rfl) (by kernel_rfl) (fun _ _ _ h => h) (yieldsIf_load_mid (by rfl) _ _ rfl w.heap.size 0 rfl a.cells _ (fun w' h => act_range h.2) Try.underlying44 rfl (by kernel_rfl)) hH ?_
  refine wpAnyH_ready (rs := [5]) (by kernel_rfl) (by simp) ?_
  refine AllReadyH.cons rfl (fun K hK => ?_) AllReadyH.nil
  go_simp
  refine Calls.mono (written_all (w := W.drew) z a (by have := HB.out.hz; omega) hfi hle) ?_
  rintro e w3 ⟨g3, rfl, hr, hg, bl⟩
  have b3 : Below W.heap.size W w3 := ⟨bl.os, bl.tape, bl.output, bl.size, bl.block⟩
  have rr : Rw w3 q (rrow S z dv cv r.y) 52 := rwb RR3.out b3
  have rx : Rw w3 w.heap.size a.cells.toArray 44 := rwb RX3.out b3
  have BL3 : Hid _ := b3
  have G3 : Hid (W.heap.size ≤ g3) := hg
  have W3 : Hid _ := hr
  have RR4 : Hid _ := rr
  have RX4 : Hid _ := rx
  refine hK.out _ _ ⟨rr, rx⟩ (fun hH => ?_)
  clear hK K hr hg bl b3 rr rx
  refine wpAnyH_take (i := 6) (v := .slice (some ⟨g3, 0, none⟩) (wlen z a.less) (wlen z a.less)) rfl (by kernel_rfl) (by kernel_rfl) (by kernel_rfl) (fun _ _ _ h => h) (Or.inl ⟨by rfl, fun w' _ => by go_simp⟩) hH ?_
  refine wpAnyH_done (by kernel_rfl) ?_ _
  clear hH
  go_upto_region 4 with fail
  refine wp_region_held_drew (S := fun w' => Rw w' q (rrow S z dv cv r.y) 52 ∧ Rw w' w.heap.size a.cells.toArray 44) (by kernel_rfl) ⟨⟨RR4.out.eq⟩, ⟨RX4.out.eq⟩⟩ (fun hH => ?_)
  refine wpAnyH_take (i := 0) (v := .pointer (some ⟨q, 0, none⟩)) rfl (by kernel_rfl) (by kernel_rfl) (by kernel_rfl) (fun _ _ _ h => h) (Or.inl ⟨by rfl, fun w' _ => by go_simp⟩) hH ?_
  refine wpAnyH_take (i := 1) (v := .pointer (some ⟨q, 0, none⟩)) rfl (by kernel_rfl) (by kernel_rfl) (by kernel_rfl) (fun _ _ _ h => h) (Or.inl ⟨by rfl, fun w' _ => by go_simp⟩) hH ?_
  refine wpAnyH_take (i := 2) (v := .pointer (some ⟨q, 1, none⟩)) rfl (by kernel_rfl) (by kernel_rfl) (by kernel_rfl) (fun _ _ _ h => h) (Or.inl ⟨by rfl, fun w' _ => by go_simp⟩) hH ?_
  refine wpAnyH_take (i := 3) (v := .int .i64 z) rfl (by kernel_rfl) (by kernel_rfl) (by kernel_rfl) (fun _ _ _ h => h) (Or.inl ⟨by rfl, fun w' hw' => by have q1 : w'.cell? ⟨q, 1, none⟩ = some (.int .i64 z) := Rw.cell hw'.1 1; go_simp⟩) hH ?_
  refine wpAnyH_take (i := 4) (v := .agg a.cells.toArray) rfl (by kernel_rfl) (by kernel_rfl) (by kernel_rfl) (fun _ _ _ h => h) (yieldsIf_load_mid (by rfl) _ _ rfl w.heap.size 0 rfl a.cells _ (fun w' h => act_range h.2) Try.underlying44 rfl (by kernel_rfl)) hH ?_
  refine wpAnyH_ready (rs := [5]) (by kernel_rfl) (by simp) ?_
  refine AllReadyH.cons rfl (fun K hK => ?_) AllReadyH.nil
  go_simp
  refine Calls.mono (written_all (w := w3.drew) z a (by have := HB.out.hz; omega) hfi hle) ?_
  rintro e w4 ⟨g4, rfl, hr, hg, bl⟩
  have b4 : Below w3.heap.size w3 w4 := ⟨bl.os, bl.tape, bl.output, bl.size, bl.block⟩
  have rr : Rw w4 q (rrow S z dv cv r.y) 52 := rwb RR4.out b4
  have rx : Rw w4 w.heap.size a.cells.toArray 44 := rwb RX4.out b4
  have BL4 : Hid _ := b4
  have G4 : Hid (w3.heap.size ≤ g4) := hg
  have W4 : Hid _ := hr
  have RR5 : Hid _ := rr
  have RX5 : Hid _ := rx
  refine hK.out _ _ ⟨rr, rx⟩ (fun hH => ?_)
  clear hK K hr hg bl b4 rr rx
  refine wpAnyH_take (i := 6) (v := .slice (some ⟨g4, 0, none⟩) (wlen z a.less) (wlen z a.less)) rfl (by kernel_rfl) (by kernel_rfl) (by kernel_rfl) (fun _ _ _ h => h) (Or.inl ⟨by rfl, fun w' _ => by go_simp⟩) hH ?_
  refine wpAnyH_done (by kernel_rfl) ?_ _
  clear hH
  have hnl := wlen_le z a.less
  obtain ⟨n, hn⟩ : ∃ n, n = wlen z a.less := ⟨_, rfl⟩
  have HN : Hid _ := hn
  rw [← hn] at hnl ⊢
  clear hn
  have O4 : Hid (Own w4 (.slice (some ⟨g4, 0, none⟩) n n) (wrB a.fill n)) := by rw [HN.out]; exact own_row W4.out (by rw [wrB_len]) (by rw [wrB_len, ← HN.out]; omega)
  have R1w : Hid (Rw w4 g3 (bs (wrB a.fill n)).toArray 5) := by rw [HN.out]; exact rwb W3.out BL4.out
  go_upto_region 6 with (refine wpList_app rfl (.tmp 31) (.tmp 32) rfl (v := .slice (some ⟨g4, 0, none⟩) n n) (l := wrB a.fill n) (m := [165]) rfl rfl (Own.kept O4.out ((Chg.refl (fun _ => False) _).alloc _) (fun _ _ h => h)) (src_row ⟨heap_alloc_new _ _⟩ rfl) (by rw [wrB_len]; simp; omega) ?_; intro vf w5 o5 c5 a5; have O5 : Hid _ := o5; have C5 : Hid _ := c5; have A5 : Hid _ := a5; clear o5 c5 a5)
  obtain ⟨gF, cF, hvf, hcap, hmx⟩ : ∃ gF cF, vf = .slice (some ⟨gF, 0, none⟩) (n + 1) cF ∧ n + 1 ≤ cF ∧ cF ≤ 9223372036854775807 := by
    rcases O5.out.2 with ⟨_, h0⟩ | ⟨g, cap, cur, e, _, _, h1, h2, _⟩
    · simp at h0
    · rw [List.length_append, wrB_len] at e h1
      exact ⟨g, cap, e, h1, by unfold maxLen at h2; omega⟩
  have HVF : Hid _ := hvf
  subst hvf
  have hWs := C0.out.size
  have hgF : W.heap.size ≤ gF := by
    have := BL3.out.size
    have := BL4.out.size
    have := G4.out
    rcases A5.out with e | e
    · have e : gF = g4 := by simpa [Value.ownBlock] using e
      omega
    · have e : gF = (w4.alloc (.cells #[.int .u8 165] 5)).heap.size := by simpa [Value.ownBlock] using e
      simp at e
      omega
  have c05 : Chg (fun _ => False) W w5 := (((Chg.of_below BL3.out (fun _ => False)).trans (Chg.of_below BL4.out (fun _ => False)) (fun _ h => h.elim)).alloc _).trans C5.out (fun g e => .inr (by
    have e : g = g4 := by simpa [Value.ownBlock] using e
    have := G4.out
    have := BL3.out.size
    omega))
  have T5 : Hid _ := H0.out.fresh c05
  have rx5 : Rw w5 w.heap.size a.cells.toArray 44 := ⟨c05.heap_some R0.out.eq (fun h => h)⟩
  have hg3 := G3.out
  have r35 : Rw w5 g3 (bs (wrB a.fill n)).toArray 5 := ⟨((((Chg.refl (fun _ => False) w4).alloc _).mono (fun _ _ h => h.elim)).trans C5.out (fun g e => .inl e)).heap_some R1w.out.eq (fun e => by
    have e : g3 = g4 := by simpa [Value.ownBlock] using e
    have := W3.out.lt
    have := G4.out
    omega)⟩
  have C05 : Hid _ := c05
  have R35 : Hid _ := r35
  have HGF : Hid _ := hgF
  have HG3 : Hid _ := hg3
  have RX : Hid _ := rx5
  have rxd : Rw w5.drew w.heap.size a.cells.toArray 44 := ⟨rx5.eq⟩
  clear hWs hgF c05 rx5 hg3 r35
  refine wp_region_held_drew (S := fun w' => Rw w' w.heap.size a.cells.toArray 44) (by kernel_rfl) rxd (fun hH => ?_)
  refine wpAnyH_take (i := 0) (v := .pointer (some ⟨p, 0, none⟩)) rfl (by kernel_rfl) (by kernel_rfl) (by kernel_rfl) (fun _ _ _ h => h) (Or.inl ⟨by rfl, fun w' _ => by go_simp⟩) hH ?_
  refine wpAnyH_take (i := 1) (v := .pointer (some ⟨w.heap.size, 2, none⟩)) rfl (by kernel_rfl) (by kernel_rfl) (by kernel_rfl) (fun _ _ _ h => h) (Or.inl ⟨by rfl, fun w' _ => by go_simp⟩) hH ?_
  refine wpAnyH_take (i := 2) (v := .int .i64 a.nm) rfl (by kernel_rfl) (by kernel_rfl) (by kernel_rfl) (fun _ _ _ h => h) (Or.inl ⟨by rfl, fun w' hw' => by have q1 : w'.cell? ⟨w.heap.size, 2, none⟩ = some (.int .i64 a.nm) := Rw.cell hw' 2; go_simp⟩) hH ?_
  refine wpAnyH_take (i := 3) (v := .slice (some ⟨gF, 0, none⟩) (n + 1) cF) rfl (by kernel_rfl) (by kernel_rfl) (by kernel_rfl) (fun _ _ _ h => h) (Or.inl ⟨by rfl, fun w' _ => by go_simp⟩) hH ?_
  refine wpAnyH_take (i := 4) (v := .slice (some ⟨g4, 0, none⟩) n n) rfl (by kernel_rfl) (by kernel_rfl) (by kernel_rfl) (fun _ _ _ h => h) (Or.inl ⟨by rfl, fun w' _ => by go_simp⟩) hH ?_
  refine wpAnyH_take (i := 5) (v := .int .i64 n) rfl (by kernel_rfl) (by kernel_rfl) (by kernel_rfl) (fun _ _ _ h => h) (Or.inl ⟨by rfl, fun w' _ => by go_simp⟩) hH ?_
  refine wpAnyH_take (i := 6) (v := .slice (some ⟨gF, 0, none⟩) n cF) rfl (by kernel_rfl) (by kernel_rfl) (by kernel_rfl) (fun _ _ _ h => h) (Or.inl ⟨by rfl, fun w' _ => by go_simp; intro h; exact absurd h (by omega)⟩) hH ?_
  refine wpAnyH_take (i := 8) (v := .pointer (some ⟨q, 0, none⟩)) rfl (by kernel_rfl) (by kernel_rfl) (by kernel_rfl) (fun _ _ _ h => h) (Or.inl ⟨by rfl, fun w' _ => by go_simp⟩) hH ?_
  refine wpAnyH_take (i := 9) (v := .pointer (some ⟨w.heap.size, 2, none⟩)) rfl (by kernel_rfl) (by kernel_rfl) (by kernel_rfl) (fun _ _ _ h => h) (Or.inl ⟨by rfl, fun w' _ => by go_simp⟩) hH ?_
  refine wpAnyH_take (i := 10) (v := .int .i64 a.nm) rfl (by kernel_rfl) (by kernel_rfl) (by kernel_rfl) (fun _ _ _ h => h) (Or.inl ⟨by rfl, fun w' hw' => by have q1 : w'.cell? ⟨w.heap.size, 2, none⟩ = some (.int .i64 a.nm) := Rw.cell hw' 2; go_simp⟩) hH ?_
  refine wpAnyH_take (i := 11) (v := .slice (some ⟨g3, 0, none⟩) n n) rfl (by kernel_rfl) (by kernel_rfl) (by kernel_rfl) (fun _ _ _ h => h) (Or.inl ⟨by rfl, fun w' _ => by go_simp⟩) hH ?_
  refine wpAnyH_ready (rs := [7]) (by kernel_rfl) (by simp) ?_
  refine AllReadyH.cons rfl (fun K hK => ?_) AllReadyH.nil
  go_simp
  have hd := T5.out.fresh ((Chg.refl (fun _ => False) w5).drew)
  have sF : Src w5 (.slice (some ⟨gF, 0, none⟩) n cF) (wrB a.fill n) := own_front O5.out (wrB_len _ _).symm
  refine Calls.mono (AB.aWrite (w := w5.drew) hd.d hd.hf HB.out.hS HB.out.hz HB.out.z0 (by have := HB.out.hb; omega) a.nm (l := wrB a.fill n) hnl (fun e => ⟨sF, by rw [wrB_len]; exact e⟩) (fun e => by have := HGF.out; have := H0.out.d.low p H0.out.d.bp; omega)) ?_
  rintro e w6 ⟨rfl, po⟩
  obtain ⟨BD1, hB1, h1⟩ := hd.disk po (fs_write hd a.nm n (wrB a.fill n))
  have r1 : Rw w6 w.heap.size a.cells.toArray 44 := ⟨po.ch.heap_some RX.out.eq (fun e => NB.out (.inl e))⟩
  have C1 : Hid (Chg BD w5 w6) := ⟨po.ch.os, po.ch.tape, po.ch.output, po.ch.size, po.ch.block⟩
  have HB1 : Hid (∀ g, BD1 g → grB BD w5 w6 g) := hB1
  have H1 : Hid _ := h1
  have o6 : Own w6 (.slice (some ⟨gF, 0, none⟩) (n + 1) cF) (wrB a.fill n ++ [165]) := Own.kept O5.out C1.out (fun g hg e => by
    have eg : gF = g := by simpa [Value.ownBlock] using hg
    have := HGF.out
    have := H0.out.d.low g e
    omega)
  have w36 : Rw w6 g3 (bs (wrB a.fill n)).toArray 5 := ⟨C1.out.heap_some R35.out.eq (fun e => by
    have := HG3.out
    have := H0.out.d.low g3 e
    omega)⟩
  have O6 : Hid _ := o6
  have W36 : Hid _ := w36
  have R1 : Hid _ := r1
  refine hK.out _ _ r1 (fun hH => ?_)
  clear hK K po hd h1 hB1 o6 w36 r1 sF
  refine wpAnyH_ready (rs := [12]) (by kernel_rfl) (by simp) ?_
  refine AllReadyH.cons rfl (fun K hK => ?_) AllReadyH.nil
  go_simp
  have sW : Src w6 (.slice (some ⟨g3, 0, none⟩) n n) (wrB a.fill n) := src_row W36.out (wrB_len _ _)
  refine Calls.mono (H1.out.r.write RE.out HB.out.hz HB.out.z0 HB.out.hb a.nm (l := wrB a.fill n) (fun e => ⟨sW, by rw [wrB_len]; exact e⟩) (fun e => by have := HG3.out; have := H0.out.r.low q H0.out.r.bq; omega)) ?_
  rintro e w7 ⟨rfl, r', po, re'⟩
  obtain ⟨BR1, hB2, h2⟩ := H1.out.ref po
  have r2 : Rw w7 w.heap.size a.cells.toArray 44 := ⟨po.ch.heap_some R1.out.eq (fun e => NB.out (.inr (.inl e)))⟩
  have o7 : Own w7 (.slice (some ⟨gF, 0, none⟩) (n + 1) cF) (wrB a.fill n ++ [165]) := Own.kept O6.out po.ch (fun g hg e => by
    have eg : gF = g := by simpa [Value.ownBlock] using hg
    have := HGF.out
    have := H0.out.r.low g e
    omega)
  have s7 : Src w7 (.slice (some ⟨g3, 0, none⟩) n n) (wrB a.fill n) := src_row (⟨po.ch.heap_some W36.out.eq (fun e => by
    have := HG3.out
    have := H0.out.r.low g3 e
    omega)⟩ : Rw w7 g3 (bs (wrB a.fill n)).toArray 5) (wrB_len _ _)
  have O7 : Hid _ := o7
  have S7 : Hid _ := s7
  have C2 : Hid _ := po.ch
  have H2 : Hid _ := h2
  have HB2 : Hid _ := hB2
  have RE2 : Hid _ := re'
  refine hK.out _ _ r2 (fun hH => ?_)
  clear hK K po h2 hB2 re' o7 s7 r2 sW
  refine wpAnyH_take (i := 13) (v := .bool true) rfl (by kernel_rfl) (by kernel_rfl) (by kernel_rfl) (fun _ _ _ h => h) (Or.inl ⟨by rfl, fun w' _ => by go_simp⟩) hH ?_
  refine wpAnyH_take (i := 14) (v := .bool true) rfl (by kernel_rfl) (by kernel_rfl) (by kernel_rfl) (fun _ _ _ h => h) (Or.inl ⟨by rfl, fun w' _ => by go_simp⟩) hH ?_
  refine wpAnyH_done (by kernel_rfl) ?_ _
  clear hH rxd k1
  have cN : ∀ j, (w7.drewN j).cell? ⟨gF, n, none⟩ = some (.int .u8 165) := fun j => by
    have hl : (wrB a.fill n).length = n := wrB_len _ _
    have h := Own.byte O7.out n (by rw [List.length_append, hl]; simp)
    rw [List.getElem_append_right (by omega)] at h
    simp only [hl, Nat.sub_self, List.getElem_cons_zero] at h
    exact h
  go_wp2_with fail
  refine Calls.mono (same_src (own_front O7.out (wrB_len _ _).symm) S7.out (by rw [wrB_len]; omega)) ?_
  rintro e w9 ⟨rfl, j, rfl⟩
  have H3 : Hid _ := H2.out.fresh (drewN_chg2 w7 j)
  go_wp2_with fail
  have nb2 : ∀ g, (Value.slice (some ⟨gF, 0, none⟩) (n + 1) cF).ownBlock = some g → ¬ B3 BD1 BR1 BL g := fun g hg e => by
    have eg : gF = g := by simpa [Value.ownBlock] using hg
    subst eg
    have h0 := HGF.out
    have l5 := Own.lt O5.out (k := gF) rfl
    have s1 := C1.out.size
    rcases e with e | e | e
    · rcases HB1.out gF e with e2 | e2
      · have := H0.out.d.low gF e2; omega
      · omega
    · rcases HB2.out gF e with e2 | e2
      · have := H0.out.r.low gF e2; omega
      · omega
    · have := H0.out.l.low gF e; omega
  refine Calls.mono (H3.out.l.keep HB.out.hb (v := .slice (some ⟨gF, 0, none⟩) (n + 1) cF) (l := wrB a.fill n ++ [165]) O7.out (fun g hg e => nb2 g hg (.inr (.inr e))) (by rw [List.length_append, wrB_len]; simp; omega)) ?_
  rintro e w10 ⟨rfl, ch, lg4⟩
  have h4 := H3.out.led nb2 ch lg4
  have FIN : Hid (PT w w10 BD BR BL p q lg S z b) := by
    have s0 := C0.out.size
    have s5 := C05.out.size
    have s1 := C1.out.size
    have s2 := C2.out.size
    have s4 : w7.heap.size ≤ w10.heap.size := ch.size
    have g0 := HGF.out
    refine ⟨?_, BD1, BR1, _, _, _, fun g hg => grB.wide (fun _ h => .inl h) (by omega) (by omega) (HB1.out g hg), fun g hg => grB.wide (fun _ h => .inr (.inl h)) (by omega) (by omega) (HB2.out g hg), fun g hg => grB.led (fun _ h => .inr (.inr h)) (by show w.heap.size ≤ w7.heap.size; omega) (fun g' e => by have eg : gF = g' := (by simpa [Value.ownBlock] using e); omega) lg4.low hg, h4.mono (Nat.le_refl _) (Nat.le_refl _) (Nat.le_refl _), RE2.out⟩
    refine ((((C0.out.trans C05.out (fun _ h => h.elim)).mono (fun _ _ h => h.elim)).trans C1.out (fun g e => .inl (.inl e))).trans C2.out (fun g e => .inl (.inr (.inl e)))).trans (Chg.trans ((drewN_chg2 w7 j).mono (fun _ _ h => h.elim)) ch (fun g e => .inl e)) (fun g e => ?_)
    rcases e with e | e
    · exact .inl (.inr (.inr e))
    · have eg : g = gF := by simpa [Value.ownBlock] using e
      exact .inr (by omega)
  clear ch lg4 h4
  go_wp2_with fail
  go_ret
  exact ⟨rfl, FIN.out⟩
end Go.Proofs.Ytddnecfnjnipjaa
