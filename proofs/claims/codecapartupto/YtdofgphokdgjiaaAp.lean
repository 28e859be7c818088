/-
  CodecApart, walked.
-/
import Derived.Test.YtdofgphokdgjiaaApA
namespace Go.Proofs.Ytdofgphokdgjiaa
open Go.RowKit

theorem Try.prSz2 (C : List Value) (h : C.length = 2) : (Try.prog.info? 98).map (·.size) = some C.length := by rw [h]; exact Try.size98
theorem Try.msSz2 (C : List Value) (h : C.length = 76) : (Try.prog.info? 95).map (·.size) = some C.length := by rw [h]; exact Try.size95
def tx0 : Tx := ⟨none, 0, 0, []⟩
def askHead : Msg := ⟨1, 0, 0, ⟨tx0, tx0, false⟩, 0, z32, z32, 0, 0, tx0, none, 0, 0, fun _ => [], none, 0, 0, fun _ => ⟨tx0, false, tx0, false, tx0⟩⟩
theorem tx0_in (w : World) (Av : Nat → Prop) : TxIn w Av tx0 := ⟨(Own.nil w).src, fun g hg => by simp [tx0, Tx.val, Value.ownBlock] at hg, by simp [tx0]⟩
theorem askHead_in (w : World) (Av : Nat → Prop) : MsIn w Av askHead := by
  refine ⟨by decide, by decide, by decide, by decide, by decide, ⟨tx0_in w Av, tx0_in w Av⟩, z32_len, z32_len, tx0_in w Av, by decide, ?_, ?_, by decide, ?_, ?_⟩
  · intro i hi; exact absurd hi (Nat.not_lt_zero i)
  · intro i hi; exact absurd hi (Nat.not_lt_zero i)
  · intro i hi; exact absurd hi (Nat.not_lt_zero i)
  · intro i hi; exact absurd hi (Nat.not_lt_zero i)
theorem askHead_bytes : askHead.bytes = [1] := by
  show [(1 : Int) % 256] ++ askHead.body = [1]
  have : askHead.body = [] := by
    unfold Msg.body
    simp [askHead]
  rw [this]
  rfl

set_option maxRecDepth 100000 in
set_option maxHeartbeats 16000000 in
theorem apart_any {w : World} {M1 M2 : Msg} {P1 P2 : Prf} (hM1 : MsIn w (fun g => g < w.heap.size) M1) (hM2 : MsIn w (fun g => g < w.heap.size) M2) (hP1 : PrIn w (fun g => g < w.heap.size) P1) (hP2 : PrIn w (fun g => g < w.heap.size) P2)
    (bM1 : MsByt M1) (bM2 : MsByt M2) (bP1 : PrByt P1) (bP2 : PrByt P2) (lM1 : M1.bytes.length ≤ 70368744177664) (lM2 : M2.bytes.length ≤ 70368744177664) (lP1 : P1.bytes.length ≤ 70368744177664) (lP2 : P2.bytes.length ≤ 70368744177664) :
    Calls Try.prog 7 #[.agg M1.cells.toArray, .agg M2.cells.toArray, .agg P1.cells.toArray, .agg P2.cells.toArray] w fun e w' => e = .returned (.bool true) ∧ Below w.heap.size w w' := by
  obtain ⟨X, hX⟩ : ∃ X, X = w.heap.size := ⟨_, rfl⟩
  obtain ⟨W1, hW1⟩ : ∃ W, W = w.alloc (.cells M1.cells.toArray 95) := ⟨_, rfl⟩
  obtain ⟨W2, hW2⟩ : ∃ W, W = W1.alloc (.cells M2.cells.toArray 95) := ⟨_, rfl⟩
  obtain ⟨W3, hW3⟩ : ∃ W, W = W2.alloc (.cells P1.cells.toArray 98) := ⟨_, rfl⟩
  obtain ⟨W, hW⟩ : ∃ W, W = W3.alloc (.cells P2.cells.toArray 98) := ⟨_, rfl⟩
  have s1 : W1.heap.size = X + 1 := by rw [hW1, hX]; simp
  have s2 : W2.heap.size = X + 2 := by rw [hW2]; simp [s1]
  have s3 : W3.heap.size = X + 3 := by rw [hW3]; simp [s2]
  have hb : Below w.heap.size w W := by
    have b1 : Below w.heap.size w W1 := by rw [hW1]; exact (Below.refl _ _).alloc (Nat.le_refl _) _
    have b2 : Below w.heap.size w W2 := by rw [hW2]; exact b1.alloc (by omega) _
    have b3 : Below w.heap.size w W3 := by rw [hW3]; exact b2.alloc (by omega) _
    rw [hW]; exact b3.alloc (by omega) _
  have D1 : Hid (Blk W X M1.cells 95) := by
    have h9 := Blk.made w M1.cells 95
    rw [← hW1, ← hX] at h9
    rw [hW, hW3, hW2]
    exact ((h9.alloc _).alloc _).alloc _
  have D2 : Hid (Blk W (X + 1) M2.cells 95) := by
    have h9 := Blk.made W1 M2.cells 95
    rw [← hW2, s1] at h9
    rw [hW, hW3]
    exact (h9.alloc _).alloc _
  have D3 : Hid (Blk W (X + 2) P1.cells 98) := by
    have h9 := Blk.made W2 P1.cells 98
    rw [← hW3, s2] at h9
    rw [hW]
    exact h9.alloc _
  have D4 : Hid (Blk W (X + 3) P2.cells 98) := by
    have h9 := Blk.made W3 P2.cells 98
    rw [← hW, s3] at h9
    exact h9
  have HB : Hid _ := hb
  have I1 : Hid _ := hM1.keep0 hb
  have I2 : Hid _ := hM2.keep0 hb
  have I3 : Hid _ := hP1.keep0 hb
  have I4 : Hid _ := hP2.keep0 hb
  have H1 := hM1.hl
  have H2 := hM1.lb
  have H3 := hM2.hl
  have H4 := hM2.lb
  have Y1 : Hid _ := Msg.byts bM1
  have Y2 : Hid _ := Msg.byts bM2
  have Y3 : Hid _ := Prf.byts bP1
  have Y4 : Hid _ := Prf.byts bP2
  have Z1 := M1.pos
  have Z3 := P1.pos
  have HWW : Hid (W = (((w.alloc (.cells M1.cells.toArray 95)).alloc (.cells M2.cells.toArray 95)).alloc (.cells P1.cells.toArray 98)).alloc (.cells P2.cells.toArray 98)) := by rw [hW, hW3, hW2, hW1]; rfl
  have HX : Hid _ := hX
  clear hM1 hM2 hP1 hP2 bM1 bM2 bP1 bP2 hW hW1 hW2 hW3 s1 s2 s3 hb hX
  have l1 : Hid _ := lM1
  have l2 : Hid _ := lM2
  have l3 : Hid _ := lP1
  have l4 : Hid _ := lP2
  obtain ⟨T1, hT1⟩ : ∃ T, T = M1.bytes := ⟨_, rfl⟩
  obtain ⟨T2, hT2⟩ : ∃ T, T = M2.bytes := ⟨_, rfl⟩
  obtain ⟨T3, hT3⟩ : ∃ T, T = P1.bytes := ⟨_, rfl⟩
  obtain ⟨T4, hT4⟩ : ∃ T, T = P2.bytes := ⟨_, rfl⟩
  rw [← hT1] at Y1 Z1
  rw [← hT2] at Y2
  rw [← hT3] at Y3 Z3
  rw [← hT4] at Y4
  have LT1 : Hid (T1.length ≤ 70368744177664) := by show _ ≤ _; rw [hT1]; exact lM1
  have LT2 : Hid (T2.length ≤ 70368744177664) := by show _ ≤ _; rw [hT2]; exact lM2
  have LT3 : Hid (T3.length ≤ 70368744177664) := by show _ ≤ _; rw [hT3]; exact lP1
  have LT4 : Hid (T4.length ≤ 70368744177664) := by show _ ≤ _; rw [hT4]; exact lP2
  have HT1 : Hid _ := hT1
  have HT2 : Hid _ := hT2
  have HT3 : Hid _ := hT3
  have HT4 : Hid _ := hT4
  clear lM1 lM2 lP1 lP2 hT1 hT2 hT3 hT4
  go_enter Try.func7, Try.ntmps7
  go_upto_region 1 with fail
  rw [← HWW.out, ← HX.out]
  clear HWW
  go_wp2_with (refine wpList_load_part rfl 95 (.tmp 4) rfl (X) 0 M1.cells rfl D1.out (by simp) Try.underlying95 rfl (Try.msSzM M1 H1 H2) ?_)
  refine Calls.mono (cMsg_any I1.out l1.out) ?_
  rintro e w1 ⟨v1, rfl, m⟩
  rw [← HT1.out] at m
  have Lw1 : Hid (Below W.heap.size W w1) := m.2.1
  obtain ⟨a1, c1, hf⟩ := m.1.form
  obtain ⟨N1, hN⟩ : ∃ n, n = T1.length := ⟨_, rfl⟩
  rw [← hN] at hf
  subst hf
  have O1 : Hid (Own w1 (.slice a1 N1 c1) T1) := m.1
  have HN1 : Hid _ := hN
  clear m hN 
  have DD : Hid (Blk w1 (X + 1) M2.cells 95) := D2.out.keep0 Lw1.out
  go_wp2_with (refine wpList_load_part rfl 95 (.tmp 5) rfl (X + 1) 0 M2.cells rfl DD.out (by simp) Try.underlying95 rfl (Try.msSzM M2 H3 H4) ?_)
  refine Calls.mono (cMsg_any (I2.out.keep0 Lw1.out) l2.out) ?_
  rintro e w2 ⟨v2, rfl, m⟩
  rw [← HT2.out] at m
  have N12 : Hid _ := m.2.1
  have Lw2 : Hid (Below W.heap.size W w2) := Lw1.out.trans (m.2.1.mono Lw1.out.size)
  obtain ⟨a2, c2, hf⟩ := m.1.form
  obtain ⟨N2, hN⟩ : ∃ n, n = T2.length := ⟨_, rfl⟩
  rw [← hN] at hf
  subst hf
  have O2 : Hid (Own w2 (.slice a2 N2 c2) T2) := m.1
  have HN2 : Hid _ := hN
  clear m hN DD
  have O1 : Hid (Own w2 (.slice a1 N1 c1) T1) := O1.out.kept (Chg.of_below N12.out (fun _ => False)) (fun _ _ e => e)
  clear N12
  go_wp2_with fail
  refine Calls.mono (msgRead_any (O1.out.in_ Y1.out (by have := LT1.out; omega))) ?_
  intro e w3 hq
  obtain ⟨C1, E1, rfl, bl, hc, ti, te⟩ := hq.ex
  have K1 := hc.1
  have KO1 : Hid _ := hc.2
  have TI1 : Hid _ := ti
  have BB : Hid _ := bl
  clear hq bl hc ti te
  go_upto_region 4 with (refine wpList_store_part rfl 95 (.tmp 11) (.tmp 30) rfl w3.heap.size 0 C1 rfl rfl (t := 95) ⟨heap_alloc_new _ _⟩ (by rw [K1]; simp) (Try.msSz2 C1 K1) KO1.out ?_; intro w4 hw8 hc8; rw [splice_all _ _ (by rw [K1]; simp)] at hw8; have c8 : Chg (fun _ => False) w3 w4 := ((Chg.refl (fun _ => False) w3).alloc _).trans hc8 (fun k e => .inr (by omega)); have Q1 : Hid _ := hw8; have CC : Hid _ := c8; clear hw8 hc8 c8)
  have BN : Hid (Below w2.heap.size w2 w4) := BB.out.trans (CC.out.below BB.out.size (fun _ e => e.elim))
  have Lw4 : Hid (Below W.heap.size W w4) := Lw2.out.trans (BN.out.mono Lw2.out.size)
  have TI1 : Hid (E1 = 0 → msgE T1 = 0 ∧ MsIs w4 (msgS T1 0 0) C1) := fun e => ⟨(TI1.out e).1, (TI1.out e).2.2.fresh CC.out⟩
  have O1 : Hid (Own w4 (.slice a1 N1 c1) T1) := O1.out.kept (Chg.of_below BN.out (fun _ => False)) (fun _ _ e => e)
  have O2 : Hid (Own w4 (.slice a2 N2 c2) T2) := O2.out.kept (Chg.of_below BN.out (fun _ => False)) (fun _ _ e => e)
  clear BB CC BN
  go_wp2_with fail
  refine Calls.mono (msgRead_any (O2.out.in_ Y2.out (by have := LT2.out; omega))) ?_
  intro e w5 hq
  obtain ⟨C2, E2, rfl, bl, hc, ti, te⟩ := hq.ex
  have K2 := hc.1
  have KO2 : Hid _ := hc.2
  have TI2 : Hid _ := ti
  have BB : Hid _ := bl
  clear hq bl hc ti te
  go_upto_region 5 with (refine wpList_store_part rfl 95 (.tmp 13) (.tmp 35) rfl w5.heap.size 0 C2 rfl rfl (t := 95) ⟨heap_alloc_new _ _⟩ (by rw [K2]; simp) (Try.msSz2 C2 K2) KO2.out ?_; intro w6 hw8 hc8; rw [splice_all _ _ (by rw [K2]; simp)] at hw8; have c8 : Chg (fun _ => False) w5 w6 := ((Chg.refl (fun _ => False) w5).alloc _).trans hc8 (fun k e => .inr (by omega)); have Q2 : Hid _ := hw8; have CC : Hid _ := c8; clear hw8 hc8 c8)
  have BN : Hid (Below w4.heap.size w4 w6) := BB.out.trans (CC.out.below BB.out.size (fun _ e => e.elim))
  have Lw6 : Hid (Below W.heap.size W w6) := Lw4.out.trans (BN.out.mono Lw4.out.size)
  have TI1 : Hid (E1 = 0 → msgE T1 = 0 ∧ MsIs w6 (msgS T1 0 0) C1) := fun e => ⟨(TI1.out e).1, (TI1.out e).2.fresh (Chg.of_below BN.out (fun _ => False))⟩
  have TI2 : Hid (E2 = 0 → msgE T2 = 0 ∧ MsIs w6 (msgS T2 0 0) C2) := fun e => ⟨(TI2.out e).1, (TI2.out e).2.2.fresh CC.out⟩
  have Q1 : Hid (Blk w6 w3.heap.size C1 95) := Q1.out.keep0 BN.out
  have O1 : Hid (Own w6 (.slice a1 N1 c1) T1) := O1.out.kept (Chg.of_below BN.out (fun _ => False)) (fun _ _ e => e)
  have O2 : Hid (Own w6 (.slice a2 N2 c2) T2) := O2.out.kept (Chg.of_below BN.out (fun _ => False)) (fun _ _ e => e)
  clear BB CC BN
  go_cut [51] from 23 (fun s wx => s = .bool false ∧ Hid (Below w6.heap.size w6 wx))
  case first =>
    by_cases q1 : E1 = 0
    · subst q1
      by_cases q2 : E2 = 0
      · subst q2
        have G1 : Hid _ := TI1.out rfl
        have G2 : Hid _ := TI2.out rfl
        refine wp_region_held_drew (S := fun w' => Below w6.heap.size w6 w') (by kernel_rfl) (Below.refl _ _).drew (fun hH => ?_)
        refine wpAnyH_take (i := 0) (v := .int .i64 0) rfl (by kernel_rfl) (by kernel_rfl) (by kernel_rfl) (fun _ _ _ h => h) (Or.inl ⟨by kernel_rfl, fun w' _ => by go_simp⟩) hH ?_
        refine wpAnyH_take (i := 1) (v := .bool true) rfl (by kernel_rfl) (by kernel_rfl) (by kernel_rfl) (fun _ _ _ h => h) (Or.inl ⟨by kernel_rfl, fun w' _ => by go_simp⟩) hH ?_
        refine wpAnyH_take (i := 2) (v := .bool true) rfl (by kernel_rfl) (by kernel_rfl) (by kernel_rfl) (fun _ _ _ h => h) (Or.inl ⟨by kernel_rfl, fun w' _ => by go_simp⟩) hH ?_
        refine wpAnyH_take (i := 3) (v := .int .i64 0) rfl (by kernel_rfl) (by kernel_rfl) (by kernel_rfl) (fun _ _ _ h => h) (Or.inl ⟨by kernel_rfl, fun w' _ => by go_simp⟩) hH ?_
        refine wpAnyH_take (i := 4) (v := .bool true) rfl (by kernel_rfl) (by kernel_rfl) (by kernel_rfl) (fun _ _ _ h => h) (Or.inl ⟨by kernel_rfl, fun w' _ => by go_simp⟩) hH ?_
        refine wpAnyH_take (i := 5) (v := .bool true) rfl (by kernel_rfl) (by kernel_rfl) (by kernel_rfl) (fun _ _ _ h => h) (Or.inl ⟨by kernel_rfl, fun w' _ => by go_simp⟩) hH ?_
        refine wpAnyH_take (i := 6) (v := .bool true) rfl (by kernel_rfl) (by kernel_rfl) (by kernel_rfl) (fun _ _ _ h => h) (Or.inl ⟨by kernel_rfl, fun w' _ => by go_simp⟩) hH ?_
        refine wpAnyH_take (i := 7) (v := .slice a1 N1 c1) rfl (by kernel_rfl) (by kernel_rfl) (by kernel_rfl) (fun _ _ _ h => h) (Or.inl ⟨by kernel_rfl, fun w' _ => by go_simp⟩) hH ?_
        refine wpAnyH_take (i := 8) (v := .slice a2 N2 c2) rfl (by kernel_rfl) (by kernel_rfl) (by kernel_rfl) (fun _ _ _ h => h) (Or.inl ⟨by kernel_rfl, fun w' _ => by go_simp⟩) hH ?_
        refine wpAnyH_take (i := 10) (v := .agg C1.toArray) rfl (by kernel_rfl) (by kernel_rfl) (by kernel_rfl) (fun _ _ _ h => h) (yieldsIf_load_mid (by kernel_rfl) _ _ rfl w3.heap.size 0 (by kernel_rfl) _ _ (fun w' h => Blk.range (Blk.keep0 Q1.out h) (by simp)) Try.underlying95 rfl (Try.msSz2 C1 K1)) hH ?_
        refine wpAnyH_take (i := 11) (v := .agg C2.toArray) rfl (by kernel_rfl) (by kernel_rfl) (by kernel_rfl) (fun _ _ _ h => h) (yieldsIf_load_mid (by kernel_rfl) _ _ rfl w5.heap.size 0 (by kernel_rfl) _ _ (fun w' h => Blk.range (Blk.keep0 Q2.out h) (by simp)) Try.underlying95 rfl (Try.msSz2 C2 K2)) hH ?_
        refine wpAnyH_ready (rs := [9]) (by kernel_rfl) (by simp) ?_
        refine AllReadyH.cons rfl (fun K hK => ?_) AllReadyH.nil
        go_simp
        refine Calls.mono (same_any ((O1.out.kept (Chg.of_below hH (fun _ => False)) (fun _ _ e => e)).src) ((O2.out.kept (Chg.of_below hH (fun _ => False)) (fun _ _ e => e)).src) O1.out.len_le O2.out.len_le) ?_
        rintro e u1 ⟨rfl, kk, hw⟩
        refine hK.out _ _ (by rw [hw]; exact below_drewN hH kk) (fun h1 => ?_)
        clear hK K hw hH
        refine wpAnyH_ready (rs := [12]) (by kernel_rfl) (by simp) ?_
        refine AllReadyH.cons rfl (fun K hK => ?_) AllReadyH.nil
        go_simp
        refine Calls.mono (sameMsg_any (G1.out.2.fresh (Chg.of_below h1 (fun _ => False))) (G2.out.2.fresh (Chg.of_below h1 (fun _ => False))) (msgS_len T1 0 0) (msgS_len T2 0 0) (msgS_bounds T1 0 0).1 (msgS_bounds T2 0 0).1 (msgS_bounds T1 0 0).2 (msgS_bounds T2 0 0).2) ?_
        intro e u2 hq
        obtain ⟨D, rfl, hd, bl⟩ := hq.ex
        refine hK.out _ _ (h1.trans (bl.mono h1.size)) (fun h2 => ?_)
        clear hK K hq bl h1
        have hne : (decide (T1 = T2) != D) = false := by
          have h9 := hd.trans (msg_same Y1.out Y2.out G1.out.1 G2.out.1)
          by_cases q : T1 = T2
          · rw [decide_eq_true q, h9.2 q]; rfl
          · rw [decide_eq_false q]
            have : D = false := by
              cases D with
              | false => rfl
              | true => exact absurd (h9.1 rfl) q
            rw [this]; rfl
        clear hd
        have heq : decide (T1 = T2) = D := by simpa using hne
        have HEQ : Hid _ := heq
        clear heq
        clear hne
        refine wpAnyH_take (i := 13) (v := .bool false) rfl (by kernel_rfl) (by kernel_rfl) (by kernel_rfl) (fun _ _ _ h => h) (Or.inl ⟨by kernel_rfl, fun w' _ => by go_simp; exact HEQ.out⟩) h2 ?_
        refine wpAnyH_ready (rs := [14]) (by kernel_rfl) (by simp) ?_
        refine AllReadyH.cons rfl (fun K hK => ?_) AllReadyH.nil
        go_simp
        refine hK.out _ _ h2 (fun h9 => ?_)
        have FB : Hid _ := h9
        clear hK K h9
        refine wpAnyH_done (by kernel_rfl) ?_ _
        go_wp2_with fail
        go_meet
        case rel => exact ⟨rfl, FB.out⟩
      · have i2 : (E2 == 0) = false := by simpa using q2
        refine wp_region_held_drew (S := fun w' => Below w6.heap.size w6 w') (by kernel_rfl) (Below.refl _ _).drew (fun hH => ?_)
        refine wpAnyH_take (i := 0) (v := .int .i64 0) rfl (by kernel_rfl) (by kernel_rfl) (by kernel_rfl) (fun _ _ _ h => h) (Or.inl ⟨by kernel_rfl, fun w' _ => by go_simp⟩) hH ?_
        refine wpAnyH_take (i := 1) (v := .bool true) rfl (by kernel_rfl) (by kernel_rfl) (by kernel_rfl) (fun _ _ _ h => h) (Or.inl ⟨by kernel_rfl, fun w' _ => by go_simp⟩) hH ?_
        refine wpAnyH_take (i := 2) (v := .bool true) rfl (by kernel_rfl) (by kernel_rfl) (by kernel_rfl) (fun _ _ _ h => h) (Or.inl ⟨by kernel_rfl, fun w' _ => by go_simp⟩) hH ?_
        refine wpAnyH_take (i := 3) (v := .int .i64 E2) rfl (by kernel_rfl) (by kernel_rfl) (by kernel_rfl) (fun _ _ _ h => h) (Or.inl ⟨by kernel_rfl, fun w' _ => by go_simp⟩) hH ?_
        refine wpAnyH_take (i := 4) (v := .bool false) rfl (by kernel_rfl) (by kernel_rfl) (by kernel_rfl) (fun _ _ _ h => h) (Or.inl ⟨by kernel_rfl, fun w' _ => by go_simp⟩) hH ?_
        refine wpAnyH_take (i := 5) (v := .bool false) rfl (by kernel_rfl) (by kernel_rfl) (by kernel_rfl) (fun _ _ _ h => h) (Or.inl ⟨by kernel_rfl, fun w' _ => by go_simp⟩) hH ?_
        refine wpAnyH_take (i := 6) (v := .bool false) rfl (by kernel_rfl) (by kernel_rfl) (by kernel_rfl) (fun _ _ _ h => h) (Or.inl ⟨by kernel_rfl, fun w' _ => by go_simp⟩) hH ?_
        refine wpAnyH_take (i := 7) (v := undef) rfl (by kernel_rfl) (by kernel_rfl) (by kernel_rfl) (fun _ _ _ h => h) (Or.inr ⟨by kernel_rfl, rfl⟩) hH ?_
        refine wpAnyH_take (i := 8) (v := undef) rfl (by kernel_rfl) (by kernel_rfl) (by kernel_rfl) (fun _ _ _ h => h) (Or.inr ⟨by kernel_rfl, rfl⟩) hH ?_
        refine wpAnyH_take (i := 9) (v := undef) rfl (by kernel_rfl) (by kernel_rfl) (by kernel_rfl) (fun _ _ _ h => h) (Or.inr ⟨by kernel_rfl, rfl⟩) hH ?_
        refine wpAnyH_take (i := 10) (v := undef) rfl (by kernel_rfl) (by kernel_rfl) (by kernel_rfl) (fun _ _ _ h => h) (Or.inr ⟨by kernel_rfl, rfl⟩) hH ?_
        refine wpAnyH_take (i := 11) (v := undef) rfl (by kernel_rfl) (by kernel_rfl) (by kernel_rfl) (fun _ _ _ h => h) (Or.inr ⟨by kernel_rfl, rfl⟩) hH ?_
        refine wpAnyH_take (i := 12) (v := undef) rfl (by kernel_rfl) (by kernel_rfl) (by kernel_rfl) (fun _ _ _ h => h) (Or.inr ⟨by kernel_rfl, rfl⟩) hH ?_
        refine wpAnyH_take (i := 13) (v := undef) rfl (by kernel_rfl) (by kernel_rfl) (by kernel_rfl) (fun _ _ _ h => h) (Or.inr ⟨by kernel_rfl, rfl⟩) hH ?_
        refine wpAnyH_ready (rs := [14]) (by kernel_rfl) (by simp) ?_
        refine AllReadyH.cons rfl (fun K hK => ?_) AllReadyH.nil
        go_simp
        refine hK.out _ _ hH (fun h9 => ?_)
        have FB : Hid _ := h9
        clear hK K h9
        refine wpAnyH_done (by kernel_rfl) ?_ _
        go_wp2_with fail
        go_meet
        case rel => exact ⟨rfl, FB.out⟩
    · have i1 : (E1 == 0) = false := by simpa using q1
      refine wp_region_held_drew (S := fun w' => Below w6.heap.size w6 w') (by kernel_rfl) (Below.refl _ _).drew (fun hH => ?_)
      refine wpAnyH_take (i := 0) (v := .int .i64 E1) rfl (by kernel_rfl) (by kernel_rfl) (by kernel_rfl) (fun _ _ _ h => h) (Or.inl ⟨by kernel_rfl, fun w' _ => by go_simp⟩) hH ?_
      refine wpAnyH_take (i := 1) (v := .bool false) rfl (by kernel_rfl) (by kernel_rfl) (by kernel_rfl) (fun _ _ _ h => h) (Or.inl ⟨by kernel_rfl, fun w' _ => by go_simp⟩) hH ?_
      refine wpAnyH_take (i := 2) (v := .bool false) rfl (by kernel_rfl) (by kernel_rfl) (by kernel_rfl) (fun _ _ _ h => h) (Or.inl ⟨by kernel_rfl, fun w' _ => by go_simp⟩) hH ?_
      refine wpAnyH_take (i := 3) (v := undef) rfl (by kernel_rfl) (by kernel_rfl) (by kernel_rfl) (fun _ _ _ h => h) (Or.inr ⟨by kernel_rfl, rfl⟩) hH ?_
      refine wpAnyH_take (i := 4) (v := undef) rfl (by kernel_rfl) (by kernel_rfl) (by kernel_rfl) (fun _ _ _ h => h) (Or.inr ⟨by kernel_rfl, rfl⟩) hH ?_
      refine wpAnyH_take (i := 5) (v := .bool false) rfl (by kernel_rfl) (by kernel_rfl) (by kernel_rfl) (fun _ _ _ h => h) (Or.inl ⟨by kernel_rfl, fun w' _ => by go_simp⟩) hH ?_
      refine wpAnyH_take (i := 6) (v := .bool false) rfl (by kernel_rfl) (by kernel_rfl) (by kernel_rfl) (fun _ _ _ h => h) (Or.inl ⟨by kernel_rfl, fun w' _ => by go_simp⟩) hH ?_
      refine wpAnyH_take (i := 7) (v := undef) rfl (by kernel_rfl) (by kernel_rfl) (by kernel_rfl) (fun _ _ _ h => h) (Or.inr ⟨by kernel_rfl, rfl⟩) hH ?_
      refine wpAnyH_take (i := 8) (v := undef) rfl (by kernel_rfl) (by kernel_rfl) (by kernel_rfl) (fun _ _ _ h => h) (Or.inr ⟨by kernel_rfl, rfl⟩) hH ?_
      refine wpAnyH_take (i := 9) (v := undef) rfl (by kernel_rfl) (by kernel_rfl) (by kernel_rfl) (fun _ _ _ h => h) (Or.inr ⟨by kernel_rfl, rfl⟩) hH ?_
      refine wpAnyH_take (i := 10) (v := undef) rfl (by kernel_rfl) (by kernel_rfl) (by kernel_rfl) (fun _ _ _ h => h) (Or.inr ⟨by kernel_rfl, rfl⟩) hH ?_
      refine wpAnyH_take (i := 11) (v := undef) rfl (by kernel_rfl) (by kernel_rfl) (by kernel_rfl) (fun _ _ _ h => h) (Or.inr ⟨by kernel_rfl, rfl⟩) hH ?_
      refine wpAnyH_take (i := 12) (v := undef) rfl (by kernel_rfl) (by kernel_rfl) (by kernel_rfl) (fun _ _ _ h => h) (Or.inr ⟨by kernel_rfl, rfl⟩) hH ?_
      refine wpAnyH_take (i := 13) (v := undef) rfl (by kernel_rfl) (by kernel_rfl) (by kernel_rfl) (fun _ _ _ h => h) (Or.inr ⟨by kernel_rfl, rfl⟩) hH ?_
      refine wpAnyH_ready (rs := [14]) (by kernel_rfl) (by simp) ?_
      refine AllReadyH.cons rfl (fun K hK => ?_) AllReadyH.nil
      go_simp
      refine hK.out _ _ hH (fun h9 => ?_)
      have FB : Hid _ := h9
      clear hK K h9
      refine wpAnyH_done (by kernel_rfl) ?_ _
      go_wp2_with fail
      go_meet
      case rel => exact ⟨rfl, FB.out⟩
  case rest =>
    obtain ⟨rfl, hid⟩ := hcut
    have L7 : Hid (Below W.heap.size W wc) := Lw6.out.trans (hid.out.mono Lw6.out.size)
    have O1 : Hid (Own wc (.slice a1 N1 c1) T1) := O1.out.kept (Chg.of_below hid.out (fun _ => False)) (fun _ _ e => e)
    clear hid Q1 Q2 TI1 TI2 O2 Y1 Y2 I1 I2 D1 D2 Lw6 Lw4 Lw2 Lw1 KO1 KO2 HN2
    obtain ⟨w7, hw7⟩ : ∃ w7, w7 = wc := ⟨_, rfl⟩
    rw [← hw7] at L7 O1 ⊢
    clear hw7
    have Lw7 : Hid _ := L7.out
    clear L7
    have DD : Hid (Blk w7 (X + 2) P1.cells 98) := D3.out.keep0 Lw7.out
    go_wp2_with (refine wpList_load_part rfl 98 (.tmp 6) rfl (X + 2) 0 P1.cells rfl DD.out (by simp) Try.underlying98 rfl (Try.prSzP P1) ?_)
    refine Calls.mono (cProof_any (I3.out.keep0 Lw7.out) l3.out) ?_
    rintro e w8 ⟨v3, rfl, m⟩
    rw [← HT3.out] at m
    have N78 : Hid _ := m.2.1
    have Lw8 : Hid (Below W.heap.size W w8) := Lw7.out.trans (m.2.1.mono Lw7.out.size)
    obtain ⟨a3, c3, hf⟩ := m.1.form
    obtain ⟨N3, hN⟩ : ∃ n, n = T3.length := ⟨_, rfl⟩
    rw [← hN] at hf
    subst hf
    have O3 : Hid (Own w8 (.slice a3 N3 c3) T3) := m.1
    have HN3 : Hid _ := hN
    clear m hN DD
    have O1 : Hid (Own w8 (.slice a1 N1 c1) T1) := O1.out.kept (Chg.of_below N78.out (fun _ => False)) (fun _ _ e => e)
    clear N78
    have DD : Hid (Blk w8 (X + 3) P2.cells 98) := D4.out.keep0 Lw8.out
    go_wp2_with (refine wpList_load_part rfl 98 (.tmp 7) rfl (X + 3) 0 P2.cells rfl DD.out (by simp) Try.underlying98 rfl (Try.prSzP P2) ?_)
    refine Calls.mono (cProof_any (I4.out.keep0 Lw8.out) l4.out) ?_
    rintro e w9 ⟨v4, rfl, m⟩
    rw [← HT4.out] at m
    have N89 : Hid _ := m.2.1
    have Lw9 : Hid (Below W.heap.size W w9) := Lw8.out.trans (m.2.1.mono Lw8.out.size)
    obtain ⟨a4, c4, hf⟩ := m.1.form
    obtain ⟨N4, hN⟩ : ∃ n, n = T4.length := ⟨_, rfl⟩
    rw [← hN] at hf
    subst hf
    have O4 : Hid (Own w9 (.slice a4 N4 c4) T4) := m.1
    have HN4 : Hid _ := hN
    clear m hN DD
    have O1 : Hid (Own w9 (.slice a1 N1 c1) T1) := O1.out.kept (Chg.of_below N89.out (fun _ => False)) (fun _ _ e => e)
    have O3 : Hid (Own w9 (.slice a3 N3 c3) T3) := O3.out.kept (Chg.of_below N89.out (fun _ => False)) (fun _ _ e => e)
    clear N89
    go_wp2_with fail
    refine Calls.mono (proofRead_any (O3.out.in_ Y3.out (by have := LT3.out; omega))) ?_
    intro e w10 hq
    obtain ⟨C3, E3, rfl, bl, hc, ti⟩ := hq.ex
    have K3 := hc.1
    have KO3 : Hid _ := hc.2
    have TI3 : Hid _ := ti
    have BB : Hid _ := bl
    clear hq bl hc ti
    go_upto_region 10 with (refine wpList_store_part rfl 98 (.tmp 17) (.tmp 59) rfl w10.heap.size 0 C3 rfl rfl (t := 98) ⟨heap_alloc_new _ _⟩ (by rw [K3]; simp) (Try.prSz2 C3 K3) KO3.out ?_; intro w11 hw8 hc8; rw [splice_all _ _ (by rw [K3]; simp)] at hw8; have c8 : Chg (fun _ => False) w10 w11 := ((Chg.refl (fun _ => False) w10).alloc _).trans hc8 (fun k e => .inr (by omega)); have Q3 : Hid _ := hw8; have CC : Hid _ := c8; clear hw8 hc8 c8)
    have BN : Hid (Below w9.heap.size w9 w11) := BB.out.trans (CC.out.below BB.out.size (fun _ e => e.elim))
    have Lw11 : Hid (Below W.heap.size W w11) := Lw9.out.trans (BN.out.mono Lw9.out.size)
    have TI3 : Hid (E3 = 0 → proofE T3 = 0 ∧ T3.length ≤ 4194304 ∧ ∃ B, PrIs w11 B (proofS T3 0 0) C3) := fun e => ⟨(TI3.out e).1, (TI3.out e).2.1, _, (TI3.out e).2.2.fresh CC.out⟩
    have O1 : Hid (Own w11 (.slice a1 N1 c1) T1) := O1.out.kept (Chg.of_below BN.out (fun _ => False)) (fun _ _ e => e)
    have O3 : Hid (Own w11 (.slice a3 N3 c3) T3) := O3.out.kept (Chg.of_below BN.out (fun _ => False)) (fun _ _ e => e)
    have O4 : Hid (Own w11 (.slice a4 N4 c4) T4) := O4.out.kept (Chg.of_below BN.out (fun _ => False)) (fun _ _ e => e)
    clear BB CC BN
    go_wp2_with fail
    refine Calls.mono (proofRead_any (O4.out.in_ Y4.out (by have := LT4.out; omega))) ?_
    intro e w12 hq
    obtain ⟨C4, E4, rfl, bl, hc, ti⟩ := hq.ex
    have K4 := hc.1
    have KO4 : Hid _ := hc.2
    have TI4 : Hid _ := ti
    have BB : Hid _ := bl
    clear hq bl hc ti
    go_upto_region 11 with (refine wpList_store_part rfl 98 (.tmp 19) (.tmp 64) rfl w12.heap.size 0 C4 rfl rfl (t := 98) ⟨heap_alloc_new _ _⟩ (by rw [K4]; simp) (Try.prSz2 C4 K4) KO4.out ?_; intro w13 hw8 hc8; rw [splice_all _ _ (by rw [K4]; simp)] at hw8; have c8 : Chg (fun _ => False) w12 w13 := ((Chg.refl (fun _ => False) w12).alloc _).trans hc8 (fun k e => .inr (by omega)); have Q4 : Hid _ := hw8; have CC : Hid _ := c8; clear hw8 hc8 c8)
    have BN : Hid (Below w11.heap.size w11 w13) := BB.out.trans (CC.out.below BB.out.size (fun _ e => e.elim))
    have Lw13 : Hid (Below W.heap.size W w13) := Lw11.out.trans (BN.out.mono Lw11.out.size)
    have TI3 : Hid (E3 = 0 → proofE T3 = 0 ∧ T3.length ≤ 4194304 ∧ ∃ B, PrIs w13 B (proofS T3 0 0) C3) := fun e => ⟨(TI3.out e).1, (TI3.out e).2.1, by obtain ⟨B, h9⟩ := (TI3.out e).2.2; exact ⟨B, h9.fresh (Chg.of_below BN.out (fun _ => False))⟩⟩
    have TI4 : Hid (E4 = 0 → proofE T4 = 0 ∧ T4.length ≤ 4194304 ∧ ∃ B, PrIs w13 B (proofS T4 0 0) C4) := fun e => ⟨(TI4.out e).1, (TI4.out e).2.1, _, (TI4.out e).2.2.fresh CC.out⟩
    have Q3 : Hid (Blk w13 w10.heap.size C3 98) := Q3.out.keep0 BN.out
    have O1 : Hid (Own w13 (.slice a1 N1 c1) T1) := O1.out.kept (Chg.of_below BN.out (fun _ => False)) (fun _ _ e => e)
    have O3 : Hid (Own w13 (.slice a3 N3 c3) T3) := O3.out.kept (Chg.of_below BN.out (fun _ => False)) (fun _ _ e => e)
    have O4 : Hid (Own w13 (.slice a4 N4 c4) T4) := O4.out.kept (Chg.of_below BN.out (fun _ => False)) (fun _ _ e => e)
    clear BB CC BN
    go_cut [80] from 23 (fun s wx => s = .bool false ∧ Hid (Below w13.heap.size w13 wx))
    case first =>
      by_cases q1 : E3 = 0
      · subst q1
        by_cases q2 : E4 = 0
        · subst q2
          have G1 : Hid _ := TI3.out rfl
          have G2 : Hid _ := TI4.out rfl
          obtain ⟨B3, hB3⟩ := G1.out.2.2
          obtain ⟨B4, hB4⟩ := G2.out.2.2
          have PB3 : Hid _ := hB3
          have PB4 : Hid _ := hB4
          clear hB3 hB4
          refine wp_region_held_drew (S := fun w' => Below w13.heap.size w13 w') (by kernel_rfl) (Below.refl _ _).drew (fun hH => ?_)
          refine wpAnyH_take (i := 0) (v := .int .i64 0) rfl (by kernel_rfl) (by kernel_rfl) (by kernel_rfl) (fun _ _ _ h => h) (Or.inl ⟨by kernel_rfl, fun w' _ => by go_simp⟩) hH ?_
          refine wpAnyH_take (i := 1) (v := .bool true) rfl (by kernel_rfl) (by kernel_rfl) (by kernel_rfl) (fun _ _ _ h => h) (Or.inl ⟨by kernel_rfl, fun w' _ => by go_simp⟩) hH ?_
          refine wpAnyH_take (i := 2) (v := .bool true) rfl (by kernel_rfl) (by kernel_rfl) (by kernel_rfl) (fun _ _ _ h => h) (Or.inl ⟨by kernel_rfl, fun w' _ => by go_simp⟩) hH ?_
          refine wpAnyH_take (i := 3) (v := .int .i64 0) rfl (by kernel_rfl) (by kernel_rfl) (by kernel_rfl) (fun _ _ _ h => h) (Or.inl ⟨by kernel_rfl, fun w' _ => by go_simp⟩) hH ?_
          refine wpAnyH_take (i := 4) (v := .bool true) rfl (by kernel_rfl) (by kernel_rfl) (by kernel_rfl) (fun _ _ _ h => h) (Or.inl ⟨by kernel_rfl, fun w' _ => by go_simp⟩) hH ?_
          refine wpAnyH_take (i := 5) (v := .bool true) rfl (by kernel_rfl) (by kernel_rfl) (by kernel_rfl) (fun _ _ _ h => h) (Or.inl ⟨by kernel_rfl, fun w' _ => by go_simp⟩) hH ?_
          refine wpAnyH_take (i := 6) (v := .bool true) rfl (by kernel_rfl) (by kernel_rfl) (by kernel_rfl) (fun _ _ _ h => h) (Or.inl ⟨by kernel_rfl, fun w' _ => by go_simp⟩) hH ?_
          refine wpAnyH_take (i := 7) (v := .slice a3 N3 c3) rfl (by kernel_rfl) (by kernel_rfl) (by kernel_rfl) (fun _ _ _ h => h) (Or.inl ⟨by kernel_rfl, fun w' _ => by go_simp⟩) hH ?_
          refine wpAnyH_take (i := 8) (v := .slice a4 N4 c4) rfl (by kernel_rfl) (by kernel_rfl) (by kernel_rfl) (fun _ _ _ h => h) (Or.inl ⟨by kernel_rfl, fun w' _ => by go_simp⟩) hH ?_
          refine wpAnyH_take (i := 10) (v := .agg C3.toArray) rfl (by kernel_rfl) (by kernel_rfl) (by kernel_rfl) (fun _ _ _ h => h) (yieldsIf_load_mid (by kernel_rfl) _ _ rfl w10.heap.size 0 (by kernel_rfl) _ _ (fun w' h => Blk.range (Blk.keep0 Q3.out h) (by simp)) Try.underlying98 rfl (Try.prSz2 C3 K3)) hH ?_
          refine wpAnyH_take (i := 11) (v := .agg C4.toArray) rfl (by kernel_rfl) (by kernel_rfl) (by kernel_rfl) (fun _ _ _ h => h) (yieldsIf_load_mid (by kernel_rfl) _ _ rfl w12.heap.size 0 (by kernel_rfl) _ _ (fun w' h => Blk.range (Blk.keep0 Q4.out h) (by simp)) Try.underlying98 rfl (Try.prSz2 C4 K4)) hH ?_
          refine wpAnyH_ready (rs := [9]) (by kernel_rfl) (by simp) ?_
          refine AllReadyH.cons rfl (fun K hK => ?_) AllReadyH.nil
          go_simp
          refine Calls.mono (same_any ((O3.out.kept (Chg.of_below hH (fun _ => False)) (fun _ _ e => e)).src) ((O4.out.kept (Chg.of_below hH (fun _ => False)) (fun _ _ e => e)).src) O3.out.len_le O4.out.len_le) ?_
          rintro e u1 ⟨rfl, kk, hw⟩
          refine hK.out _ _ (by rw [hw]; exact below_drewN hH kk) (fun h1 => ?_)
          clear hK K hw hH
          refine wpAnyH_ready (rs := [12]) (by kernel_rfl) (by simp) ?_
          refine AllReadyH.cons rfl (fun K hK => ?_) AllReadyH.nil
          go_simp
          refine Calls.mono (sameProof_any (PB3.out.fresh (Chg.of_below h1 (fun _ => False))) (PB4.out.fresh (Chg.of_below h1 (fun _ => False))) (Nat.le_trans (proofS_len T3) G1.out.2.1) (Nat.le_trans (proofS_len T4) G2.out.2.1)) ?_
          intro e u2 hq
          obtain ⟨D, rfl, hd, bl⟩ := hq.ex
          refine hK.out _ _ (h1.trans (bl.mono h1.size)) (fun h2 => ?_)
          clear hK K hq bl h1
          have hne : (decide (T3 = T4) != D) = false := by
            have h9 := hd.trans (proof_same Y3.out Y4.out G1.out.1 G2.out.1)
            by_cases q : T3 = T4
            · rw [decide_eq_true q, h9.2 q]; rfl
            · rw [decide_eq_false q]
              have : D = false := by
                cases D with
                | false => rfl
                | true => exact absurd (h9.1 rfl) q
              rw [this]; rfl
          clear hd
          have heq : decide (T3 = T4) = D := by simpa using hne
          have HEQ : Hid _ := heq
          clear heq
          clear hne
          refine wpAnyH_take (i := 13) (v := .bool false) rfl (by kernel_rfl) (by kernel_rfl) (by kernel_rfl) (fun _ _ _ h => h) (Or.inl ⟨by kernel_rfl, fun w' _ => by go_simp; exact HEQ.out⟩) h2 ?_
          refine wpAnyH_ready (rs := [14]) (by kernel_rfl) (by simp) ?_
          refine AllReadyH.cons rfl (fun K hK => ?_) AllReadyH.nil
          go_simp
          refine hK.out _ _ h2 (fun h9 => ?_)
          have FB : Hid _ := h9
          clear hK K h9
          refine wpAnyH_done (by kernel_rfl) ?_ _
          go_wp2_with fail
          go_meet
          case rel => exact ⟨rfl, FB.out⟩
        · have i2 : (E4 == 0) = false := by simpa using q2
          refine wp_region_held_drew (S := fun w' => Below w13.heap.size w13 w') (by kernel_rfl) (Below.refl _ _).drew (fun hH => ?_)
          refine wpAnyH_take (i := 0) (v := .int .i64 0) rfl (by kernel_rfl) (by kernel_rfl) (by kernel_rfl) (fun _ _ _ h => h) (Or.inl ⟨by kernel_rfl, fun w' _ => by go_simp⟩) hH ?_
          refine wpAnyH_take (i := 1) (v := .bool true) rfl (by kernel_rfl) (by kernel_rfl) (by kernel_rfl) (fun _ _ _ h => h) (Or.inl ⟨by kernel_rfl, fun w' _ => by go_simp⟩) hH ?_
          refine wpAnyH_take (i := 2) (v := .bool true) rfl (by kernel_rfl) (by kernel_rfl) (by kernel_rfl) (fun _ _ _ h => h) (Or.inl ⟨by kernel_rfl, fun w' _ => by go_simp⟩) hH ?_
          refine wpAnyH_take (i := 3) (v := .int .i64 E4) rfl (by kernel_rfl) (by kernel_rfl) (by kernel_rfl) (fun _ _ _ h => h) (Or.inl ⟨by kernel_rfl, fun w' _ => by go_simp⟩) hH ?_
          refine wpAnyH_take (i := 4) (v := .bool false) rfl (by kernel_rfl) (by kernel_rfl) (by kernel_rfl) (fun _ _ _ h => h) (Or.inl ⟨by kernel_rfl, fun w' _ => by go_simp⟩) hH ?_
          refine wpAnyH_take (i := 5) (v := .bool false) rfl (by kernel_rfl) (by kernel_rfl) (by kernel_rfl) (fun _ _ _ h => h) (Or.inl ⟨by kernel_rfl, fun w' _ => by go_simp⟩) hH ?_
          refine wpAnyH_take (i := 6) (v := .bool false) rfl (by kernel_rfl) (by kernel_rfl) (by kernel_rfl) (fun _ _ _ h => h) (Or.inl ⟨by kernel_rfl, fun w' _ => by go_simp⟩) hH ?_
          refine wpAnyH_take (i := 7) (v := undef) rfl (by kernel_rfl) (by kernel_rfl) (by kernel_rfl) (fun _ _ _ h => h) (Or.inr ⟨by kernel_rfl, rfl⟩) hH ?_
          refine wpAnyH_take (i := 8) (v := undef) rfl (by kernel_rfl) (by kernel_rfl) (by kernel_rfl) (fun _ _ _ h => h) (Or.inr ⟨by kernel_rfl, rfl⟩) hH ?_
          refine wpAnyH_take (i := 9) (v := undef) rfl (by kernel_rfl) (by kernel_rfl) (by kernel_rfl) (fun _ _ _ h => h) (Or.inr ⟨by kernel_rfl, rfl⟩) hH ?_
          refine wpAnyH_take (i := 10) (v := undef) rfl (by kernel_rfl) (by kernel_rfl) (by kernel_rfl) (fun _ _ _ h => h) (Or.inr ⟨by kernel_rfl, rfl⟩) hH ?_
          refine wpAnyH_take (i := 11) (v := undef) rfl (by kernel_rfl) (by kernel_rfl) (by kernel_rfl) (fun _ _ _ h => h) (Or.inr ⟨by kernel_rfl, rfl⟩) hH ?_
          refine wpAnyH_take (i := 12) (v := undef) rfl (by kernel_rfl) (by kernel_rfl) (by kernel_rfl) (fun _ _ _ h => h) (Or.inr ⟨by kernel_rfl, rfl⟩) hH ?_
          refine wpAnyH_take (i := 13) (v := undef) rfl (by kernel_rfl) (by kernel_rfl) (by kernel_rfl) (fun _ _ _ h => h) (Or.inr ⟨by kernel_rfl, rfl⟩) hH ?_
          refine wpAnyH_ready (rs := [14]) (by kernel_rfl) (by simp) ?_
          refine AllReadyH.cons rfl (fun K hK => ?_) AllReadyH.nil
          go_simp
          refine hK.out _ _ hH (fun h9 => ?_)
          have FB : Hid _ := h9
          clear hK K h9
          refine wpAnyH_done (by kernel_rfl) ?_ _
          go_wp2_with fail
          go_meet
          case rel => exact ⟨rfl, FB.out⟩
      · have i1 : (E3 == 0) = false := by simpa using q1
        refine wp_region_held_drew (S := fun w' => Below w13.heap.size w13 w') (by kernel_rfl) (Below.refl _ _).drew (fun hH => ?_)
        refine wpAnyH_take (i := 0) (v := .int .i64 E3) rfl (by kernel_rfl) (by kernel_rfl) (by kernel_rfl) (fun _ _ _ h => h) (Or.inl ⟨by kernel_rfl, fun w' _ => by go_simp⟩) hH ?_
        refine wpAnyH_take (i := 1) (v := .bool false) rfl (by kernel_rfl) (by kernel_rfl) (by kernel_rfl) (fun _ _ _ h => h) (Or.inl ⟨by kernel_rfl, fun w' _ => by go_simp⟩) hH ?_
        refine wpAnyH_take (i := 2) (v := .bool false) rfl (by kernel_rfl) (by kernel_rfl) (by kernel_rfl) (fun _ _ _ h => h) (Or.inl ⟨by kernel_rfl, fun w' _ => by go_simp⟩) hH ?_
        refine wpAnyH_take (i := 3) (v := undef) rfl (by kernel_rfl) (by kernel_rfl) (by kernel_rfl) (fun _ _ _ h => h) (Or.inr ⟨by kernel_rfl, rfl⟩) hH ?_
        refine wpAnyH_take (i := 4) (v := undef) rfl (by kernel_rfl) (by kernel_rfl) (by kernel_rfl) (fun _ _ _ h => h) (Or.inr ⟨by kernel_rfl, rfl⟩) hH ?_
        refine wpAnyH_take (i := 5) (v := .bool false) rfl (by kernel_rfl) (by kernel_rfl) (by kernel_rfl) (fun _ _ _ h => h) (Or.inl ⟨by kernel_rfl, fun w' _ => by go_simp⟩) hH ?_
        refine wpAnyH_take (i := 6) (v := .bool false) rfl (by kernel_rfl) (by kernel_rfl) (by kernel_rfl) (fun _ _ _ h => h) (Or.inl ⟨by kernel_rfl, fun w' _ => by go_simp⟩) hH ?_
        refine wpAnyH_take (i := 7) (v := undef) rfl (by kernel_rfl) (by kernel_rfl) (by kernel_rfl) (fun _ _ _ h => h) (Or.inr ⟨by kernel_rfl, rfl⟩) hH ?_
        refine wpAnyH_take (i := 8) (v := undef) rfl (by kernel_rfl) (by kernel_rfl) (by kernel_rfl) (fun _ _ _ h => h) (Or.inr ⟨by kernel_rfl, rfl⟩) hH ?_
        refine wpAnyH_take (i := 9) (v := undef) rfl (by kernel_rfl) (by kernel_rfl) (by kernel_rfl) (fun _ _ _ h => h) (Or.inr ⟨by kernel_rfl, rfl⟩) hH ?_
        refine wpAnyH_take (i := 10) (v := undef) rfl (by kernel_rfl) (by kernel_rfl) (by kernel_rfl) (fun _ _ _ h => h) (Or.inr ⟨by kernel_rfl, rfl⟩) hH ?_
        refine wpAnyH_take (i := 11) (v := undef) rfl (by kernel_rfl) (by kernel_rfl) (by kernel_rfl) (fun _ _ _ h => h) (Or.inr ⟨by kernel_rfl, rfl⟩) hH ?_
        refine wpAnyH_take (i := 12) (v := undef) rfl (by kernel_rfl) (by kernel_rfl) (by kernel_rfl) (fun _ _ _ h => h) (Or.inr ⟨by kernel_rfl, rfl⟩) hH ?_
        refine wpAnyH_take (i := 13) (v := undef) rfl (by kernel_rfl) (by kernel_rfl) (by kernel_rfl) (fun _ _ _ h => h) (Or.inr ⟨by kernel_rfl, rfl⟩) hH ?_
        refine wpAnyH_ready (rs := [14]) (by kernel_rfl) (by simp) ?_
        refine AllReadyH.cons rfl (fun K hK => ?_) AllReadyH.nil
        go_simp
        refine hK.out _ _ hH (fun h9 => ?_)
        have FB : Hid _ := h9
        clear hK K h9
        refine wpAnyH_done (by kernel_rfl) ?_ _
        go_wp2_with fail
        go_meet
        case rel => exact ⟨rfl, FB.out⟩
    case rest =>
      obtain ⟨rfl, hid⟩ := hcut
      have Lw14 : Hid (Below W.heap.size W wc) := Lw13.out.trans (hid.out.mono Lw13.out.size)
      clear hid Q3 Q4 TI3 TI4 O4 Y3 Y4 I3 I4 D3 D4 Lw13 Lw11 Lw9 Lw8 KO3 KO4 HN4
      go_wp2_with fail
      refine Calls.mono (cMsg_any (T := askHead) (askHead_in wc _) (by rw [askHead_bytes]; decide)) ?_
      rintro e w15 ⟨v5, rfl, m⟩
      rw [askHead_bytes] at m
      have Lw15 : Hid (Below W.heap.size W w15) := Lw14.out.trans (m.2.1.mono Lw14.out.size)
      obtain ⟨a5, c5, hf⟩ := m.1.form
      subst hf
      have O5 : Hid (Own w15 (.slice a5 ([1] : List Int).length c5) [1]) := m.1
      clear m Lw14
      go_wp2_with fail
      refine Calls.mono (msgRead_any (O5.out.in_ (bone (by decide)) (by decide))) ?_
      intro e w16 hq
      obtain ⟨C5, E5, rfl, bl, hc, ti, te⟩ := hq.ex
      have z5 : E5 = 0 := te (by decide) msgE_one.1
      subst z5
      obtain ⟨lo, hi, bo, pa, cg, LL, hC5, _⟩ := (ti rfl).2.2.ex
      have hk : C5[0]? = some (.int .i64 1) := by
        rw [hC5, msgE_one.2]
        rfl
      have K5 := hc.1
      have KO5 : Hid _ := hc.2
      have HK5 : Hid _ := hk
      have Lw16 : Hid (Below W.heap.size W w16) := Lw15.out.trans (bl.mono Lw15.out.size)
      clear hq bl hc ti te hC5 hk O5 Lw15
      go_upto_region 14 with (refine wpList_store_part rfl 95 (.tmp 21) (.tmp 85) rfl w16.heap.size 0 C5 rfl rfl (t := 95) ⟨heap_alloc_new _ _⟩ (by rw [K5]; simp) (Try.msSz2 C5 K5) KO5.out ?_; intro w17 hw8 hc8; rw [splice_all _ _ (by rw [K5]; simp)] at hw8; have c8 : Chg (fun _ => False) w16 w17 := ((Chg.refl (fun _ => False) w16).alloc _).trans hc8 (fun k e => .inr (by omega)); have Q5 : Hid _ := hw8; have CC : Hid _ := c8; clear hw8 hc8 c8)
      have kk : w17.cell? ⟨w16.heap.size, 0, none⟩ = some (.int .i64 1) := by rw [Q5.out.cell]; exact HK5.out
      have F : Hid (Below w.heap.size w w17) := HB.out.trans ((Lw16.out.trans (CC.out.below Lw16.out.size (fun _ e => e.elim))).mono HB.out.size)
      have z1 : 0 < N1 := by have := HN1.out; omega
      have z3 : 0 < N3 := by have := HN3.out; omega
      go_wp2_with fail
      go_ret
      exact ⟨rfl, F.out⟩
end Go.Proofs.Ytdofgphokdgjiaa
