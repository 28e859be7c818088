/-
  NodeTexts: the walk.
-/
import Derived.Test.YtoilnommhkmioaaDoorTxC
import Derived.Test.YtoilnommhkmioaaDoorApB
namespace Go.Proofs.YtoilnommhkmioaaDoor
open Go.RowKit

theorem ix_lt : ∀ k, k < 9 → List.getD [2, 3, 4, 5, 8, 9, 10, 11, 12] k 0 < 13 := by decide

set_option maxRecDepth 100000 in
set_option maxHeartbeats 8000000 in
theorem texts_any {w : World} (hT : Tags w) {s kv : Value} {m mk : List Int} (hs : Src w s m) (hk : Src w kv mk) (lv : Int) (cn n : Nat) (hlv : -9223372036854775808 ≤ lv ∧ lv ≤ 9223372036854775807) (h1 : cn < 18446744073709551616) (n1 : n < 18446744073709551616) (ad y x : List Int) (ha : ad.length = 33) (hy : y.length = 32) (hx : x.length = 32)
    (hl : m.length + 200 ≤ 140737488355328) (hlk : mk.length + 200 ≤ 140737488355328) :
    Calls Tryd.prog 4 #[s, .agg (kidC lv cn kv ad y).toArray, .agg (bs x).toArray, .int .u64 n] w fun e w' => e = .returned (.bool true) ∧ Below w.heap.size w w' := by
  obtain ⟨a1, c1, hf1⟩ := hs.form
  subst hf1
  obtain ⟨ka, kc, hkf⟩ := hk.form
  obtain ⟨W, hW⟩ : ∃ W, W = (w.alloc (.cells (kidC lv cn kv ad y).toArray 29)).alloc (.cells (bs x).toArray 25) := ⟨_, rfl⟩
  have bb : Below w.heap.size w W := by rw [hW]; exact ((Below.refl _ _).alloc (Nat.le_refl _) _).alloc (by simp) _
  have BW : Hid _ := bb
  have hWs : w.heap.size + 1 < W.heap.size := by rw [hW]; simp
  have HWS : Hid _ := hWs
  have n0 : Hid (NS W W w.heap.size lv cn kv ad y x [] []) := by
    refine ⟨Below.refl _ _, ⟨?_, fun p hp => by simp at hp⟩, Tx.nil _ _⟩
    rw [hW]
    refine ⟨(Blk.made _ _ _).alloc _, ?_⟩
    have := Blk.made (w.alloc (.cells (kidC lv cn kv ad y).toArray 29)) (bs x) 25
    simpa using this
  have HT : Hid (Tags W) := hT.keep bb
  have HS : Hid _ := hk.kept0 bb
  have K1 : Hid (∀ v ∈ kidC lv cn kv ad y, v.oneCell' = true) := by rw [hkf]; exact kidC_one _ _ _ _ rfl
  obtain ⟨nA, hnA⟩ : ∃ z, z = m.length := ⟨_, rfl⟩
  obtain ⟨nR, hnR⟩ : ∃ z, z = mk.length := ⟨_, rfl⟩
  have S1 : Hid (Src W (.slice a1 nA c1) m) := by rw [hnA]; exact hs.kept0 bb
  have HNA : Hid _ := hnA
  have HNR : Hid _ := hnR
  rw [← hnA] at hl ⊢
  rw [← hnR] at hlk hkf
  have HKF : Hid _ := hkf
  clear hT hs hk bb hWs hnA hnR hkf
  go_enter Tryd.func4, Tryd.ntmps4
  go_upto_region 1 with fail
  rw [← hW]
  clear hW
  go_upto_region 2 with (go_at_call 10; refine Calls.mono (roomy_any S1.out (by rw [← HNA.out]; omega)) ?_; rintro e w1 ⟨aA, cA, rfl, mA⟩; obtain ⟨gA, cA', fA, yA1, yA2⟩ := Own.form2 mA.1 (by simp); injection fA with fA1 fA2 fA3; injection fA1 with fA1; subst fA1 fA3; rw [← HNA.out] at mA ⊢; have N1 : Hid (NS W w1 w.heap.size lv cn kv ad y x [] [(.slice (some ⟨gA, 0, none⟩) (nA + 2) cA, m ++ [165, 90])]) := n0.out.snoc mA; clear mA fA2 yA1 yA2)
  go_upto_region 3 with (first
    | refine wpList_load_mid rfl 29 (.tmp 5) rfl w.heap.size 0 rfl (kidC lv cn kv ad y) _ (Blk.range (KB.k N1.out.e.b) (by simp)) Tryd.underlying29 rfl (Tryd.kidSz lv cn kv ad y ha hy) ?_
    | (refine wpList_store_part rfl 29 (.tmp 11) (.tmp 32) rfl w1.heap.size 0 (kidC lv cn kv ad y) rfl rfl (t := 29) ⟨heap_alloc_new _ _⟩ (by rw [kidC_len lv cn kv ad y ha hy]; simp) (Tryd.kidSz lv cn kv ad y ha hy) K1.out ?_; intro w2 hw2 hc2; rw [splice_all _ _ (by rw [kidC_len lv cn kv ad y ha hy]; simp)] at hw2; have b2 : Below w1.heap.size w1 w2 := (((Chg.refl (fun _ => False) w1).alloc _).trans hc2 (fun i e => .inr (by omega))).below (Nat.le_refl _) (fun _ h => h.elim); have N2 : Hid (NS W w2 w.heap.size lv cn kv ad y x [(w1.heap.size, kv)] [(.slice (some ⟨gA, 0, none⟩) (nA + 2) cA, m ++ [165, 90])]) := N1.out.kid b2 hw2; clear hw2 hc2 b2))
  obtain ⟨g2, hg2⟩ : ∃ z, z = w1.heap.size := ⟨_, rfl⟩
  have HG2 : Hid (W.heap.size ≤ g2) := by rw [hg2]; exact N1.out.bel.size
  rw [← hg2] at N2 ⊢
  clear hg2 N1
  have ck : w2.cell? ⟨w.heap.size, 1, none⟩ = some (.slice ka nR kc) := by rw [← HKF.out]; exact Blk.cell (KB.k N2.out.e.b) 1
  go_upto_region 4 with (go_at_call 10; refine Calls.mono (roomy_any (s := .slice ka nR kc) (m := mk) (by have := Src.kept0 HS.out N2.out.bel; rw [HKF.out] at this; exact this) (by rw [← HNR.out]; omega)) ?_; rintro e w3 ⟨aR, cR, rfl, mR⟩; obtain ⟨gR, cR', fR, yR1, yR2⟩ := Own.form2 mR.1 (by simp); injection fR with fR1 fR2 fR3; injection fR1 with fR1; subst fR1 fR3; rw [← HNR.out] at mR ⊢; have N3 : Hid (NS W w3 w.heap.size lv cn kv ad y x [(g2, kv)] [(.slice (some ⟨gA, 0, none⟩) (nA + 2) cA, m ++ [165, 90]), (.slice (some ⟨gR, 0, none⟩) (nR + 2) cR, mk ++ [165, 90])]) := N2.out.snoc mR; clear mR fR2 yR1 yR2)
  clear ck
  have ck : w3.cell? ⟨g2, 1, none⟩ = some kv := Blk.cell (KE.n N3.out.e (g2, kv) (by simp)) 1
  have fk : w3.frozen? ⟨g2, 1, none⟩ = false := Blk.fr (KE.n N3.out.e (g2, kv) (by simp)) 1
  obtain ⟨w4, hw4⟩ : ∃ w4, w4 = w3.setCell ⟨g2, 1, none⟩ (.slice (some ⟨gR, 0, none⟩) nR cR) := ⟨_, rfl⟩
  have N4 : Hid (NS W w4 w.heap.size lv cn kv ad y x [(g2, .slice (some ⟨gR, 0, none⟩) nR cR)] [(.slice (some ⟨gA, 0, none⟩) (nA + 2) cA, m ++ [165, 90]), (.slice (some ⟨gR, 0, none⟩) (nR + 2) cR, mk ++ [165, 90])]) := by rw [hw4]; exact NS.name (ks := []) N3.out HG2.out (fun p hp => by simp at hp) HWS.out
  rw [HKF.out] at ck
  go_upto_region 5 with fail
  rw [← hw4]
  clear hw4 ck fk N2 N3
  refine wp_region_held_drew (S := fun w' => KE w' w.heap.size lv cn kv ad y x [(g2, .slice (some ⟨gR, 0, none⟩) nR cR)]) (by kernel_rfl) (KE.drew N4.out.e) (fun hH => ?_)
  refine wpAnyH_take (i := 0) (v := .slice (some ⟨gA, 0, none⟩) nA cA) rfl (by kernel_rfl) (by kernel_rfl) (by kernel_rfl) (fun _ _ _ h => h) (Or.inl ⟨by rfl, fun w' _ => by go_simp⟩) hH ?_
  refine wpAnyH_take (i := 1) (v := .agg (bs x).toArray) rfl (by kernel_rfl) (by kernel_rfl) (by kernel_rfl) (fun _ _ _ h => h) (yieldsIf_load_mid (by rfl) _ _ rfl (w.heap.size + 1) 0 rfl _ _ (fun w' h => Blk.range h.b.s (by simp)) Tryd.underlying25 rfl (Tryd.sumSz x hx)) hH ?_
  refine wpAnyH_take (i := 3) (v := .agg (kidC lv cn (.slice (some ⟨gR, 0, none⟩) nR cR) ad y).toArray) rfl (by kernel_rfl) (by kernel_rfl) (by kernel_rfl) (fun _ _ _ h => h) (yieldsIf_load_mid (by rfl) _ _ rfl g2 0 rfl _ _ (fun w' h => Blk.range (KE.n h (g2, .slice (some ⟨gR, 0, none⟩) nR cR) (by simp)) (by simp)) Tryd.underlying29 rfl (Tryd.kidSz lv cn (.slice (some ⟨gR, 0, none⟩) nR cR) ad y ha hy)) hH ?_
  refine wpAnyH_take (i := 4) (v := .agg (bs x).toArray) rfl (by kernel_rfl) (by kernel_rfl) (by kernel_rfl) (fun _ _ _ h => h) (yieldsIf_load_mid (by rfl) _ _ rfl (w.heap.size + 1) 0 rfl _ _ (fun w' h => Blk.range h.b.s (by simp)) Tryd.underlying25 rfl (Tryd.sumSz x hx)) hH ?_
  refine wpAnyH_ready (rs := [2]) (by kernel_rfl) (by simp) ?_
  refine AllReadyH.cons rfl (fun K hK => ?_) AllReadyH.nil
  go_simp
  refine Calls.mono (leafText_any (w := w4.drew) (show Tags w4 from Tags.keep HT.out N4.out.bel) (m := m) (Src.drew1 (front2 HNA.out (N4.out.own (v := .slice (some ⟨gA, 0, none⟩) (nA + 2) cA) (by simp)))) x hx (by rw [← HNA.out]; omega)) ?_
  rintro e w5 ⟨va, rfl, ma⟩
  have N5 : Hid (NS W w5 w.heap.size lv cn kv ad y x [(g2, .slice (some ⟨gR, 0, none⟩) nR cR)] [(.slice (some ⟨gA, 0, none⟩) (nA + 2) cA, m ++ [165, 90]), (.slice (some ⟨gR, 0, none⟩) (nR + 2) cR, mk ++ [165, 90]), (va, leafT m x)]) := (NS.drew N4.out).snoc ma
  refine hK.out _ _ N5.out.e (fun hH => ?_)
  clear hK K ma N4
  refine wpAnyH_ready (rs := [5]) (by kernel_rfl) (by simp) ?_
  refine AllReadyH.cons rfl (fun K hK => ?_) AllReadyH.nil
  go_simp
  refine Calls.mono (pairText_any (Tags.keep HT.out N5.out.bel) (m := mk) (front2 HNR.out (N5.out.own (v := .slice (some ⟨gR, 0, none⟩) (nR + 2) cR) (by simp))) lv cn hlv (by omega) (by omega) ad y x ha hy hx (by rw [← HNR.out]; omega)) ?_
  rintro e w6 ⟨vb, rfl, mb⟩
  have N6 : Hid (NS W w6 w.heap.size lv cn kv ad y x [(g2, .slice (some ⟨gR, 0, none⟩) nR cR)] [(.slice (some ⟨gA, 0, none⟩) (nA + 2) cA, m ++ [165, 90]), (.slice (some ⟨gR, 0, none⟩) (nR + 2) cR, mk ++ [165, 90]), (va, leafT m x), (vb, pairT lv cn mk x y)]) := N5.out.snoc mb
  refine hK.out _ _ N6.out.e (fun hH => ?_)
  clear hK K mb N5
  refine wpAnyH_take (i := 6) (v := va) rfl (by kernel_rfl) (by kernel_rfl) (by kernel_rfl) (fun _ _ _ h => h) (Or.inl ⟨by rfl, fun w' _ => by go_simp⟩) hH ?_
  refine wpAnyH_take (i := 7) (v := vb) rfl (by kernel_rfl) (by kernel_rfl) (by kernel_rfl) (fun _ _ _ h => h) (Or.inl ⟨by rfl, fun w' _ => by go_simp⟩) hH ?_
  refine wpAnyH_done (by kernel_rfl) ?_ _
  clear hH
  go_upto_region 6 with fail
  refine wp_region_held_drew (S := fun w' => KE w' w.heap.size lv cn kv ad y x [(g2, .slice (some ⟨gR, 0, none⟩) nR cR)]) (by kernel_rfl) (KE.drew N6.out.e) (fun hH => ?_)
  refine wpAnyH_take (i := 1) (v := .int .u64 n) rfl (by kernel_rfl) (by kernel_rfl) (by kernel_rfl) (fun _ _ _ h => h) (Or.inl ⟨by rfl, fun w' _ => by go_simp⟩) hH ?_
  refine wpAnyH_take (i := 2) (v := .agg (bs x).toArray) rfl (by kernel_rfl) (by kernel_rfl) (by kernel_rfl) (fun _ _ _ h => h) (yieldsIf_load_mid (by rfl) _ _ rfl (w.heap.size + 1) 0 rfl _ _ (fun w' h => Blk.range h.b.s (by simp)) Tryd.underlying25 rfl (Tryd.sumSz x hx)) hH ?_
  refine wpAnyH_ready (rs := [0]) (by kernel_rfl) (by simp) ?_
  refine AllReadyH.cons rfl (fun K hK => ?_) AllReadyH.nil
  go_simp
  refine Calls.mono (headText_any (w := w6.drew) (show Tags w6 from Tags.keep HT.out N6.out.bel)) ?_
  rintro e w7 ⟨vc, rfl, mc⟩
  have N7 : Hid (NS W w7 w.heap.size lv cn kv ad y x [(g2, .slice (some ⟨gR, 0, none⟩) nR cR)] [(.slice (some ⟨gA, 0, none⟩) (nA + 2) cA, m ++ [165, 90]), (.slice (some ⟨gR, 0, none⟩) (nR + 2) cR, mk ++ [165, 90]), (va, leafT m x), (vb, pairT lv cn mk x y), (vc, headT)]) := (NS.drew N6.out).snoc mc
  refine hK.out _ _ N7.out.e (fun hH => ?_)
  clear hK K mc N6
  refine wpAnyH_ready (rs := [3]) (by kernel_rfl) (by simp) ?_
  refine AllReadyH.cons rfl (fun K hK => ?_) AllReadyH.nil
  go_simp
  refine Calls.mono (rootText_any (Tags.keep HT.out N7.out.bel) n (by omega) (by omega) x hx) ?_
  rintro e w8 ⟨vd, rfl, md⟩
  have N8 : Hid (NS W w8 w.heap.size lv cn kv ad y x [(g2, .slice (some ⟨gR, 0, none⟩) nR cR)] [(.slice (some ⟨gA, 0, none⟩) (nA + 2) cA, m ++ [165, 90]), (.slice (some ⟨gR, 0, none⟩) (nR + 2) cR, mk ++ [165, 90]), (va, leafT m x), (vb, pairT lv cn mk x y), (vc, headT), (vd, rootT n x)]) := N7.out.snoc md
  refine hK.out _ _ N8.out.e (fun hH => ?_)
  clear hK K md N7
  refine wpAnyH_take (i := 4) (v := vc) rfl (by kernel_rfl) (by kernel_rfl) (by kernel_rfl) (fun _ _ _ h => h) (Or.inl ⟨by rfl, fun w' _ => by go_simp⟩) hH ?_
  refine wpAnyH_take (i := 5) (v := vd) rfl (by kernel_rfl) (by kernel_rfl) (by kernel_rfl) (fun _ _ _ h => h) (Or.inl ⟨by rfl, fun w' _ => by go_simp⟩) hH ?_
  refine wpAnyH_done (by kernel_rfl) ?_ _
  clear hH
  have ck : ∀ q, (w8.drewN q).cell? ⟨w.heap.size, 1, none⟩ = some (.slice ka nR kc) := fun q => by rw [← HKF.out]; exact Blk.cell (KB.k (KE.b N8.out.e)) 1
  go_wp2_with fail
  refine Calls.mono (untouched2 (w := w8) HNA.out (Src.kept0 S1.out N8.out.bel) (N8.out.own (v := .slice (some ⟨gA, 0, none⟩) (nA + 2) cA) (by simp)) (by omega)) ?_
  rintro e w9 ⟨rfl, q9, rfl⟩
  go_wp2_with fail
  refine Calls.mono (untouched2 (w := w8.drewN q9) (s := .slice ka nR kc) HNR.out (by have := Src.kept0 HS.out N8.out.bel; rw [HKF.out] at this; exact this) (N8.out.own (v := .slice (some ⟨gR, 0, none⟩) (nR + 2) cR) (by simp)) (by omega)) ?_
  rintro e w10 ⟨rfl, q10, rfl⟩
  go_upto_region 9 with fail
  obtain ⟨w11, hw11⟩ : ∃ v, v = w8.drewN (q9 + q10) := ⟨_, rfl⟩
  have N11 : Hid (NS W w11 w.heap.size lv cn kv ad y x [(g2, .slice (some ⟨gR, 0, none⟩) nR cR)] [(.slice (some ⟨gA, 0, none⟩) (nA + 2) cA, m ++ [165, 90]), (.slice (some ⟨gR, 0, none⟩) (nR + 2) cR, mk ++ [165, 90]), (va, leafT m x), (vb, pairT lv cn mk x y), (vc, headT), (vd, rootT n x)]) := by rw [hw11]; exact N8.out.drewN _
  rw [← hw11]
  clear hw11 N8 ck
  go_wp2_with fail
  refine Calls.mono (copy_any (Src.kept0 S1.out N11.out.bel) (by rw [← HNA.out]; omega)) ?_
  rintro e w12 ⟨vt, rfl, mt⟩
  have N12 : Hid (NS W w12 w.heap.size lv cn kv ad y x [(g2, .slice (some ⟨gR, 0, none⟩) nR cR)] [(.slice (some ⟨gA, 0, none⟩) (nA + 2) cA, m ++ [165, 90]), (.slice (some ⟨gR, 0, none⟩) (nR + 2) cR, mk ++ [165, 90]), (va, leafT m x), (vb, pairT lv cn mk x y), (vc, headT), (vd, rootT n x), (vt, m)]) := N11.out.snoc mt
  obtain ⟨ta, tc, hvt⟩ := Own.form mt.1
  rw [← HNA.out] at hvt
  subst hvt
  clear mt N11
  go_wp2_with fail
  go_loopw [66] (fun s wq => ∃ (i : Nat) (m' : List Int), i ≤ nA ∧ s = .int .i64 i ∧ Hid (m'.length = nA ∧ NS W wq w.heap.size lv cn kv ad y x [(g2, .slice (some ⟨gR, 0, none⟩) nR cR)] [(.slice (some ⟨gA, 0, none⟩) (nA + 2) cA, m' ++ [165, 90]), (.slice (some ⟨gR, 0, none⟩) (nR + 2) cR, mk ++ [165, 90]), (va, leafT m x), (vb, pairT lv cn mk x y), (vc, headT), (vd, rootT n x), (.slice ta nA tc, m')])) (fun s _ => nA - (intOf s).toNat)
  case atStart => exact ⟨0, m, Nat.zero_le _, rfl, HNA.out.symm, N12.out⟩
  case round =>
    obtain ⟨i, m', hi, rfl, hid⟩ := hrel
    obtain ⟨hm', ns⟩ := hid.out
    clear hid
    by_cases hlt : i < nA
    · obtain ⟨gT, rfl⟩ : ∃ g, ta = some ⟨g, 0, none⟩ := by
        rcases owns_form (ns.own (v := .slice ta nA tc) (l := m') (by simp)) with ⟨e, h0⟩ | ⟨g, c, e⟩
        · omega
        · injection e with e1 _ _
          exact ⟨g, e1⟩
      obtain ⟨bv, hbv⟩ : ∃ b, b = m'[i]'(by omega) := ⟨_, rfl⟩
      have oA := ns.own (v := .slice (some ⟨gA, 0, none⟩) (nA + 2) cA) (l := m' ++ [165, 90]) (by simp)
      have cA1 : wr.cell? ⟨gA, i, none⟩ = some (.int .u8 bv) := by
        have := oA.byte i (by simp; omega)
        rw [List.getElem_append_left (by omega), ← hbv] at this
        exact this
      have fA1 := oA.frz i
      have st1 : ∀ z, NS W (wr.setCell ⟨gA, i, none⟩ (.int .u8 z)) w.heap.size lv cn kv ad y x [(g2, .slice (some ⟨gR, 0, none⟩) nR cR)] [(.slice (some ⟨gA, 0, none⟩) (nA + 2) cA, m'.set i z ++ [165, 90]), (.slice (some ⟨gR, 0, none⟩) (nR + 2) cR, mk ++ [165, 90]), (va, leafT m x), (vb, pairT lv cn mk x y), (vc, headT), (vd, rootT n x), (.slice (some ⟨gT, 0, none⟩) nA tc, m')] := fun z => by
        have := NS.set (xs := []) ns i z
        rw [List.set_append_left _ _ (by omega)] at this
        exact this
      have cT1 : ∀ z, (wr.setCell ⟨gA, i, none⟩ (.int .u8 z)).cell? ⟨gT, i, none⟩ = some (.int .u8 bv) := fun z => by
        have := ((st1 z).own (v := .slice (some ⟨gT, 0, none⟩) nA tc) (l := m') (by simp)).byte i (by omega)
        rw [← hbv] at this
        exact this
      have fT1 : ∀ z, (wr.setCell ⟨gA, i, none⟩ (.int .u8 z)).frozen? ⟨gT, i, none⟩ = false := fun z => ((st1 z).own (v := .slice (some ⟨gT, 0, none⟩) nA tc) (l := m') (by simp)).frz i
      have R9 : Hid (∀ z, (m'.set i z).length = nA ∧ NS W ((wr.setCell ⟨gA, i, none⟩ (.int .u8 z)).setCell ⟨gT, i, none⟩ (.int .u8 z)) w.heap.size lv cn kv ad y x [(g2, .slice (some ⟨gR, 0, none⟩) nR cR)] [(.slice (some ⟨gA, 0, none⟩) (nA + 2) cA, m'.set i z ++ [165, 90]), (.slice (some ⟨gR, 0, none⟩) (nR + 2) cR, mk ++ [165, 90]), (va, leafT m x), (vb, pairT lv cn mk x y), (vc, headT), (vd, rootT n x), (.slice (some ⟨gT, 0, none⟩) nA tc, m'.set i z)]) := fun z =>
        ⟨by rw [List.length_set]; exact hm', NS.set (xs := [(.slice (some ⟨gA, 0, none⟩) (nA + 2) cA, m'.set i z ++ [165, 90]), (.slice (some ⟨gR, 0, none⟩) (nR + 2) cR, mk ++ [165, 90]), (va, leafT m x), (vb, pairT lv cn mk x y), (vc, headT), (vd, rootT n x)]) (ys := []) (st1 z) i z⟩
      clear hm' ns hbv oA st1
      go_wp2_with fail
      go_roundw
      case rel => exact ⟨i + 1, _, by omega, by go_num, R9.out _⟩
      case measure => simp [intOf]; omega
    · have hin : nA = i := by omega
      subst hin
      obtain ⟨wC, hwC⟩ : ∃ v, v = wr := ⟨_, rfl⟩
      subst hwC
      have NB : Hid _ := ns
      have HMB : Hid _ := hm'
      have HG23 : Hid (g2 < wC.heap.size) := Blk.lt (ns.e.n (g2, .slice (some ⟨gR, 0, none⟩) nR cR) (by simp))
      clear hm' ns hlt hi N12
      go_upto_region 17 with (first
        | refine wpList_load_mid rfl 29 (.tmp 5) rfl w.heap.size 0 rfl (kidC lv cn kv ad y) _ (Blk.range (KB.k (KE.b (NS.e NB.out))) (by simp)) Tryd.underlying29 rfl (Tryd.kidSz lv cn kv ad y ha hy) ?_
        | (refine wpList_store_part rfl 29 (.tmp 20) (.tmp 86) rfl wC.heap.size 0 (kidC lv cn kv ad y) rfl rfl (t := 29) ⟨heap_alloc_new _ _⟩ (by rw [kidC_len lv cn kv ad y ha hy]; simp) (Tryd.kidSz lv cn kv ad y ha hy) K1.out ?_; intro w13 hw2 hc2; rw [splice_all _ _ (by rw [kidC_len lv cn kv ad y ha hy]; simp)] at hw2; have b2 : Below wC.heap.size wC w13 := (((Chg.refl (fun _ => False) wC).alloc _).trans hc2 (fun i e => .inr (by omega))).below (Nat.le_refl _) (fun _ h => h.elim); have N13 : Hid (NS W w13 w.heap.size lv cn kv ad y x [(g2, .slice (some ⟨gR, 0, none⟩) nR cR), (wC.heap.size, kv)] [(.slice (some ⟨gA, 0, none⟩) (nA + 2) cA, m' ++ [165, 90]), (.slice (some ⟨gR, 0, none⟩) (nR + 2) cR, mk ++ [165, 90]), (va, leafT m x), (vb, pairT lv cn mk x y), (vc, headT), (vd, rootT n x), (.slice ta nA tc, m')]) := NS.kid NB.out b2 hw2; clear hw2 hc2 b2))
      obtain ⟨g3, hg3⟩ : ∃ z, z = wC.heap.size := ⟨_, rfl⟩
      have HG3 : Hid (W.heap.size ≤ g3 ∧ g2 < g3) := ⟨by rw [hg3]; exact (NS.bel NB.out).size, by rw [hg3]; exact HG23.out⟩
      rw [← hg3] at N13 ⊢
      clear hg3 NB HG23
      have ck : w13.cell? ⟨w.heap.size, 1, none⟩ = some (.slice ka nR kc) := by rw [← HKF.out]; exact Blk.cell (KB.k N13.out.e.b) 1
      go_wp2_with fail
      refine Calls.mono (copy_any (s := .slice ka nR kc) (m := mk) (by have := Src.kept0 HS.out N13.out.bel; rw [HKF.out] at this; exact this) (by rw [← HNR.out]; omega)) ?_
      rintro e w14 ⟨vo, rfl, mo⟩
      have N14 : Hid (NS W w14 w.heap.size lv cn kv ad y x [(g2, .slice (some ⟨gR, 0, none⟩) nR cR), (g3, kv)] [(.slice (some ⟨gA, 0, none⟩) (nA + 2) cA, m' ++ [165, 90]), (.slice (some ⟨gR, 0, none⟩) (nR + 2) cR, mk ++ [165, 90]), (va, leafT m x), (vb, pairT lv cn mk x y), (vc, headT), (vd, rootT n x), (.slice ta nA tc, m'), (vo, mk)]) := N13.out.snoc mo
      obtain ⟨oa, oc, hvo⟩ := Own.form mo.1
      rw [← HNR.out] at hvo
      subst hvo
      clear mo N13 ck
      have ck : w14.cell? ⟨g3, 1, none⟩ = some (.slice ka nR kc) := by rw [← HKF.out]; exact Blk.cell (KE.n N14.out.e (g3, kv) (by simp)) 1
      have fk : w14.frozen? ⟨g3, 1, none⟩ = false := Blk.fr (KE.n N14.out.e (g3, kv) (by simp)) 1
      obtain ⟨w15, hw15⟩ : ∃ v, v = w14.setCell ⟨g3, 1, none⟩ (.slice oa nR oc) := ⟨_, rfl⟩
      have N15 : Hid (NS W w15 w.heap.size lv cn kv ad y x [(g2, .slice (some ⟨gR, 0, none⟩) nR cR), (g3, .slice oa nR oc)] [(.slice (some ⟨gA, 0, none⟩) (nA + 2) cA, m' ++ [165, 90]), (.slice (some ⟨gR, 0, none⟩) (nR + 2) cR, mk ++ [165, 90]), (va, leafT m x), (vb, pairT lv cn mk x y), (vc, headT), (vd, rootT n x), (.slice ta nA tc, m'), (.slice oa nR oc, mk)]) := by rw [hw15]; exact NS.name (ks := [(g2, .slice (some ⟨gR, 0, none⟩) nR cR)]) N14.out HG3.out.1 (fun p hp => by simp at hp; subst hp; have := HG3.out.2; simp; omega) HWS.out
      go_upto_region 18 with fail
      rw [← hw15]
      clear hw15 ck fk N14
      go_wp2_with fail
      go_loopw [93] (fun s wq => ∃ (i : Nat) (k' : List Int), i ≤ nR ∧ s = .int .i64 i ∧ Hid (k'.length = nR ∧ NS W wq w.heap.size lv cn kv ad y x [(g2, .slice (some ⟨gR, 0, none⟩) nR cR), (g3, .slice oa nR oc)] [(.slice (some ⟨gA, 0, none⟩) (nA + 2) cA, m' ++ [165, 90]), (.slice (some ⟨gR, 0, none⟩) (nR + 2) cR, k' ++ [165, 90]), (va, leafT m x), (vb, pairT lv cn mk x y), (vc, headT), (vd, rootT n x), (.slice ta nA tc, m'), (.slice oa nR oc, k')])) (fun s _ => nR - (intOf s).toNat)
      case atStart => exact ⟨0, mk, Nat.zero_le _, rfl, HNR.out.symm, N15.out⟩
      case round =>
        obtain ⟨i, k', hi, rfl, hid⟩ := hrel
        obtain ⟨hk', ns⟩ := hid.out
        clear hid
        by_cases hlt : i < nR
        · obtain ⟨gO, rfl⟩ : ∃ g, oa = some ⟨g, 0, none⟩ := by
            rcases owns_form (ns.own (v := .slice oa nR oc) (l := k') (by simp)) with ⟨e, h0⟩ | ⟨g, c, e⟩
            · omega
            · injection e with e1 _ _
              exact ⟨g, e1⟩
          obtain ⟨bv, hbv⟩ : ∃ b, b = k'[i]'(by omega) := ⟨_, rfl⟩
          have oR := ns.own (v := .slice (some ⟨gR, 0, none⟩) (nR + 2) cR) (l := k' ++ [165, 90]) (by simp)
          have cR1 : wr.cell? ⟨gR, i, none⟩ = some (.int .u8 bv) := by
            have := oR.byte i (by simp; omega)
            rw [List.getElem_append_left (by omega), ← hbv] at this
            exact this
          have fR1 := oR.frz i
          have ST1 : Hid (∀ z, NS W (wr.setCell ⟨gR, i, none⟩ (.int .u8 z)) w.heap.size lv cn kv ad y x [(g2, .slice (some ⟨gR, 0, none⟩) nR cR), (g3, .slice (some ⟨gO, 0, none⟩) nR oc)] [(.slice (some ⟨gA, 0, none⟩) (nA + 2) cA, m' ++ [165, 90]), (.slice (some ⟨gR, 0, none⟩) (nR + 2) cR, k'.set i z ++ [165, 90]), (va, leafT m x), (vb, pairT lv cn mk x y), (vc, headT), (vd, rootT n x), (.slice ta nA tc, m'), (.slice (some ⟨gO, 0, none⟩) nR oc, k')]) := fun z => by
            have := NS.set (xs := [(.slice (some ⟨gA, 0, none⟩) (nA + 2) cA, m' ++ [165, 90])]) ns i z
            rw [List.set_append_left _ _ (by omega)] at this
            exact this
          have HBV : Hid (k'[i]? = some bv) := by rw [hbv]; exact List.getElem?_eq_getElem _
          have HK' : Hid _ := hk'
          clear hk' ns hbv oR
          go_upto_region 22 with fail
          obtain ⟨z, hz⟩ : ∃ z, z = bits BinOp.xor IntKind.u8 (if IntKind.u8.signed = true then -1 else IntKind.u8.max) bv := ⟨_, rfl⟩
          rw [← hz]
          have HZ : Hid _ := hz
          clear hz
          obtain ⟨wS, hwS⟩ : ∃ v, v = wr.setCell ⟨gR, i, none⟩ (.int .u8 z) := ⟨_, rfl⟩
          have NSS : Hid (NS W wS w.heap.size lv cn kv ad y x [(g2, .slice (some ⟨gR, 0, none⟩) nR cR), (g3, .slice (some ⟨gO, 0, none⟩) nR oc)] [(.slice (some ⟨gA, 0, none⟩) (nA + 2) cA, m' ++ [165, 90]), (.slice (some ⟨gR, 0, none⟩) (nR + 2) cR, k'.set i z ++ [165, 90]), (va, leafT m x), (vb, pairT lv cn mk x y), (vc, headT), (vd, rootT n x), (.slice ta nA tc, m'), (.slice (some ⟨gO, 0, none⟩) nR oc, k')]) := by rw [hwS]; exact ST1.out z
          rw [← hwS]
          clear hwS ST1 cR1 fR1
          have cO1 : wS.drew.cell? ⟨gO, i, none⟩ = some (.int .u8 bv) := by
            have hb := HBV.out
            have hlt3 : i < k'.length := by rw [HK'.out]; exact hlt
            rw [List.getElem?_eq_getElem hlt3] at hb
            injection hb with hb
            have := (NS.own NSS.out (v := .slice (some ⟨gO, 0, none⟩) nR oc) (l := k') (by simp)).byte i hlt3
            rw [hb] at this
            exact this
          have fO1 : wS.drew.frozen? ⟨gO, i, none⟩ = false := (NS.own NSS.out (v := .slice (some ⟨gO, 0, none⟩) nR oc) (l := k') (by simp)).frz i
          have R9 : Hid ((k'.set i z).length = nR ∧ NS W (wS.setCell ⟨gO, i, none⟩ (.int .u8 z)).drew w.heap.size lv cn kv ad y x [(g2, .slice (some ⟨gR, 0, none⟩) nR cR), (g3, .slice (some ⟨gO, 0, none⟩) nR oc)] [(.slice (some ⟨gA, 0, none⟩) (nA + 2) cA, m' ++ [165, 90]), (.slice (some ⟨gR, 0, none⟩) (nR + 2) cR, k'.set i z ++ [165, 90]), (va, leafT m x), (vb, pairT lv cn mk x y), (vc, headT), (vd, rootT n x), (.slice ta nA tc, m'), (.slice (some ⟨gO, 0, none⟩) nR oc, k'.set i z)]) :=
            ⟨by rw [List.length_set]; exact HK'.out, NS.set (xs := [(.slice (some ⟨gA, 0, none⟩) (nA + 2) cA, m' ++ [165, 90]), (.slice (some ⟨gR, 0, none⟩) (nR + 2) cR, k'.set i z ++ [165, 90]), (va, leafT m x), (vb, pairT lv cn mk x y), (vc, headT), (vd, rootT n x), (.slice ta nA tc, m')]) (ys := []) NSS.out i z |>.drew⟩
          have CG : Hid (wS.drew.cell? ⟨g3, 1, none⟩ = some (.slice (some ⟨gO, 0, none⟩) nR oc)) := Blk.cell (KE.n (NS.e NSS.out) (g3, .slice (some ⟨gO, 0, none⟩) nR oc) (by simp)) 1
          have CG2 : Hid ((wS.setCell ⟨gO, i, none⟩ (.int .u8 z)).drew.cell? ⟨g3, 1, none⟩ = some (.slice (some ⟨gO, 0, none⟩) nR oc)) := Blk.cell (KE.n (NS.e R9.out.2) (g3, .slice (some ⟨gO, 0, none⟩) nR oc) (by simp)) 1
          refine wp_region_held_drew (S := fun w' => w'.cell? ⟨g3, 1, none⟩ = some (.slice (some ⟨gO, 0, none⟩) nR oc)) (by kernel_rfl) CG.out (fun hH => ?_)
          refine wpAnyH_take (i := 0) (v := .pointer (some ⟨g3, 1, none⟩)) rfl (by kernel_rfl) (by kernel_rfl) (by kernel_rfl) (fun _ _ _ h => h) (Or.inl ⟨by rfl, fun w' _ => by go_simp⟩) hH ?_
          refine wpAnyH_take (i := 1) (v := .slice (some ⟨gO, 0, none⟩) nR oc) rfl (by kernel_rfl) (by kernel_rfl) (by kernel_rfl) (fun _ _ _ h => h) (Or.inl ⟨by rfl, fun w' hw' => by go_simp⟩) hH ?_
          refine wpAnyH_take (i := 2) (v := .int .i64 i) rfl (by kernel_rfl) (by kernel_rfl) (by kernel_rfl) (fun _ _ _ h => h) (Or.inl ⟨by rfl, fun w' _ => by go_simp⟩) hH ?_
          refine wpAnyH_take (i := 3) (v := .pointer (some ⟨g3, 1, none⟩)) rfl (by kernel_rfl) (by kernel_rfl) (by kernel_rfl) (fun _ _ _ h => h) (Or.inl ⟨by rfl, fun w' _ => by go_simp⟩) hH ?_
          refine wpAnyH_take (i := 4) (v := .slice (some ⟨gO, 0, none⟩) nR oc) rfl (by kernel_rfl) (by kernel_rfl) (by kernel_rfl) (fun _ _ _ h => h) (Or.inl ⟨by rfl, fun w' hw' => by go_simp⟩) hH ?_
          refine wpAnyH_take (i := 5) (v := .int .i64 i) rfl (by kernel_rfl) (by kernel_rfl) (by kernel_rfl) (fun _ _ _ h => h) (Or.inl ⟨by rfl, fun w' _ => by go_simp⟩) hH ?_
          refine wpAnyH_take (i := 6) (v := .pointer (some ⟨gO, i, none⟩)) rfl (by kernel_rfl) (by kernel_rfl) (by kernel_rfl) (fun _ _ _ h => h) (Or.inl ⟨by rfl, fun w' _ => by go_simp⟩) hH ?_
          refine wpAnyH_ready (rs := [7]) (by kernel_rfl) (by simp) ?_
          refine AllReadyH.cons rfl (fun K hK => ?_) AllReadyH.nil
          go_simp
          refine hK.out _ _ CG.out (fun hH => ?_)
          clear hK K
          refine wpAnyH_take (i := 8) (v := .int .u8 z) rfl (by kernel_rfl) (by kernel_rfl) (by kernel_rfl) (fun _ _ _ h => h) (Or.inl ⟨by rfl, fun w' _ => by rw [HZ.out]; go_simp⟩) hH ?_
          refine wpAnyH_take (i := 9) (v := .pointer (some ⟨gO, i, none⟩)) rfl (by kernel_rfl) (by kernel_rfl) (by kernel_rfl) (fun _ _ _ h => h) (Or.inl ⟨by rfl, fun w' _ => by go_simp⟩) hH ?_
          refine wpAnyH_ready (rs := [10]) (by kernel_rfl) (by simp) ?_
          refine AllReadyH.cons rfl (fun K hK => ?_) AllReadyH.nil
          go_simp
          refine hK.out _ _ CG2.out (fun hH => ?_)
          clear hK K
          refine wpAnyH_done (by kernel_rfl) ?_ _
          clear hH cO1 fO1
          go_wp2_with fail
          go_roundw
          case rel => exact ⟨i + 1, _, by omega, by go_num, R9.out⟩
          case measure => simp [intOf]; omega
        · have hin : nR = i := by omega
          subst hin
          obtain ⟨wD, hwD⟩ : ∃ v, v = wr := ⟨_, rfl⟩
          subst hwD
          have D0 : Hid (NS W wD w.heap.size lv cn kv ad y x [(g2, .slice (some ⟨gR, 0, none⟩) nR cR), (g3, .slice oa nR oc)] [(.slice (some ⟨gA, 0, none⟩) (nA + 2) cA, m' ++ [165, 90]), (.slice (some ⟨gR, 0, none⟩) (nR + 2) cR, k' ++ [165, 90]), (va, leafT m x), (vb, pairT lv cn mk x y), (vc, headT), (vd, rootT n x), (.slice ta nA tc, m'), (.slice oa nR oc, k')]) := ns
          have HKB : Hid _ := hk'
          clear hk' ns hlt hi N15 HG3
          obtain ⟨nn, hnn⟩ : ∃ z, z = (n + 1) % 18446744073709551616 := ⟨_, rfl⟩
          have hadd : IntKind.u64.wrap ((n : Int) + 1) = (nn : Int) := by rw [wrap64, hnn]; omega
          have nn1 : nn < 18446744073709551616 := by omega
          clear hnn
          go_upto_region 24 with fail
          refine wp_region_held_drew (S := fun w' => KE w' w.heap.size lv cn kv ad y x [(g2, .slice (some ⟨gR, 0, none⟩) nR cR), (g3, .slice oa nR oc)]) (by kernel_rfl) (KE.drew (NS.e D0.out)) (fun hH => ?_)
          refine wpAnyH_take (i := 0) (v := .slice (some ⟨gA, 0, none⟩) nA cA) rfl (by kernel_rfl) (by kernel_rfl) (by kernel_rfl) (fun _ _ _ h => h) (Or.inl ⟨by rfl, fun w' _ => by go_simp⟩) hH ?_
          refine wpAnyH_take (i := 1) (v := .agg (bs x).toArray) rfl (by kernel_rfl) (by kernel_rfl) (by kernel_rfl) (fun _ _ _ h => h) (yieldsIf_load_mid (by rfl) _ _ rfl (w.heap.size + 1) 0 rfl _ _ (fun w' h => Blk.range h.b.s (by simp)) Tryd.underlying25 rfl (Tryd.sumSz x hx)) hH ?_
          refine wpAnyH_take (i := 3) (v := .agg (kidC lv cn (.slice (some ⟨gR, 0, none⟩) nR cR) ad y).toArray) rfl (by kernel_rfl) (by kernel_rfl) (by kernel_rfl) (fun _ _ _ h => h) (yieldsIf_load_mid (by rfl) _ _ rfl g2 0 rfl _ _ (fun w' h => Blk.range (KE.n h (g2, .slice (some ⟨gR, 0, none⟩) nR cR) (by simp)) (by simp)) Tryd.underlying29 rfl (Tryd.kidSz lv cn (.slice (some ⟨gR, 0, none⟩) nR cR) ad y ha hy)) hH ?_
          refine wpAnyH_take (i := 4) (v := .agg (bs x).toArray) rfl (by kernel_rfl) (by kernel_rfl) (by kernel_rfl) (fun _ _ _ h => h) (yieldsIf_load_mid (by rfl) _ _ rfl (w.heap.size + 1) 0 rfl _ _ (fun w' h => Blk.range h.b.s (by simp)) Tryd.underlying25 rfl (Tryd.sumSz x hx)) hH ?_
          refine wpAnyH_ready (rs := [2]) (by kernel_rfl) (by simp) ?_
          refine AllReadyH.cons rfl (fun K hK => ?_) AllReadyH.nil
          go_simp
          refine Calls.mono (leafText_any (w := wD.drew) (show Tags wD from Tags.keep HT.out (NS.bel D0.out)) (m := m') (Src.drew1 (front2 (Eq.symm HMB.out) (NS.own D0.out (v := .slice (some ⟨gA, 0, none⟩) (nA + 2) cA) (by simp)))) x hx (by rw [HMB.out]; omega)) ?_
          rintro e w20 ⟨ve, rfl, me⟩
          have D1 : Hid (NS W w20 w.heap.size lv cn kv ad y x [(g2, .slice (some ⟨gR, 0, none⟩) nR cR), (g3, .slice oa nR oc)] [(.slice (some ⟨gA, 0, none⟩) (nA + 2) cA, m' ++ [165, 90]), (.slice (some ⟨gR, 0, none⟩) (nR + 2) cR, k' ++ [165, 90]), (va, leafT m x), (vb, pairT lv cn mk x y), (vc, headT), (vd, rootT n x), (.slice ta nA tc, m'), (.slice oa nR oc, k'), (ve, leafT m' x)]) := (NS.drew D0.out).snoc me
          refine hK.out _ _ D1.out.e (fun hH => ?_)
          clear hK K me D0
          refine wpAnyH_ready (rs := [5]) (by kernel_rfl) (by simp) ?_
          refine AllReadyH.cons rfl (fun K hK => ?_) AllReadyH.nil
          go_simp
          refine Calls.mono (pairText_any (Tags.keep HT.out D1.out.bel) (m := k') (front2 (Eq.symm HKB.out) (NS.own D1.out (v := .slice (some ⟨gR, 0, none⟩) (nR + 2) cR) (by simp))) lv cn hlv (by omega) (by omega) ad y x ha hy hx (by rw [HKB.out]; omega)) ?_
          rintro e w21 ⟨vf, rfl, mf⟩
          have D2 : Hid (NS W w21 w.heap.size lv cn kv ad y x [(g2, .slice (some ⟨gR, 0, none⟩) nR cR), (g3, .slice oa nR oc)] [(.slice (some ⟨gA, 0, none⟩) (nA + 2) cA, m' ++ [165, 90]), (.slice (some ⟨gR, 0, none⟩) (nR + 2) cR, k' ++ [165, 90]), (va, leafT m x), (vb, pairT lv cn mk x y), (vc, headT), (vd, rootT n x), (.slice ta nA tc, m'), (.slice oa nR oc, k'), (ve, leafT m' x), (vf, pairT lv cn k' x y)]) := D1.out.snoc mf
          refine hK.out _ _ D2.out.e (fun hH => ?_)
          clear hK K mf D1
          refine wpAnyH_take (i := 6) (v := ve) rfl (by kernel_rfl) (by kernel_rfl) (by kernel_rfl) (fun _ _ _ h => h) (Or.inl ⟨by rfl, fun w' _ => by go_simp⟩) hH ?_
          refine wpAnyH_take (i := 7) (v := vf) rfl (by kernel_rfl) (by kernel_rfl) (by kernel_rfl) (fun _ _ _ h => h) (Or.inl ⟨by rfl, fun w' _ => by go_simp⟩) hH ?_
          refine wpAnyH_done (by kernel_rfl) ?_ _
          clear hH
          go_upto_region 25 with fail
          refine wp_region_held_drew (S := fun w' => KE w' w.heap.size lv cn kv ad y x [(g2, .slice (some ⟨gR, 0, none⟩) nR cR), (g3, .slice oa nR oc)]) (by kernel_rfl) (KE.drew D2.out.e) (fun hH => ?_)
          refine wpAnyH_take (i := 1) (v := .int .u64 n) rfl (by kernel_rfl) (by kernel_rfl) (by kernel_rfl) (fun _ _ _ h => h) (Or.inl ⟨by rfl, fun w' _ => by go_simp⟩) hH ?_
          refine wpAnyH_take (i := 2) (v := .int .u64 nn) rfl (by kernel_rfl) (by kernel_rfl) (by kernel_rfl) (fun _ _ _ h => h) (Or.inl ⟨by rfl, fun w' _ => by go_simp⟩) hH ?_
          refine wpAnyH_take (i := 3) (v := .agg (bs x).toArray) rfl (by kernel_rfl) (by kernel_rfl) (by kernel_rfl) (fun _ _ _ h => h) (yieldsIf_load_mid (by rfl) _ _ rfl (w.heap.size + 1) 0 rfl _ _ (fun w' h => Blk.range h.b.s (by simp)) Tryd.underlying25 rfl (Tryd.sumSz x hx)) hH ?_
          refine wpAnyH_ready (rs := [0]) (by kernel_rfl) (by simp) ?_
          refine AllReadyH.cons rfl (fun K hK => ?_) AllReadyH.nil
          go_simp
          refine Calls.mono (headText_any (w := w21.drew) (show Tags w21 from Tags.keep HT.out D2.out.bel)) ?_
          rintro e w22 ⟨vg, rfl, mg⟩
          have D3 : Hid (NS W w22 w.heap.size lv cn kv ad y x [(g2, .slice (some ⟨gR, 0, none⟩) nR cR), (g3, .slice oa nR oc)] [(.slice (some ⟨gA, 0, none⟩) (nA + 2) cA, m' ++ [165, 90]), (.slice (some ⟨gR, 0, none⟩) (nR + 2) cR, k' ++ [165, 90]), (va, leafT m x), (vb, pairT lv cn mk x y), (vc, headT), (vd, rootT n x), (.slice ta nA tc, m'), (.slice oa nR oc, k'), (ve, leafT m' x), (vf, pairT lv cn k' x y), (vg, headT)]) := (NS.drew D2.out).snoc mg
          refine hK.out _ _ D3.out.e (fun hH => ?_)
          clear hK K mg D2
          refine wpAnyH_ready (rs := [4]) (by kernel_rfl) (by simp) ?_
          refine AllReadyH.cons rfl (fun K hK => ?_) AllReadyH.nil
          go_simp
          refine Calls.mono (rootText_any (Tags.keep HT.out D3.out.bel) nn (by omega) (by omega) x hx) ?_
          rintro e w23 ⟨vh, rfl, mh⟩
          have D4 : Hid (NS W w23 w.heap.size lv cn kv ad y x [(g2, .slice (some ⟨gR, 0, none⟩) nR cR), (g3, .slice oa nR oc)] [(.slice (some ⟨gA, 0, none⟩) (nA + 2) cA, m' ++ [165, 90]), (.slice (some ⟨gR, 0, none⟩) (nR + 2) cR, k' ++ [165, 90]), (va, leafT m x), (vb, pairT lv cn mk x y), (vc, headT), (vd, rootT n x), (.slice ta nA tc, m'), (.slice oa nR oc, k'), (ve, leafT m' x), (vf, pairT lv cn k' x y), (vg, headT), (vh, rootT nn x)]) := D3.out.snoc mh
          refine hK.out _ _ D4.out.e (fun hH => ?_)
          clear hK K mh D3
          refine wpAnyH_take (i := 5) (v := vg) rfl (by kernel_rfl) (by kernel_rfl) (by kernel_rfl) (fun _ _ _ h => h) (Or.inl ⟨by rfl, fun w' _ => by go_simp⟩) hH ?_
          refine wpAnyH_take (i := 6) (v := vh) rfl (by kernel_rfl) (by kernel_rfl) (by kernel_rfl) (fun _ _ _ h => h) (Or.inl ⟨by rfl, fun w' _ => by go_simp⟩) hH ?_
          refine wpAnyH_done (by kernel_rfl) ?_ _
          clear hH
          go_wp2_with (refine wpList_load_mid rfl 25 (.tmp 6) rfl (w.heap.size + 1) 0 rfl (bs x) _ (Blk.range (KB.s (KE.b (NS.e D4.out))) (by simp)) Tryd.underlying25 rfl (Tryd.sumSz x hx) ?_)
          refine Calls.mono (rLeaf_any (s := .slice ta nA tc) (m := m') (Own.src (NS.own D4.out (v := .slice ta nA tc) (l := m') (by simp))) x hx (by rw [HMB.out]; omega)) ?_
          rintro e x1 ⟨vr, rfl, mr⟩
          have E1 : Hid (NS W x1 w.heap.size lv cn kv ad y x [(g2, .slice (some ⟨gR, 0, none⟩) nR cR), (g3, .slice oa nR oc)] [(.slice (some ⟨gA, 0, none⟩) (nA + 2) cA, m' ++ [165, 90]), (.slice (some ⟨gR, 0, none⟩) (nR + 2) cR, k' ++ [165, 90]), (va, leafT m x), (vb, pairT lv cn mk x y), (vc, headT), (vd, rootT n x), (.slice ta nA tc, m'), (.slice oa nR oc, k'), (ve, leafT m' x), (vf, pairT lv cn k' x y), (vg, headT), (vh, rootT nn x)]) := NS.keep D4.out mr.2.1
          have OR1 : Hid _ := mr.1
          clear mr D4
          go_wp2_with fail
          refine Calls.mono (same_any (Own.src (NS.own E1.out (v := ve) (l := leafT m' x) (by simp))) (Own.src OR1.out) (by have := HMB.out; simp [leafT, word, hx]; omega) (by have := HMB.out; simp [leafT, word, hx]; omega)) ?_
          rintro e w99 ⟨rfl, qq, rfl⟩
          rw [decide_eq_true rfl]
          obtain ⟨y1, hwc⟩ : ∃ v, v = x1.drewN qq := ⟨_, rfl⟩
          have F1 : Hid (NS W y1 w.heap.size lv cn kv ad y x [(g2, .slice (some ⟨gR, 0, none⟩) nR cR), (g3, .slice oa nR oc)] [(.slice (some ⟨gA, 0, none⟩) (nA + 2) cA, m' ++ [165, 90]), (.slice (some ⟨gR, 0, none⟩) (nR + 2) cR, k' ++ [165, 90]), (va, leafT m x), (vb, pairT lv cn mk x y), (vc, headT), (vd, rootT n x), (.slice ta nA tc, m'), (.slice oa nR oc, k'), (ve, leafT m' x), (vf, pairT lv cn k' x y), (vg, headT), (vh, rootT nn x)]) := by rw [hwc]; exact NS.drewN E1.out _
          rw [← hwc]
          clear hwc E1 OR1
          go_wp2_with (first | refine wpList_load_g (by rfl) 29 (.tmp 20) rfl g3 0 rfl (kidC lv cn (.slice oa nR oc) ad y) _ (Blk.range (KE.n (NS.e F1.out) (g3, .slice oa nR oc) (by simp)) (by simp)) Tryd.underlying29 rfl (Tryd.kidSz lv cn (.slice oa nR oc) ad y ha hy) ?_ | refine wpList_load_g (by rfl) 25 (.tmp 6) rfl (w.heap.size + 1) 0 rfl (bs x) _ (Blk.range (KB.s (KE.b (NS.e F1.out))) (by simp)) Tryd.underlying25 rfl (Tryd.sumSz x hx) ?_)
          refine Calls.mono (rPair_any (kv := .slice oa nR oc) (m := k') (Own.src (NS.own F1.out (v := .slice oa nR oc) (l := k') (by simp))) lv cn hlv h1 ad y x ha hy hx (by rw [HKB.out]; omega)) ?_
          rintro e x2 ⟨vr, rfl, mr⟩
          have E2 : Hid (NS W x2 w.heap.size lv cn kv ad y x [(g2, .slice (some ⟨gR, 0, none⟩) nR cR), (g3, .slice oa nR oc)] [(.slice (some ⟨gA, 0, none⟩) (nA + 2) cA, m' ++ [165, 90]), (.slice (some ⟨gR, 0, none⟩) (nR + 2) cR, k' ++ [165, 90]), (va, leafT m x), (vb, pairT lv cn mk x y), (vc, headT), (vd, rootT n x), (.slice ta nA tc, m'), (.slice oa nR oc, k'), (ve, leafT m' x), (vf, pairT lv cn k' x y), (vg, headT), (vh, rootT nn x)]) := NS.keep F1.out mr.2.1
          have OR2 : Hid _ := mr.1
          clear mr F1
          go_wp2_with fail
          refine Calls.mono (same_any (Own.src (NS.own E2.out (v := vf) (l := pairT lv cn k' x y) (by simp))) (Own.src OR2.out) (by have := HKB.out; simp [pairT, long, word, hx, hy]; omega) (by have := HKB.out; simp [pairT, long, word, hx, hy]; omega)) ?_
          rintro e w99 ⟨rfl, qq, rfl⟩
          rw [decide_eq_true rfl]
          obtain ⟨y2, hwc⟩ : ∃ v, v = x2.drewN qq := ⟨_, rfl⟩
          have F2 : Hid (NS W y2 w.heap.size lv cn kv ad y x [(g2, .slice (some ⟨gR, 0, none⟩) nR cR), (g3, .slice oa nR oc)] [(.slice (some ⟨gA, 0, none⟩) (nA + 2) cA, m' ++ [165, 90]), (.slice (some ⟨gR, 0, none⟩) (nR + 2) cR, k' ++ [165, 90]), (va, leafT m x), (vb, pairT lv cn mk x y), (vc, headT), (vd, rootT n x), (.slice ta nA tc, m'), (.slice oa nR oc, k'), (ve, leafT m' x), (vf, pairT lv cn k' x y), (vg, headT), (vh, rootT nn x)]) := by rw [hwc]; exact NS.drewN E2.out _
          rw [← hwc]
          clear hwc E2 OR2
          go_wp2_with (refine wpList_load_mid rfl 25 (.tmp 6) rfl (w.heap.size + 1) 0 rfl (bs x) _ (Blk.range (KB.s (KE.b (NS.e F2.out))) (by simp)) Tryd.underlying25 rfl (Tryd.sumSz x hx) ?_)
          refine Calls.mono (rLeaf_any (s := .slice a1 nA c1) (m := m) (Src.kept0 S1.out (NS.bel F2.out)) x hx (by rw [← HNA.out]; omega)) ?_
          rintro e x3 ⟨vr, rfl, mr⟩
          have E3 : Hid (NS W x3 w.heap.size lv cn kv ad y x [(g2, .slice (some ⟨gR, 0, none⟩) nR cR), (g3, .slice oa nR oc)] [(.slice (some ⟨gA, 0, none⟩) (nA + 2) cA, m' ++ [165, 90]), (.slice (some ⟨gR, 0, none⟩) (nR + 2) cR, k' ++ [165, 90]), (va, leafT m x), (vb, pairT lv cn mk x y), (vc, headT), (vd, rootT n x), (.slice ta nA tc, m'), (.slice oa nR oc, k'), (ve, leafT m' x), (vf, pairT lv cn k' x y), (vg, headT), (vh, rootT nn x)]) := NS.keep F2.out mr.2.1
          have OR3 : Hid _ := mr.1
          clear mr F2
          go_wp2_with fail
          refine Calls.mono (same_any (Own.src (NS.own E3.out (v := va) (l := leafT m x) (by simp))) (Own.src OR3.out) (by have := HNA.out; simp [leafT, word, hx]; omega) (by have := HNA.out; simp [leafT, word, hx]; omega)) ?_
          rintro e w99 ⟨rfl, qq, rfl⟩
          rw [decide_eq_true rfl]
          obtain ⟨y3, hwc⟩ : ∃ v, v = x3.drewN qq := ⟨_, rfl⟩
          have F3 : Hid (NS W y3 w.heap.size lv cn kv ad y x [(g2, .slice (some ⟨gR, 0, none⟩) nR cR), (g3, .slice oa nR oc)] [(.slice (some ⟨gA, 0, none⟩) (nA + 2) cA, m' ++ [165, 90]), (.slice (some ⟨gR, 0, none⟩) (nR + 2) cR, k' ++ [165, 90]), (va, leafT m x), (vb, pairT lv cn mk x y), (vc, headT), (vd, rootT n x), (.slice ta nA tc, m'), (.slice oa nR oc, k'), (ve, leafT m' x), (vf, pairT lv cn k' x y), (vg, headT), (vh, rootT nn x)]) := by rw [hwc]; exact NS.drewN E3.out _
          rw [← hwc]
          clear hwc E3 OR3
          go_wp2_with (first | refine wpList_load_g (by rfl) 29 (.tmp 5) rfl w.heap.size 0 rfl (kidC lv cn (kv) ad y) _ (Blk.range (KB.k (KE.b (NS.e F3.out))) (by simp)) Tryd.underlying29 rfl (Tryd.kidSz lv cn (kv) ad y ha hy) ?_ | refine wpList_load_g (by rfl) 25 (.tmp 6) rfl (w.heap.size + 1) 0 rfl (bs x) _ (Blk.range (KB.s (KE.b (NS.e F3.out))) (by simp)) Tryd.underlying25 rfl (Tryd.sumSz x hx) ?_)
          refine Calls.mono (rPair_any (kv := kv) (m := mk) (Src.kept0 HS.out (NS.bel F3.out)) lv cn hlv h1 ad y x ha hy hx (by rw [← HNR.out]; omega)) ?_
          rintro e x4 ⟨vr, rfl, mr⟩
          have E4 : Hid (NS W x4 w.heap.size lv cn kv ad y x [(g2, .slice (some ⟨gR, 0, none⟩) nR cR), (g3, .slice oa nR oc)] [(.slice (some ⟨gA, 0, none⟩) (nA + 2) cA, m' ++ [165, 90]), (.slice (some ⟨gR, 0, none⟩) (nR + 2) cR, k' ++ [165, 90]), (va, leafT m x), (vb, pairT lv cn mk x y), (vc, headT), (vd, rootT n x), (.slice ta nA tc, m'), (.slice oa nR oc, k'), (ve, leafT m' x), (vf, pairT lv cn k' x y), (vg, headT), (vh, rootT nn x)]) := NS.keep F3.out mr.2.1
          have OR4 : Hid _ := mr.1
          clear mr F3
          go_wp2_with fail
          refine Calls.mono (same_any (Own.src (NS.own E4.out (v := vb) (l := pairT lv cn mk x y) (by simp))) (Own.src OR4.out) (by have := HNR.out; simp [pairT, long, word, hx, hy]; omega) (by have := HNR.out; simp [pairT, long, word, hx, hy]; omega)) ?_
          rintro e w99 ⟨rfl, qq, rfl⟩
          rw [decide_eq_true rfl]
          obtain ⟨y4, hwc⟩ : ∃ v, v = x4.drewN qq := ⟨_, rfl⟩
          have F4 : Hid (NS W y4 w.heap.size lv cn kv ad y x [(g2, .slice (some ⟨gR, 0, none⟩) nR cR), (g3, .slice oa nR oc)] [(.slice (some ⟨gA, 0, none⟩) (nA + 2) cA, m' ++ [165, 90]), (.slice (some ⟨gR, 0, none⟩) (nR + 2) cR, k' ++ [165, 90]), (va, leafT m x), (vb, pairT lv cn mk x y), (vc, headT), (vd, rootT n x), (.slice ta nA tc, m'), (.slice oa nR oc, k'), (ve, leafT m' x), (vf, pairT lv cn k' x y), (vg, headT), (vh, rootT nn x)]) := by rw [hwc]; exact NS.drewN E4.out _
          rw [← hwc]
          clear hwc E4 OR4
          go_wp2_with fail
          refine Calls.mono (rHead_any) ?_
          rintro e x5 ⟨vr, rfl, mr⟩
          have E5 : Hid (NS W x5 w.heap.size lv cn kv ad y x [(g2, .slice (some ⟨gR, 0, none⟩) nR cR), (g3, .slice oa nR oc)] [(.slice (some ⟨gA, 0, none⟩) (nA + 2) cA, m' ++ [165, 90]), (.slice (some ⟨gR, 0, none⟩) (nR + 2) cR, k' ++ [165, 90]), (va, leafT m x), (vb, pairT lv cn mk x y), (vc, headT), (vd, rootT n x), (.slice ta nA tc, m'), (.slice oa nR oc, k'), (ve, leafT m' x), (vf, pairT lv cn k' x y), (vg, headT), (vh, rootT nn x)]) := NS.keep F4.out mr.2.1
          have OR5 : Hid _ := mr.1
          clear mr F4
          go_wp2_with fail
          refine Calls.mono (same_any (Own.src (NS.own E5.out (v := vc) (l := headT) (by simp))) (Own.src OR5.out) (by simp [headT]) (by simp [headT])) ?_
          rintro e w99 ⟨rfl, qq, rfl⟩
          rw [decide_eq_true rfl]
          obtain ⟨y5, hwc⟩ : ∃ v, v = x5.drewN qq := ⟨_, rfl⟩
          have F5 : Hid (NS W y5 w.heap.size lv cn kv ad y x [(g2, .slice (some ⟨gR, 0, none⟩) nR cR), (g3, .slice oa nR oc)] [(.slice (some ⟨gA, 0, none⟩) (nA + 2) cA, m' ++ [165, 90]), (.slice (some ⟨gR, 0, none⟩) (nR + 2) cR, k' ++ [165, 90]), (va, leafT m x), (vb, pairT lv cn mk x y), (vc, headT), (vd, rootT n x), (.slice ta nA tc, m'), (.slice oa nR oc, k'), (ve, leafT m' x), (vf, pairT lv cn k' x y), (vg, headT), (vh, rootT nn x)]) := by rw [hwc]; exact NS.drewN E5.out _
          rw [← hwc]
          clear hwc E5 OR5
          go_wp2_with (refine wpList_load_g (by rfl) 25 (.tmp 6) rfl (w.heap.size + 1) 0 rfl (bs x) _ (Blk.range (KB.s (KE.b (NS.e F5.out))) (by simp)) Tryd.underlying25 rfl (Tryd.sumSz x hx) ?_)
          refine Calls.mono (rRoot_any n n1 x hx) ?_
          rintro e x6 ⟨vr, rfl, mr⟩
          have E6 : Hid (NS W x6 w.heap.size lv cn kv ad y x [(g2, .slice (some ⟨gR, 0, none⟩) nR cR), (g3, .slice oa nR oc)] [(.slice (some ⟨gA, 0, none⟩) (nA + 2) cA, m' ++ [165, 90]), (.slice (some ⟨gR, 0, none⟩) (nR + 2) cR, k' ++ [165, 90]), (va, leafT m x), (vb, pairT lv cn mk x y), (vc, headT), (vd, rootT n x), (.slice ta nA tc, m'), (.slice oa nR oc, k'), (ve, leafT m' x), (vf, pairT lv cn k' x y), (vg, headT), (vh, rootT nn x)]) := NS.keep F5.out mr.2.1
          have OR6 : Hid _ := mr.1
          clear mr F5
          go_wp2_with fail
          refine Calls.mono (same_any (Own.src (NS.own E6.out (v := vd) (l := rootT n x) (by simp))) (Own.src OR6.out) (by simp [rootT, long, word, hx]) (by simp [rootT, long, word, hx])) ?_
          rintro e w99 ⟨rfl, qq, rfl⟩
          rw [decide_eq_true rfl]
          obtain ⟨y6, hwc⟩ : ∃ v, v = x6.drewN qq := ⟨_, rfl⟩
          have F6 : Hid (NS W y6 w.heap.size lv cn kv ad y x [(g2, .slice (some ⟨gR, 0, none⟩) nR cR), (g3, .slice oa nR oc)] [(.slice (some ⟨gA, 0, none⟩) (nA + 2) cA, m' ++ [165, 90]), (.slice (some ⟨gR, 0, none⟩) (nR + 2) cR, k' ++ [165, 90]), (va, leafT m x), (vb, pairT lv cn mk x y), (vc, headT), (vd, rootT n x), (.slice ta nA tc, m'), (.slice oa nR oc, k'), (ve, leafT m' x), (vf, pairT lv cn k' x y), (vg, headT), (vh, rootT nn x)]) := by rw [hwc]; exact NS.drewN E6.out _
          rw [← hwc]
          clear hwc E6 OR6
          go_wp2_with fail
          refine Calls.mono (rHead_any) ?_
          rintro e x7 ⟨vr, rfl, mr⟩
          have E7 : Hid (NS W x7 w.heap.size lv cn kv ad y x [(g2, .slice (some ⟨gR, 0, none⟩) nR cR), (g3, .slice oa nR oc)] [(.slice (some ⟨gA, 0, none⟩) (nA + 2) cA, m' ++ [165, 90]), (.slice (some ⟨gR, 0, none⟩) (nR + 2) cR, k' ++ [165, 90]), (va, leafT m x), (vb, pairT lv cn mk x y), (vc, headT), (vd, rootT n x), (.slice ta nA tc, m'), (.slice oa nR oc, k'), (ve, leafT m' x), (vf, pairT lv cn k' x y), (vg, headT), (vh, rootT nn x)]) := NS.keep F6.out mr.2.1
          have OR7 : Hid _ := mr.1
          clear mr F6
          go_wp2_with fail
          refine Calls.mono (same_any (Own.src (NS.own E7.out (v := vg) (l := headT) (by simp))) (Own.src OR7.out) (by simp [headT]) (by simp [headT])) ?_
          rintro e w99 ⟨rfl, qq, rfl⟩
          rw [decide_eq_true rfl]
          obtain ⟨y7, hwc⟩ : ∃ v, v = x7.drewN qq := ⟨_, rfl⟩
          have F7 : Hid (NS W y7 w.heap.size lv cn kv ad y x [(g2, .slice (some ⟨gR, 0, none⟩) nR cR), (g3, .slice oa nR oc)] [(.slice (some ⟨gA, 0, none⟩) (nA + 2) cA, m' ++ [165, 90]), (.slice (some ⟨gR, 0, none⟩) (nR + 2) cR, k' ++ [165, 90]), (va, leafT m x), (vb, pairT lv cn mk x y), (vc, headT), (vd, rootT n x), (.slice ta nA tc, m'), (.slice oa nR oc, k'), (ve, leafT m' x), (vf, pairT lv cn k' x y), (vg, headT), (vh, rootT nn x)]) := by rw [hwc]; exact NS.drewN E7.out _
          rw [← hwc]
          clear hwc E7 OR7
          go_wp2_with (refine wpList_load_g (by rfl) 25 (.tmp 6) rfl (w.heap.size + 1) 0 rfl (bs x) _ (Blk.range (KB.s (KE.b (NS.e F7.out))) (by simp)) Tryd.underlying25 rfl (Tryd.sumSz x hx) ?_)
          refine Calls.mono (rRoot_any nn nn1 x hx) ?_
          rintro e x8 ⟨vr, rfl, mr⟩
          have E8 : Hid (NS W x8 w.heap.size lv cn kv ad y x [(g2, .slice (some ⟨gR, 0, none⟩) nR cR), (g3, .slice oa nR oc)] [(.slice (some ⟨gA, 0, none⟩) (nA + 2) cA, m' ++ [165, 90]), (.slice (some ⟨gR, 0, none⟩) (nR + 2) cR, k' ++ [165, 90]), (va, leafT m x), (vb, pairT lv cn mk x y), (vc, headT), (vd, rootT n x), (.slice ta nA tc, m'), (.slice oa nR oc, k'), (ve, leafT m' x), (vf, pairT lv cn k' x y), (vg, headT), (vh, rootT nn x)]) := NS.keep F7.out mr.2.1
          have OR8 : Hid _ := mr.1
          clear mr F7
          go_wp2_with fail
          refine Calls.mono (same_any (Own.src (NS.own E8.out (v := vh) (l := rootT nn x) (by simp))) (Own.src OR8.out) (by simp [rootT, long, word, hx]) (by simp [rootT, long, word, hx])) ?_
          rintro e w99 ⟨rfl, qq, rfl⟩
          rw [decide_eq_true rfl]
          obtain ⟨y8, hwc⟩ : ∃ v, v = x8.drewN qq := ⟨_, rfl⟩
          have F8 : Hid (NS W y8 w.heap.size lv cn kv ad y x [(g2, .slice (some ⟨gR, 0, none⟩) nR cR), (g3, .slice oa nR oc)] [(.slice (some ⟨gA, 0, none⟩) (nA + 2) cA, m' ++ [165, 90]), (.slice (some ⟨gR, 0, none⟩) (nR + 2) cR, k' ++ [165, 90]), (va, leafT m x), (vb, pairT lv cn mk x y), (vc, headT), (vd, rootT n x), (.slice ta nA tc, m'), (.slice oa nR oc, k'), (ve, leafT m' x), (vf, pairT lv cn k' x y), (vg, headT), (vh, rootT nn x)]) := by rw [hwc]; exact NS.drewN E8.out _
          rw [← hwc]
          clear hwc E8 OR8
          go_wp2_with (refine wpList_load_mid rfl 25 (.tmp 6) rfl (w.heap.size + 1) 0 rfl (bs x) _ (Blk.range (KB.s (KE.b (NS.e F8.out))) (by simp)) Tryd.underlying25 rfl (Tryd.sumSz x hx) ?_)
          refine Calls.mono (leafText_any (Tags.keep HT.out (NS.bel F8.out)) (m := m') (front2 (Eq.symm HMB.out) (NS.own F8.out (v := .slice (some ⟨gA, 0, none⟩) (nA + 2) cA) (by simp))) x hx (by rw [HMB.out]; omega)) ?_
          rintro e w30 ⟨vz, rfl, mz⟩
          have G0 : Hid (NS W w30 w.heap.size lv cn kv ad y x [(g2, .slice (some ⟨gR, 0, none⟩) nR cR), (g3, .slice oa nR oc)] [(.slice (some ⟨gA, 0, none⟩) (nA + 2) cA, m' ++ [165, 90]), (.slice (some ⟨gR, 0, none⟩) (nR + 2) cR, k' ++ [165, 90]), (va, leafT m x), (vb, pairT lv cn mk x y), (vc, headT), (vd, rootT n x), (.slice ta nA tc, m'), (.slice oa nR oc, k'), (ve, leafT m' x), (vf, pairT lv cn k' x y), (vg, headT), (vh, rootT nn x), (vz, leafT m' x)]) := NS.snoc F8.out mz
          clear mz F8
          go_wp2_with fail
          refine Calls.mono (same_any (Own.src (NS.own G0.out (v := vz) (l := leafT m' x) (by simp))) (Own.src (NS.own G0.out (v := ve) (l := leafT m' x) (by simp))) (by have := HMB.out; simp [leafT, word, hx]; omega) (by have := HMB.out; simp [leafT, word, hx]; omega)) ?_
          rintro e w99 ⟨rfl, qq, rfl⟩
          rw [decide_eq_true rfl]
          obtain ⟨w31, hw31⟩ : ∃ v, v = w30.drewN qq := ⟨_, rfl⟩
          have G1 : Hid (NS W w31 w.heap.size lv cn kv ad y x [(g2, .slice (some ⟨gR, 0, none⟩) nR cR), (g3, .slice oa nR oc)] [(.slice (some ⟨gA, 0, none⟩) (nA + 2) cA, m' ++ [165, 90]), (.slice (some ⟨gR, 0, none⟩) (nR + 2) cR, k' ++ [165, 90]), (va, leafT m x), (vb, pairT lv cn mk x y), (vc, headT), (vd, rootT n x), (.slice ta nA tc, m'), (.slice oa nR oc, k'), (ve, leafT m' x), (vf, pairT lv cn k' x y), (vg, headT), (vh, rootT nn x), (vz, leafT m' x)]) := by rw [hw31]; exact NS.drewN G0.out _
          rw [← hw31]
          clear hw31 G0
          obtain ⟨pva, cva, hva⟩ := Own.form (NS.own G1.out (v := va) (l := leafT m x) (by simp))
          obtain ⟨lva, kva⟩ : ∃ z, z = (leafT m x).length := ⟨_, rfl⟩
          rw [← kva] at hva
          subst hva
          clear kva
          obtain ⟨pvb, cvb, hvb⟩ := Own.form (NS.own G1.out (v := vb) (l := pairT lv cn mk x y) (by simp))
          obtain ⟨lvb, kvb⟩ : ∃ z, z = (pairT lv cn mk x y).length := ⟨_, rfl⟩
          rw [← kvb] at hvb
          subst hvb
          clear kvb
          obtain ⟨pvc, cvc, hvc⟩ := Own.form (NS.own G1.out (v := vc) (l := headT) (by simp))
          obtain ⟨lvc, kvc⟩ : ∃ z, z = (headT).length := ⟨_, rfl⟩
          rw [← kvc] at hvc
          subst hvc
          clear kvc
          obtain ⟨pvd, cvd, hvd⟩ := Own.form (NS.own G1.out (v := vd) (l := rootT n x) (by simp))
          obtain ⟨lvd, kvd⟩ : ∃ z, z = (rootT n x).length := ⟨_, rfl⟩
          rw [← kvd] at hvd
          subst hvd
          clear kvd
          obtain ⟨pve, cve, hve⟩ := Own.form (NS.own G1.out (v := ve) (l := leafT m' x) (by simp))
          obtain ⟨lve, kve⟩ : ∃ z, z = (leafT m' x).length := ⟨_, rfl⟩
          rw [← kve] at hve
          subst hve
          clear kve
          obtain ⟨pvf, cvf, hvf⟩ := Own.form (NS.own G1.out (v := vf) (l := pairT lv cn k' x y) (by simp))
          obtain ⟨lvf, kvf⟩ : ∃ z, z = (pairT lv cn k' x y).length := ⟨_, rfl⟩
          rw [← kvf] at hvf
          subst hvf
          clear kvf
          obtain ⟨pvg, cvg, hvg⟩ := Own.form (NS.own G1.out (v := vg) (l := headT) (by simp))
          obtain ⟨lvg, kvg⟩ : ∃ z, z = (headT).length := ⟨_, rfl⟩
          rw [← kvg] at hvg
          subst hvg
          clear kvg
          obtain ⟨pvh, cvh, hvh⟩ := Own.form (NS.own G1.out (v := vh) (l := rootT nn x) (by simp))
          obtain ⟨lvh, kvh⟩ : ∃ z, z = (rootT nn x).length := ⟨_, rfl⟩
          rw [← kvh] at hvh
          subst hvh
          clear kvh
          obtain ⟨pvz, cvz, hvz⟩ := Own.form (NS.own G1.out (v := vz) (l := leafT m' x) (by simp))
          obtain ⟨lvz, kvz⟩ : ∃ z, z = (leafT m' x).length := ⟨_, rfl⟩
          rw [← kvz] at hvz
          subst hvz
          clear kvz
          go_wp2_with fail
          have hap := ap_of_tx (ix := [2, 3, 4, 5, 8, 9, 10, 11, 12]) (NS.t G1.out) (by decide) ix_lt
          refine Calls.mono (apart_any (n := 9) hap.1 (by decide) (fun k hk => ?_)) ?_
          · exact hap.2.1 k hk 140737488355258 (fun p hp => by
              have e1 := HMB.out
              have e2 := HKB.out
              have e3 := HNA.out
              have e4 := HNR.out
              simp only [List.mem_cons, List.not_mem_nil, or_false] at hp
              rcases hp with rfl | rfl | rfl | rfl | rfl | rfl | rfl | rfl | rfl | rfl | rfl | rfl | rfl <;> simp [leafT, pairT, rootT, headT, long, word, hx, hy] <;> omega)
          rintro e w32 ⟨rfl, ch⟩
          have FIN : Hid (Below w.heap.size w w32) := by
            have b1 : Below W.heap.size W w31 := NS.bel G1.out
            have c2 := ((Chg.of_below b1 (fun _ => False)).alloc _).trans ch (fun g e => by
              obtain ⟨k, hk, hg⟩ := e
              exact .inr (hap.2.2 k hk g hg))
            have b2 := c2.below (Nat.le_refl _) (fun _ h => h.elim)
            exact BW.out.trans (b2.mono BW.out.size)
          clear hap ch G1
          go_wp2_with fail
          go_ret
          exact ⟨rfl, FIN.out⟩
end Go.Proofs.YtoilnommhkmioaaDoor
