/-
  NodeSorts: the walk.
-/
import Derived.Test.YtoilnommhkmioaaDoorEqs
namespace Go.Proofs.YtoilnommhkmioaaDoor
open Go.RowKit

set_option maxRecDepth 100000 in
set_option maxHeartbeats 4000000 in
theorem sorts_any {w : World} (hT : Tags w) {s1 s2 kv : Value} {m1 m2 m : List Int} (hs1 : Src w s1 m1) (hs2 : Src w s2 m2) (hs : Src w kv m) (lv cn n : Int) (hlv : -9223372036854775808 ≤ lv ∧ lv ≤ 9223372036854775807) (h0 : 0 ≤ cn) (h1 : cn < 18446744073709551616) (n0 : 0 ≤ n) (n1 : n < 18446744073709551616) (ad y x : List Int) (ha : ad.length = 33) (hy : y.length = 32) (hx : x.length = 32)
    (hl1 : m1.length + 78 ≤ 140737488355328) (hl2 : m2.length + 78 ≤ 140737488355328) (hl : m.length + 78 ≤ 140737488355328) :
    Calls Tryd.prog 3 #[s1, s2, .agg (kidC lv cn kv ad y).toArray, .agg (bs x).toArray, .int .u64 n] w fun e w' => e = .returned (.bool true) ∧ Below w.heap.size w w' := by
  obtain ⟨a1, c1, hf1⟩ := hs1.form
  obtain ⟨a2, c2, hf2⟩ := hs2.form
  subst hf1 hf2
  obtain ⟨W, hW⟩ : ∃ W, W = (w.alloc (.cells (kidC lv cn kv ad y).toArray 29)).alloc (.cells (bs x).toArray 25) := ⟨_, rfl⟩
  have bb : Below w.heap.size w W := by rw [hW]; exact ((Below.refl _ _).alloc (Nat.le_refl _) _).alloc (by simp) _
  have BW : Hid _ := bb
  have BL : Hid (KB W w.heap.size lv cn kv ad y x) := by
    rw [hW]
    refine ⟨(Blk.made _ _ _).alloc _, ?_⟩
    have := Blk.made (w.alloc (.cells (kidC lv cn kv ad y).toArray 29)) (bs x) 25
    simpa using this
  have HT : Hid (Tags W) := hT.keep bb
  have S1 : Hid _ := hs1.kept0 bb
  have S2 : Hid _ := hs2.kept0 bb
  have HS : Hid _ := hs.kept0 bb
  clear hT hs hs1 hs2 bb
  go_enter Tryd.func3, Tryd.ntmps3
  go_upto_region 1 with fail
  rw [← hW]
  clear hW
  go_cut [11, 12] from 19 (fun va vb wx => Hid (Below W.heap.size W wx ∧ Own wx va (leafT m1 x) ∧ Own wx vb (leafT m2 y)))
  case first =>
    refine wp_region_held_drew (S := fun w' => KB w' w.heap.size lv cn kv ad y x) (by kernel_rfl) (KB.drew BL.out) (fun hH => ?_)
    refine wpAnyH_take (i := 0) (v := .slice a1 m1.length c1) rfl (by kernel_rfl) (by kernel_rfl) (by kernel_rfl) (fun _ _ _ h => h) (Or.inl ⟨by rfl, fun w' _ => by go_simp⟩) hH ?_
    refine wpAnyH_take (i := 1) (v := .agg (bs x).toArray) rfl (by kernel_rfl) (by kernel_rfl) (by kernel_rfl) (fun _ _ _ h => h) (yieldsIf_load_mid (by rfl) _ _ rfl (w.heap.size + 1) 0 rfl _ _ (fun w' h => Blk.range h.s (by simp)) Tryd.underlying25 rfl (Tryd.sumSz x hx)) hH ?_
    refine wpAnyH_take (i := 3) (v := .slice a2 m2.length c2) rfl (by kernel_rfl) (by kernel_rfl) (by kernel_rfl) (fun _ _ _ h => h) (Or.inl ⟨by rfl, fun w' _ => by go_simp⟩) hH ?_
    refine wpAnyH_take (i := 4) (v := .pointer (some ⟨w.heap.size, 36, none⟩)) rfl (by kernel_rfl) (by kernel_rfl) (by kernel_rfl) (fun _ _ _ h => h) (Or.inl ⟨by rfl, fun w' _ => by go_simp⟩) hH ?_
    refine wpAnyH_take (i := 5) (v := .agg (bs y).toArray) rfl (by kernel_rfl) (by kernel_rfl) (by kernel_rfl) (fun _ _ _ h => h) (yieldsIf_load_mid (by rfl) _ _ rfl w.heap.size 36 rfl _ _ (fun w' h => Blk.range h.k (kidC_label lv cn kv ad y ha)) Tryd.underlying25 rfl (Tryd.sumSz y hy)) hH ?_
    refine wpAnyH_ready (rs := [2]) (by kernel_rfl) (by simp) ?_
    refine AllReadyH.cons rfl (fun K hK => ?_) AllReadyH.nil
    go_simp
    refine Calls.mono (leafText_any (w := W.drew) HT.out (Src.drew1 S1.out) x hx (by omega)) ?_
    rintro e w1 ⟨va, rfl, ma⟩
    have bl1 : Below W.heap.size W w1 := Below.drew0 ma.2.1
    refine hK.out _ _ (KB.keep BL.out bl1) (fun hH => ?_)
    clear hK K
    refine wpAnyH_ready (rs := [6]) (by kernel_rfl) (by simp) ?_
    refine AllReadyH.cons rfl (fun K hK => ?_) AllReadyH.nil
    go_simp
    refine Calls.mono (leafText_any (Tags.keep HT.out bl1) (Src.kept0 S2.out bl1) y hy (by omega)) ?_
    rintro e w2 ⟨vb, rfl, mb⟩
    have bl2 : Below W.heap.size W w2 := bl1.trans (mb.2.1.mono bl1.size)
    have oa : Own w2 va (leafT m1 x) := ma.1.kept (Chg.of_below mb.2.1 (fun _ => False)) (fun _ _ h => h)
    refine hK.out _ _ (KB.keep BL.out bl2) (fun hH => ?_)
    have OA : Hid _ := oa
    have OB : Hid _ := mb.1
    have B2 : Hid _ := bl2
    clear hK K oa ma mb bl1 bl2
    refine wpAnyH_take (i := 7) (v := va) rfl (by kernel_rfl) (by kernel_rfl) (by kernel_rfl) (fun _ _ _ h => h) (Or.inl ⟨by rfl, fun w' _ => by go_simp⟩) hH ?_
    refine wpAnyH_take (i := 8) (v := vb) rfl (by kernel_rfl) (by kernel_rfl) (by kernel_rfl) (fun _ _ _ h => h) (Or.inl ⟨by rfl, fun w' _ => by go_simp⟩) hH ?_
    refine wpAnyH_done (by kernel_rfl) ?_ _
    clear hH
    go_wp2_with fail
    go_meet
    case rel => exact ⟨B2.out, OA.out, OB.out⟩
  case rest =>
    obtain ⟨wA, hwA⟩ : ∃ v, v = wc := ⟨_, rfl⟩
    subst hwA
    obtain ⟨b2, oa, ob⟩ := hcut.out
    have B2 : Hid _ := b2
    have OA : Hid _ := oa
    have OB : Hid _ := ob
    have hkb := KB.keep BL.out b2
    have RX : Hid (∀ n, (wA.drewN n).rangeAt (w.heap.size + 1) 0 (bs x)) := fun n => Blk.range (w := wA.drewN n) ⟨hkb.s.eq⟩ (by simp)
    have RY : Hid (∀ n, (wA.drewN n).rangeAt w.heap.size 36 (bs y)) := fun n => Blk.range (w := wA.drewN n) ⟨hkb.k.eq⟩ (kidC_label lv cn kv ad y ha)
    clear hcut b2 oa ob hkb
    go_upto_region 2 with fail
    go_cut [38] from 19 (fun s wx => s = .bool false ∧ ∃ n, wx = wA.drewN n)
    case first =>
      by_cases hm : m1 = m2
      · have HM : Hid _ := hm
        clear hm
        by_cases hxy : x = y
        · have HX : Hid _ := hxy
          clear hxy
          go_wp2_with fail
          refine (same_any (Own.src OA.out) (Own.src OB.out) (by simp [leafT, word, hx]; omega) (by simp [leafT, word, hy]; omega)).mono ?_
          rintro e w3 ⟨rfl, n3, rfl⟩
          rw [decide_eq_true ((leafT_eq hx hy).2 ⟨HM.out, HX.out⟩)]
          go_wp2_with fail
          refine (same_any (Src.drewN (Src.kept0 S1.out B2.out) n3) (Src.drewN (Src.kept0 S2.out B2.out) n3) (by omega) (by omega)).mono ?_
          rintro e w4 ⟨rfl, n4, rfl⟩
          rw [decide_eq_true HM.out, dr2]
          have heq : ∀ n, (Op.equalIn 10000 25 (.agg (bs x).toArray) (.agg (bs y).toArray)).run Tryd.prog (wA.drewN n) = .ok true (wA.drewN n) := fun n => by rw [eq25 9998 x y hx hy, decide_eq_true HX.out]
          go_wp2_with (first | refine wpList_load_g (by rfl) 25 (.tmp 8) rfl (w.heap.size + 1) 0 rfl (bs x) _ (RX.out _) Tryd.underlying25 rfl (Tryd.sumSz x hx) ?_ | refine wpList_load_g (by rfl) 25 (.tmp 34) rfl w.heap.size 36 rfl (bs y) _ (RY.out _) Tryd.underlying25 rfl (Tryd.sumSz y hy) ?_)
          go_meet
          case rel => exact ⟨rfl, _, rfl⟩
        · have HX : Hid _ := hxy
          clear hxy
          go_wp2_with fail
          refine (same_any (Own.src OA.out) (Own.src OB.out) (by simp [leafT, word, hx]; omega) (by simp [leafT, word, hy]; omega)).mono ?_
          rintro e w3 ⟨rfl, n3, rfl⟩
          rw [decide_eq_false (fun e => HX.out ((leafT_eq hx hy).1 e).2)]
          go_wp2_with fail
          refine (same_any (Src.drewN (Src.kept0 S1.out B2.out) n3) (Src.drewN (Src.kept0 S2.out B2.out) n3) (by omega) (by omega)).mono ?_
          rintro e w4 ⟨rfl, n4, rfl⟩
          rw [decide_eq_true HM.out, dr2]
          have heq : ∀ n, (Op.equalIn 10000 25 (.agg (bs x).toArray) (.agg (bs y).toArray)).run Tryd.prog (wA.drewN n) = .ok false (wA.drewN n) := fun n => by rw [eq25 9998 x y hx hy, decide_eq_false HX.out]
          go_wp2_with (first | refine wpList_load_g (by rfl) 25 (.tmp 8) rfl (w.heap.size + 1) 0 rfl (bs x) _ (RX.out _) Tryd.underlying25 rfl (Tryd.sumSz x hx) ?_ | refine wpList_load_g (by rfl) 25 (.tmp 34) rfl w.heap.size 36 rfl (bs y) _ (RY.out _) Tryd.underlying25 rfl (Tryd.sumSz y hy) ?_)
          go_meet
          case rel => exact ⟨rfl, _, rfl⟩
      · have HM : Hid _ := hm
        clear hm
        go_wp2_with fail
        refine (same_any (Own.src OA.out) (Own.src OB.out) (by simp [leafT, word, hx]; omega) (by simp [leafT, word, hy]; omega)).mono ?_
        rintro e w3 ⟨rfl, n3, rfl⟩
        rw [decide_eq_false (fun e => HM.out ((leafT_eq hx hy).1 e).1)]
        go_wp2_with fail
        refine (same_any (Src.drewN (Src.kept0 S1.out B2.out) n3) (Src.drewN (Src.kept0 S2.out B2.out) n3) (by omega) (by omega)).mono ?_
        rintro e w4 ⟨rfl, n4, rfl⟩
        rw [decide_eq_false HM.out, dr2]
        go_wp2_with fail
        go_meet
        case rel => exact ⟨rfl, _, rfl⟩
    case rest =>
      obtain ⟨rfl, n9, rfl⟩ := hcut
      obtain ⟨wB, hwB⟩ : ∃ v, v = wA.drewN n9 := ⟨_, rfl⟩
      have B3 : Hid (Below W.heap.size W wB) := by rw [hwB]; exact Below.drewN B2.out
      have OA3 : Hid (Own wB u11 (leafT m1 x)) := by rw [hwB]; exact OA.out
      rw [← hwB]
      clear hwB OA OB B2 RX RY
      go_upto_region 4 with fail
      go_cut [13, 14] from 19 (fun s13 s14 wx => Hid (Below W.heap.size W wx ∧ Own wx u11 (leafT m1 x) ∧ Own wx s13 (pairT lv cn m x y) ∧ Own wx s14 (rootT n x)))
      case first =>
        refine wp_region_held_drew (S := fun w' => KB w' w.heap.size lv cn kv ad y x) (by kernel_rfl) (KB.drew (KB.keep BL.out B3.out)) (fun hH => ?_)
        refine wpAnyH_take (i := 0) (v := .agg (kidC lv cn kv ad y).toArray) rfl (by kernel_rfl) (by kernel_rfl) (by kernel_rfl) (fun _ _ _ h => h) (yieldsIf_load_mid (by rfl) _ _ rfl w.heap.size 0 rfl _ _ (fun w' h => Blk.range h.k (by simp)) Tryd.underlying29 rfl (Tryd.kidSz lv cn kv ad y ha hy)) hH ?_
        refine wpAnyH_take (i := 1) (v := .agg (bs x).toArray) rfl (by kernel_rfl) (by kernel_rfl) (by kernel_rfl) (fun _ _ _ h => h) (yieldsIf_load_mid (by rfl) _ _ rfl (w.heap.size + 1) 0 rfl _ _ (fun w' h => Blk.range h.s (by simp)) Tryd.underlying25 rfl (Tryd.sumSz x hx)) hH ?_
        refine wpAnyH_take (i := 3) (v := .int .u64 n) rfl (by kernel_rfl) (by kernel_rfl) (by kernel_rfl) (fun _ _ _ h => h) (Or.inl ⟨by rfl, fun w' _ => by go_simp⟩) hH ?_
        refine wpAnyH_take (i := 4) (v := .agg (bs x).toArray) rfl (by kernel_rfl) (by kernel_rfl) (by kernel_rfl) (fun _ _ _ h => h) (yieldsIf_load_mid (by rfl) _ _ rfl (w.heap.size + 1) 0 rfl _ _ (fun w' h => Blk.range h.s (by simp)) Tryd.underlying25 rfl (Tryd.sumSz x hx)) hH ?_
        refine wpAnyH_ready (rs := [2]) (by kernel_rfl) (by simp) ?_
        refine AllReadyH.cons rfl (fun K hK => ?_) AllReadyH.nil
        go_simp
        refine Calls.mono (pairText_any (w := wB.drew) (show Tags wB from Tags.keep HT.out B3.out) (Src.drew1 (Src.kept0 HS.out B3.out)) lv cn hlv h0 h1 ad y x ha hy hx (by omega)) ?_
        rintro e w1 ⟨vc, rfl, mc⟩
        have bc : Below wB.heap.size wB w1 := Below.drew0 mc.2.1
        have bl1 : Below W.heap.size W w1 := B3.out.trans (bc.mono B3.out.size)
        refine hK.out _ _ (KB.keep BL.out bl1) (fun hH => ?_)
        clear hK K
        refine wpAnyH_ready (rs := [5]) (by kernel_rfl) (by simp) ?_
        refine AllReadyH.cons rfl (fun K hK => ?_) AllReadyH.nil
        go_simp
        refine Calls.mono (rootText_any (Tags.keep HT.out bl1) n n0 n1 x hx) ?_
        rintro e w2 ⟨vd, rfl, md⟩
        have bl2 : Below W.heap.size W w2 := bl1.trans (md.2.1.mono bl1.size)
        have oc : Own w2 vc (pairT lv cn m x y) := mc.1.kept (Chg.of_below md.2.1 (fun _ => False)) (fun _ _ h => h)
        have oa : Own w2 u11 (leafT m1 x) := (OA3.out.kept (Chg.of_below bc (fun _ => False)) (fun _ _ h => h)).kept (Chg.of_below md.2.1 (fun _ => False)) (fun _ _ h => h)
        refine hK.out _ _ (KB.keep BL.out bl2) (fun hH => ?_)
        have R : Hid (Below W.heap.size W w2 ∧ Own w2 u11 (leafT m1 x) ∧ Own w2 vc (pairT lv cn m x y) ∧ Own w2 vd (rootT n x)) := ⟨bl2, oa, oc, md.1⟩
        clear hK K oa mc md bl1 bl2 bc oc
        refine wpAnyH_take (i := 6) (v := vc) rfl (by kernel_rfl) (by kernel_rfl) (by kernel_rfl) (fun _ _ _ h => h) (Or.inl ⟨by rfl, fun w' _ => by go_simp⟩) hH ?_
        refine wpAnyH_take (i := 7) (v := vd) rfl (by kernel_rfl) (by kernel_rfl) (by kernel_rfl) (fun _ _ _ h => h) (Or.inl ⟨by rfl, fun w' _ => by go_simp⟩) hH ?_
        refine wpAnyH_done (by kernel_rfl) ?_ _
        clear hH
        go_wp2_with fail
        go_meet
        case rel => exact R.out
      case rest =>
        obtain ⟨wC, hwC⟩ : ∃ v, v = wc := ⟨_, rfl⟩
        subst hwC
        obtain ⟨bC, oa, oc, od⟩ := hcut.out
        obtain ⟨ga, ka, fa, la1, la2⟩ := Own.form2 oa (by simp [leafT])
        obtain ⟨gc, kc, fc, lc1, lc2⟩ := Own.form2 oc (by simp [pairT])
        obtain ⟨gd, kd, fd, ld1, ld2⟩ := Own.form2 od (by simp [rootT])
        obtain ⟨na, hna⟩ : ∃ z, z = (leafT m1 x).length := ⟨_, rfl⟩
        obtain ⟨nc, hnc⟩ : ∃ z, z = (pairT lv cn m x y).length := ⟨_, rfl⟩
        obtain ⟨nd, hnd⟩ : ∃ z, z = (rootT n x).length := ⟨_, rfl⟩
        have pa : 0 < na := by rw [hna]; simp [leafT]
        have pc : 0 < nc := by rw [hnc]; simp [pairT]
        have pd : 0 < nd := by rw [hnd]; simp [rootT]
        have ea : ((na : Int) == 0) = false := by simp; omega
        have ec : ((nc : Int) == 0) = false := by simp; omega
        have ed : ((nd : Int) == 0) = false := by simp; omega
        have ya : na ≤ 9223372036854775807 := by omega
        have yc : nc ≤ 9223372036854775807 := by omega
        have yd : nd ≤ 9223372036854775807 := by omega
        have ca : wC.cell? ⟨ga, 0, none⟩ = some (.int .u8 17) := by
          obtain ⟨g, o, e, h⟩ := Src.at (by rw [← fa]; exact Own.src oa) 0 (by simp [leafT])
          injection e with e; injection e with e1 e2; subst e1 e2; simpa [leafT] using h
        have cc : wC.cell? ⟨gc, 0, none⟩ = some (.int .u8 19) := by
          obtain ⟨g, o, e, h⟩ := Src.at (by rw [← fc]; exact Own.src oc) 0 (by simp [pairT])
          injection e with e; injection e with e1 e2; subst e1 e2; simpa [pairT] using h
        have cd : wC.cell? ⟨gd, 0, none⟩ = some (.int .u8 20) := by
          obtain ⟨g, o, e, h⟩ := Src.at (by rw [← fd]; exact Own.src od) 0 (by simp [rootT])
          injection e with e; injection e with e1 e2; subst e1 e2; simpa [rootT] using h
        rw [← hna] at fa
        rw [← hnc] at fc
        rw [← hnd] at fd
        subst fa fc fd
        have B4 : Hid _ := bC
        have OC : Hid (Own wC (.slice (some ⟨gc, 0, none⟩) nc kc) (pairT lv cn m x y)) := oc
        have CA : Hid _ := ca
        have CC : Hid _ := cc
        have CD : Hid _ := cd
        clear hcut bC oa oc od la1 la2 lc1 lc2 ld1 ld2 hna hnc hnd ca cc cd OA3 B3
        go_wp2_with (go_at_call 9; refine Calls.mono (headText_any (Tags.keep HT.out B4.out)) ?_; rintro e w5 ⟨vh, rfl, mh⟩; obtain ⟨gh, kh, fh, _, _⟩ := Own.form2 mh.1 (by simp [headT]); simp only [headT, List.length_cons, List.length_nil, Nat.zero_add] at fh; subst fh; have B5 : Hid _ := mh.2.1; clear mh)
        clear ea ec ed
        go_cut [15] from 19 (fun s15 wx => ∃ g, s15 = .slice (some ⟨g, 0, none⟩) 4 4 ∧ Hid (Below W.heap.size W wx ∧ Own wx (.slice (some ⟨gc, 0, none⟩) nc kc) (pairT lv cn m x y) ∧ Blk wx g (bs [17, 19, 20, 18]) 5))
        case first =>
          have S5 : Hid (Three w5.drew ga gc gd) := ⟨Below.cell_some B5.out CA.out, Below.cell_some B5.out CC.out, Below.cell_some B5.out CD.out⟩
          refine wp_region_held_drew (S := fun w' => Three w' ga gc gd) (by kernel_rfl) S5.out (fun hH => ?_)
          refine wpAnyH_take (i := 0) (v := .slice (some ⟨ga, 0, none⟩) na ka) rfl (by kernel_rfl) (by kernel_rfl) (by kernel_rfl) (fun _ _ _ h => h) (Or.inl ⟨by rfl, fun w' _ => by go_simp⟩) hH ?_
          refine wpAnyH_take (i := 1) (v := .pointer (some ⟨ga, 0, none⟩)) rfl (by kernel_rfl) (by kernel_rfl) (by kernel_rfl) (fun _ _ _ h => h) (Or.inl ⟨by rfl, fun w' _ => by go_simp⟩) hH ?_
          refine wpAnyH_take (i := 2) (v := .int .u8 17) rfl (by kernel_rfl) (by kernel_rfl) (by kernel_rfl) (fun _ _ _ h => h) (Or.inl ⟨by rfl, fun w' hw' => by have q1 := hw'.a; go_simp⟩) hH ?_
          refine wpAnyH_take (i := 3) (v := .slice (some ⟨gc, 0, none⟩) nc kc) rfl (by kernel_rfl) (by kernel_rfl) (by kernel_rfl) (fun _ _ _ h => h) (Or.inl ⟨by rfl, fun w' _ => by go_simp⟩) hH ?_
          refine wpAnyH_take (i := 4) (v := .pointer (some ⟨gc, 0, none⟩)) rfl (by kernel_rfl) (by kernel_rfl) (by kernel_rfl) (fun _ _ _ h => h) (Or.inl ⟨by rfl, fun w' _ => by go_simp⟩) hH ?_
          refine wpAnyH_take (i := 5) (v := .int .u8 19) rfl (by kernel_rfl) (by kernel_rfl) (by kernel_rfl) (fun _ _ _ h => h) (Or.inl ⟨by rfl, fun w' hw' => by have q1 := hw'.c; go_simp⟩) hH ?_
          refine wpAnyH_take (i := 6) (v := .slice (some ⟨gd, 0, none⟩) nd kd) rfl (by kernel_rfl) (by kernel_rfl) (by kernel_rfl) (fun _ _ _ h => h) (Or.inl ⟨by rfl, fun w' _ => by go_simp⟩) hH ?_
          refine wpAnyH_take (i := 7) (v := .pointer (some ⟨gd, 0, none⟩)) rfl (by kernel_rfl) (by kernel_rfl) (by kernel_rfl) (fun _ _ _ h => h) (Or.inl ⟨by rfl, fun w' _ => by go_simp⟩) hH ?_
          refine wpAnyH_take (i := 8) (v := .int .u8 20) rfl (by kernel_rfl) (by kernel_rfl) (by kernel_rfl) (fun _ _ _ h => h) (Or.inl ⟨by rfl, fun w' hw' => by have q1 := hw'.d; go_simp⟩) hH ?_
          refine wpAnyH_ready (rs := [9]) (by kernel_rfl) (by simp) ?_
          refine AllReadyH.cons rfl (fun K hK => ?_) AllReadyH.nil
          go_simp
          have b5 : Below W.heap.size W w5 := B4.out.trans (B5.out.mono B4.out.size)
          refine Calls.mono (headText_any (w := w5.drew) (show Tags w5 from Tags.keep HT.out b5)) ?_
          rintro e w6 ⟨vi, rfl, mi⟩
          have b6 : Below w5.heap.size w5 w6 := Below.drew0 mi.2.1
          obtain ⟨gi, ki, fi, _, _⟩ := Own.form2 mi.1 (by simp [headT])
          simp only [headT, List.length_cons, List.length_nil, Nat.zero_add] at fi
          subst fi
          have ci : w6.cell? ⟨gi, 0, none⟩ = some (.int .u8 18) := by
            obtain ⟨g, o, e, h⟩ := Src.at (Own.src mi.1) 0 (by simp [headT])
            injection e with e; injection e with e1 e2; subst e1 e2; simpa [headT] using h
          have S6 : Three w6 ga gc gd := ⟨Below.cell_some b6 S5.out.a, Below.cell_some b6 S5.out.c, Below.cell_some b6 S5.out.d⟩
          have S7 : Hid (Three (w6.alloc (.cells (bs [17, 19, 20, 18]).toArray 5)) ga gc gd) := S6.alloc _
          have R : Hid (Below W.heap.size W (w6.alloc (.cells (bs [17, 19, 20, 18]).toArray 5)) ∧ Own (w6.alloc (.cells (bs [17, 19, 20, 18]).toArray 5)) (.slice (some ⟨gc, 0, none⟩) nc kc) (pairT lv cn m x y) ∧ Blk (w6.alloc (.cells (bs [17, 19, 20, 18]).toArray 5)) w6.heap.size (bs [17, 19, 20, 18]) 5) := by
            have b56 := b5.trans (b6.mono b5.size)
            refine ⟨b56.alloc b56.size _, Own.alloc ?_ _, Blk.made _ _ _⟩
            exact (OC.out.kept (Chg.of_below B5.out (fun _ => False)) (fun _ _ h => h)).kept (Chg.of_below b6 (fun _ => False)) (fun _ _ h => h)
          refine hK.out _ _ S6 (fun hH => ?_)
          clear hK K mi b6 b5
          refine wpAnyH_take (i := 10) (v := .pointer (some ⟨gi, 0, none⟩)) rfl (by kernel_rfl) (by kernel_rfl) (by kernel_rfl) (fun _ _ _ h => h) (Or.inl ⟨by rfl, fun w' _ => by go_simp⟩) hH ?_
          refine wpAnyH_ready (rs := [11]) (by kernel_rfl) (by simp) ?_
          refine AllReadyH.cons rfl (fun K hK => ?_) AllReadyH.nil
          go_simp
          refine hK.out _ _ S6 (fun hH => ?_)
          clear hK K
          refine wpAnyH_ready (rs := [12]) (by kernel_rfl) (by simp) ?_
          refine AllReadyH.cons rfl (fun K hK => ?_) AllReadyH.nil
          go_simp
          refine hK.out _ _ S7.out (fun hH => ?_)
          clear hK K
          refine wpAnyH_take (i := 13) (v := .slice (some ⟨w6.heap.size, 0, none⟩) 4 4) rfl (by kernel_rfl) (by kernel_rfl) (by kernel_rfl) (fun _ _ _ h => h) (Or.inl ⟨by rfl, fun w' _ => by go_simp⟩) hH ?_
          refine wpAnyH_done (by kernel_rfl) ?_ _
          clear hH
          go_wp2_with fail
          go_meet
          case rel => exact ⟨_, rfl, R.out⟩
        case rest =>
          obtain ⟨wD, hwD⟩ : ∃ v, v = wc := ⟨_, rfl⟩
          subst hwD
          obtain ⟨g4, rfl, R⟩ := hcut
          obtain ⟨bD, oc, b4⟩ := R.out
          have B6 : Hid _ := bD
          have OC6 : Hid (Own wD (.slice (some ⟨gc, 0, none⟩) nc kc) (pairT lv cn m x y)) := oc
          have F4 : Hid (∀ k n, k < 4 → (wD.drewN n).cell? ⟨g4, k, none⟩ = some (.int .u8 (fv k))) := fun k n hk => fv_cell b4 k hk
          clear R bD oc b4 OC CA CC CD B4 B5
          go_wp2_with fail
          go_loopw [78] (fun i wr => ∃ k n : Nat, k ≤ 4 ∧ i = .int .i64 k ∧ wr = wD.drewN n) (fun i _ => 4 - (intOf i).toNat)
          case atStart => exact ⟨0, 0, Nat.zero_le _, rfl, rfl⟩
          case round =>
            obtain ⟨k, nn, hk, rfl, rfl⟩ := hrel
            by_cases hlt : k < 4
            · have ck := fun n => F4.out k n hlt
              have h5 := fv_hi k hlt
              have h5' : ¬ fv k ≤ 5 := by omega
              obtain ⟨fk, hfk⟩ : ∃ z, z = fv k := ⟨_, rfl⟩
              have HFK : Hid _ := hfk
              rw [← hfk] at ck h5 h5'
              clear hfk
              go_wp2_with fail
              go_loopw [17] (fun j wr => ∃ q n : Nat, q ≤ k ∧ j = .int .i64 q ∧ wr = wD.drewN n) (fun j _ => k - (intOf j).toNat)
              case atStart => exact ⟨0, nn, Nat.zero_le _, rfl, rfl⟩
              case round =>
                obtain ⟨q, n2, hq, rfl, rfl⟩ := hrel
                by_cases hlt2 : q < k
                · have cq := fun n => F4.out q n (by omega)
                  have hne : ¬ fk = fv q := by rw [HFK.out]; exact fv_ne k q hlt hlt2
                  obtain ⟨fq, hfq⟩ : ∃ z, z = fv q := ⟨_, rfl⟩
                  rw [← hfq] at cq hne
                  clear hfq
                  go_wp2_with fail
                  go_quiet (fail)
                  go_wp2_with fail
                  go_roundw
                  case rel => exact ⟨q + 1, _, by omega, by go_num, rfl⟩
                  case measure => simp [intOf]; omega
                · go_wp2_with fail
                  go_roundw
                  case rel => exact ⟨k + 1, _, by omega, by go_num, rfl⟩
                  case measure => simp [intOf]; omega
            · have hk4 : k = 4 := by omega
              subst hk4
              clear hlt hk F4
              obtain ⟨wE, hwE⟩ : ∃ v, v = wD.drewN nn := ⟨_, rfl⟩
              have B7 : Hid (Below W.heap.size W wE) := by rw [hwE]; exact Below.drewN B6.out
              have OC7 : Hid (Own wE (.slice (some ⟨gc, 0, none⟩) nc kc) (pairT lv cn m x y)) := by rw [hwE]; exact OC6.out
              rw [← hwE]
              clear hwE OC6 B6
              obtain ⟨ka0, kc0, hkf⟩ := Src.form HS.out
              have K1 : Hid (∀ v ∈ kidC lv cn kv ad y, v.oneCell' = true) := by rw [hkf]; exact kidC_one _ _ _ _ rfl
              have KB7 : Hid _ := KB.keep BL.out B7.out
              clear hkf
              go_upto_region 21 with (first
                | refine wpList_load_mid rfl 29 (.tmp 7) rfl w.heap.size 0 rfl (kidC lv cn kv ad y) _ (Blk.range (KB.k KB7.out) (by simp)) Tryd.underlying29 rfl (Tryd.kidSz lv cn kv ad y ha hy) ?_
                | (refine wpList_store_part rfl 29 (.tmp 18) (.tmp 101) rfl wE.heap.size 0 (kidC lv cn kv ad y) rfl rfl (t := 29) ⟨heap_alloc_new _ _⟩ (by rw [kidC_len lv cn kv ad y ha hy]; simp) (Tryd.kidSz lv cn kv ad y ha hy) K1.out ?_; intro w8 hw8 hc8; rw [splice_all _ _ (by rw [kidC_len lv cn kv ad y ha hy]; simp)] at hw8; have c8 : Chg (fun _ => False) wE w8 := ((Chg.refl (fun _ => False) wE).alloc _).trans hc8 (fun i e => .inr (by omega)); have KB8 : Hid _ := KB.keep KB7.out (c8.below (Nat.le_refl _) (fun _ h => h.elim)); have N8 : Hid _ := hw8; have C8 : Hid _ := c8; clear hw8 hc8 c8)
                | refine wpList_load_mid rfl 25 (.tmp 8) rfl (w.heap.size + 1) 0 rfl (bs x) _ (Blk.range (KB.s KB8.out) (by simp)) Tryd.underlying25 rfl (Tryd.sumSz x hx) ?_
                | (refine wpList_store_part rfl 25 (.tmp 103) (.tmp 102) rfl wE.heap.size 36 (bs x) rfl rfl N8.out (by rw [kidC_len lv cn kv ad y ha hy, bs_len, hx]; simp) (Tryd.sumSz x hx) (bs_one x) ?_; intro w9 hw9 hc9; rw [kidC_swap lv cn kv ad y x ha hy hx] at hw9; have c9 : Chg (fun _ => False) wE w9 := C8.out.trans hc9 (fun i e => .inr (by omega)); have b9 : Below wE.heap.size wE w9 := c9.below (Nat.le_refl _) (fun _ h => h.elim); have S9 : Hid (KD w9 w.heap.size wE.heap.size lv cn kv ad y x) := ⟨KB.keep KB7.out b9, hw9⟩; have OC9 : Hid (Own w9 (.slice (some ⟨gc, 0, none⟩) nc kc) (pairT lv cn m x y)) := OC7.out.kept c9 (fun _ _ h => h); have B9 : Hid (Below W.heap.size W w9) := B7.out.trans (b9.mono B7.out.size); clear hw9 hc9 c9 b9))
              refine wp_region_held_drew (S := fun w' => KD w' w.heap.size wE.heap.size lv cn kv ad y x) (by kernel_rfl) (KD.drew S9.out) (fun hH => ?_)
              refine wpAnyH_take (i := 0) (v := .slice (some ⟨gc, 0, none⟩) nc kc) rfl (by kernel_rfl) (by kernel_rfl) (by kernel_rfl) (fun _ _ _ h => h) (Or.inl ⟨by rfl, fun w' _ => by go_simp⟩) hH ?_
              refine wpAnyH_take (i := 1) (v := .agg (kidC lv cn kv ad x).toArray) rfl (by kernel_rfl) (by kernel_rfl) (by kernel_rfl) (fun _ _ _ h => h) (yieldsIf_load_mid (by rfl) _ _ rfl wE.heap.size 0 rfl _ _ (fun w' h => Blk.range h.n (by simp)) Tryd.underlying29 rfl (Tryd.kidSz lv cn kv ad x ha hx)) hH ?_
              refine wpAnyH_take (i := 2) (v := .pointer (some ⟨w.heap.size, 36, none⟩)) rfl (by kernel_rfl) (by kernel_rfl) (by kernel_rfl) (fun _ _ _ h => h) (Or.inl ⟨by rfl, fun w' _ => by go_simp⟩) hH ?_
              refine wpAnyH_take (i := 3) (v := .agg (bs y).toArray) rfl (by kernel_rfl) (by kernel_rfl) (by kernel_rfl) (fun _ _ _ h => h) (yieldsIf_load_mid (by rfl) _ _ rfl w.heap.size 36 rfl _ _ (fun w' h => Blk.range h.b.k (kidC_label lv cn kv ad y ha)) Tryd.underlying25 rfl (Tryd.sumSz y hy)) hH ?_
              refine wpAnyH_take (i := 6) (v := .agg (bs x).toArray) rfl (by kernel_rfl) (by kernel_rfl) (by kernel_rfl) (fun _ _ _ h => h) (yieldsIf_load_mid (by rfl) _ _ rfl (w.heap.size + 1) 0 rfl _ _ (fun w' h => Blk.range h.b.s (by simp)) Tryd.underlying25 rfl (Tryd.sumSz x hx)) hH ?_
              refine wpAnyH_take (i := 7) (v := .pointer (some ⟨w.heap.size, 36, none⟩)) rfl (by kernel_rfl) (by kernel_rfl) (by kernel_rfl) (fun _ _ _ h => h) (Or.inl ⟨by rfl, fun w' _ => by go_simp⟩) hH ?_
              refine wpAnyH_take (i := 8) (v := .agg (bs y).toArray) rfl (by kernel_rfl) (by kernel_rfl) (by kernel_rfl) (fun _ _ _ h => h) (yieldsIf_load_mid (by rfl) _ _ rfl w.heap.size 36 rfl _ _ (fun w' h => Blk.range h.b.k (kidC_label lv cn kv ad y ha)) Tryd.underlying25 rfl (Tryd.sumSz y hy)) hH ?_
              refine wpAnyH_take (i := 9) (v := .bool (decide (x = y))) rfl (by kernel_rfl) (by kernel_rfl) (by kernel_rfl) (fun _ _ _ h => h) (Or.inl ⟨by rfl, fun w' _ => by have q1 := eq25 9998 x y hx hy w'; go_simp⟩) hH ?_
              refine wpAnyH_ready (rs := [4]) (by kernel_rfl) (by simp) ?_
              refine AllReadyH.cons rfl (fun K hK => ?_) AllReadyH.nil
              go_simp
              refine Calls.mono (pairText_any (w := w9.drew) (show Tags w9 from Tags.keep HT.out B9.out) (Src.drew1 (Src.kept0 HS.out B9.out)) lv cn hlv h0 h1 ad x y ha hx hy (by omega)) ?_
              rintro e w10 ⟨vp, rfl, mp⟩
              have b10 : Below w9.heap.size w9 w10 := Below.drew0 mp.2.1
              have s10 : KD w10 w.heap.size wE.heap.size lv cn kv ad y x := KD.keep S9.out b10
              refine hK.out _ _ s10 (fun hH => ?_)
              clear hK K
              refine wpAnyH_ready (rs := [5]) (by kernel_rfl) (by simp) ?_
              refine AllReadyH.cons rfl (fun K hK => ?_) AllReadyH.nil
              go_simp
              have oc10 : Own w10 (.slice (some ⟨gc, 0, none⟩) nc kc) (pairT lv cn m x y) := OC9.out.kept (Chg.of_below b10 (fun _ => False)) (fun _ _ h => h)
              refine Calls.mono (same_any (Own.src oc10) (Own.src mp.1) (by simp [pairT, long, word, hx, hy]; omega) (by simp [pairT, long, word, hx, hy]; omega)) ?_
              rintro e w11 ⟨rfl, n11, rfl⟩
              have hbb : decide (pairT lv cn m x y = pairT lv cn m y x) = decide (x = y) := decide_eq_decide.2 (pairT_eq hx hy)
              rw [hbb]
              have R : Hid (Below w.heap.size w (w10.drewN n11)) := BW.out.trans ((Below.drewN (B9.out.trans (b10.mono B9.out.size))).mono BW.out.size)
              refine hK.out _ _ (KD.drewN s10 n11) (fun hH => ?_)
              clear hK K mp b10 oc10 s10 hbb
              refine wpAnyH_take (i := 10) (v := .bool true) rfl (by kernel_rfl) (by kernel_rfl) (by kernel_rfl) (fun _ _ _ h => h) (Or.inl ⟨by rfl, fun w' _ => by go_simp⟩) hH ?_
              refine wpAnyH_take (i := 11) (v := .bool true) rfl (by kernel_rfl) (by kernel_rfl) (by kernel_rfl) (fun _ _ _ h => h) (Or.inl ⟨by rfl, fun w' _ => by go_simp⟩) hH ?_
              refine wpAnyH_done (by kernel_rfl) ?_ _
              clear hH
              go_wp2_with fail
              go_ret
              exact ⟨rfl, R.out⟩
  end Go.Proofs.YtoilnommhkmioaaDoor
