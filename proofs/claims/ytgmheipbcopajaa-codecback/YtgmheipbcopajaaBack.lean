/-
  CodecBack, walked.
-/
import Derived.Test.YtgmheipbcopajaaTwG
import Derived.Test.YtgmheipbcopajaaEq2
namespace Go.Proofs.Ytgmheipbcopajaa
open Go.RowKit

theorem TwOp.keep {w w' : World} {T : Tw} (h : TwOp w T) (b : Below w.heap.size w w') : TwOp w' T := by
  have c := Chg.of_below b (fun _ => False)
  refine ⟨h.src.keptE c (fun _ _ => .inl (fun e => e)), fun g hg => (h.av g hg).imp (fun e => Nat.lt_of_lt_of_le e b.size) id, h.kn, h.vl, h.sn, h.kl, fun i hi => ?_, fun i hi => ?_⟩
  · obtain ⟨g, o, a, d, r⟩ := h.row i hi
    exact ⟨g, o, a, Nat.lt_of_lt_of_le d b.size, rangeAt_kept r c (fun e => e)⟩
  · obtain ⟨k, r⟩ := h.kid i hi
    refine ⟨?_, r⟩
    have k2 := k.kept c (fun _ _ e => e)
    exact ⟨k2.src, fun g hg => (k.av g hg).imp (fun e => Nat.lt_of_lt_of_le e b.size) id, k2.lv, k2.ct, k2.ad, k2.lb⟩
theorem neqAgg {t : TypeId} {xs : Array Value} {w : World} (h : (Op.equalIn 10000 t (.agg xs) (.agg xs)).run Try.prog w = .ok true w) : (binOp .neq t (.agg xs) (.agg xs)).run Try.prog w = .ok (.bool false) w := by
  simp only [binOp]
  simp [Op.equal, Op.maxDepth, h]
theorem Own.cut {w : World} {g c : Nat} {l : List Int} (h : Own w (.slice (some ⟨g, 0, none⟩) l.length c) l) (hb : Byts l) (hl : l.length ≤ 140737488355328) (hc : l.length ≤ c ∧ c ≤ 9223372036854775807) (hp : 0 < l.length) {m : Nat} (hm : m ≤ l.length) : In w (.slice (some ⟨g, 0, none⟩) m c) (l.take m) := by
  have hlm : (l.take m).length = m := by rw [List.length_take]; omega
  have h2 : Own w (.slice (some ⟨g, 0, none⟩) l.length c) (l.take m ++ l.drop m) := by rw [List.take_append_drop]; exact h
  have s := Own.front h2 c (by rw [List.take_append_drop]; exact hp)
  rw [hlm] at s
  exact ⟨s, hb.take m, by omega, ⟨_, c, by rw [hlm], by omega, by omega⟩, fun k hk => h.lt hk⟩

theorem src_one (w : World) (x : Int) : Src (w.alloc (.cells #[.int .u8 x] 5)) (.slice (some ⟨w.heap.size, 0, none⟩) 1 1) [x] :=
  .inr ⟨⟨w.heap.size, 0, none⟩, 1, rfl, fun j u hu => ⟨rfl, by
    have hj : j = 0 := by
      have := (List.getElem?_eq_some_iff.1 hu).1
      simp [bs] at this
      omega
    subst hj
    rw [cell_of_row _ _ _ _ _ _ (heap_alloc_new _ _)]
    simpa [bs] using hu⟩⟩

set_option maxRecDepth 100000 in
set_option maxHeartbeats 16000000 in
theorem back_any {w : World} {T : Tw} (hT : TwOp w T) (hTb : TwByt T) (n : Nat) (y : List Int) (hn : n < 18446744073709551616) (hy : y.length = 32) (bty : Byts y) (f x1 y1 x2 y2 : List Int) (hf : f = (x1 ++ y1) ++ (x2 ++ y2)) (hx1 : x1.length = 33) (hy1 : y1.length = 32) (hx2 : x2.length = 33) (hy2 : y2.length = 32) (btf : Byts f) (cut : Int) (hcu : -9223372036854775808 ≤ cut ∧ cut ≤ 9223372036854775807) (more : Int) (hmo : 0 ≤ more ∧ more ≤ 255) :
    Calls Try.prog 6 #[.agg T.cells.toArray, .agg (leafC n y).toArray, .agg (bs f).toArray, .int .i64 cut, .int .u8 more] w fun e w' => e = .returned (.bool true) ∧ Below w.heap.size w w' := by
  obtain ⟨X, hX⟩ : ∃ X, X = w.heap.size := ⟨_, rfl⟩
  obtain ⟨W, hW⟩ : ∃ W, W = ((w.alloc (.cells T.cells.toArray 69)).alloc (.cells (leafC n y).toArray 71)).alloc (.cells (bs f).toArray 75) := ⟨_, rfl⟩
  have hb : Below w.heap.size w W := by rw [hW]; exact (((Below.refl _ _).alloc (Nat.le_refl _) _).alloc (by simp) _).alloc (by simp; omega) _
  have HB : Hid _ := hb
  have B5 : Hid (Blk W X T.cells 69) := by rw [hW, hX]; exact ((Blk.made w _ 69).alloc _).alloc _
  have B6 : Hid (Blk W (X + 1) (leafC n y) 71) := by
    rw [hW, hX]
    have := (Blk.made (w.alloc (.cells T.cells.toArray 69)) (leafC n y) 71).alloc (.cells (bs f).toArray 75)
    rwa [World.size_alloc] at this
  have B7 : Hid (Blk W (X + 1 + 1) (bs f) 75) := by
    rw [hW, hX]
    have := Blk.made ((w.alloc (.cells T.cells.toArray 69)).alloc (.cells (leafC n y).toArray 71)) (bs f) 75
    rwa [World.size_alloc, World.size_alloc] at this
  have HT : Hid (TwOp W T) := hT.keep hb
  have HTB : Hid _ := hTb
  have HF : Hid _ := hf
  have BTY : Hid _ := bty
  have BTF : Hid _ := btf
  have hfl : f.length = 130 := by rw [hf]; simp [hx1, hy1, hx2, hy2]
  have HV := hT.vl
  clear hT hb hTb hf bty btf
  go_enter Try.func6, Try.ntmps6
  go_upto_region 1 with fail
  rw [← hX, ← hW]
  have HX : Hid _ := hX
  clear hX hW
  go_wp2_with (refine wpList_load_part rfl 69 (.tmp 5) rfl X 0 T.cells rfl B5.out (by simp) Try.underlying69 rfl (Try.towSz T HV) ?_)
  refine Calls.mono (fitTower_any HT.out) ?_
  rintro e w1 ⟨⟨b, rfl, bl1, fit⟩⟩
  have BL1 : Hid (Below W.heap.size W w1) := bl1
  have FIT : Hid _ := fit
  clear bl1 fit
  cases b with
  | false =>
    have F : Hid (Below w.heap.size w w1) := HB.out.trans (BL1.out.mono HB.out.size)
    go_wp2_with fail
    go_ret
    exact ⟨rfl, F.out⟩
  | true =>
    have FT : Hid (TwFit T) := FIT.out rfl
    have C6 : w1.cell? ⟨X + 1, 0, none⟩ = some (.int .u64 n) := (B6.out.keep0 BL1.out).cell 0
    by_cases hnv : (4611686018427387904 : Int) < (n : Int)
    · have F : Hid (Below w.heap.size w w1) := HB.out.trans (BL1.out.mono HB.out.size)
      go_wp2_with fail
      go_ret
      exact ⟨rfl, F.out⟩
    · have D5 : Hid (Blk w1 X T.cells 69) := B5.out.keep0 BL1.out
      have HN : Hid (n ≤ 4611686018427387904) := by show n ≤ _; omega
      go_wp2_with (refine wpList_load_part rfl 69 (.tmp 5) rfl X 0 T.cells rfl D5.out (by simp) Try.underlying69 rfl (Try.towSz T HV) ?_)
      clear C6 D5 hnv
      have LN := Tw.len FT.out
      refine Calls.mono (cTower_any ((HT.out.keep BL1.out).in_ FT.out) (by omega)) ?_
      rintro e w2 ⟨b, rfl, m2⟩
      have BL2 : Hid (Below W.heap.size W w2) := BL1.out.trans (m2.2.1.mono BL1.out.size)
      have OB2 : Hid (Own w2 b T.bytes) := m2.1
      obtain ⟨bg, bc, hbf, hbc, hbm⟩ := m2.1.form2 LN.1
      obtain ⟨N1, hN1⟩ : ∃ N1, N1 = T.bytes.length := ⟨_, rfl⟩
      rw [← hN1] at hbf hbc LN
      have HN1 : Hid _ := hN1
      subst hbf
      clear m2 hN1 BL1
      go_wp2_with fail
      refine Calls.mono (towerCode_any (OB2.out.in_ (Tw.byts HTB.out) (by have := HN1.out; omega))) ?_
      rintro e w3 ⟨C, rfl, bl3, hC, tis⟩
      rw [show towE T.bytes = 0 from tower_all FT.out]
      have BL3 : Hid (Below W.heap.size W w3) := BL2.out.trans (bl3.mono BL2.out.size)
      have OB3 : Hid (Own w3 (.slice (some ⟨bg, 0, none⟩) N1 bc) T.bytes) := OB2.out.kept (Chg.of_below bl3 (fun _ => False)) (fun _ _ e => e)
      have TIS : Hid (TowIs w3 w2.heap.size (towerS T.bytes 0 0) C) := tis (tower_all FT.out)
      have HC := hC.1
      have HCO : Hid _ := hC.2
      clear bl3 hC tis BL2 OB2
      go_upto_region 5 with (refine wpList_store_part rfl 69 (.tmp 12) (.tmp 36) rfl w3.heap.size 0 C rfl rfl (t := 69) ⟨heap_alloc_new _ _⟩ (by rw [HC]; simp [towZ, towC, bs]) (Try.towZsz C HC) HCO.out ?_; intro w4 hw4 hc4; rw [splice_all _ _ (by rw [HC]; simp [towZ, towC, bs])] at hw4; have D12 : Hid _ := hw4; have c8 : Chg (fun _ => False) w3 w4 := ((Chg.refl (fun _ => False) w3).alloc _).trans hc4 (fun i e => .inr (by omega)); have C4 : Hid _ := c8; clear hw4 hc4 c8)
      have BL4 : Hid (Below W.heap.size W w4) := BL3.out.trans (C4.out.below BL3.out.size (fun _ e => e.elim))
      have Ob4 : Hid (Own w4 (.slice (some ⟨bg, 0, none⟩) N1 bc) (T.bytes)) := OB3.out.kept C4.out (fun _ _ e => e)
      have TIS4 : Hid (TowIs w4 w2.heap.size (towerS T.bytes 0 0) C) := TIS.out.fresh C4.out
      clear BL3 OB3 TIS C4
      have D6 : Hid (Blk w4 (X + 1) (leafC n y) 71) := B6.out.keep0 BL4.out
      go_wp2_with (refine wpList_load_part rfl 71 (.tmp 6) rfl (X + 1) 0 (leafC n y) rfl D6.out (by simp) Try.underlying71 rfl (Try.leafSz n y hy) ?_)
      clear D6
      refine Calls.mono (cLeaf_any n y hn hy) ?_
      rintro e w5 ⟨cv, rfl, m⟩
      have BL5 : Hid (Below W.heap.size W w5) := BL4.out.trans (m.2.1.mono BL4.out.size)
      have Oc5 : Hid (Own w5 cv (numB n ++ y)) := m.1
      have Ob5 : Hid (Own w5 (.slice (some ⟨bg, 0, none⟩) N1 bc) (T.bytes)) := Ob4.out.kept (Chg.of_below m.2.1 (fun _ => False)) (fun _ _ e => e)
      have K5 : Hid (Chg (fun _ => False) w4 w5) := Chg.of_below m.2.1 (fun _ => False)
      obtain ⟨cg, cc, hcf, hcc, hcm⟩ := m.1.form2 (by simp [hy])
      obtain ⟨N2, hN2⟩ : ∃ N2, N2 = (numB n ++ y).length := ⟨_, rfl⟩
      rw [← hN2] at hcf hcc
      have HN2 : Hid _ := hN2
      have PN2 : 0 < N2 := by rw [hN2]; exact by simp [hy]
      have QN2 : N2 ≤ 30000 := by rw [hN2]; have := numB_ten hn; simp [hy]; omega
      subst hcf
      clear m hN2
      go_wp2_with fail
      refine Calls.mono (leafCode_any (Oc5.out.in_ ((numB_byts _ _ (Nat.le_refl _)).app BTY.out) (by have := HN2.out; omega))) ?_
      rintro e w6 ⟨rfl, bl⟩
      rw [show leafE (numB n ++ y) = 0 from (leaf_all HN.out hy).1, show leafA (numB n ++ y) = leafC n y from (leaf_all HN.out hy).2]
      have BL6 : Hid (Below W.heap.size W w6) := BL5.out.trans (bl.mono BL5.out.size)
      have K6 : Hid (Chg (fun _ => False) w5 w6) := Chg.of_below bl (fun _ => False)
      clear bl
      go_upto_region 7 with (refine wpList_store_part rfl 71 (.tmp 15) (.tmp 43) rfl w6.heap.size 0 (leafC n y) rfl rfl (t := 71) ⟨heap_alloc_new _ _⟩ (by simp [leafC, bs, hy]) (Try.leafSz n y hy) (leafC_one n y) ?_; intro w7 hw4 hc4; rw [splice_all _ _ (by simp [leafC, bs, hy])] at hw4; have E15 : Hid _ := hw4; have c8 : Chg (fun _ => False) w6 w7 := ((Chg.refl (fun _ => False) w6).alloc _).trans hc4 (fun i e => .inr (by omega)); have K7 : Hid _ := c8; clear hw4 hc4 c8)
      have J7 : Hid (Chg (fun _ => False) w4 w7) := (K5.out.trans K6.out (fun _ e => e.elim)).trans K7.out (fun _ e => e.elim)
      have BL7 : Hid (Below W.heap.size W w7) := BL6.out.trans (K7.out.below BL6.out.size (fun _ e => e.elim))
      have Oc7 : Hid (Own w7 (.slice (some ⟨cg, 0, none⟩) N2 cc) (numB n ++ y)) := (Oc5.out.kept K6.out (fun _ _ e => e)).kept K7.out (fun _ _ e => e)
      have Ob7 : Hid (Own w7 (.slice (some ⟨bg, 0, none⟩) N1 bc) (T.bytes)) := Ob4.out.kept J7.out (fun _ _ e => e)
      clear K5 K6 K7 BL5 BL6 Oc5 Ob5
      have D7 : Hid (Blk w7 (X + 1 + 1) (bs f) 75) := B7.out.keep0 BL7.out
      go_wp2_with (refine wpList_load_part rfl 75 (.tmp 7) rfl (X + 1 + 1) 0 (bs f) rfl D7.out (by simp) Try.underlying75 rfl (Try.forkSz f hfl) ?_)
      clear D7
      refine Calls.mono (cFork_any f x1 y1 x2 y2 HF.out hx1 hy1 hx2 hy2) ?_
      rintro e w8 ⟨dv, rfl, m⟩
      have BL8 : Hid (Below W.heap.size W w8) := BL7.out.trans (m.2.1.mono BL7.out.size)
      have Od8 : Hid (Own w8 dv (f)) := m.1
      have Ob8 : Hid (Own w8 (.slice (some ⟨bg, 0, none⟩) N1 bc) (T.bytes)) := Ob7.out.kept (Chg.of_below m.2.1 (fun _ => False)) (fun _ _ e => e)
      have Oc8 : Hid (Own w8 (.slice (some ⟨cg, 0, none⟩) N2 cc) (numB n ++ y)) := Oc7.out.kept (Chg.of_below m.2.1 (fun _ => False)) (fun _ _ e => e)
      have K8 : Hid (Chg (fun _ => False) w7 w8) := Chg.of_below m.2.1 (fun _ => False)
      obtain ⟨dg, dc, hdf, hdc, hdm⟩ := m.1.form2 (by omega)
      obtain ⟨N3, hN3⟩ : ∃ N3, N3 = (f).length := ⟨_, rfl⟩
      rw [← hN3] at hdf hdc
      have HN3 : Hid _ := hN3
      have PN3 : 0 < N3 := by rw [hN3]; exact by omega
      have QN3 : N3 ≤ 30000 := by rw [hN3]; omega
      subst hdf
      clear m hN3
      go_wp2_with fail
      refine Calls.mono (forkCode_any (Od8.out.in_ (BTF.out) (by have := HN3.out; omega))) ?_
      rintro e w9 ⟨rfl, bl⟩
      rw [show forkE f = 0 from (fork_all hfl).1, show forkA f = bs f from (fork_all hfl).2]
      have BL9 : Hid (Below W.heap.size W w9) := BL8.out.trans (bl.mono BL8.out.size)
      have K9 : Hid (Chg (fun _ => False) w8 w9) := Chg.of_below bl (fun _ => False)
      clear bl
      go_upto_region 9 with (refine wpList_store_part rfl 75 (.tmp 18) (.tmp 50) rfl w9.heap.size 0 (bs f) rfl rfl (t := 75) ⟨heap_alloc_new _ _⟩ (by simp [bs, hfl]) (Try.forkSz f hfl) (bs_one f) ?_; intro w10 hw4 hc4; rw [splice_all _ _ (by simp [bs, hfl])] at hw4; have E18 : Hid _ := hw4; have c8 : Chg (fun _ => False) w9 w10 := ((Chg.refl (fun _ => False) w9).alloc _).trans hc4 (fun i e => .inr (by omega)); have K10 : Hid _ := c8; clear hw4 hc4 c8)
      have J10 : Hid (Chg (fun _ => False) w7 w10) := (K8.out.trans K9.out (fun _ e => e.elim)).trans K10.out (fun _ e => e.elim)
      have BL10 : Hid (Below W.heap.size W w10) := BL9.out.trans (K10.out.below BL9.out.size (fun _ e => e.elim))
      have Od10 : Hid (Own w10 (.slice (some ⟨dg, 0, none⟩) N3 dc) (f)) := (Od8.out.kept K9.out (fun _ _ e => e)).kept K10.out (fun _ _ e => e)
      have Ob10 : Hid (Own w10 (.slice (some ⟨bg, 0, none⟩) N1 bc) (T.bytes)) := Ob7.out.kept J10.out (fun _ _ e => e)
      have Oc10 : Hid (Own w10 (.slice (some ⟨cg, 0, none⟩) N2 cc) (numB n ++ y)) := Oc7.out.kept J10.out (fun _ _ e => e)
      clear K8 K9 K10 BL8 BL9 Od8 Ob8 Oc8
      have G12 : Hid (Blk w10 w3.heap.size C 69) := (D12.out.keep J7.out (fun e => e)).keep J10.out (fun e => e)
      have G5 : Hid (Blk w10 X T.cells 69) := B5.out.keep0 BL10.out
      have TB := tower_back (R := []) FT.out
      rw [List.append_nil] at TB
      obtain ⟨sa1, sc1, A1, ac1, ff, hCe, hsrc, hkr⟩ := sides FT.out ((HT.out.keep BL10.out).in_ FT.out) ((TIS4.out.fresh J7.out).fresh J10.out) TB.1 TB.2.1 TB.2.2.1 TB.2.2.2.1 (many_len _ _ _)
      have EC : Hid _ := hCe
      have HSRC : Hid _ := hsrc
      have HKR : Hid _ := hkr
      clear TB hCe hsrc hkr
      go_wp2_with (first
        | refine wpList_load_g (by rfl) 69 (.tmp 12) rfl w3.heap.size 0 C rfl G12.out (by simp) Try.underlying69 rfl (Try.towZsz C HC) ?_
        | refine wpList_load_g (by rfl) 69 (.tmp 5) rfl X 0 T.cells rfl G5.out (by simp) Try.underlying69 rfl (Try.towSz T HV) ?_)
      rw [EC.out]
      refine Calls.mono (sameTower_any HV FT.out.kl HSRC.out (HT.out.keep BL10.out).src HKR.out FT.out.sn) ?_
      rintro e w11 ⟨rfl, bl⟩
      have K11 : Hid (Chg (fun _ => False) w10 w11) := Chg.of_below bl (fun _ => False)
      have BL11 : Hid (Below W.heap.size W w11) := BL10.out.trans (bl.mono BL10.out.size)
      have G15 : Hid (Blk w11 w6.heap.size (leafC n y) 71) := (E15.out.keep J10.out (fun e => e)).keep K11.out (fun e => e)
      have G6 : Hid (Blk w11 (X + 1) (leafC n y) 71) := B6.out.keep0 BL11.out
      have G18 : Hid (Blk w11 w9.heap.size (bs f) 75) := E18.out.keep K11.out (fun e => e)
      have G7 : Hid (Blk w11 (X + 1 + 1) (bs f) 75) := B7.out.keep0 BL11.out
      have Ob11 : Hid (Own w11 (.slice (some ⟨bg, 0, none⟩) N1 bc) (T.bytes)) := Ob10.out.kept K11.out (fun _ _ e => e)
      have Oc11 : Hid (Own w11 (.slice (some ⟨cg, 0, none⟩) N2 cc) (numB n ++ y)) := Oc10.out.kept K11.out (fun _ _ e => e)
      have Od11 : Hid (Own w11 (.slice (some ⟨dg, 0, none⟩) N3 dc) f) := Od10.out.kept K11.out (fun _ _ e => e)
      have e71 : ∀ w, (binOp .neq 71 (.agg (leafC n y).toArray) (.agg (leafC n y).toArray)).run Try.prog w = .ok (.bool false) w := fun w => neqAgg (eq71 9997 n y hy w)
      have e75 : ∀ w, (binOp .neq 75 (.agg (bs f).toArray) (.agg (bs f).toArray)).run Try.prog w = .ok (.bool false) w := fun w => neqAgg (eq75 9995 f hfl w)
      clear bl EC HSRC HKR G12 G5 TIS4 D12 K11 J7 J10 BL10 Ob10 Oc10 Od10 E15 E18
      clear BL4 BL7 Ob4 Ob7 Oc7
      go_upto_region 11 with (first
        | refine wpList_load_g (by rfl) 71 (.tmp 15) rfl w6.heap.size 0 (leafC n y) rfl G15.out (by simp) Try.underlying71 rfl (Try.leafSz n y hy) ?_
        | refine wpList_load_g (by rfl) 71 (.tmp 6) rfl (X + 1) 0 (leafC n y) rfl G6.out (by simp) Try.underlying71 rfl (Try.leafSz n y hy) ?_
        | refine wpList_load_g (by rfl) 75 (.tmp 18) rfl w9.heap.size 0 (bs f) rfl G18.out (by simp) Try.underlying75 rfl (Try.forkSz f hfl) ?_
        | refine wpList_load_g (by rfl) 75 (.tmp 7) rfl (X + 1 + 1) 0 (bs f) rfl G7.out (by simp) Try.underlying75 rfl (Try.forkSz f hfl) ?_)
      clear G15 G6 G18 G7 e71 e75
      obtain ⟨WA, hWA⟩ : ∃ WA, WA = w11.alloc (.cells #[.slice (some ⟨bg, 0, none⟩) N1 bc, .slice (some ⟨cg, 0, none⟩) N2 cc, .slice (some ⟨dg, 0, none⟩) N3 dc] 23) := ⟨_, rfl⟩
      have kA : Chg (fun _ => False) w11 WA := by rw [hWA]; exact (Chg.refl _ _).alloc _
      have qb := Blk.made w11 [.slice (some ⟨bg, 0, none⟩) N1 bc, .slice (some ⟨cg, 0, none⟩) N2 cc, .slice (some ⟨dg, 0, none⟩) N3 dc] 23
      have q0 : WA.cell? ⟨w11.heap.size, 0, none⟩ = some (.slice (some ⟨bg, 0, none⟩) N1 bc) := by rw [hWA]; exact qb.cell 0
      have q1 : WA.cell? ⟨w11.heap.size, 1, none⟩ = some (.slice (some ⟨cg, 0, none⟩) N2 cc) := by rw [hWA]; exact qb.cell 1
      have q2 : WA.cell? ⟨w11.heap.size, 2, none⟩ = some (.slice (some ⟨dg, 0, none⟩) N3 dc) := by rw [hWA]; exact qb.cell 2
      have BLA : Hid (Below W.heap.size W WA) := BL11.out.trans (kA.below BL11.out.size (fun _ e => e.elim))
      have ObA : Hid (Own WA (.slice (some ⟨bg, 0, none⟩) N1 bc) (T.bytes)) := Ob11.out.kept kA (fun _ _ e => e)
      have OcA : Hid (Own WA (.slice (some ⟨cg, 0, none⟩) N2 cc) (numB n ++ y)) := Oc11.out.kept kA (fun _ _ e => e)
      have OdA : Hid (Own WA (.slice (some ⟨dg, 0, none⟩) N3 dc) f) := Od11.out.kept kA (fun _ _ e => e)
      have z1 : ((N1 : Int) == 0) = false := by simp; omega
      have z2 : ((N2 : Int) == 0) = false := by simp; omega
      have z3 : ((N3 : Int) == 0) = false := by simp; omega
      clear kA qb BL11 Ob11 Oc11 Od11
      go_wp2_with fail
      rw [← hWA]
      clear hWA
      go_loopw [83] (fun i wr => ∃ j : Nat, j ≤ 3 ∧ i = .int .i64 j ∧ Hid (WA = wr)) (fun i _ => 3 - (intOf i).toNat)
      case atStart => exact ⟨0, by omega, rfl, rfl⟩
      case round =>
        obtain ⟨j, hj, rfl, hid⟩ := hrel
        have hwr := hid.out
        clear hid
        subst hwr
        rcases (show j = 0 ∨ j = 1 ∨ j = 2 ∨ j = 3 by omega) with rfl | rfl | rfl | rfl
        · go_wp2_with fail
          go_roundw
          case rel => exact ⟨1, by omega, rfl, True.intro⟩
          case measure => simp [intOf]
        · go_wp2_with fail
          go_roundw
          case rel => exact ⟨2, by omega, rfl, True.intro⟩
          case measure => simp [intOf]
        · go_wp2_with fail
          go_roundw
          case rel => exact ⟨3, by omega, rfl, True.intro⟩
          case measure => simp [intOf]
        · clear q0 q1 q2
          obtain ⟨Nc, hNc⟩ : ∃ Nc : Nat, (Nc : Int) = if cut < 0 then -(cut + 1) else cut := ⟨(if cut < 0 then -(cut + 1) else cut).toNat, by split <;> omega⟩
          go_upto_if 93 with fail
          go_cut [22] from 94 to 96 (fun v wx => v = .int .i64 Nc ∧ Hid (WA = wx))
          case first =>
            by_cases hneg : cut < 0
            · rw [if_pos hneg] at hNc
              have HNC : Hid _ := hNc
              clear hNc
              go_wp2_with fail
              go_meet
              case rel =>
                have := HNC.out
                refine ⟨?_, rfl⟩
                congr 1
                omega
            · rw [if_neg hneg] at hNc
              have HNC : Hid _ := hNc
              clear hNc
              go_wp2_with fail
              go_meet
              case rel => exact ⟨by rw [HNC.out], rfl⟩
          case rest =>
            obtain ⟨rfl, hid⟩ := hcut
            have hwc := hid.out
            clear hid
            subst hwc
            have hNl : Nc ≤ 9223372036854775807 := by split at hNc <;> omega
            clear hNc
            obtain ⟨m0, hm0⟩ : ∃ m : Nat, m = Nc % N1 := ⟨_, rfl⟩
            have lt0 : m0 < N1 := by rw [hm0]; exact Nat.mod_lt _ (by omega)
            have r0 : (Nc : Int).tmod (N1 : Int) = (m0 : Int) := by rw [hm0, Int.tmod_eq_emod_of_nonneg (by omega)]; simp
            have IN0 : Hid (In WA (.slice (some ⟨bg, 0, none⟩) m0 bc) ((T.bytes).take m0)) := by
              have h9 := ObA.out
              have h8 := HN1.out
              rw [h8] at h9
              exact Own.cut h9 (Tw.byts HTB.out) (by omega) (by omega) (by omega) (by omega)
            have ne0 : ¬ towE ((T.bytes).take m0) = 0 := tower_cut FT.out (by have := HN1.out; omega)
            clear hm0
            go_wp2_with fail
            refine Calls.mono (towerCode_any IN0.out) ?_
            rintro e w12 ⟨C2, rfl, bl, _, _⟩
            obtain ⟨E0, hE0⟩ : ∃ E0, E0 = towE ((T.bytes).take m0) := ⟨_, rfl⟩
            rw [← hE0] at ne0 ⊢
            have nb0 : (E0 == 0) = false := by simpa using ne0
            clear hE0
            have KK0 : Hid (Chg (fun _ => False) WA w12) := Chg.of_below bl (fun _ => False)
            have BL12 : Hid (Below W.heap.size W w12) := BLA.out.trans (bl.mono BLA.out.size)
            have Ob12 : Hid (Own w12 (.slice (some ⟨bg, 0, none⟩) N1 bc) (T.bytes)) := ObA.out.kept KK0.out (fun _ _ e => e)
            have Oc12 : Hid (Own w12 (.slice (some ⟨cg, 0, none⟩) N2 cc) (numB n ++ y)) := OcA.out.kept KK0.out (fun _ _ e => e)
            have Od12 : Hid (Own w12 (.slice (some ⟨dg, 0, none⟩) N3 dc) f) := OdA.out.kept KK0.out (fun _ _ e => e)
            clear bl KK0 r0 IN0 BLA ObA OcA OdA
            obtain ⟨m1, hm1⟩ : ∃ m : Nat, m = Nc % N2 := ⟨_, rfl⟩
            have lt1 : m1 < N2 := by rw [hm1]; exact Nat.mod_lt _ (by omega)
            have r1 : (Nc : Int).tmod (N2 : Int) = (m1 : Int) := by rw [hm1, Int.tmod_eq_emod_of_nonneg (by omega)]; simp
            have IN1 : Hid (In w12 (.slice (some ⟨cg, 0, none⟩) m1 cc) ((numB n ++ y).take m1)) := by
              have h9 := Oc12.out
              have h8 := HN2.out
              rw [h8] at h9
              exact Own.cut h9 ((numB_byts _ _ (Nat.le_refl _)).app BTY.out) (by omega) (by omega) (by omega) (by omega)
            have ne1 : ¬ leafE ((numB n ++ y).take m1) = 0 := leaf_cut HN.out hy (by have := HN2.out; omega)
            clear hm1
            go_wp2_with fail
            refine Calls.mono (leafCode_any IN1.out) ?_
            rintro e w13 ⟨rfl, bl⟩
            obtain ⟨E1, hE1⟩ : ∃ E0, E0 = leafE ((numB n ++ y).take m1) := ⟨_, rfl⟩
            rw [← hE1] at ne1 ⊢
            have nb1 : (E1 == 0) = false := by simpa using ne1
            clear hE1
            have KK1 : Hid (Chg (fun _ => False) w12 w13) := Chg.of_below bl (fun _ => False)
            have BL13 : Hid (Below W.heap.size W w13) := BL12.out.trans (bl.mono BL12.out.size)
            have Ob13 : Hid (Own w13 (.slice (some ⟨bg, 0, none⟩) N1 bc) (T.bytes)) := Ob12.out.kept KK1.out (fun _ _ e => e)
            have Oc13 : Hid (Own w13 (.slice (some ⟨cg, 0, none⟩) N2 cc) (numB n ++ y)) := Oc12.out.kept KK1.out (fun _ _ e => e)
            have Od13 : Hid (Own w13 (.slice (some ⟨dg, 0, none⟩) N3 dc) f) := Od12.out.kept KK1.out (fun _ _ e => e)
            clear bl KK1 r1 IN1 BL12 Ob12 Oc12 Od12
            obtain ⟨m2, hm2⟩ : ∃ m : Nat, m = Nc % N3 := ⟨_, rfl⟩
            have lt2 : m2 < N3 := by rw [hm2]; exact Nat.mod_lt _ (by omega)
            have r2 : (Nc : Int).tmod (N3 : Int) = (m2 : Int) := by rw [hm2, Int.tmod_eq_emod_of_nonneg (by omega)]; simp
            have IN2 : Hid (In w13 (.slice (some ⟨dg, 0, none⟩) m2 dc) ((f).take m2)) := by
              have h9 := Od13.out
              have h8 := HN3.out
              rw [h8] at h9
              exact Own.cut h9 (BTF.out) (by omega) (by omega) (by omega) (by omega)
            have ne2 : ¬ forkE ((f).take m2) = 0 := fork_cut hfl (by have := HN3.out; omega)
            clear hm2
            go_wp2_with fail
            refine Calls.mono (forkCode_any IN2.out) ?_
            rintro e w14 ⟨rfl, bl⟩
            obtain ⟨E2, hE2⟩ : ∃ E0, E0 = forkE ((f).take m2) := ⟨_, rfl⟩
            rw [← hE2] at ne2 ⊢
            have nb2 : (E2 == 0) = false := by simpa using ne2
            clear hE2
            have KK2 : Hid (Chg (fun _ => False) w13 w14) := Chg.of_below bl (fun _ => False)
            have BL14 : Hid (Below W.heap.size W w14) := BL13.out.trans (bl.mono BL13.out.size)
            have Ob14 : Hid (Own w14 (.slice (some ⟨bg, 0, none⟩) N1 bc) (T.bytes)) := Ob13.out.kept KK2.out (fun _ _ e => e)
            have Oc14 : Hid (Own w14 (.slice (some ⟨cg, 0, none⟩) N2 cc) (numB n ++ y)) := Oc13.out.kept KK2.out (fun _ _ e => e)
            have Od14 : Hid (Own w14 (.slice (some ⟨dg, 0, none⟩) N3 dc) f) := Od13.out.kept KK2.out (fun _ _ e => e)
            clear bl KK2 r2 IN2 BL13 Ob13 Oc13 Od13
            go_wp2_with fail
            refine Calls.mono (copy_any (Ob14.out.src) (by have := HN1.out; omega)) ?_
            rintro e w15 ⟨cv0, rfl, mm⟩
            obtain ⟨ca0, cb0, hcv⟩ := mm.1.form
            obtain ⟨n0, hn0⟩ : ∃ k, k = (T.bytes).length := ⟨_, rfl⟩
            rw [← hn0] at hcv
            subst hcv
            clear hn0
            have KA0 : Hid (Chg (fun _ => False) w14 w15) := Chg.of_below mm.2.1 (fun _ => False)
            have BLx0 : Hid (Below W.heap.size W w15) := BL14.out.trans (mm.2.1.mono BL14.out.size)
            have OV0 : Hid (Own (w15.alloc (.cells #[.int .u8 more] 5)) (.slice ca0 n0 cb0) (T.bytes)) := mm.1.kept ((Chg.refl (fun _ => False) w15).alloc _) (fun _ _ e => e)
            have FR0 : Hid (∀ k, (Value.slice ca0 n0 cb0).ownBlock = some k → w14.heap.size ≤ k) := mm.2.2
            have SU0 : Hid _ := src_one w15 more
            clear mm
            go_wp2_with (refine wpList_app rfl (.tmp 139) (.tmp 141) rfl (v := .slice ca0 n0 cb0) (u := .slice (some ⟨w15.heap.size, 0, none⟩) 1 1) rfl rfl OV0.out SU0.out (by have := HN1.out; simp at this ⊢; omega) ?_; intro v0 w16 ho hc hb; have OO0 : Hid _ := ho; have HC0 : Hid _ := hc; clear ho hc hb)
            have KB0 : Hid (Chg (fun _ => False) w14 w16) := (KA0.out.trans ((Chg.refl (fun _ => False) w15).alloc _) (fun _ e => e.elim)).trans HC0.out (fun k e => .inr (FR0.out k e.symm))
            have BLy0 : Hid (Below W.heap.size W w16) := BL14.out.trans (KB0.out.below BL14.out.size (fun _ e => e.elim))
            refine Calls.mono (towerCode_any (Own.in_ OO0.out (Byts.app (Tw.byts HTB.out) (Byts.one hmo)) (by have := HN1.out; simp at this ⊢; omega))) ?_
            rintro e w17 ⟨C3, rfl, bl, _, _⟩
            rw [show towE (T.bytes ++ [more]) = 23 from tower_more FT.out more]
            have KC0 : Hid (Chg (fun _ => False) w14 w17) := KB0.out.trans (Chg.of_below bl (fun _ => False)) (fun _ e => e.elim)
            have BL17 : Hid (Below W.heap.size W w17) := BLy0.out.trans (bl.mono BLy0.out.size)
            have Oc17 : Hid (Own w17 (.slice (some ⟨cg, 0, none⟩) N2 cc) (numB n ++ y)) := Oc14.out.kept KC0.out (fun _ _ e => e)
            have Od17 : Hid (Own w17 (.slice (some ⟨dg, 0, none⟩) N3 dc) f) := Od14.out.kept KC0.out (fun _ _ e => e)
            clear Oc14 Od14
            clear bl KA0 BLx0 OV0 FR0 SU0 OO0 HC0 KB0 BLy0 KC0 BL14
            go_wp2_with fail
            refine Calls.mono (copy_any (Oc17.out.src) (by have := HN2.out; omega)) ?_
            rintro e w18 ⟨cv1, rfl, mm⟩
            obtain ⟨ca1, cb1, hcv⟩ := mm.1.form
            obtain ⟨n1, hn1⟩ : ∃ k, k = (numB n ++ y).length := ⟨_, rfl⟩
            rw [← hn1] at hcv
            subst hcv
            clear hn1
            have KA1 : Hid (Chg (fun _ => False) w17 w18) := Chg.of_below mm.2.1 (fun _ => False)
            have BLx1 : Hid (Below W.heap.size W w18) := BL17.out.trans (mm.2.1.mono BL17.out.size)
            have OV1 : Hid (Own (w18.alloc (.cells #[.int .u8 more] 5)) (.slice ca1 n1 cb1) (numB n ++ y)) := mm.1.kept ((Chg.refl (fun _ => False) w18).alloc _) (fun _ _ e => e)
            have FR1 : Hid (∀ k, (Value.slice ca1 n1 cb1).ownBlock = some k → w17.heap.size ≤ k) := mm.2.2
            have SU1 : Hid _ := src_one w18 more
            clear mm
            go_wp2_with (refine wpList_app rfl (.tmp 148) (.tmp 150) rfl (v := .slice ca1 n1 cb1) (u := .slice (some ⟨w18.heap.size, 0, none⟩) 1 1) rfl rfl OV1.out SU1.out (by have := HN2.out; simp at this ⊢; omega) ?_; intro v1 w19 ho hc hb; have OO1 : Hid _ := ho; have HC1 : Hid _ := hc; clear ho hc hb)
            have KB1 : Hid (Chg (fun _ => False) w17 w19) := (KA1.out.trans ((Chg.refl (fun _ => False) w18).alloc _) (fun _ e => e.elim)).trans HC1.out (fun k e => .inr (FR1.out k e.symm))
            have BLy1 : Hid (Below W.heap.size W w19) := BL17.out.trans (KB1.out.below BL17.out.size (fun _ e => e.elim))
            refine Calls.mono (leafCode_any (Own.in_ OO1.out (Byts.app ((numB_byts _ _ (Nat.le_refl _)).app BTY.out) (Byts.one hmo)) (by have := HN2.out; simp at this ⊢; omega))) ?_
            rintro e w20 ⟨rfl, bl⟩
            rw [show leafE ((numB n ++ y) ++ [more]) = 23 from leaf_more HN.out hy more]
            have KC1 : Hid (Chg (fun _ => False) w17 w20) := KB1.out.trans (Chg.of_below bl (fun _ => False)) (fun _ e => e.elim)
            have BL20 : Hid (Below W.heap.size W w20) := BLy1.out.trans (bl.mono BLy1.out.size)
            have Oc20 : Hid (Own w20 (.slice (some ⟨cg, 0, none⟩) N2 cc) (numB n ++ y)) := Oc17.out.kept KC1.out (fun _ _ e => e)
            have Od20 : Hid (Own w20 (.slice (some ⟨dg, 0, none⟩) N3 dc) f) := Od17.out.kept KC1.out (fun _ _ e => e)
            clear Oc17 Od17
            clear bl KA1 BLx1 OV1 FR1 SU1 OO1 HC1 KB1 BLy1 KC1 BL17
            go_wp2_with fail
            refine Calls.mono (copy_any (Od20.out.src) (by have := HN3.out; omega)) ?_
            rintro e w21 ⟨cv2, rfl, mm⟩
            obtain ⟨ca2, cb2, hcv⟩ := mm.1.form
            obtain ⟨n2, hn2⟩ : ∃ k, k = (f).length := ⟨_, rfl⟩
            rw [← hn2] at hcv
            subst hcv
            clear hn2
            have KA2 : Hid (Chg (fun _ => False) w20 w21) := Chg.of_below mm.2.1 (fun _ => False)
            have BLx2 : Hid (Below W.heap.size W w21) := BL20.out.trans (mm.2.1.mono BL20.out.size)
            have OV2 : Hid (Own (w21.alloc (.cells #[.int .u8 more] 5)) (.slice ca2 n2 cb2) (f)) := mm.1.kept ((Chg.refl (fun _ => False) w21).alloc _) (fun _ _ e => e)
            have FR2 : Hid (∀ k, (Value.slice ca2 n2 cb2).ownBlock = some k → w20.heap.size ≤ k) := mm.2.2
            have SU2 : Hid _ := src_one w21 more
            clear mm
            go_wp2_with (refine wpList_app rfl (.tmp 157) (.tmp 159) rfl (v := .slice ca2 n2 cb2) (u := .slice (some ⟨w21.heap.size, 0, none⟩) 1 1) rfl rfl OV2.out SU2.out (by have := HN3.out; simp at this ⊢; omega) ?_; intro v2 w22 ho hc hb; have OO2 : Hid _ := ho; have HC2 : Hid _ := hc; clear ho hc hb)
            have KB2 : Hid (Chg (fun _ => False) w20 w22) := (KA2.out.trans ((Chg.refl (fun _ => False) w21).alloc _) (fun _ e => e.elim)).trans HC2.out (fun k e => .inr (FR2.out k e.symm))
            have BLy2 : Hid (Below W.heap.size W w22) := BL20.out.trans (KB2.out.below BL20.out.size (fun _ e => e.elim))
            refine Calls.mono (forkCode_any (Own.in_ OO2.out (Byts.app (BTF.out) (Byts.one hmo)) (by have := HN3.out; simp at this ⊢; omega))) ?_
            rintro e w23 ⟨rfl, bl⟩
            rw [show forkE (f ++ [more]) = 23 from fork_more hfl more]
            have KC2 : Hid (Chg (fun _ => False) w20 w23) := KB2.out.trans (Chg.of_below bl (fun _ => False)) (fun _ e => e.elim)
            have BL23 : Hid (Below W.heap.size W w23) := BLy2.out.trans (bl.mono BLy2.out.size)
            clear bl KA2 BLx2 OV2 FR2 SU2 OO2 HC2 KB2 BLy2 KC2 BL20
            have F : Hid (Below w.heap.size w w23) := HB.out.trans (BL23.out.mono HB.out.size)
            go_wp2_with fail
            go_ret
            exact ⟨rfl, F.out⟩
end Go.Proofs.Ytgmheipbcopajaa
