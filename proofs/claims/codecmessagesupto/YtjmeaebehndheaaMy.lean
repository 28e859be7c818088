/-
  CodecMessages, walked.
-/
import Derived.Test.YtjmeaebehndheaaMxR
import Derived.Test.YtjmeaebehndheaaMxP
import Derived.Test.YtjmeaebehndheaaMxW
namespace Go.Proofs.Ytjmeaebehndheaa
open Go.RowKit

def s555 : List Int := 5 :: 5 :: 5 :: List.replicate 29 0
theorem s555_len : s555.length = 32 := rfl
theorem wpList_load_gm {ops : Array Oper} {rest : List Oper} {op : Oper} {a : Act} {w : World} {Q : Exit → Act → World → Prop} (hw : Region.wanted op (yielded ops a.tmps) = true) (ty : TypeId) (x : Operand) (ho : op.op = .load ty x)
    (g o : Nat) (hx : a.eval x = .pointer (some ⟨g, o, none⟩)) (vs : List Value) (hg : w.rangeAt g o vs) {d : TypeDesc} (hu : Try.prog.underlying ty = some d) (hd : d.isRow = true)
    (hi : (Try.prog.info? ty).map (·.size) = some vs.length) (h : wpList Try.prog ops Q rest (a.put op.dst (.agg vs.toArray)) w) : wpList Try.prog ops Q (op :: rest) a w :=
  wpList_step fun K hK => by
    rw [if_pos hw]
    exact wp_load_mid ty x ho g o hx vs d hg hu hd hi (hK _ _ h)
theorem msgOne (o : Msg) : ∀ u ∈ o.cells, u.oneCell' = true := by
  intro u hu
  simp only [Msg.cells, Msg.tail, List.mem_cons, List.mem_append, List.not_mem_nil, or_false] at hu
  rcases hu with rfl | rfl | rfl | rfl | rfl | rfl | rfl | hu | hu | rfl | rfl | rfl | rfl | rfl
  all_goals first | rfl | exact bs_one _ u hu
set_option maxRecDepth 100000 in
set_option maxHeartbeats 32000000 in
theorem messages_any {w : World} {P : Msg} {sv : Value} {T : List Int} (hP : MsIn w (fun g => g < w.heap.size) P) (l1 : P.sp.lo.l.length ≤ 1048576) (l2 : P.sp.hi.l.length ≤ 1048576) (l3 : P.bo.l.length ≤ 1048576) (hpn : P.pn ≤ 1048576) (hcn : P.cn ≤ 1048576) (hcc : ∀ i, i < P.cn → (P.cs i).ky.l.length ≤ 1048576 ∧ (P.cs i).od.l.length ≤ 1048576 ∧ (P.cs i).nw.l.length ≤ 1048576) (hb0 : P.bytes.length ≤ 70368744177664) (hs : In w sv T) (hT : T.length ≤ 1048576) :
    Calls Try.prog 8 #[.agg P.cells.toArray, sv] w fun e w' => e = .returned (.bool true) ∧ Below w.heap.size w w' := by
  obtain ⟨X, hX⟩ : ∃ X, X = w.heap.size := ⟨_, rfl⟩
  obtain ⟨W, hW⟩ : ∃ W, W = w.alloc (.cells P.cells.toArray 95) := ⟨_, rfl⟩
  have hb : Below w.heap.size w W := by rw [hW]; exact (Below.refl _ _).alloc (Nat.le_refl _) _
  have HB : Hid _ := hb
  have B5 : Hid (Blk W X P.cells 95) := by rw [hW, hX]; exact Blk.made w _ 95
  have HP : Hid (MsIn W (fun g => g < W.heap.size) P) := hP.keep0 hb
  have HLN : Hid _ := hcc
  have HS : Hid (In W sv T) := hs.keep hb
  obtain ⟨sa, sc, hsf, _⟩ := hs.cap
  obtain ⟨n0, hn0⟩ : ∃ n, n = T.length := ⟨_, rfl⟩
  rw [← hn0] at hsf hT
  have HN0 : Hid _ := hn0
  subst hsf
  clear hP hb hs hn0 hcc
  go_enter Try.func8, Try.ntmps8
  go_upto_region 1 with fail
  rw [← hX, ← hW]
  have HX : Hid _ := hX
  clear hX hW
  have HC : Hid _ := roomy_any HS.out.src (by have := HN0.out; omega)
  rw [← HN0.out] at HC
  go_wp2_with fail
  refine Calls.mono HC.out ?_
  rintro e w1 ⟨ad, c1, rfl, m1⟩
  obtain ⟨M, hM⟩ : ∃ M, M = n0 + 2 := ⟨_, rfl⟩
  rw [← hM] at m1 ⊢
  obtain ⟨g, eg⟩ := Own.addrP m1.1 (by simp)
  injection eg with eg
  subst eg
  obtain ⟨cq, hcq1, hcq2⟩ : n0 ≤ c1 ∧ c1 ≤ 9223372036854775807 ∧ True := by
    obtain ⟨_, cap, e, h1, h2⟩ := m1.1.form2 (by simp)
    injection e with _ e2 e3
    subst e3
    rw [List.length_append, ← HN0.out] at h1
    exact ⟨by simp at h1; omega, h2, trivial⟩
  have BL1 : Hid (Below W.heap.size W w1) := m1.2.1
  have OW1 : Hid (Own w1 (.slice (some ⟨g, 0, none⟩) M c1) (T ++ [165, 90])) := m1.1
  have IN1 : Hid (In w1 (.slice (some ⟨g, 0, none⟩) n0 c1) T) := by
    have s1 := Own.front m1.1 c1 (by simp)
    rw [← HN0.out] at s1
    exact ⟨s1, HS.out.byt, HS.out.big, ⟨_, c1, by rw [← HN0.out], by rw [← HN0.out]; omega, hcq1⟩, fun k hk => m1.1.lt hk⟩
  have HMQ : Hid _ := hM
  have hMb : M ≤ 1048578 := by omega
  clear m1 hM HC hcq2
  go_wp2_with fail
  refine Calls.mono (msgCode_any IN1.out (by have := HN0.out; omega)) ?_
  rintro e w2 ⟨C, rfl, bl2, hC, c1a, c1b⟩
  obtain ⟨E, hE⟩ : ∃ E, E = msgE T := ⟨_, rfl⟩
  rw [← hE]
  have HE : Hid _ := hE
  have LC := hC.1
  have OC : Hid _ := hC.2
  have BL2 : Hid (Below W.heap.size W w2) := BL1.out.trans (bl2.mono BL1.out.size)
  have OW2 : Hid (Own w2 (.slice (some ⟨g, 0, none⟩) M c1) (T ++ [165, 90])) := OW1.out.kept (Chg.of_below bl2 (fun _ => False)) (fun _ _ e => e)
  have CA : Hid (E = 0 → MsIs w2 w1.heap.size (msgS T 0 0) C) := fun e => c1a (by rw [← hE]; exact e)
  have CB : Hid (¬ E = 0 → C = msZ) := fun e => c1b (by rw [← hE]; exact e)
  have W1 : Hid (W.heap.size ≤ w1.heap.size) := BL1.out.size
  have D0 : Hid _ := Blk.made w2 msZ 95
  clear bl2 hC c1a c1b hE IN1 OW1 BL1
  go_upto_region 3 with (refine wpList_store_part rfl 95 (.tmp 7) (.tmp 30) rfl w2.heap.size 0 C rfl rfl D0.out (by rw [LC, Nat.zero_add]; exact Nat.le_refl _) (Try.msZsz C LC) OC.out ?_; intro w3 hw4 hc4; rw [splice_all _ _ LC] at hw4; have D3 : Hid _ := hw4; have c8 : Chg (fun _ => False) w2 w3 := ((Chg.refl (fun _ => False) w2).alloc _).trans hc4 (fun i e => .inr (by omega)); have C3 : Hid _ := c8; clear hw4 hc4 c8)
  have BL3 : Hid (Below W.heap.size W w3) := BL2.out.trans (C3.out.below BL2.out.size (fun _ e => e.elim))
  have OW3 : Hid (Own w3 (.slice (some ⟨g, 0, none⟩) M c1) (T ++ [165, 90])) := OW2.out.kept C3.out (fun _ _ e => e)
  have L23 : Hid (w2.heap.size < w3.heap.size) := D3.out.lt
  clear BL2 OW2 D0
  go_wp2_with fail
  refine Calls.mono (xReadMessage_any (HS.out.keep BL3.out) (by have := HN0.out; omega)) ?_
  rintro e w4 ⟨D, rfl, bl2, hC, c1a, c1b⟩
  rw [← HE.out] at c1a c1b ⊢
  have LD := hC.1
  have OD : Hid _ := hC.2
  have c4 : Chg (fun _ => False) w3 w4 := Chg.of_below bl2 (fun _ => False)
  have BL4 : Hid (Below W.heap.size W w4) := BL3.out.trans (bl2.mono BL3.out.size)
  have OW4 : Hid (Own w4 (.slice (some ⟨g, 0, none⟩) M c1) (T ++ [165, 90])) := OW3.out.kept c4 (fun _ _ e => e)
  have D4 : Hid _ := D3.out.keep c4 (fun e => e)
  have C24 : Hid (Chg (fun _ => False) w2 w4) := C3.out.trans c4 (fun _ e => e.elim)
  have DA : Hid _ := c1a
  have DB : Hid _ := c1b
  have L34 : Hid (w3.heap.size ≤ w4.heap.size) := bl2.size
  have D0 : Hid _ := Blk.made w4 msZ 95
  clear bl2 hC c1a c1b c4 OW3 BL3 D3 C3
  go_upto_region 4 with (refine wpList_store_part rfl 95 (.tmp 9) (.tmp 35) rfl w4.heap.size 0 D rfl rfl D0.out (by rw [LD, Nat.zero_add]; exact Nat.le_refl _) (Try.msZsz D LD) OD.out ?_; intro w5 hw4 hc4; rw [splice_all _ _ LD] at hw4; have F5 : Hid _ := hw4; have c8 : Chg (fun _ => False) w4 w5 := ((Chg.refl (fun _ => False) w4).alloc _).trans hc4 (fun i e => .inr (by omega)); have C5 : Hid _ := c8; clear hw4 hc4 c8)
  have BL5 : Hid (Below W.heap.size W w5) := BL4.out.trans (C5.out.below BL4.out.size (fun _ e => e.elim))
  have OW5 : Hid (Own w5 (.slice (some ⟨g, 0, none⟩) M c1) (T ++ [165, 90])) := OW4.out.kept C5.out (fun _ _ e => e)
  have D5 : Hid _ := D4.out.keep C5.out (fun e => e)
  obtain ⟨S, lo1, hi1, bo1, pa1, cg1, lo2, hi2, bo2, pa2, cg2, L1, L2, eC, eD, r1, r2⟩ := two_msgs (by rw [← HN0.out]; exact hT) CA.out CB.out DA.out DB.out
  have OLT : Hid (∀ k, tB lo1 hi1 bo1 L1 k → w1.heap.size ≤ k ∧ k < w2.heap.size) := fun k hk => r1.blocks hk
  have TX5 : Hid _ := r1.fresh (C24.out.trans C5.out (fun _ e => e.elim))
  have TY5 : Hid _ := r2.fresh C5.out
  have HSM : Hid _ := rM_same r1 r2
  have HL := r1.hl
  have LB := r1.lb
  have RC1 := r1.cells
  have RC2 := r2.cells
  rw [← RC1] at eC
  rw [← RC2] at eD
  have VLO : Hid _ := txV_val r1.lo
  have VHI : Hid _ := txV_val r1.hi
  have VBO : Hid _ := txV_val r1.bo
  have LN1 : L1.length ≤ 8388608 := r1.ln.2
  obtain ⟨xa, xc, hxf⟩ := r1.cg.form
  obtain ⟨n, hn1⟩ : ∃ n, n = L1.length := ⟨_, rfl⟩
  rw [← hn1] at hxf LN1
  have HN1 : Hid _ := hn1
  subst hxf
  obtain ⟨X1, hX1⟩ : ∃ X1 : Msg, X1 = rM S lo1 hi1 bo1 pa1 (.slice xa n xc) L1 := ⟨_, rfl⟩
  obtain ⟨X2, hX2⟩ : ∃ X2 : Msg, X2 = rM S lo2 hi2 bo2 pa2 cg2 L2 := ⟨_, rfl⟩
  have HX1 : Hid _ := hX1
  have HX2 : Hid _ := hX2
  have HL1 : X1.hl.length = 32 := by rw [hX1]; exact HL
  have LB1 : X1.lb.length = 32 := by rw [hX1]; exact LB
  rw [← hX1] at eC HSM
  rw [← hX2] at eD HSM
  have ZC := Try.msZsz C LC
  have ZD := Try.msZsz D LD
  subst eC eD
  clear CA CB DA DB OW4 BL4 D4 C5 C24 r1 r2 hn1 OC OD LC LD RC1 RC2 hX1 hX2 D0
  go_wp2_with (first
    | (go_at_call 11; refine Calls.mono (untouched_P (by rw [HMQ.out, HN0.out]) (HS.out.keep BL5.out).src OW5.out (by have := HN0.out; omega)) ?_; rintro e w6 ⟨rfl, n6, hw6⟩; have BL6 : Hid (Below w5.heap.size w5 w6) := (by rw [hw6]; exact below_drewN (Below.refl _ _) n6); have C6 : Hid (Chg (fun _ => False) w5 w6) := Chg.of_below BL6.out (fun _ => False); clear hw6)
    | refine wpList_load_g (by rfl) 95 (.tmp 7) rfl w2.heap.size 0 X1.cells rfl (D5.out.keep C6.out (fun e => e)) (by simp) Try.underlying95 rfl ZC ?_
    | refine wpList_load_g (by rfl) 95 (.tmp 9) rfl w4.heap.size 0 X2.cells rfl (F5.out.keep C6.out (fun e => e)) (by simp) Try.underlying95 rfl ZD ?_)
  refine Calls.mono (sameMsgE (by rw [HX1.out]; exact (TX5.out.fresh C6.out).mv0) (by rw [HX2.out]; exact (TY5.out.fresh C6.out).mv0) HSM.out) ?_
  rintro e w7 ⟨rfl, bl7⟩
  have C57 : Hid (Chg (fun _ => False) w5 w7) := C6.out.trans (Chg.of_below bl7 (fun _ => False)) (fun _ e => e.elim)
  have BL7 : Hid (Below W.heap.size W w7) := BL5.out.trans (C57.out.below BL5.out.size (fun _ e => e.elim))
  have OX : Hid (MR w7 w1.heap.size S lo1 hi1 bo1 pa1 (.slice xa n xc) L1) := TX5.out.fresh C57.out
  have OY : Hid (MR w7 w3.heap.size S lo2 hi2 bo2 pa2 cg2 L2) := TY5.out.fresh C57.out
  have D7 : Hid _ := D5.out.keep C57.out (fun e => e)
  have F7 : Hid _ := F5.out.keep C57.out (fun e => e)
  clear bl7 BL5 BL6 C6 OW5 D5 F5 C57 TX5 TY5
  have kx : w7.cell? ⟨w2.heap.size, 73, none⟩ = some bo1 := by rw [D7.out.cell, X1.at HL1 LB1 2, ← VBO.out, HX1.out]; rfl
  go_wp2_with fail
  refine Calls.mono (marked_any OX.out.bo (by have := OX.out.tx.2.2; omega)) ?_
  rintro e wa ⟨rfl, ca, sa1⟩
  have CC1 : Hid _ := ca
  have SS1 : Hid _ := sa1
  have Da : Hid _ := D7.out.keep ca (fun e => by have := OLT.out _ (.inr (.inr (.inl e.symm))); omega)
  clear ca sa1 kx
  have kx : wa.cell? ⟨w2.heap.size, 3, none⟩ = some lo1 := by rw [Da.out.cell, ← VLO.out, HX1.out]; rfl
  go_wp2_with fail
  refine Calls.mono (marked_any (OX.out.lo1 CC1.out) (by have := OX.out.tx.1; omega)) ?_
  rintro e wb ⟨rfl, cb, sb1⟩
  have CC2 : Hid _ := cb
  have SS2 : Hid _ := sb1
  have Db : Hid _ := Da.out.keep cb (fun e => by have := OLT.out _ (.inl e.symm); omega)
  clear cb sb1 kx Da
  have kx : wb.cell? ⟨w2.heap.size, 4, none⟩ = some hi1 := by rw [Db.out.cell, ← VHI.out, HX1.out]; rfl
  go_wp2_with fail
  refine Calls.mono (marked_any (OX.out.hi2 CC1.out CC2.out) (by have := OX.out.tx.2.1; omega)) ?_
  rintro e wc1 ⟨rfl, cc3, sc1⟩
  have M0 : Hid (MM w7 wc1 S lo1 hi1 bo1 L1 0) := MM.start OX.out CC1.out SS1.out CC2.out SS2.out cc3 sc1
  have D71 : Hid (Blk wc1 w2.heap.size X1.cells 95) := D7.out.keep M0.out.ch (fun e => by have := OLT.out _ e; omega)
  clear cc3 sc1 kx Db CC1 CC2 SS1 SS2
  have kx : wc1.cell? ⟨w2.heap.size, 75, none⟩ = some (.slice xa n xc) := by rw [D71.out.cell, X1.at HL1 LB1 4, HX1.out]; rfl
  go_wp2_with fail
  clear kx D71
  go_loopw [11, 70] (fun s11 i wr => ∃ j : Nat, j ≤ n ∧ s11 = .bool true ∧ i = .int .i64 j ∧ Hid (MM w7 wr S lo1 hi1 bo1 L1 j)) (fun _ i _ => n - (intOf i).toNat)
  case atStart => exact ⟨0, Nat.zero_le _, rfl, rfl, M0.out⟩
  case round =>
    obtain ⟨j, hj, rfl, rfl, MJ⟩ := hrel
    by_cases hlt : j < n
    · have hj1 : j < L1.length := by have := HN1.out; omega
      obtain ⟨k, hk⟩ : ∃ k, k = fC L1 j := ⟨_, rfl⟩
      obtain ⟨g9, o9, hsa, hrg⟩ := MM.row OX.out MJ.out hj1
      have hsa : xa = some ⟨g9, o9, none⟩ := hsa
      have hix := ix_at Try.underlying93 Try.elem93 Try.so215 (c := xc) hsa hlt
      have RG : Hid (wr.rangeAt g9 (o9 + j * 5) k.cells) := by rw [hk]; exact hrg
      have ko := OX.out.cg.own _ (List.getElem_mem hj1)
      have T1 : Hid (k.ky.val = (L1[j]).2.1) := by show _ = _; rw [hk, fC_at hj1]; exact txV_val ko.1
      have T2 : Hid (k.od.val = (L1[j]).2.2.1) := by show _ = _; rw [hk, fC_at hj1]; exact txV_val ko.2.1
      have T3 : Hid (k.nw.val = (L1[j]).2.2.2) := by show _ = _; rw [hk, fC_at hj1]; exact txV_val ko.2.2
      have LEN : Hid _ := OX.out.tc _ (List.getElem_mem hj1)
      clear hrg hk hsa ko
      go_upto_region 10 with (first
        | refine wpList_load_mid rfl 112 (.tmp 72) rfl g9 (o9 + j * 5) rfl k.cells _ RG.out Try.underlying112 rfl (Try.cgSz k) ?_
        | (refine wpList_store_part rfl 112 (.tmp 13) (.tmp 73) rfl wr.heap.size 0 k.cells rfl rfl (t := 112) ⟨heap_alloc_new _ _⟩ (by simp [Cg.cells]) (Try.cgSz k) k.one ?_; intro wC hw8 hc8; rw [splice_all _ _ (by simp [Cg.cells])] at hw8; have c8 : Chg (fun _ => False) wr wC := ((Chg.refl (fun _ => False) wr).alloc _).trans hc8 (fun i e => .inr (by omega)); have BK : Hid _ := hw8; have CB : Hid _ := c8; clear hw8 hc8 c8))
      clear RG hix
      have MC : Hid _ := MJ.out.fresh CB.out
      have kx2 : wC.cell? ⟨wr.heap.size, 0, none⟩ = some k.ky.val := BK.out.cell 0
      have HC : Hid _ := marked_any (v := k.ky.val) (by rw [T1.out]; exact (MC.out.td j hj1 (Nat.le_refl _)).1) (by have := LEN.out.1; omega)
      go_wp2_with fail
      refine Calls.mono HC.out ?_
      rintro e wD ⟨rfl, cD, sD⟩
      rw [T1.out] at cD sD
      have CD : Hid _ := cD
      have SD : Hid _ := sD
      have BD : Hid (Blk wD wr.heap.size k.cells 112) := BK.out.keep cD (fun e => by have := (MJ.out.td j hj1 (Nat.le_refl _)).1.lt e.symm; omega)
      clear cD sD HC kx2
      have kx2 : wD.cell? ⟨wr.heap.size, 2, none⟩ = some k.od.val := BD.out.cell 2
      have HC : Hid _ := marked_any (v := k.od.val) (by rw [T2.out]; exact MM.od OX.out MC.out hj1 CD.out) (by have := LEN.out.2.1; omega)
      go_wp2_with fail
      refine Calls.mono HC.out ?_
      rintro e wE ⟨rfl, cE, sE⟩
      rw [T2.out] at cE sE
      have CE : Hid _ := cE
      have SE : Hid _ := sE
      have BE : Hid (Blk wE wr.heap.size k.cells 112) := BD.out.keep cE (fun e => by have := (MJ.out.td j hj1 (Nat.le_refl _)).2.1.lt e.symm; omega)
      clear cE sE HC kx2 BD BK
      have kx2 : wE.cell? ⟨wr.heap.size, 4, none⟩ = some k.nw.val := BE.out.cell 4
      have HC : Hid _ := marked_any (v := k.nw.val) (by rw [T3.out]; exact MM.nw OX.out MC.out hj1 CD.out CE.out) (by have := LEN.out.2.2; omega)
      go_wp2_with fail
      refine Calls.mono HC.out ?_
      rintro e wF ⟨rfl, cF, sF⟩
      rw [T3.out] at cF sF
      have MN : Hid (MM w7 wF S lo1 hi1 bo1 L1 (j + 1)) := MM.step OX.out MC.out hj1 CD.out SD.out CE.out SE.out cF sF
      clear cF sF HC kx2 BE
      go_wp2_with fail
      go_roundw
      case rel => exact ⟨j + 1, by omega, rfl, by go_num, MN.out⟩
      case measure => simp [intOf]; omega
    · have hjn : j = n := by omega
      have MJ : Hid (MM w7 wr S lo1 hi1 bo1 L1 L1.length) := by
        have h9 := MJ.out
        rw [hjn, HN1.out] at h9
        exact h9
      have XV : Hid (MV wr X1) := by rw [HX1.out]; exact MM.mv OX.out MJ.out
      have YV : Hid (MV wr X2) := by rw [HX2.out]; exact OY.out.far MJ.out.ch (fun k hk => by have := OLT.out k hk; have := L23.out; omega)
      have CH8 : Below W.heap.size w7 wr := MJ.out.ch.below BL7.out.size (fun k hk => by have := OLT.out k hk; have := W1.out; omega)
      have BL8 : Hid (Below W.heap.size W wr) := BL7.out.trans CH8
      have D8 : Hid (Blk wr w2.heap.size X1.cells 95) := D7.out.keep MJ.out.ch (fun e => by have := OLT.out _ e; omega)
      have F8 : Hid (Blk wr w4.heap.size X2.cells 95) := F7.out.keep MJ.out.ch (fun e => by have := OLT.out _ e; have := L23.out; have := L34.out; omega)
      clear MJ OX OY D7 F7 M0 CH8 BL7 OLT hj hlt
      obtain ⟨wr0, hwr0⟩ : ∃ wr0, wr0 = wr := ⟨_, rfl⟩
      rw [← hwr0] at XV YV BL8 D8 F8 ⊢
      clear hwr0
      have HPL := HP.out.hl
      have HPB := HP.out.lb
      have G8 : Hid (Blk wr0 X P.cells 95) := B5.out.keep0 BL8.out
      have PK : Hid (∀ {V : World}, Below W.heap.size W V → MsIn V (fun g => g < V.heap.size) P) := fun hb => HP.out.keep0 hb
      have D0 : Hid _ := Blk.made wr0 msZ 95
      have OPC : Hid (∀ u ∈ P.cells, u.oneCell' = true) := msgOne P
      go_upto_region 13 with (first
        | refine wpList_load_part rfl 95 (.tmp 2) rfl X 0 P.cells rfl G8.out (by simp) Try.underlying95 rfl (Try.msSzM P HPL HPB) ?_
        | (refine wpList_store_part rfl 95 (.tmp 14) (.tmp 91) rfl wr0.heap.size 0 P.cells rfl rfl D0.out (by rw [P.len HPL HPB, msZ_len]; exact Nat.le_refl _) (Try.msSzM P HPL HPB) OPC.out ?_; intro wA hw4 hc4; rw [splice_all _ _ (by rw [P.len HPL HPB, msZ_len])] at hw4; have DA : Hid _ := hw4; have c8 : Chg (fun _ => False) wr0 wA := ((Chg.refl (fun _ => False) wr0).alloc _).trans hc4 (fun i e => .inr (by omega)); have C8A : Hid _ := c8; clear hw4 hc4 c8))
      obtain ⟨Q, hQ⟩ : ∃ Q, Q = wr0.heap.size := ⟨_, rfl⟩
      have HQ : Hid _ := hQ
      have LQ : Hid (Q < wA.heap.size) := by rw [hQ]; exact DA.out.lt
      rw [← hQ]
      rw [← hQ] at DA
      clear hQ D0 OPC G8
      have BLA : Hid (Below W.heap.size W wA) := BL8.out.trans (C8A.out.below BL8.out.size (fun _ e => e.elim))
      go_wp2_with (refine wpList_load_part rfl 89 (.tmp 92) rfl X 3 P.sp.cells rfl (B5.out.keep0 BLA.out) P.sp_at Try.underlying89 rfl (Try.spSz _ _ _) ?_)
      refine Calls.mono (copySpan_any (PK.out BLA.out).sp.lo.s (PK.out BLA.out).sp.hi.s l1 l2) ?_
      intro e wS hq
      obtain ⟨sp', rfl, blS, q1, q2, q3, q4, q5⟩ := hq.ex
      have CAS : Hid (Chg (fun _ => False) wA wS) := Chg.of_below blS _
      have QS : Hid (sp'.op = P.sp.op ∧ sp'.lo.l = P.sp.lo.l ∧ sp'.hi.l = P.sp.hi.l) := ⟨q1, q2, q3⟩
      have QI : Hid _ := q4
      have QF : Hid _ := q5
      have DS : Hid _ := DA.out.keep CAS.out (fun e => e)
      clear hq blS q1 q2 q3 q4 q5 DA
      obtain ⟨P1, hP1⟩ : ∃ P1 : Msg, P1 = { P with sp := sp' } := ⟨_, rfl⟩
      go_upto_region 14 with (refine wpList_store_part rfl 89 (.tmp 95) (.tmp 94) rfl Q 3 sp'.cells rfl rfl DS.out (by rw [P.len HPL HPB]; show 3 + 3 ≤ 76; decide) (Try.spSz _ _ _) (spC_one rfl rfl _) ?_; intro wT hw4 hc4; rw [P.putsp, ← hP1] at hw4; have DT : Hid _ := hw4; have CST : Hid _ := hc4; clear hw4 hc4)
      have HP1 : Hid _ := hP1
      clear hP1 DS
      have C8T : Hid (Chg (fun _ => False) wr0 wT) := ((C8A.out.trans CAS.out (fun _ e => e.elim)).trans CST.out (fun i e => .inr (by have := HQ.out; omega)))
      have QT : Hid (SpIn wT (fun g => g < wT.heap.size ∧ ¬ g = Q) sp') := by
        have a : SpIn wS (fun g => g < wS.heap.size ∧ ¬ g = Q) sp' := ⟨⟨QI.out.lo.s, fun g hg => (QI.out.lo.av g hg).imp (fun e => ⟨e, by have := QF.out g (.inl hg); have := LQ.out; omega⟩) id, QI.out.lo.le⟩, ⟨QI.out.hi.s, fun g hg => (QI.out.hi.av g hg).imp (fun e => ⟨e, by have := QF.out g (.inr hg); have := LQ.out; omega⟩) id, QI.out.hi.le⟩⟩
        exact (a.kept CST.out (fun g hg e => hg.2 e)).mono (fun g hg => ⟨Nat.lt_of_lt_of_le hg.1 CST.out.size, hg.2⟩)
      have BLT : Hid (Below W.heap.size W wT) := BL8.out.trans (C8T.out.below BL8.out.size (fun _ e => e.elim))
      have LT : Hid (Q < wT.heap.size) := DT.out.lt
      clear QI QF CST CAS C8A BLA LQ
      have kx : wT.cell? ⟨X, 73, none⟩ = some P.bo.val := by rw [(B5.out.keep0 BLT.out).cell]; exact P.at HPL HPB 2
      have HC : Hid _ := roomy_any (PK.out BLT.out).bo.s (by omega)
      go_wp2_with fail
      refine Calls.mono HC.out ?_
      rintro e wR ⟨ra, rc, rfl, mr⟩
      obtain ⟨RN, hRN⟩ : ∃ RN, RN = P.bo.l.length := ⟨_, rfl⟩
      obtain ⟨RM, hRM⟩ : ∃ RM, RM = P.bo.l.length + 2 := ⟨_, rfl⟩
      rw [← hRM] at mr ⊢
      rw [← hRN]
      obtain ⟨rg, erg⟩ := Own.addrP mr.1 (by simp)
      injection erg with erg
      subst erg
      have LRG : Hid (wT.heap.size ≤ rg ∧ rg < wR.heap.size) := ⟨mr.2.2 rg rfl, mr.1.lt rfl⟩
      have HRN : Hid _ := hRN
      have HRM : Hid _ := hRM
      have OR : Hid (Own wR (.slice (some ⟨rg, 0, none⟩) RM rc) (P.bo.l ++ [165, 90])) := mr.1
      have CTR : Hid (Chg (fun _ => False) wT wR) := Chg.of_below mr.2.1 (fun _ => False)
      have DR : Hid _ := DT.out.keep CTR.out (fun e => e)
      have HL1' : P1.hl.length = 32 := by rw [HP1.out]; exact HPL
      have LB1' : P1.lb.length = 32 := by rw [HP1.out]; exact HPB
      clear HC kx mr hRN hRM DT
      have kf : wR.frozen? ⟨Q, 73, none⟩ = false := DR.out.fr 73
      have ky : wR.cell? ⟨Q, 73, none⟩ = some P1.bo.val := by rw [DR.out.cell]; exact P1.at HL1' LB1' 2
      go_upto_region 16 with fail
      obtain ⟨wV, hw⟩ : ∃ wV : World, wV = wR.setCell ⟨Q, 73, none⟩ (.slice (some ⟨rg, 0, none⟩) RN rc) := ⟨_, rfl⟩
      rw [← hw]
      obtain ⟨P2, hP2⟩ : ∃ P2 : Msg, P2 = { P1 with bo := ⟨some ⟨rg, 0, none⟩, RN, rc, P.bo.l⟩ } := ⟨_, rfl⟩
      have DV : Hid (Blk wV Q P2.cells 95) := by rw [hw, hP2, ← P1.putbo HL1' LB1' ⟨some ⟨rg, 0, none⟩, RN, rc, P.bo.l⟩]; exact DR.out.set 73 (.slice (some ⟨rg, 0, none⟩) RN rc)
      have HP2 : Hid _ := hP2
      have cV : Chg (fun k => k = Q) wR wV := by rw [hw]; exact (Chg.refl (fun k => k = Q) wR).setCell (p := ⟨Q, 73, none⟩) (.inl rfl) _
      have C8V : Hid (Chg (fun _ => False) wr0 wV) := (C8T.out.trans CTR.out (fun _ e => e.elim)).trans cV (fun i e => .inr (by have := HQ.out; omega))
      have OV : Hid (Own wV (.slice (some ⟨rg, 0, none⟩) RM rc) (P.bo.l ++ [165, 90])) := OR.out.kept cV (fun k hk e => by simp [Value.ownBlock] at hk; have := LRG.out; have := LT.out; omega)
      have QV : Hid (SpIn wV (fun g => g < wV.heap.size ∧ ¬ g = Q) sp') := (((QT.out.kept CTR.out (fun _ _ e => e)).kept cV (fun g hg e => hg.2 e))).mono (fun g hg => ⟨Nat.lt_of_lt_of_le hg.1 (Nat.le_trans CTR.out.size cV.size), hg.2⟩)
      have BLV : Hid (Below W.heap.size W wV) := BL8.out.trans (C8V.out.below BL8.out.size (fun _ e => e.elim))
      have SZV : Hid (wR.heap.size ≤ wV.heap.size) := cV.size
      clear kf ky hw cV DR OR CTR QT C8T BLT hP2
      have XP : Hid _ := twiceG (c := P.pc) Try.underlying92 infoS31 (by kernel_rfl) (by decide) (PK.out BLV.out).pr (fun i hi => by rw [bs_len]; exact HP.out.pl i hi) (fun i _ => bs_one _) (by show (P.pn + 1) * 32 ≤ _; omega) (by show P.pn + 1 ≤ _; omega) (E := bs s555) rfl (bs_one _)
      obtain ⟨xm, hxm⟩ : ∃ xm, xm = Value.slice P.pa P.pn P.pc := ⟨_, rfl⟩
      obtain ⟨za, zn, zc, wq, gp, cp, wP, q1, q2, q3, q4, q5, q6, q7⟩ := XP.out
      have q1 : (Builtin.append_ #[92, 92] 92 #[.slice (some ⟨wV.heap.size, 0, none⟩) 0 0, xm]).run Try.prog (wV.alloc (.cells #[] 31)) = .ok (.slice za zn zc) wq := by rw [hxm]; exact q1
      have XQ1 : Hid _ := q1
      have XQ2 : Hid _ := q2
      have GQM : Hid (GL wP (.slice (some ⟨gp, 0, none⟩) (P.pn + 1) cp) 31 32 ((List.range P.pn).map (fun i => bs (P.ps i)) ++ [bs s555])) := q3
      have hcp : cp ≤ 9223372036854775807 := q5
      have hcapM : P.pn + 1 ≤ cp := q4
      have GZM : Hid (wV.heap.size ≤ gp) := q6
      have CVP : Hid (Chg (fun _ => False) wV wP) := q7
      have kx : (wV.alloc (.cells #[] 31)).cell? ⟨X, 74, none⟩ = some xm := by rw [hxm, ((B5.out.keep0 BLV.out).alloc _).cell]; exact P.at HPL HPB 3
      clear XP q1 q2 q3 q4 q5 q6 q7 hxm
      go_upto_region 17 with (first
        | refine wpList_appG (sl := 92) rfl (.tmp 104) (.tmp 106) rfl (v := .slice (some ⟨wV.heap.size, 0, none⟩) 0 0) (u := xm) (v' := .slice za zn zc) (w' := wq) rfl rfl XQ1.out ?_
        | refine wpList_buildG (sl := 92) Try.underlying92 infoS31 (by decide) (by decide) rfl (.tmp 108) rfl (C := bs s555) rfl rfl ?_
        | refine wpList_appG (sl := 92) rfl (.tmp 107) (.tmp 109) rfl (v := .slice za zn zc) (u := .slice (some ⟨wq.heap.size, 0, none⟩) 1 1) (v' := .slice (some ⟨gp, 0, none⟩) (P.pn + 1) cp) (w' := wP) rfl rfl XQ2.out ?_)
      clear XQ1 XQ2 kx
      have C8P : Hid (Chg (fun _ => False) wr0 wP) := C8V.out.trans CVP.out (fun _ e => e.elim)
      have BLP : Hid (Below W.heap.size W wP) := BL8.out.trans (C8P.out.below BL8.out.size (fun _ e => e.elim))
      have DP0 : Hid _ := DV.out.keep CVP.out (fun e => e)
      have OP0 : Hid (Own wP (.slice (some ⟨rg, 0, none⟩) RM rc) (P.bo.l ++ [165, 90])) := OV.out.kept CVP.out (fun _ _ e => e)
      have HL2' : P2.hl.length = 32 := by rw [HP2.out]; exact HL1'
      have LB2' : P2.lb.length = 32 := by rw [HP2.out]; exact LB1'
      have kx : wP.cell? ⟨X, 74, none⟩ = some (.slice P.pa P.pn P.pc) := by rw [(B5.out.keep0 BLP.out).cell]; exact P.at HPL HPB 3
      have ky : wP.cell? ⟨Q, 74, none⟩ = some (.slice P2.pa P2.pn P2.pc) := by rw [DP0.out.cell]; exact P2.at HL2' LB2' 3
      have kf : wP.frozen? ⟨Q, 74, none⟩ = false := DP0.out.fr 74
      clear DV OV
      go_upto_region 18 with fail
      obtain ⟨wU, hw⟩ : ∃ wU : World, wU = wP.setCell ⟨Q, 74, none⟩ (.slice (some ⟨gp, 0, none⟩) P.pn cp) := ⟨_, rfl⟩
      rw [← hw]
      obtain ⟨P3, hP3⟩ : ∃ P3 : Msg, P3 = { P2 with pa := some ⟨gp, 0, none⟩, pn := P.pn, pc := cp, ps := P.ps } := ⟨_, rfl⟩
      have DU : Hid (Blk wU Q P3.cells 95) := by rw [hw, hP3, ← P2.putpa HL2' LB2' (some ⟨gp, 0, none⟩) P.pn cp P.ps]; exact DP0.out.set 74 (.slice (some ⟨gp, 0, none⟩) P.pn cp)
      have HP3 : Hid _ := hP3
      have cU : Chg (fun k => k = Q) wP wU := by rw [hw]; exact (Chg.refl (fun k => k = Q) wP).setCell (p := ⟨Q, 74, none⟩) (.inl rfl) _
      have C8U : Hid (Chg (fun _ => False) wr0 wU) := C8P.out.trans cU (fun i e => .inr (by have := HQ.out; omega))
      have OU : Hid (Own wU (.slice (some ⟨rg, 0, none⟩) RM rc) (P.bo.l ++ [165, 90])) := OP0.out.kept cU (fun k hk e => by simp [Value.ownBlock] at hk; have := LRG.out; have := LT.out; omega)
      have QU : Hid (SpIn wU (fun g => g < wU.heap.size ∧ ¬ g = Q) sp') := ((QV.out.kept CVP.out (fun _ _ e => e)).kept cU (fun g hg e => hg.2 e)).mono (fun g hg => ⟨Nat.lt_of_lt_of_le hg.1 (Nat.le_trans CVP.out.size cU.size), hg.2⟩)
      have GPU : Hid (GL wU (.slice (some ⟨gp, 0, none⟩) (P.pn + 1) cp) 31 32 ((List.range P.pn).map (fun i => bs (P.ps i)) ++ [bs s555])) := GQM.out.kept cU (fun k _ hk _ e => by simp [Value.ownBlock] at hk; have := GZM.out; have := LT.out; have := LRG.out; have := SZV.out; omega)
      have BLU : Hid (Below W.heap.size W wU) := BL8.out.trans (C8U.out.below BL8.out.size (fun _ e => e.elim))
      have LU : Hid (Q < wU.heap.size ∧ gp < wU.heap.size ∧ rg < wU.heap.size) := ⟨DU.out.lt, by obtain ⟨_, h9⟩ := GPU.out.blk (g := gp) rfl; exact (Array.getElem?_eq_some_iff.1 h9).1, OU.out.lt rfl⟩
      clear kx ky kf hw cU DP0 OP0 GQM C8P BLP QV CVP hP3 C8V
      have kx : wU.cell? ⟨X, 75, none⟩ = some (.slice P.ca P.cn P.cc) := by rw [(B5.out.keep0 BLU.out).cell]; exact P.at HPL HPB 4
      have K0 : Hid (KC wU P wU 0 (.slice none 0 0) P.cs) := KC.start P (Below.refl _ _)
      go_wp2_with fail
      clear kx
      go_loopw [18, 120] (fun v i wr => ∃ (j : Nat) (os : Nat → Cg), j ≤ P.cn ∧ i = .int .i64 j ∧ Hid (KC wU P wr j v os)) (fun _ i _ => P.cn - (intOf i).toNat)
      case atStart => exact ⟨0, _, Nat.zero_le _, rfl, K0.out⟩
      case round =>
        obtain ⟨j, os, hj, rfl, KJ⟩ := hrel
        by_cases hlt : j < P.cn
        · obtain ⟨va, vc, hvf⟩ := KJ.out.gl.form
          obtain ⟨vn, hvn⟩ : ∃ vn, vn = ((List.range j).map (fun i => (os i).cells)).length := ⟨_, rfl⟩
          rw [← hvn] at hvf
          subst hvf
          clear hvn
          obtain ⟨k, hk⟩ : ∃ k, k = P.cs j := ⟨_, rfl⟩
          have BLJ : Hid (Below W.heap.size W wr) := BLU.out.trans (KJ.out.be.mono BLU.out.size)
          obtain ⟨g9, o9, hsa, _, hrg⟩ := (PK.out BLJ.out).cr j hlt
          have hix := ix_at Try.underlying93 Try.elem93 Try.so215 (c := P.cc) hsa hlt
          have RG : Hid (wr.rangeAt g9 (o9 + j * 5) k.cells) := by rw [hk]; exact hrg
          have KI : Hid (CgIn wr (fun g => g < wr.heap.size) k) := by rw [hk]; exact (PK.out BLJ.out).ci j hlt
          have LEN := HLN.out j hlt
          rw [← hk] at LEN
          have HKK : Hid _ := hk
          clear hrg hk hsa
          go_upto_region 22 with (first
            | refine wpList_load_mid rfl 112 (.tmp 122) rfl g9 (o9 + j * 5) rfl k.cells _ RG.out Try.underlying112 rfl (Try.cgSz k) ?_
            | (refine wpList_store_part rfl 112 (.tmp 20) (.tmp 123) rfl wr.heap.size 0 k.cells rfl rfl (t := 112) ⟨heap_alloc_new _ _⟩ (by simp [Cg.cells]) (Try.cgSz k) k.one ?_; intro wC hw8 hc8; rw [splice_all _ _ (by simp [Cg.cells])] at hw8; have c8 : Chg (fun _ => False) wr wC := ((Chg.refl (fun _ => False) wr).alloc _).trans hc8 (fun i e => .inr (by omega)); have BK : Hid _ := hw8; have CB : Hid _ := c8; clear hw8 hc8 c8))
          obtain ⟨q, hq⟩ : ∃ q, q = wr.heap.size := ⟨_, rfl⟩
          have HQQ : Hid _ := hq
          rw [← hq] at BK ⊢
          clear RG hix hq
          obtain ⟨ky, had, od, has, nw⟩ := k
          have kx : wC.cell? ⟨q, 0, none⟩ = some ky.val := BK.out.cell 0
          have HC : Hid _ := copy_any (Src.kept0 KI.out.ky.s (CB.out.below (Nat.le_refl _) (fun _ e => e.elim))) (by show ky.l.length ≤ _; exact Nat.le_trans LEN.1 (by decide))
          go_wp2_with fail
          refine Calls.mono HC.out ?_
          rintro e wk1 ⟨u1, rfl, mu⟩
          obtain ⟨a1, c1, hv⟩ := mu.1.form
          obtain ⟨n1, hn1⟩ : ∃ nn, nn = ky.l.length := ⟨_, rfl⟩
          rw [← hn1] at hv
          subst hv
          clear hn1
          have Z1 : Hid (Own wk1 (.slice a1 n1 c1) ky.l ∧ ∀ g, (Value.slice a1 n1 c1).ownBlock = some g → wC.heap.size ≤ g) := ⟨mu.1, mu.2.2⟩
          have cc1 : Chg (fun _ => False) wC wk1 := Chg.of_below mu.2.1 (fun _ => False)
          have E1 : Hid _ := BK.out.keep cc1 (fun e => e)
          have CK1 : Hid (Chg (fun _ => False) wr wk1) := CB.out.trans cc1 (fun _ e => e.elim)
          have PQ1 : Hid (q < wC.heap.size) := BK.out.lt
          clear mu kx HC
          have hc9 : wk1.cell? ⟨q, 0, none⟩ = some ky.val := E1.out.cell 0
          have hf9 : wk1.frozen? ⟨q, 0, none⟩ = false := E1.out.fr 0
          go_upto_region 23 with fail
          obtain ⟨wl1, hw1⟩ : ∃ wl, wl = wk1.setCell ⟨q, 0, none⟩ (.slice a1 n1 c1) := ⟨_, rfl⟩
          rw [← hw1]
          have cs1 : Chg (fun k => k = q) wk1 wl1 := by rw [hw1]; exact (Chg.refl (fun k => k = q) wk1).setCell (p := ⟨q, 0, none⟩) (.inl rfl) _
          have G1 : Hid (Blk wl1 q (⟨⟨a1, n1, c1, ky.l⟩, had, od, has, nw⟩ : Cg).cells 112) := by rw [hw1]; exact E1.out.set 0 (.slice a1 n1 c1)
          have CL1 : Hid (Chg (fun _ => False) wr wl1) := CK1.out.trans cs1 (fun k e => .inr (by have := HQQ.out; omega))
          have SQ1 : Hid (q < wk1.heap.size ∧ wk1.heap.size ≤ wl1.heap.size) := ⟨E1.out.lt, cs1.size⟩
          have O11 : Hid (Own wl1 (.slice a1 n1 c1) ky.l) := (Z1.out.1).kept cs1 (fun k hk e => by have := Z1.out.2 k hk; have := PQ1.out; omega)
          clear hc9 hf9 hw1 cs1 cc1 E1 BK CB CK1
          have kx : wl1.cell? ⟨q, 2, none⟩ = some od.val := G1.out.cell 2
          have HC : Hid _ := copy_any (Src.kept0 KI.out.od.s (CL1.out.below (Nat.le_refl _) (fun _ e => e.elim))) (by show od.l.length ≤ _; exact Nat.le_trans LEN.2.1 (by decide))
          go_wp2_with fail
          refine Calls.mono HC.out ?_
          rintro e wk2 ⟨u2, rfl, mu⟩
          obtain ⟨a2, c2, hv⟩ := mu.1.form
          obtain ⟨n2, hn2⟩ : ∃ nn, nn = od.l.length := ⟨_, rfl⟩
          rw [← hn2] at hv
          subst hv
          clear hn2
          have Z2 : Hid (Own wk2 (.slice a2 n2 c2) od.l ∧ ∀ g, (Value.slice a2 n2 c2).ownBlock = some g → wl1.heap.size ≤ g) := ⟨mu.1, mu.2.2⟩
          have cc2 : Chg (fun _ => False) wl1 wk2 := Chg.of_below mu.2.1 (fun _ => False)
          have E2 : Hid _ := G1.out.keep cc2 (fun e => e)
          have CK2 : Hid (Chg (fun _ => False) wr wk2) := CL1.out.trans cc2 (fun _ e => e.elim)
          have PQ2 : Hid (q < wl1.heap.size) := G1.out.lt
          clear mu kx HC
          have hc9 : wk2.cell? ⟨q, 2, none⟩ = some od.val := E2.out.cell 2
          have hf9 : wk2.frozen? ⟨q, 2, none⟩ = false := E2.out.fr 2
          go_upto_region 24 with fail
          obtain ⟨wl2, hw2⟩ : ∃ wl, wl = wk2.setCell ⟨q, 2, none⟩ (.slice a2 n2 c2) := ⟨_, rfl⟩
          rw [← hw2]
          have cs2 : Chg (fun k => k = q) wk2 wl2 := by rw [hw2]; exact (Chg.refl (fun k => k = q) wk2).setCell (p := ⟨q, 2, none⟩) (.inl rfl) _
          have G2 : Hid (Blk wl2 q (⟨⟨a1, n1, c1, ky.l⟩, had, ⟨a2, n2, c2, od.l⟩, has, nw⟩ : Cg).cells 112) := by rw [hw2]; exact E2.out.set 2 (.slice a2 n2 c2)
          have CL2 : Hid (Chg (fun _ => False) wr wl2) := CK2.out.trans cs2 (fun k e => .inr (by have := HQQ.out; omega))
          have SQ2 : Hid (q < wk2.heap.size ∧ wk2.heap.size ≤ wl2.heap.size) := ⟨E2.out.lt, cs2.size⟩
          have O12 : Hid (Own wl2 (.slice a1 n1 c1) ky.l) := ((O11.out.kept cc2 (fun _ _ e => e))).kept cs2 (fun k hk e => by have := Z1.out.2 k hk; have := PQ1.out; omega)
          have O22 : Hid (Own wl2 (.slice a2 n2 c2) od.l) := (Z2.out.1).kept cs2 (fun k hk e => by have := Z2.out.2 k hk; have := PQ2.out; omega)
          clear hc9 hf9 hw2 cs2 cc2 E2 G1 CL1 CK2
          have kx : wl2.cell? ⟨q, 4, none⟩ = some nw.val := G2.out.cell 4
          have HC : Hid _ := copy_any (Src.kept0 KI.out.nw.s (CL2.out.below (Nat.le_refl _) (fun _ e => e.elim))) (by show nw.l.length ≤ _; exact Nat.le_trans LEN.2.2 (by decide))
          go_wp2_with fail
          refine Calls.mono HC.out ?_
          rintro e wk3 ⟨u3, rfl, mu⟩
          obtain ⟨a3, c3, hv⟩ := mu.1.form
          obtain ⟨n3, hn3⟩ : ∃ nn, nn = nw.l.length := ⟨_, rfl⟩
          rw [← hn3] at hv
          subst hv
          clear hn3
          have Z3 : Hid (Own wk3 (.slice a3 n3 c3) nw.l ∧ ∀ g, (Value.slice a3 n3 c3).ownBlock = some g → wl2.heap.size ≤ g) := ⟨mu.1, mu.2.2⟩
          have cc3 : Chg (fun _ => False) wl2 wk3 := Chg.of_below mu.2.1 (fun _ => False)
          have E3 : Hid _ := G2.out.keep cc3 (fun e => e)
          have CK3 : Hid (Chg (fun _ => False) wr wk3) := CL2.out.trans cc3 (fun _ e => e.elim)
          have PQ3 : Hid (q < wl2.heap.size) := G2.out.lt
          clear mu kx HC
          have hc9 : wk3.cell? ⟨q, 4, none⟩ = some nw.val := E3.out.cell 4
          have hf9 : wk3.frozen? ⟨q, 4, none⟩ = false := E3.out.fr 4
          go_upto_region 25 with fail
          obtain ⟨wl3, hw3⟩ : ∃ wl, wl = wk3.setCell ⟨q, 4, none⟩ (.slice a3 n3 c3) := ⟨_, rfl⟩
          rw [← hw3]
          have cs3 : Chg (fun k => k = q) wk3 wl3 := by rw [hw3]; exact (Chg.refl (fun k => k = q) wk3).setCell (p := ⟨q, 4, none⟩) (.inl rfl) _
          have G3 : Hid (Blk wl3 q (⟨⟨a1, n1, c1, ky.l⟩, had, ⟨a2, n2, c2, od.l⟩, has, ⟨a3, n3, c3, nw.l⟩⟩ : Cg).cells 112) := by rw [hw3]; exact E3.out.set 4 (.slice a3 n3 c3)
          have CL3 : Hid (Chg (fun _ => False) wr wl3) := CK3.out.trans cs3 (fun k e => .inr (by have := HQQ.out; omega))
          have SQ3 : Hid (q < wk3.heap.size ∧ wk3.heap.size ≤ wl3.heap.size) := ⟨E3.out.lt, cs3.size⟩
          have O13 : Hid (Own wl3 (.slice a1 n1 c1) ky.l) := ((O12.out.kept cc3 (fun _ _ e => e))).kept cs3 (fun k hk e => by have := Z1.out.2 k hk; have := PQ1.out; omega)
          have O23 : Hid (Own wl3 (.slice a2 n2 c2) od.l) := ((O22.out.kept cc3 (fun _ _ e => e))).kept cs3 (fun k hk e => by have := Z2.out.2 k hk; have := PQ2.out; omega)
          have O33 : Hid (Own wl3 (.slice a3 n3 c3) nw.l) := (Z3.out.1).kept cs3 (fun k hk e => by have := Z3.out.2 k hk; have := PQ3.out; omega)
          clear hc9 hf9 hw3 cs3 cc3 E3 G2 CL2 CK3
          obtain ⟨x, hx⟩ : ∃ x : Cg, x = ⟨⟨a1, n1, c1, ky.l⟩, had, ⟨a2, n2, c2, od.l⟩, has, ⟨a3, n3, c3, nw.l⟩⟩ := ⟨_, rfl⟩
          have GX : Hid (Blk wl3 q x.cells 112) := by rw [hx]; exact G3.out
          have KF := KJ.out.fresh CL3.out
          obtain ⟨v', w', hr, gl, ch, nv, ko⟩ := KF.app x (by omega)
          have sm : SmC (P.cs j) x := by rw [← HKK.out, hx]; exact ⟨rfl, rfl, rfl, rfl, rfl⟩
          have KN := KF.step (x := x) (by rw [hx]; exact O13.out) (by rw [hx]; exact O23.out) (by rw [hx]; exact O33.out) sm gl ch nv ko
          obtain ⟨ya, yc, hyf⟩ := gl.form
          obtain ⟨yn, hyn⟩ : ∃ yn, yn = ((List.range j).map (fun i => (os i).cells) ++ [x.cells]).length := ⟨_, rfl⟩
          rw [← hyn] at hyf
          subst hyf
          have KNH : Hid _ := KN
          have HR : Hid _ := hr
          clear KN hr gl ch nv ko sm hyn KF hx O13 O23 O33 O12 O22 O11 G3 CL3 Z1 Z2 Z3 PQ1 PQ2 PQ3 SQ1 SQ2 SQ3 HKK KI
          go_wp2_with (first
            | refine wpList_load_part rfl 112 (.tmp 20) rfl q 0 x.cells rfl GX.out (by simp) Try.underlying112 rfl (Try.cgSz x) ?_
            | refine wpList_buildG (sl := 93) Try.underlying93 info215 (by decide) (by decide) rfl (.tmp 137) rfl (C := x.cells) rfl rfl ?_
            | refine wpList_appG (sl := 93) rfl (.tmp 136) (.tmp 138) rfl (v := .slice va vn vc) (u := .slice (some ⟨wl3.heap.size, 0, none⟩) 1 1) (v' := .slice ya yn yc) (w' := w') rfl rfl HR.out ?_)
          go_roundw
          case rel => exact ⟨j + 1, _, by omega, by go_num, KNH.out⟩
          case measure => simp [intOf]; omega
        · have hjn : j = P.cn := by omega
          rw [hjn] at KJ
          clear hj hlt
          obtain ⟨va, vc, hvf⟩ := KJ.out.gl.form
          obtain ⟨vn, hvn⟩ : ∃ vn, vn = ((List.range P.cn).map (fun i => (os i).cells)).length := ⟨_, rfl⟩
          rw [← hvn] at hvf
          subst hvf
          clear hvn
          obtain ⟨x5, hx5⟩ : ∃ x5 : Cg, x5 = ⟨⟨some ⟨wr.heap.size, 0, none⟩, 3, 3, [5, 5, 5]⟩, false, ⟨none, 0, 0, []⟩, false, ⟨none, 0, 0, []⟩⟩ := ⟨_, rfl⟩
          have KF := KJ.out.fresh ((Chg.refl (fun _ => False) wr).alloc (.cells #[.int .u8 5, .int .u8 5, .int .u8 5] 5))
          obtain ⟨v', w', hr, gl, ch, nv, ko⟩ := KF.app x5 (by omega)
          have hru := hr
          rw [World.size_alloc] at hr
          obtain ⟨gc, c5, e5, r5⟩ := gl.at (j := P.cn) (by simp)
          have hll : ((List.range P.cn).map (fun i => (os i).cells) ++ [x5.cells]).length = P.cn + 1 := by simp
          rw [hll] at e5
          subst e5
          have HR : Hid _ := hr
          have HRU : Hid _ := hru
          have GCW : Hid (GL w' (.slice (some ⟨gc, 0, none⟩) (P.cn + 1) c5) 112 5 ((List.range P.cn).map (fun i => (os i).cells) ++ [x5.cells])) := gl
          have BUW : Hid (Below wU.heap.size wU w') := KF.be.trans (ch.below KF.be.size (fun k e => KF.nv k e.symm))
          have NGC : Hid (wU.heap.size ≤ gc) := nv gc rfl
          have OWS : Hid (∀ i, i < P.cn → Own w' (os i).ky.val (os i).ky.l ∧ Own w' (os i).od.val (os i).od.l ∧ Own w' (os i).nw.val (os i).nw.l) := fun i hi => by have k := KF.ow i hi; exact ⟨ko k.1, ko k.2.1, ko k.2.2⟩
          have KSM : Hid _ := KJ.out.sm
          have hc5 : P.cn + 1 ≤ c5 ∧ c5 ≤ 9223372036854775807 := by
            rcases gl.row.2 with ⟨e9, _⟩ | ⟨_, cap, _, e9, _, _, h1, h2, _⟩
            · cases e9
            · injection e9 with _ _ e9
              subst e9
              rw [hll] at h1
              unfold maxLen at h2
              omega
          have X5E : Hid (x5.cells = chC (.slice (some ⟨wr.heap.size, 0, none⟩) 3 3) false (.slice none 0 0) false (.slice none 0 0)) := by show _ = _; rw [hx5]; rfl
          rw [X5E.out] at HR HRU
          clear KF hr hru gl ch nv ko r5 hll hx5
          go_upto_region 28 with (first
            | refine wpList_buildG (sl := 93) Try.underlying93 info215 (by decide) (by decide) rfl (.tmp 143) rfl (C := chC (.slice (some ⟨wr.heap.size, 0, none⟩) 3 3) false (.slice none 0 0) false (.slice none 0 0)) rfl rfl ?_
            | refine wpList_appG (sl := 93) rfl (.tmp 141) (.tmp 144) rfl (v := .slice va vn vc) (u := .slice (some ⟨wr.heap.size + 1, 0, none⟩) 1 1) (v' := .slice (some ⟨gc, 0, none⟩) (P.cn + 1) c5) (w' := w') rfl rfl HR.out ?_
            | refine wpList_appG (sl := 93) rfl (.tmp 141) (.tmp 144) rfl (v := .slice va vn vc) (u := .slice (some ⟨(wr.alloc (.cells #[.int .u8 5, .int .u8 5, .int .u8 5] 5)).heap.size, 0, none⟩) 1 1) (v' := .slice (some ⟨gc, 0, none⟩) (P.cn + 1) c5) (w' := w') rfl rfl HRU.out ?_)
          clear HR HRU KJ
          have CUW : Hid (Chg (fun _ => False) wU w') := Chg.of_below BUW.out (fun _ => False)
          have C8W : Hid (Chg (fun _ => False) wr0 w') := C8U.out.trans CUW.out (fun _ e => e.elim)
          have BLW : Hid (Below W.heap.size W w') := BLU.out.trans (BUW.out.mono BLU.out.size)
          have DW : Hid _ := DU.out.keep CUW.out (fun e => e)
          have OWW : Hid (Own w' (.slice (some ⟨rg, 0, none⟩) RM rc) (P.bo.l ++ [165, 90])) := OU.out.kept CUW.out (fun _ _ e => e)
          have HL3' : P3.hl.length = 32 := by rw [HP3.out]; exact HL2'
          have LB3' : P3.lb.length = 32 := by rw [HP3.out]; exact LB2'
          have kx : w'.cell? ⟨X, 75, none⟩ = some (.slice P.ca P.cn P.cc) := by rw [(B5.out.keep0 BLW.out).cell]; exact P.at HPL HPB 4
          have ky : w'.cell? ⟨Q, 75, none⟩ = some (.slice P3.ca P3.cn P3.cc) := by rw [DW.out.cell]; exact P3.at HL3' LB3' 4
          have kf : w'.frozen? ⟨Q, 75, none⟩ = false := DW.out.fr 75
          go_upto_region 29 with fail
          obtain ⟨wN, hw⟩ : ∃ wN : World, wN = w'.setCell ⟨Q, 75, none⟩ (.slice (some ⟨gc, 0, none⟩) P.cn c5) := ⟨_, rfl⟩
          rw [← hw]
          obtain ⟨P4, hP4⟩ : ∃ P4 : Msg, P4 = { P3 with ca := some ⟨gc, 0, none⟩, cn := P.cn, cc := c5, cs := os } := ⟨_, rfl⟩
          have DN : Hid (Blk wN Q P4.cells 95) := by rw [hw, hP4, ← P3.putca HL3' LB3' (some ⟨gc, 0, none⟩) P.cn c5 os]; exact DW.out.set 75 (.slice (some ⟨gc, 0, none⟩) P.cn c5)
          have cN : Chg (fun k => k = Q) w' wN := by rw [hw]; exact (Chg.refl (fun k => k = Q) w').setCell (p := ⟨Q, 75, none⟩) (.inl rfl) _
          have E4 : Hid (P4 = ⟨P.ki, P.ver, P.oth, sp', P.hs, P.hl, P.lb, P.ct, P.co, ⟨some ⟨rg, 0, none⟩, RN, rc, P.bo.l⟩, some ⟨gp, 0, none⟩, P.pn, cp, P.ps, some ⟨gc, 0, none⟩, P.cn, c5, os⟩) := by show _ = _; rw [hP4, HP3.out, HP2.out, HP1.out]
          have C8N : Hid (Chg (fun _ => False) wr0 wN) := C8W.out.trans cN (fun i e => .inr (by have := HQ.out; omega))
          have BLN : Hid (Below W.heap.size W wN) := BL8.out.trans (C8N.out.below BL8.out.size (fun _ e => e.elim))
          have no95 : ∀ {u : Value} {l : List Int}, Own w' u l → Own wN u l := fun ho => ho.kept cN (fun k hk e => by
            obtain ⟨_, e5⟩ := own_block5 ho hk
            rw [e, DW.out.eq] at e5
            injection e5 with e5
            injection e5 with _ e5
            exact absurd e5 (by decide))
          have ON : Hid (Own wN (.slice (some ⟨rg, 0, none⟩) RM rc) (P.bo.l ++ [165, 90])) := no95 OWW.out
          have OSN : Hid (∀ i, i < P.cn → Own wN (os i).ky.val (os i).ky.l ∧ Own wN (os i).od.val (os i).od.l ∧ Own wN (os i).nw.val (os i).nw.l) := fun i hi => by have k := OWS.out i hi; exact ⟨no95 k.1, no95 k.2.1, no95 k.2.2⟩
          have QN : Hid (SpIn wN (fun g => g < wN.heap.size) sp') := ((QU.out.kept CUW.out (fun _ _ e => e)).kept cN (fun g hg e => hg.2 e)).mono (fun g hg => Nat.lt_of_lt_of_le hg.1 (Nat.le_trans CUW.out.size cN.size))
          have GPN : Hid (GL wN (.slice (some ⟨gp, 0, none⟩) (P.pn + 1) cp) 31 32 ((List.range P.pn).map (fun i => bs (P.ps i)) ++ [bs s555])) := (GPU.out.kept CUW.out (fun _ _ _ _ e => e)).kept cN (fun k _ hk _ e => by simp [Value.ownBlock] at hk; have := GZM.out; have := LT.out; have := LRG.out; have := SZV.out; omega)
          have GCN : Hid (GL wN (.slice (some ⟨gc, 0, none⟩) (P.cn + 1) c5) 112 5 ((List.range P.cn).map (fun i => (os i).cells) ++ [x5.cells])) := GCW.out.kept cN (fun k _ hk _ e => by simp [Value.ownBlock] at hk; have := NGC.out; have := LU.out; omega)
          have LGN : gp < wN.heap.size ∧ gc < wN.heap.size := by
            obtain ⟨_, h9⟩ := GPN.out.blk (g := gp) rfl
            obtain ⟨_, h8⟩ := GCN.out.blk (g := gc) rfl
            exact ⟨(Array.getElem?_eq_some_iff.1 h9).1, (Array.getElem?_eq_some_iff.1 h8).1⟩
          have SKN : Hid (Src wN (.slice (some ⟨rg, 0, none⟩) RN rc) P.bo.l) := by rw [HRN.out]; exact Own.front ON.out rc (by simp)
          clear kx ky kf hw hP4 no95 GPU GCW OWW OWS QU CUW C8W BLW DW DU OU C8U BUW
          have PI : Hid (MsIn wN (fun g => g < wN.heap.size) P4) := by
            rw [E4.out]
            have tl : ∀ {u : Tx}, Own wN u.val u.l → u.l.length ≤ 1048576 → TxIn wN (fun g => g < wN.heap.size) u := fun ho hl => ⟨ho.src, fun g hg => .inl (ho.lt hg), by omega⟩
            exact ⟨HP.out.ki, HP.out.ver, HP.out.oth, HP.out.hs, HP.out.ct, QN.out, HPL, HPB, ⟨SKN.out, fun g hg => .inl (ON.out.lt hg), by show P.bo.l.length ≤ _; omega⟩, HP.out.pn, (frontG GPN.out).1.mono (fun k e => by omega), HP.out.pl, HP.out.cn, (frontG GCN.out).1.mono (fun k e => by omega), fun i hi => by
              have k := OSN.out i hi
              have s := KSM.out i hi
              have l := HLN.out i hi
              exact ⟨tl k.1 (by rw [← s.ky]; exact l.1), tl k.2.1 (by rw [← s.od]; exact l.2.1), tl k.2.2 (by rw [← s.nw]; exact l.2.2)⟩⟩
          have SMP : Hid (SmM P4 P) := by
            rw [E4.out]
            exact ⟨rfl, rfl, rfl, QS.out.1, QS.out.2.1, QS.out.2.2, rfl, rfl, rfl, rfl, rfl, rfl, rfl, fun _ _ => rfl, rfl, fun i hi => (KSM.out i hi).symm⟩
          have HL4 : P4.hl.length = 32 := by rw [E4.out]; exact HPL
          have LB4 : P4.lb.length = 32 := by rw [E4.out]; exact HPB
          go_wp2_with (refine wpList_load_part rfl 95 (.tmp 14) rfl Q 0 P4.cells rfl DN.out (by simp) Try.underlying95 rfl (Try.msSzM P4 HL4 LB4) ?_)
          refine Calls.mono (cMsg_any PI.out (by rw [SMP.out.bytes]; exact hb0)) ?_
          rintro e wD ⟨b, rfl, mb⟩
          rw [SMP.out.bytes] at mb
          have CND : Hid (Chg (fun _ => False) wN wD) := Chg.of_below mb.2.1 (fun _ => False)
          have BLD : Hid (Below W.heap.size W wD) := BLN.out.trans (mb.2.1.mono BLN.out.size)
          have OB : Hid (Own wD b P.bytes) := mb.1
          obtain ⟨bg, bc, hbf⟩ := mb.1.form
          obtain ⟨bn, hbn⟩ : ∃ bn, bn = P.bytes.length := ⟨_, rfl⟩
          rw [← hbn] at hbf
          subst hbf
          have HBN : Hid _ := hbn
          clear mb hbn
          have kx3 : wD.cell? ⟨X, 73, none⟩ = some P.bo.val := by rw [(B5.out.keep0 BLD.out).cell]; exact P.at HPL HPB 2
          have HU : Hid _ := untouched_P (s := P.bo.val) HRM.out (PK.out BLD.out).bo.s (ON.out.kept CND.out (fun _ _ e => e)) (by omega)
          go_wp2_with fail
          refine Calls.mono HU.out ?_
          rintro e wX ⟨rfl, nX, hwX⟩
          have bDX : Below wD.heap.size wD wX := by rw [hwX]; exact below_drewN (Below.refl _ _) nX
          have CDX : Hid (Chg (fun _ => False) wD wX) := Chg.of_below bDX (fun _ => False)
          have BLX : Hid (Below W.heap.size W wX) := BLD.out.trans (bDX.mono BLD.out.size)
          have CNX : Hid (Chg (fun _ => False) wN wX) := CND.out.trans CDX.out (fun _ e => e.elim)
          clear hwX bDX HU kx3
          have DQ : Hid (Blk wX Q P4.cells 95) := DN.out.keep CNX.out (fun e => e)
          have GX : Hid (Blk wX X P.cells 95) := B5.out.keep0 BLX.out
          have kx3 : wX.cell? ⟨X, 74, none⟩ = some (.slice P.pa P.pn P.pc) := by rw [GX.out.cell]; exact P.at HPL HPB 3
          have kx4 : wX.cell? ⟨X, 75, none⟩ = some (.slice P.ca P.cn P.cc) := by rw [GX.out.cell]; exact P.at HPL HPB 4
          have hx3 := ix_at Try.underlying92 Try.elem92 Try.so31 (A := some ⟨gp, 0, none⟩) (n := P.pn + 1) (c := cp) (j := P.pn) rfl (by omega)
          have hx4 := ix_at Try.underlying93 Try.elem93 Try.so215 (A := some ⟨gc, 0, none⟩) (n := P.cn + 1) (c := c5) (j := P.cn) rfl (by omega)
          simp only [Nat.zero_add] at hx3 hx4
          have RP3 : Hid (wX.rangeAt gp (P.pn * 32) (bs s555)) := rangeAt_kept (frontG GPN.out).2 CNX.out (fun e => e)
          have kl4 : wX.cell? ⟨gc, P.cn * 5, none⟩ = some (.slice (some ⟨wr.heap.size, 0, none⟩) 3 3) := rangeAt_kept (frontG GCN.out).2 CNX.out (fun e => e) 0 _ (by rw [X5E.out]; rfl)
          have E31 : Hid (∀ w, (binOp .neq 31 (.agg (bs s555).toArray) (.agg (bs s555).toArray)).run Try.prog w = .ok (.bool false) w) := fun w => by rw [neq31b s555 s555 rfl rfl w, decide_eq_true rfl]; rfl
          go_wp2_with (first
            | refine wpList_load_gm (by rfl) 31 (.tmp 164) rfl gp (P.pn * 32) rfl (bs s555) RP3.out Try.underlying31 rfl (Try.sumSz' s555 rfl) ?_
            | refine wpList_bin_g (by rfl) .neq 31 (.tmp 165) (.tmp 166) rfl (u := (bs s555).toArray) (v := (bs s555).toArray) rfl rfl Try.eqGuardType31 (E31.out _) ?_
            | refine wpList_load_g (by rfl) 95 (.tmp 14) rfl Q 0 P4.cells rfl DQ.out (by simp) Try.underlying95 rfl (Try.msSzM P4 HL4 LB4) ?_
            | refine wpList_load_g (by rfl) 95 (.tmp 2) rfl X 0 P.cells rfl GX.out (by simp) Try.underlying95 rfl (Try.msSzM P HPL HPB) ?_)
          refine Calls.mono (sameMsgE (PI.out.mv.kept CNX.out) (PK.out BLX.out).mv SMP.out) ?_
          rintro e wE ⟨rfl, bl⟩
          have CXE : Hid (Chg (fun _ => False) wX wE) := Chg.of_below bl (fun _ => False)
          have BLE : Hid (Below W.heap.size W wE) := BLX.out.trans (bl.mono BLX.out.size)
          have C8E : Hid (Chg (fun _ => False) wr0 wE) := (C8N.out.trans CNX.out (fun _ e => e.elim)).trans CXE.out (fun _ e => e.elim)
          have OBE : Hid (Own wE (.slice bg bn bc) P.bytes) := (OB.out.kept CDX.out (fun _ _ e => e)).kept CXE.out (fun _ _ e => e)
          have XE : Hid _ := XV.out.kept C8E.out
          have YE : Hid _ := YV.out.kept C8E.out
          have D9 : Hid _ := D8.out.keep C8E.out (fun e => e)
          have F9 : Hid _ := F8.out.keep C8E.out (fun e => e)
          clear bl kx3 kx4 hx3 hx4 kl4 RP3 E31 DQ GX OB GPN GCN DN XV YV D8 F8 CXE CDX CND CNX C8N C8E
          go_wp2_with (first
            | refine wpList_load_g (by rfl) 95 (.tmp 7) rfl w2.heap.size 0 X1.cells rfl D9.out (by simp) Try.underlying95 rfl ZC ?_
            | refine wpList_load_g (by rfl) 95 (.tmp 9) rfl w4.heap.size 0 X2.cells rfl F9.out (by simp) Try.underlying95 rfl ZD ?_)
          refine Calls.mono (sameMsgE XE.out YE.out HSM.out) ?_
          rintro e wF ⟨rfl, bl⟩
          have BLF : Hid (Below W.heap.size W wF) := BLE.out.trans (bl.mono BLE.out.size)
          have OBF : Hid (Own wF (.slice bg bn bc) P.bytes) := OBE.out.kept (Chg.of_below bl (fun _ => False)) (fun _ _ e => e)
          have GY : Hid (Blk wF X P.cells 95) := B5.out.keep0 BLF.out
          clear bl XE YE D9 F9 OBE
          go_wp2_with (refine wpList_load_g (by rfl) 95 (.tmp 2) rfl X 0 P.cells rfl GY.out (by simp) Try.underlying95 rfl (Try.msSzM P HPL HPB) ?_)
          refine Calls.mono (xMessage_any (PK.out BLF.out) l1 l2 l3 hpn hcn HLN.out) ?_
          rintro e wG ⟨u, rfl, mu⟩
          have BLG : Hid (Below W.heap.size W wG) := BLF.out.trans (mu.2.1.mono BLF.out.size)
          have OUG : Hid (Own wG u P.bytes) := mu.1
          have OBG : Hid (Own wG (.slice bg bn bc) P.bytes) := OBF.out.kept (Chg.of_below mu.2.1 (fun _ => False)) (fun _ _ e => e)
          obtain ⟨ug, uc, huf⟩ := mu.1.form
          rw [← HBN.out] at huf
          subst huf
          clear mu OBF GY
          have HCS : Hid _ := same_any (OBG.out.src) (OUG.out.src) (by omega) (by omega)
          rw [decide_eq_true (rfl : P.bytes = P.bytes)] at HCS
          go_wp2_with fail
          refine Calls.mono HCS.out ?_
          rintro e wH ⟨rfl, n7, hw⟩
          have F : Hid (Below w.heap.size w wH) := by
            rw [hw]
            exact HB.out.trans ((BLG.out.trans (below_drewN (Below.refl _ _) n7 |>.mono BLG.out.size)).mono HB.out.size)
          clear hw HCS
          go_wp2_with fail
          go_ret
          exact ⟨rfl, F.out⟩
end Go.Proofs.Ytjmeaebehndheaa
