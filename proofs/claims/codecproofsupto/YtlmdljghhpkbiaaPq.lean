/-
  CodecProofs, walked.
-/
import Derived.Test.YtlmdljghhpkbiaaPqA
namespace Go.Proofs.Ytlmdljghhpkbiaa
open Go.RowKit

set_option maxRecDepth 100000 in
set_option maxHeartbeats 16000000 in
theorem proofs_any {w : World} {P : Prf} {sv : Value} {T : List Int} (hP : PrIn w (fun g => g < w.heap.size) P) (hn : P.on ≤ 1048576) (hl : ∀ i, i < P.on → (P.os i).kl.length ≤ 4194304 ∧ (P.os i).vl.length ≤ 4194304) (hb0 : P.bytes.length ≤ 70368744177664) (hs : In w sv T) (hT : T.length ≤ 1048576) :
    Calls Try.prog 8 #[.agg P.cells.toArray, sv] w fun e w' => e = .returned (.bool true) ∧ Below w.heap.size w w' := by
  obtain ⟨X, hX⟩ : ∃ X, X = w.heap.size := ⟨_, rfl⟩
  obtain ⟨W, hW⟩ : ∃ W, W = w.alloc (.cells P.cells.toArray 98) := ⟨_, rfl⟩
  have hb : Below w.heap.size w W := by rw [hW]; exact (Below.refl _ _).alloc (Nat.le_refl _) _
  have HB : Hid _ := hb
  have B5 : Hid (Blk W X P.cells 98) := by rw [hW, hX]; exact Blk.made w _ 98
  have HP : Hid (PrIn W (fun g => g < W.heap.size) P) := hP.keep0 hb
  have HLN : Hid _ := hl
  have HS : Hid (In W sv T) := hs.keep hb
  obtain ⟨sa, sc, hsf, _⟩ := hs.cap
  obtain ⟨n0, hn0⟩ : ∃ n, n = T.length := ⟨_, rfl⟩
  rw [← hn0] at hsf hT
  have HN0 : Hid _ := hn0
  subst hsf
  clear hP hb hs hn0 hl
  go_enter Try.func8, Try.ntmps8
  go_upto_region 1 with fail
  rw [← hX, ← hW]
  have HX : Hid _ := hX
  clear hX hW
  have HC : Hid _ := roomy_any HS.out.src (by have := HN0.out; omega)
  rw [← HN0.out] at HC
  go_wp2_with fail
  refine Calls.mono HC.out ?_
  rintro e w1 ⟨ad, c1, rfl, m1⟩
  obtain ⟨M, hM⟩ : ∃ M, M = n0 + 2 := ⟨_, rfl⟩
  rw [← hM] at m1 ⊢
  obtain ⟨g, eg⟩ := Own.addrP m1.1 (by simp)
  injection eg with eg
  subst eg
  obtain ⟨cq, hcq1, hcq2⟩ : n0 ≤ c1 ∧ c1 ≤ 9223372036854775807 ∧ True := by
    obtain ⟨_, cap, e, h1, h2⟩ := m1.1.form2 (by simp)
    injection e with _ e2 e3
    subst e3
    rw [List.length_append, ← HN0.out] at h1
    exact ⟨by simp at h1; omega, h2, trivial⟩
  have BL1 : Hid (Below W.heap.size W w1) := m1.2.1
  have OW1 : Hid (Own w1 (.slice (some ⟨g, 0, none⟩) M c1) (T ++ [165, 90])) := m1.1
  have IN1 : Hid (In w1 (.slice (some ⟨g, 0, none⟩) n0 c1) T) := by
    have s1 := Own.front m1.1 c1 (by simp)
    rw [← HN0.out] at s1
    exact ⟨s1, HS.out.byt, HS.out.big, ⟨_, c1, by rw [← HN0.out], by rw [← HN0.out]; omega, hcq1⟩, fun k hk => m1.1.lt hk⟩
  have HMQ : Hid _ := hM
  have hMb : M ≤ 1048578 := by omega
  clear m1 hM HC hcq2
  go_wp2_with fail
  refine Calls.mono (proofCode_any IN1.out (by have := HN0.out; omega)) ?_
  rintro e w2 ⟨C, rfl, bl2, hC, c1a, c1b⟩
  obtain ⟨E, hE⟩ : ∃ E, E = proofE T := ⟨_, rfl⟩
  rw [← hE]
  have HE : Hid _ := hE
  have LC := hC.1
  have OC : Hid _ := hC.2
  have BL2 : Hid (Below W.heap.size W w2) := BL1.out.trans (bl2.mono BL1.out.size)
  have OW2 : Hid (Own w2 (.slice (some ⟨g, 0, none⟩) M c1) (T ++ [165, 90])) := OW1.out.kept (Chg.of_below bl2 (fun _ => False)) (fun _ _ e => e)
  have CA : Hid (E = 0 → PrIs w2 w1.heap.size (proofS T 0 0) C) := fun e => c1a (by rw [← hE]; exact e)
  have CB : Hid (¬ E = 0 → C = prZ) := fun e => c1b (by rw [← hE]; exact e)
  have W1 : Hid (W.heap.size ≤ w1.heap.size) := BL1.out.size
  clear bl2 hC c1a c1b hE IN1 OW1 BL1
  go_upto_region 3 with (refine wpList_store_part rfl 98 (.tmp 7) (.tmp 25) rfl w2.heap.size 0 C rfl rfl (t := 98) ⟨heap_alloc_new _ _⟩ (by rw [LC]; simp [prZ, prC]) (Try.prZsz C LC) OC.out ?_; intro w3 hw4 hc4; rw [splice_all _ _ (by rw [LC]; simp [prZ, prC])] at hw4; have D3 : Hid _ := hw4; have c8 : Chg (fun _ => False) w2 w3 := ((Chg.refl (fun _ => False) w2).alloc _).trans hc4 (fun i e => .inr (by omega)); have C3 : Hid _ := c8; clear hw4 hc4 c8)
  have BL3 : Hid (Below W.heap.size W w3) := BL2.out.trans (C3.out.below BL2.out.size (fun _ e => e.elim))
  have OW3 : Hid (Own w3 (.slice (some ⟨g, 0, none⟩) M c1) (T ++ [165, 90])) := OW2.out.kept C3.out (fun _ _ e => e)
  have L23 : Hid (w2.heap.size < w3.heap.size) := D3.out.lt
  clear BL2 OW2
  go_wp2_with fail
  refine Calls.mono (xReadProof_any (HS.out.keep BL3.out) (by have := HN0.out; omega)) ?_
  rintro e w4 ⟨D, rfl, bl2, hC, c1a, c1b⟩
  rw [← HE.out] at c1a c1b ⊢
  have LD := hC.1
  have OD : Hid _ := hC.2
  have c4 : Chg (fun _ => False) w3 w4 := Chg.of_below bl2 (fun _ => False)
  have BL4 : Hid (Below W.heap.size W w4) := BL3.out.trans (bl2.mono BL3.out.size)
  have OW4 : Hid (Own w4 (.slice (some ⟨g, 0, none⟩) M c1) (T ++ [165, 90])) := OW3.out.kept c4 (fun _ _ e => e)
  have D4 : Hid _ := D3.out.keep c4 (fun e => e)
  have C24 : Hid (Chg (fun _ => False) w2 w4) := C3.out.trans c4 (fun _ e => e.elim)
  have DA : Hid _ := c1a
  have DB : Hid _ := c1b
  have L34 : Hid (w3.heap.size ≤ w4.heap.size) := bl2.size
  clear bl2 hC c1a c1b c4 OW3 BL3 D3 C3
  go_upto_region 4 with (refine wpList_store_part rfl 98 (.tmp 9) (.tmp 30) rfl w4.heap.size 0 D rfl rfl (t := 98) ⟨heap_alloc_new _ _⟩ (by rw [LD]; simp [prZ, prC]) (Try.prZsz D LD) OD.out ?_; intro w5 hw4 hc4; rw [splice_all _ _ (by rw [LD]; simp [prZ, prC])] at hw4; have F5 : Hid _ := hw4; have c8 : Chg (fun _ => False) w4 w5 := ((Chg.refl (fun _ => False) w4).alloc _).trans hc4 (fun i e => .inr (by omega)); have C5 : Hid _ := c8; clear hw4 hc4 c8)
  have BL5 : Hid (Below W.heap.size W w5) := BL4.out.trans (C5.out.below BL4.out.size (fun _ e => e.elim))
  have OW5 : Hid (Own w5 (.slice (some ⟨g, 0, none⟩) M c1) (T ++ [165, 90])) := OW4.out.kept C5.out (fun _ _ e => e)
  have D5 : Hid _ := D4.out.keep C5.out (fun e => e)
  obtain ⟨ct, vx, vy, L1, L2, eC, eD, o1, o2, hm, htx⟩ := two_proofs CA.out CB.out DA.out DB.out
  have OLT : Hid (∀ k, (∃ o, o ∈ L1 ∧ oB o k) → w1.heap.size ≤ k ∧ k < w2.heap.size) := fun k hk => ⟨(o1.blk5 hk).1, (o1.blk5 hk).2.1⟩
  have OM1 : Hid _ := o1.fresh (C24.out.trans C5.out (fun _ e => e.elim))
  have OM2 : Hid _ := o2.fresh C5.out
  have HTX : Hid _ := htx
  have HSM : Hid (∀ i, i < L1.length → SmO (fL L1 i) (fL L2 i)) := fun i hi => fL_same hm hi
  obtain ⟨xa, xc, hxf⟩ := o1.form
  obtain ⟨ya, yc, hyf⟩ := o2.form
  have hl2 : L2.length = L1.length := by have := congrArg List.length hm; simpa using this.symm
  rw [hl2] at hyf
  obtain ⟨n, hn1⟩ : ∃ n, n = L1.length := ⟨_, rfl⟩
  rw [← hn1] at hxf hyf hl2
  have hnb : n ≤ 9223372036854775807 := by
    have h9 := o1.gl.row
    rw [List.length_map, ← hn1] at h9
    rcases h9.2 with ⟨_, h0⟩ | ⟨_, cap, _, _, _, _, h1, h2, _⟩
    · omega
    · unfold maxLen at h2; omega
  have HN1 : Hid _ := hn1
  have HN2 : Hid (n = L2.length) := hl2.symm
  subst hxf hyf
  have ZC := Try.prZsz C LC
  have ZD := Try.prZsz D LD
  subst eC eD
  clear CA CB DA DB OW4 BL4 D4 C5 C24 o1 o2 hm htx hn1 hl2 OC OD
  go_wp2_with (first
    | (go_at_call 11; refine Calls.mono (untouched_P (by rw [HMQ.out, HN0.out]) (HS.out.keep BL5.out).src OW5.out (by have := HN0.out; omega)) ?_; rintro e w6 ⟨rfl, n6, hw6⟩; have BL6 : Hid (Below w5.heap.size w5 w6) := (by rw [hw6]; exact below_drewN (Below.refl _ _) n6); have C6 : Hid (Chg (fun _ => False) w5 w6) := Chg.of_below BL6.out (fun _ => False); clear hw6)
    | refine wpList_load_g (by rfl) 98 (.tmp 7) rfl w2.heap.size 0 (prC ct (.slice xa n xc)) rfl (D5.out.keep C6.out (fun e => e)) (by simp) Try.underlying98 rfl ZC ?_
    | refine wpList_load_g (by rfl) 98 (.tmp 9) rfl w4.heap.size 0 (prC ct (.slice ya n yc)) rfl (F5.out.keep C6.out (fun e => e)) (by simp) Try.underlying98 rfl ZD ?_)
  refine Calls.mono (VW.same ((OM1.out.vw0 rfl HN1.out).kept C6.out) ((OM2.out.vw0 rfl HN2.out).kept C6.out) (fun i hi => HSM.out i (by rw [← HN1.out]; exact hi)) (by omega)) ?_
  rintro e w7 ⟨rfl, bl7⟩
  have C57 : Hid (Chg (fun _ => False) w5 w7) := C6.out.trans (Chg.of_below bl7 (fun _ => False)) (fun _ e => e.elim)
  have BL7 : Hid (Below W.heap.size W w7) := BL5.out.trans (C57.out.below BL5.out.size (fun _ e => e.elim))
  have OX : Hid (OM w7 w1.heap.size (.slice xa n xc) L1) := OM1.out.fresh C57.out
  have OY : Hid (OM w7 w3.heap.size (.slice ya n yc) L2) := OM2.out.fresh C57.out
  have D7 : Hid _ := D5.out.keep C57.out (fun e => e)
  have F7 : Hid _ := F5.out.keep C57.out (fun e => e)
  have M0 : Hid (MK w7 w7 L1 0) := MK.start OX.out
  clear bl7 BL5 BL6 C6 OW5 D5 F5 C57 OM1 OM2 LC LD
  have kx : w7.cell? ⟨w2.heap.size, 1, none⟩ = some (.slice xa n xc) := D7.out.cell 1
  go_wp2_with fail
  clear kx
  go_loopw [11, 50] (fun s11 i wr => ∃ j : Nat, j ≤ n ∧ s11 = .bool true ∧ i = .int .i64 j ∧ Hid (MK w7 wr L1 j)) (fun _ i _ => n - (intOf i).toNat)
  case atStart => exact ⟨0, Nat.zero_le _, rfl, rfl, M0.out⟩
  case round =>
    obtain ⟨j, hj, rfl, rfl, MJ⟩ := hrel
    by_cases hlt : j < n
    · have hj1 : j < L1.length := by have := HN1.out; omega
      obtain ⟨k, hk⟩ : ∃ k, k = fL L1 j := ⟨_, rfl⟩
      obtain ⟨g9, o9, hsa, _, hrg⟩ := (MK.rows OX.out MJ.out (by rw [← HN1.out])) j hj1
      have hix := ix_at Try.underlying96 Try.elem96 Try.so219 (c := xc) hsa hlt
      have RG : Hid (wr.rangeAt g9 (o9 + j * 37) k.cells) := by rw [hk]; exact hrg
      have A4 : k.sm.length = 32 := by rw [hk]; exact OX.out.sm32 hj1
      have TXT := OX.out.texts hj1
      rw [← hk] at TXT
      have TT : Hid _ := TXT
      have LEN := HTX.out _ (List.getElem_mem hj1)
      rw [← HN0.out] at LEN
      have TD := MJ.out.td j hj1 (Nat.le_refl _)
      have KO1 : Hid (Own wr (.slice k.ka k.kn k.kc) (L1[j]).1.kl) := by rw [TXT.1]; exact TD.1
      have KO2 : Hid (Own wr (.slice k.va k.vn k.vc) (L1[j]).1.vl) := by rw [TXT.2]; exact TD.2
      clear hrg hk hsa TXT TD
      go_upto_region 10 with (first
        | refine wpList_load_mid rfl 111 (.tmp 52) rfl g9 (o9 + j * 37) rfl k.cells _ RG.out Try.underlying111 rfl (Try.opSz k A4) ?_
        | (refine wpList_store_part rfl 111 (.tmp 13) (.tmp 53) rfl wr.heap.size 0 k.cells rfl rfl (t := 111) ⟨heap_alloc_new _ _⟩ (by simp [Oc.cells, bs, A4]) (Try.opSz k A4) k.one ?_; intro wC hw8 hc8; rw [splice_all _ _ (by simp [Oc.cells, bs, A4])] at hw8; have c8 : Chg (fun _ => False) wr wC := ((Chg.refl (fun _ => False) wr).alloc _).trans hc8 (fun i e => .inr (by omega)); have BK : Hid _ := hw8; have CB : Hid _ := c8; clear hw8 hc8 c8))
      clear RG hix
      have MC : Hid _ := MJ.out.fresh CB.out
      have kx2 : wC.cell? ⟨wr.heap.size, 2, none⟩ = some (.slice k.ka k.kn k.kc) := BK.out.cell 2
      have HC : Hid _ := marked_any (Own.kept KO1.out CB.out (fun _ _ e => e)) (by omega)
      go_wp2_with fail
      refine Calls.mono HC.out ?_
      rintro e wD ⟨rfl, cD, sD⟩
      rw [TT.out.1] at cD sD
      have CD : Hid _ := cD
      have SD : Hid _ := sD
      have OV : Hid (Own wD (.slice k.va k.vn k.vc) (L1[j]).1.vl) := by rw [TT.out.2]; exact MK.key OX.out MC.out hj1 cD
      have BD : Hid (Blk wD wr.heap.size k.cells 111) := BK.out.keep cD (fun e => by rw [← TT.out.1] at e; have := Own.lt KO1.out e.symm; omega)
      clear cD sD HC kx2 BK
      have kx3 : wD.cell? ⟨wr.heap.size, 36, none⟩ = some (.slice k.va k.vn k.vc) := by rw [BD.out.cell]; exact Oc.vl_at _ A4
      have HC : Hid _ := marked_any OV.out (by omega)
      go_wp2_with fail
      refine Calls.mono HC.out ?_
      rintro e wE ⟨rfl, cE, sE⟩
      rw [TT.out.2] at cE sE
      have MN : Hid (MK w7 wE L1 (j + 1)) := MK.step OX.out MC.out hj1 CD.out SD.out cE sE
      clear cE sE HC kx3
      go_wp2_with fail
      go_roundw
      case rel => exact ⟨j + 1, by omega, rfl, by go_num, MN.out⟩
      case measure => simp [intOf]; omega
    · have hjn : j = n := by omega
      rw [hjn] at MJ
      have XV : Hid (VW wr xa n (fL L1)) := MK.vw OX.out MJ.out rfl HN1.out
      have YV : Hid (VW wr ya n (fL L2)) := OM.vwFar OY.out MJ.out.ch (fun k hk => by have := OLT.out k hk; have := L23.out; omega) rfl HN2.out
      have CH8 : Below W.heap.size w7 wr := MJ.out.ch.below BL7.out.size (fun k hk => by have := OLT.out k hk; have := W1.out; omega)
      have BL8 : Hid (Below W.heap.size W wr) := BL7.out.trans CH8
      have D8 : Hid (Blk wr w2.heap.size (prC ct (.slice xa n xc)) 98) := D7.out.keep MJ.out.ch (fun e => by have := OLT.out _ e; omega)
      have F8 : Hid (Blk wr w4.heap.size (prC ct (.slice ya n yc)) 98) := F7.out.keep MJ.out.ch (fun e => by have := OLT.out _ e; have := L23.out; have := L34.out; omega)
      clear MJ OX OY D7 F7 M0 CH8 BL7 HTX OLT hj hlt
      have G8 : Hid (Blk wr X P.cells 98) := B5.out.keep0 BL8.out
      have ON := hn
      go_wp2_with (refine wpList_load_part rfl 98 (.tmp 2) rfl X 0 P.cells rfl G8.out (by simp) Try.underlying98 rfl (Try.prSzP P) ?_)
      refine Calls.mono (copyProof_any (HP.out.keep0 BL8.out) hn HLN.out) ?_
      intro e w9 hq
      obtain ⟨A, c, os', rfl, bl9, q9, sm9⟩ := hq.ex
      have C89 : Hid (Chg (fun _ => False) wr w9) := Chg.of_below bl9 _
      have Q9 : Hid _ := q9
      have SM9 : Hid _ := sm9
      clear bl9 q9 sm9 hq G8
      obtain ⟨C, hC⟩ : ∃ C, C = prC P.ct (.slice A P.on c) := ⟨_, rfl⟩
      rw [← hC]
      have HCC : Hid _ := hC
      have LC : C.length = prZ.length := by rw [hC]; rfl
      have OC : Hid (∀ u ∈ C, u.oneCell' = true) := by rw [hC]; exact prC_one _ rfl
      clear hC
      go_upto_region 13 with (refine wpList_store_part rfl 98 (.tmp 14) (.tmp 67) rfl w9.heap.size 0 C rfl rfl (t := 98) ⟨heap_alloc_new _ _⟩ (by rw [LC]; simp [prZ, prC]) (Try.prZsz C LC) OC.out ?_; intro wA hw4 hc4; rw [splice_all _ _ (by rw [LC]; simp [prZ, prC])] at hw4; have DA : Hid _ := hw4; have c8 : Chg (fun _ => False) w9 wA := ((Chg.refl (fun _ => False) w9).alloc _).trans hc4 (fun i e => .inr (by omega)); have C9A : Hid _ := c8; clear hw4 hc4 c8)
      have DB : Hid (Blk wA w9.heap.size (prC P.ct (.slice A P.on c)) 98) := by rw [← HCC.out]; exact DA.out
      have LA : Hid (w9.heap.size < wA.heap.size) := DA.out.lt
      have QA : Hid _ := Q9.out.kept C9A.out (fun _ _ e => e)
      clear DA OC
      have XP : Hid _ := twiceG (c := c) Try.underlying96 info219 (by kernel_rfl) (by decide) QA.out.row (fun i hi => Oc.lenF _ (QA.out.op i hi).sm) (fun i _ => Oc.one _) (by show (P.on + 1) * 104 ≤ _; omega) (by show P.on + 1 ≤ _; omega) (E := opC 555 0 (.slice none 0 0) 0 z32 (.slice none 0 0)) rfl (opC_one _ _ rfl _ _ rfl)
      obtain ⟨xm, hxm⟩ : ∃ xm, xm = Value.slice A P.on c := ⟨_, rfl⟩
      obtain ⟨za, zn, zc, wq, gm, cm, wB, q1, q2, q3, q4, q5, q6, q7⟩ := XP.out
      have q1 : (Builtin.append_ #[96, 96] 96 #[.slice (some ⟨wA.heap.size, 0, none⟩) 0 0, xm]).run Try.prog (wA.alloc (.cells #[] 111)) = .ok (.slice za zn zc) wq := by rw [hxm]; exact q1
      have XQ1 : Hid _ := q1
      have XQ2 : Hid _ := q2
      have GQM : Hid (GL wB (.slice (some ⟨gm, 0, none⟩) (P.on + 1) cm) 111 37 ((List.range P.on).map (fun i => (os' i).cells) ++ [opC 555 0 (.slice none 0 0) 0 z32 (.slice none 0 0)])) := q3
      have hcp : cm ≤ 9223372036854775807 := q5
      have hcapM : P.on + 1 ≤ cm := q4
      have GZM : Hid (wA.heap.size ≤ gm) := q6
      have CQ : Hid (Chg (fun _ => False) wA wB) := q7
      have kx : (wA.alloc (.cells #[] 111)).cell? ⟨w9.heap.size, 1, none⟩ = some xm := by rw [hxm]; exact (DB.out.alloc _).cell 1
      clear XP q1 q2 q3 q4 q5 q6 q7 hxm
      go_upto_region 14 with (first
        | refine wpList_appG (sl := 96) rfl (.tmp 68) (.tmp 70) rfl (v := .slice (some ⟨wA.heap.size, 0, none⟩) 0 0) (u := xm) (v' := .slice za zn zc) (w' := wq) rfl rfl XQ1.out ?_
        | refine wpList_appG (sl := 96) rfl (.tmp 71) (.tmp 73) rfl (v := .slice za zn zc) (u := .slice (some ⟨wq.heap.size, 0, none⟩) 1 1) (v' := .slice (some ⟨gm, 0, none⟩) (P.on + 1) cm) (w' := wB) rfl rfl XQ2.out ?_)
      clear XQ1 XQ2 kx
      have C9B : Hid (Chg (fun _ => False) w9 wB) := C9A.out.trans CQ.out (fun _ e => e.elim)
      have C8B : Hid (Chg (fun _ => False) wr wB) := C89.out.trans C9B.out (fun _ e => e.elim)
      have BLB : Hid (Below W.heap.size W wB) := BL8.out.trans (C8B.out.below BL8.out.size (fun _ e => e.elim))
      have DD : Hid _ := DB.out.keep CQ.out (fun e => e)
      have kx : wB.cell? ⟨X, 1, none⟩ = some (.slice P.oa P.on P.oc) := (B5.out.keep0 BLB.out).cell 1
      have ky : wB.cell? ⟨w9.heap.size, 1, none⟩ = some (.slice A P.on c) := DD.out.cell 1
      have kf : wB.frozen? ⟨w9.heap.size, 1, none⟩ = false := DD.out.fr 1
      clear DB C9A CQ QA
      go_upto_region 15 with fail
      obtain ⟨wC, hw⟩ : ∃ wC : World, wC = wB.setCell ⟨w9.heap.size, 1, none⟩ (.slice (some ⟨gm, 0, none⟩) P.on cm) := ⟨_, rfl⟩
      rw [← hw]
      have DN : Hid (Blk wC w9.heap.size (prC P.ct (.slice (some ⟨gm, 0, none⟩) P.on cm)) 98) := by rw [hw]; exact DD.out.set 1 (.slice (some ⟨gm, 0, none⟩) P.on cm)
      have cS : Chg (fun k => k = w9.heap.size) wB wC := by rw [hw]; exact (Chg.refl (fun k => k = w9.heap.size) wB).setCell (p := ⟨w9.heap.size, 1, none⟩) (.inl rfl) _
      have C9C : Hid (Chg (fun _ => False) w9 wC) := C9B.out.trans cS (fun i e => .inr (by omega))
      have C8C : Hid (Chg (fun _ => False) wr wC) := C89.out.trans C9C.out (fun _ e => e.elim)
      have GQN : Hid (GL wC (.slice (some ⟨gm, 0, none⟩) (P.on + 1) cm) 111 37 ((List.range P.on).map (fun i => (os' i).cells) ++ [opC 555 0 (.slice none 0 0) 0 z32 (.slice none 0 0)])) := GQM.out.kept cS (fun k _ hk _ e => by simp [Value.ownBlock] at hk; have := GZM.out; have := LA.out; omega)
      have QN : Hid _ := Q9.out.kept C9C.out (fun _ _ e => e)
      have BLC : Hid (Below W.heap.size W wC) := BL8.out.trans (C8C.out.below BL8.out.size (fun _ e => e.elim))
      clear kx ky kf hw cS DD GQM C9B C8B BLB C89 Q9
      obtain ⟨PC, hPC⟩ : ∃ PC : Prf, PC = ⟨P.ct, some ⟨gm, 0, none⟩, P.on, cm, os'⟩ := ⟨_, rfl⟩
      have LGM : gm < wC.heap.size := by obtain ⟨_, h9⟩ := GQN.out.blk (g := gm) rfl; exact (Array.getElem?_eq_some_iff.1 h9).1
      have PI : Hid (PrIn wC (fun g => g < wC.heap.size) PC) := by
        rw [hPC]
        exact ⟨QN.out.ct, QN.out.on, (frontG GQN.out).1.mono (fun k e => by omega), fun i hi => (QN.out.op i hi).mono (fun k e => Nat.lt_of_lt_of_le e C9C.out.size)⟩
      have PBI : Hid (PC.bytes = P.bytes) := by
        rw [hPC]
        exact congrArg (numB P.ct ++ ·) (recsB_same P.on (fun i hi => (SM9.out i hi).symm.bytes))
      have DP : Hid (Blk wC w9.heap.size PC.cells 98) := by rw [hPC]; exact DN.out
      have HPC : Hid _ := hPC
      clear hPC DN LGM QN
      go_wp2_with (refine wpList_load_part rfl 98 (.tmp 14) rfl w9.heap.size 0 PC.cells rfl DP.out (by simp) Try.underlying98 rfl (Try.prSzP PC) ?_)
      refine Calls.mono (cProof_any PI.out (by rw [PBI.out]; exact hb0)) ?_
      rintro e wD ⟨b, rfl, mb⟩
      rw [PBI.out] at mb
      have CCD : Hid (Chg (fun _ => False) wC wD) := Chg.of_below mb.2.1 (fun _ => False)
      have BLD : Hid (Below W.heap.size W wD) := BLC.out.trans (mb.2.1.mono BLC.out.size)
      have OB : Hid (Own wD b P.bytes) := mb.1
      obtain ⟨bg, bc, hbf⟩ := mb.1.form
      obtain ⟨bn, hbn⟩ : ∃ bn, bn = P.bytes.length := ⟨_, rfl⟩
      rw [← hbn] at hbf
      subst hbf
      have HBN : Hid _ := hbn
      clear mb hbn
      have DQ : Hid (Blk wD w9.heap.size PC.cells 98) := DP.out.keep CCD.out (fun e => e)
      have GX : Hid (Blk wD X P.cells 98) := B5.out.keep0 BLD.out
      have kx3 : wD.cell? ⟨X, 1, none⟩ = some (.slice P.oa P.on P.oc) := GX.out.cell 1
      have hx3 := ix_at Try.underlying96 Try.elem96 Try.so219 (A := some ⟨gm, 0, none⟩) (n := P.on + 1) (c := cm) (j := P.on) rfl (by omega)
      have kl3 : wD.cell? ⟨gm, P.on * 37, none⟩ = some (.int .i64 555) := rangeAt_kept (frontG GQN.out).2 CCD.out (fun e => e) 0 _ rfl
      go_wp2_with (first
        | refine wpList_load_g (by rfl) 98 (.tmp 14) rfl w9.heap.size 0 PC.cells rfl DQ.out (by simp) Try.underlying98 rfl (Try.prSzP PC) ?_
        | refine wpList_load_g (by rfl) 98 (.tmp 2) rfl X 0 P.cells rfl GX.out (by simp) Try.underlying98 rfl (Try.prSzP P) ?_)
      rw [HPC.out]
      have V1 : Hid (VW wD (some ⟨gm, 0, none⟩) P.on os') := by
        have h9 := (PI.out.vw).kept CCD.out
        rw [HPC.out] at h9
        exact h9
      have V2 : Hid (VW wD P.oa P.on P.os) := (HP.out.keep0 BLD.out).vw
      refine Calls.mono (VW.same (ct := P.ct) (c := cm) (d := P.oc) V1.out V2.out (fun i hi => (SM9.out i hi).symm) HP.out.on) ?_
      rintro e wE ⟨rfl, bl⟩
      have CDE : Hid (Chg (fun _ => False) wD wE) := Chg.of_below bl (fun _ => False)
      have BLE : Hid (Below W.heap.size W wE) := BLD.out.trans (bl.mono BLD.out.size)
      have OBE : Hid (Own wE (.slice bg bn bc) P.bytes) := OB.out.kept CDE.out (fun _ _ e => e)
      have C8E : Hid (Chg (fun _ => False) wr wE) := (C8C.out.trans CCD.out (fun _ e => e.elim)).trans CDE.out (fun _ e => e.elim)
      have XE : Hid _ := XV.out.kept C8E.out
      have YE : Hid _ := YV.out.kept C8E.out
      have D9 : Hid _ := D8.out.keep C8E.out (fun e => e)
      have F9 : Hid _ := F8.out.keep C8E.out (fun e => e)
      clear bl kx3 hx3 kl3 DQ GX OB GQN DP V1 V2 XV YV D8 F8 CDE CCD C8C C8E
      go_wp2_with (first
        | refine wpList_load_g (by rfl) 98 (.tmp 7) rfl w2.heap.size 0 (prC ct (.slice xa n xc)) rfl D9.out (by simp) Try.underlying98 rfl (Try.prSz _ _) ?_
        | refine wpList_load_g (by rfl) 98 (.tmp 9) rfl w4.heap.size 0 (prC ct (.slice ya n yc)) rfl F9.out (by simp) Try.underlying98 rfl (Try.prSz _ _) ?_)
      refine Calls.mono (VW.same XE.out YE.out (fun i hi => HSM.out i (by rw [← HN1.out]; exact hi)) (by omega)) ?_
      rintro e wF ⟨rfl, bl⟩
      have BLF : Hid (Below W.heap.size W wF) := BLE.out.trans (bl.mono BLE.out.size)
      have OBF : Hid (Own wF (.slice bg bn bc) P.bytes) := OBE.out.kept (Chg.of_below bl (fun _ => False)) (fun _ _ e => e)
      have GY : Hid (Blk wF X P.cells 98) := B5.out.keep0 BLF.out
      clear bl XE YE D9 F9 OBE
      go_wp2_with (refine wpList_load_g (by rfl) 98 (.tmp 2) rfl X 0 P.cells rfl GY.out (by simp) Try.underlying98 rfl (Try.prSzP P) ?_)
      refine Calls.mono (xProof_any (HP.out.keep0 BLF.out) hb0 HLN.out) ?_
      rintro e wG ⟨u, rfl, mu⟩
      have BLG : Hid (Below W.heap.size W wG) := BLF.out.trans (mu.2.1.mono BLF.out.size)
      have OU : Hid (Own wG u P.bytes) := mu.1
      have OBG : Hid (Own wG (.slice bg bn bc) P.bytes) := OBF.out.kept (Chg.of_below mu.2.1 (fun _ => False)) (fun _ _ e => e)
      obtain ⟨ug, uc, huf⟩ := mu.1.form
      rw [← HBN.out] at huf
      subst huf
      clear mu OBF GY
      have HCS : Hid _ := same_any (OBG.out.src) (OU.out.src) (by omega) (by omega)
      rw [decide_eq_true (rfl : P.bytes = P.bytes)] at HCS
      go_wp2_with fail
      refine Calls.mono HCS.out ?_
      rintro e wH ⟨rfl, n7, hw⟩
      have F : Hid (Below w.heap.size w wH) := by
        rw [hw]
        exact HB.out.trans ((BLG.out.trans (below_drewN (Below.refl _ _) n7 |>.mono BLG.out.size)).mono HB.out.size)
      clear hw HCS
      go_wp2_with fail
      go_ret
      exact ⟨rfl, F.out⟩
end Go.Proofs.Ytlmdljghhpkbiaa
