/-
  CodecTowers, walked.
-/
import Derived.Test.YtkchmoapcmageaaTqB
namespace Go.Proofs.Ytkchmoapcmageaa
open Go.RowKit

set_option maxRecDepth 100000 in
set_option maxHeartbeats 16000000 in
theorem towers_any {w : World} {P : Tw} {sv : Value} {T : List Int} (hP : TwIn w (fun g => g < w.heap.size) P) (hn : P.sn ≤ 1000000) (hl0 : P.kl.length ≤ 1048576) (hl : ∀ i, i < P.sn → (P.ks i).kl.length ≤ 1048576) (hb0 : P.bytes.length ≤ 70368744177664) (hs : In w sv T) (hT : T.length ≤ 1048576) :
    Calls Try.prog 8 #[.agg P.cells.toArray, sv] w fun e w' => e = .returned (.bool true) ∧ Below w.heap.size w w' := by
  obtain ⟨X, hX⟩ : ∃ X, X = w.heap.size := ⟨_, rfl⟩
  obtain ⟨W, hW⟩ : ∃ W, W = w.alloc (.cells P.cells.toArray 69) := ⟨_, rfl⟩
  have hb : Below w.heap.size w W := by rw [hW]; exact (Below.refl _ _).alloc (Nat.le_refl _) _
  have HB : Hid _ := hb
  have B5 : Hid (Blk W X P.cells 69) := by rw [hW, hX]; exact Blk.made w _ 69
  have HP : Hid (TwIn W (fun g => g < W.heap.size) P) := (hP.kept (Chg.of_below hb (fun _ => False)) (fun _ _ e => e)).mono (fun g e => Nat.lt_of_lt_of_le e hb.size)
  have HLN : Hid _ := hl
  have HS : Hid (In W sv T) := hs.keep hb
  obtain ⟨sa, sc, hsf, _⟩ := hs.cap
  obtain ⟨n0, hn0⟩ : ∃ n, n = T.length := ⟨_, rfl⟩
  rw [← hn0] at hsf hT
  have HN0 : Hid _ := hn0
  subst hsf
  clear hP hb hs hn0 hl
  go_enter Try.func8, Try.ntmps8
  go_upto_region 1 with fail
  rw [← hX, ← hW]
  have HX : Hid _ := hX
  clear hX hW
  have HC : Hid _ := roomy_any HS.out.src (by have := HN0.out; omega)
  rw [← HN0.out] at HC
  go_wp2_with fail
  refine Calls.mono HC.out ?_
  rintro e w1 ⟨ad, c1, rfl, m1⟩
  obtain ⟨M, hM⟩ : ∃ M, M = n0 + 2 := ⟨_, rfl⟩
  rw [← hM] at m1 ⊢
  obtain ⟨g, eg⟩ := Own.addrP m1.1 (by simp)
  injection eg with eg
  subst eg
  obtain ⟨cq, hcq1, hcq2⟩ : n0 ≤ c1 ∧ c1 ≤ 9223372036854775807 ∧ True := by
    obtain ⟨_, cap, e, h1, h2⟩ := m1.1.form2 (by simp)
    injection e with _ e2 e3
    subst e3
    rw [List.length_append, ← HN0.out] at h1
    exact ⟨by simp at h1; omega, h2, trivial⟩
  have BL1 : Hid (Below W.heap.size W w1) := m1.2.1
  have OW1 : Hid (Own w1 (.slice (some ⟨g, 0, none⟩) M c1) (T ++ [165, 90])) := m1.1
  have IN1 : Hid (In w1 (.slice (some ⟨g, 0, none⟩) n0 c1) T) := by
    have s1 := Own.front m1.1 c1 (by simp)
    rw [← HN0.out] at s1
    exact ⟨s1, HS.out.byt, HS.out.big, ⟨_, c1, by rw [← HN0.out], by rw [← HN0.out]; omega, hcq1⟩, fun k hk => m1.1.lt hk⟩
  have HMQ : Hid _ := hM
  have hMb : M ≤ 1048578 := by omega
  clear m1 hM HC hcq2
  go_wp2_with fail
  refine Calls.mono (towerCode_any IN1.out) ?_
  rintro e w2 ⟨C, rfl, bl2, hC, c1a, c1b⟩
  obtain ⟨E, hE⟩ : ∃ E, E = towE T := ⟨_, rfl⟩
  rw [← hE]
  have HE : Hid _ := hE
  have LC := hC.1
  have OC : Hid _ := hC.2
  have BL2 : Hid (Below W.heap.size W w2) := BL1.out.trans (bl2.mono BL1.out.size)
  have OW2 : Hid (Own w2 (.slice (some ⟨g, 0, none⟩) M c1) (T ++ [165, 90])) := OW1.out.kept (Chg.of_below bl2 (fun _ => False)) (fun _ _ e => e)
  have CA : Hid (E = 0 → TowIs w2 w1.heap.size (towerS T 0 0) C) := fun e => c1a (by rw [← hE]; exact e)
  have CB : Hid (¬ E = 0 → C = towZ) := fun e => c1b (by rw [← hE]; exact e)
  have W1 : Hid (W.heap.size ≤ w1.heap.size) := BL1.out.size
  clear bl2 hC c1a c1b hE IN1 OW1 BL1
  go_upto_region 3 with (refine wpList_store_part rfl 69 (.tmp 7) (.tmp 27) rfl w2.heap.size 0 C rfl rfl (t := 69) (cs := towZ) ⟨heap_alloc_new _ _⟩ (by rw [LC, Nat.zero_add]; exact Nat.le_refl _) (Try.towZsz C LC) OC.out ?_; intro w3 hw4 hc4; rw [splice_all _ _ LC] at hw4; have D3 : Hid _ := hw4; have c8 : Chg (fun _ => False) w2 w3 := ((Chg.refl (fun _ => False) w2).alloc _).trans hc4 (fun i e => .inr (by omega)); have C3 : Hid _ := c8; clear hw4 hc4 c8)
  have BL3 : Hid (Below W.heap.size W w3) := BL2.out.trans (C3.out.below BL2.out.size (fun _ e => e.elim))
  have OW3 : Hid (Own w3 (.slice (some ⟨g, 0, none⟩) M c1) (T ++ [165, 90])) := OW2.out.kept C3.out (fun _ _ e => e)
  have L23 : Hid (w2.heap.size < w3.heap.size) := D3.out.lt
  clear BL2 OW2
  go_wp2_with fail
  refine Calls.mono (xReadTower_any (HS.out.keep BL3.out)) ?_
  rintro e w4 ⟨D, rfl, bl2, hC, c1a, c1b⟩
  rw [← HE.out] at c1a c1b ⊢
  have LD := hC.1
  have OD : Hid _ := hC.2
  have c4 : Chg (fun _ => False) w3 w4 := Chg.of_below bl2 (fun _ => False)
  have BL4 : Hid (Below W.heap.size W w4) := BL3.out.trans (bl2.mono BL3.out.size)
  have OW4 : Hid (Own w4 (.slice (some ⟨g, 0, none⟩) M c1) (T ++ [165, 90])) := OW3.out.kept c4 (fun _ _ e => e)
  have D4 : Hid _ := D3.out.keep c4 (fun e => e)
  have C24 : Hid (Chg (fun _ => False) w2 w4) := C3.out.trans c4 (fun _ e => e.elim)
  have DA : Hid _ := c1a
  have DB : Hid _ := c1b
  have L34 : Hid (w3.heap.size ≤ w4.heap.size) := bl2.size
  clear bl2 hC c1a c1b c4 OW3 BL3 D3 C3
  go_upto_region 4 with (refine wpList_store_part rfl 69 (.tmp 9) (.tmp 32) rfl w4.heap.size 0 D rfl rfl (t := 69) (cs := towZ) ⟨heap_alloc_new _ _⟩ (by rw [LD, Nat.zero_add]; exact Nat.le_refl _) (Try.towZsz D LD) OD.out ?_; intro w5 hw4 hc4; rw [splice_all _ _ LD] at hw4; have F5 : Hid _ := hw4; have c8 : Chg (fun _ => False) w4 w5 := ((Chg.refl (fun _ => False) w4).alloc _).trans hc4 (fun i e => .inr (by omega)); have C5 : Hid _ := c8; clear hw4 hc4 c8)
  have BL5 : Hid (Below W.heap.size W w5) := BL4.out.trans (C5.out.below BL4.out.size (fun _ e => e.elim))
  have OW5 : Hid (Own w5 (.slice (some ⟨g, 0, none⟩) M c1) (T ++ [165, 90])) := OW4.out.kept C5.out (fun _ _ e => e)
  have D5 : Hid _ := D4.out.keep C5.out (fun e => e)
  obtain ⟨S, k1, v1, k2, v2, L1, L2, eC, eD, hvl, t1, t2⟩ := two_towers CA.out CB.out DA.out DB.out
  have OLT : Hid (∀ k, (k1.ownBlock = some k ∨ ∃ o, o ∈ L1 ∧ o.2.ownBlock = some k) → w1.heap.size ≤ k ∧ k < w2.heap.size) := fun k hk => t1.blocks hk
  have TX5 : Hid _ := t1.fresh (C24.out.trans C5.out (fun _ e => e.elim))
  have TY5 : Hid _ := t2.fresh C5.out
  have HSM : Hid (∀ i, i < L1.length → SmK (fK L1 i) (fK L2 i)) := fun i hi => fK_same (t1.kf.trans t2.kf.symm) hi
  obtain ⟨xa, xc, hxf, _⟩ := t1.ml.rowsF t1.hz
  obtain ⟨ya, yc, hyf, _⟩ := t2.ml.rowsF t2.hz
  have hl2 : L2.length = L1.length := by have := congrArg List.length (t1.kf.trans t2.kf.symm); simpa using this.symm
  rw [hl2] at hyf
  obtain ⟨n, hn1⟩ : ∃ n, n = L1.length := ⟨_, rfl⟩
  rw [← hn1] at hxf hyf hl2
  have hnb : n ≤ 9223372036854775807 := by
    rcases t1.ml.row.2 with ⟨_, h0⟩ | ⟨_, cap, _, _, _, _, h1, h2, _⟩
    · omega
    · unfold maxLen at h2; omega
  obtain ⟨pa, pc, hpf⟩ := t1.ky.form
  obtain ⟨qa, qc, hqf⟩ := t2.ky.form
  obtain ⟨un, hun⟩ : ∃ un, un = S.kl.length := ⟨_, rfl⟩
  rw [← hun] at hpf hqf
  have hklb : Hid (S.kl.length ≤ 1048576) := by have := t1.tl.1; have := HN0.out; have := hT; exact (by omega : S.kl.length ≤ 1048576)
  have HTL : Hid (∀ k, k ∈ L1 → k.1.kl.length ≤ 1048576) := fun k hk => by have := t1.tl.2 k hk; have := HN0.out; omega
  have HN1 : Hid _ := hn1
  have HN2 : Hid (n = L2.length) := hl2.symm
  subst hxf hyf hpf hqf
  have ZC := Try.towZsz C LC
  have ZD := Try.towZsz D LD
  subst eC eD
  have HVL : Hid _ := hvl
  clear CA CB DA DB OW4 BL4 D4 C5 C24 t1 t2 hn1 hl2 OC OD hun LC LD
  go_wp2_with (first
    | (go_at_call 11; refine Calls.mono (untouched_P (by rw [HMQ.out, HN0.out]) (HS.out.keep BL5.out).src OW5.out (by have := HN0.out; omega)) ?_; rintro e w6 ⟨rfl, n6, hw6⟩; have BL6 : Hid (Below w5.heap.size w5 w6) := (by rw [hw6]; exact below_drewN (Below.refl _ _) n6); have C6 : Hid (Chg (fun _ => False) w5 w6) := Chg.of_below BL6.out (fun _ => False); clear hw6)
    | refine wpList_load_g (by rfl) 69 (.tmp 7) rfl w2.heap.size 0 (towC S.hd (.slice pa un pc) S.vl (.slice xa n xc)) rfl (D5.out.keep C6.out (fun e => e)) (by simp) Try.underlying69 rfl ZC ?_
    | refine wpList_load_g (by rfl) 69 (.tmp 9) rfl w4.heap.size 0 (towC S.hd (.slice qa un qc) S.vl (.slice ya n yc)) rfl (F5.out.keep C6.out (fun e => e)) (by simp) Try.underlying69 rfl ZD ?_)
  refine Calls.mono (VK.same (TX5.out.fresh C6.out).ky.src (TY5.out.fresh C6.out).ky.src (by have := hklb.out; omega) HVL.out ((TX5.out.fresh C6.out).vk0 rfl HN1.out) ((TY5.out.fresh C6.out).vk0 rfl HN2.out) (fun i hi => HSM.out i (by rw [← HN1.out]; exact hi)) hnb) ?_
  rintro e w7 ⟨rfl, bl7⟩
  have C57 : Hid (Chg (fun _ => False) w5 w7) := C6.out.trans (Chg.of_below bl7 (fun _ => False)) (fun _ e => e.elim)
  have BL7 : Hid (Below W.heap.size W w7) := BL5.out.trans (C57.out.below BL5.out.size (fun _ e => e.elim))
  have OX : Hid (TwR w7 w1.heap.size S T (.slice pa un pc) (.slice xa n xc) L1) := TX5.out.fresh C57.out
  have OY : Hid (TwR w7 w3.heap.size S T (.slice qa un qc) (.slice ya n yc) L2) := TY5.out.fresh C57.out
  have D7 : Hid _ := D5.out.keep C57.out (fun e => e)
  have F7 : Hid _ := F5.out.keep C57.out (fun e => e)
  clear bl7 BL5 BL6 C6 OW5 D5 F5 C57 TX5 TY5 ZC ZD
  have kx : w7.cell? ⟨w2.heap.size, 1, none⟩ = some (.slice pa un pc) := D7.out.cell 1
  go_wp2_with fail
  refine Calls.mono (marked_any OX.out.ky (by have := hklb.out; omega)) ?_
  rintro e w8 ⟨rfl, c8, s8⟩
  have M0 : Hid (MT w7 w8 (.slice pa un pc) S.kl L1 0) := MT.start OX.out.ml OX.out.hn c8 s8
  clear c8 s8 kx
  have D71 : Hid (Blk w8 w2.heap.size _ 69) := D7.out.keep M0.out.ch (OX.out.no69 D7.out)
  have kx : w8.cell? ⟨w2.heap.size, 35, none⟩ = some (.slice xa n xc) := by rw [D71.out.cell]; exact towC_at _ _ _ _ HVL.out
  go_wp2_with fail
  clear kx D71
  go_loopw [11, 55] (fun s11 i wr => ∃ j : Nat, j ≤ n ∧ s11 = .bool true ∧ i = .int .i64 j ∧ Hid (MT w7 wr (.slice pa un pc) S.kl L1 j)) (fun _ i _ => n - (intOf i).toNat)
  case atStart => exact ⟨0, Nat.zero_le _, rfl, rfl, M0.out⟩
  case round =>
    obtain ⟨j, hj, rfl, rfl, MJ⟩ := hrel
    by_cases hlt : j < n
    · have hj1 : j < L1.length := by have := HN1.out; omega
      obtain ⟨k, hk⟩ : ∃ k, k = fK L1 j := ⟨_, rfl⟩
      obtain ⟨g9, o9, hsa, _, hrg⟩ := (MT.rows OX.out.ml OX.out.hz OX.out.ky MJ.out (by rw [← HN1.out])) j hj1
      have hix := ix_at Try.underlying67 Try.elem67 Try.so112 (c := xc) hsa hlt
      have RG : Hid (wr.rangeAt g9 (o9 + j * 68) k.cells) := by rw [hk]; exact hrg
      have KT := OX.out.ml.kdT OX.out.hz hj1 (OX.out.ml.key _ (List.getElem_mem hj1)).1.src
      rw [← hk] at KT
      have A4 := KT.ad
      have A5 := KT.lb
      have KV : .slice k.ka k.kn k.kc = (L1[j]).2 := by rw [hk, fK_at hj1]; exact sl3_own (OX.out.ml.key _ (List.getElem_mem hj1)).1
      have TT : Hid _ := KV
      have LEN : Hid _ := HTL.out _ (List.getElem_mem hj1)
      have KO1 : Hid (Own wr (.slice k.ka k.kn k.kc) (L1[j]).1.kl) := by rw [KV]; exact MJ.out.td j hj1 (Nat.le_refl _)
      clear hrg hk hsa KV KT
      go_upto_region 10 with (first
        | refine wpList_load_mid rfl 112 (.tmp 57) rfl g9 (o9 + j * 68) rfl k.cells _ RG.out Try.underlying112 rfl (k.szF A4 A5) ?_
        | (refine wpList_store_part rfl 112 (.tmp 13) (.tmp 58) rfl wr.heap.size 0 k.cells rfl rfl (t := 112) (cs := kdZ) ⟨heap_alloc_new _ _⟩ (by rw [k.lenF A4 A5]; exact Nat.le_refl _) (k.szF A4 A5) k.one ?_; intro wC hw8 hc8; rw [splice_all _ _ (by rw [k.lenF A4 A5]; rfl)] at hw8; have c8 : Chg (fun _ => False) wr wC := ((Chg.refl (fun _ => False) wr).alloc _).trans hc8 (fun i e => .inr (by omega)); have BK : Hid _ := hw8; have CB : Hid _ := c8; clear hw8 hc8 c8))
      clear RG hix
      have MC : Hid _ := MJ.out.fresh CB.out
      have kx2 : wC.cell? ⟨wr.heap.size, 1, none⟩ = some (.slice k.ka k.kn k.kc) := BK.out.cell 1
      have HC : Hid _ := marked_any (Own.kept KO1.out CB.out (fun _ _ e => e)) (by have := LEN.out; omega)
      go_wp2_with fail
      refine Calls.mono HC.out ?_
      rintro e wD ⟨rfl, cD, sD⟩
      rw [TT.out] at cD sD
      have MN : Hid (MT w7 wD (.slice pa un pc) S.kl L1 (j + 1)) := MT.step OX.out.ml OX.out.hn MC.out hj1 cD sD
      clear cD sD HC kx2 BK
      go_wp2_with fail
      go_roundw
      case rel => exact ⟨j + 1, by omega, rfl, by go_num, MN.out⟩
      case measure => simp [intOf]; omega
    · have hjn : j = n := by omega
      rw [hjn] at MJ
      have XV : Hid (VK wr xa n (fK L1)) := MT.vk OX.out.ml OX.out.hz OX.out.ky MJ.out rfl HN1.out
      have XK : Hid (Src wr (.slice pa un pc) S.kl) := MJ.out.ky
      have YF := OY.out.far MJ.out.ch (fun k hk => by have := OLT.out k hk; have := L23.out; omega) rfl HN2.out
      have YV : Hid (VK wr ya n (fK L2)) := YF.1
      have YK : Hid (Src wr (.slice qa un qc) S.kl) := YF.2
      have CH8 : Below W.heap.size w7 wr := MJ.out.ch.below BL7.out.size (fun k hk => by have := OLT.out k hk; have := W1.out; omega)
      have BL8 : Hid (Below W.heap.size W wr) := BL7.out.trans CH8
      have D8 : Hid (Blk wr w2.heap.size (towC S.hd (.slice pa un pc) S.vl (.slice xa n xc)) 69) := D7.out.keep MJ.out.ch (fun e => by have := OLT.out _ e; omega)
      have F8 : Hid (Blk wr w4.heap.size (towC S.hd (.slice qa un qc) S.vl (.slice ya n yc)) 69) := F7.out.keep MJ.out.ch (fun e => by have := OLT.out _ e; have := L23.out; have := L34.out; omega)
      clear MJ OX OY D7 F7 M0 CH8 BL7 HTL OLT hj hlt YF
      have G8 : Hid (Blk wr X P.cells 69) := B5.out.keep0 BL8.out
      have PVL := HP.out.vl
      have PK : Hid (∀ {V : World}, Below W.heap.size W V → TwIn V (fun g => g < V.heap.size) P) := fun hb => (HP.out.kept (Chg.of_below hb (fun _ => False)) (fun _ _ e => e)).mono (fun g e => Nat.lt_of_lt_of_le e hb.size)
      have kn : P.kn = P.kl.length := by
        obtain ⟨_, _, e⟩ := HP.out.src.form
        injection e
      have KN : Hid _ := kn
      clear kn
      go_wp2_with (refine wpList_load_part rfl 69 (.tmp 2) rfl X 0 P.cells rfl G8.out (by simp) Try.underlying69 rfl (Try.towSz P PVL) ?_)
      refine Calls.mono (copyTower_any (PK.out BL8.out) (by omega) (fun i hi => by have := HLN.out i hi; omega)) ?_
      intro e w9 hq
      obtain ⟨ka, kn, kc, A, c, os', rfl, bl9, q9, sm9⟩ := hq.ex
      have C89 : Hid (Chg (fun _ => False) wr w9) := Chg.of_below bl9 _
      have Q9 : Hid _ := q9
      have SM9 : Hid _ := sm9
      clear bl9 q9 sm9 hq G8
      obtain ⟨C, hC⟩ : ∃ C, C = towC P.hd (.slice ka kn kc) P.vl (.slice A P.sn c) := ⟨_, rfl⟩
      rw [← hC]
      have HCC : Hid _ := hC
      have LC : C.length = towZ.length := by rw [hC, towC_len, PVL]; rfl
      have OC : Hid (∀ u ∈ C, u.oneCell' = true) := by rw [hC]; exact towC_one _ rfl _ rfl
      clear hC
      go_upto_region 13 with (refine wpList_store_part rfl 69 (.tmp 14) (.tmp 67) rfl w9.heap.size 0 C rfl rfl (t := 69) (cs := towZ) ⟨heap_alloc_new _ _⟩ (by rw [LC, Nat.zero_add]; exact Nat.le_refl _) (Try.towZsz C LC) OC.out ?_; intro wA hw4 hc4; rw [splice_all _ _ LC] at hw4; have DA : Hid _ := hw4; have c8 : Chg (fun _ => False) w9 wA := ((Chg.refl (fun _ => False) w9).alloc _).trans hc4 (fun i e => .inr (by omega)); have C9A : Hid _ := c8; clear hw4 hc4 c8)
      have DB : Hid (Blk wA w9.heap.size (towC P.hd (.slice ka kn kc) P.vl (.slice A P.sn c)) 69) := by rw [← HCC.out]; exact DA.out
      have LA : Hid (w9.heap.size < wA.heap.size) := DA.out.lt
      have BLA : Hid (Below W.heap.size W wA) := BL8.out.trans ((C89.out.trans C9A.out (fun _ e => e.elim)).below BL8.out.size (fun _ e => e.elim))
      clear DA OC LC
      have kx : wA.cell? ⟨X, 1, none⟩ = some (.slice P.ka P.kn P.kc) := (B5.out.keep0 BLA.out).cell 1
      have HC : Hid _ := roomy_any (PK.out BLA.out).src (by omega)
      go_wp2_with fail
      refine Calls.mono HC.out ?_
      rintro e wR ⟨ra, rc, rfl, mr⟩
      obtain ⟨RN, hRN⟩ : ∃ RN, RN = P.kl.length := ⟨_, rfl⟩
      obtain ⟨RM, hRM⟩ : ∃ RM, RM = P.kl.length + 2 := ⟨_, rfl⟩
      rw [← hRM] at mr ⊢
      rw [← hRN]
      obtain ⟨rg, erg⟩ := Own.addrP mr.1 (by simp)
      injection erg with erg
      subst erg
      have LRG : Hid (wA.heap.size ≤ rg ∧ rg < wR.heap.size) := ⟨mr.2.2 rg rfl, mr.1.lt rfl⟩
      have HRN : Hid _ := hRN
      have HRM : Hid _ := hRM
      have OR : Hid (Own wR (.slice (some ⟨rg, 0, none⟩) RM rc) (P.kl ++ [165, 90])) := mr.1
      have CAR : Hid (Chg (fun _ => False) wA wR) := Chg.of_below mr.2.1 (fun _ => False)
      have BLR : Hid (Below W.heap.size W wR) := BLA.out.trans (mr.2.1.mono BLA.out.size)
      have DR : Hid _ := DB.out.keep CAR.out (fun e => e)
      clear HC kx mr hRN hRM DB BLA
      have kf : wR.frozen? ⟨w9.heap.size, 1, none⟩ = false := DR.out.fr 1
      have ky : wR.cell? ⟨w9.heap.size, 1, none⟩ = some (.slice ka kn kc) := DR.out.cell 1
      go_upto_region 15 with fail
      obtain ⟨wS, hw⟩ : ∃ wS : World, wS = wR.setCell ⟨w9.heap.size, 1, none⟩ (.slice (some ⟨rg, 0, none⟩) RN rc) := ⟨_, rfl⟩
      rw [← hw]
      have DS : Hid (Blk wS w9.heap.size (towC P.hd (.slice (some ⟨rg, 0, none⟩) RN rc) P.vl (.slice A P.sn c)) 69) := by rw [hw]; exact DR.out.set 1 (.slice (some ⟨rg, 0, none⟩) RN rc)
      have cS : Chg (fun k => k = w9.heap.size) wR wS := by rw [hw]; exact (Chg.refl (fun k => k = w9.heap.size) wR).setCell (p := ⟨w9.heap.size, 1, none⟩) (.inl rfl) _
      have C9S : Hid (Chg (fun _ => False) w9 wS) := (C9A.out.trans CAR.out (fun _ e => e.elim)).trans cS (fun i e => .inr (by omega))
      have OS : Hid (Own wS (.slice (some ⟨rg, 0, none⟩) RM rc) (P.kl ++ [165, 90])) := OR.out.kept cS (fun k hk e => by simp [Value.ownBlock] at hk; have := LRG.out; have := LA.out; omega)
      have QS : Hid _ := Q9.out.kept C9S.out (fun g hg e => e)
      have SZ : Hid (wR.heap.size ≤ wS.heap.size) := cS.size
      clear kf ky hw cS DR OR C9A CAR BLR
      have XP : Hid _ := twiceG (c := c) Try.underlying67 info155 (by kernel_rfl) (by decide) QS.out.row (fun i hi => Kd.lenF _ (QS.out.kid i hi).ad (QS.out.kid i hi).lb) (fun i _ => Kd.one _) (by show (P.sn + 1) * 112 ≤ _; omega) (by show P.sn + 1 ≤ _; omega) (E := kd555) kd555_len kd555_one
      obtain ⟨xm, hxm⟩ : ∃ xm, xm = Value.slice A P.sn c := ⟨_, rfl⟩
      obtain ⟨za, zn, zc, wq, gm, cm, wB, q1, q2, q3, q4, q5, q6, q7⟩ := XP.out
      have q1 : (Builtin.append_ #[67, 67] 67 #[.slice (some ⟨wS.heap.size, 0, none⟩) 0 0, xm]).run Try.prog (wS.alloc (.cells #[] 112)) = .ok (.slice za zn zc) wq := by rw [hxm]; exact q1
      have XQ1 : Hid _ := q1
      have XQ2 : Hid _ := q2
      have GQM : Hid (GL wB (.slice (some ⟨gm, 0, none⟩) (P.sn + 1) cm) 112 68 ((List.range P.sn).map (fun i => (os' i).cells) ++ [kd555])) := q3
      have hcp : cm ≤ 9223372036854775807 := q5
      have hcapM : P.sn + 1 ≤ cm := q4
      have GZM : Hid (wS.heap.size ≤ gm) := q6
      have CQ : Hid (Chg (fun _ => False) wS wB) := q7
      have kx : (wS.alloc (.cells #[] 112)).cell? ⟨w9.heap.size, 35, none⟩ = some xm := by rw [hxm, (DS.out.alloc _).cell]; exact towC_at _ _ _ _ PVL
      clear XP q1 q2 q3 q4 q5 q6 q7 hxm
      go_upto_region 16 with (first
        | refine wpList_appG (sl := 67) rfl (.tmp 76) (.tmp 78) rfl (v := .slice (some ⟨wS.heap.size, 0, none⟩) 0 0) (u := xm) (v' := .slice za zn zc) (w' := wq) rfl rfl XQ1.out ?_
        | refine wpList_appG (sl := 67) rfl (.tmp 79) (.tmp 81) rfl (v := .slice za zn zc) (u := .slice (some ⟨wq.heap.size, 0, none⟩) 1 1) (v' := .slice (some ⟨gm, 0, none⟩) (P.sn + 1) cm) (w' := wB) rfl rfl XQ2.out ?_)
      clear XQ1 XQ2 kx
      have C9B : Hid (Chg (fun _ => False) w9 wB) := C9S.out.trans CQ.out (fun _ e => e.elim)
      have C8B : Hid (Chg (fun _ => False) wr wB) := C89.out.trans C9B.out (fun _ e => e.elim)
      have BLB : Hid (Below W.heap.size W wB) := BL8.out.trans (C8B.out.below BL8.out.size (fun _ e => e.elim))
      have DD : Hid _ := DS.out.keep CQ.out (fun e => e)
      have OB2 : Hid (Own wB (.slice (some ⟨rg, 0, none⟩) RM rc) (P.kl ++ [165, 90])) := OS.out.kept CQ.out (fun _ _ e => e)
      have kx : wB.cell? ⟨X, 35, none⟩ = some (.slice P.sa P.sn P.sc) := by rw [(B5.out.keep0 BLB.out).cell]; exact P.ks_at PVL
      have ky : wB.cell? ⟨w9.heap.size, 35, none⟩ = some (.slice A P.sn c) := by rw [DD.out.cell]; exact towC_at _ _ _ _ PVL
      have kf : wB.frozen? ⟨w9.heap.size, 35, none⟩ = false := DD.out.fr 35
      clear DS CQ QS OS
      go_upto_region 17 with fail
      obtain ⟨wC, hw⟩ : ∃ wC : World, wC = wB.setCell ⟨w9.heap.size, 35, none⟩ (.slice (some ⟨gm, 0, none⟩) P.sn cm) := ⟨_, rfl⟩
      rw [← hw]
      have DN : Hid (Blk wC w9.heap.size (towC P.hd (.slice (some ⟨rg, 0, none⟩) RN rc) P.vl (.slice (some ⟨gm, 0, none⟩) P.sn cm)) 69) := by rw [hw, ← towC_kids _ _ _ (.slice A P.sn c) _ PVL]; exact DD.out.set 35 (.slice (some ⟨gm, 0, none⟩) P.sn cm)
      have cS : Chg (fun k => k = w9.heap.size) wB wC := by rw [hw]; exact (Chg.refl (fun k => k = w9.heap.size) wB).setCell (p := ⟨w9.heap.size, 35, none⟩) (.inl rfl) _
      have C9C : Hid (Chg (fun _ => False) w9 wC) := C9B.out.trans cS (fun i e => .inr (by omega))
      have C8C : Hid (Chg (fun _ => False) wr wC) := C89.out.trans C9C.out (fun _ e => e.elim)
      have GQN : Hid (GL wC (.slice (some ⟨gm, 0, none⟩) (P.sn + 1) cm) 112 68 ((List.range P.sn).map (fun i => (os' i).cells) ++ [kd555])) := GQM.out.kept cS (fun k _ hk _ e => by simp [Value.ownBlock] at hk; have := GZM.out; have := LA.out; have := LRG.out; have := SZ.out; omega)
      have ORC : Hid (Own wC (.slice (some ⟨rg, 0, none⟩) RM rc) (P.kl ++ [165, 90])) := OB2.out.kept cS (fun k hk e => by simp [Value.ownBlock] at hk; have := LRG.out; have := LA.out; omega)
      have QN : Hid _ := Q9.out.kept C9C.out (fun _ _ e => e)
      have BLC : Hid (Below W.heap.size W wC) := BL8.out.trans (C8C.out.below BL8.out.size (fun _ e => e.elim))
      clear kx ky kf hw cS DD GQM C9B C8B BLB C89 Q9 OB2
      obtain ⟨PC, hPC⟩ : ∃ PC : Tw, PC = ⟨P.hd, some ⟨rg, 0, none⟩, RN, rc, P.kl, P.vl, some ⟨gm, 0, none⟩, P.sn, cm, os'⟩ := ⟨_, rfl⟩
      have LGM : gm < wC.heap.size := by obtain ⟨_, h9⟩ := GQN.out.blk (g := gm) rfl; exact (Array.getElem?_eq_some_iff.1 h9).1
      have SKC : Hid (Src wC (.slice (some ⟨rg, 0, none⟩) RN rc) P.kl) := by rw [HRN.out]; exact Own.front ORC.out rc (by simp)
      have PI : Hid (TwIn wC (fun g => g < wC.heap.size) PC) := by
        rw [hPC]
        exact ⟨SKC.out, fun g hg => .inl (ORC.out.lt hg), PVL, QN.out.sn, QN.out.kl, (frontG GQN.out).1.mono (fun k e => by omega), fun i hi => by
          have k := QN.out.kid i hi
          exact ⟨k.src, fun g hg => (k.av g hg).imp (fun e => Nat.lt_of_lt_of_le e C9C.out.size) id, k.lv, k.ct, k.ad, k.lb⟩⟩
      have PBI : Hid (PC.bytes = P.bytes) := by
        rw [hPC]
        show _ ++ kidsB os' P.sn = _
        rw [← kidsB_same P.sn SM9.out]
        rfl
      have DP : Hid (Blk wC w9.heap.size PC.cells 69) := by rw [hPC]; exact DN.out
      have HPC : Hid _ := hPC
      have PCV : PC.vl.length = 33 := by rw [hPC]; exact PVL
      clear hPC DN LGM QN
      go_wp2_with (refine wpList_load_part rfl 69 (.tmp 14) rfl w9.heap.size 0 PC.cells rfl DP.out (by simp) Try.underlying69 rfl (Try.towSz PC PCV) ?_)
      refine Calls.mono (cTower_any PI.out (by rw [PBI.out]; exact hb0)) ?_
      rintro e wD ⟨b, rfl, mb⟩
      rw [PBI.out] at mb
      have CCD : Hid (Chg (fun _ => False) wC wD) := Chg.of_below mb.2.1 (fun _ => False)
      have BLD : Hid (Below W.heap.size W wD) := BLC.out.trans (mb.2.1.mono BLC.out.size)
      have OB : Hid (Own wD b P.bytes) := mb.1
      obtain ⟨bg, bc, hbf⟩ := mb.1.form
      obtain ⟨bn, hbn⟩ : ∃ bn, bn = P.bytes.length := ⟨_, rfl⟩
      rw [← hbn] at hbf
      subst hbf
      have HBN : Hid _ := hbn
      clear mb hbn
      have GD : Hid (Blk wD X P.cells 69) := B5.out.keep0 BLD.out
      have kx3 : wD.cell? ⟨X, 1, none⟩ = some (.slice P.ka P.kn P.kc) := GD.out.cell 1
      have HU : Hid _ := untouched_P (s := .slice P.ka P.kn P.kc) HRM.out (PK.out BLD.out).src (ORC.out.kept CCD.out (fun _ _ e => e)) (by omega)
      go_wp2_with fail
      refine Calls.mono HU.out ?_
      rintro e wU ⟨rfl, nU, hwU⟩
      have bDU : Below wD.heap.size wD wU := by rw [hwU]; exact below_drewN (Below.refl _ _) nU
      have CDU : Hid (Chg (fun _ => False) wD wU) := Chg.of_below bDU (fun _ => False)
      have BLU : Hid (Below W.heap.size W wU) := BLD.out.trans (bDU.mono BLD.out.size)
      have CCU : Hid (Chg (fun _ => False) wC wU) := CCD.out.trans CDU.out (fun _ e => e.elim)
      clear hwU bDU HU kx3 GD
      have DQ : Hid (Blk wU w9.heap.size PC.cells 69) := DP.out.keep CCU.out (fun e => e)
      have GX : Hid (Blk wU X P.cells 69) := B5.out.keep0 BLU.out
      have kx3 : wU.cell? ⟨X, 35, none⟩ = some (.slice P.sa P.sn P.sc) := by rw [GX.out.cell]; exact P.ks_at PVL
      have hx3 := ix_at Try.underlying67 Try.elem67 Try.so112 (A := some ⟨gm, 0, none⟩) (n := P.sn + 1) (c := cm) (j := P.sn) rfl (by omega)
      have kl3 : wU.cell? ⟨gm, P.sn * 68, none⟩ = some (.int .i64 555) := rangeAt_kept (frontG GQN.out).2 CCU.out (fun e => e) 0 _ rfl
      go_wp2_with (first
        | refine wpList_load_g (by rfl) 69 (.tmp 14) rfl w9.heap.size 0 PC.cells rfl DQ.out (by simp) Try.underlying69 rfl (Try.towSz PC PCV) ?_
        | refine wpList_load_g (by rfl) 69 (.tmp 2) rfl X 0 P.cells rfl GX.out (by simp) Try.underlying69 rfl (Try.towSz P PVL) ?_)
      rw [HPC.out]
      have LKS : Hid (∀ i, i < P.sn → (P.ks i).kl.length ≤ 9223372036854775807) := fun i hi => by have := HLN.out i hi; omega
      have V1 : Hid (VK wU (some ⟨gm, 0, none⟩) P.sn os') := by
        have h9 := (PI.out.vk (by rw [HPC.out]; intro i hi; rw [← (SM9.out i hi).kl]; exact LKS.out i hi)).kept CCU.out
        rw [HPC.out] at h9
        exact h9
      have V2 : Hid (VK wU P.sa P.sn P.ks) := (PK.out BLU.out).vk LKS.out
      refine Calls.mono (VK.same (n := P.sn) (hd := P.hd) (c := cm) (d := P.sc) (SKC.out.kept CCU.out (fun _ _ e => e)) (PK.out BLU.out).src (by omega) PVL V1.out V2.out (fun i hi => (SM9.out i hi).symm) (by show P.sn ≤ _; omega)) ?_
      rintro e wE ⟨rfl, bl⟩
      have CDE : Hid (Chg (fun _ => False) wU wE) := Chg.of_below bl (fun _ => False)
      have BLE : Hid (Below W.heap.size W wE) := BLU.out.trans (bl.mono BLU.out.size)
      have C8E : Hid (Chg (fun _ => False) wr wE) := (C8C.out.trans CCU.out (fun _ e => e.elim)).trans CDE.out (fun _ e => e.elim)
      have OBE : Hid (Own wE (.slice bg bn bc) P.bytes) := (OB.out.kept CDU.out (fun _ _ e => e)).kept CDE.out (fun _ _ e => e)
      have XE : Hid _ := XV.out.kept C8E.out
      have YE : Hid _ := YV.out.kept C8E.out
      have XKE : Hid _ := XK.out.kept C8E.out (fun _ _ e => e)
      have YKE : Hid _ := YK.out.kept C8E.out (fun _ _ e => e)
      have D9 : Hid _ := D8.out.keep C8E.out (fun e => e)
      have F9 : Hid _ := F8.out.keep C8E.out (fun e => e)
      clear bl kx3 hx3 kl3 DQ GX OB GQN DP V1 V2 XV YV XK YK D8 F8 CDE CDU CCD CCU C8C C8E
      go_wp2_with (first
        | refine wpList_load_g (by rfl) 69 (.tmp 7) rfl w2.heap.size 0 (towC S.hd (.slice pa un pc) S.vl (.slice xa n xc)) rfl D9.out (by simp) Try.underlying69 rfl (Try.towSz' _ _ _ _ HVL.out) ?_
        | refine wpList_load_g (by rfl) 69 (.tmp 9) rfl w4.heap.size 0 (towC S.hd (.slice qa un qc) S.vl (.slice ya n yc)) rfl F9.out (by simp) Try.underlying69 rfl (Try.towSz' _ _ _ _ HVL.out) ?_)
      refine Calls.mono (VK.same XKE.out YKE.out (by have := hklb.out; omega) HVL.out XE.out YE.out (fun i hi => HSM.out i (by rw [← HN1.out]; exact hi)) hnb) ?_
      rintro e wF ⟨rfl, bl⟩
      have BLF : Hid (Below W.heap.size W wF) := BLE.out.trans (bl.mono BLE.out.size)
      have OBF : Hid (Own wF (.slice bg bn bc) P.bytes) := OBE.out.kept (Chg.of_below bl (fun _ => False)) (fun _ _ e => e)
      have GY : Hid (Blk wF X P.cells 69) := B5.out.keep0 BLF.out
      clear bl XE YE XKE YKE D9 F9 OBE
      go_wp2_with (refine wpList_load_g (by rfl) 69 (.tmp 2) rfl X 0 P.cells rfl GY.out (by simp) Try.underlying69 rfl (Try.towSz P PVL) ?_)
      refine Calls.mono (xTower_any (PK.out BLF.out) hl0 HLN.out) ?_
      rintro e wG ⟨u, rfl, mu⟩
      have BLG : Hid (Below W.heap.size W wG) := BLF.out.trans (mu.2.1.mono BLF.out.size)
      have OU : Hid (Own wG u P.bytes) := mu.1
      have OBG : Hid (Own wG (.slice bg bn bc) P.bytes) := OBF.out.kept (Chg.of_below mu.2.1 (fun _ => False)) (fun _ _ e => e)
      obtain ⟨ug, uc, huf⟩ := mu.1.form
      rw [← HBN.out] at huf
      subst huf
      clear mu OBF GY
      have HCS : Hid _ := same_any (OBG.out.src) (OU.out.src) (by omega) (by omega)
      rw [decide_eq_true (rfl : P.bytes = P.bytes)] at HCS
      go_wp2_with fail
      refine Calls.mono HCS.out ?_
      rintro e wH ⟨rfl, n7, hw⟩
      have F : Hid (Below w.heap.size w wH) := by
        rw [hw]
        exact HB.out.trans ((BLG.out.trans (below_drewN (Below.refl _ _) n7 |>.mono BLG.out.size)).mono HB.out.size)
      clear hw HCS
      go_wp2_with fail
      go_ret
      exact ⟨rfl, F.out⟩
end Go.Proofs.Ytkchmoapcmageaa
