/-
  The reference reads towers: the walk.
-/
import Derived.Test.YtkchmoapcmageaaTrX
import Derived.Test.YtkchmoapcmageaaPgL
namespace Go.Proofs.Ytkchmoapcmageaa
open Go.RowKit

set_option maxRecDepth 100000 in
set_option maxHeartbeats 16000000 in
theorem xReadTower_any {w : World} {s : Value} {T : List Int} (h : In w s T) :
    Calls Try.prog 37 #[s] w fun e w' => ∃ C, e = .returned (.tuple #[.agg C.toArray, .int .i64 (towE T)]) ∧ Below w.heap.size w w' ∧ (C.length = towZ.length ∧ ∀ u ∈ C, u.oneCell' = true) ∧ (towE T = 0 → TowIs w' w.heap.size (towerS T 0 0) C) ∧ (¬ towE T = 0 → C = towZ) := by
  have X0 : Hid _ := TR.start h
  unfold towE
  obtain ⟨S, hS⟩ : ∃ S, S = towerS T 0 0 := ⟨_, rfl⟩
  rw [← hS]
  unfold towerS at hS
  simp only at hS
  have HC : Hid _ := xFlagV X0.out.rs
  obtain ⟨K, hK⟩ : ∃ K, K = lowN (pL T 0 0 1) := ⟨_, rfl⟩
  rw [← hK] at HC
  obtain ⟨hd, a1, e1, hF⟩ : ∃ hd a1 e1, flagS T 0 0 = (hd, a1, e1) := ⟨_, _, _, rfl⟩
  have hdq : ((K : Int) == 1) = hd := by
    have h9 := congrArg Prod.fst hF
    simp only [flagS, ← hK] at h9
    rw [← h9]
    by_cases q : K = 1
    · simp [q]
    · rw [decide_eq_false q]
      simp
      omega
  simp only [hF] at HC hS
  obtain ⟨kb, vl, a2, e2, hO⟩ : ∃ kb vl a2 e2, ownS T a1 e1 hd = (kb, vl, a2, e2) := ⟨_, _, _, _, rfl⟩
  have HV : vl.length = 33 := by have := ownS_len T a1 e1 hd; rwa [hO] at this
  simp only [hO] at hS
  obtain ⟨U, a3, e3, hU⟩ : ∃ U a3 e3, uintS T a2 e2 24 = (U, a3, e3) := ⟨_, _, _, rfl⟩
  have hU24 : U ≤ 24 := by have := uintS_most T a2 e2 24; rwa [hU] at this
  simp only [hU] at hS
  obtain ⟨mk, a4, e4, hM⟩ : ∃ mk a4 e4, manyS T U a3 e3 = (mk, a4, e4) := ⟨_, _, _, rfl⟩
  simp only [hM] at hS
  have HSS : Hid _ := hS
  obtain ⟨E, hE⟩ : ∃ E, E = endE T S.at_ S.err := ⟨_, rfl⟩
  rw [← hE]
  have HE : Hid _ := hE
  have HO : Hid _ := hO
  have HU : Hid _ := hU
  have HM : Hid _ := hM
  obtain ⟨s0, s9, hsf, _⟩ := h.cap
  clear h hS hE hF hO hU hM hK
  subst hsf
  obtain ⟨sv, hsv⟩ : ∃ sv, sv = Value.slice s0 T.length s9 := ⟨_, rfl⟩
  rw [← hsv] at X0 HC
  go_enter Try.func37, Try.ntmps37
  go_upto_region 3 with fail
  rw [← hsv]
  clear hsv
  go_wp2_with fail
  refine Calls.mono HC.out ?_
  rintro e w1 ⟨rfl, r1⟩
  have X1 : Hid _ := X0.out.call r1
  clear r1 HC X0
  have hc : w1.cell? ⟨w.heap.size + 2, 0, none⟩ = some (.bool false) := X1.out.row.cell 0
  have hf : w1.frozen? ⟨w.heap.size + 2, 0, none⟩ = false := X1.out.row.fr 0
  obtain ⟨wa, hwa⟩ : ∃ wa, wa = w1.setCell ⟨w.heap.size + 2, 0, none⟩ (.bool hd) := ⟨_, rfl⟩
  have X2 : Hid (TR w sv T hd (.slice none 0 0) [] (List.replicate 33 0) (.slice none 0 0) [] wa a1 e1) := by rw [hwa]; exact X1.out.chg (X1.out.row.set 0 (.bool hd)) ((Chg.refl (fun k => k = w.heap.size + 2) w1).setCell (p := ⟨w.heap.size + 2, 0, none⟩) (.inl rfl) _)
  have ka : wa.cell? ⟨w.heap.size + 2, 0, none⟩ = some (.bool hd) := X2.out.row.cell 0
  have hwa' : w1.setCell ⟨w.heap.size + 2, 0, none⟩ (.bool hd) = wa := hwa.symm
  clear hwa
  go_upto_if 19 with fail
  clear hc hf X1 hwa' hdq
  go_cut [] from 10 (fun wx => Hid (∃ key, TR w sv T hd key kb vl (.slice none 0 0) [] wx a2 e2))
  case first =>
    cases hd with
    | true =>
      have F : Hid (∃ key, TR w sv T true key kb vl (.slice none 0 0) [] wa a2 e2) := by
        have h9 := HO.out
        simp only [ownS, if_true, Prod.mk.injEq] at h9
        obtain ⟨h9a, h9b, h9c, h9d⟩ := h9
        rw [← h9a, ← h9b, ← h9c, ← h9d]
        exact ⟨_, X2.out⟩
      go_wp2_with fail
      go_meet
      case rel => exact F.out
    | false =>
      have h9 := HO.out
      simp only [ownS, Bool.false_eq_true, if_false, Prod.mk.injEq] at h9
      have HC : Hid _ := xText_any X2.out.rs 1024 (by decide)
      obtain ⟨kk, b1, f1, hT⟩ : ∃ kk b c, textS T a1 e1 1024 = (kk, b, c) := ⟨_, _, _, rfl⟩
      simp only [hT] at HC h9
      have HQ : Hid _ := h9
      clear hT h9
      go_wp2_with fail
      refine Calls.mono HC.out ?_
      rintro e w2 ⟨u, rfl, o2, r2, hs2⟩
      have Y2 : Hid _ := X2.out.call r2
      obtain ⟨ua, uc, huf⟩ := Own.form o2
      obtain ⟨un, hun⟩ : ∃ un, un = kk.length := ⟨_, rfl⟩
      rw [← hun] at huf
      subst huf
      have Y3 : Hid _ := Y2.out.setKey o2 rfl (fun g hg => Nat.le_trans X2.out.sz (hs2 g hg))
      have hc2 : w2.cell? ⟨w.heap.size + 2, 1, none⟩ = some (.slice none 0 0) := Y2.out.row.cell 1
      have hf2 : w2.frozen? ⟨w.heap.size + 2, 1, none⟩ = false := Y2.out.row.fr 1
      clear o2 r2 hs2 HC hun ka
      go_upto_region 6 with fail
      obtain ⟨w3, hw3⟩ : ∃ w3, w3 = w2.setCell ⟨w.heap.size + 2, 1, none⟩ (.slice ua un uc) := ⟨_, rfl⟩
      rw [← hw3] at Y3 ⊢
      clear hw3 hc2 hf2 Y2 X2
      have HC : Hid _ := xAddr_any Y3.out.rs
      obtain ⟨x, hx⟩ : ∃ x, x = pad 33 (pL T b1 f1 33) := ⟨_, rfl⟩
      have HX : x.length = 33 := by rw [hx]; exact pad_len (pL_len T b1 f1 33)
      have h9 := HQ.out
      simp only [← hx] at HC h9
      clear HQ
      have HQ : Hid _ := h9
      clear hx h9
      go_wp2_with fail
      refine Calls.mono HC.out ?_
      rintro e w4 ⟨rfl, r2⟩
      have Y4 : Hid _ := Y3.out.call r2
      clear r2 HC Y3
      go_wp2_with (refine wpList_store_part rfl 33 (.tmp 25) (.tmp 24) rfl (w.heap.size + 2) 2 (bs x) rfl rfl Y4.out.row (by simp [towC, bs, HX]) (Try.addrSz x HX) (bs_one x) ?_; intro w5 b5 c5; rw [towC_put _ _ _ _ _ (by simp [HX])] at b5; have Y5 : Hid _ := Y4.out.chg b5 c5; clear b5 c5)
      go_meet
      case rel =>
        obtain ⟨h9a, h9b, h9c, h9d⟩ := HQ.out
        rw [← h9a, ← h9b, ← h9c, ← h9d]
        exact ⟨_, Y5.out⟩
  case rest =>
    obtain ⟨key, x3⟩ := hcut.out
    have X3 : Hid _ := x3
    clear hcut x3 X2 ka
    have HC : Hid _ := xKidsV X3.out.rs
    simp only [HU.out] at HC
    go_wp2_with fail
    refine Calls.mono HC.out ?_
    rintro e w4 ⟨rfl, r1⟩
    have X4 : Hid _ := X3.out.call r1
    clear r1 HC X3
    go_wp2_with fail
    go_loopw [7] (fun i wr => ∃ (j ai : Nat) (ei : Int) (kv : Value) (ks : List (KS × Value)), j ≤ U ∧ i = .int .u64 j ∧ Hid (TR w sv T hd key kb vl kv ks wr ai ei ∧ ks.length = j ∧ manyS T U a3 e3 = (ks.map Prod.fst ++ (manyS T (U - j) ai ei).1, (manyS T (U - j) ai ei).2))) (fun i _ => U - (intOf i).toNat)
    case atStart => exact ⟨0, a3, e3, _, [], Nat.zero_le _, rfl, X4.out, rfl, by simp⟩
    case round =>
      obtain ⟨j, ai, ei, kv, ks, hj, rfl, hid⟩ := hrel
      have XJ : Hid _ := hid.out.1
      have HL : Hid _ := hid.out.2.1
      have HMJ : Hid _ := hid.out.2.2
      clear hid
      have HMO : Hid _ := xMore_any XJ.out.rs j U
      by_cases hgo : ei = 0 ∧ j < U
      · obtain ⟨rfl, hlt⟩ := hgo
        rw [decide_eq_true (⟨rfl, hlt⟩ : (0 : Int) = 0 ∧ j < U)] at HMO
        obtain ⟨R, hR⟩ : ∃ R, R = kidS T ai 0 := ⟨_, rfl⟩
        have HR0 : Hid _ := hR
        unfold kidS limbS at hR
        simp only at hR
        have HRR : Hid _ := hR
        clear hR
        have KVL : Hid _ := XJ.out.kvlt
        have GS : Hid (w.heap.size + 3 ≤ wr.heap.size) := XJ.out.sz
        have QLT : Hid (∀ q, q ∈ ks → ∀ g, q.2.ownBlock = some g → g < wr.heap.size) := fun q hq g hg => Own.lt (XJ.out.ml.key q hq).1 hg
        have KLT : Hid (∀ g, key.ownBlock = some g → g < wr.heap.size) := fun g hg => Own.lt XJ.out.ky.1 hg
        obtain ⟨va, vc, hvf⟩ := XJ.out.ml.form
        obtain ⟨vn, hvn⟩ : ∃ vn, vn = ks.length := ⟨_, rfl⟩
        rw [← hvn] at hvf
        subst hvf
        have XK : Hid _ := XJ.out.fresh ((Chg.refl (fun _ => False) wr).alloc (.cells kdZ.toArray 112))
        have RB : Hid _ := Blk.made wr kdZ 112
        clear hvn
        go_upto_region 12 with (go_at_call 97; refine Calls.mono HMO.out ?_; rintro e wq ⟨rfl, hwq⟩; rw [hwq]; clear hwq wq)
        clear HMO XJ
        have HC : Hid _ := xLevelV XK.out.rs
        obtain ⟨LV, b1, f1, hL⟩ : ∃ L b c, levelS T ai 0 = (L, b, c) := ⟨_, _, _, rfl⟩
        have hS := HRR.out
        simp only [hL] at HC hS
        clear HRR
        have HRR : Hid _ := hS
        clear hL hS
        go_wp2_with fail
        refine Calls.mono HC.out ?_
        rintro e u0 ⟨rfl, r1⟩
        have XC0 : Hid _ := XK.out.call r1
        have RC0 : Hid _ := RB.out.keep r1.2 (by have := GS.out; omega)
        clear r1 HC XK RB
        have hc : u0.cell? ⟨wr.heap.size, 0, none⟩ = some (.int .i64 0) := RC0.out.cell 0
        have hf : u0.frozen? ⟨wr.heap.size, 0, none⟩ = false := RC0.out.fr 0
        go_upto_region 13 with fail
        obtain ⟨x0, hx0⟩ : ∃ x0, x0 = u0.setCell ⟨wr.heap.size, 0, none⟩ (.int .i64 LV) := ⟨_, rfl⟩
        have cS : Chg (fun k => k = wr.heap.size) u0 x0 := by rw [hx0]; exact (Chg.refl (fun k => k = wr.heap.size) u0).setCell (p := ⟨wr.heap.size, 0, none⟩) (.inl rfl) _
        have XD0 : Hid _ := XC0.out.recd RC0.out GS.out (fun e => by have := KVL.out _ e; omega) cS
        have RD0 : Hid (Blk x0 wr.heap.size (kdC LV (.slice none 0 0) 0 (List.replicate 65 0)) 112) := by rw [hx0]; exact RC0.out.set 0 (.int .i64 LV)
        rw [← hx0]
        have LX0 : Hid (wr.heap.size < x0.heap.size) := RD0.out.lt
        clear hx0 cS XC0 RC0 hc hf
        have HC : Hid _ := xText_any XD0.out.rs 1024 (by decide)
        obtain ⟨kb2, b2, f2, hL⟩ : ∃ L b c, textS T b1 f1 1024 = (L, b, c) := ⟨_, _, _, rfl⟩
        have hS := HRR.out
        simp only [hL] at HC hS
        clear HRR
        have HRR : Hid _ := hS
        clear hL hS
        go_wp2_with fail
        refine Calls.mono HC.out ?_
        rintro e u1 ⟨t, rfl, o2, r1, hs2⟩
        obtain ⟨ta, tc, htf⟩ := Own.form o2
        obtain ⟨tn, htn⟩ : ∃ tn, tn = kb2.length := ⟨_, rfl⟩
        rw [← htn] at htf
        subst htf
        have XC1 : Hid _ := XD0.out.call r1
        have RC1 : Hid _ := RD0.out.keep r1.2 (by have := GS.out; omega)
        have O1 : Hid _ := o2
        have N1 : Hid (∀ g, (Value.slice ta tn tc).ownBlock = some g → wr.heap.size < g) := fun g hg => by have := hs2 g hg; have := LX0.out; omega
        clear r1 HC XD0 RD0 o2 hs2 htn
        have hc : u1.cell? ⟨wr.heap.size, 1, none⟩ = some (.slice none 0 0) := RC1.out.cell 1
        have hf : u1.frozen? ⟨wr.heap.size, 1, none⟩ = false := RC1.out.fr 1
        go_upto_region 14 with fail
        obtain ⟨x1, hx1⟩ : ∃ x1, x1 = u1.setCell ⟨wr.heap.size, 1, none⟩ (.slice ta tn tc) := ⟨_, rfl⟩
        have cS : Chg (fun k => k = wr.heap.size) u1 x1 := by rw [hx1]; exact (Chg.refl (fun k => k = wr.heap.size) u1).setCell (p := ⟨wr.heap.size, 1, none⟩) (.inl rfl) _
        have XD1 : Hid _ := XC1.out.recd RC1.out GS.out (fun e => by have := KVL.out _ e; omega) cS
        have RD1 : Hid (Blk x1 wr.heap.size (kdC LV (.slice ta tn tc) 0 (List.replicate 65 0)) 112) := by rw [hx1]; exact RC1.out.set 1 (.slice ta tn tc)
        have O2 : Hid _ := Own.kept O1.out cS (fun g hg e => by have := N1.out g hg; omega)
        rw [← hx1]
        clear hx1 cS XC1 RC1 hc hf O1
        have HC : Hid _ := xNumberV XD1.out.rs
        obtain ⟨CT, b3, f3, hL⟩ : ∃ L b c, uintS T b2 f2 maxN = (L, b, c) := ⟨_, _, _, rfl⟩
        have hS := HRR.out
        simp only [hL] at HC hS
        clear HRR
        have HRR : Hid _ := hS
        clear hL hS
        go_wp2_with fail
        refine Calls.mono HC.out ?_
        rintro e u2 ⟨rfl, r1⟩
        have XC2 : Hid _ := XD1.out.call r1
        have RC2 : Hid _ := RD1.out.keep r1.2 (by have := GS.out; omega)
        have O3 : Hid _ := Own.kept O2.out r1.2 (fun g hg e => by have := N1.out g hg; have := GS.out; omega)
        clear r1 HC XD1 RD1 O2
        have hc : u2.cell? ⟨wr.heap.size, 2, none⟩ = some (.int .u64 0) := RC2.out.cell 2
        have hf : u2.frozen? ⟨wr.heap.size, 2, none⟩ = false := RC2.out.fr 2
        go_upto_region 15 with fail
        obtain ⟨x2, hx2⟩ : ∃ x2, x2 = u2.setCell ⟨wr.heap.size, 2, none⟩ (.int .u64 CT) := ⟨_, rfl⟩
        have cS : Chg (fun k => k = wr.heap.size) u2 x2 := by rw [hx2]; exact (Chg.refl (fun k => k = wr.heap.size) u2).setCell (p := ⟨wr.heap.size, 2, none⟩) (.inl rfl) _
        have XD2 : Hid _ := XC2.out.recd RC2.out GS.out (fun e => by have := KVL.out _ e; omega) cS
        have RD2 : Hid (Blk x2 wr.heap.size (kdC LV (.slice ta tn tc) CT (List.replicate 65 0)) 112) := by rw [hx2]; exact RC2.out.set 2 (.int .u64 CT)
        have O4 : Hid _ := Own.kept O3.out cS (fun g hg e => by have := N1.out g hg; omega)
        rw [← hx2]
        clear hx2 cS XC2 RC2 hc hf O3
        have HC : Hid _ := xAddr_any XD2.out.rs
        obtain ⟨xx, hxx⟩ : ∃ x, x = pad 33 (pL T b3 f3 33) := ⟨_, rfl⟩
        have HX : xx.length = 33 := by rw [hxx]; exact pad_len (pL_len T b3 f3 33)
        obtain ⟨b4, hb4⟩ : ∃ x, x = pA T b3 f3 33 := ⟨_, rfl⟩
        obtain ⟨f4, hf4⟩ : ∃ x, x = pE T b3 f3 33 := ⟨_, rfl⟩
        have hS := HRR.out
        simp only [← hxx, ← hb4, ← hf4] at HC hS
        clear HRR
        have HRR : Hid _ := hS
        clear hxx hb4 hf4 hS
        go_wp2_with fail
        refine Calls.mono HC.out ?_
        rintro e u3 ⟨rfl, r1⟩
        have XC3 : Hid _ := XD2.out.call r1
        have RC3 : Hid _ := RD2.out.keep r1.2 (by have := GS.out; omega)
        have O5 : Hid _ := Own.kept O4.out r1.2 (fun g hg e => by have := N1.out g hg; have := GS.out; omega)
        clear r1 HC XD2 RD2 O4
        go_upto_region 16 with (refine wpList_store_part rfl 33 (.tmp 45) (.tmp 44) rfl wr.heap.size 3 (bs xx) rfl rfl RC3.out (by simp [kdC, bs, HX]) (Try.addrSz xx HX) (bs_one xx) ?_; intro x3 b7 c7; rw [kdC_put0 _ _ _ _ HX] at b7; have RD3 : Hid _ := b7; have XD3 : Hid _ := XC3.out.recd RC3.out GS.out (fun e => by have := KVL.out _ e; omega) c7; have O6 : Hid _ := Own.kept O5.out c7 (fun g hg e => by have := N1.out g hg; omega); clear b7 c7)
        clear XC3 RC3 O5
        have HC : Hid _ := xSum_any XD3.out.rs
        obtain ⟨yy, hyy⟩ : ∃ x, x = pad 32 (pL T b4 f4 32) := ⟨_, rfl⟩
        have HY : yy.length = 32 := by rw [hyy]; exact pad_len (pL_len T b4 f4 32)
        obtain ⟨b5, hb5⟩ : ∃ x, x = pA T b4 f4 32 := ⟨_, rfl⟩
        obtain ⟨f5, hf5⟩ : ∃ x, x = pE T b4 f4 32 := ⟨_, rfl⟩
        have hS := HRR.out
        simp only [← hyy, ← hb5, ← hf5] at HC hS
        clear HRR
        have HRR : Hid _ := hS
        clear hyy hb5 hf5 hS
        go_wp2_with fail
        refine Calls.mono HC.out ?_
        rintro e u4 ⟨rfl, r1⟩
        have XC4 : Hid _ := XD3.out.call r1
        have RC4 : Hid _ := RD3.out.keep r1.2 (by have := GS.out; omega)
        have O7 : Hid _ := Own.kept O6.out r1.2 (fun g hg e => by have := N1.out g hg; have := GS.out; omega)
        clear r1 HC XD3 RD3 O6
        go_upto_region 17 with (refine wpList_store_part rfl 31 (.tmp 48) (.tmp 47) rfl wr.heap.size 36 (bs yy) rfl rfl RC4.out (by simp [kdC, bs, HX, HY]) (Try.sumSz' yy HY) (bs_one yy) ?_; intro x4 b7 c7; rw [kdC_put1 _ _ _ _ _ HX HY] at b7; have RD4 : Hid _ := b7; have XD4 : Hid _ := XC4.out.recd RC4.out GS.out (fun e => by have := KVL.out _ e; omega) c7; have O8 : Hid _ := Own.kept O7.out c7 (fun g hg e => by have := N1.out g hg; omega); clear b7 c7)
        clear XC4 RC4 O7
        obtain ⟨zz, hzz⟩ : ∃ z, z = xx ++ yy := ⟨_, rfl⟩
        have HZ : zz.length = 65 := by rw [hzz]; simp [HX, HY]
        rw [← hzz] at RD4 HRR
        clear hzz
        obtain ⟨v', w9, hr, row1, h1v, tr⟩ := XD4.out.add HV (k := ⟨LV, kb2, CT, zz, b5, f5⟩) (u := .slice ta tn tc) O8.out rfl HZ (by have := HL.out; omega) (C := wr.heap.size) GS.out (fun g hg => by have := N1.out g hg; omega) QLT.out KLT.out
        have hr : (Builtin.append_ #[67, 67] 67 #[.slice va vn vc, .slice (some ⟨x4.heap.size, 0, none⟩) 1 1]).run Try.prog (x4.alloc (.cells (kdC LV (.slice ta tn tc) CT zz).toArray 112)) = .ok v' w9 := hr
        obtain ⟨ya, yc, hyf⟩ := tr.ml.form
        obtain ⟨ln, hln⟩ : ∃ ln, ln = (ks ++ [((⟨LV, kb2, CT, zz, b5, f5⟩ : KS), Value.slice ta tn tc)]).length := ⟨_, rfl⟩
        rw [← hln] at hyf
        subst hyf
        have FIN : Hid (TR w sv T hd key kb vl (.slice ya ln yc) (ks ++ [((⟨LV, kb2, CT, zz, b5, f5⟩ : KS), Value.slice ta tn tc)]) (w9.setCell ⟨w.heap.size + 2, 35, none⟩ (.slice ya ln yc)) b5 f5 ∧ (ks ++ [((⟨LV, kb2, CT, zz, b5, f5⟩ : KS), Value.slice ta tn tc)]).length = j + 1 ∧ manyS T U a3 e3 = ((ks ++ [((⟨LV, kb2, CT, zz, b5, f5⟩ : KS), Value.slice ta tn tc)]).map Prod.fst ++ (manyS T (U - (j + 1)) b5 f5).1, (manyS T (U - (j + 1)) b5 f5).2)) := by
          refine ⟨tr, by rw [List.length_append, HL.out]; rfl, ?_⟩
          rw [HMJ.out, show U - j = (U - (j + 1)) + 1 by omega, manyS_step, ← HR0.out, HRR.out]
          simp
        have HR : Hid _ := hr
        have kr : x4.cell? ⟨w.heap.size + 2, 35, none⟩ = some (.slice va vn vc) := by rw [XD4.out.row.cell]; exact towC_at _ _ _ _ HV
        have kq : w9.cell? ⟨w.heap.size + 2, 35, none⟩ = some (.slice va vn vc) := by rw [row1.cell]; exact towC_at _ _ _ _ HV
        have kf : w9.frozen? ⟨w.heap.size + 2, 35, none⟩ = false := row1.fr 35
        have LKC : (kdC LV (.slice ta tn tc) CT zz).length = 68 := by rw [kdC_len, HZ]
        clear hr row1 h1v tr hln O8 XD4
        go_upto_region 10 with (first
          | refine wpList_load_part rfl 112 (.tmp 8) rfl wr.heap.size 0 (kdC LV (.slice ta tn tc) CT zz) rfl RD4.out (by simp) Try.underlying112 rfl (Try.kdSz _ _ _ _ HZ) ?_
          | refine wpList_buildG (sl := 67) Try.underlying67 info155 (by decide) (by decide) rfl (.tmp 51) rfl (C := kdC LV (.slice ta tn tc) CT zz) rfl LKC ?_
          | refine wpList_appG (sl := 67) rfl (.tmp 50) (.tmp 52) rfl (v := .slice va vn vc) (u := .slice (some ⟨x4.heap.size, 0, none⟩) 1 1) (v' := .slice ya ln yc) (w' := w9) rfl rfl HR.out ?_)
        obtain ⟨wz, hwz⟩ : ∃ wz, wz = w9.setCell ⟨w.heap.size + 2, 35, none⟩ (.slice ya ln yc) := ⟨_, rfl⟩
        rw [← hwz] at FIN ⊢
        clear hwz kr kq kf HR
        go_wp2_with fail
        go_roundw
        case rel => exact ⟨j + 1, _, _, _, _, by omega, by go_num, FIN.out⟩
        case measure => simp [intOf]; omega
      · rw [decide_eq_false hgo] at HMO
        have hst : manyS T (U - j) ai ei = ([], ai, ei) := by
          by_cases q : ei = 0
          · have e0 : U - j = 0 := by
              rcases Nat.lt_or_ge j U with x | x
              · exact absurd ⟨q, x⟩ hgo
              · omega
            rw [e0]
            rfl
          · exact manyS_err q
        have SR : Hid (S.hd = hd ∧ S.kl = kb ∧ S.vl = vl ∧ S.ks = ks.map Prod.fst ∧ S.at_ = ai ∧ S.err = ei) := by
          have h9 := HMJ.out
          rw [HM.out, hst] at h9
          simp only [List.append_nil, Prod.mk.injEq] at h9
          rw [HSS.out]
          exact ⟨rfl, rfl, rfl, h9.1, h9.2.1, h9.2.2⟩
        have HE2 : E = endE T ai ei := by rw [HE.out, SR.out.2.2.2.2.1, SR.out.2.2.2.2.2]
        obtain ⟨va, vc, hvf⟩ := XJ.out.ml.form
        obtain ⟨vn, hvn⟩ : ∃ vn, vn = ks.length := ⟨_, rfl⟩
        rw [← hvn] at hvf
        subst hvf
        have TIS : Hid (TowIs wr w.heap.size S (towC hd key vl (.slice va vn vc))) := by
          refine ⟨key, .slice va vn vc, ks, by rw [SR.out.1, SR.out.2.2.1], ⟨XJ.out.ky.2, rfl⟩, by rw [SR.out.2.1]; exact XJ.out.ky.1, SR.out.2.2.2.1.symm, XJ.out.ml, fun g hg => Nat.le_trans (Nat.le_add_right _ 3) (XJ.out.nb g hg), fun k hk g hg => ⟨Nat.le_trans (Nat.le_add_right _ 3) (XJ.out.nk k hk g hg).1, (XJ.out.nk k hk g hg).2⟩⟩
        obtain ⟨C, hC⟩ : ∃ C, C = towC hd key vl (.slice va vn vc) := ⟨_, rfl⟩
        have LC : C.length = towZ.length := by rw [hC, towC_len, HV]; rfl
        have OC : Hid (∀ u ∈ C, u.oneCell' = true) := by rw [hC]; exact towC_one _ XJ.out.ky.2 _ rfl
        have RBC : Hid (Blk wr (w.heap.size + 2) C 69) := by rw [hC]; exact XJ.out.row
        rw [← hC] at TIS
        have RES : Hid _ := XJ.out.res
        have BE : Hid _ := XJ.out.be
        have HEN : Hid _ := xEnd_any XJ.out.rs
        rw [← HE2] at HEN
        clear hC hvn hst HE2 HMJ HL XJ
        go_upto_region 18 with (go_at_call 97; refine Calls.mono HMO.out ?_; rintro e wq ⟨rfl, hwq⟩; rw [hwq]; clear hwq wq)
        clear HMO
        go_wp2_with fail
        refine Calls.mono HEN.out ?_
        rintro e w7 ⟨rfl, n7, hw7⟩
        have c7 : Chg (fun _ => False) wr w7 := by rw [hw7]; exact drewN_chg wr n7 _
        have R7 : Hid _ := RES.out.keep c7 (fun e => e)
        have D7 : Hid _ := RBC.out.keep c7 (fun e => e)
        have T7 : Hid _ := TIS.out.fresh c7
        have BE7 : Hid (Below w.heap.size w w7) := BE.out.trans (c7.below BE.out.size (fun _ e => e.elim))
        clear hw7 c7 HEN RES RBC TIS BE
        by_cases he : E = 0
        · subst he
          go_wp2_with (first
            | (refine wpList_load_part rfl 69 (.tmp 5) rfl (w.heap.size + 2) 0 C rfl D7.out (by simp) Try.underlying69 rfl (Try.towZsz C LC) ?_)
            | (refine wpList_store_part rfl 69 (.tmp 2) (.tmp 61) rfl w.heap.size 0 C rfl rfl R7.out (by rw [LC, Nat.zero_add]; exact Nat.le_refl _) (Try.towZsz C LC) OC.out ?_; intro w8 b4 c4; rw [splice_all _ _ LC] at b4; have B4 : Hid _ := b4; have F4 : Hid _ := below_chg1 BE7.out c4 BE7.out.size (Nat.le_refl _); have T4 : Hid _ := T7.out.kept R7.out c4; clear b4 c4))
          exact bodyPost_ret (results_row2 rfl _ _ w.heap.size 69 C _ _ rfl B4.out Try.underlying69 rfl (Try.towZsz C LC) rfl) rfl ⟨C, rfl, F4.out, ⟨LC, OC.out⟩, by first | exact T4.out | exact ⟨T4.out, fun e => absurd rfl e⟩ | exact ⟨fun _ => T4.out, fun e => absurd rfl e⟩ | exact ⟨T4.out, trivial⟩⟩
        · have hen : (E != 0) = true := by simpa using he
          go_wp2_with (refine wpList_store_part rfl 69 (.tmp 2) (.tmp 59) rfl w.heap.size 0 towZ rfl rfl R7.out (Nat.le_of_eq (Nat.zero_add _)) (Try.towZsz _ rfl) towZ_one ?_; intro w8 b4 c4; rw [splice_all _ _ rfl] at b4; have B4 : Hid _ := b4; have F4 : Hid _ := below_chg1 BE7.out c4 BE7.out.size (Nat.le_refl _); clear b4 c4)
          exact bodyPost_ret (results_row2 rfl _ _ w.heap.size 69 towZ _ _ rfl B4.out Try.underlying69 rfl (Try.towZsz _ rfl) rfl) rfl ⟨towZ, rfl, F4.out, ⟨rfl, towZ_one⟩, fun e => absurd e he, fun _ => rfl⟩
end Go.Proofs.Ytkchmoapcmageaa
