/-
  CodecPages, walked.
-/
import Derived.Test.YtfkjgfelgiogeaaPgG
namespace Go.Proofs.Ytfkjgfelgiogeaa
open Go.RowKit

set_option maxRecDepth 100000 in
set_option maxHeartbeats 16000000 in
theorem pages_any {w : World} {P : Pg} {sv : Value} {T : List Int} (hP : PgIn w (fun g => g < w.heap.size) P) (hF : PgSm P) (hs : In w sv T) (hT : T.length ≤ 1048576) :
    Calls Try.prog 8 #[.agg P.cells.toArray, sv] w fun e w' => e = .returned (.bool true) ∧ Below w.heap.size w w' := by
  obtain ⟨X, hX⟩ : ∃ X, X = w.heap.size := ⟨_, rfl⟩
  obtain ⟨W, hW⟩ : ∃ W, W = w.alloc (.cells P.cells.toArray 51) := ⟨_, rfl⟩
  have hb : Below w.heap.size w W := by rw [hW]; exact (Below.refl _ _).alloc (Nat.le_refl _) _
  have HB : Hid _ := hb
  have B5 : Hid (Blk W X P.cells 51) := by rw [hW, hX]; exact Blk.made w _ 51
  have HP : Hid (PgIn W (fun g => g < W.heap.size) P) := hP.keep0 hb
  have HF : Hid _ := hF
  have HS : Hid (In W sv T) := hs.keep hb
  obtain ⟨sa, sc, hsf, _⟩ := hs.cap
  obtain ⟨n0, hn0⟩ : ∃ n, n = T.length := ⟨_, rfl⟩
  rw [← hn0] at hsf hT
  have HN0 : Hid _ := hn0
  subst hsf
  clear hP hF hb hs hn0
  go_enter Try.func8, Try.ntmps8
  go_upto_region 1 with fail
  rw [← hX, ← hW]
  have HX : Hid _ := hX
  clear hX hW
  have HC : Hid _ := roomy_any HS.out.src (by have := HN0.out; omega)
  rw [← HN0.out] at HC
  go_wp2_with fail
  refine Calls.mono HC.out ?_
  rintro e w1 ⟨ad, c1, rfl, m1⟩
  obtain ⟨M, hM⟩ : ∃ M, M = n0 + 2 := ⟨_, rfl⟩
  rw [← hM] at m1 ⊢
  obtain ⟨g, eg⟩ := Own.addrP m1.1 (by simp)
  injection eg with eg
  subst eg
  obtain ⟨cq, hcq1, hcq2⟩ : n0 ≤ c1 ∧ c1 ≤ 9223372036854775807 ∧ True := by
    obtain ⟨_, cap, e, h1, h2⟩ := m1.1.form2 (by simp)
    injection e with _ e2 e3
    subst e3
    rw [List.length_append, ← HN0.out] at h1
    exact ⟨by simp at h1; omega, h2, trivial⟩
  have BL1 : Hid (Below W.heap.size W w1) := m1.2.1
  have OW1 : Hid (Own w1 (.slice (some ⟨g, 0, none⟩) M c1) (T ++ [165, 90])) := m1.1
  have IN1 : Hid (In w1 (.slice (some ⟨g, 0, none⟩) n0 c1) T) := by
    have s1 := Own.front m1.1 c1 (by simp)
    rw [← HN0.out] at s1
    exact ⟨s1, HS.out.byt, HS.out.big, ⟨_, c1, by rw [← HN0.out], by rw [← HN0.out]; omega, hcq1⟩, fun k hk => m1.1.lt hk⟩
  have HMQ : Hid _ := hM
  have hMb : M ≤ 1048578 := by omega
  clear m1 hM HC hcq2
  go_wp2_with fail
  refine Calls.mono (pageCode_any IN1.out) ?_
  rintro e w2 ⟨C, rfl, bl2, hC, c1a, c1b⟩
  obtain ⟨E, hE⟩ : ∃ E, E = pageE T := ⟨_, rfl⟩
  rw [← hE]
  have HE : Hid _ := hE
  have LC := hC.1
  have OC : Hid _ := hC.2
  have BL2 : Hid (Below W.heap.size W w2) := BL1.out.trans (bl2.mono BL1.out.size)
  have OW2 : Hid (Own w2 (.slice (some ⟨g, 0, none⟩) M c1) (T ++ [165, 90])) := OW1.out.kept (Chg.of_below bl2 (fun _ => False)) (fun _ _ e => e)
  have CA : Hid (pageE T = 0 → ∃ B, PgIs w2 B (pageS T 0 0) C) := fun e => ⟨_, c1a e⟩
  have CB : Hid _ := c1b
  clear bl2 hC c1a c1b hE IN1 OW1 BL1
  go_upto_region 3 with (refine wpList_store_part rfl 51 (.tmp 7) (.tmp 23) rfl w2.heap.size 0 C rfl rfl (t := 51) ⟨heap_alloc_new _ _⟩ (by rw [LC]; simp [pgZ, pgC]) (Try.pgZsz C LC) OC.out ?_; intro w3 hw4 hc4; rw [splice_all _ _ (by rw [LC]; simp [pgZ, pgC])] at hw4; have D3 : Hid _ := hw4; have c8 : Chg (fun _ => False) w2 w3 := ((Chg.refl (fun _ => False) w2).alloc _).trans hc4 (fun i e => .inr (by omega)); have C3 : Hid _ := c8; clear hw4 hc4 c8)
  have BL3 : Hid (Below W.heap.size W w3) := BL2.out.trans (C3.out.below BL2.out.size (fun _ e => e.elim))
  have OW3 : Hid (Own w3 (.slice (some ⟨g, 0, none⟩) M c1) (T ++ [165, 90])) := OW2.out.kept C3.out (fun _ _ e => e)
  have CA3 : Hid (pageE T = 0 → ∃ B, PgIs w3 B (pageS T 0 0) C) := fun e => by obtain ⟨B, h9⟩ := CA.out e; exact ⟨B, h9.fresh C3.out⟩
  clear BL2 OW2 CA C3
  go_wp2_with fail
  refine Calls.mono (xReadPage_any (HS.out.keep BL3.out)) ?_
  rintro e w4 ⟨D, rfl, bl2, hC, c1a, c1b⟩
  rw [← HE.out]
  have LD := hC.1
  have OD : Hid _ := hC.2
  have c4 : Chg (fun _ => False) w3 w4 := Chg.of_below bl2 (fun _ => False)
  have BL4 : Hid (Below W.heap.size W w4) := BL3.out.trans (bl2.mono BL3.out.size)
  have OW4 : Hid (Own w4 (.slice (some ⟨g, 0, none⟩) M c1) (T ++ [165, 90])) := OW3.out.kept c4 (fun _ _ e => e)
  have D4 : Hid _ := D3.out.keep c4 (fun e => e)
  have CA4 : Hid (pageE T = 0 → ∃ B, PgIs w4 B (pageS T 0 0) C) := fun e => by obtain ⟨B, h9⟩ := CA3.out e; exact ⟨B, h9.fresh c4⟩
  have DA : Hid _ := c1a
  have DB : Hid _ := c1b
  clear bl2 hC c1a c1b c4 OW3 BL3 D3 CA3
  go_upto_region 4 with (refine wpList_store_part rfl 51 (.tmp 9) (.tmp 28) rfl w4.heap.size 0 D rfl rfl (t := 51) ⟨heap_alloc_new _ _⟩ (by rw [LD]; simp [pgZ, pgC]) (Try.pgZsz D LD) OD.out ?_; intro w5 hw4 hc4; rw [splice_all _ _ (by rw [LD]; simp [pgZ, pgC])] at hw4; have F5 : Hid _ := hw4; have c8 : Chg (fun _ => False) w4 w5 := ((Chg.refl (fun _ => False) w4).alloc _).trans hc4 (fun i e => .inr (by omega)); have C5 : Hid _ := c8; clear hw4 hc4 c8)
  have BL5 : Hid (Below W.heap.size W w5) := BL4.out.trans (C5.out.below BL4.out.size (fun _ e => e.elim))
  have OW5 : Hid (Own w5 (.slice (some ⟨g, 0, none⟩) M c1) (T ++ [165, 90])) := OW4.out.kept C5.out (fun _ _ e => e)
  have D5 : Hid _ := D4.out.keep C5.out (fun e => e)
  have TP := two_pages (w := w5) (T := T) (C := C) (D := D) (fun e => by obtain ⟨B, h9⟩ := CA4.out e; exact ⟨B, h9.fresh C5.out⟩) CB.out (fun e => by obtain ⟨B, h9⟩ := DA.out e; exact ⟨B, h9.fresh C5.out⟩) DB.out
  clear CA4 CB DA DB OW4 BL4 D4 C5
  obtain ⟨R, A1, A2, A3, d1, d2, d3, eC, eD, hR, r1, r2, r3⟩ := TP
  have ZC := Try.pgZsz C LC
  have ZD := Try.pgZsz D LD
  subst eC eD
  have R1 : Hid _ := hR
  have R2 : Hid (RowsIn w5 (fun _ => True) A1 R.mn 2 (fun i => (R.ms i).cells)) := r1
  have R3 : Hid (RowsIn w5 (fun _ => True) A2 R.vn 67 (fun i => (R.vs i).cells)) := r2
  have R4 : Hid (RowsIn w5 (fun _ => True) A3 R.pn 66 (fun i => (R.ps i).cells)) := r3
  clear hR r1 r2 r3 OC OD
  go_wp2_with (first
    | (go_at_call 11; refine Calls.mono (untouched_P (by rw [HMQ.out, HN0.out]) (HS.out.keep BL5.out).src OW5.out (by have := HN0.out; omega)) ?_; rintro e w6 ⟨rfl, n6, hw6⟩; have BL6 : Hid (Below w5.heap.size w5 w6) := (by rw [hw6]; exact below_drewN (Below.refl _ _) n6); have C6 : Hid (Chg (fun _ => False) w5 w6) := Chg.of_below BL6.out (fun _ => False); clear hw6)
    | refine wpList_load_g (by rfl) 51 (.tmp 7) rfl w2.heap.size 0 (Pg.at R A1 A2 A3 d1 d2 d3).cells rfl (D5.out.keep C6.out (fun e => e)) (by simp) Try.underlying51 rfl ZC ?_
    | refine wpList_load_g (by rfl) 51 (.tmp 9) rfl w4.heap.size 0 R.cells rfl (F5.out.keep C6.out (fun e => e)) (by simp) Try.underlying51 rfl ZD ?_)
  refine Calls.mono (samePage_at (R1.out.kept C6.out (fun _ _ e => e)) (RowsIn.kept R2.out C6.out (fun _ _ e => e)) (RowsIn.kept R3.out C6.out (fun _ _ e => e)) (RowsIn.kept R4.out C6.out (fun _ _ e => e))) ?_
  rintro e w7 ⟨rfl, bl7⟩
  have BL7 : Hid (Below W.heap.size W w7) := (BL5.out.trans (BL6.out.mono BL5.out.size)).trans (bl7.mono (Nat.le_trans BL5.out.size BL6.out.size))
  clear bl7 BL5 BL6 C6 OW5 D5 F5 R1 R2 R3 R4 ZC ZD LC LD
  have G7 : Hid (Blk w7 X P.cells 51) := B5.out.keep0 BL7.out
  go_wp2_with (refine wpList_load_part rfl 51 (.tmp 2) rfl X 0 P.cells rfl G7.out (by simp) Try.underlying51 rfl Try.size51 ?_)
  refine Calls.mono (copyPage_any (HP.out.keep0 BL7.out) HF.out) ?_
  rintro e w8 ⟨a1, a2, a3, k1, k2, k3, rfl, bl8, q8⟩
  have BL8 : Hid (Below W.heap.size W w8) := BL7.out.trans (bl8.mono BL7.out.size)
  have Q8 : Hid _ := q8
  clear bl8 q8 BL7 G7
  obtain ⟨C, hC⟩ : ∃ C, C = (P.at a1 a2 a3 k1 k2 k3).cells := ⟨_, rfl⟩
  rw [← hC]
  have HCC : Hid _ := hC
  have LC : C.length = pgZ.length := by rw [hC]; rfl
  have OC : Hid (∀ u ∈ C, u.oneCell' = true) := by rw [hC]; exact Pg.oneK _
  clear hC
  go_upto_region 7 with (refine wpList_store_part rfl 51 (.tmp 11) (.tmp 46) rfl w8.heap.size 0 C rfl rfl (t := 51) ⟨heap_alloc_new _ _⟩ (by rw [LC]; simp [pgZ, pgC]) (Try.pgZsz C LC) OC.out ?_; intro w9 hw4 hc4; rw [splice_all _ _ (by rw [LC]; simp [pgZ, pgC])] at hw4; have D9 : Hid _ := hw4; have c8 : Chg (fun _ => False) w8 w9 := ((Chg.refl (fun _ => False) w8).alloc _).trans hc4 (fun i e => .inr (by omega)); have C9 : Hid _ := c8; clear hw4 hc4 c8)
  have BL9 : Hid (Below W.heap.size W w9) := BL8.out.trans (C9.out.below BL8.out.size (fun _ e => e.elim))
  have Q9 : Hid _ := Q8.out.kept C9.out (fun _ _ e => e)
  have G9 : Hid (Blk w9 X P.cells 51) := B5.out.keep0 BL9.out
  have HW8 : Hid (W.heap.size ≤ w8.heap.size) := BL8.out.size
  have L9 : Hid (w8.heap.size < w9.heap.size) := D9.out.lt
  clear C9 BL8 Q8 G9
  have hPk : Hid (PgIn w9 (fun g => g < w9.heap.size) P) := HP.out.keep0 BL9.out
  have XP : Hid _ := twiceG (c := P.mc) Try.underlying45 info124 (by kernel_rfl) (by decide) hPk.out.mrow (fun i _ => Mk.lenK _) (fun i _ => Mk.one _) (by have := HF.out.mn; omega) (by have := HF.out.mn; omega) (E := [.int .u64 0, .int .i64 555]) rfl (by intro u hu; simp at hu; rcases hu with rfl | rfl <;> rfl)
  obtain ⟨xm, hxm⟩ : ∃ xm, xm = Value.slice P.ma P.mn P.mc := ⟨_, rfl⟩
  obtain ⟨ya, yn, yc, wq, gm, cm, w10, q1, q2, q3, q4, q5, q6, q7⟩ := XP.out
  rw [← hxm] at q1
  have XQ1 : Hid _ := q1
  have XQ2 : Hid _ := q2
  have GQM : Hid _ := q3
  have CPM : Hid (cm ≤ 9223372036854775807) := q5
  have hcapM : P.mn + 1 ≤ cm := q4
  have GBM : Hid (W.heap.size ≤ gm) := Nat.le_trans BL9.out.size q6
  have CQ : Hid (Chg (fun _ => False) w9 w10) := q7
  have GZM : Hid (w9.heap.size ≤ gm) := q6
  have BL10 : Hid (Below W.heap.size W w10) := BL9.out.trans (q7.below BL9.out.size (fun _ e => e.elim))
  have kx : (w9.alloc (.cells #[] 112)).cell? ⟨X, 3, none⟩ = some xm := by rw [hxm]; exact ((B5.out.keep0 BL9.out).alloc _).cell 3
  clear XP hPk q1 q2 q3 q4 q5 q6 q7 hxm
  go_upto_region 8 with (first
    | refine wpList_appG (sl := 45) rfl (.tmp 47) (.tmp 49) rfl (v := .slice (some ⟨w9.heap.size, 0, none⟩) 0 0) (u := xm) (v' := .slice ya yn yc) (w' := wq) rfl rfl XQ1.out ?_
    | refine wpList_appG (sl := 45) rfl (.tmp 50) (.tmp 52) rfl (v := .slice ya yn yc) (u := .slice (some ⟨wq.heap.size, 0, none⟩) 1 1) (v' := .slice (some ⟨gm, 0, none⟩) (P.mn + 1) cm) (w' := w10) rfl rfl XQ2.out ?_)
  clear XQ1 XQ2 kx
  have DC : Hid (Blk w9 w8.heap.size (P.at a1 a2 a3 k1 k2 k3).cells 51) := by have h9 := D9.out; rw [HCC.out] at h9; exact h9
  have GLM : Hid (w8.heap.size < gm) := Nat.lt_of_lt_of_le L9.out GZM.out
  clear D9
  have kx : w10.cell? ⟨X, 3, none⟩ = some (.slice P.ma P.mn P.mc) := (B5.out.keep0 BL10.out).cell 3
  have DD : Hid (Blk w10 w8.heap.size (P.at a1 a2 a3 k1 k2 k3).cells 51) := DC.out.keep CQ.out (fun e => e)
  have ky : w10.cell? ⟨w8.heap.size, 3, none⟩ = some (.slice a1 P.mn k1) := DD.out.cell 3
  have kf : w10.frozen? ⟨w8.heap.size, 3, none⟩ = false := DD.out.fr 3
  have hPN := HF.out.mn
  have hcp := CPM.out
  go_upto_region 9 with fail
  obtain ⟨w11, hw⟩ : ∃ w11 : World, w11 = w10.setCell ⟨w8.heap.size, 3, none⟩ (.slice (some ⟨gm, 0, none⟩) P.mn cm) := ⟨_, rfl⟩
  rw [← hw]
  have DN : Hid (Blk w11 w8.heap.size (P.at (some ⟨gm, 0, none⟩) a2 a3 cm k2 k3).cells 51) := by rw [hw]; exact DD.out.set 3 (.slice (some ⟨gm, 0, none⟩) P.mn cm)
  have cS : Hid (Chg (fun k => k = w8.heap.size) w10 w11) := by rw [hw]; exact (Chg.refl (fun k => k = w8.heap.size) w10).setCell (p := ⟨w8.heap.size, 3, none⟩) (.inl rfl) _
  have BL11 : Hid (Below W.heap.size W w11) := BL10.out.trans (cS.out.below BL10.out.size (fun k e => by have := HW8.out; omega))
  have GQN : Hid (GL w11 (.slice (some ⟨gm, 0, none⟩) (P.mn + 1) cm) 112 2 ((List.range P.mn).map (fun i => (P.ms i).cells) ++ [[.int .u64 0, .int .i64 555]])) := GQM.out.kept cS.out (fun k _ hk _ e => by simp [Value.ownBlock] at hk; have := GBM.out; have := GLM.out; omega)
  have QN : Hid (PgIn w11 (fun g => g < w8.heap.size) (P.at a1 a2 a3 k1 k2 k3)) := (Q9.out.kept CQ.out (fun _ _ e => e)).kept cS.out (fun k hk e => by omega)
  clear GQM Q9
  clear kx ky kf hw hPN hcp DD DC cS CQ
  have DC : Hid (Blk w11 w8.heap.size (P.at (some ⟨gm, 0, none⟩) a2 a3 cm k2 k3).cells 51) := DN.out
  clear DN
  have hPk : Hid (PgIn w11 (fun g => g < w11.heap.size) P) := HP.out.keep0 BL11.out
  have XP : Hid _ := twiceG (c := P.vc) Try.underlying46 info128 (by kernel_rfl) (by decide) hPk.out.vrow (fun i hi => Vs.lenK _ (hPk.out.vk i hi).2.1 (hPk.out.vk i hi).2.2.2) (fun i _ => vsC_one _ _ _ _) (by have := HF.out.vn; omega) (by have := HF.out.vn; omega) (E := (vsC 555 (List.replicate 33 0) 0 (List.replicate 32 0))) rfl (vsC_one _ _ _ _)
  obtain ⟨xm, hxm⟩ : ∃ xm, xm = Value.slice P.va P.vn P.vc := ⟨_, rfl⟩
  obtain ⟨ya, yn, yc, wq, gv, cv, w12, q1, q2, q3, q4, q5, q6, q7⟩ := XP.out
  rw [← hxm] at q1
  have XQ1 : Hid _ := q1
  have XQ2 : Hid _ := q2
  have GQV : Hid _ := q3
  have CPV : Hid (cv ≤ 9223372036854775807) := q5
  have hcapV : P.vn + 1 ≤ cv := q4
  have GBV : Hid (W.heap.size ≤ gv) := Nat.le_trans BL11.out.size q6
  have CQ : Hid (Chg (fun _ => False) w11 w12) := q7
  have GZV : Hid (w11.heap.size ≤ gv) := q6
  have BL12 : Hid (Below W.heap.size W w12) := BL11.out.trans (q7.below BL11.out.size (fun _ e => e.elim))
  have kx : (w11.alloc (.cells #[] 116)).cell? ⟨X, 4, none⟩ = some xm := by rw [hxm]; exact ((B5.out.keep0 BL11.out).alloc _).cell 4
  clear XP hPk q1 q2 q3 q4 q5 q6 q7 hxm
  go_upto_region 10 with (first
    | refine wpList_appG (sl := 46) rfl (.tmp 60) (.tmp 62) rfl (v := .slice (some ⟨w11.heap.size, 0, none⟩) 0 0) (u := xm) (v' := .slice ya yn yc) (w' := wq) rfl rfl XQ1.out ?_
    | refine wpList_appG (sl := 46) rfl (.tmp 63) (.tmp 65) rfl (v := .slice ya yn yc) (u := .slice (some ⟨wq.heap.size, 0, none⟩) 1 1) (v' := .slice (some ⟨gv, 0, none⟩) (P.vn + 1) cv) (w' := w12) rfl rfl XQ2.out ?_)
  clear XQ1 XQ2 kx
  have GLV : Hid (w8.heap.size < gv) := Nat.lt_of_lt_of_le DC.out.lt GZV.out
  have kx : w12.cell? ⟨X, 4, none⟩ = some (.slice P.va P.vn P.vc) := (B5.out.keep0 BL12.out).cell 4
  have DD : Hid (Blk w12 w8.heap.size (P.at (some ⟨gm, 0, none⟩) a2 a3 cm k2 k3).cells 51) := DC.out.keep CQ.out (fun e => e)
  have ky : w12.cell? ⟨w8.heap.size, 4, none⟩ = some (.slice a2 P.vn k2) := DD.out.cell 4
  have kf : w12.frozen? ⟨w8.heap.size, 4, none⟩ = false := DD.out.fr 4
  have hPN := HF.out.vn
  have hcp := CPV.out
  go_upto_region 11 with fail
  obtain ⟨w13, hw⟩ : ∃ w13 : World, w13 = w12.setCell ⟨w8.heap.size, 4, none⟩ (.slice (some ⟨gv, 0, none⟩) P.vn cv) := ⟨_, rfl⟩
  rw [← hw]
  have DN : Hid (Blk w13 w8.heap.size (P.at (some ⟨gm, 0, none⟩) (some ⟨gv, 0, none⟩) a3 cm cv k3).cells 51) := by rw [hw]; exact DD.out.set 4 (.slice (some ⟨gv, 0, none⟩) P.vn cv)
  have cS : Hid (Chg (fun k => k = w8.heap.size) w12 w13) := by rw [hw]; exact (Chg.refl (fun k => k = w8.heap.size) w12).setCell (p := ⟨w8.heap.size, 4, none⟩) (.inl rfl) _
  have BL13 : Hid (Below W.heap.size W w13) := BL12.out.trans (cS.out.below BL12.out.size (fun k e => by have := HW8.out; omega))
  have GQW : Hid (GL w13 (.slice (some ⟨gv, 0, none⟩) (P.vn + 1) cv) 116 67 ((List.range P.vn).map (fun i => (P.vs i).cells) ++ [(vsC 555 (List.replicate 33 0) 0 (List.replicate 32 0))])) := GQV.out.kept cS.out (fun k _ hk _ e => by simp [Value.ownBlock] at hk; have := GLV.out; omega)
  have GQX : Hid (GL w13 (.slice (some ⟨gm, 0, none⟩) (P.mn + 1) cm) 112 2 ((List.range P.mn).map (fun i => (P.ms i).cells) ++ [[.int .u64 0, .int .i64 555]])) := (GQN.out.fresh CQ.out).kept cS.out (fun k _ hk _ e => by simp [Value.ownBlock] at hk; have := GLM.out; omega)
  have QX : Hid (PgIn w13 (fun g => g < w8.heap.size) (P.at a1 a2 a3 k1 k2 k3)) := (QN.out.kept CQ.out (fun _ _ e => e)).kept cS.out (fun k hk e => by omega)
  clear GQV GQN QN
  clear kx ky kf hw hPN hcp DD DC cS CQ
  have DC : Hid (Blk w13 w8.heap.size (P.at (some ⟨gm, 0, none⟩) (some ⟨gv, 0, none⟩) a3 cm cv k3).cells 51) := DN.out
  clear DN
  obtain ⟨PC, hPC⟩ : ∃ PC, PC = P.at (some ⟨gm, 0, none⟩) (some ⟨gv, 0, none⟩) a3 cm cv k3 := ⟨_, rfl⟩
  have LGM : Hid (gm < w13.heap.size) := by obtain ⟨_, h9⟩ := GQX.out.blk (g := gm) rfl; exact (Array.getElem?_eq_some_iff.1 h9).1
  have LGV : Hid (gv < w13.heap.size) := by obtain ⟨_, h9⟩ := GQW.out.blk (g := gv) rfl; exact (Array.getElem?_eq_some_iff.1 h9).1
  have PI : Hid (PgIn w13 (fun g => g < w13.heap.size) PC) := by
    rw [hPC]
    exact HP.out.nm.in_ ((frontG GQX.out).1.mono (fun k e => by have := LGM.out; omega)) ((frontG GQW.out).1.mono (fun k e => by have := LGV.out; omega)) (QX.out.prow.mono (fun k e => by have := DC.out.lt; omega))
  have PS : Hid (PgSm PC) := by rw [hPC]; exact ⟨HF.out.mn, HF.out.vn, HF.out.pn⟩
  have PBI : Hid (PC.bytesI = P.bytesI) := by rw [hPC]; rfl
  have DP : Hid (Blk w13 w8.heap.size PC.cells 51) := by rw [hPC]; exact DC.out
  have ZP : (Try.prog.info? 51).map (·.size) = some PC.cells.length := by rw [hPC]; exact Try.size51
  have HPC : Hid _ := hPC
  clear hPC DC LGM LGV
  go_wp2_with (refine wpList_load_part rfl 51 (.tmp 11) rfl w8.heap.size 0 PC.cells rfl DP.out (by simp) Try.underlying51 rfl ZP ?_)
  refine Calls.mono (cPageI_any PI.out PS.out) ?_
  rintro e w14 ⟨b, rfl, mb⟩
  rw [PBI.out] at mb
  have BL14 : Hid (Below W.heap.size W w14) := BL13.out.trans (mb.2.1.mono BL13.out.size)
  have OB : Hid (Own w14 b P.bytesI) := mb.1
  obtain ⟨bg, bc, hbf⟩ := mb.1.form
  obtain ⟨bn, hbn⟩ : ∃ bn, bn = P.bytesI.length := ⟨_, rfl⟩
  rw [← hbn] at hbf
  subst hbf
  have HBN : Hid _ := hbn
  have c14 : Hid (Chg (fun _ => False) w13 w14) := Chg.of_below mb.2.1 (fun _ => False)
  clear mb hbn
  have DQ : Hid (Blk w14 w8.heap.size PC.cells 51) := DP.out.keep c14.out (fun e => e)
  have GX : Hid (Blk w14 X P.cells 51) := B5.out.keep0 BL14.out
  have kx3 : w14.cell? ⟨X, 3, none⟩ = some (.slice P.ma P.mn P.mc) := GX.out.cell 3
  have kx4 : w14.cell? ⟨X, 4, none⟩ = some (.slice P.va P.vn P.vc) := GX.out.cell 4
  have hx3 := ix_at Try.underlying45 Try.elem45 Try.so124 (A := some ⟨gm, 0, none⟩) (n := P.mn + 1) (c := cm) (j := P.mn) rfl (by omega)
  have hx4 := ix_at Try.underlying46 Try.elem46 Try.so128 (A := some ⟨gv, 0, none⟩) (n := P.vn + 1) (c := cv) (j := P.vn) rfl (by omega)
  have kl3 : w14.cell? ⟨gm, P.mn * 2 + 1, none⟩ = some (.int .i64 555) :=
     rangeAt_kept (frontG GQX.out).2 c14.out (fun e => e) 1 _ rfl
  have kl4 : w14.cell? ⟨gv, P.vn * 67, none⟩ = some (.int .u64 555) :=
     rangeAt_kept (frontG GQW.out).2 c14.out (fun e => e) 0 _ rfl
  go_wp2_with (first
    | refine wpList_load_g (by rfl) 51 (.tmp 11) rfl w8.heap.size 0 PC.cells rfl DQ.out (by simp) Try.underlying51 rfl ZP ?_
    | refine wpList_load_g (by rfl) 51 (.tmp 2) rfl X 0 P.cells rfl GX.out (by simp) Try.underlying51 rfl Try.size51 ?_)
  rw [HPC.out]
  refine Calls.mono (samePage_at (c1 := cm) (c2 := cv) (c3 := k3) ((HP.out.keep0 BL14.out)) ((RowsIn.kept (frontG GQX.out).1 c14.out (fun _ _ e => e)).mono (fun _ _ => True.intro)) ((RowsIn.kept (frontG GQW.out).1 c14.out (fun _ _ e => e)).mono (fun _ _ => True.intro)) ((RowsIn.kept QX.out.prow c14.out (fun _ _ e => e)).mono (fun _ _ => True.intro))) ?_
  rintro e w15 ⟨rfl, bl⟩
  have BL15 : Hid (Below W.heap.size W w15) := BL14.out.trans (bl.mono BL14.out.size)
  have OB15 : Hid (Own w15 (.slice bg bn bc) P.bytesI) := OB.out.kept (Chg.of_below bl (fun _ => False)) (fun _ _ e => e)
  have GY : Hid (Blk w15 X P.cells 51) := B5.out.keep0 BL15.out
  clear bl kx3 kx4 hx3 hx4 kl3 kl4 DQ GX OB GQX GQW QX DP
  go_wp2_with (refine wpList_load_part rfl 51 (.tmp 2) rfl X 0 P.cells rfl GY.out (by simp) Try.underlying51 rfl Try.size51 ?_)
  refine Calls.mono (xPage_any (HP.out.keep0 BL15.out) HF.out) ?_
  rintro e w16 ⟨u, rfl, mu⟩
  have BL16 : Hid (Below W.heap.size W w16) := BL15.out.trans (mu.2.1.mono BL15.out.size)
  have OU : Hid (Own w16 u P.bytesI) := mu.1
  have OB16 : Hid (Own w16 (.slice bg bn bc) P.bytesI) := OB15.out.kept (Chg.of_below mu.2.1 (fun _ => False)) (fun _ _ e => e)
  obtain ⟨ug, uc, huf⟩ := mu.1.form
  rw [← HBN.out] at huf
  subst huf
  clear mu OB15 GY
  have LN := (Pg.lenI HP.out HF.out).2
  have HCS : Hid _ := same_any (OB16.out.src) (OU.out.src) (by omega) (by omega)
  rw [decide_eq_true (rfl : P.bytesI = P.bytesI)] at HCS
  go_wp2_with fail
  refine Calls.mono HCS.out ?_
  rintro e w17 ⟨rfl, n7, hw⟩
  have F : Hid (Below w.heap.size w w17) := by
    rw [hw]
    exact HB.out.trans ((BL16.out.trans (below_drewN (Below.refl _ _) n7 |>.mono BL16.out.size)).mono HB.out.size)
  clear hw HCS
  go_wp2_with fail
  go_ret
  exact ⟨rfl, F.out⟩
end Go.Proofs.Ytfkjgfelgiogeaa
