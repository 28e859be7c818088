/-
  Leaves and forks, read by the reference.
-/
import Derived.Test.YtgmheipbcopajaaWhole
namespace Go.Proofs.Ytgmheipbcopajaa
open Go.RowKit

theorem putm (x y : List Int) (k n m : Nat) (hk : x.length = k) (hn : n = y.length + m) : splice (bs (x ++ List.replicate n 0)) k (bs y) = bs ((x ++ y) ++ List.replicate m 0) := by
  subst hk hn
  unfold splice
  rw [bs_app, List.take_append_of_le_length (by simp [bs]), List.take_of_length_le (by simp [bs]), List.drop_append, List.drop_eq_nil_of_le (by simp [bs])]
  simp [bs]


set_option maxRecDepth 100000 in
set_option maxHeartbeats 4000000 in
theorem leafRef_any {w : World} {s : Value} {T : List Int} (h : In w s T) :
    Calls Try.prog 37 #[s] w fun e w' => e = .returned (.tuple #[.agg (leafA T).toArray, .int .i64 (leafE T)]) ∧ Below w.heap.size w w' := by
  obtain ⟨W0, hW0⟩ : ∃ W0, W0 = (w.alloc (.cells leafZ.toArray 71)).alloc (.cells #[s, .int .i64 0, .int .i64 0] 64) := ⟨_, rfl⟩
  have hb1 : Below w.heap.size w (w.alloc (.cells leafZ.toArray 71)) := (Below.refl _ _).alloc (Nat.le_refl _) _
  have hb : Below w.heap.size w W0 := by rw [hW0]; exact hb1.alloc (by simp) _
  have A0 : At W0 W0 (w.heap.size + 1) 64 s T 0 0 := by
    have := In.at h 64 hb1
    rw [World.size_alloc, ← hW0] at this
    exact this
  have SW : W0.heap.size = w.heap.size + 2 := by rw [hW0]; simp
  have SL : W0.heap.size ≤ w.heap.size + 2 := Nat.le_of_eq SW
  obtain ⟨W1, hW1⟩ : ∃ W1, W1 = W0.alloc (.cells leafZ.toArray 71) := ⟨_, rfl⟩
  have B0 : Hid (Blk W1 w.heap.size leafZ 71) := by rw [hW1, hW0]; exact ((Blk.made w _ 71).alloc _).alloc _
  have D0 : Hid (Blk W1 (w.heap.size + 2) leafZ 71) := by
    have := Blk.made W0 leafZ 71
    rw [SW, ← hW1] at this
    exact this
  have A1 : Hid (At W0 W1 (w.heap.size + 1) 64 s T 0 0) := by rw [hW1]; exact A0.alloc _
  have KU : Hid _ := xUint_any A1.out.rp.1 maxN (by decide)
  obtain ⟨U, a1, e1, hu⟩ : ∃ U a1 e1, uintS T 0 0 maxN = (U, a1, e1) := ⟨_, _, _, rfl⟩
  have hS : leafS T 0 0 = (U, pad 32 (pL T a1 e1 32), pA T a1 e1 32, pE T a1 e1 32) := by simp only [leafS, hu]
  have SC : ∀ w', RS w' (w.heap.size + 1) 64 s T a1 e1 → _ := fun w' h => xSum_any h
  obtain ⟨z, hz⟩ : ∃ z, z = pad 32 (pL T a1 e1 32) := ⟨_, rfl⟩
  have HZ : z.length = 32 := by rw [hz]; exact pad_len (pL_len T a1 e1 32)
  obtain ⟨A, hA⟩ : ∃ A, A = pA T a1 e1 32 := ⟨_, rfl⟩
  obtain ⟨R, hR⟩ : ∃ R, R = pE T a1 e1 32 := ⟨_, rfl⟩
  rw [← hz, ← hA, ← hR] at hS
  simp only [← hz, ← hA, ← hR] at SC
  obtain ⟨E, hE⟩ : ∃ E, E = leafE T := ⟨_, rfl⟩
  have hE2 : E = endE T A R := by rw [hE, leafE, hS]
  have EC : ∀ w', RS w' (w.heap.size + 1) 64 s T A R → _ := fun w' h => xEnd_any h
  simp only [← hE2] at EC
  obtain ⟨C, hC⟩ : ∃ C, C = leafC U z := ⟨_, rfl⟩
  have LC : C.length = leafZ.length := by rw [hC]; simp [leafZ, leafC_len, HZ]
  have OCH : Hid (∀ u ∈ C, u.oneCell' = true) := by rw [hC]; exact leafC_one _ _
  have hCA : leafA T = orNone E C leafZ := by rw [hC, leafA, ← hE, hS]
  rw [hCA, ← hE]
  simp only [hu] at KU
  have HS : Hid _ := SC
  have HE : Hid _ := EC
  have HB : Hid _ := hb
  have HCC : Hid _ := hC
  have HW : Hid _ := hW1
  have HWW : Hid _ := hW0
  rw [hW1, hW0] at KU
  obtain ⟨a0, c0, hs, _⟩ := h.cap
  clear h hb1 hb A0 hu hS SC hz hA hR hE hE2 EC hC hCA hW1 hW0
  subst hs
  go_enter Try.func37, Try.ntmps37
  go_wp2_with fail
  refine Calls.mono KU.out ?_
  rintro e w1 ⟨rfl, r1⟩
  rw [← HWW.out, ← HW.out] at r1
  have A2 : Hid _ := A1.out.call r1
  have B2 : Hid _ := A1.out.blk' B0.out (by omega) r1
  have D2 : Hid _ := A1.out.blk' D0.out (by omega) r1
  have hc : w1.cell? ⟨w.heap.size + 2, 0, none⟩ = some (.int .u64 0) := D2.out.cell 0
  have hf : w1.frozen? ⟨w.heap.size + 2, 0, none⟩ = false := D2.out.fr 0
  clear r1 KU HW HWW A1 B0 D0
  go_wp2_with fail
  have A3 : Hid _ := A2.out.set (g := w.heap.size + 2) SL 0 (.int .u64 U)
  have D3 : Hid (Blk (w1.setCell ⟨w.heap.size + 2, 0, none⟩ (.int .u64 U)) (w.heap.size + 2) (leafC U (List.replicate 32 0)) 71) := D2.out.set 0 (.int .u64 U)
  have B3 : Hid _ := B2.out.keep ((Chg.refl (fun k => k = w.heap.size + 2) w1).setCell (p := ⟨w.heap.size + 2, 0, none⟩) (.inl rfl) (.int .u64 U)) (by omega)
  refine Calls.mono (HS.out _ A3.out.rp.1) ?_
  rintro e w2 ⟨rfl, r2⟩
  have A4 : Hid _ := A3.out.call r2
  have B4 : Hid _ := A3.out.blk' B3.out (by omega) r2
  have D4 : Hid _ := A3.out.blk' D3.out (by omega) r2
  clear r2 A2 A3 B2 B3 D2 D3 HS hc hf
  go_wp2_with (refine wpList_store_part rfl 31 (.tmp 15) (.tmp 14) rfl (w.heap.size + 2) 1 (bs z) rfl rfl D4.out (by simp [leafC, bs, HZ]) (Try.sumSz z HZ) (bs_one z) ?_; intro w3 b3 c3; rw [leafC_put _ _ _ (by simp [HZ]), ← HCC.out] at b3; have D5 : Hid _ := b3; have B5 : Hid _ := B4.out.keep c3 (by omega); have A5 : Hid _ := A4.out.chg c3 SL; clear b3 c3)
  refine Calls.mono (HE.out _ A5.out.rp.1) ?_
  rintro e w4 ⟨rfl, n, rfl⟩
  have A9 : Hid _ := At.drewN A5.out n
  have D9 : Hid _ := Blk.drewN D5.out n
  have B9 : Hid _ := Blk.drewN B5.out n
  obtain ⟨w4, hw4⟩ : ∃ w4, w4 = w3.drewN n := ⟨_, rfl⟩
  rw [← hw4] at A9 D9 B9 ⊢
  clear hw4 A4 A5 D4 D5 B4 B5 HE HCC
  by_cases he : E = 0
  · subst he
    go_wp2_with (first | (refine wpList_load_part rfl 71 (.tmp 5) rfl (w.heap.size + 2) 0 C rfl D9.out (by simp) Try.underlying71 rfl (Try.leafZsz C LC) ?_) | (refine wpList_store_part rfl 71 (.tmp 2) (.tmp 22) rfl w.heap.size 0 C rfl rfl B9.out (by rw [LC, Nat.zero_add]; exact Nat.le_refl _) (Try.leafZsz C LC) OCH.out ?_; intro wz b4 c4; rw [splice_all _ _ LC] at b4; have BZ : Hid _ := b4; have FZ : Hid _ := below_chg1 (At.done A9.out HB.out (by omega)) c4 (At.done A9.out HB.out (by omega)).size (Nat.le_refl _); clear b4 c4))
    exact bodyPost_ret (results_row2 rfl _ _ w.heap.size 71 C _ _ rfl BZ.out Try.underlying71 rfl (Try.leafZsz C LC) rfl) rfl ⟨by rw [orNone_yes]; rfl, FZ.out⟩
  · go_wp2_with (refine wpList_store_part rfl 71 (.tmp 2) (.tmp 20) rfl w.heap.size 0 leafZ rfl rfl B9.out (Nat.le_of_eq (Nat.zero_add _)) (Try.leafZsz _ rfl) leafZ_one ?_; intro wz b4 c4; rw [splice_all _ _ rfl] at b4; have BZ : Hid _ := b4; have FZ : Hid _ := below_chg1 (At.done A9.out HB.out (by omega)) c4 (At.done A9.out HB.out (by omega)).size (Nat.le_refl _); clear b4 c4)
    exact bodyPost_ret (results_row2 rfl _ _ w.heap.size 71 leafZ _ _ rfl BZ.out Try.underlying71 rfl (Try.leafZsz _ rfl) rfl) rfl ⟨by rw [orNone_no _ _ he]; rfl, FZ.out⟩

set_option maxRecDepth 100000 in
set_option maxHeartbeats 4000000 in
theorem forkRef_any {w : World} {s : Value} {T : List Int} (h : In w s T) :
    Calls Try.prog 38 #[s] w fun e w' => e = .returned (.tuple #[.agg (forkA T).toArray, .int .i64 (forkE T)]) ∧ Below w.heap.size w w' := by
  obtain ⟨W0, hW0⟩ : ∃ W0, W0 = (w.alloc (.cells forkZ.toArray 75)).alloc (.cells #[s, .int .i64 0, .int .i64 0] 64) := ⟨_, rfl⟩
  have hb1 : Below w.heap.size w (w.alloc (.cells forkZ.toArray 75)) := (Below.refl _ _).alloc (Nat.le_refl _) _
  have hb : Below w.heap.size w W0 := by rw [hW0]; exact hb1.alloc (by simp) _
  have A0 : At W0 W0 (w.heap.size + 1) 64 s T 0 0 := by
    have := In.at h 64 hb1
    rw [World.size_alloc, ← hW0] at this
    exact this
  have SW : W0.heap.size = w.heap.size + 2 := by rw [hW0]; simp
  have SL : W0.heap.size ≤ w.heap.size + 2 := Nat.le_of_eq SW
  obtain ⟨W1, hW1⟩ : ∃ W1, W1 = W0.alloc (.cells forkZ.toArray 75) := ⟨_, rfl⟩
  have B0 : Hid (Blk W1 w.heap.size forkZ 75) := by rw [hW1, hW0]; exact ((Blk.made w _ 75).alloc _).alloc _
  have D0 : Hid (Blk W1 (w.heap.size + 2) forkZ 75) := by
    have := Blk.made W0 forkZ 75
    rw [SW, ← hW1] at this
    exact this
  have A1 : Hid (At W0 W1 (w.heap.size + 1) 64 s T 0 0) := by rw [hW1]; exact A0.alloc _
  have KU : Hid _ := xAddr_any A1.out.rp.1
  obtain ⟨x1, hx1⟩ : ∃ x, x = pad 33 (pL T 0 0 33) := ⟨_, rfl⟩
  obtain ⟨a1, ha1⟩ : ∃ a, a = pA T 0 0 33 := ⟨_, rfl⟩
  obtain ⟨e1, he1⟩ : ∃ e, e = pE T 0 0 33 := ⟨_, rfl⟩
  obtain ⟨y1, hy1⟩ : ∃ x, x = pad 32 (pL T a1 e1 32) := ⟨_, rfl⟩
  obtain ⟨a2, ha2⟩ : ∃ a, a = pA T a1 e1 32 := ⟨_, rfl⟩
  obtain ⟨e2, he2⟩ : ∃ e, e = pE T a1 e1 32 := ⟨_, rfl⟩
  obtain ⟨x2, hx2⟩ : ∃ x, x = pad 33 (pL T a2 e2 33) := ⟨_, rfl⟩
  obtain ⟨a3, ha3⟩ : ∃ a, a = pA T a2 e2 33 := ⟨_, rfl⟩
  obtain ⟨e3, he3⟩ : ∃ e, e = pE T a2 e2 33 := ⟨_, rfl⟩
  obtain ⟨y2, hy2⟩ : ∃ x, x = pad 32 (pL T a3 e3 32) := ⟨_, rfl⟩
  obtain ⟨A, hA⟩ : ∃ a, a = pA T a3 e3 32 := ⟨_, rfl⟩
  obtain ⟨R, hR⟩ : ∃ e, e = pE T a3 e3 32 := ⟨_, rfl⟩
  have hS : forkS T 0 0 = ((x1 ++ y1) ++ (x2 ++ y2), A, R) := by
    simp only [forkS, limbS, ← hx1, ← ha1, ← he1, ← hy1, ← ha2, ← he2, ← hx2, ← ha3, ← he3, ← hy2, ← hA, ← hR]
  have X1 : x1.length = 33 := by rw [hx1]; exact pad_len (pL_len T 0 0 33)
  have Y1 : y1.length = 32 := by rw [hy1]; exact pad_len (pL_len T a1 e1 32)
  have X2 : x2.length = 33 := by rw [hx2]; exact pad_len (pL_len T a2 e2 33)
  have Y2 : y2.length = 32 := by rw [hy2]; exact pad_len (pL_len T a3 e3 32)
  have S1 : ∀ w', RS w' (w.heap.size + 1) 64 s T a1 e1 → _ := fun w' h => xSum_any h
  have S2 : ∀ w', RS w' (w.heap.size + 1) 64 s T a2 e2 → _ := fun w' h => xAddr_any h
  have S3 : ∀ w', RS w' (w.heap.size + 1) 64 s T a3 e3 → _ := fun w' h => xSum_any h
  simp only [← hy1, ← ha2, ← he2] at S1
  simp only [← hx2, ← ha3, ← he3] at S2
  simp only [← hy2, ← hA, ← hR] at S3
  obtain ⟨E, hE⟩ : ∃ E, E = forkE T := ⟨_, rfl⟩
  have hE2 : E = endE T A R := by rw [hE, forkE, hS]
  have EC : ∀ w', RS w' (w.heap.size + 1) 64 s T A R → _ := fun w' h => xEnd_any h
  simp only [← hE2] at EC
  obtain ⟨C, hC⟩ : ∃ C, C = bs ((x1 ++ y1) ++ (x2 ++ y2)) := ⟨_, rfl⟩
  have LC : C.length = forkZ.length := by rw [hC]; simp [forkZ, bs, X1, X2, Y1, Y2]
  have OCH : Hid (∀ u ∈ C, u.oneCell' = true) := by rw [hC]; exact bs_one _
  have hCA : forkA T = orNone E C forkZ := by rw [hC, forkA, ← hE, hS]
  rw [hCA, ← hE]
  simp only [← hx1, ← ha1, ← he1] at KU
  have HS1 : Hid _ := S1
  have HS2 : Hid _ := S2
  have HS3 : Hid _ := S3
  have HE : Hid _ := EC
  have HB : Hid _ := hb
  have HW : Hid _ := hW1
  have HWW : Hid _ := hW0
  rw [hW1, hW0] at KU
  have Q1 : Hid (splice forkZ 0 (bs x1) = bs (x1 ++ List.replicate 97 0)) := put0 x1 130 97 (by rw [X1])
  have Q2 : Hid (splice (bs (x1 ++ List.replicate 97 0)) 33 (bs y1) = bs ((x1 ++ y1) ++ List.replicate 65 0)) := putm x1 y1 33 97 65 X1 (by rw [Y1])
  have Q3 : Hid (splice (bs ((x1 ++ y1) ++ List.replicate 65 0)) 65 (bs x2) = bs (((x1 ++ y1) ++ x2) ++ List.replicate 32 0)) := putm (x1 ++ y1) x2 65 65 32 (by simp [X1, Y1]) (by rw [X2])
  have q4 : splice (bs (((x1 ++ y1) ++ x2) ++ List.replicate 32 0)) 98 (bs y2) = C := by
    rw [put1 _ y2 _ 98 (by simp [X1, Y1, X2]) (by simp [Y2]), hC]
    simp only [List.append_assoc]
  have Q4 : Hid _ := q4
  obtain ⟨a0, c0, hs, _⟩ := h.cap
  clear h hb1 hb A0 hS hx1 ha1 he1 hy1 ha2 he2 hx2 ha3 he3 hy2 hA hR S1 S2 S3 hE hE2 EC hC hCA q4 hW1 hW0
  subst hs
  obtain ⟨c1, hc1⟩ : ∃ c, c = bs (x1 ++ List.replicate 97 0) := ⟨_, rfl⟩
  obtain ⟨c2, hc2⟩ : ∃ c, c = bs ((x1 ++ y1) ++ List.replicate 65 0) := ⟨_, rfl⟩
  obtain ⟨c3, hc3⟩ : ∃ c, c = bs (((x1 ++ y1) ++ x2) ++ List.replicate 32 0) := ⟨_, rfl⟩
  rw [← hc1] at Q1 Q2
  rw [← hc2] at Q2 Q3
  rw [← hc3] at Q3 Q4
  have L1 : c1.length = 130 := by rw [hc1]; simp [bs, X1]
  have L2 : c2.length = 130 := by rw [hc2]; simp [bs, X1, Y1]
  have L3 : c3.length = 130 := by rw [hc3]; simp [bs, X1, Y1, X2]
  have LZ : forkZ.length = 130 := by simp [forkZ, bs]
  clear hc1 hc2 hc3
  go_enter Try.func38, Try.ntmps38
  go_wp2_with fail
  refine Calls.mono KU.out ?_
  rintro e w1 ⟨rfl, r1⟩
  rw [← HWW.out, ← HW.out] at r1
  have A2 : Hid _ := A1.out.call r1
  have B2 : Hid _ := A1.out.blk' B0.out (by omega) r1
  have D2 : Hid _ := A1.out.blk' D0.out (by omega) r1
  clear r1 KU HW HWW A1 B0 D0
  go_wp2_with (refine wpList_store_part rfl 33 (.tmp 13) (.tmp 11) rfl (w.heap.size + 2) 0 (bs x1) rfl rfl D2.out (by rw [bs_len, X1, LZ]; decide) (Try.addrSz x1 X1) (bs_one x1) ?_; intro v3 b3 c3; rw [Q1.out] at b3; have D3a : Hid _ := b3; have B3a : Hid _ := B2.out.keep c3 (by omega); have A3a : Hid _ := A2.out.chg c3 SL; clear b3 c3 A2 B2 D2)
  refine Calls.mono (HS1.out _ A3a.out.rp.1) ?_
  rintro e w3 ⟨rfl, r2⟩
  have A3 : Hid _ := A3a.out.call r2
  have B3 : Hid _ := A3a.out.blk' B3a.out (by omega) r2
  have D3 : Hid _ := A3a.out.blk' D3a.out (by omega) r2
  clear r2 A3a B3a D3a
  go_wp2_with (refine wpList_store_part rfl 31 (.tmp 17) (.tmp 15) rfl (w.heap.size + 2) 33 (bs y1) rfl rfl D3.out (by rw [bs_len, Y1, L1]; decide) (Try.sumSz y1 Y1) (bs_one y1) ?_; intro v4 b3 c3; rw [Q2.out] at b3; have D4a : Hid _ := b3; have B4a : Hid _ := B3.out.keep c3 (by omega); have A4a : Hid _ := A3.out.chg c3 SL; clear b3 c3 A3 B3 D3)
  refine Calls.mono (HS2.out _ A4a.out.rp.1) ?_
  rintro e w4 ⟨rfl, r2⟩
  have A4 : Hid _ := A4a.out.call r2
  have B4 : Hid _ := A4a.out.blk' B4a.out (by omega) r2
  have D4 : Hid _ := A4a.out.blk' D4a.out (by omega) r2
  clear r2 A4a B4a D4a
  go_wp2_with (refine wpList_store_part rfl 33 (.tmp 21) (.tmp 19) rfl (w.heap.size + 2) 65 (bs x2) rfl rfl D4.out (by rw [bs_len, X2, L2]; decide) (Try.addrSz x2 X2) (bs_one x2) ?_; intro v5 b3 c3; rw [Q3.out] at b3; have D5a : Hid _ := b3; have B5a : Hid _ := B4.out.keep c3 (by omega); have A5a : Hid _ := A4.out.chg c3 SL; clear b3 c3 A4 B4 D4)
  refine Calls.mono (HS3.out _ A5a.out.rp.1) ?_
  rintro e w5 ⟨rfl, r2⟩
  have A5 : Hid _ := A5a.out.call r2
  have B5 : Hid _ := A5a.out.blk' B5a.out (by omega) r2
  have D5 : Hid _ := A5a.out.blk' D5a.out (by omega) r2
  clear r2 A5a B5a D5a
  go_wp2_with (refine wpList_store_part rfl 31 (.tmp 25) (.tmp 23) rfl (w.heap.size + 2) 98 (bs y2) rfl rfl D5.out (by rw [bs_len, Y2, L3]; decide) (Try.sumSz y2 Y2) (bs_one y2) ?_; intro v6 b3 c3; rw [Q4.out] at b3; have D6a : Hid _ := b3; have B6a : Hid _ := B5.out.keep c3 (by omega); have A6a : Hid _ := A5.out.chg c3 SL; clear b3 c3 A5 B5 D5)
  refine Calls.mono (HE.out _ A6a.out.rp.1) ?_
  rintro e w6 ⟨rfl, n, rfl⟩
  have A9 : Hid _ := At.drewN A6a.out n
  have D9 : Hid _ := Blk.drewN D6a.out n
  have B9 : Hid _ := Blk.drewN B6a.out n
  obtain ⟨w6, hw6⟩ : ∃ w6, w6 = v6.drewN n := ⟨_, rfl⟩
  rw [← hw6] at A9 D9 B9 ⊢
  clear hw6 A6a B6a D6a HE
  by_cases he : E = 0
  · subst he
    go_wp2_with (first | (refine wpList_load_part rfl 75 (.tmp 5) rfl (w.heap.size + 2) 0 C rfl D9.out (by simp) Try.underlying75 rfl (Try.forkZsz C LC) ?_) | (refine wpList_store_part rfl 75 (.tmp 2) (.tmp 32) rfl w.heap.size 0 C rfl rfl B9.out (by rw [LC, Nat.zero_add]; exact Nat.le_refl _) (Try.forkZsz C LC) OCH.out ?_; intro wz b4 c4; rw [splice_all _ _ LC] at b4; have BZ : Hid _ := b4; have FZ : Hid _ := below_chg1 (At.done A9.out HB.out (by omega)) c4 (At.done A9.out HB.out (by omega)).size (Nat.le_refl _); clear b4 c4))
    exact bodyPost_ret (results_row2 rfl _ _ w.heap.size 75 C _ _ rfl BZ.out Try.underlying75 rfl (Try.forkZsz C LC) rfl) rfl ⟨by rw [orNone_yes]; rfl, FZ.out⟩
  · go_wp2_with (refine wpList_store_part rfl 75 (.tmp 2) (.tmp 30) rfl w.heap.size 0 forkZ rfl rfl B9.out (Nat.le_of_eq (Nat.zero_add _)) (Try.forkZsz _ rfl) forkZ_one ?_; intro wz b4 c4; rw [splice_all _ _ rfl] at b4; have BZ : Hid _ := b4; have FZ : Hid _ := below_chg1 (At.done A9.out HB.out (by omega)) c4 (At.done A9.out HB.out (by omega)).size (Nat.le_refl _); clear b4 c4)
    exact bodyPost_ret (results_row2 rfl _ _ w.heap.size 75 forkZ _ _ rfl BZ.out Try.underlying75 rfl (Try.forkZsz _ rfl) rfl) rfl ⟨by rw [orNone_no _ _ he]; rfl, FZ.out⟩
end Go.Proofs.Ytgmheipbcopajaa
