/-
  The reference reads ops.
-/
import Derived.Test.YtlmdljghhpkbiaaPrT
import Derived.Test.YtlmdljghhpkbiaaPrP
namespace Go.Proofs.Ytlmdljghhpkbiaa
open Go.RowKit

section
variable {w : World} {p : Nat} {tv : Value} {T : List Int} {a : Nat} {err : Int}
theorem xLevelV (h : RS w p 64 tv T a err) : Calls Try.prog 120 #[.pointer (some ⟨p, 0, none⟩), .int .u8 23, .int .i64 21] w fun e w' => e = .returned (.int .i64 (levelS T a err).1) ∧ RP w w' p 64 tv T (levelS T a err).2.1 (levelS T a err).2.2 := xUpTo_any h 23 (by decide) 21
theorem xNumberV (h : RS w p 64 tv T a err) : Calls Try.prog 65 #[.pointer (some ⟨p, 0, none⟩), .int .u64 4611686018427387904] w fun e w' => e = .returned (.int .u64 (uintS T a err maxN).1) ∧ RP w w' p 64 tv T (uintS T a err maxN).2.1 (uintS T a err maxN).2.2 := xUint_any h maxN (by decide)
theorem xByteV (h : RS w p 64 tv T a err) : Calls Try.prog 61 #[.pointer (some ⟨p, 0, none⟩), .int .i64 1] w fun e w' => e = .returned (.int .u64 (lowN (pL T a err 1))) ∧ RP w w' p 64 tv T (pA T a err 1) (pE T a err 1) := xLow_any h 1 (by decide)
end
/-- What the reference's readOp answers. -/
structure XOpQ (w w' : World) (p : Nat) (tv : Value) (T : List Int) (S : OpS) (e : Ending) : Prop where
  ex : ∃ s v, e = .returned (.agg (opC S.ki S.lv s S.ct S.sm v).toArray) ∧ (s.oneCell' = true ∧ v.oneCell' = true) ∧ Own w' s S.kl ∧ Own w' v S.vl ∧ RP w w' p 64 tv T S.at_ S.err ∧ (s.ownBlock = none ∨ v.ownBlock = none) ∧ ∀ k, s.ownBlock = some k ∨ v.ownBlock = some k → w.heap.size ≤ k

set_option maxRecDepth 100000 in
set_option maxHeartbeats 16000000 in
theorem xReadOp_any {w : World} {p : Nat} {tv : Value} {T : List Int} {a : Nat} {err : Int} (h : RS w p 64 tv T a err) :
    Calls Try.prog 96 #[.pointer (some ⟨p, 0, none⟩)] w fun e w' => XOpQ w w' p tv T (opS T a err) e := by
  have KL := low1 h
  have A0 := At.start h
  have hlt := h.lt
  have C0 : ∀ w', RS w' p 64 tv T a err → _ := fun w' h => xByteV h
  clear h
  obtain ⟨S, hS⟩ : ∃ S, S = opS T a err := ⟨_, rfl⟩
  rw [← hS]
  unfold opS at hS
  obtain ⟨K, hK⟩ : ∃ K, K = lowN (pL T a err 1) := ⟨_, rfl⟩
  obtain ⟨a1, ha1⟩ : ∃ a1, a1 = pA T a err 1 := ⟨_, rfl⟩
  obtain ⟨e1, he1⟩ : ∃ e1, e1 = pE T a err 1 := ⟨_, rfl⟩
  simp only [← hK, ← ha1, ← he1] at C0 KL hS
  have HSS : Hid _ := hS
  clear hK ha1 he1 hS
  obtain ⟨Z, hZ⟩ : ∃ Z, Z = opC 0 0 (.slice none 0 0) 0 z32 (.slice none 0 0) := ⟨_, rfl⟩
  obtain ⟨W0, hW0⟩ : ∃ W0, W0 = (w.alloc (.cells (opC 0 0 (.slice none 0 0) 0 z32 (.slice none 0 0)).toArray 111)).alloc (.cells (opC 0 0 (.slice none 0 0) 0 z32 (.slice none 0 0)).toArray 111) := ⟨_, rfl⟩
  have P0 : Hid (At w W0 p 64 tv T a err) := by rw [hW0]; exact (A0.alloc _).alloc _
  have R0 : Hid (Blk W0 w.heap.size Z 111) := by rw [hW0, hZ]; exact (Blk.made w _ 111).alloc _
  have L0 : Hid (Blk W0 (w.heap.size + 1) (opC 0 0 (.slice none 0 0) 0 z32 (.slice none 0 0)) 111) := by
    rw [hW0]
    have := Blk.made (w.alloc (.cells (opC 0 0 (.slice none 0 0) 0 z32 (.slice none 0 0)).toArray 111)) (opC 0 0 (.slice none 0 0) 0 z32 (.slice none 0 0)) 111
    rwa [World.size_alloc] at this
  have SZ : Hid (W0.heap.size = w.heap.size + 2) := by show _ = _; rw [hW0]; simp
  have LZ : Z.length = 37 := by rw [hZ]; rfl
  have HC : Hid _ := C0 W0 P0.out.rp.1
  rw [hW0] at HC
  have HW : Hid _ := hW0
  have hwK : IntKind.wrap .i64 (K : Int) = (K : Int) := by rw [IntKind.wrap_i64]; omega
  clear A0 C0 hW0 hZ
  go_enter Try.func96, Try.ntmps96
  go_wp2_with fail
  refine Calls.mono HC.out ?_
  rintro e w1 ⟨rfl, r1⟩
  rw [← HW.out] at r1
  have S1 : Hid (w.heap.size + 2 ≤ w1.heap.size) := by have := r1.2.size; have := SZ.out; show _ ≤ _; omega
  have P1 : Hid _ := P0.out.call r1
  have R1 : Hid _ := P0.out.blk R0.out (Nat.le_refl _) r1
  have L1 : Hid _ := P0.out.blk L0.out (Nat.le_succ _) r1
  have hc : w1.cell? ⟨w.heap.size + 1, 0, none⟩ = some (.int .i64 0) := L1.out.cell 0
  have hf : w1.frozen? ⟨w.heap.size + 1, 0, none⟩ = false := L1.out.fr 0
  clear r1 HC HW P0 R0 L0 SZ
  go_upto_region 3 with fail
  obtain ⟨w2, hw2⟩ : ∃ w2, w2 = w1.setCell ⟨w.heap.size + 1, 0, none⟩ (.int .i64 K) := ⟨_, rfl⟩
  have ch : Chg (fun k => k = w.heap.size + 1) w1 w2 := by rw [hw2]; exact (Chg.refl (fun k => k = w.heap.size + 1) w1).setCell (p := ⟨w.heap.size + 1, 0, none⟩) (.inl rfl) _
  have P2 : Hid (At w w2 p 64 tv T a1 e1) := by rw [hw2]; exact P1.out.set (g := w.heap.size + 1) (Nat.le_succ _) 0 (.int .i64 K)
  have L2 : Hid (Blk w2 (w.heap.size + 1) (opC K 0 (.slice none 0 0) 0 z32 (.slice none 0 0)) 111) := by rw [hw2]; exact L1.out.set 0 (.int .i64 K)
  have R2 : Hid (Blk w2 w.heap.size Z 111) := R1.out.keep ch (by omega)
  have S2 : Hid (w.heap.size + 2 ≤ w2.heap.size) := Nat.le_trans S1.out ch.size
  rw [← hw2]
  clear hw2 ch P1 L1 R1 S1 hc hf hwK
  have k0 : w2.cell? ⟨w.heap.size + 1, 0, none⟩ = some (.int .i64 K) := L2.out.cell 0
  by_cases q1 : K = 1
  · subst q1
    have h9 := HSS.out
    rw [if_pos rfl] at h9
    clear HSS
    have H2 : Hid _ := xText_any P2.out.rp.1 65536 (by decide)
    obtain ⟨vb, a2, e2, hV⟩ : ∃ vb a2 e2, textS T a1 e1 65536 = (vb, a2, e2) := ⟨_, _, _, rfl⟩
    simp only [hV] at H2 h9
    have HS1 : Hid _ := h9
    clear hV h9
    go_wp2_with fail
    refine Calls.mono H2.out ?_
    rintro e w3 ⟨s, rfl, o2, r2, hs2⟩
    obtain ⟨sa, sc, hsf⟩ := Own.form o2
    have P3 : Hid _ := P2.out.call r2
    have R3 : Hid _ := P2.out.blk R2.out (Nat.le_refl _) r2
    have L3 : Hid _ := P2.out.blk L2.out (Nat.le_succ _) r2
    have HS : Hid (∀ k, s.ownBlock = some k → w.heap.size + 2 ≤ k) := fun k hk => by have h9 := hs2 k hk; have h8 := S2.out; omega
    have O2 : Hid _ := o2
    obtain ⟨n, hn⟩ : ∃ n, n = vb.length := ⟨_, rfl⟩
    rw [← hn] at hsf
    subst hsf
    have hc2 : w3.cell? ⟨w.heap.size + 1, 36, none⟩ = some (.slice none 0 0) := by rw [L3.out.cell]; exact opC_v _ _ _ _ _ _ (by simp [z32])
    have hf2 : w3.frozen? ⟨w.heap.size + 1, 36, none⟩ = false := L3.out.fr 36
    have ch : Chg (fun k => k = w.heap.size + 1) w3 (w3.setCell ⟨w.heap.size + 1, 36, none⟩ (.slice sa n sc)) := (Chg.refl (fun k => k = w.heap.size + 1) w3).setCell (p := ⟨w.heap.size + 1, 36, none⟩) (.inl rfl) _
    have P4 : Hid _ := P3.out.set (g := w.heap.size + 1) (Nat.le_succ _) 36 (.slice sa n sc)
    have L4 : Hid (Blk (w3.setCell ⟨w.heap.size + 1, 36, none⟩ (.slice sa n sc)) (w.heap.size + 1) (opC 1 0 (.slice none 0 0) 0 z32 (.slice sa n sc)) 111) := by
      have h9 := L3.out.set 36 (.slice sa n sc)
      rwa [opC_putv _ _ _ _ _ _ _ (by simp [z32])] at h9
    have R4 : Hid _ := R3.out.keep ch (by omega)
    have O3 : Hid (Own (w3.setCell ⟨w.heap.size + 1, 36, none⟩ (.slice sa n sc)) (.slice sa n sc) vb) := Own.kept O2.out ch (fun k hk e => by have := HS.out k hk; omega)
    clear o2 r2 hs2 ch P2 L2 R2 P3 L3 R3 O2 H2 hn k0
    go_wp2_with (first
      | (refine wpList_load_part rfl 111 (.tmp 3) rfl (w.heap.size + 1) 0 (opC 1 0 (.slice none 0 0) 0 z32 (.slice sa n sc)) rfl L4.out (by simp) Try.underlying111 rfl (Try.ocSz _ _ _ _ _ _ (show z32.length = 32 from by simp [z32])) ?_)
      | (refine wpList_store_part rfl 111 (.tmp 2) (.tmp 43) rfl w.heap.size 0 (opC 1 0 (.slice none 0 0) 0 z32 (.slice sa n sc)) rfl rfl R4.out (by rw [opC_len, LZ, (show z32.length = 32 from by simp [z32])]; decide) (Try.ocSz _ _ _ _ _ _ (show z32.length = 32 from by simp [z32])) (opC_one _ _ rfl _ _ rfl) ?_; intro w8 b8 c8; rw [splice_all _ _ (by rw [opC_len, LZ, (show z32.length = 32 from by simp [z32])])] at b8; have RR : Hid _ := b8; have PP : Hid _ := P4.out.chg c8 (Nat.le_refl _); have CC : Hid _ := c8; clear b8 c8))
    exact bodyPost_ret (v := .agg (opC 1 0 (.slice none 0 0) 0 z32 (.slice sa n sc)).toArray) (results_row1 rfl _ _ w.heap.size 111 _ _ _ rfl RR.out.eq Try.underlying111 rfl (Try.ocSz _ _ _ _ _ _ (show z32.length = 32 from by simp [z32]))) rfl (by rw [HS1.out]; exact ⟨⟨(.slice none 0 0), (.slice sa n sc), rfl, ⟨rfl, rfl⟩, Own.nil _, Own.kept O3.out CC.out (fun k hk e => by have := HS.out k hk; omega), PP.out.rp, .inl rfl, fun k hk => by rcases hk with hk | hk; simp [Value.ownBlock] at hk; have := HS.out k hk; omega⟩⟩)
  · by_cases q2 : K = 2
    · subst q2
      have h9 := HSS.out
      rw [if_neg (by decide), if_pos rfl] at h9
      clear HSS
      have H2 : Hid _ := xSum_any P2.out.rp.1
      obtain ⟨y, hy⟩ : ∃ y, y = pad 32 (pL T a1 e1 32) := ⟨_, rfl⟩
      have HY : y.length = 32 := by rw [hy]; exact pad_len (pL_len T a1 e1 32)
      obtain ⟨a2, ha2⟩ : ∃ a2, a2 = pA T a1 e1 32 := ⟨_, rfl⟩
      obtain ⟨e2, he2⟩ : ∃ e2, e2 = pE T a1 e1 32 := ⟨_, rfl⟩
      simp only [← hy, ← ha2, ← he2] at H2 h9
      have HS1 : Hid _ := h9
      clear hy ha2 he2 q1 h9
      go_wp2_with fail
      refine Calls.mono H2.out ?_
      rintro e w3 ⟨rfl, r2⟩
      have P3 : Hid _ := P2.out.call r2
      have R3 : Hid _ := P2.out.blk R2.out (Nat.le_refl _) r2
      have L3 : Hid _ := P2.out.blk L2.out (Nat.le_succ _) r2
      clear r2 P2 L2 R2 H2 k0
      go_upto_region 18 with (refine wpList_store_part rfl 31 (.tmp 21) (.tmp 20) rfl (w.heap.size + 1) 4 (bs y) rfl rfl L3.out (by simp [opC, bs, HY, z32]) (Try.sumSz' y HY) (bs_one y) ?_; intro w4 b7 c7; rw [opC_putsm _ _ _ _ _ _ _ (by simp [HY, z32])] at b7; have L4 : Hid _ := b7; have R4 : Hid _ := R3.out.keep c7 (by omega); have P4 : Hid _ := P3.out.chg c7 (Nat.le_succ _); clear b7 c7)
      go_wp2_with (first
        | (refine wpList_load_part rfl 111 (.tmp 3) rfl (w.heap.size + 1) 0 (opC 2 0 (.slice none 0 0) 0 y (.slice none 0 0)) rfl L4.out (by simp) Try.underlying111 rfl (Try.ocSz _ _ _ _ _ _ HY) ?_)
        | (refine wpList_store_part rfl 111 (.tmp 2) (.tmp 43) rfl w.heap.size 0 (opC 2 0 (.slice none 0 0) 0 y (.slice none 0 0)) rfl rfl R4.out (by rw [opC_len, LZ, HY]; decide) (Try.ocSz _ _ _ _ _ _ HY) (opC_one _ _ rfl _ _ rfl) ?_; intro w8 b8 c8; rw [splice_all _ _ (by rw [opC_len, LZ, HY])] at b8; have RR : Hid _ := b8; have PP : Hid _ := P4.out.chg c8 (Nat.le_refl _); have CC : Hid _ := c8; clear b8 c8))
      exact bodyPost_ret (v := .agg (opC 2 0 (.slice none 0 0) 0 y (.slice none 0 0)).toArray) (results_row1 rfl _ _ w.heap.size 111 _ _ _ rfl RR.out.eq Try.underlying111 rfl (Try.ocSz _ _ _ _ _ _ HY)) rfl (by rw [HS1.out]; exact ⟨⟨(.slice none 0 0), (.slice none 0 0), rfl, ⟨rfl, rfl⟩, Own.nil _, Own.nil _, PP.out.rp, .inl rfl, fun k hk => by rcases hk with hk | hk <;> simp [Value.ownBlock] at hk⟩⟩)
    · by_cases q3 : K = 3
      · subst q3
        have h9 := HSS.out
        rw [if_neg (by decide), if_neg (by decide), if_pos rfl] at h9
        have HS1 : Hid _ := h9
        clear q1 q2 h9 HSS
        go_upto_region 18 with fail
        clear k0
        go_wp2_with (first
          | (refine wpList_load_part rfl 111 (.tmp 3) rfl (w.heap.size + 1) 0 (opC 3 0 (.slice none 0 0) 0 z32 (.slice none 0 0)) rfl L2.out (by simp) Try.underlying111 rfl (Try.ocSz _ _ _ _ _ _ (show z32.length = 32 from by simp [z32])) ?_)
          | (refine wpList_store_part rfl 111 (.tmp 2) (.tmp 43) rfl w.heap.size 0 (opC 3 0 (.slice none 0 0) 0 z32 (.slice none 0 0)) rfl rfl R2.out (by rw [opC_len, LZ, (show z32.length = 32 from by simp [z32])]; decide) (Try.ocSz _ _ _ _ _ _ (show z32.length = 32 from by simp [z32])) (opC_one _ _ rfl _ _ rfl) ?_; intro w8 b8 c8; rw [splice_all _ _ (by rw [opC_len, LZ, (show z32.length = 32 from by simp [z32])])] at b8; have RR : Hid _ := b8; have PP : Hid _ := P2.out.chg c8 (Nat.le_refl _); have CC : Hid _ := c8; clear b8 c8))
        exact bodyPost_ret (v := .agg (opC 3 0 (.slice none 0 0) 0 z32 (.slice none 0 0)).toArray) (results_row1 rfl _ _ w.heap.size 111 _ _ _ rfl RR.out.eq Try.underlying111 rfl (Try.ocSz _ _ _ _ _ _ (show z32.length = 32 from by simp [z32]))) rfl (by rw [HS1.out]; exact ⟨⟨(.slice none 0 0), (.slice none 0 0), rfl, ⟨rfl, rfl⟩, Own.nil _, Own.nil _, PP.out.rp, .inl rfl, fun k hk => by rcases hk with hk | hk <;> simp [Value.ownBlock] at hk⟩⟩)
      · by_cases q4 : K = 4
        · subst q4
          have h9 := HSS.out
          rw [if_neg (by decide), if_neg (by decide), if_neg (by decide), if_pos (.inl rfl)] at h9
          clear q1 q2 q3 HSS
          have H2 : Hid _ := xLevelV P2.out.rp.1
          unfold nbS at h9
          obtain ⟨LV, a2, e2, hL⟩ : ∃ L b c, levelS T a1 e1 = (L, b, c) := ⟨_, _, _, rfl⟩
          simp only [hL] at H2 h9
          clear hL
          go_wp2_with fail
          refine Calls.mono H2.out ?_
          rintro e w3 ⟨rfl, r2⟩
          have P3 : Hid _ := P2.out.call r2
          have R3 : Hid _ := P2.out.blk R2.out (Nat.le_refl _) r2
          have L3 : Hid _ := P2.out.blk L2.out (Nat.le_succ _) r2
          have S3 : Hid (w.heap.size + 2 ≤ w3.heap.size) := Nat.le_trans S2.out r2.2.size
          clear r2 P2 L2 R2 S2 H2 k0
          have hc3 : w3.cell? ⟨w.heap.size + 1, 1, none⟩ = some (.int .i64 0) := L3.out.cell 1
          have hf3 : w3.frozen? ⟨w.heap.size + 1, 1, none⟩ = false := L3.out.fr 1
          go_upto_region 14 with fail
          obtain ⟨w4, hw4⟩ : ∃ w4, w4 = w3.setCell ⟨w.heap.size + 1, 1, none⟩ (.int .i64 LV) := ⟨_, rfl⟩
          have ch : Chg (fun k => k = w.heap.size + 1) w3 w4 := by rw [hw4]; exact (Chg.refl (fun k => k = w.heap.size + 1) w3).setCell (p := ⟨w.heap.size + 1, 1, none⟩) (.inl rfl) _
          have P4 : Hid (At w w4 p 64 tv T a2 e2) := by rw [hw4]; exact P3.out.set (g := w.heap.size + 1) (Nat.le_succ _) 1 _
          have L4 : Hid (Blk w4 (w.heap.size + 1) (opC 4 LV (.slice none 0 0) 0 z32 (.slice none 0 0)) 111) := by rw [hw4]; exact L3.out.set 1 (.int .i64 LV)
          have R4 : Hid (Blk w4 w.heap.size Z 111) := R3.out.keep ch (by omega)
          have S4 : Hid (w.heap.size + 2 ≤ w4.heap.size) := Nat.le_trans S3.out ch.size
          rw [← hw4]
          clear hw4 ch P3 L3 R3 S3 hc3 hf3
          have H3 : Hid _ := xText_any P4.out.rp.1 1024 (by decide)
          obtain ⟨kb, a3, e3, hT3⟩ : ∃ kb b c, textS T a2 e2 1024 = (kb, b, c) := ⟨_, _, _, rfl⟩
          simp only [hT3] at H3 h9
          clear hT3
          go_wp2_with fail
          refine Calls.mono H3.out ?_
          rintro e w5 ⟨s, rfl, o2, r2, hs2⟩
          obtain ⟨sa, sc, hsf⟩ := Own.form o2
          have P5 : Hid _ := P4.out.call r2
          have R5 : Hid _ := P4.out.blk R4.out (Nat.le_refl _) r2
          have L5 : Hid _ := P4.out.blk L4.out (Nat.le_succ _) r2
          have HS : Hid (∀ k, s.ownBlock = some k → w.heap.size + 2 ≤ k) := fun k hk => by have h9 := hs2 k hk; have h8 := S4.out; omega
          have O5 : Hid _ := o2
          obtain ⟨n, hn⟩ : ∃ n, n = kb.length := ⟨_, rfl⟩
          rw [← hn] at hsf
          subst hsf
          clear r2 P4 L4 R4 S4 H3 o2 hs2 hn
          have hc5 : w5.cell? ⟨w.heap.size + 1, 2, none⟩ = some (.slice none 0 0) := L5.out.cell 2
          have hf5 : w5.frozen? ⟨w.heap.size + 1, 2, none⟩ = false := L5.out.fr 2
          go_upto_region 15 with fail
          obtain ⟨w6, hw6⟩ : ∃ w6, w6 = w5.setCell ⟨w.heap.size + 1, 2, none⟩ (.slice sa n sc) := ⟨_, rfl⟩
          have ch : Chg (fun k => k = w.heap.size + 1) w5 w6 := by rw [hw6]; exact (Chg.refl (fun k => k = w.heap.size + 1) w5).setCell (p := ⟨w.heap.size + 1, 2, none⟩) (.inl rfl) _
          have P6 : Hid (At w w6 p 64 tv T a3 e3) := by rw [hw6]; exact P5.out.set (g := w.heap.size + 1) (Nat.le_succ _) 2 _
          have L6 : Hid (Blk w6 (w.heap.size + 1) (opC 4 LV (.slice sa n sc) 0 z32 (.slice none 0 0)) 111) := by rw [hw6]; exact L5.out.set 2 (.slice sa n sc)
          have R6 : Hid (Blk w6 w.heap.size Z 111) := R5.out.keep ch (by omega)
          have O6 : Hid (Own w6 (.slice sa n sc) kb) := Own.kept O5.out ch (fun k hk e => by have := HS.out k hk; omega)
          rw [← hw6]
          clear hw6 ch P5 L5 R5 O5 hc5 hf5
          have H4 : Hid _ := xNumberV P6.out.rp.1
          obtain ⟨CT, a4, e4, hU⟩ : ∃ L b c, uintS T a3 e3 maxN = (L, b, c) := ⟨_, _, _, rfl⟩
          simp only [hU] at H4 h9
          clear hU
          go_wp2_with fail
          refine Calls.mono H4.out ?_
          rintro e w7 ⟨rfl, r2⟩
          have P7 : Hid _ := P6.out.call r2
          have R7 : Hid _ := P6.out.blk R6.out (Nat.le_refl _) r2
          have L7 : Hid _ := P6.out.blk L6.out (Nat.le_succ _) r2
          have O7 : Hid (Own w7 (.slice sa n sc) kb) := Own.kept O6.out r2.2 (fun k hk e => by have := HS.out k hk; have := P6.out.plt; omega)
          clear r2 P6 L6 R6 O6 H4
          have hc7 : w7.cell? ⟨w.heap.size + 1, 3, none⟩ = some (.int .u64 0) := L7.out.cell 3
          have hf7 : w7.frozen? ⟨w.heap.size + 1, 3, none⟩ = false := L7.out.fr 3
          go_upto_region 16 with fail
          obtain ⟨w9, hw9⟩ : ∃ w9, w9 = w7.setCell ⟨w.heap.size + 1, 3, none⟩ (.int .u64 CT) := ⟨_, rfl⟩
          have ch : Chg (fun k => k = w.heap.size + 1) w7 w9 := by rw [hw9]; exact (Chg.refl (fun k => k = w.heap.size + 1) w7).setCell (p := ⟨w.heap.size + 1, 3, none⟩) (.inl rfl) _
          have P9 : Hid (At w w9 p 64 tv T a4 e4) := by rw [hw9]; exact P7.out.set (g := w.heap.size + 1) (Nat.le_succ _) 3 _
          have L9 : Hid (Blk w9 (w.heap.size + 1) (opC 4 LV (.slice sa n sc) CT z32 (.slice none 0 0)) 111) := by rw [hw9]; exact L7.out.set 3 (.int .u64 CT)
          have R9 : Hid (Blk w9 w.heap.size Z 111) := R7.out.keep ch (by omega)
          have O9 : Hid (Own w9 (.slice sa n sc) kb) := Own.kept O7.out ch (fun k hk e => by have := HS.out k hk; omega)
          rw [← hw9]
          clear hw9 ch P7 L7 R7 O7 hc7 hf7
          have k9 : w9.cell? ⟨w.heap.size + 1, 0, none⟩ = some (.int .i64 4) := L9.out.cell 0
          have H5 : Hid _ := xSum_any P9.out.rp.1
          obtain ⟨y, hy⟩ : ∃ y, y = pad 32 (pL T a4 e4 32) := ⟨_, rfl⟩
          have HY : y.length = 32 := by rw [hy]; exact pad_len (pL_len T a4 e4 32)
          obtain ⟨a5, ha5⟩ : ∃ x, x = pA T a4 e4 32 := ⟨_, rfl⟩
          obtain ⟨e5, he5⟩ : ∃ x, x = pE T a4 e4 32 := ⟨_, rfl⟩
          simp only [← hy, ← ha5, ← he5] at H5 h9
          have HS1 : Hid _ := h9
          clear hy ha5 he5 h9
          go_wp2_with fail
          refine Calls.mono H5.out ?_
          rintro e wa ⟨rfl, r2⟩
          have Pa : Hid _ := P9.out.call r2
          have Ra : Hid _ := P9.out.blk R9.out (Nat.le_refl _) r2
          have La : Hid _ := P9.out.blk L9.out (Nat.le_succ _) r2
          have Oa : Hid (Own wa (.slice sa n sc) kb) := Own.kept O9.out r2.2 (fun k hk e => by have := HS.out k hk; have := P9.out.plt; omega)
          clear r2 P9 L9 R9 O9 H5 k9
          go_upto_region 18 with (refine wpList_store_part rfl 31 (.tmp 42) (.tmp 41) rfl (w.heap.size + 1) 4 (bs y) rfl rfl La.out (by simp [opC, bs, HY, z32]) (Try.sumSz' y HY) (bs_one y) ?_; intro wb b7 c7; rw [opC_putsm _ _ _ _ _ _ _ (by simp [HY, z32])] at b7; have Lb : Hid _ := b7; have Rb : Hid _ := Ra.out.keep c7 (by omega); have Pb : Hid _ := Pa.out.chg c7 (Nat.le_succ _); have Ob : Hid (Own wb (.slice sa n sc) kb) := Own.kept Oa.out c7 (fun k hk e => by have := HS.out k hk; omega); clear b7 c7)
          go_wp2_with (first
            | (refine wpList_load_part rfl 111 (.tmp 3) rfl (w.heap.size + 1) 0 (opC 4 LV (.slice sa n sc) CT y (.slice none 0 0)) rfl Lb.out (by simp) Try.underlying111 rfl (Try.ocSz _ _ _ _ _ _ HY) ?_)
            | (refine wpList_store_part rfl 111 (.tmp 2) (.tmp 43) rfl w.heap.size 0 (opC 4 LV (.slice sa n sc) CT y (.slice none 0 0)) rfl rfl Rb.out (by rw [opC_len, LZ, HY]; decide) (Try.ocSz _ _ _ _ _ _ HY) (opC_one _ _ rfl _ _ rfl) ?_; intro w8 b8 c8; rw [splice_all _ _ (by rw [opC_len, LZ, HY])] at b8; have RR : Hid _ := b8; have PP : Hid _ := Pb.out.chg c8 (Nat.le_refl _); have CC : Hid _ := c8; clear b8 c8))
          exact bodyPost_ret (v := .agg (opC 4 LV (.slice sa n sc) CT y (.slice none 0 0)).toArray) (results_row1 rfl _ _ w.heap.size 111 _ _ _ rfl RR.out.eq Try.underlying111 rfl (Try.ocSz _ _ _ _ _ _ HY)) rfl (by rw [HS1.out]; exact ⟨⟨(.slice sa n sc), (.slice none 0 0), rfl, ⟨rfl, rfl⟩, Own.kept Ob.out CC.out (fun k hk e => by have := HS.out k hk; omega), Own.nil _, PP.out.rp, .inr rfl, fun k hk => by rcases hk with hk | hk; have := HS.out k hk; omega; simp [Value.ownBlock] at hk⟩⟩)
        · by_cases q5 : K = 5
          · subst q5
            have h9 := HSS.out
            rw [if_neg (by decide), if_neg (by decide), if_neg (by decide), if_pos (.inr rfl)] at h9
            clear q1 q2 q3 q4 HSS
            have H2 : Hid _ := xLevelV P2.out.rp.1
            unfold nbS at h9
            obtain ⟨LV, a2, e2, hL⟩ : ∃ L b c, levelS T a1 e1 = (L, b, c) := ⟨_, _, _, rfl⟩
            simp only [hL] at H2 h9
            clear hL
            go_wp2_with fail
            refine Calls.mono H2.out ?_
            rintro e w3 ⟨rfl, r2⟩
            have P3 : Hid _ := P2.out.call r2
            have R3 : Hid _ := P2.out.blk R2.out (Nat.le_refl _) r2
            have L3 : Hid _ := P2.out.blk L2.out (Nat.le_succ _) r2
            have S3 : Hid (w.heap.size + 2 ≤ w3.heap.size) := Nat.le_trans S2.out r2.2.size
            clear r2 P2 L2 R2 S2 H2 k0
            have hc3 : w3.cell? ⟨w.heap.size + 1, 1, none⟩ = some (.int .i64 0) := L3.out.cell 1
            have hf3 : w3.frozen? ⟨w.heap.size + 1, 1, none⟩ = false := L3.out.fr 1
            go_upto_region 14 with fail
            obtain ⟨w4, hw4⟩ : ∃ w4, w4 = w3.setCell ⟨w.heap.size + 1, 1, none⟩ (.int .i64 LV) := ⟨_, rfl⟩
            have ch : Chg (fun k => k = w.heap.size + 1) w3 w4 := by rw [hw4]; exact (Chg.refl (fun k => k = w.heap.size + 1) w3).setCell (p := ⟨w.heap.size + 1, 1, none⟩) (.inl rfl) _
            have P4 : Hid (At w w4 p 64 tv T a2 e2) := by rw [hw4]; exact P3.out.set (g := w.heap.size + 1) (Nat.le_succ _) 1 _
            have L4 : Hid (Blk w4 (w.heap.size + 1) (opC 5 LV (.slice none 0 0) 0 z32 (.slice none 0 0)) 111) := by rw [hw4]; exact L3.out.set 1 (.int .i64 LV)
            have R4 : Hid (Blk w4 w.heap.size Z 111) := R3.out.keep ch (by omega)
            have S4 : Hid (w.heap.size + 2 ≤ w4.heap.size) := Nat.le_trans S3.out ch.size
            rw [← hw4]
            clear hw4 ch P3 L3 R3 S3 hc3 hf3
            have H3 : Hid _ := xText_any P4.out.rp.1 1024 (by decide)
            obtain ⟨kb, a3, e3, hT3⟩ : ∃ kb b c, textS T a2 e2 1024 = (kb, b, c) := ⟨_, _, _, rfl⟩
            simp only [hT3] at H3 h9
            clear hT3
            go_wp2_with fail
            refine Calls.mono H3.out ?_
            rintro e w5 ⟨s, rfl, o2, r2, hs2⟩
            obtain ⟨sa, sc, hsf⟩ := Own.form o2
            have P5 : Hid _ := P4.out.call r2
            have R5 : Hid _ := P4.out.blk R4.out (Nat.le_refl _) r2
            have L5 : Hid _ := P4.out.blk L4.out (Nat.le_succ _) r2
            have HS : Hid (∀ k, s.ownBlock = some k → w.heap.size + 2 ≤ k) := fun k hk => by have h9 := hs2 k hk; have h8 := S4.out; omega
            have O5 : Hid _ := o2
            obtain ⟨n, hn⟩ : ∃ n, n = kb.length := ⟨_, rfl⟩
            rw [← hn] at hsf
            subst hsf
            clear r2 P4 L4 R4 S4 H3 o2 hs2 hn
            have hc5 : w5.cell? ⟨w.heap.size + 1, 2, none⟩ = some (.slice none 0 0) := L5.out.cell 2
            have hf5 : w5.frozen? ⟨w.heap.size + 1, 2, none⟩ = false := L5.out.fr 2
            go_upto_region 15 with fail
            obtain ⟨w6, hw6⟩ : ∃ w6, w6 = w5.setCell ⟨w.heap.size + 1, 2, none⟩ (.slice sa n sc) := ⟨_, rfl⟩
            have ch : Chg (fun k => k = w.heap.size + 1) w5 w6 := by rw [hw6]; exact (Chg.refl (fun k => k = w.heap.size + 1) w5).setCell (p := ⟨w.heap.size + 1, 2, none⟩) (.inl rfl) _
            have P6 : Hid (At w w6 p 64 tv T a3 e3) := by rw [hw6]; exact P5.out.set (g := w.heap.size + 1) (Nat.le_succ _) 2 _
            have L6 : Hid (Blk w6 (w.heap.size + 1) (opC 5 LV (.slice sa n sc) 0 z32 (.slice none 0 0)) 111) := by rw [hw6]; exact L5.out.set 2 (.slice sa n sc)
            have R6 : Hid (Blk w6 w.heap.size Z 111) := R5.out.keep ch (by omega)
            have O6 : Hid (Own w6 (.slice sa n sc) kb) := Own.kept O5.out ch (fun k hk e => by have := HS.out k hk; omega)
            rw [← hw6]
            clear hw6 ch P5 L5 R5 O5 hc5 hf5
            have H4 : Hid _ := xNumberV P6.out.rp.1
            obtain ⟨CT, a4, e4, hU⟩ : ∃ L b c, uintS T a3 e3 maxN = (L, b, c) := ⟨_, _, _, rfl⟩
            simp only [hU] at H4 h9
            clear hU
            go_wp2_with fail
            refine Calls.mono H4.out ?_
            rintro e w7 ⟨rfl, r2⟩
            have P7 : Hid _ := P6.out.call r2
            have R7 : Hid _ := P6.out.blk R6.out (Nat.le_refl _) r2
            have L7 : Hid _ := P6.out.blk L6.out (Nat.le_succ _) r2
            have O7 : Hid (Own w7 (.slice sa n sc) kb) := Own.kept O6.out r2.2 (fun k hk e => by have := HS.out k hk; have := P6.out.plt; omega)
            clear r2 P6 L6 R6 O6 H4
            have hc7 : w7.cell? ⟨w.heap.size + 1, 3, none⟩ = some (.int .u64 0) := L7.out.cell 3
            have hf7 : w7.frozen? ⟨w.heap.size + 1, 3, none⟩ = false := L7.out.fr 3
            go_upto_region 16 with fail
            obtain ⟨w9, hw9⟩ : ∃ w9, w9 = w7.setCell ⟨w.heap.size + 1, 3, none⟩ (.int .u64 CT) := ⟨_, rfl⟩
            have ch : Chg (fun k => k = w.heap.size + 1) w7 w9 := by rw [hw9]; exact (Chg.refl (fun k => k = w.heap.size + 1) w7).setCell (p := ⟨w.heap.size + 1, 3, none⟩) (.inl rfl) _
            have P9 : Hid (At w w9 p 64 tv T a4 e4) := by rw [hw9]; exact P7.out.set (g := w.heap.size + 1) (Nat.le_succ _) 3 _
            have L9 : Hid (Blk w9 (w.heap.size + 1) (opC 5 LV (.slice sa n sc) CT z32 (.slice none 0 0)) 111) := by rw [hw9]; exact L7.out.set 3 (.int .u64 CT)
            have R9 : Hid (Blk w9 w.heap.size Z 111) := R7.out.keep ch (by omega)
            have O9 : Hid (Own w9 (.slice sa n sc) kb) := Own.kept O7.out ch (fun k hk e => by have := HS.out k hk; omega)
            rw [← hw9]
            clear hw9 ch P7 L7 R7 O7 hc7 hf7
            have k9 : w9.cell? ⟨w.heap.size + 1, 0, none⟩ = some (.int .i64 5) := L9.out.cell 0
            have H5 : Hid _ := xSum_any P9.out.rp.1
            obtain ⟨y, hy⟩ : ∃ y, y = pad 32 (pL T a4 e4 32) := ⟨_, rfl⟩
            have HY : y.length = 32 := by rw [hy]; exact pad_len (pL_len T a4 e4 32)
            obtain ⟨a5, ha5⟩ : ∃ x, x = pA T a4 e4 32 := ⟨_, rfl⟩
            obtain ⟨e5, he5⟩ : ∃ x, x = pE T a4 e4 32 := ⟨_, rfl⟩
            simp only [← hy, ← ha5, ← he5] at H5 h9
            have HS1 : Hid _ := h9
            clear hy ha5 he5 h9
            go_wp2_with fail
            refine Calls.mono H5.out ?_
            rintro e wa ⟨rfl, r2⟩
            have Pa : Hid _ := P9.out.call r2
            have Ra : Hid _ := P9.out.blk R9.out (Nat.le_refl _) r2
            have La : Hid _ := P9.out.blk L9.out (Nat.le_succ _) r2
            have Oa : Hid (Own wa (.slice sa n sc) kb) := Own.kept O9.out r2.2 (fun k hk e => by have := HS.out k hk; have := P9.out.plt; omega)
            clear r2 P9 L9 R9 O9 H5 k9
            go_upto_region 18 with (refine wpList_store_part rfl 31 (.tmp 42) (.tmp 41) rfl (w.heap.size + 1) 4 (bs y) rfl rfl La.out (by simp [opC, bs, HY, z32]) (Try.sumSz' y HY) (bs_one y) ?_; intro wb b7 c7; rw [opC_putsm _ _ _ _ _ _ _ (by simp [HY, z32])] at b7; have Lb : Hid _ := b7; have Rb : Hid _ := Ra.out.keep c7 (by omega); have Pb : Hid _ := Pa.out.chg c7 (Nat.le_succ _); have Ob : Hid (Own wb (.slice sa n sc) kb) := Own.kept Oa.out c7 (fun k hk e => by have := HS.out k hk; omega); clear b7 c7)
            go_wp2_with (first
              | (refine wpList_load_part rfl 111 (.tmp 3) rfl (w.heap.size + 1) 0 (opC 5 LV (.slice sa n sc) CT y (.slice none 0 0)) rfl Lb.out (by simp) Try.underlying111 rfl (Try.ocSz _ _ _ _ _ _ HY) ?_)
              | (refine wpList_store_part rfl 111 (.tmp 2) (.tmp 43) rfl w.heap.size 0 (opC 5 LV (.slice sa n sc) CT y (.slice none 0 0)) rfl rfl Rb.out (by rw [opC_len, LZ, HY]; decide) (Try.ocSz _ _ _ _ _ _ HY) (opC_one _ _ rfl _ _ rfl) ?_; intro w8 b8 c8; rw [splice_all _ _ (by rw [opC_len, LZ, HY])] at b8; have RR : Hid _ := b8; have PP : Hid _ := Pb.out.chg c8 (Nat.le_refl _); have CC : Hid _ := c8; clear b8 c8))
            exact bodyPost_ret (v := .agg (opC 5 LV (.slice sa n sc) CT y (.slice none 0 0)).toArray) (results_row1 rfl _ _ w.heap.size 111 _ _ _ rfl RR.out.eq Try.underlying111 rfl (Try.ocSz _ _ _ _ _ _ HY)) rfl (by rw [HS1.out]; exact ⟨⟨(.slice sa n sc), (.slice none 0 0), rfl, ⟨rfl, rfl⟩, Own.kept Ob.out CC.out (fun k hk e => by have := HS.out k hk; omega), Own.nil _, PP.out.rp, .inr rfl, fun k hk => by rcases hk with hk | hk; have := HS.out k hk; omega; simp [Value.ownBlock] at hk⟩⟩)
          · by_cases q6 : K = 6
            · subst q6
              have h9 := HSS.out
              rw [if_neg (by decide), if_neg (by decide), if_neg (by decide), if_neg (by decide), if_pos rfl] at h9
              clear q1 q2 q3 q4 q5 HSS
              have H2 : Hid _ := xLevelV P2.out.rp.1
              unfold nbS at h9
              obtain ⟨LV, a2, e2, hL⟩ : ∃ L b c, levelS T a1 e1 = (L, b, c) := ⟨_, _, _, rfl⟩
              simp only [hL] at H2 h9
              clear hL
              go_wp2_with fail
              refine Calls.mono H2.out ?_
              rintro e w3 ⟨rfl, r2⟩
              have P3 : Hid _ := P2.out.call r2
              have R3 : Hid _ := P2.out.blk R2.out (Nat.le_refl _) r2
              have L3 : Hid _ := P2.out.blk L2.out (Nat.le_succ _) r2
              have S3 : Hid (w.heap.size + 2 ≤ w3.heap.size) := Nat.le_trans S2.out r2.2.size
              clear r2 P2 L2 R2 S2 H2 k0
              have hc3 : w3.cell? ⟨w.heap.size + 1, 1, none⟩ = some (.int .i64 0) := L3.out.cell 1
              have hf3 : w3.frozen? ⟨w.heap.size + 1, 1, none⟩ = false := L3.out.fr 1
              go_upto_region 14 with fail
              obtain ⟨w4, hw4⟩ : ∃ w4, w4 = w3.setCell ⟨w.heap.size + 1, 1, none⟩ (.int .i64 LV) := ⟨_, rfl⟩
              have ch : Chg (fun k => k = w.heap.size + 1) w3 w4 := by rw [hw4]; exact (Chg.refl (fun k => k = w.heap.size + 1) w3).setCell (p := ⟨w.heap.size + 1, 1, none⟩) (.inl rfl) _
              have P4 : Hid (At w w4 p 64 tv T a2 e2) := by rw [hw4]; exact P3.out.set (g := w.heap.size + 1) (Nat.le_succ _) 1 _
              have L4 : Hid (Blk w4 (w.heap.size + 1) (opC 6 LV (.slice none 0 0) 0 z32 (.slice none 0 0)) 111) := by rw [hw4]; exact L3.out.set 1 (.int .i64 LV)
              have R4 : Hid (Blk w4 w.heap.size Z 111) := R3.out.keep ch (by omega)
              have S4 : Hid (w.heap.size + 2 ≤ w4.heap.size) := Nat.le_trans S3.out ch.size
              rw [← hw4]
              clear hw4 ch P3 L3 R3 S3 hc3 hf3
              have H3 : Hid _ := xText_any P4.out.rp.1 1024 (by decide)
              obtain ⟨kb, a3, e3, hT3⟩ : ∃ kb b c, textS T a2 e2 1024 = (kb, b, c) := ⟨_, _, _, rfl⟩
              simp only [hT3] at H3 h9
              clear hT3
              go_wp2_with fail
              refine Calls.mono H3.out ?_
              rintro e w5 ⟨s, rfl, o2, r2, hs2⟩
              obtain ⟨sa, sc, hsf⟩ := Own.form o2
              have P5 : Hid _ := P4.out.call r2
              have R5 : Hid _ := P4.out.blk R4.out (Nat.le_refl _) r2
              have L5 : Hid _ := P4.out.blk L4.out (Nat.le_succ _) r2
              have HS : Hid (∀ k, s.ownBlock = some k → w.heap.size + 2 ≤ k) := fun k hk => by have h9 := hs2 k hk; have h8 := S4.out; omega
              have O5 : Hid _ := o2
              obtain ⟨n, hn⟩ : ∃ n, n = kb.length := ⟨_, rfl⟩
              rw [← hn] at hsf
              subst hsf
              clear r2 P4 L4 R4 S4 H3 o2 hs2 hn
              have hc5 : w5.cell? ⟨w.heap.size + 1, 2, none⟩ = some (.slice none 0 0) := L5.out.cell 2
              have hf5 : w5.frozen? ⟨w.heap.size + 1, 2, none⟩ = false := L5.out.fr 2
              go_upto_region 15 with fail
              obtain ⟨w6, hw6⟩ : ∃ w6, w6 = w5.setCell ⟨w.heap.size + 1, 2, none⟩ (.slice sa n sc) := ⟨_, rfl⟩
              have ch : Chg (fun k => k = w.heap.size + 1) w5 w6 := by rw [hw6]; exact (Chg.refl (fun k => k = w.heap.size + 1) w5).setCell (p := ⟨w.heap.size + 1, 2, none⟩) (.inl rfl) _
              have P6 : Hid (At w w6 p 64 tv T a3 e3) := by rw [hw6]; exact P5.out.set (g := w.heap.size + 1) (Nat.le_succ _) 2 _
              have L6 : Hid (Blk w6 (w.heap.size + 1) (opC 6 LV (.slice sa n sc) 0 z32 (.slice none 0 0)) 111) := by rw [hw6]; exact L5.out.set 2 (.slice sa n sc)
              have R6 : Hid (Blk w6 w.heap.size Z 111) := R5.out.keep ch (by omega)
              have O6 : Hid (Own w6 (.slice sa n sc) kb) := Own.kept O5.out ch (fun k hk e => by have := HS.out k hk; omega)
              rw [← hw6]
              clear hw6 ch P5 L5 R5 O5 hc5 hf5
              have H4 : Hid _ := xNumberV P6.out.rp.1
              obtain ⟨CT, a4, e4, hU⟩ : ∃ L b c, uintS T a3 e3 maxN = (L, b, c) := ⟨_, _, _, rfl⟩
              simp only [hU] at H4 h9
              clear hU
              go_wp2_with fail
              refine Calls.mono H4.out ?_
              rintro e w7 ⟨rfl, r2⟩
              have P7 : Hid _ := P6.out.call r2
              have R7 : Hid _ := P6.out.blk R6.out (Nat.le_refl _) r2
              have L7 : Hid _ := P6.out.blk L6.out (Nat.le_succ _) r2
              have O7 : Hid (Own w7 (.slice sa n sc) kb) := Own.kept O6.out r2.2 (fun k hk e => by have := HS.out k hk; have := P6.out.plt; omega)
              clear r2 P6 L6 R6 O6 H4
              have hc7 : w7.cell? ⟨w.heap.size + 1, 3, none⟩ = some (.int .u64 0) := L7.out.cell 3
              have hf7 : w7.frozen? ⟨w.heap.size + 1, 3, none⟩ = false := L7.out.fr 3
              go_upto_region 16 with fail
              obtain ⟨w9, hw9⟩ : ∃ w9, w9 = w7.setCell ⟨w.heap.size + 1, 3, none⟩ (.int .u64 CT) := ⟨_, rfl⟩
              have ch : Chg (fun k => k = w.heap.size + 1) w7 w9 := by rw [hw9]; exact (Chg.refl (fun k => k = w.heap.size + 1) w7).setCell (p := ⟨w.heap.size + 1, 3, none⟩) (.inl rfl) _
              have P9 : Hid (At w w9 p 64 tv T a4 e4) := by rw [hw9]; exact P7.out.set (g := w.heap.size + 1) (Nat.le_succ _) 3 _
              have L9 : Hid (Blk w9 (w.heap.size + 1) (opC 6 LV (.slice sa n sc) CT z32 (.slice none 0 0)) 111) := by rw [hw9]; exact L7.out.set 3 (.int .u64 CT)
              have R9 : Hid (Blk w9 w.heap.size Z 111) := R7.out.keep ch (by omega)
              have O9 : Hid (Own w9 (.slice sa n sc) kb) := Own.kept O7.out ch (fun k hk e => by have := HS.out k hk; omega)
              rw [← hw9]
              clear hw9 ch P7 L7 R7 O7 hc7 hf7
              have k9 : w9.cell? ⟨w.heap.size + 1, 0, none⟩ = some (.int .i64 6) := L9.out.cell 0
              have HS1 : Hid _ := h9
              clear h9
              go_upto_region 18 with fail
              clear k9
              go_wp2_with (first
                | (refine wpList_load_part rfl 111 (.tmp 3) rfl (w.heap.size + 1) 0 (opC 6 LV (.slice sa n sc) CT z32 (.slice none 0 0)) rfl L9.out (by simp) Try.underlying111 rfl (Try.ocSz _ _ _ _ _ _ (show z32.length = 32 from by simp [z32])) ?_)
                | (refine wpList_store_part rfl 111 (.tmp 2) (.tmp 43) rfl w.heap.size 0 (opC 6 LV (.slice sa n sc) CT z32 (.slice none 0 0)) rfl rfl R9.out (by rw [opC_len, LZ, (show z32.length = 32 from by simp [z32])]; decide) (Try.ocSz _ _ _ _ _ _ (show z32.length = 32 from by simp [z32])) (opC_one _ _ rfl _ _ rfl) ?_; intro w8 b8 c8; rw [splice_all _ _ (by rw [opC_len, LZ, (show z32.length = 32 from by simp [z32])])] at b8; have RR : Hid _ := b8; have PP : Hid _ := P9.out.chg c8 (Nat.le_refl _); have CC : Hid _ := c8; clear b8 c8))
              exact bodyPost_ret (v := .agg (opC 6 LV (.slice sa n sc) CT z32 (.slice none 0 0)).toArray) (results_row1 rfl _ _ w.heap.size 111 _ _ _ rfl RR.out.eq Try.underlying111 rfl (Try.ocSz _ _ _ _ _ _ (show z32.length = 32 from by simp [z32]))) rfl (by rw [HS1.out]; exact ⟨⟨(.slice sa n sc), (.slice none 0 0), rfl, ⟨rfl, rfl⟩, Own.kept O9.out CC.out (fun k hk e => by have := HS.out k hk; omega), Own.nil _, PP.out.rp, .inr rfl, fun k hk => by rcases hk with hk | hk; have := HS.out k hk; omega; simp [Value.ownBlock] at hk⟩⟩)
            · have h9 := HSS.out
              rw [if_neg q1, if_neg q2, if_neg q3, if_neg (by omega), if_neg q6] at h9
              have HS1 : Hid _ := h9
              clear h9 HSS
              have H2 : Hid _ := xFail_any P2.out.rp.1 24
              have i1 : ((K : Int) == 1) = false := by simp; omega
              have i2 : ((K : Int) == 2) = false := by simp; omega
              have i3 : ((K : Int) == 3) = false := by simp; omega
              have i4 : ((K : Int) == 4) = false := by simp; omega
              have i5 : ((K : Int) == 5) = false := by simp; omega
              have i6 : ((K : Int) == 6) = false := by simp; omega
              go_wp2_with fail
              refine Calls.mono H2.out ?_
              rintro e w3 ⟨rfl, r2⟩
              have P3 : Hid _ := P2.out.call r2
              have R3 : Hid _ := P2.out.blk R2.out (Nat.le_refl _) r2
              have L3 : Hid _ := P2.out.blk L2.out (Nat.le_succ _) r2
              clear r2 P2 L2 R2 H2 k0 i1 i2 i3 i4 i5 i6
              go_wp2_with (first
                | (refine wpList_load_part rfl 111 (.tmp 3) rfl (w.heap.size + 1) 0 (opC K 0 (.slice none 0 0) 0 z32 (.slice none 0 0)) rfl L3.out (by simp) Try.underlying111 rfl (Try.ocSz _ _ _ _ _ _ (show z32.length = 32 from by simp [z32])) ?_)
                | (refine wpList_store_part rfl 111 (.tmp 2) (.tmp 43) rfl w.heap.size 0 (opC K 0 (.slice none 0 0) 0 z32 (.slice none 0 0)) rfl rfl R3.out (by rw [opC_len, LZ, (show z32.length = 32 from by simp [z32])]; decide) (Try.ocSz _ _ _ _ _ _ (show z32.length = 32 from by simp [z32])) (opC_one _ _ rfl _ _ rfl) ?_; intro w8 b8 c8; rw [splice_all _ _ (by rw [opC_len, LZ, (show z32.length = 32 from by simp [z32])])] at b8; have RR : Hid _ := b8; have PP : Hid _ := P3.out.chg c8 (Nat.le_refl _); have CC : Hid _ := c8; clear b8 c8))
              exact bodyPost_ret (v := .agg (opC K 0 (.slice none 0 0) 0 z32 (.slice none 0 0)).toArray) (results_row1 rfl _ _ w.heap.size 111 _ _ _ rfl RR.out.eq Try.underlying111 rfl (Try.ocSz _ _ _ _ _ _ (show z32.length = 32 from by simp [z32]))) rfl (by rw [HS1.out]; exact ⟨⟨(.slice none 0 0), (.slice none 0 0), rfl, ⟨rfl, rfl⟩, Own.nil _, Own.nil _, PP.out.rp, .inl rfl, fun k hk => by rcases hk with hk | hk <;> simp [Value.ownBlock] at hk⟩⟩)
end Go.Proofs.Ytlmdljghhpkbiaa
