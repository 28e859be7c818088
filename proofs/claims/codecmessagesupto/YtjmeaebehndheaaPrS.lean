/-
  The reading of proofs: ops.
-/
import Derived.Test.YtjmeaebehndheaaPrR
namespace Go.Proofs.Ytjmeaebehndheaa
open Go.RowKit

/-- What reading an op gives. -/
structure OpS where
  ki : Nat
  lv : Nat
  kl : List Int
  ct : Nat
  sm : List Int
  vl : List Int
  at_ : Nat
  err : Int
def z32 : List Int := List.replicate 32 0
def opS (T : List Int) (a : Nat) (err : Int) : OpS :=
  let K := lowN (pL T a err 1)
  let b := pA T a err 1
  let e := pE T a err 1
  if K = 1 then ⟨1, 0, [], 0, z32, (textS T b e 65536).1, (textS T b e 65536).2.1, (textS T b e 65536).2.2⟩
  else if K = 2 then ⟨2, 0, [], 0, pad 32 (pL T b e 32), [], pA T b e 32, pE T b e 32⟩
  else if K = 3 then ⟨3, 0, [], 0, z32, [], b, e⟩
  else if K = 4 ∨ K = 5 then ⟨K, (nbS T b e).lv, (nbS T b e).kl, (nbS T b e).ct, pad 32 (pL T (nbS T b e).at_ (nbS T b e).err 32), [], pA T (nbS T b e).at_ (nbS T b e).err 32, pE T (nbS T b e).at_ (nbS T b e).err 32⟩
  else if K = 6 then ⟨6, (nbS T b e).lv, (nbS T b e).kl, (nbS T b e).ct, z32, [], (nbS T b e).at_, (nbS T b e).err⟩
  else ⟨K, 0, [], 0, z32, [], b, failE e 24⟩
theorem opS_len (T : List Int) (a : Nat) (err : Int) : (opS T a err).sm.length = 32 := by
  have p32 : ∀ a e, (pad 32 (pL T a e 32)).length = 32 := fun a e => pad_len (pL_len T a e 32)
  unfold opS
  simp only
  split
  · simp [z32]
  split
  · exact p32 _ _
  split
  · simp [z32]
  split
  · exact p32 _ _
  split
  · simp [z32]
  · simp [z32]
/-- What op answers. -/
structure OpQ (w w' : World) (p : Nat) (tv : Value) (T : List Int) (S : OpS) (e : Ending) : Prop where
  ex : ∃ s v, e = .returned (.agg (opC S.ki S.lv s S.ct S.sm v).toArray) ∧ (s.oneCell' = true ∧ v.oneCell' = true) ∧ Own w' s S.kl ∧ Own w' v S.vl ∧ RP w w' p 195 tv T S.at_ S.err ∧ ∀ k, s.ownBlock = some k ∨ v.ownBlock = some k → w.heap.size ≤ k

set_option maxRecDepth 100000 in
set_option maxHeartbeats 16000000 in
theorem op_any {w : World} {p : Nat} {tv : Value} {T : List Int} {a : Nat} {err : Int} (h : RS w p 195 tv T a err) :
    Calls Try.prog 122 #[.pointer (some ⟨p, 0, none⟩)] w fun e w' => OpQ w w' p tv T (opS T a err) e := by
  have KL := low1 h
  have A0 := At.start h
  have hlt := h.lt
  have C0 : ∀ w', RS w' p 195 tv T a err → _ := fun w' h => rByte_any h
  clear h
  obtain ⟨S, hS⟩ : ∃ S, S = opS T a err := ⟨_, rfl⟩
  rw [← hS]
  unfold opS at hS
  obtain ⟨K, hK⟩ : ∃ K, K = lowN (pL T a err 1) := ⟨_, rfl⟩
  obtain ⟨a1, ha1⟩ : ∃ a1, a1 = pA T a err 1 := ⟨_, rfl⟩
  obtain ⟨e1, he1⟩ : ∃ e1, e1 = pE T a err 1 := ⟨_, rfl⟩
  simp only [← hK, ← ha1, ← he1] at C0 KL hS
  have HSS : Hid _ := hS
  clear hK ha1 he1 hS
  obtain ⟨Z, hZ⟩ : ∃ Z, Z = opC 0 0 (.slice none 0 0) 0 z32 (.slice none 0 0) := ⟨_, rfl⟩
  obtain ⟨W0, hW0⟩ : ∃ W0, W0 = (w.alloc (.cells (opC 0 0 (.slice none 0 0) 0 z32 (.slice none 0 0)).toArray 220)).alloc (.cells (opC 0 0 (.slice none 0 0) 0 z32 (.slice none 0 0)).toArray 220) := ⟨_, rfl⟩
  have P0 : Hid (At w W0 p 195 tv T a err) := by rw [hW0]; exact (A0.alloc _).alloc _
  have R0 : Hid (Blk W0 w.heap.size Z 220) := by rw [hW0, hZ]; exact (Blk.made w _ 220).alloc _
  have L0 : Hid (Blk W0 (w.heap.size + 1) (opC 0 0 (.slice none 0 0) 0 z32 (.slice none 0 0)) 220) := by
    rw [hW0]
    have := Blk.made (w.alloc (.cells (opC 0 0 (.slice none 0 0) 0 z32 (.slice none 0 0)).toArray 220)) (opC 0 0 (.slice none 0 0) 0 z32 (.slice none 0 0)) 220
    rwa [World.size_alloc] at this
  have SZ : Hid (W0.heap.size = w.heap.size + 2) := by show _ = _; rw [hW0]; simp
  have LZ : Z.length = 37 := by rw [hZ]; rfl
  have HC : Hid _ := C0 W0 P0.out.rp.1
  rw [hW0] at HC
  have HW : Hid _ := hW0
  clear A0 C0 hW0 hZ
  go_enter Try.func122, Try.ntmps122
  go_wp2_with fail
  refine Calls.mono HC.out ?_
  rintro e w1 ⟨rfl, r1⟩
  rw [← HW.out] at r1
  have S1 : Hid (w.heap.size + 2 ≤ w1.heap.size) := by have := r1.2.size; have := SZ.out; show _ ≤ _; omega
  have P1 : Hid _ := P0.out.call r1
  have R1 : Hid _ := P0.out.blk R0.out (Nat.le_refl _) r1
  have L1 : Hid _ := P0.out.blk L0.out (Nat.le_succ _) r1
  have hc : w1.cell? ⟨w.heap.size + 1, 0, none⟩ = some (.int .i64 0) := L1.out.cell 0
  have hf : w1.frozen? ⟨w.heap.size + 1, 0, none⟩ = false := L1.out.fr 0
  clear r1 HC HW P0 R0 L0 SZ
  go_upto_region 3 with fail
  obtain ⟨w2, hw2⟩ : ∃ w2, w2 = w1.setCell ⟨w.heap.size + 1, 0, none⟩ (.int .i64 K) := ⟨_, rfl⟩
  have ch : Chg (fun k => k = w.heap.size + 1) w1 w2 := by rw [hw2]; exact (Chg.refl (fun k => k = w.heap.size + 1) w1).setCell (p := ⟨w.heap.size + 1, 0, none⟩) (.inl rfl) _
  have P2 : Hid (At w w2 p 195 tv T a1 e1) := by rw [hw2]; exact P1.out.set (g := w.heap.size + 1) (Nat.le_succ _) 0 (.int .i64 K)
  have L2 : Hid (Blk w2 (w.heap.size + 1) (opC K 0 (.slice none 0 0) 0 z32 (.slice none 0 0)) 220) := by rw [hw2]; exact L1.out.set 0 (.int .i64 K)
  have R2 : Hid (Blk w2 w.heap.size Z 220) := R1.out.keep ch (by omega)
  have S2 : Hid (w.heap.size + 2 ≤ w2.heap.size) := Nat.le_trans S1.out ch.size
  rw [← hw2]
  clear hw2 ch P1 L1 R1 S1 hc hf
  have k0 : w2.cell? ⟨w.heap.size + 1, 0, none⟩ = some (.int .i64 K) := L2.out.cell 0
  by_cases q1 : K = 1
  · subst q1
    have h9 := HSS.out
    rw [if_pos rfl] at h9
    clear HSS
    have H2 : Hid _ := rText_any P2.out.rp.1 65536 (by decide) (by decide)
    obtain ⟨vb, a2, e2, hV⟩ : ∃ vb a2 e2, textS T a1 e1 65536 = (vb, a2, e2) := ⟨_, _, _, rfl⟩
    simp only [hV] at H2 h9
    have HS1 : Hid _ := h9
    clear hV h9
    go_wp2_with fail
    refine Calls.mono H2.out ?_
    rintro e w3 ⟨s, rfl, o2, r2, hs2⟩
    obtain ⟨sa, sc, hsf⟩ := Own.form o2
    have P3 : Hid _ := P2.out.call r2
    have R3 : Hid _ := P2.out.blk R2.out (Nat.le_refl _) r2
    have L3 : Hid _ := P2.out.blk L2.out (Nat.le_succ _) r2
    have HS : Hid (∀ k, s.ownBlock = some k → w.heap.size + 2 ≤ k) := fun k hk => by have h9 := hs2 k hk; have h8 := S2.out; omega
    have O2 : Hid _ := o2
    obtain ⟨n, hn⟩ : ∃ n, n = vb.length := ⟨_, rfl⟩
    rw [← hn] at hsf
    subst hsf
    have hc2 : w3.cell? ⟨w.heap.size + 1, 36, none⟩ = some (.slice none 0 0) := by rw [L3.out.cell]; exact opC_v _ _ _ _ _ _ (by simp [z32])
    have hf2 : w3.frozen? ⟨w.heap.size + 1, 36, none⟩ = false := L3.out.fr 36
    have ch : Chg (fun k => k = w.heap.size + 1) w3 (w3.setCell ⟨w.heap.size + 1, 36, none⟩ (.slice sa n sc)) := (Chg.refl (fun k => k = w.heap.size + 1) w3).setCell (p := ⟨w.heap.size + 1, 36, none⟩) (.inl rfl) _
    have P4 : Hid _ := P3.out.set (g := w.heap.size + 1) (Nat.le_succ _) 36 (.slice sa n sc)
    have L4 : Hid (Blk (w3.setCell ⟨w.heap.size + 1, 36, none⟩ (.slice sa n sc)) (w.heap.size + 1) (opC 1 0 (.slice none 0 0) 0 z32 (.slice sa n sc)) 220) := by
      have h9 := L3.out.set 36 (.slice sa n sc)
      rwa [opC_putv _ _ _ _ _ _ _ (by simp [z32])] at h9
    have R4 : Hid _ := R3.out.keep ch (by omega)
    have O3 : Hid (Own (w3.setCell ⟨w.heap.size + 1, 36, none⟩ (.slice sa n sc)) (.slice sa n sc) vb) := Own.kept O2.out ch (fun k hk e => by have := HS.out k hk; omega)
    clear o2 r2 hs2 ch P2 L2 R2 P3 L3 R3 O2 H2 hn k0
    go_wp2_with (first
      | (refine wpList_load_part rfl 220 (.tmp 3) rfl (w.heap.size + 1) 0 (opC 1 0 (.slice none 0 0) 0 z32 (.slice sa n sc)) rfl L4.out (by simp) Try.underlying220 rfl (Try.ocSz _ _ _ _ _ _ (by simp [z32])) ?_)
      | (refine wpList_store_part rfl 220 (.tmp 2) (.tmp 46) rfl w.heap.size 0 (opC 1 0 (.slice none 0 0) 0 z32 (.slice sa n sc)) rfl rfl R4.out (by rw [opC_len, LZ]; simp [z32]) (Try.ocSz _ _ _ _ _ _ (by simp [z32])) (opC_one _ _ rfl _ _ rfl) ?_; intro w8 b8 c8; rw [splice_all _ _ (by rw [opC_len, LZ]; simp [z32])] at b8; have RR : Hid _ := b8; have PP : Hid _ := P4.out.chg c8 (Nat.le_refl _); have CC : Hid _ := c8; clear b8 c8))
    exact bodyPost_ret (v := .agg (opC 1 0 (.slice none 0 0) 0 z32 (.slice sa n sc)).toArray) (results_row1 rfl _ _ w.heap.size 220 _ _ _ rfl RR.out.eq Try.underlying220 rfl (Try.ocSz _ _ _ _ _ _ (by simp [z32]))) rfl (by rw [HS1.out]; exact ⟨⟨.slice none 0 0, .slice sa n sc, rfl, ⟨rfl, rfl⟩, Own.nil _, Own.kept O3.out CC.out (fun k hk e => by have := HS.out k hk; omega), PP.out.rp, fun k hk => by rcases hk with hk | hk; simp [Value.ownBlock] at hk; have := HS.out k hk; omega⟩⟩)
  · by_cases q2 : K = 2
    · subst q2
      have h9 := HSS.out
      rw [if_neg (by decide), if_pos rfl] at h9
      clear HSS
      have H2 : Hid _ := rSum_any P2.out.rp.1
      obtain ⟨y, hy⟩ : ∃ y, y = pad 32 (pL T a1 e1 32) := ⟨_, rfl⟩
      have HY : y.length = 32 := by rw [hy]; exact pad_len (pL_len T a1 e1 32)
      obtain ⟨a2, ha2⟩ : ∃ a2, a2 = pA T a1 e1 32 := ⟨_, rfl⟩
      obtain ⟨e2, he2⟩ : ∃ e2, e2 = pE T a1 e1 32 := ⟨_, rfl⟩
      simp only [← hy, ← ha2, ← he2] at H2 h9
      have HS1 : Hid _ := h9
      clear hy ha2 he2 q1 h9
      go_wp2_with fail
      refine Calls.mono H2.out ?_
      rintro e w3 ⟨rfl, r2⟩
      have P3 : Hid _ := P2.out.call r2
      have R3 : Hid _ := P2.out.blk R2.out (Nat.le_refl _) r2
      have L3 : Hid _ := P2.out.blk L2.out (Nat.le_succ _) r2
      clear r2 P2 L2 R2 H2 k0
      go_upto_region 16 with (refine wpList_store_part rfl 31 (.tmp 29) (.tmp 28) rfl (w.heap.size + 1) 4 (bs y) rfl rfl L3.out (by simp [opC, bs, HY, z32]) (Try.sumSz' y HY) (bs_one y) ?_; intro w4 b7 c7; rw [opC_putsm _ _ _ _ _ _ _ (by simp [HY, z32])] at b7; have L4 : Hid _ := b7; have R4 : Hid _ := R3.out.keep c7 (by omega); have P4 : Hid _ := P3.out.chg c7 (Nat.le_succ _); clear b7 c7)
      go_wp2_with (first
        | (refine wpList_load_part rfl 220 (.tmp 3) rfl (w.heap.size + 1) 0 (opC 2 0 (.slice none 0 0) 0 y (.slice none 0 0)) rfl L4.out (by simp) Try.underlying220 rfl (Try.ocSz _ _ _ _ _ _ HY) ?_)
        | (refine wpList_store_part rfl 220 (.tmp 2) (.tmp 46) rfl w.heap.size 0 (opC 2 0 (.slice none 0 0) 0 y (.slice none 0 0)) rfl rfl R4.out (by rw [opC_len, LZ]; omega) (Try.ocSz _ _ _ _ _ _ HY) (opC_one _ _ rfl _ _ rfl) ?_; intro w8 b8 c8; rw [splice_all _ _ (by rw [opC_len, LZ]; omega)] at b8; have RR : Hid _ := b8; have PP : Hid _ := P4.out.chg c8 (Nat.le_refl _); have CC : Hid _ := c8; clear b8 c8))
      exact bodyPost_ret (v := .agg (opC 2 0 (.slice none 0 0) 0 y (.slice none 0 0)).toArray) (results_row1 rfl _ _ w.heap.size 220 _ _ _ rfl RR.out.eq Try.underlying220 rfl (Try.ocSz _ _ _ _ _ _ HY)) rfl (by rw [HS1.out]; exact ⟨⟨.slice none 0 0, .slice none 0 0, rfl, ⟨rfl, rfl⟩, Own.nil _, Own.nil _, PP.out.rp, fun k hk => by rcases hk with hk | hk <;> simp [Value.ownBlock] at hk⟩⟩)
    · by_cases q3 : K = 3
      · subst q3
        have h9 := HSS.out
        rw [if_neg (by decide), if_neg (by decide), if_pos rfl] at h9
        have HS1 : Hid _ := h9
        clear q1 q2 h9 HSS
        go_upto_region 16 with fail
        clear k0
        go_wp2_with (first
          | (refine wpList_load_part rfl 220 (.tmp 3) rfl (w.heap.size + 1) 0 (opC 3 0 (.slice none 0 0) 0 z32 (.slice none 0 0)) rfl L2.out (by simp) Try.underlying220 rfl (Try.ocSz _ _ _ _ _ _ (by simp [z32])) ?_)
          | (refine wpList_store_part rfl 220 (.tmp 2) (.tmp 46) rfl w.heap.size 0 (opC 3 0 (.slice none 0 0) 0 z32 (.slice none 0 0)) rfl rfl R2.out (by rw [opC_len, LZ]; simp [z32]) (Try.ocSz _ _ _ _ _ _ (by simp [z32])) (opC_one _ _ rfl _ _ rfl) ?_; intro w8 b8 c8; rw [splice_all _ _ (by rw [opC_len, LZ]; simp [z32])] at b8; have RR : Hid _ := b8; have PP : Hid _ := P2.out.chg c8 (Nat.le_refl _); have CC : Hid _ := c8; clear b8 c8))
        exact bodyPost_ret (v := .agg (opC 3 0 (.slice none 0 0) 0 z32 (.slice none 0 0)).toArray) (results_row1 rfl _ _ w.heap.size 220 _ _ _ rfl RR.out.eq Try.underlying220 rfl (Try.ocSz _ _ _ _ _ _ (by simp [z32]))) rfl (by rw [HS1.out]; exact ⟨⟨.slice none 0 0, .slice none 0 0, rfl, ⟨rfl, rfl⟩, Own.nil _, Own.nil _, PP.out.rp, fun k hk => by rcases hk with hk | hk <;> simp [Value.ownBlock] at hk⟩⟩)
      · by_cases q4 : K = 4
        · subst q4
          have h9 := HSS.out
          rw [if_neg (by decide), if_neg (by decide), if_neg (by decide), if_pos (.inl rfl)] at h9
          clear q1 q2 q3 HSS
          have H2 : Hid _ := nb_any P2.out (Nat.le_succ _) L2.out
          have P2B : Hid (At w w2 p 195 tv T a1 e1) := P2.out
          obtain ⟨N, hN⟩ : ∃ N, N = nbS T a1 e1 := ⟨_, rfl⟩
          rw [← hN] at H2 h9
          clear hN
          have HSN : Hid _ := h9
          clear h9
          go_wp2_with fail
          refine Calls.mono H2.out ?_
          rintro e w3 ⟨rfl, s, P3, L3, o3, h1, hs, ck⟩
          obtain ⟨sa, sc, hsf⟩ := Own.form o3
          have R3 : Hid (Blk w3 w.heap.size Z 220) := R2.out.keep ck (by have := P2B.out.plt; omega)
          have HS : Hid (∀ k, s.ownBlock = some k → w.heap.size + 2 ≤ k) := fun k hk => by have h9 := hs k hk; have h8 := S2.out; omega
          have O3 : Hid _ := o3
          obtain ⟨n, hn⟩ : ∃ n, n = N.kl.length := ⟨_, rfl⟩
          rw [← hn] at hsf
          subst hsf
          have P3H : Hid _ := P3
          have L3H : Hid _ := L3
          clear P3 L3 o3 h1 hs ck hn P2 P2B L2 R2 H2 k0
          have H3 : Hid _ := rSum_any P3H.out.rp.1
          obtain ⟨y, hy⟩ : ∃ y, y = pad 32 (pL T N.at_ N.err 32) := ⟨_, rfl⟩
          have HY : y.length = 32 := by rw [hy]; exact pad_len (pL_len T N.at_ N.err 32)
          obtain ⟨a2, ha2⟩ : ∃ a2, a2 = pA T N.at_ N.err 32 := ⟨_, rfl⟩
          obtain ⟨e2, he2⟩ : ∃ e2, e2 = pE T N.at_ N.err 32 := ⟨_, rfl⟩
          have h9 := HSN.out
          simp only [← hy, ← ha2, ← he2] at H3 h9
          have HS1 : Hid _ := h9
          clear hy ha2 he2 h9 HSN
          go_wp2_with fail
          refine Calls.mono H3.out ?_
          rintro e w4 ⟨rfl, r2⟩
          have P4 : Hid _ := P3H.out.call r2
          have R4 : Hid _ := P3H.out.blk R3.out (Nat.le_refl _) r2
          have L4 : Hid _ := P3H.out.blk L3H.out (Nat.le_succ _) r2
          have O4 : Hid (Own w4 (.slice sa n sc) N.kl) := Own.kept O3.out r2.2 (fun k hk e => by have := HS.out k hk; omega)
          clear r2 P3H L3H R3 O3 H3
          go_upto_region 16 with (refine wpList_store_part rfl 31 (.tmp 41) (.tmp 40) rfl (w.heap.size + 1) 4 (bs y) rfl rfl L4.out (by simp [opC, bs, HY, z32]) (Try.sumSz' y HY) (bs_one y) ?_; intro w5 b7 c7; rw [opC_putsm _ _ _ _ _ _ _ (by simp [HY, z32])] at b7; have L5 : Hid _ := b7; have R5 : Hid _ := R4.out.keep c7 (by omega); have P5 : Hid _ := P4.out.chg c7 (Nat.le_succ _); have O5 : Hid (Own w5 (.slice sa n sc) N.kl) := Own.kept O4.out c7 (fun k hk e => by have := HS.out k hk; omega); clear b7 c7)
          go_wp2_with (first
            | (refine wpList_load_part rfl 220 (.tmp 3) rfl (w.heap.size + 1) 0 (opC 4 N.lv (.slice sa n sc) N.ct y (.slice none 0 0)) rfl L5.out (by simp) Try.underlying220 rfl (Try.ocSz _ _ _ _ _ _ HY) ?_)
            | (refine wpList_store_part rfl 220 (.tmp 2) (.tmp 46) rfl w.heap.size 0 (opC 4 N.lv (.slice sa n sc) N.ct y (.slice none 0 0)) rfl rfl R5.out (by rw [opC_len, LZ]; omega) (Try.ocSz _ _ _ _ _ _ HY) (opC_one _ _ rfl _ _ rfl) ?_; intro w8 b8 c8; rw [splice_all _ _ (by rw [opC_len, LZ]; omega)] at b8; have RR : Hid _ := b8; have PP : Hid _ := P5.out.chg c8 (Nat.le_refl _); have CC : Hid _ := c8; clear b8 c8))
          exact bodyPost_ret (v := .agg (opC 4 N.lv (.slice sa n sc) N.ct y (.slice none 0 0)).toArray) (results_row1 rfl _ _ w.heap.size 220 _ _ _ rfl RR.out.eq Try.underlying220 rfl (Try.ocSz _ _ _ _ _ _ HY)) rfl (by rw [HS1.out]; exact ⟨⟨.slice sa n sc, .slice none 0 0, rfl, ⟨rfl, rfl⟩, Own.kept O5.out CC.out (fun k hk e => by have := HS.out k hk; omega), Own.nil _, PP.out.rp, fun k hk => by rcases hk with hk | hk; have := HS.out k hk; omega; simp [Value.ownBlock] at hk⟩⟩)
        · by_cases q5 : K = 5
          · subst q5
            have h9 := HSS.out
            rw [if_neg (by decide), if_neg (by decide), if_neg (by decide), if_pos (.inr rfl)] at h9
            clear q1 q2 q3 q4 HSS
            have H2 : Hid _ := nb_any P2.out (Nat.le_succ _) L2.out
            have P2B : Hid (At w w2 p 195 tv T a1 e1) := P2.out
            obtain ⟨N, hN⟩ : ∃ N, N = nbS T a1 e1 := ⟨_, rfl⟩
            rw [← hN] at H2 h9
            clear hN
            have HSN : Hid _ := h9
            clear h9
            go_wp2_with fail
            refine Calls.mono H2.out ?_
            rintro e w3 ⟨rfl, s, P3, L3, o3, h1, hs, ck⟩
            obtain ⟨sa, sc, hsf⟩ := Own.form o3
            have R3 : Hid (Blk w3 w.heap.size Z 220) := R2.out.keep ck (by have := P2B.out.plt; omega)
            have HS : Hid (∀ k, s.ownBlock = some k → w.heap.size + 2 ≤ k) := fun k hk => by have h9 := hs k hk; have h8 := S2.out; omega
            have O3 : Hid _ := o3
            obtain ⟨n, hn⟩ : ∃ n, n = N.kl.length := ⟨_, rfl⟩
            rw [← hn] at hsf
            subst hsf
            have P3H : Hid _ := P3
            have L3H : Hid _ := L3
            clear P3 L3 o3 h1 hs ck hn P2 P2B L2 R2 H2 k0
            have H3 : Hid _ := rSum_any P3H.out.rp.1
            obtain ⟨y, hy⟩ : ∃ y, y = pad 32 (pL T N.at_ N.err 32) := ⟨_, rfl⟩
            have HY : y.length = 32 := by rw [hy]; exact pad_len (pL_len T N.at_ N.err 32)
            obtain ⟨a2, ha2⟩ : ∃ a2, a2 = pA T N.at_ N.err 32 := ⟨_, rfl⟩
            obtain ⟨e2, he2⟩ : ∃ e2, e2 = pE T N.at_ N.err 32 := ⟨_, rfl⟩
            have h9 := HSN.out
            simp only [← hy, ← ha2, ← he2] at H3 h9
            have HS1 : Hid _ := h9
            clear hy ha2 he2 h9 HSN
            go_wp2_with fail
            refine Calls.mono H3.out ?_
            rintro e w4 ⟨rfl, r2⟩
            have P4 : Hid _ := P3H.out.call r2
            have R4 : Hid _ := P3H.out.blk R3.out (Nat.le_refl _) r2
            have L4 : Hid _ := P3H.out.blk L3H.out (Nat.le_succ _) r2
            have O4 : Hid (Own w4 (.slice sa n sc) N.kl) := Own.kept O3.out r2.2 (fun k hk e => by have := HS.out k hk; omega)
            clear r2 P3H L3H R3 O3 H3
            go_upto_region 16 with (refine wpList_store_part rfl 31 (.tmp 41) (.tmp 40) rfl (w.heap.size + 1) 4 (bs y) rfl rfl L4.out (by simp [opC, bs, HY, z32]) (Try.sumSz' y HY) (bs_one y) ?_; intro w5 b7 c7; rw [opC_putsm _ _ _ _ _ _ _ (by simp [HY, z32])] at b7; have L5 : Hid _ := b7; have R5 : Hid _ := R4.out.keep c7 (by omega); have P5 : Hid _ := P4.out.chg c7 (Nat.le_succ _); have O5 : Hid (Own w5 (.slice sa n sc) N.kl) := Own.kept O4.out c7 (fun k hk e => by have := HS.out k hk; omega); clear b7 c7)
            go_wp2_with (first
              | (refine wpList_load_part rfl 220 (.tmp 3) rfl (w.heap.size + 1) 0 (opC 5 N.lv (.slice sa n sc) N.ct y (.slice none 0 0)) rfl L5.out (by simp) Try.underlying220 rfl (Try.ocSz _ _ _ _ _ _ HY) ?_)
              | (refine wpList_store_part rfl 220 (.tmp 2) (.tmp 46) rfl w.heap.size 0 (opC 5 N.lv (.slice sa n sc) N.ct y (.slice none 0 0)) rfl rfl R5.out (by rw [opC_len, LZ]; omega) (Try.ocSz _ _ _ _ _ _ HY) (opC_one _ _ rfl _ _ rfl) ?_; intro w8 b8 c8; rw [splice_all _ _ (by rw [opC_len, LZ]; omega)] at b8; have RR : Hid _ := b8; have PP : Hid _ := P5.out.chg c8 (Nat.le_refl _); have CC : Hid _ := c8; clear b8 c8))
            exact bodyPost_ret (v := .agg (opC 5 N.lv (.slice sa n sc) N.ct y (.slice none 0 0)).toArray) (results_row1 rfl _ _ w.heap.size 220 _ _ _ rfl RR.out.eq Try.underlying220 rfl (Try.ocSz _ _ _ _ _ _ HY)) rfl (by rw [HS1.out]; exact ⟨⟨.slice sa n sc, .slice none 0 0, rfl, ⟨rfl, rfl⟩, Own.kept O5.out CC.out (fun k hk e => by have := HS.out k hk; omega), Own.nil _, PP.out.rp, fun k hk => by rcases hk with hk | hk; have := HS.out k hk; omega; simp [Value.ownBlock] at hk⟩⟩)
          · by_cases q6 : K = 6
            · subst q6
              have h9 := HSS.out
              rw [if_neg (by decide), if_neg (by decide), if_neg (by decide), if_neg (by decide), if_pos rfl] at h9
              clear q1 q2 q3 q4 q5 HSS
              have H2 : Hid _ := nb_any P2.out (Nat.le_succ _) L2.out
              have P2B : Hid (At w w2 p 195 tv T a1 e1) := P2.out
              obtain ⟨N, hN⟩ : ∃ N, N = nbS T a1 e1 := ⟨_, rfl⟩
              rw [← hN] at H2 h9
              clear hN
              have HSN : Hid _ := h9
              clear h9
              go_wp2_with fail
              refine Calls.mono H2.out ?_
              rintro e w3 ⟨rfl, s, P3, L3, o3, h1, hs, ck⟩
              obtain ⟨sa, sc, hsf⟩ := Own.form o3
              have R3 : Hid (Blk w3 w.heap.size Z 220) := R2.out.keep ck (by have := P2B.out.plt; omega)
              have HS : Hid (∀ k, s.ownBlock = some k → w.heap.size + 2 ≤ k) := fun k hk => by have h9 := hs k hk; have h8 := S2.out; omega
              have O3 : Hid _ := o3
              obtain ⟨n, hn⟩ : ∃ n, n = N.kl.length := ⟨_, rfl⟩
              rw [← hn] at hsf
              subst hsf
              have P3H : Hid _ := P3
              have L3H : Hid _ := L3
              clear P3 L3 o3 h1 hs ck hn P2 P2B L2 R2 H2 k0
              have HS1 : Hid _ := HSN.out
              clear HSN
              go_upto_region 16 with fail
              go_wp2_with (first
                | (refine wpList_load_part rfl 220 (.tmp 3) rfl (w.heap.size + 1) 0 (opC 6 N.lv (.slice sa n sc) N.ct z32 (.slice none 0 0)) rfl L3H.out (by simp) Try.underlying220 rfl (Try.ocSz _ _ _ _ _ _ (by simp [z32])) ?_)
                | (refine wpList_store_part rfl 220 (.tmp 2) (.tmp 46) rfl w.heap.size 0 (opC 6 N.lv (.slice sa n sc) N.ct z32 (.slice none 0 0)) rfl rfl R3.out (by rw [opC_len, LZ]; simp [z32]) (Try.ocSz _ _ _ _ _ _ (by simp [z32])) (opC_one _ _ rfl _ _ rfl) ?_; intro w8 b8 c8; rw [splice_all _ _ (by rw [opC_len, LZ]; simp [z32])] at b8; have RR : Hid _ := b8; have PP : Hid _ := P3H.out.chg c8 (Nat.le_refl _); have CC : Hid _ := c8; clear b8 c8))
              exact bodyPost_ret (v := .agg (opC 6 N.lv (.slice sa n sc) N.ct z32 (.slice none 0 0)).toArray) (results_row1 rfl _ _ w.heap.size 220 _ _ _ rfl RR.out.eq Try.underlying220 rfl (Try.ocSz _ _ _ _ _ _ (by simp [z32]))) rfl (by rw [HS1.out]; exact ⟨⟨.slice sa n sc, .slice none 0 0, rfl, ⟨rfl, rfl⟩, Own.kept O3.out CC.out (fun k hk e => by have := HS.out k hk; omega), Own.nil _, PP.out.rp, fun k hk => by rcases hk with hk | hk; have := HS.out k hk; omega; simp [Value.ownBlock] at hk⟩⟩)
            · have h9 := HSS.out
              rw [if_neg q1, if_neg q2, if_neg q3, if_neg (by omega), if_neg q6] at h9
              have HS1 : Hid _ := h9
              clear h9 HSS
              have H2 : Hid _ := rFail_any P2.out.rp.1 24
              have i1 : ((K : Int) == 1) = false := by simp; omega
              have i2 : ((K : Int) == 2) = false := by simp; omega
              have i3 : ((K : Int) == 3) = false := by simp; omega
              have i4 : ((K : Int) == 4) = false := by simp; omega
              have i5 : ((K : Int) == 5) = false := by simp; omega
              have i6 : ((K : Int) == 6) = false := by simp; omega
              go_wp2_with fail
              refine Calls.mono H2.out ?_
              rintro e w3 ⟨rfl, r2⟩
              have P3 : Hid _ := P2.out.call r2
              have R3 : Hid _ := P2.out.blk R2.out (Nat.le_refl _) r2
              have L3 : Hid _ := P2.out.blk L2.out (Nat.le_succ _) r2
              clear r2 P2 L2 R2 H2 k0 i1 i2 i3 i4 i5 i6
              go_wp2_with (first
                | (refine wpList_load_part rfl 220 (.tmp 3) rfl (w.heap.size + 1) 0 (opC K 0 (.slice none 0 0) 0 z32 (.slice none 0 0)) rfl L3.out (by simp) Try.underlying220 rfl (Try.ocSz _ _ _ _ _ _ (by simp [z32])) ?_)
                | (refine wpList_store_part rfl 220 (.tmp 2) (.tmp 46) rfl w.heap.size 0 (opC K 0 (.slice none 0 0) 0 z32 (.slice none 0 0)) rfl rfl R3.out (by rw [opC_len, LZ]; simp [z32]) (Try.ocSz _ _ _ _ _ _ (by simp [z32])) (opC_one _ _ rfl _ _ rfl) ?_; intro w8 b8 c8; rw [splice_all _ _ (by rw [opC_len, LZ]; simp [z32])] at b8; have RR : Hid _ := b8; have PP : Hid _ := P3.out.chg c8 (Nat.le_refl _); have CC : Hid _ := c8; clear b8 c8))
              exact bodyPost_ret (v := .agg (opC K 0 (.slice none 0 0) 0 z32 (.slice none 0 0)).toArray) (results_row1 rfl _ _ w.heap.size 220 _ _ _ rfl RR.out.eq Try.underlying220 rfl (Try.ocSz _ _ _ _ _ _ (by simp [z32]))) rfl (by rw [HS1.out]; exact ⟨⟨.slice none 0 0, .slice none 0 0, rfl, ⟨rfl, rfl⟩, Own.nil _, Own.nil _, PP.out.rp, fun k hk => by rcases hk with hk | hk <;> simp [Value.ownBlock] at hk⟩⟩)
end Go.Proofs.Ytjmeaebehndheaa
