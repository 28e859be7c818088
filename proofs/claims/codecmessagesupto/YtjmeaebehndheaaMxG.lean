/-
  The reference reads messages.
-/
import Derived.Test.YtjmeaebehndheaaMxF
namespace Go.Proofs.Ytjmeaebehndheaa
open Go.RowKit

/-- Where it goes well, the reference reads what the code reads. -/
theorem fldX_same (T : List Int) (a : Nat) (err : Int) : (fldX T (lowN (pL T a err 1)) (pA T a err 1) (pE T a err 1)).at_ = (msgS T a err).at_ ∧ (fldX T (lowN (pL T a err 1)) (pA T a err 1) (pE T a err 1)).err = (msgS T a err).err ∧ ((msgS T a err).err = 0 → fldX T (lowN (pL T a err 1)) (pA T a err 1) (pE T a err 1) = msgS T a err) := by
  unfold msgS
  simp only
  obtain ⟨K, hK⟩ : ∃ K, K = lowN (pL T a err 1) := ⟨_, rfl⟩
  obtain ⟨b, hb⟩ : ∃ b, b = pA T a err 1 := ⟨_, rfl⟩
  obtain ⟨e, he⟩ : ∃ e, e = pE T a err 1 := ⟨_, rfl⟩
  simp only [← hK, ← hb, ← he]
  by_cases h : K = 15
  · subst h
    unfold fldX
    simp only [show ¬ (15 : Nat) = 1 by decide, show ¬ (15 : Nat) = 2 by decide, show ¬ (15 : Nat) = 3 by decide, show ¬ (15 : Nat) = 4 by decide, show ¬ (15 : Nat) = 5 by decide, show ¬ (15 : Nat) = 11 by decide, show ¬ (15 : Nat) = 12 by decide, show ¬ ((15 : Nat) = 13 ∨ (15 : Nat) = 14) by decide, if_false, if_true]
    obtain ⟨q1, q2⟩ := manyX_same T (uintS T b e 4194304).1 (uintS T b e 4194304).2.1 (uintS T b e 4194304).2.2
    exact ⟨by rw [q1], by rw [q1], fun hz => by rw [q2 hz]⟩
  · unfold fldX
    simp only [if_neg h]
    exact ⟨trivial, trivial, fun _ => trivial⟩

theorem fldX_len (T : List Int) (K a : Nat) (err : Int) : (fldX T K a err).hl.length = 32 ∧ (fldX T K a err).lb.length = 32 := by
  unfold fldX
  simp only
  split
  · exact ⟨z32_len, z32_len⟩
  split
  · exact ⟨z32_len, z32_len⟩
  split
  · exact ⟨z32_len, z32_len⟩
  split
  · exact ⟨z32_len, z32_len⟩
  split
  · exact ⟨z32_len, z32_len⟩
  split
  · exact ⟨pad32_len _ _ _, pad32_len _ _ _⟩
  split
  · exact ⟨z32_len, z32_len⟩
  split
  · exact ⟨z32_len, z32_len⟩
  split
  · exact ⟨z32_len, z32_len⟩
  split
  · exact ⟨z32_len, z32_len⟩
  · exact ⟨z32_len, z32_len⟩

set_option maxRecDepth 100000 in
set_option maxHeartbeats 8000000 in
theorem xReadMessage_any {w : World} {s : Value} {T : List Int} (h : In w s T) (hT : T.length ≤ 8388608) :
    Calls Try.prog 37 #[s] w fun e w' => ∃ C, e = .returned (.tuple #[.agg C.toArray, .int .i64 (msgE T)]) ∧ Below w.heap.size w w' ∧ (C.length = msZ.length ∧ ∀ u ∈ C, u.oneCell' = true) ∧ (msgE T = 0 → MsIs w' w.heap.size (msgS T 0 0) C) ∧ (¬ msgE T = 0 → C = msZ) := by
  obtain ⟨W0, hW0⟩ : ∃ W0, W0 = (w.alloc (.cells msZ.toArray 95)).alloc (.cells #[s, .int .i64 0, .int .i64 0] 64) := ⟨_, rfl⟩
  have hb1 : Below w.heap.size w (w.alloc (.cells msZ.toArray 95)) := (Below.refl _ _).alloc (Nat.le_refl _) _
  have hb : Below w.heap.size w W0 := by rw [hW0]; exact hb1.alloc (by simp) _
  have A0 : At W0 W0 (w.heap.size + 1) 64 s T 0 0 := by
    have := In.at h 64 hb1
    rw [World.size_alloc, ← hW0] at this
    exact this
  have S0 : W0.heap.size = w.heap.size + 2 := by rw [hW0]; simp
  have B0 : Blk W0 w.heap.size msZ 95 := by rw [hW0]; exact (Blk.made w _ 95).alloc _
  obtain ⟨W1, hW1⟩ : ∃ W1, W1 = ((w.alloc (.cells Try.zeroCells95 95)).alloc (.cells #[s, .int .i64 0, .int .i64 0] 64)).alloc (.cells Try.zeroCells95 95) := ⟨_, rfl⟩
  have hW2 : W1 = W0.alloc (.cells msZ.toArray 95) := by rw [hW1, hW0, show Try.zeroCells95 = msZ.toArray by kernel_rfl]
  have A1 : Hid (At W0 W1 (w.heap.size + 1) 64 s T 0 0) := by rw [hW2]; exact A0.alloc _
  have R1 : Hid (Blk W1 w.heap.size msZ 95) := by rw [hW2]; exact B0.alloc _
  have L1 : Hid (Blk W1 (w.heap.size + 2) msZ 95) := by
    have h9 := Blk.made W0 msZ 95
    rw [S0, ← hW2] at h9
    exact h9
  have KL : lowN (pL T 0 0 1) < 256 := low1 A0.rp.1
  obtain ⟨q1, q2, q3⟩ := fldX_same T 0 0
  have HC : Hid _ := xByteV A1.out.rp.1
  obtain ⟨K, hK⟩ : ∃ K, K = lowN (pL T 0 0 1) := ⟨_, rfl⟩
  obtain ⟨a1, ha1⟩ : ∃ a1, a1 = pA T 0 0 1 := ⟨_, rfl⟩
  obtain ⟨e1, he1⟩ : ∃ e1, e1 = pE T 0 0 1 := ⟨_, rfl⟩
  simp only [← hK, ← ha1, ← he1] at HC KL q1 q2 q3
  obtain ⟨S, hS⟩ : ∃ S, S = fldX T K a1 e1 := ⟨_, rfl⟩
  have SL := msgS_len T 0 0
  unfold msgE
  obtain ⟨SM, hSM⟩ : ∃ SM, SM = msgS T 0 0 := ⟨_, rfl⟩
  rw [← hSM] at q1 q2 q3 SL ⊢
  rw [← hS] at q1 q2 q3
  have SL2 : S.hl.length = 32 ∧ S.lb.length = 32 := by rw [hS]; exact fldX_len T K a1 e1
  have HEN : ∀ w', RS w' (w.heap.size + 1) 64 s T S.at_ S.err → _ := fun w' h => xEnd_any h
  obtain ⟨E, hE⟩ : ∃ E, E = endE T SM.at_ SM.err := ⟨_, rfl⟩
  rw [← hE]
  have HE2 : endE T S.at_ S.err = E := by rw [q1, q2, hE]
  simp only [HE2] at HEN
  have QQ : Hid (E = 0 → S = SM) := fun e => q3 (by
    rw [hE] at e
    unfold endE at e
    split at e
    · exact absurd e (by decide)
    · exact e)
  have HF : ∀ w', RS w' (w.heap.size + 1) 64 s T a1 e1 → _ := fun w' h => xFields_any h K KL
  rw [← hS] at HF
  have KF : Hid _ := HF
  have KE : Hid _ := HEN
  have HB : Hid _ := hb
  have HW : Hid _ := hW1
  have HS0 : Hid _ := S0
  have hwK : IntKind.wrap .i64 (K : Int) = (K : Int) := by rw [IntKind.wrap_i64]; omega
  have hgt : ¬ (8388608 : Int) < (T.length : Int) := by omega
  obtain ⟨a0, c0, hs, _⟩ := h.cap
  clear h hb1 hb A0 B0 hK ha1 he1 q1 q2 q3 hE HE2 HF HEN hS hSM hW0 hW1 hW2 S0
  subst hs
  go_enter Try.func37, Try.ntmps37
  go_upto_region 5 with fail
  rw [← HW.out]
  clear HW
  go_wp2_with fail
  refine Calls.mono HC.out ?_
  rintro e w1 ⟨rfl, r1⟩
  have A2 : Hid _ := A1.out.call r1
  have R2 : Hid _ := A1.out.blk' R1.out (by omega) r1
  have L2 : Hid _ := A1.out.blk' L1.out (by omega) r1
  clear r1 HC A1 R1 L1
  have hc : w1.cell? ⟨w.heap.size + 2, 0, none⟩ = some (.int .i64 0) := L2.out.cell 0
  have hf : w1.frozen? ⟨w.heap.size + 2, 0, none⟩ = false := L2.out.fr 0
  go_upto_region 6 with fail
  obtain ⟨w2, hw2⟩ : ∃ w2, w2 = w1.setCell ⟨w.heap.size + 2, 0, none⟩ (.int .i64 K) := ⟨_, rfl⟩
  have c12 : Chg (fun k => k = w.heap.size + 2) w1 w2 := by rw [hw2]; exact (Chg.refl (fun k => k = w.heap.size + 2) w1).setCell (p := ⟨w.heap.size + 2, 0, none⟩) (.inl rfl) _
  have A3 : Hid _ := A2.out.chg c12 (by have := HS0.out; omega)
  have R3 : Hid _ := R2.out.keep c12 (by omega)
  have L3 : Hid (Blk w2 (w.heap.size + 2) (msC K 0 0 (.slice none 0 0) (.slice none 0 0) false 0 z32 z32 0 0 (.slice none 0 0) (.slice none 0 0) (.slice none 0 0)) 95) := by rw [hw2]; exact L2.out.set 0 (.int .i64 K)
  rw [← hw2]
  clear hw2 c12 A2 R2 L2 hc hf hwK
  go_wp2_with (refine wpList_load_part rfl 95 (.tmp 5) rfl (w.heap.size + 2) 0 (msC K 0 0 (.slice none 0 0) (.slice none 0 0) false 0 z32 z32 0 0 (.slice none 0 0) (.slice none 0 0) (.slice none 0 0)) rfl L3.out (by simp) Try.underlying95 rfl (Try.msSz _ _ _ _ _ _ _ _ _ _ _ _ _ _ z32_len z32_len) ?_)
  refine Calls.mono (KF.out _ A3.out.rp.1) ?_
  intro e w3 hq
  obtain ⟨v1, v2, v3, v4, v5, L1, rfl, om, hops, r1, hap⟩ := hq.ex
  obtain ⟨C, hC⟩ : ∃ C, C = msC S.ki S.ver S.oth v1 v2 S.op S.hs S.hl S.lb S.ct S.co v3 v4 v5 := ⟨_, rfl⟩
  have ti : MsIs w3 w.heap.size S C := ⟨v1, v2, v3, v4, v5, L1, hC, om, hops, hap.mono (by have := A3.out.rp.2.size; have := HS0.out; omega)⟩
  obtain ⟨LC, OC⟩ := ti.len SL2.1 SL2.2
  have OCH : Hid _ := OC
  have TI : Hid _ := ti
  rw [← hC]
  have A4 : Hid _ := A3.out.call r1
  have R4 : Hid _ := A3.out.blk' R3.out (by omega) r1
  have L4 : Hid _ := A3.out.blk' L3.out (by omega) r1
  clear r1 KF A3 R3 L3 hC om hops ti OC hap hq
  go_wp2_with (refine wpList_store_part rfl 95 (.tmp 5) (.tmp 20) rfl (w.heap.size + 2) 0 C rfl rfl L4.out (by rw [LC, msZ_len, Nat.zero_add, msC_len _ _ _ _ _ _ _ _ _ _ _ _ _ _ z32_len z32_len]; exact Nat.le_refl _) (Try.msZsz C LC) OCH.out ?_; intro w4 b2 c2; rw [splice_all _ _ (by rw [LC, msZ_len, msC_len _ _ _ _ _ _ _ _ _ _ _ _ _ _ z32_len z32_len])] at b2; have L5 : Hid _ := b2; have R5 : Hid _ := R4.out.keep c2 (by omega); have A5 : Hid _ := A4.out.chg c2 (by have := HS0.out; omega); have T5 : Hid _ := TI.out.kept L4.out c2; clear b2 c2)
  refine Calls.mono (KE.out _ A5.out.rp.1) ?_
  rintro e w5 ⟨rfl, n, rfl⟩
  have A6 : Hid _ := At.drewN A5.out n
  have L6 : Hid _ := Blk.drewN L5.out n
  have R6 : Hid _ := Blk.drewN R5.out n
  have T6 : Hid _ := T5.out.fresh (drewN_chg w4 n (fun _ => False))
  obtain ⟨w5, hw5⟩ : ∃ w5, w5 = w4.drewN n := ⟨_, rfl⟩
  rw [← hw5] at A6 L6 R6 T6 ⊢
  clear hw5 A4 A5 L4 L5 R4 R5 TI T5 KE
  have F6 : Hid _ := A6.out.done HB.out (by omega)
  by_cases he : E = 0
  · have ES := QQ.out he
    subst he
    rw [ES] at T6
    clear ES
    go_wp2_with (first | (refine wpList_load_part rfl 95 (.tmp 5) rfl (w.heap.size + 2) 0 C rfl L6.out (by simp) Try.underlying95 rfl (Try.msZsz C LC) ?_) | (refine wpList_store_part rfl 95 (.tmp 2) (.tmp 27) rfl w.heap.size 0 C rfl rfl R6.out (by rw [LC, Nat.zero_add]; exact Nat.le_refl _) (Try.msZsz C LC) OCH.out ?_; intro w7 b4 c4; rw [splice_all _ _ LC] at b4; have B7 : Hid _ := b4; have F7 : Hid _ := below_chg1 F6.out c4 F6.out.size (Nat.le_refl _); have T7 : Hid _ := T6.out.kept R6.out c4; clear b4 c4))
    exact bodyPost_ret (results_row2 rfl _ _ w.heap.size 95 C _ _ rfl B7.out Try.underlying95 rfl (Try.msZsz C LC) rfl) rfl ⟨C, rfl, F7.out, ⟨LC, OCH.out⟩, by first | exact T7.out | exact ⟨T7.out, fun e => absurd rfl e⟩ | exact ⟨fun _ => T7.out, fun e => absurd rfl e⟩⟩
  · have hne : (E != 0) = true := by simpa using he
    go_wp2_with (refine wpList_store_part rfl 95 (.tmp 2) (.tmp 25) rfl w.heap.size 0 msZ rfl rfl R6.out (Nat.le_of_eq (Nat.zero_add _)) (Try.msZsz _ rfl) msZ_one ?_; intro w7 b4 c4; rw [splice_all _ _ rfl] at b4; have B7 : Hid _ := b4; have F7 : Hid _ := below_chg1 F6.out c4 F6.out.size (Nat.le_refl _); clear b4 c4)
    exact bodyPost_ret (results_row2 rfl _ _ w.heap.size 95 msZ _ _ rfl B7.out Try.underlying95 rfl (Try.msZsz _ rfl) rfl) rfl ⟨msZ, rfl, F7.out, ⟨rfl, msZ_one⟩, fun e => absurd e he, fun _ => rfl⟩
end Go.Proofs.Ytjmeaebehndheaa
