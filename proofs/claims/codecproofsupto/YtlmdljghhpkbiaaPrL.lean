/-
  The reading of proofs: how many ops are left.
-/
import Derived.Test.YtlmdljghhpkbiaaPrS
import Derived.Test.YtlmdljghhpkbiaaTwW
namespace Go.Proofs.Ytlmdljghhpkbiaa
open Go.RowKit

theorem uintS_up (T : List Int) (a : Nat) (e : Int) (m : Nat) : a ≤ (uintS T a e m).2.1 := by
  unfold uintS
  split
  · split
    split
    · split
      · exact Nat.le_refl _
      · exact Nat.le_add_right _ _
    · exact Nat.le_refl _
  · exact Nat.le_refl _
theorem textS_up (T : List Int) (a : Nat) (e m : Int) : a ≤ (textS T a e m).2.1 := by
  unfold textS
  split
  · split
    split
    · split
      · exact Nat.le_refl _
      · split
        · exact Nat.le_refl _
        · simp only; omega
    · exact Nat.le_refl _
  · exact Nat.le_refl _
theorem pA_up (T : List Int) (a : Nat) (e n : Int) : a ≤ pA T a e n := by
  unfold pA
  split
  · exact Nat.le_add_right _ _
  · exact Nat.le_refl _
theorem nbS_up (T : List Int) (a : Nat) (e : Int) : a ≤ (nbS T a e).at_ := by
  unfold nbS
  simp only
  exact Nat.le_trans (Nat.le_trans (pA_up T a e 1) (textS_up T _ _ 1024)) (uintS_up T _ _ maxN)
theorem opS_up (T : List Int) (a : Nat) (h : a < T.length) : a < (opS T a 0).at_ := by
  have h1 : pA T a 0 1 = a + 1 := by
    unfold pA
    rw [if_pos ⟨rfl, by omega, by omega⟩]
    rfl
  have key : ∀ n, pA T a 0 1 ≤ n → a < n := fun n hn => by omega
  unfold opS
  simp only
  split
  · exact key _ (textS_up _ _ _ _)
  split
  · exact key _ (pA_up _ _ _ _)
  split
  · exact key _ (Nat.le_refl _)
  split
  · exact key _ (Nat.le_trans (nbS_up _ _ _) (pA_up _ _ _ _))
  split
  · exact key _ (nbS_up _ _ _)
  · exact key _ (Nat.le_refl _)

/-- The ops that are left, as far as none is wrong. -/
def opsL (T : List Int) : Nat → Nat → Int → List OpS × Nat × Int
  | 0, a, e => ([], a, e)
  | f + 1, a, e => if e = 0 ∧ a < T.length then ((opS T a 0) :: (opsL T f (opS T a 0).at_ (opS T a 0).err).1, (opsL T f (opS T a 0).at_ (opS T a 0).err).2) else ([], a, e)
theorem opsL_stop {T : List Int} {f a : Nat} {e : Int} (h : ¬ (e = 0 ∧ a < T.length)) : opsL T f a e = ([], a, e) := by
  cases f with
  | zero => rfl
  | succ f => rw [opsL, if_neg h]
theorem opsL_step {T : List Int} {f a : Nat} (h : a < T.length) : opsL T (f + 1) a 0 = ((opS T a 0) :: (opsL T f (opS T a 0).at_ (opS T a 0).err).1, (opsL T f (opS T a 0).at_ (opS T a 0).err).2) := by rw [opsL, if_pos ⟨rfl, h⟩]
def leftN (L : List OpS × Nat × Int) : Nat := if L.2.2 = 0 then L.1.length else 0

set_option maxRecDepth 100000 in
set_option maxHeartbeats 8000000 in
theorem opsLeft_any {w : World} {p : Nat} {tv : Value} {T : List Int} {a : Nat} {err : Int} (h : RS w p 192 tv T a err) (htv : ∀ k, tv.ownBlock = some k → k < w.heap.size) {F : Nat} (hF : T.length < a + F) (hF2 : F ≤ 9223372036854775800) :
    Calls Try.prog 118 #[.pointer (some ⟨p, 0, none⟩)] w fun e w' => e = .returned (.int .i64 (leftN (opsL T F a err))) ∧ RP w w' p 192 tv T a (failE err (opsL T F a err).2.2) := by
  obtain ⟨q, hq⟩ : ∃ q, q = w.heap.size := ⟨_, rfl⟩
  obtain ⟨W, hW⟩ : ∃ W, W = w.alloc (.cells #[tv, .int .i64 a, .int .i64 err] 192) := ⟨_, rfl⟩
  have bW : Below w.heap.size w W := by rw [hW]; exact (Below.refl _ _).alloc (Nat.le_refl _) _
  have rs : RS W q 192 tv T a err := ⟨by rw [hW, hq]; exact heap_alloc_new _ _, (h.src.kept0 bW), fun e => by have := htv _ e; omega, h.le, h.big, h.byt, h.cap⟩
  have c0 : w.cell? ⟨p, 0, none⟩ = some tv := h.c0
  have c1 : w.cell? ⟨p, 1, none⟩ = some (.int .i64 a) := h.c1
  have c2 : w.cell? ⟨p, 2, none⟩ = some (.int .i64 err) := h.c2
  obtain ⟨ta, tc, htf, _⟩ := h.cap
  have plt := h.lt
  have big := h.big
  have RSQ : Hid _ := rs
  have H : Hid _ := h
  have BW : Hid _ := bW
  have HQ : Hid _ := hq
  clear h rs bW
  subst htf
  go_enter Try.func118, Try.ntmps118
  go_upto_region 2 with fail
  rw [← hq, ← hW]
  clear hW hq c0 c1 c2
  go_wp2_with fail
  go_loopw [4] (fun i wr => ∃ (j ai : Nat) (ei : Int) (L : List OpS), j ≤ F ∧ i = .int .i64 j ∧ Hid (Below w.heap.size w wr ∧ RS wr q 192 (.slice ta T.length tc) T ai ei ∧ L.length = j ∧ opsL T F a err = (L ++ (opsL T (F - j) ai ei).1, (opsL T (F - j) ai ei).2) ∧ T.length < ai + (F - j))) (fun i _ => F - (intOf i).toNat)
  case atStart => exact ⟨0, a, err, [], Nat.zero_le _, rfl, BW.out, RSQ.out, rfl, by simp, hF⟩
  case round =>
    obtain ⟨j, ai, ei, L, hj, rfl, hid⟩ := hrel
    obtain ⟨bl, rsr, hl, hop, hfu⟩ := hid.out
    have le := rsr.le
    have BL : Hid _ := bl
    have RSR : Hid _ := rsr
    have HLL : Hid _ := hl
    have HOP : Hid _ := hop
    have HE : Hid _ := rErr_any rsr
    have HLF : Hid _ := rLeft_any rsr
    clear hid bl rsr hl hop
    by_cases he : ei = 0
    · subst he
      by_cases hlt : ai < T.length
      · have hlt2 : (0 : Int) < (T.length : Int) - (ai : Int) := by omega
        go_upto_region 4 with (first
          | (go_at_call 78; refine Calls.mono HE.out ?_; rintro e w1 ⟨rfl, hw1⟩; subst hw1; clear HE)
          | (go_at_call 76; refine Calls.mono HLF.out ?_; rintro e w1 ⟨rfl, m1, hw1⟩; have RS1 : Hid (RS w1 q 192 (.slice ta T.length tc) T ai 0) := (by rw [hw1]; exact RSR.out.drewN m1); have BL1 : Hid (Below w.heap.size w w1) := (by rw [hw1]; exact ⟨BL.out.os, BL.out.tape, BL.out.output, BL.out.size, BL.out.block⟩); clear hw1 HLF))
        go_wp2_with fail
        refine Calls.mono (op_any RS1.out) ?_
        rintro e w2 ⟨⟨s, v, rfl, _, _, _, rp, _⟩⟩
        have up := opS_up T ai hlt
        have le2 := rp.1.le
        have FIN : Hid (Below w.heap.size w w2 ∧ RS w2 q 192 (.slice ta T.length tc) T (opS T ai 0).at_ (opS T ai 0).err ∧ (L ++ [opS T ai 0]).length = j + 1 ∧ opsL T F a err = ((L ++ [opS T ai 0]) ++ (opsL T (F - (j + 1)) (opS T ai 0).at_ (opS T ai 0).err).1, (opsL T (F - (j + 1)) (opS T ai 0).at_ (opS T ai 0).err).2) ∧ T.length < (opS T ai 0).at_ + (F - (j + 1))) := by
          refine ⟨BL1.out.trans (rp.2.below BL1.out.size (fun k e => by rw [e, HQ.out]; exact Nat.le_refl _)), rp.1, by rw [List.length_append, HLL.out]; rfl, ?_, by omega⟩
          rw [HOP.out, show F - j = (F - (j + 1)) + 1 by omega, opsL_step hlt]
          simp
        obtain ⟨a9, h9⟩ : ∃ a9, a9 = (opS T ai 0).at_ := ⟨_, rfl⟩
        have jF : j + 1 ≤ F := by omega
        clear rp up le2 h9
        go_wp2_with fail
        go_roundw
        case rel => exact ⟨j + 1, _, _, _, jF, by go_num, FIN.out⟩
        case measure => simp [intOf]; omega
      · have hop2 : opsL T F a err = (L, ai, 0) := by
          rw [HOP.out, opsL_stop (fun e => hlt e.2)]
          simp
        have hge : ¬ (0 : Int) < (T.length : Int) - (ai : Int) := by omega
        have F1 : Hid (leftN (opsL T F a err) = j ∧ ∀ w1, Below w.heap.size w w1 → RP w w1 p 192 (.slice ta T.length tc) T a (failE err (opsL T F a err).2.2)) := by
          rw [hop2]
          refine ⟨by rw [leftN, if_pos rfl]; exact HLL.out, fun w1 b1 => ⟨?_, Chg.of_below b1 _⟩⟩
          have e : failE err 0 = err := by unfold failE; split <;> simp_all
          rw [e]
          exact H.out.keep0 b1
        clear hop2
        go_wp2_with (first
          | (go_at_call 78; refine Calls.mono HE.out ?_; rintro e w1 ⟨rfl, hw1⟩; subst hw1; clear HE)
          | (go_at_call 76; refine Calls.mono HLF.out ?_; rintro e w1 ⟨rfl, m1, hw1⟩; have RS1 : Hid (RS w1 q 192 (.slice ta T.length tc) T ai 0) := (by rw [hw1]; exact RSR.out.drewN m1); have BL1 : Hid (Below w.heap.size w w1) := (by rw [hw1]; exact ⟨BL.out.os, BL.out.tape, BL.out.output, BL.out.size, BL.out.block⟩); have HE1 : Hid _ := rErr_any RS1.out; clear hw1 HLF)
          | (go_at_call 78; refine Calls.mono HE1.out ?_; rintro e w2 ⟨rfl, hw2⟩; subst hw2))
        go_ret
        refine ⟨?_, F1.out.2 _ BL1.out⟩
        rw [F1.out.1]
        rfl
    · have hop2 : opsL T F a err = (L, ai, ei) := by
        rw [HOP.out, opsL_stop (fun e => he e.1)]
        simp
      have F1 : Hid (leftN (opsL T F a err) = 0 ∧ (opsL T F a err).2.2 = ei) := by
        rw [hop2]
        exact ⟨by rw [leftN, if_neg he], rfl⟩
      have heb : (ei == 0) = false := by simpa using he
      have hen : (ei != 0) = true := by simpa using he
      clear hop2
      go_upto_region 7 with (first
          | (go_at_call 78; refine Calls.mono HE.out ?_; rintro e w1 ⟨rfl, hw1⟩; subst hw1))
      have BD : Hid (Below w.heap.size w w1.drew) := ⟨BL.out.os, BL.out.tape, BL.out.output, BL.out.size, BL.out.block⟩
      have RD : Hid (RS w1.drew q 192 (.slice ta T.length tc) T ai ei) := RSR.out.drewN 1
      have RP0 : Hid (RS w1.drew p 192 (.slice ta T.length tc) T a err) := H.out.keep0 BD.out
      refine wp_region_held_drew (S := fun _ => True) (by kernel_rfl) trivial (fun hH => ?_)
      refine wpAnyH_take (i := 0) (v := .pointer (some ⟨p, 0, none⟩)) rfl (by kernel_rfl) (by kernel_rfl) (by kernel_rfl) (fun _ _ _ h => h) (Or.inl ⟨by rfl, fun w' _ => by go_simp⟩) hH ?_
      refine wpAnyH_take (i := 1) (v := .pointer (some ⟨p, 0, none⟩)) rfl (by kernel_rfl) (by kernel_rfl) (by kernel_rfl) (fun _ _ _ h => h) (Or.inl ⟨by rfl, fun w' _ => by go_simp⟩) hH ?_
      refine wpAnyH_take (i := 2) (v := .pointer (some ⟨p, 0, none⟩)) rfl (by kernel_rfl) (by kernel_rfl) (by kernel_rfl) (fun _ _ _ h => h) (Or.inl ⟨by rfl, fun w' _ => by go_simp⟩) hH ?_
      refine wpAnyH_take (i := 3) (v := .pointer (some ⟨q, 0, none⟩)) rfl (by kernel_rfl) (by kernel_rfl) (by kernel_rfl) (fun _ _ _ h => h) (Or.inl ⟨by rfl, fun w' _ => by go_simp⟩) hH ?_
      refine wpAnyH_ready (rs := [4]) (by kernel_rfl) (by simp) ?_
      refine AllReadyH.cons rfl (fun K hK => ?_) AllReadyH.nil
      go_simp
      refine Calls.mono (rErr_any RD.out) ?_
      rintro e w1 ⟨rfl, hw1⟩
      subst hw1
      refine hK.out _ _ trivial (fun hH => ?_)
      clear hK K
      refine wpAnyH_ready (rs := [5]) (by kernel_rfl) (by simp) ?_
      refine AllReadyH.cons rfl (fun K hK => ?_) AllReadyH.nil
      go_simp
      refine Calls.mono (rFail_any RP0.out ei) ?_
      rintro e w2 ⟨rfl, rp⟩
      refine hK.out _ _ trivial (fun _ => ?_)
      clear hK K
      refine wpAnyH_done (by kernel_rfl) ?_ _
      have F2 : Hid (RP w w2 p 192 (.slice ta T.length tc) T a (failE err ei)) := ⟨rp.1, (Chg.of_below BD.out (fun k => k = p)).trans rp.2 (fun _ e => .inl e)⟩
      clear rp
      go_wp2_with fail
      go_ret
      refine ⟨?_, ?_⟩
      · rw [F1.out.1]
        rfl
      · rw [F1.out.2]
        exact F2.out
end Go.Proofs.Ytlmdljghhpkbiaa
