/-
  The writing of messages: paths, lists of changes.
-/
import Derived.Test.YtjmeaebehndheaaMsW
namespace Go.Proofs.Ytjmeaebehndheaa
open Go.RowKit

theorem Try.elem92 : Try.prog.elem 92 = 31 := by kernel_rfl
theorem Try.so31 (w : World) : (sizeOf 31).run Try.prog w = .ok 32 w := by kernel_rfl
theorem Try.elem93 : Try.prog.elem 93 = 112 := by kernel_rfl
theorem Try.so215 (w : World) : (sizeOf 112).run Try.prog w = .ok 5 w := by kernel_rfl
theorem recsB_32 (f : Nat → List Int) : ∀ n, (∀ i, i < n → (f i).length = 32) → (recsB f n).length = n * 32
  | 0, _ => by simp [recsB]
  | n + 1, h => by
    have h1 := recsB_32 f n (fun i hi => h i (by omega))
    have h2 := h n (by omega)
    simp only [recsB, List.length_append, h1, h2]
    omega

set_option maxRecDepth 100000 in
set_option maxHeartbeats 8000000 in
theorem wPath_any {w0 w : World} {Av : Nat → Prop} {p : Nat} {t : TypeId} {l : List Int} (h : WB w0 w Av p t l) {a : Option Addr} {n c : Nat} {ps : Nat → List Int} (hR : RowsIn w0 Av a n 32 (fun i => bs (ps i))) (hP : ∀ i, i < n → (ps i).length = 32) (hn : n ≤ 9223372036854775807) (hl : l.length + (numB n ++ recsB ps n).length + 20 ≤ 140737488355328) :
    Calls Try.prog 154 #[.pointer (some ⟨p, 0, none⟩), .slice a n c] w fun e w' => e = .returned (.tuple #[]) ∧ WB w0 w' Av p t (l ++ (numB n ++ recsB ps n)) := by
  have H : Hid _ := h
  have HR : Hid _ := hR
  have HP : Hid _ := hP
  have LB : (numB n ++ recsB ps n).length = (numB n).length + n * 32 := by rw [List.length_append, recsB_32 ps n hP]
  have t1 := numB_ten (n := n) (by omega)
  clear h hR hP
  go_enter Try.func154, Try.ntmps154
  go_wp2_with fail
  refine Calls.mono (H.out.go (fun cs v s hv => wNumber_any s n hn (by omega))) ?_
  rintro e w1 ⟨rfl, h1⟩
  obtain ⟨M0, hM0⟩ : ∃ M0, M0 = l ++ numB n := ⟨_, rfl⟩
  rw [← hM0] at h1
  have H1 : Hid _ := h1
  have LM0 : M0.length = l.length + (numB n).length := by rw [hM0]; simp
  have HM0 : Hid _ := hM0
  clear hM0 h1
  go_wp2_with fail
  go_loopw [12] (fun i wr => ∃ j : Nat, j ≤ n ∧ i = .int .i64 j ∧ Hid (WB w0 wr Av p t (M0 ++ recsB ps j))) (fun i _ => n - (intOf i).toNat)
  case atStart => exact ⟨0, Nat.zero_le _, rfl, by show WB w0 w1 Av p t (M0 ++ []); rw [List.append_nil]; exact H1.out⟩
  case round =>
    obtain ⟨j, hj, rfl, hid⟩ := hrel
    have HB : Hid _ := hid.out
    clear hid
    by_cases hlt : j < n
    · obtain ⟨z, hz⟩ : ∃ z, z = ps j := ⟨_, rfl⟩
      obtain ⟨g, o, hsa, hav, hrg⟩ := HR.out j hlt
      have A4 : z.length = 32 := by rw [hz]; exact HP.out j hlt
      have hrg : w0.rangeAt g (o + j * 32) (bs z) := by rw [hz]; exact hrg
      have hix := ix_at Try.underlying92 Try.elem92 Try.so31 (c := c) hsa hlt
      have RG : Hid (wr.rangeAt g (o + j * 32) (bs z)) := rangeAt_kept hrg HB.out.ch (fun e => e hav)
      have HKK : Hid _ := hz
      have LJ : (M0 ++ recsB ps j).length = M0.length + j * 32 := by rw [List.length_append, recsB_32 ps j (fun i hi => HP.out i (by omega))]
      clear hrg hz hsa hav
      go_upto_region 4 with (first
        | refine wpList_load_mid rfl 31 (.tmp 14) rfl g (o + j * 32) rfl (bs z) _ RG.out Try.underlying31 rfl (Try.sumSz' z A4) ?_
        | (refine wpList_store_part rfl 31 (.tmp 5) (.tmp 15) rfl wr.heap.size 0 (bs z) rfl rfl (t := 31) ⟨heap_alloc_new _ _⟩ (by simp [bs, A4]) (Try.sumSz' z A4) (bs_one z) ?_; intro wB hw8 hc8; rw [splice_all _ _ (by simp [bs, A4])] at hw8; have c8 : Chg (fun _ => False) wr wB := ((Chg.refl (fun _ => False) wr).alloc _).trans hc8 (fun k e => .inr (by omega)); have BK : Hid _ := hw8; have CB : Hid _ := c8; clear hw8 hc8 c8))
      have G0 : Hid (WB wB wB (AvX Av wr.heap.size) p t (M0 ++ recsB ps j)) := HB.out.box CB.out BK.out.lt
      obtain ⟨Lj, hLj⟩ : ∃ Lj, Lj = M0 ++ recsB ps j := ⟨_, rfl⟩
      rw [← hLj] at G0 LJ
      have HLJ : Hid _ := hLj
      clear hLj hix
      refine wp_region_held_drew (S := fun w' => Blk w' wr.heap.size (bs z) 31) (by kernel_rfl) (Blk.drew BK.out) (fun hH => ?_)
      refine wpAnyH_take (i := 0) (v := .pointer (some ⟨p, 0, none⟩)) rfl (by kernel_rfl) (by kernel_rfl) (by kernel_rfl) (fun _ _ _ h => h) (Or.inl ⟨by rfl, fun w' _ => by go_simp⟩) hH ?_
      refine wpAnyH_take (i := 1) (v := .pointer (some ⟨p, 0, none⟩)) rfl (by kernel_rfl) (by kernel_rfl) (by kernel_rfl) (fun _ _ _ h => h) (Or.inl ⟨by rfl, fun w' _ => by go_simp⟩) hH ?_
      refine wpAnyH_take (i := 2) (v := .pointer (some ⟨p, 0, none⟩)) rfl (by kernel_rfl) (by kernel_rfl) (by kernel_rfl) (fun _ _ _ h => h) (Or.inl ⟨by rfl, fun w' _ => by go_simp⟩) hH ?_
      refine wpAnyH_take (i := 3) (v := .agg (bs z).toArray) rfl (by kernel_rfl) (by kernel_rfl) (by kernel_rfl) (fun _ _ _ h => h) (yieldsIf_load_mid (by rfl) _ _ rfl wr.heap.size 0 rfl _ _ (fun w' h => Blk.range h (by simp)) Try.underlying31 rfl (Try.sumSz' z A4)) hH ?_
      refine wpAnyH_ready (rs := [4]) (by kernel_rfl) (by simp) ?_
      refine AllReadyH.cons rfl (fun K hK => ?_) AllReadyH.nil
      go_simp
      refine Calls.mono ((G0.out.drew).go (fun cs v s hv => wSum_any s z A4 (by omega))) ?_
      rintro e w9 ⟨rfl, h9⟩
      refine hK.out _ _ (h9.blk BK.out (.inr rfl)) (fun _ => ?_)
      clear hK K hH
      refine wpAnyH_done (by kernel_rfl) ?_ _
      have G2 : Hid _ := h9
      clear h9
      have F : Hid (WB w0 w9 Av p t (M0 ++ recsB ps (j + 1))) := by
        have h9 := (HLJ.out ▸ HB.out : WB w0 wr Av p t Lj).leave CB.out G2.out
        have e : M0 ++ recsB ps (j + 1) = Lj ++ z := by
          rw [HLJ.out, recsB, ← HKK.out]
          simp
        rw [e]
        exact h9
      go_wp2_with fail
      go_roundw
      case rel => exact ⟨j + 1, by omega, by go_num, F.out⟩
      case measure => simp [intOf]; omega
    · have hjn : j = n := by omega
      subst hjn
      have F : Hid (WB w0 wr Av p t (l ++ (numB j ++ recsB ps j))) := by
        have e : l ++ (numB j ++ recsB ps j) = M0 ++ recsB ps j := by rw [HM0.out]; simp
        rw [e]
        exact HB.out
      go_wp2_with fail
      go_end0
      exact ⟨rfl, F.out⟩

set_option maxRecDepth 100000 in
set_option maxHeartbeats 8000000 in
theorem wChanges_any {w0 w : World} {Av : Nat → Prop} {p : Nat} {t : TypeId} {l : List Int} (h : WB w0 w Av p t l) {a : Option Addr} {n c : Nat} {os : Nat → Cg} (hR : RowsIn w0 Av a n 5 (fun i => (os i).cells)) (hP : ∀ i, i < n → CgIn w0 Av (os i)) (hn : n ≤ 9223372036854775807) (hl : l.length + (numB n ++ recsB (fun i => (os i).bytes) n).length + 40 ≤ 140737488355328) :
    Calls Try.prog 155 #[.pointer (some ⟨p, 0, none⟩), .slice a n c] w fun e w' => e = .returned (.tuple #[]) ∧ WB w0 w' Av p t (l ++ (numB n ++ recsB (fun i => (os i).bytes) n)) := by
  have H : Hid _ := h
  have HR : Hid _ := hR
  have HP : Hid _ := hP
  obtain ⟨f, hf⟩ : ∃ f : Nat → List Int, f = fun i => (os i).bytes := ⟨_, rfl⟩
  rw [← hf] at hl ⊢
  have HF : Hid _ := hf
  have LB : (numB n ++ recsB f n).length = (numB n).length + (recsB f n).length := List.length_append
  have t1 := numB_ten (n := n) (by omega)
  clear h hR hP hf
  go_enter Try.func155, Try.ntmps155
  go_wp2_with fail
  refine Calls.mono (H.out.go (fun cs v s hv => wNumber_any s n hn (by omega))) ?_
  rintro e w1 ⟨rfl, h1⟩
  obtain ⟨M0, hM0⟩ : ∃ M0, M0 = l ++ numB n := ⟨_, rfl⟩
  rw [← hM0] at h1
  have H1 : Hid _ := h1
  have LM0 : M0.length = l.length + (numB n).length := by rw [hM0]; simp
  have HM0 : Hid _ := hM0
  clear hM0 h1
  go_wp2_with fail
  go_loopw [12] (fun i wr => ∃ j : Nat, j ≤ n ∧ i = .int .i64 j ∧ Hid (WB w0 wr Av p t (M0 ++ recsB f j))) (fun i _ => n - (intOf i).toNat)
  case atStart => exact ⟨0, Nat.zero_le _, rfl, by show WB w0 w1 Av p t (M0 ++ []); rw [List.append_nil]; exact H1.out⟩
  case round =>
    obtain ⟨j, hj, rfl, hid⟩ := hrel
    have HB : Hid _ := hid.out
    clear hid
    by_cases hlt : j < n
    · obtain ⟨k, hk⟩ : ∃ k, k = os j := ⟨_, rfl⟩
      obtain ⟨g, o, hsa, hav, hrg⟩ := HR.out j hlt
      have kin := HP.out j hlt
      have hrg : w0.rangeAt g (o + j * 5) k.cells := by rw [hk]; exact hrg
      rw [← hk] at kin
      have hix := ix_at Try.underlying93 Try.elem93 Try.so215 (c := c) hsa hlt
      have RG : Hid (wr.rangeAt g (o + j * 5) k.cells) := rangeAt_kept hrg HB.out.ch (fun e => e hav)
      have KB : (recsB f j).length + k.bytes.length ≤ (recsB f n).length := by
        have := recsB_le f n (j + 1) (by omega)
        simp only [recsB, List.length_append, HF.out, ← hk] at this
        rw [HF.out]
        exact this
      have HKK : Hid _ := hk
      have KIN : Hid _ := kin
      clear hrg hk hsa hav kin
      go_upto_region 4 with (first
        | refine wpList_load_mid rfl 112 (.tmp 14) rfl g (o + j * 5) rfl k.cells _ RG.out Try.underlying112 rfl (Try.cgSz k) ?_
        | (refine wpList_store_part rfl 112 (.tmp 5) (.tmp 15) rfl wr.heap.size 0 k.cells rfl rfl (t := 112) ⟨heap_alloc_new _ _⟩ (by simp [Cg.cells]) (Try.cgSz k) k.one ?_; intro wB hw8 hc8; rw [splice_all _ _ (by simp [Cg.cells])] at hw8; have c8 : Chg (fun _ => False) wr wB := ((Chg.refl (fun _ => False) wr).alloc _).trans hc8 (fun k e => .inr (by omega)); have BK : Hid _ := hw8; have CB : Hid _ := c8; clear hw8 hc8 c8))
      have G0 : Hid (WB wB wB (AvX Av wr.heap.size) p t (M0 ++ recsB f j)) := HB.out.box CB.out BK.out.lt
      have KI : Hid (CgIn wB (AvX Av wr.heap.size) k) := (((KIN.out.kept HB.out.ch (fun g ha e => e ha)).kept CB.out (fun _ _ e => e))).mono (fun g e => .inl e)
      have LB2 : (M0 ++ recsB f j).length + k.bytes.length ≤ l.length + ((numB n).length + (recsB f n).length) := by rw [List.length_append]; omega
      obtain ⟨Lj, hLj⟩ : ∃ Lj, Lj = M0 ++ recsB f j := ⟨_, rfl⟩
      rw [← hLj] at G0 LB2
      have HLJ : Hid _ := hLj
      clear hLj hix
      go_upto_region 5 with (first
        | refine wpList_load_part rfl 112 (.tmp 5) rfl wr.heap.size 0 k.cells rfl BK.out (by simp) Try.underlying112 rfl (Try.cgSz k) ?_
        | (go_at_call 156; refine Calls.mono (wChange_any G0.out KI.out (by omega)) ?_; rintro e wD ⟨rfl, h6⟩; have G2 : Hid _ := h6; clear h6))
      have F : Hid (WB w0 wD Av p t (M0 ++ recsB f (j + 1))) := by
        have h9 := (HLJ.out ▸ HB.out : WB w0 wr Av p t Lj).leave CB.out G2.out
        have e : M0 ++ recsB f (j + 1) = Lj ++ k.bytes := by
          rw [HLJ.out, recsB, HF.out, HKK.out]
          simp
        rw [e]
        exact h9
      go_wp2_with fail
      go_roundw
      case rel => exact ⟨j + 1, by omega, by go_num, F.out⟩
      case measure => simp [intOf]; omega
    · have hjn : j = n := by omega
      subst hjn
      have F : Hid (WB w0 wr Av p t (l ++ (numB j ++ recsB f j))) := by
        have e : l ++ (numB j ++ recsB f j) = M0 ++ recsB f j := by rw [HM0.out]; simp
        rw [e]
        exact HB.out
      go_wp2_with fail
      go_end0
      exact ⟨rfl, F.out⟩
end Go.Proofs.Ytjmeaebehndheaa
