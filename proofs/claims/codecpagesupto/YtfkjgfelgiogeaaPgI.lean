/-
  The writing of pages, whatever their numbers are.
-/
import Derived.Test.YtfkjgfelgiogeaaPgD
import Derived.Test.YtfkjgfelgiogeaaNumI
namespace Go.Proofs.Ytfkjgfelgiogeaa
open Go.RowKit

def Mk.bytesI (m : Mk) : List Int := numB m.se ++ numB (u64 m.us)
def Pg.mBI (P : Pg) : Nat → List Int := fun i => (P.ms i).bytesI
def Pg.bytesI (P : Pg) : List Int := numB P.la ++ numB (u64 P.wi) ++ numB P.se ++ numB P.mn ++ recsB P.mBI P.mn ++ numB P.vn ++ recsB P.vB P.vn ++ numB P.sz ++ numB P.pn ++ recsB P.pB P.pn
/-- A page with lists that are not too long. -/
structure PgSm (P : Pg) : Prop where
  mn : P.mn ≤ 1048576
  vn : P.vn ≤ 1048576
  pn : P.pn ≤ 1048576

set_option maxRecDepth 100000 in
set_option maxHeartbeats 16000000 in
theorem wPageI_any {w0 w : World} {Av : Nat → Prop} {p : Nat} {t : TypeId} {l : List Int} (h : WB w0 w Av p t l) {P : Pg} (hP : PgIn w0 Av P) (hF : PgSm P) (hl : l.length + 300000000 ≤ 140737488355328) :
    Calls Try.prog 140 #[.agg P.cells.toArray, .pointer (some ⟨p, 0, none⟩)] w fun e w' => e = .returned (.tuple #[]) ∧ WB w0 w' Av p t (l ++ P.bytesI) := by
  obtain ⟨X, hX⟩ : ∃ X, X = w.heap.size := ⟨_, rfl⟩
  obtain ⟨W, hW⟩ : ∃ W, W = w.alloc (.cells P.cells.toArray 131) := ⟨_, rfl⟩
  have cW : Chg (fun _ => False) w W := by rw [hW]; exact (Chg.refl _ _).alloc _
  have b0 : Blk W X P.cells 131 := by rw [hW, hX]; exact Blk.made _ _ _
  have h0 : WB W W (AvX Av X) p t l := by rw [hX]; exact h.box cW (by rw [hW]; simp)
  have pw : PgIn W Av P := (hP.kept h.ch (fun g ha e => e ha)).kept cW (fun _ _ e => e)
  have H : Hid _ := h
  have CW : Hid _ := cW
  have B0 : Hid _ := b0
  have H0 : Hid _ := h0
  have HP : Hid _ := pw
  have LA := hP.la
  have SE := hP.se
  have SZ := hP.sz
  have MN := hF.mn
  have VN := hF.vn
  have PN := hF.pn
  have tn : ∀ n, n < 18446744073709551616 → (numB n).length ≤ 10 := fun n hn => numB_ten hn
  have t1 := tn P.la LA
  have t2 := tn (u64 P.wi) (u64_lt _)
  have t3 := tn P.se SE
  have t4 := tn P.mn (by omega)
  have t5 := tn P.vn (by omega)
  have t6 := tn P.sz SZ
  have t7 := tn P.pn (by omega)
  have PX : p ≠ X := by have := h.pw; omega
  clear h cW b0 h0 pw hP hF tn
  go_enter Try.func140, Try.ntmps140
  go_upto_region 1 with fail
  rw [← hX, ← hW]
  clear hX hW
  go_upto_region 1 with fail
  refine wp_region_held_drew (S := fun w' => Blk w' X P.cells 131) (by kernel_rfl) (Blk.drew (H0.out.blk B0.out (.inr rfl))) (fun hH => ?_)
  refine wpAnyH_take (i := 0) (v := .pointer (some ⟨p, 0, none⟩)) rfl (by kernel_rfl) (by kernel_rfl) (by kernel_rfl) (fun _ _ _ h => h) (Or.inl ⟨by rfl, fun w' _ => by go_simp⟩) hH ?_
  refine wpAnyH_take (i := 1) (v := .pointer (some ⟨p, 0, none⟩)) rfl (by kernel_rfl) (by kernel_rfl) (by kernel_rfl) (fun _ _ _ h => h) (Or.inl ⟨by rfl, fun w' _ => by go_simp⟩) hH ?_
  refine wpAnyH_take (i := 2) (v := .pointer (some ⟨p, 0, none⟩)) rfl (by kernel_rfl) (by kernel_rfl) (by kernel_rfl) (fun _ _ _ h => h) (Or.inl ⟨by rfl, fun w' _ => by go_simp⟩) hH ?_
  refine wpAnyH_take (i := 3) (v := .pointer (some ⟨X, 0, none⟩)) rfl (by kernel_rfl) (by kernel_rfl) (by kernel_rfl) (fun _ _ _ h => h) (Or.inl ⟨by rfl, fun w' _ => by go_simp⟩) hH ?_
  refine wpAnyH_take (i := 4) (v := .int .u64 P.la) rfl (by kernel_rfl) (by kernel_rfl) (by kernel_rfl) (fun _ _ _ h => h) (Or.inl ⟨by rfl, fun w' hw' => by have h2 : w'.cell? ⟨X, 0, none⟩ = some (.int .u64 P.la) := Blk.cell hw' 0; go_simp⟩) hH ?_
  refine wpAnyH_ready (rs := [5]) (by kernel_rfl) (by simp) ?_
  refine AllReadyH.cons rfl (fun K hK => ?_) AllReadyH.nil
  go_simp
  refine Calls.mono ((H0.out.drew).go (fun cs v s hv => wUint_any s P.la LA (by omega))) ?_
  rintro e w9 ⟨rfl, h9⟩
  refine hK.out _ _ (h9.blk B0.out (.inr rfl)) (fun _ => ?_)
  clear hK K hH
  refine wpAnyH_done (by kernel_rfl) ?_ _
  have H1 : Hid _ := h9
  clear h9
  obtain ⟨w1, hw1⟩ : ∃ w1, w1 = w9 := ⟨_, rfl⟩
  rw [← hw1] at H1 ⊢
  clear hw1
  have k1 : w1.cell? ⟨X, 1, none⟩ = some (.int .i64 P.wi) := (H1.out.blk B0.out (.inr rfl)).cell 1
  go_upto_region 3 with (go_at_call 141; refine Calls.mono (H1.out.go (fun cs v s _ => wNumberI_any s P.wi (by simp; omega))) ?_; rintro e w2 ⟨rfl, h6⟩; have H2 : Hid _ := h6; clear h6 k1)
  go_upto_region 3 with fail
  refine wp_region_held_drew (S := fun w' => Blk w' X P.cells 131) (by kernel_rfl) (Blk.drew (H2.out.blk B0.out (.inr rfl))) (fun hH => ?_)
  refine wpAnyH_take (i := 0) (v := .pointer (some ⟨p, 0, none⟩)) rfl (by kernel_rfl) (by kernel_rfl) (by kernel_rfl) (fun _ _ _ h => h) (Or.inl ⟨by rfl, fun w' _ => by go_simp⟩) hH ?_
  refine wpAnyH_take (i := 1) (v := .pointer (some ⟨p, 0, none⟩)) rfl (by kernel_rfl) (by kernel_rfl) (by kernel_rfl) (fun _ _ _ h => h) (Or.inl ⟨by rfl, fun w' _ => by go_simp⟩) hH ?_
  refine wpAnyH_take (i := 2) (v := .pointer (some ⟨p, 0, none⟩)) rfl (by kernel_rfl) (by kernel_rfl) (by kernel_rfl) (fun _ _ _ h => h) (Or.inl ⟨by rfl, fun w' _ => by go_simp⟩) hH ?_
  refine wpAnyH_take (i := 3) (v := .pointer (some ⟨X, 2, none⟩)) rfl (by kernel_rfl) (by kernel_rfl) (by kernel_rfl) (fun _ _ _ h => h) (Or.inl ⟨by rfl, fun w' _ => by go_simp⟩) hH ?_
  refine wpAnyH_take (i := 4) (v := .int .u64 P.se) rfl (by kernel_rfl) (by kernel_rfl) (by kernel_rfl) (fun _ _ _ h => h) (Or.inl ⟨by rfl, fun w' hw' => by have h2 : w'.cell? ⟨X, 2, none⟩ = some (.int .u64 P.se) := Blk.cell hw' 2; go_simp⟩) hH ?_
  refine wpAnyH_ready (rs := [5]) (by kernel_rfl) (by simp) ?_
  refine AllReadyH.cons rfl (fun K hK => ?_) AllReadyH.nil
  go_simp
  refine Calls.mono ((H2.out.drew).go (fun cs v s hv => wUint_any s P.se SE (by simp; omega))) ?_
  rintro e w9 ⟨rfl, h9⟩
  refine hK.out _ _ (h9.blk B0.out (.inr rfl)) (fun _ => ?_)
  clear hK K hH
  refine wpAnyH_done (by kernel_rfl) ?_ _
  have H3 : Hid _ := h9
  clear h9
  obtain ⟨w3, hw3⟩ : ∃ w3, w3 = w9 := ⟨_, rfl⟩
  rw [← hw3] at H3 ⊢
  clear hw3
  have k3 : w3.cell? ⟨X, 3, none⟩ = some (.slice P.ma P.mn P.mc) := (H3.out.blk B0.out (.inr rfl)).cell 3
  go_upto_region 5 with (go_at_call 141; refine Calls.mono (H3.out.go (fun cs v s _ => wNumber_any s P.mn (by omega) (by simp; omega))) ?_; rintro e w4 ⟨rfl, h6⟩; have H4 : Hid _ := h6; have k4 : w4.cell? ⟨X, 3, none⟩ = some (.slice P.ma P.mn P.mc) := (h6.blk B0.out (.inr rfl)).cell 3; clear h6 k3)
  obtain ⟨M0, hM0⟩ : ∃ M0, M0 = l ++ numB P.la ++ numB (u64 P.wi) ++ numB P.se ++ numB P.mn := ⟨_, rfl⟩
  rw [← hM0] at H4
  have LM0 : M0.length ≤ l.length + 40 := by rw [hM0]; simp; omega
  have HM0 : Hid _ := hM0
  clear hM0 H0 H1 H2 H3
  go_wp2_with fail
  clear k4
  go_loopw [34] (fun i wr => ∃ j : Nat, j ≤ P.mn ∧ i = .int .i64 j ∧ Hid (WB W wr (AvX Av X) p t (M0 ++ recsB P.mBI j))) (fun i _ => P.mn - (intOf i).toNat)
  case atStart => exact ⟨0, Nat.zero_le _, rfl, by show WB W w4 (AvX Av X) p t (M0 ++ []); rw [List.append_nil]; exact H4.out⟩
  case round =>
    obtain ⟨j, hj, rfl, hid⟩ := hrel
    have HB : Hid _ := hid.out
    clear hid
    by_cases hlt : j < P.mn
    · obtain ⟨k, hk⟩ : ∃ k, k = P.ms j := ⟨_, rfl⟩
      obtain ⟨g, o, hsa, hav, hrg⟩ := HP.out.mrow j hlt
      have kin := HP.out.em j hlt
      have hrg : W.rangeAt g (o + j * 2) k.cells := by rw [hk]; exact hrg
      rw [← hk] at kin
      have hix := ix_at Try.underlying45 Try.elem45 Try.so124 (c := P.mc) hsa hlt
      have RG : Hid (wr.rangeAt g (o + j * 2) k.cells) := rangeAt_kept hrg HB.out.ch (fun e => e (.inl hav))
      have HKK : Hid _ := hk
      have A1 := kin.1
      have n1 := numB_ten A1
      have n2 := numB_ten (u64_lt k.us)
      have KB : (recsB P.mBI j).length ≤ j * 20 := recsB_len j (fun i hi => by have q1 := (HP.out.em i (by omega)).1; have e1 := numB_ten q1; have e2 := numB_ten (u64_lt (P.ms i).us); simp only [Pg.mBI, Mk.bytesI, List.length_append]; omega)
      clear hrg hk hsa hav kin
      go_upto_region 8 with (first
        | refine wpList_load_mid rfl 112 (.tmp 36) rfl g (o + j * 2) rfl k.cells _ RG.out Try.underlying112 rfl (Try.mkSz k) ?_
        | (refine wpList_store_part rfl 112 (.tmp 5) (.tmp 37) rfl wr.heap.size 0 k.cells rfl rfl (t := 112) ⟨heap_alloc_new _ _⟩ (by simp [Mk.cells]) (Try.mkSz k) (k.one) ?_; intro wB hw8 hc8; rw [splice_all _ _ (by simp [Mk.cells])] at hw8; have c8 : Chg (fun _ => False) wr wB := ((Chg.refl (fun _ => False) wr).alloc _).trans hc8 (fun i e => .inr (by omega)); have BK : Hid _ := hw8; have CB : Hid _ := c8; clear hw8 hc8 c8))
      have G0 : Hid (WB wB wB (AvX (AvX Av X) wr.heap.size) p t (M0 ++ recsB P.mBI j)) := HB.out.box CB.out BK.out.lt
      have LB : (M0 ++ recsB P.mBI j).length ≤ M0.length + j * 20 := by rw [List.length_append]; omega
      obtain ⟨Lj, hLj⟩ : ∃ Lj, Lj = M0 ++ recsB P.mBI j := ⟨_, rfl⟩
      rw [← hLj] at G0 LB
      have HLJ : Hid _ := hLj
      clear hLj hix
      go_upto_region 8 with fail
      refine wp_region_held_drew (S := fun w' => Blk w' wr.heap.size k.cells 112) (by kernel_rfl) (Blk.drew (G0.out.blk BK.out (.inr rfl))) (fun hH => ?_)
      refine wpAnyH_take (i := 0) (v := .pointer (some ⟨p, 0, none⟩)) rfl (by kernel_rfl) (by kernel_rfl) (by kernel_rfl) (fun _ _ _ h => h) (Or.inl ⟨by rfl, fun w' _ => by go_simp⟩) hH ?_
      refine wpAnyH_take (i := 1) (v := .pointer (some ⟨p, 0, none⟩)) rfl (by kernel_rfl) (by kernel_rfl) (by kernel_rfl) (fun _ _ _ h => h) (Or.inl ⟨by rfl, fun w' _ => by go_simp⟩) hH ?_
      refine wpAnyH_take (i := 2) (v := .pointer (some ⟨p, 0, none⟩)) rfl (by kernel_rfl) (by kernel_rfl) (by kernel_rfl) (fun _ _ _ h => h) (Or.inl ⟨by rfl, fun w' _ => by go_simp⟩) hH ?_
      refine wpAnyH_take (i := 3) (v := .pointer (some ⟨wr.heap.size, 0, none⟩)) rfl (by kernel_rfl) (by kernel_rfl) (by kernel_rfl) (fun _ _ _ h => h) (Or.inl ⟨by rfl, fun w' _ => by go_simp⟩) hH ?_
      refine wpAnyH_take (i := 4) (v := .int .u64 k.se) rfl (by kernel_rfl) (by kernel_rfl) (by kernel_rfl) (fun _ _ _ h => h) (Or.inl ⟨by rfl, fun w' hw' => by have h2 : w'.cell? ⟨wr.heap.size, 0, none⟩ = some (.int .u64 k.se) := Blk.cell hw' 0; go_simp⟩) hH ?_
      refine wpAnyH_ready (rs := [5]) (by kernel_rfl) (by simp) ?_
      refine AllReadyH.cons rfl (fun K hK => ?_) AllReadyH.nil
      go_simp
      refine Calls.mono ((G0.out.drew).go (fun cs v s hv => wUint_any s k.se A1 (by omega))) ?_
      rintro e w9 ⟨rfl, h9⟩
      refine hK.out _ _ (h9.blk BK.out (.inr rfl)) (fun _ => ?_)
      clear hK K hH
      refine wpAnyH_done (by kernel_rfl) ?_ _
      have G1 : Hid _ := h9
      clear h9
      obtain ⟨wC, hwC⟩ : ∃ wC, wC = w9 := ⟨_, rfl⟩
      rw [← hwC] at G1 ⊢
      clear hwC
      have q1 : wC.cell? ⟨wr.heap.size, 1, none⟩ = some (.int .i64 k.us) := (G1.out.blk BK.out (.inr rfl)).cell 1
      go_upto_region 10 with (go_at_call 141; refine Calls.mono (G1.out.go (fun cs v s _ => wNumberI_any s k.us (by simp; omega))) ?_; rintro e wD ⟨rfl, h6⟩; have G2 : Hid _ := h6; clear h6 q1)
      have F : Hid (WB W wD (AvX Av X) p t (M0 ++ recsB P.mBI (j + 1))) := by
        have h9 := (HLJ.out ▸ HB.out : WB W wr (AvX Av X) p t Lj).leave CB.out G2.out
        have e : M0 ++ recsB P.mBI (j + 1) = Lj ++ numB k.se ++ numB (u64 k.us) := by
          rw [HLJ.out, recsB, Pg.mBI, ← HKK.out, Mk.bytesI]
          simp
        rw [e]
        exact h9
      go_wp2_with fail
      go_roundw
      case rel => exact ⟨j + 1, by omega, by go_num, F.out⟩
      case measure => simp [intOf]; omega
    · have hjn : j = P.mn := by omega
      subst hjn
      have KB : (recsB P.mBI P.mn).length ≤ P.mn * 20 := recsB_len _ (fun i hi => by have q1 := (HP.out.em i (by omega)).1; have e1 := numB_ten q1; have e2 := numB_ten (u64_lt (P.ms i).us); simp only [Pg.mBI, Mk.bytesI, List.length_append]; omega)
      have k4 : wr.cell? ⟨X, 4, none⟩ = some (.slice P.va P.vn P.vc) := (HB.out.blk B0.out (.inr rfl)).cell 4
      go_upto_region 12 with (go_at_call 141; refine Calls.mono (HB.out.go (fun cs v s _ => wNumber_any s P.vn (by omega) (by simp; omega))) ?_; rintro e w5 ⟨rfl, h6⟩; have H5 : Hid _ := h6; have k5 : w5.cell? ⟨X, 4, none⟩ = some (.slice P.va P.vn P.vc) := (h6.blk B0.out (.inr rfl)).cell 4; clear h6 k4)
      obtain ⟨M1, hM1⟩ : ∃ M1, M1 = M0 ++ recsB P.mBI P.mn ++ numB P.vn := ⟨_, rfl⟩
      rw [← hM1] at H5
      have LM1 : M1.length ≤ l.length + 21000000 := by rw [hM1]; simp; omega
      have HM1 : Hid _ := hM1
      clear hM1 HB KB
      go_wp2_with fail
      clear k5
      go_loopw [57] (fun i wr => ∃ j : Nat, j ≤ P.vn ∧ i = .int .i64 j ∧ Hid (WB W wr (AvX Av X) p t (M1 ++ recsB P.vB j))) (fun i _ => P.vn - (intOf i).toNat)
      case atStart => exact ⟨0, Nat.zero_le _, rfl, by show WB W w5 (AvX Av X) p t (M1 ++ []); rw [List.append_nil]; exact H5.out⟩
      case round =>
        obtain ⟨j, hj, rfl, hid⟩ := hrel
        have HB : Hid _ := hid.out
        clear hid
        by_cases hlt : j < P.vn
        · obtain ⟨k, hk⟩ : ∃ k, k = P.vs j := ⟨_, rfl⟩
          obtain ⟨g, o, hsa, hav, hrg⟩ := HP.out.vrow j hlt
          have kin := HP.out.vk j hlt
          have hrg : W.rangeAt g (o + j * 67) k.cells := by rw [hk]; exact hrg
          rw [← hk] at kin
          have hix := ix_at Try.underlying46 Try.elem46 Try.so128 (c := P.vc) hsa hlt
          have RG : Hid (wr.rangeAt g (o + j * 67) k.cells) := rangeAt_kept hrg HB.out.ch (fun e => e (.inl hav))
          have HKK : Hid _ := hk
          have A1 := kin.1
          have A2 := kin.2.1
          have A3 := kin.2.2.1
          have A4 := kin.2.2.2
          have n1 := numB_ten A1
          have n2 := numB_ten A3
          have KB : (recsB P.vB j).length ≤ j * 85 := recsB_len j (fun i hi => by have q1 := HP.out.vk i (by omega); have e1 := numB_ten q1.1; have e2 := numB_ten q1.2.2.1; have e3 := q1.2.1; have e4 := q1.2.2.2; simp only [Pg.vB, Vs.bytes, List.length_append]; omega)
          clear hrg hk hsa hav kin
          go_upto_region 15 with (first
            | refine wpList_load_mid rfl 116 (.tmp 59) rfl g (o + j * 67) rfl k.cells _ RG.out Try.underlying116 rfl (Try.vsSz k A2 A4) ?_
            | (refine wpList_store_part rfl 116 (.tmp 7) (.tmp 60) rfl wr.heap.size 0 k.cells rfl rfl (t := 116) ⟨heap_alloc_new _ _⟩ (by simp [Vs.cells, vsC, bs, A2, A4]) (Try.vsSz k A2 A4) (vsC_one _ _ _ _) ?_; intro wB hw8 hc8; rw [splice_all _ _ (by simp [Vs.cells, vsC, bs, A2, A4])] at hw8; have c8 : Chg (fun _ => False) wr wB := ((Chg.refl (fun _ => False) wr).alloc _).trans hc8 (fun i e => .inr (by omega)); have BK : Hid _ := hw8; have CB : Hid _ := c8; clear hw8 hc8 c8))
          have G0 : Hid (WB wB wB (AvX (AvX Av X) wr.heap.size) p t (M1 ++ recsB P.vB j)) := HB.out.box CB.out BK.out.lt
          have LB : (M1 ++ recsB P.vB j).length ≤ M1.length + j * 85 := by rw [List.length_append]; omega
          obtain ⟨Lj, hLj⟩ : ∃ Lj, Lj = M1 ++ recsB P.vB j := ⟨_, rfl⟩
          rw [← hLj] at G0 LB
          have HLJ : Hid _ := hLj
          clear hLj hix
          go_upto_region 15 with fail
          refine wp_region_held_drew (S := fun w' => Blk w' wr.heap.size k.cells 116) (by kernel_rfl) (Blk.drew (G0.out.blk BK.out (.inr rfl))) (fun hH => ?_)
          refine wpAnyH_take (i := 0) (v := .pointer (some ⟨p, 0, none⟩)) rfl (by kernel_rfl) (by kernel_rfl) (by kernel_rfl) (fun _ _ _ h => h) (Or.inl ⟨by rfl, fun w' _ => by go_simp⟩) hH ?_
          refine wpAnyH_take (i := 1) (v := .pointer (some ⟨p, 0, none⟩)) rfl (by kernel_rfl) (by kernel_rfl) (by kernel_rfl) (fun _ _ _ h => h) (Or.inl ⟨by rfl, fun w' _ => by go_simp⟩) hH ?_
          refine wpAnyH_take (i := 2) (v := .pointer (some ⟨p, 0, none⟩)) rfl (by kernel_rfl) (by kernel_rfl) (by kernel_rfl) (fun _ _ _ h => h) (Or.inl ⟨by rfl, fun w' _ => by go_simp⟩) hH ?_
          refine wpAnyH_take (i := 3) (v := .pointer (some ⟨wr.heap.size, 0, none⟩)) rfl (by kernel_rfl) (by kernel_rfl) (by kernel_rfl) (fun _ _ _ h => h) (Or.inl ⟨by rfl, fun w' _ => by go_simp⟩) hH ?_
          refine wpAnyH_take (i := 4) (v := .int .u64 k.n) rfl (by kernel_rfl) (by kernel_rfl) (by kernel_rfl) (fun _ _ _ h => h) (Or.inl ⟨by rfl, fun w' hw' => by have h2 : w'.cell? ⟨wr.heap.size, 0, none⟩ = some (.int .u64 k.n) := Blk.cell hw' 0; go_simp⟩) hH ?_
          refine wpAnyH_ready (rs := [5]) (by kernel_rfl) (by simp) ?_
          refine AllReadyH.cons rfl (fun K hK => ?_) AllReadyH.nil
          go_simp
          refine Calls.mono ((G0.out.drew).go (fun cs v s hv => wUint_any s k.n A1 (by omega))) ?_
          rintro e w9 ⟨rfl, h9⟩
          refine hK.out _ _ (h9.blk BK.out (.inr rfl)) (fun _ => ?_)
          clear hK K hH
          refine wpAnyH_done (by kernel_rfl) ?_ _
          have G1 : Hid _ := h9
          clear h9
          go_upto_region 16 with fail
          refine wp_region_held_drew (S := fun w' => Blk w' wr.heap.size k.cells 116) (by kernel_rfl) (Blk.drew (G1.out.blk BK.out (.inr rfl))) (fun hH => ?_)
          refine wpAnyH_take (i := 0) (v := .pointer (some ⟨p, 0, none⟩)) rfl (by kernel_rfl) (by kernel_rfl) (by kernel_rfl) (fun _ _ _ h => h) (Or.inl ⟨by rfl, fun w' _ => by go_simp⟩) hH ?_
          refine wpAnyH_take (i := 1) (v := .pointer (some ⟨p, 0, none⟩)) rfl (by kernel_rfl) (by kernel_rfl) (by kernel_rfl) (fun _ _ _ h => h) (Or.inl ⟨by rfl, fun w' _ => by go_simp⟩) hH ?_
          refine wpAnyH_take (i := 2) (v := .pointer (some ⟨p, 0, none⟩)) rfl (by kernel_rfl) (by kernel_rfl) (by kernel_rfl) (fun _ _ _ h => h) (Or.inl ⟨by rfl, fun w' _ => by go_simp⟩) hH ?_
          refine wpAnyH_take (i := 3) (v := .pointer (some ⟨wr.heap.size, 1, none⟩)) rfl (by kernel_rfl) (by kernel_rfl) (by kernel_rfl) (fun _ _ _ h => h) (Or.inl ⟨by rfl, fun w' _ => by go_simp⟩) hH ?_
          refine wpAnyH_take (i := 4) (v := .pointer (some ⟨wr.heap.size, 1, none⟩)) rfl (by kernel_rfl) (by kernel_rfl) (by kernel_rfl) (fun _ _ _ h => h) (Or.inl ⟨by rfl, fun w' _ => by go_simp⟩) hH ?_
          refine wpAnyH_take (i := 5) (v := .agg (bs k.x).toArray) rfl (by kernel_rfl) (by kernel_rfl) (by kernel_rfl) (fun _ _ _ h => h) (yieldsIf_load_mid (by rfl) _ _ rfl wr.heap.size 1 rfl _ _ (fun w' h => Blk.range h (k.x_at)) Try.underlying33 rfl (Try.addrSz k.x A2)) hH ?_
          refine wpAnyH_ready (rs := [6]) (by kernel_rfl) (by simp) ?_
          refine AllReadyH.cons rfl (fun K hK => ?_) AllReadyH.nil
          go_simp
          refine Calls.mono ((G1.out.drew).go (fun cs v s hv => wAddr2 s k.x A2 (by simp; omega))) ?_
          rintro e w9 ⟨rfl, h9⟩
          refine hK.out _ _ (h9.blk BK.out (.inr rfl)) (fun _ => ?_)
          clear hK K hH
          refine wpAnyH_done (by kernel_rfl) ?_ _
          have G2 : Hid _ := h9
          clear h9
          go_upto_region 17 with fail
          refine wp_region_held_drew (S := fun w' => Blk w' wr.heap.size k.cells 116) (by kernel_rfl) (Blk.drew (G2.out.blk BK.out (.inr rfl))) (fun hH => ?_)
          refine wpAnyH_take (i := 0) (v := .pointer (some ⟨p, 0, none⟩)) rfl (by kernel_rfl) (by kernel_rfl) (by kernel_rfl) (fun _ _ _ h => h) (Or.inl ⟨by rfl, fun w' _ => by go_simp⟩) hH ?_
          refine wpAnyH_take (i := 1) (v := .pointer (some ⟨p, 0, none⟩)) rfl (by kernel_rfl) (by kernel_rfl) (by kernel_rfl) (fun _ _ _ h => h) (Or.inl ⟨by rfl, fun w' _ => by go_simp⟩) hH ?_
          refine wpAnyH_take (i := 2) (v := .pointer (some ⟨p, 0, none⟩)) rfl (by kernel_rfl) (by kernel_rfl) (by kernel_rfl) (fun _ _ _ h => h) (Or.inl ⟨by rfl, fun w' _ => by go_simp⟩) hH ?_
          refine wpAnyH_take (i := 3) (v := .pointer (some ⟨wr.heap.size, 1, none⟩)) rfl (by kernel_rfl) (by kernel_rfl) (by kernel_rfl) (fun _ _ _ h => h) (Or.inl ⟨by rfl, fun w' _ => by go_simp⟩) hH ?_
          refine wpAnyH_take (i := 4) (v := .pointer (some ⟨wr.heap.size, 34, none⟩)) rfl (by kernel_rfl) (by kernel_rfl) (by kernel_rfl) (fun _ _ _ h => h) (Or.inl ⟨by rfl, fun w' _ => by go_simp⟩) hH ?_
          refine wpAnyH_take (i := 5) (v := .int .u64 k.c) rfl (by kernel_rfl) (by kernel_rfl) (by kernel_rfl) (fun _ _ _ h => h) (Or.inl ⟨by rfl, fun w' hw' => by have h2 : w'.cell? ⟨wr.heap.size, 34, none⟩ = some (.int .u64 k.c) := (by rw [Blk.cell hw']; exact k.c_at A2); go_simp⟩) hH ?_
          refine wpAnyH_ready (rs := [6]) (by kernel_rfl) (by simp) ?_
          refine AllReadyH.cons rfl (fun K hK => ?_) AllReadyH.nil
          go_simp
          refine Calls.mono ((G2.out.drew).go (fun cs v s hv => wUint_any s k.c A3 (by simp; omega))) ?_
          rintro e w9 ⟨rfl, h9⟩
          refine hK.out _ _ (h9.blk BK.out (.inr rfl)) (fun _ => ?_)
          clear hK K hH
          refine wpAnyH_done (by kernel_rfl) ?_ _
          have G3 : Hid _ := h9
          clear h9
          go_upto_region 18 with fail
          refine wp_region_held_drew (S := fun w' => Blk w' wr.heap.size k.cells 116) (by kernel_rfl) (Blk.drew (G3.out.blk BK.out (.inr rfl))) (fun hH => ?_)
          refine wpAnyH_take (i := 0) (v := .pointer (some ⟨p, 0, none⟩)) rfl (by kernel_rfl) (by kernel_rfl) (by kernel_rfl) (fun _ _ _ h => h) (Or.inl ⟨by rfl, fun w' _ => by go_simp⟩) hH ?_
          refine wpAnyH_take (i := 1) (v := .pointer (some ⟨p, 0, none⟩)) rfl (by kernel_rfl) (by kernel_rfl) (by kernel_rfl) (fun _ _ _ h => h) (Or.inl ⟨by rfl, fun w' _ => by go_simp⟩) hH ?_
          refine wpAnyH_take (i := 2) (v := .pointer (some ⟨p, 0, none⟩)) rfl (by kernel_rfl) (by kernel_rfl) (by kernel_rfl) (fun _ _ _ h => h) (Or.inl ⟨by rfl, fun w' _ => by go_simp⟩) hH ?_
          refine wpAnyH_take (i := 3) (v := .pointer (some ⟨wr.heap.size, 1, none⟩)) rfl (by kernel_rfl) (by kernel_rfl) (by kernel_rfl) (fun _ _ _ h => h) (Or.inl ⟨by rfl, fun w' _ => by go_simp⟩) hH ?_
          refine wpAnyH_take (i := 4) (v := .pointer (some ⟨wr.heap.size, 35, none⟩)) rfl (by kernel_rfl) (by kernel_rfl) (by kernel_rfl) (fun _ _ _ h => h) (Or.inl ⟨by rfl, fun w' _ => by go_simp⟩) hH ?_
          refine wpAnyH_take (i := 5) (v := .agg (bs k.y).toArray) rfl (by kernel_rfl) (by kernel_rfl) (by kernel_rfl) (fun _ _ _ h => h) (yieldsIf_load_mid (by rfl) _ _ rfl wr.heap.size 35 rfl _ _ (fun w' h => Blk.range h (k.y_at A2)) Try.underlying31 rfl (Try.sumSz' k.y A4)) hH ?_
          refine wpAnyH_ready (rs := [6]) (by kernel_rfl) (by simp) ?_
          refine AllReadyH.cons rfl (fun K hK => ?_) AllReadyH.nil
          go_simp
          refine Calls.mono ((G3.out.drew).go (fun cs v s hv => wSum_any s k.y A4 (by simp; omega))) ?_
          rintro e w9 ⟨rfl, h9⟩
          refine hK.out _ _ (h9.blk BK.out (.inr rfl)) (fun _ => ?_)
          clear hK K hH
          refine wpAnyH_done (by kernel_rfl) ?_ _
          have G4 : Hid _ := h9
          clear h9
          have F : Hid (WB W w9 (AvX Av X) p t (M1 ++ recsB P.vB (j + 1))) := by
            have h9 := (HLJ.out ▸ HB.out : WB W wr (AvX Av X) p t Lj).leave CB.out G4.out
            have e : M1 ++ recsB P.vB (j + 1) = Lj ++ numB k.n ++ k.x ++ numB k.c ++ k.y := by
              rw [HLJ.out, recsB, Pg.vB, ← HKK.out, Vs.bytes]
              simp
            rw [e]
            exact h9
          go_wp2_with fail
          go_roundw
          case rel => exact ⟨j + 1, by omega, by go_num, F.out⟩
          case measure => simp [intOf]; omega
        · have hjn : j = P.vn := by omega
          subst hjn
          have KB : (recsB P.vB P.vn).length ≤ P.vn * 85 := recsB_len _ (fun i hi => by have q1 := HP.out.vk i (by omega); have e1 := numB_ten q1.1; have e2 := numB_ten q1.2.2.1; have e3 := q1.2.1; have e4 := q1.2.2.2; simp only [Pg.vB, Vs.bytes, List.length_append]; omega)
          have LM2 : (M1 ++ recsB P.vB P.vn).length ≤ l.length + 110200000 := by simp; omega
          go_upto_region 20 with fail
          refine wp_region_held_drew (S := fun w' => Blk w' X P.cells 131) (by kernel_rfl) (Blk.drew (HB.out.blk B0.out (.inr rfl))) (fun hH => ?_)
          refine wpAnyH_take (i := 0) (v := .pointer (some ⟨p, 0, none⟩)) rfl (by kernel_rfl) (by kernel_rfl) (by kernel_rfl) (fun _ _ _ h => h) (Or.inl ⟨by rfl, fun w' _ => by go_simp⟩) hH ?_
          refine wpAnyH_take (i := 1) (v := .pointer (some ⟨p, 0, none⟩)) rfl (by kernel_rfl) (by kernel_rfl) (by kernel_rfl) (fun _ _ _ h => h) (Or.inl ⟨by rfl, fun w' _ => by go_simp⟩) hH ?_
          refine wpAnyH_take (i := 2) (v := .pointer (some ⟨p, 0, none⟩)) rfl (by kernel_rfl) (by kernel_rfl) (by kernel_rfl) (fun _ _ _ h => h) (Or.inl ⟨by rfl, fun w' _ => by go_simp⟩) hH ?_
          refine wpAnyH_take (i := 3) (v := .pointer (some ⟨X, 5, none⟩)) rfl (by kernel_rfl) (by kernel_rfl) (by kernel_rfl) (fun _ _ _ h => h) (Or.inl ⟨by rfl, fun w' _ => by go_simp⟩) hH ?_
          refine wpAnyH_take (i := 4) (v := .pointer (some ⟨X, 5, none⟩)) rfl (by kernel_rfl) (by kernel_rfl) (by kernel_rfl) (fun _ _ _ h => h) (Or.inl ⟨by rfl, fun w' _ => by go_simp⟩) hH ?_
          refine wpAnyH_take (i := 5) (v := .int .u64 P.sz) rfl (by kernel_rfl) (by kernel_rfl) (by kernel_rfl) (fun _ _ _ h => h) (Or.inl ⟨by rfl, fun w' hw' => by have h2 : w'.cell? ⟨X, 5, none⟩ = some (.int .u64 P.sz) := Blk.cell hw' 5; go_simp⟩) hH ?_
          refine wpAnyH_ready (rs := [6]) (by kernel_rfl) (by simp) ?_
          refine AllReadyH.cons rfl (fun K hK => ?_) AllReadyH.nil
          go_simp
          refine Calls.mono ((HB.out.drew).go (fun cs v s hv => wUint_any s P.sz SZ (by omega))) ?_
          rintro e w9 ⟨rfl, h9⟩
          refine hK.out _ _ (h9.blk B0.out (.inr rfl)) (fun _ => ?_)
          clear hK K hH
          refine wpAnyH_done (by kernel_rfl) ?_ _
          have H6 : Hid _ := h9
          clear h9
          obtain ⟨w6, hw6⟩ : ∃ w6, w6 = w9 := ⟨_, rfl⟩
          rw [← hw6] at H6 ⊢
          clear hw6
          have k6 : w6.cell? ⟨X, 6, none⟩ = some (.slice P.pa P.pn P.pc) := (H6.out.blk B0.out (.inr rfl)).cell 6
          go_upto_region 22 with (go_at_call 141; refine Calls.mono (H6.out.go (fun cs v s _ => wNumber_any s P.pn (by omega) (by simp at LM2 ⊢; omega))) ?_; rintro e w7 ⟨rfl, h6⟩; have H7 : Hid _ := h6; have k7 : w7.cell? ⟨X, 6, none⟩ = some (.slice P.pa P.pn P.pc) := (h6.blk B0.out (.inr rfl)).cell 6; clear h6 k6)
          obtain ⟨M2, hM2⟩ : ∃ M2, M2 = M1 ++ recsB P.vB P.vn ++ numB P.sz ++ numB P.pn := ⟨_, rfl⟩
          rw [← hM2] at H7
          have LM3 : M2.length ≤ l.length + 110300000 := by rw [hM2]; simp at LM2 ⊢; omega
          have HM2 : Hid _ := hM2
          clear hM2 HB H6 KB LM2
          go_wp2_with fail
          clear k7
          go_loopw [106] (fun i wr => ∃ j : Nat, j ≤ P.pn ∧ i = .int .i64 j ∧ Hid (WB W wr (AvX Av X) p t (M2 ++ recsB P.pB j))) (fun i _ => P.pn - (intOf i).toNat)
          case atStart => exact ⟨0, Nat.zero_le _, rfl, by show WB W w7 (AvX Av X) p t (M2 ++ []); rw [List.append_nil]; exact H7.out⟩
          case round =>
            obtain ⟨j, hj, rfl, hid⟩ := hrel
            have HB : Hid _ := hid.out
            clear hid
            by_cases hlt : j < P.pn
            · obtain ⟨k, hk⟩ : ∃ k, k = P.ps j := ⟨_, rfl⟩
              obtain ⟨g, o, hsa, hav, hrg⟩ := HP.out.prow j hlt
              have kin := HP.out.pk j hlt
              have hrg : W.rangeAt g (o + j * 66) k.cells := by rw [hk]; exact hrg
              rw [← hk] at kin
              have hix := ix_at Try.underlying47 Try.elem47 Try.so130 (c := P.pc) hsa hlt
              have RG : Hid (wr.rangeAt g (o + j * 66) k.cells) := rangeAt_kept hrg HB.out.ch (fun e => e (.inl hav))
              have HKK : Hid _ := hk
              have A1 := kin.1
              have A2 := kin.2.1
              have A4 := kin.2.2
              have n1 := numB_ten A1
              have KB : (recsB P.pB j).length ≤ j * 75 := recsB_len j (fun i hi => by have q1 := HP.out.pk i (by omega); have e1 := numB_ten q1.1; have e3 := q1.2.1; have e4 := q1.2.2; simp only [Pg.pB, Pk.bytes, List.length_append]; omega)
              clear hrg hk hsa hav kin
              go_upto_region 25 with (first
                | refine wpList_load_mid rfl 129 (.tmp 108) rfl g (o + j * 66) rfl k.cells _ RG.out Try.underlying129 rfl (Try.pkSz k A2 A4) ?_
                | (refine wpList_store_part rfl 129 (.tmp 9) (.tmp 109) rfl wr.heap.size 0 k.cells rfl rfl (t := 129) ⟨heap_alloc_new _ _⟩ (by simp [Pk.cells, leafC, bs, A2, A4]) (Try.pkSz k A2 A4) (leafC_one _ _) ?_; intro wB hw8 hc8; rw [splice_all _ _ (by simp [Pk.cells, leafC, bs, A2, A4])] at hw8; have c8 : Chg (fun _ => False) wr wB := ((Chg.refl (fun _ => False) wr).alloc _).trans hc8 (fun i e => .inr (by omega)); have BK : Hid _ := hw8; have CB : Hid _ := c8; clear hw8 hc8 c8))
              have G0 : Hid (WB wB wB (AvX (AvX Av X) wr.heap.size) p t (M2 ++ recsB P.pB j)) := HB.out.box CB.out BK.out.lt
              have LB : (M2 ++ recsB P.pB j).length ≤ M2.length + j * 75 := by rw [List.length_append]; omega
              obtain ⟨Lj, hLj⟩ : ∃ Lj, Lj = M2 ++ recsB P.pB j := ⟨_, rfl⟩
              rw [← hLj] at G0 LB
              have HLJ : Hid _ := hLj
              clear hLj hix
              go_upto_region 25 with fail
              refine wp_region_held_drew (S := fun w' => Blk w' wr.heap.size k.cells 129) (by kernel_rfl) (Blk.drew (G0.out.blk BK.out (.inr rfl))) (fun hH => ?_)
              refine wpAnyH_take (i := 0) (v := .pointer (some ⟨p, 0, none⟩)) rfl (by kernel_rfl) (by kernel_rfl) (by kernel_rfl) (fun _ _ _ h => h) (Or.inl ⟨by rfl, fun w' _ => by go_simp⟩) hH ?_
              refine wpAnyH_take (i := 1) (v := .pointer (some ⟨p, 0, none⟩)) rfl (by kernel_rfl) (by kernel_rfl) (by kernel_rfl) (fun _ _ _ h => h) (Or.inl ⟨by rfl, fun w' _ => by go_simp⟩) hH ?_
              refine wpAnyH_take (i := 2) (v := .pointer (some ⟨p, 0, none⟩)) rfl (by kernel_rfl) (by kernel_rfl) (by kernel_rfl) (fun _ _ _ h => h) (Or.inl ⟨by rfl, fun w' _ => by go_simp⟩) hH ?_
              refine wpAnyH_take (i := 3) (v := .pointer (some ⟨wr.heap.size, 0, none⟩)) rfl (by kernel_rfl) (by kernel_rfl) (by kernel_rfl) (fun _ _ _ h => h) (Or.inl ⟨by rfl, fun w' _ => by go_simp⟩) hH ?_
              refine wpAnyH_take (i := 4) (v := .int .u64 k.n) rfl (by kernel_rfl) (by kernel_rfl) (by kernel_rfl) (fun _ _ _ h => h) (Or.inl ⟨by rfl, fun w' hw' => by have h2 : w'.cell? ⟨wr.heap.size, 0, none⟩ = some (.int .u64 k.n) := Blk.cell hw' 0; go_simp⟩) hH ?_
              refine wpAnyH_ready (rs := [5]) (by kernel_rfl) (by simp) ?_
              refine AllReadyH.cons rfl (fun K hK => ?_) AllReadyH.nil
              go_simp
              refine Calls.mono ((G0.out.drew).go (fun cs v s hv => wUint_any s k.n A1 (by omega))) ?_
              rintro e w9 ⟨rfl, h9⟩
              refine hK.out _ _ (h9.blk BK.out (.inr rfl)) (fun _ => ?_)
              clear hK K hH
              refine wpAnyH_done (by kernel_rfl) ?_ _
              have G1 : Hid _ := h9
              clear h9
              obtain ⟨wC, hwC⟩ : ∃ wC, wC = w9 := ⟨_, rfl⟩
              rw [← hwC] at G1 ⊢
              clear hwC
              have BK2 : Hid (Blk wC wr.heap.size k.cells 129) := G1.out.blk BK.out (.inr rfl)
              go_upto_region 27 with (first
                | refine wpList_load_part rfl 73 (.tmp 117) rfl wr.heap.size 1 (bs (k.x ++ k.y)) rfl BK2.out (k.z_at) Try.underlying73 rfl (Try.limbSz (k.x ++ k.y) (by rw [List.length_append, A2, A4])) ?_
                | (go_at_call 142; refine Calls.mono (G1.out.go (fun cs v s _ => wLimb_any s k.x k.y A2 A4 (by simp; omega))) ?_; rintro e wD ⟨rfl, h6⟩; have G2 : Hid _ := h6; clear h6))
              have F : Hid (WB W wD (AvX Av X) p t (M2 ++ recsB P.pB (j + 1))) := by
                have h9 := (HLJ.out ▸ HB.out : WB W wr (AvX Av X) p t Lj).leave CB.out G2.out
                have e : M2 ++ recsB P.pB (j + 1) = Lj ++ numB k.n ++ k.x ++ k.y := by
                  rw [HLJ.out, recsB, Pg.pB, ← HKK.out, Pk.bytes]
                  simp
                rw [e]
                exact h9
              go_wp2_with fail
              go_roundw
              case rel => exact ⟨j + 1, by omega, by go_num, F.out⟩
              case measure => simp [intOf]; omega
            · have hjn : j = P.pn := by omega
              subst hjn
              have F : Hid (WB w0 wr Av p t (l ++ P.bytesI)) := by
                have h9 := H.out.leave CW.out HB.out
                have e : l ++ P.bytesI = M2 ++ recsB P.pB P.pn := by
                  rw [HM2.out, HM1.out, HM0.out, Pg.bytesI]
                  simp
                rw [e]
                exact h9
              go_wp2_with fail
              go_end0
              exact ⟨rfl, F.out⟩
end Go.Proofs.Ytfkjgfelgiogeaa
