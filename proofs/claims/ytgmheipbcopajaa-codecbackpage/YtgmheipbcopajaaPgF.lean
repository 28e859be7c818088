/-
  fitPage: whether a page keeps to the document's bounds.
-/
import Derived.Test.YtgmheipbcopajaaPgD
namespace Go.Proofs.Ytgmheipbcopajaa
open Go.RowKit

/-- What fitPage answers. -/
structure FitP (w w' : World) (P : Pg) (e : Ending) : Prop where
  ex : ∃ b, e = .returned (.bool b) ∧ Below w.heap.size w w' ∧ (b = true → PgFit P)

set_option maxRecDepth 100000 in
set_option maxHeartbeats 16000000 in
theorem fitPage_any {w : World} {P : Pg} (hP : PgIn w (fun g => g < w.heap.size) P) :
    Calls Try.prog 16 #[.agg P.cells.toArray] w fun e w' => FitP w w' P e := by
  obtain ⟨X, hX⟩ : ∃ X, X = w.heap.size := ⟨_, rfl⟩
  obtain ⟨W, hW⟩ : ∃ W, W = w.alloc (.cells P.cells.toArray 51) := ⟨_, rfl⟩
  have HB : Hid (Below w.heap.size w W) := by rw [hW]; exact (Below.refl _ _).alloc (Nat.le_refl _) _
  have b0 : Blk W X P.cells 51 := by rw [hW, hX]; exact Blk.made _ _ _
  have B0 : Hid _ := b0
  have HP : Hid _ := hP
  have LA := hP.la
  have WI := hP.wi
  have SE := hP.se
  have SZ := hP.sz
  have MN := hP.mn
  have VN := hP.vn
  have PN := hP.pn
  have k0 : W.cell? ⟨X, 0, none⟩ = some (.int .u64 P.la) := b0.cell 0
  have k1 : W.cell? ⟨X, 1, none⟩ = some (.int .i64 P.wi) := b0.cell 1
  have k2 : W.cell? ⟨X, 2, none⟩ = some (.int .u64 P.se) := b0.cell 2
  have k3 : W.cell? ⟨X, 3, none⟩ = some (.slice P.ma P.mn P.mc) := b0.cell 3
  have k4 : W.cell? ⟨X, 4, none⟩ = some (.slice P.va P.vn P.vc) := b0.cell 4
  have k5 : W.cell? ⟨X, 5, none⟩ = some (.int .u64 P.sz) := b0.cell 5
  have k6 : W.cell? ⟨X, 6, none⟩ = some (.slice P.pa P.pn P.pc) := b0.cell 6
  clear hP b0
  by_cases c0 : (4611686018427387904 : Int) < (P.la : Int)
  · go_enter Try.func16, Try.ntmps16
    go_upto_region 1 with fail
    rw [← hX, ← hW]
    clear hX hW
    go_wp2_with fail
    go_ret
    exact ⟨⟨false, rfl, HB.out, fun h => by cases h⟩⟩
  · by_cases c1 : P.wi < 0
    · go_enter Try.func16, Try.ntmps16
      go_upto_region 1 with fail
      rw [← hX, ← hW]
      clear hX hW
      go_wp2_with fail
      go_ret
      exact ⟨⟨false, rfl, HB.out, fun h => by cases h⟩⟩
    · by_cases c2 : 64 < P.wi
      · go_enter Try.func16, Try.ntmps16
        go_upto_region 1 with fail
        rw [← hX, ← hW]
        clear hX hW
        go_wp2_with fail
        go_ret
        exact ⟨⟨false, rfl, HB.out, fun h => by cases h⟩⟩
      · by_cases c3 : (4611686018427387904 : Int) < (P.se : Int)
        · go_enter Try.func16, Try.ntmps16
          go_upto_region 1 with fail
          rw [← hX, ← hW]
          clear hX hW
          go_wp2_with fail
          go_ret
          exact ⟨⟨false, rfl, HB.out, fun h => by cases h⟩⟩
        · by_cases c4 : (32768 : Int) < (P.mn : Int)
          · go_enter Try.func16, Try.ntmps16
            go_upto_region 1 with fail
            rw [← hX, ← hW]
            clear hX hW
            go_wp2_with fail
            go_ret
            exact ⟨⟨false, rfl, HB.out, fun h => by cases h⟩⟩
          · by_cases c5 : (64 : Int) < (P.vn : Int)
            · go_enter Try.func16, Try.ntmps16
              go_upto_region 1 with fail
              rw [← hX, ← hW]
              clear hX hW
              go_wp2_with fail
              go_ret
              exact ⟨⟨false, rfl, HB.out, fun h => by cases h⟩⟩
            · by_cases c6 : (4611686018427387905 : Int) < (P.sz : Int)
              · go_enter Try.func16, Try.ntmps16
                go_upto_region 1 with fail
                rw [← hX, ← hW]
                clear hX hW
                go_wp2_with fail
                go_ret
                exact ⟨⟨false, rfl, HB.out, fun h => by cases h⟩⟩
              · by_cases c7 : (63 : Int) < (P.pn : Int)
                · go_enter Try.func16, Try.ntmps16
                  go_upto_region 1 with fail
                  rw [← hX, ← hW]
                  clear hX hW
                  go_wp2_with fail
                  go_ret
                  exact ⟨⟨false, rfl, HB.out, fun h => by cases h⟩⟩
                · go_enter Try.func16, Try.ntmps16
                  go_upto_region 1 with fail
                  rw [← hX, ← hW]
                  clear hX hW
                  go_wp2_with fail
                  clear k0 k1 k2 k3 k4 k5 k6
                  go_loopw [53] (fun i wr => ∃ j : Nat, j ≤ P.mn ∧ i = .int .i64 j ∧ Hid ((Below w.heap.size w wr ∧ Below W.heap.size W wr) ∧ ∀ i, i < j → ((P.ms i).se ≤ 4611686018427387904 ∧ 0 ≤ (P.ms i).us ∧ (P.ms i).us ≤ 4194304))) (fun i _ => P.mn - (intOf i).toNat)
                  case atStart => exact ⟨0, Nat.zero_le _, rfl, ⟨HB.out, Below.refl _ _⟩, fun i hi => by omega⟩
                  case round =>
                    obtain ⟨j, hj, rfl, hid⟩ := hrel
                    obtain ⟨bl, fits⟩ := hid.out
                    have BL : Hid _ := bl.1
                    have BW : Hid _ := bl.2
                    have FITS : Hid _ := fits
                    clear hid bl fits
                    by_cases hlt : j < P.mn
                    · obtain ⟨k, hk⟩ : ∃ k, k = P.ms j := ⟨_, rfl⟩
                      obtain ⟨g, o, hsa, hav, hrg⟩ := HP.out.mrow j hlt
                      have kin := HP.out.em j hlt
                      have hrg : w.rangeAt g (o + j * 2) k.cells := by rw [hk]; exact hrg
                      rw [← hk] at kin
                      have hix := ix_at Try.underlying45 Try.elem45 Try.so124 (c := P.mc) hsa hlt
                      have RG : Hid (wr.rangeAt g (o + j * 2) k.cells) := rangeAt_kept hrg (Chg.of_below BL.out (fun _ => False)) (fun e => e)
                      have HKK : Hid _ := hk
                      have A1 := kin.1
                      have A2 := kin.2.1
                      have A3 := kin.2.2
                      clear hrg hk hsa hav kin
                      go_upto_region 8 with (first
                        | refine wpList_load_mid rfl 124 (.tmp 55) rfl g (o + j * 2) rfl k.cells _ RG.out Try.underlying124 rfl (Try.mkSz k) ?_
                        | (refine wpList_store_part rfl 124 (.tmp 4) (.tmp 56) rfl wr.heap.size 0 k.cells rfl rfl (t := 124) ⟨heap_alloc_new _ _⟩ (by simp [Mk.cells]) (Try.mkSz k) (k.one) ?_; intro wB hw8 hc8; rw [splice_all _ _ (by simp [Mk.cells])] at hw8; have c8 : Chg (fun _ => False) wr wB := ((Chg.refl (fun _ => False) wr).alloc _).trans hc8 (fun i e => .inr (by omega)); have BK : Hid _ := hw8; have CB : Hid _ := c8; clear hw8 hc8 c8))
                      have BL9 : Hid (Below w.heap.size w wB) := BL.out.trans (CB.out.below BL.out.size (fun _ e => e.elim))
                      have BW9 : Hid (Below W.heap.size W wB) := BW.out.trans (CB.out.below BW.out.size (fun _ e => e.elim))
                      have q0 : wB.cell? ⟨wr.heap.size, 0, none⟩ = some (.int .u64 k.se) := BK.out.cell 0
                      have q1 : wB.cell? ⟨wr.heap.size, 1, none⟩ = some (.int .i64 k.us) := BK.out.cell 1
                      clear hix
                      by_cases l0 : (4611686018427387904 : Int) < (k.se : Int)
                      · go_wp2_with fail
                        go_ret
                        exact ⟨⟨false, rfl, BL9.out, fun h => by cases h⟩⟩
                      · by_cases l1 : k.us < 0
                        · go_wp2_with fail
                          go_ret
                          exact ⟨⟨false, rfl, BL9.out, fun h => by cases h⟩⟩
                        · by_cases l2 : 4194304 < k.us
                          · go_wp2_with fail
                            go_ret
                            exact ⟨⟨false, rfl, BL9.out, fun h => by cases h⟩⟩
                          · have FN : Hid (∀ i, i < j + 1 → ((P.ms i).se ≤ 4611686018427387904 ∧ 0 ≤ (P.ms i).us ∧ (P.ms i).us ≤ 4194304)) := fun i hi => by
                              rcases Nat.lt_or_ge i j with e | e
                              · exact FITS.out i e
                              · have e : i = j := by omega
                                rw [e, ← HKK.out]
                                omega
                            go_wp2_with fail
                            go_roundw
                            case rel => exact ⟨j + 1, by omega, by go_num, ⟨BL9.out, BW9.out⟩, FN.out⟩
                            case measure => simp [intOf]; omega
                    · have hjn : j = P.mn := by omega
                      have Fmn : Hid (∀ i, i < P.mn → ((P.ms i).se ≤ 4611686018427387904 ∧ 0 ≤ (P.ms i).us ∧ (P.ms i).us ≤ 4194304)) := by
                        have h9 := FITS.out
                        rw [hjn] at h9
                        exact h9
                      clear hjn FITS
                      have x4 : wr.cell? ⟨X, 4, none⟩ = some (.slice P.va P.vn P.vc) := by rw [(B0.out.keep (Chg.of_below BW.out (fun _ => False)) (fun e => e)).cell]; rfl
                      go_wp2_with fail
                      clear x4
                      go_loopw [74] (fun i wr => ∃ j : Nat, j ≤ P.vn ∧ i = .int .i64 j ∧ Hid ((Below w.heap.size w wr ∧ Below W.heap.size W wr) ∧ ∀ i, i < j → ((P.vs i).n ≤ 4611686018427387904 ∧ (P.vs i).c ≤ 4611686018427387904))) (fun i _ => P.vn - (intOf i).toNat)
                      case atStart => exact ⟨0, Nat.zero_le _, rfl, ⟨BL.out, BW.out⟩, fun i hi => by omega⟩
                      case round =>
                        obtain ⟨j, hj, rfl, hid⟩ := hrel
                        obtain ⟨bl, fits⟩ := hid.out
                        have BL : Hid _ := bl.1
                        have BW : Hid _ := bl.2
                        have FITS : Hid _ := fits
                        clear hid bl fits
                        by_cases hlt : j < P.vn
                        · obtain ⟨k, hk⟩ : ∃ k, k = P.vs j := ⟨_, rfl⟩
                          obtain ⟨g, o, hsa, hav, hrg⟩ := HP.out.vrow j hlt
                          have kin := HP.out.vk j hlt
                          have hrg : w.rangeAt g (o + j * 67) k.cells := by rw [hk]; exact hrg
                          rw [← hk] at kin
                          have hix := ix_at Try.underlying46 Try.elem46 Try.so128 (c := P.vc) hsa hlt
                          have RG : Hid (wr.rangeAt g (o + j * 67) k.cells) := rangeAt_kept hrg (Chg.of_below BL.out (fun _ => False)) (fun e => e)
                          have HKK : Hid _ := hk
                          have A1 := kin.1
                          have A2 := kin.2.1
                          have A3 := kin.2.2.1
                          have A4 := kin.2.2.2
                          clear hrg hk hsa hav kin
                          go_upto_region 14 with (first
                            | refine wpList_load_mid rfl 128 (.tmp 76) rfl g (o + j * 67) rfl k.cells _ RG.out Try.underlying128 rfl (Try.vsSz k A2 A4) ?_
                            | (refine wpList_store_part rfl 128 (.tmp 6) (.tmp 77) rfl wr.heap.size 0 k.cells rfl rfl (t := 128) ⟨heap_alloc_new _ _⟩ (by simp [Vs.cells, vsC, bs, A2, A4]) (Try.vsSz k A2 A4) (vsC_one _ _ _ _) ?_; intro wB hw8 hc8; rw [splice_all _ _ (by simp [Vs.cells, vsC, bs, A2, A4])] at hw8; have c8 : Chg (fun _ => False) wr wB := ((Chg.refl (fun _ => False) wr).alloc _).trans hc8 (fun i e => .inr (by omega)); have BK : Hid _ := hw8; have CB : Hid _ := c8; clear hw8 hc8 c8))
                          have BL9 : Hid (Below w.heap.size w wB) := BL.out.trans (CB.out.below BL.out.size (fun _ e => e.elim))
                          have BW9 : Hid (Below W.heap.size W wB) := BW.out.trans (CB.out.below BW.out.size (fun _ e => e.elim))
                          have q0 : wB.cell? ⟨wr.heap.size, 0, none⟩ = some (.int .u64 k.n) := BK.out.cell 0
                          have q1 : wB.cell? ⟨wr.heap.size, 34, none⟩ = some (.int .u64 k.c) := by rw [BK.out.cell]; exact k.c_at A2
                          clear hix
                          by_cases l0 : (4611686018427387904 : Int) < (k.n : Int)
                          · go_wp2_with fail
                            go_ret
                            exact ⟨⟨false, rfl, BL9.out, fun h => by cases h⟩⟩
                          · by_cases l1 : (4611686018427387904 : Int) < (k.c : Int)
                            · go_wp2_with fail
                              go_ret
                              exact ⟨⟨false, rfl, BL9.out, fun h => by cases h⟩⟩
                            · have FN : Hid (∀ i, i < j + 1 → ((P.vs i).n ≤ 4611686018427387904 ∧ (P.vs i).c ≤ 4611686018427387904)) := fun i hi => by
                                rcases Nat.lt_or_ge i j with e | e
                                · exact FITS.out i e
                                · have e : i = j := by omega
                                  rw [e, ← HKK.out]
                                  omega
                              go_wp2_with fail
                              go_roundw
                              case rel => exact ⟨j + 1, by omega, by go_num, ⟨BL9.out, BW9.out⟩, FN.out⟩
                              case measure => simp [intOf]; omega
                        · have hjn : j = P.vn := by omega
                          have Fvn : Hid (∀ i, i < P.vn → ((P.vs i).n ≤ 4611686018427387904 ∧ (P.vs i).c ≤ 4611686018427387904)) := by
                            have h9 := FITS.out
                            rw [hjn] at h9
                            exact h9
                          clear hjn FITS
                          have x6 : wr.cell? ⟨X, 6, none⟩ = some (.slice P.pa P.pn P.pc) := by rw [(B0.out.keep (Chg.of_below BW.out (fun _ => False)) (fun e => e)).cell]; rfl
                          go_wp2_with fail
                          clear x6
                          go_loopw [92] (fun i wr => ∃ j : Nat, j ≤ P.pn ∧ i = .int .i64 j ∧ Hid ((Below w.heap.size w wr ∧ Below W.heap.size W wr) ∧ ∀ i, i < j → ((P.ps i).n ≤ 4611686018427387904))) (fun i _ => P.pn - (intOf i).toNat)
                          case atStart => exact ⟨0, Nat.zero_le _, rfl, ⟨BL.out, BW.out⟩, fun i hi => by omega⟩
                          case round =>
                            obtain ⟨j, hj, rfl, hid⟩ := hrel
                            obtain ⟨bl, fits⟩ := hid.out
                            have BL : Hid _ := bl.1
                            have BW : Hid _ := bl.2
                            have FITS : Hid _ := fits
                            clear hid bl fits
                            by_cases hlt : j < P.pn
                            · obtain ⟨k, hk⟩ : ∃ k, k = P.ps j := ⟨_, rfl⟩
                              obtain ⟨g, o, hsa, hav, hrg⟩ := HP.out.prow j hlt
                              have kin := HP.out.pk j hlt
                              have hrg : w.rangeAt g (o + j * 66) k.cells := by rw [hk]; exact hrg
                              rw [← hk] at kin
                              have hix := ix_at Try.underlying47 Try.elem47 Try.so130 (c := P.pc) hsa hlt
                              have RG : Hid (wr.rangeAt g (o + j * 66) k.cells) := rangeAt_kept hrg (Chg.of_below BL.out (fun _ => False)) (fun e => e)
                              have HKK : Hid _ := hk
                              have A1 := kin.1
                              have A2 := kin.2.1
                              have A4 := kin.2.2
                              clear hrg hk hsa hav kin
                              go_upto_region 20 with (first
                                | refine wpList_load_mid rfl 130 (.tmp 94) rfl g (o + j * 66) rfl k.cells _ RG.out Try.underlying130 rfl (Try.pkSz k A2 A4) ?_
                                | (refine wpList_store_part rfl 130 (.tmp 8) (.tmp 95) rfl wr.heap.size 0 k.cells rfl rfl (t := 130) ⟨heap_alloc_new _ _⟩ (by simp [Pk.cells, leafC, bs, A2, A4]) (Try.pkSz k A2 A4) (leafC_one _ _) ?_; intro wB hw8 hc8; rw [splice_all _ _ (by simp [Pk.cells, leafC, bs, A2, A4])] at hw8; have c8 : Chg (fun _ => False) wr wB := ((Chg.refl (fun _ => False) wr).alloc _).trans hc8 (fun i e => .inr (by omega)); have BK : Hid _ := hw8; have CB : Hid _ := c8; clear hw8 hc8 c8))
                              have BL9 : Hid (Below w.heap.size w wB) := BL.out.trans (CB.out.below BL.out.size (fun _ e => e.elim))
                              have BW9 : Hid (Below W.heap.size W wB) := BW.out.trans (CB.out.below BW.out.size (fun _ e => e.elim))
                              have q0 : wB.cell? ⟨wr.heap.size, 0, none⟩ = some (.int .u64 k.n) := BK.out.cell 0
                              clear hix
                              by_cases l0 : (4611686018427387904 : Int) < (k.n : Int)
                              · go_wp2_with fail
                                go_ret
                                exact ⟨⟨false, rfl, BL9.out, fun h => by cases h⟩⟩
                              · have FN : Hid (∀ i, i < j + 1 → ((P.ps i).n ≤ 4611686018427387904)) := fun i hi => by
                                  rcases Nat.lt_or_ge i j with e | e
                                  · exact FITS.out i e
                                  · have e : i = j := by omega
                                    rw [e, ← HKK.out]
                                    omega
                                go_wp2_with fail
                                go_roundw
                                case rel => exact ⟨j + 1, by omega, by go_num, ⟨BL9.out, BW9.out⟩, FN.out⟩
                                case measure => simp [intOf]; omega
                            · have hjn : j = P.pn := by omega
                              have Fpn : Hid (∀ i, i < P.pn → ((P.ps i).n ≤ 4611686018427387904)) := by
                                have h9 := FITS.out
                                rw [hjn] at h9
                                exact h9
                              clear hjn FITS
                              go_wp2_with fail
                              go_ret
                              exact ⟨⟨true, rfl, BL.out, fun _ => ⟨by omega, by omega, by omega, by omega, by omega, by omega, by omega, Fmn.out, Fvn.out, Fpn.out⟩⟩⟩



end Go.Proofs.Ytgmheipbcopajaa
