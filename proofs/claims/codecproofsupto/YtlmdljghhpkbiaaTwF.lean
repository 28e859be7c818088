/-
  fitTower: whether a tower keeps to the document's bounds.
-/
import Derived.Test.YtlmdljghhpkbiaaTwC
import Derived.Test.YtlmdljghhpkbiaaTwS
import Derived.Test.YtlmdljghhpkbiaaTwN
namespace Go.Proofs.Ytlmdljghhpkbiaa
open Go.RowKit

/-- What fitTower answers. -/
structure FitQ (w w' : World) (T : Tw) (e : Ending) : Prop where
  ex : ∃ b, e = .returned (.bool b) ∧ Below w.heap.size w w' ∧ (b = true → TwFit T)

/-- A tower that came in. -/
structure TwOp (w : World) (T : Tw) : Prop where
  src : Src w (.slice T.ka T.kn T.kc) T.kl
  av : ∀ g, (Value.slice T.ka T.kn T.kc).ownBlock = some g → g < w.heap.size ∨ T.kl = []
  kn : T.kn = T.kl.length
  vl : T.vl.length = 33
  sn : T.sn ≤ 9223372036854775807
  kl : T.kl.length ≤ 9223372036854775807
  row : ∀ i, i < T.sn → ∃ g o, T.sa = some ⟨g, o, none⟩ ∧ g < w.heap.size ∧ w.rangeAt g (o + i * 68) (T.ks i).cells
  kid : ∀ i, i < T.sn → KdIn w (fun g => g < w.heap.size) (T.ks i) ∧ (T.ks i).kn = (T.ks i).kl.length ∧ (T.ks i).kl.length ≤ 9223372036854775807
theorem TwOp.in_ {w : World} {T : Tw} (h : TwOp w T) (hf : TwFit T) : TwIn w (fun g => g < w.heap.size) T :=
  ⟨h.src, h.av, h.vl, by have := hf.sn; omega, by have := hf.kl; omega, fun i hi => by obtain ⟨g, o, a, b, c⟩ := h.row i hi; exact ⟨g, o, a, b, c⟩, fun i hi => (h.kid i hi).1⟩

def z33 : List Int := List.replicate 33 0

theorem wpList_bin_g {ops : Array Oper} {rest : List Oper} {op : Oper} {a : Act} {w : World} {Q : Exit → Act → World → Prop} (hw : Region.wanted op (yielded ops a.tmps) = true) (b : BinOp) (t : TypeId) (x y : Operand) (ho : op.op = .binOp b t x y t)
    {u v : Array Value} (hx : a.eval x = .agg u) (hy : a.eval y = .agg v) (hg : Try.prog.eqGuardType Try.prog.depth t = false) {r : Value} (hr : (binOp b t (.agg u) (.agg v)).run Try.prog w = .ok r w) (h : wpList Try.prog ops Q rest (a.put op.dst r) w) : wpList Try.prog ops Q (op :: rest) a w :=
  wpList_step fun K hK => by
    rw [if_pos hw]
    unfold Oper.wp execOp
    simp only [ho, hx, hy, Sem.run_bind, run_eqGuard_agg _ _ _ _ _ _ _ hg, Result.andThen_ok, hr, Sem.run_pure]
    exact hK _ _ h

set_option maxRecDepth 100000 in
set_option maxHeartbeats 8000000 in
theorem fitTower_any {w : World} {T : Tw} (hT : TwOp w T) :
    Calls Try.prog 23 #[.agg T.cells.toArray] w fun e w' => FitQ w w' T e := by
  obtain ⟨X, hX⟩ : ∃ X, X = w.heap.size := ⟨_, rfl⟩
  obtain ⟨W, hW⟩ : ∃ W, W = w.alloc (.cells T.cells.toArray 69) := ⟨_, rfl⟩
  have HB : Hid (Below w.heap.size w W) := by rw [hW]; exact (Below.refl _ _).alloc (Nat.le_refl _) _
  have b0 : Blk W X T.cells 69 := by rw [hW, hX]; exact Blk.made _ _ _
  have B0 : Hid _ := b0
  have HT : Hid _ := hT
  have HV := hT.vl
  have HSN := hT.sn
  have HKL := hT.kl
  have HKN : Hid _ := hT.kn
  have hkn : T.kn ≤ 9223372036854775807 := by rw [hT.kn]; exact hT.kl
  have k0 : W.cell? ⟨X, 0, none⟩ = some (.bool T.hd) := b0.cell 0
  have k1 : W.cell? ⟨X, 1, none⟩ = some (.slice T.ka T.kn T.kc) := b0.cell 1
  have k5 : W.cell? ⟨X, 35, none⟩ = some (.slice T.sa T.sn T.sc) := by rw [b0.cell]; exact T.ks_at HV
  clear hT b0
  cases hh : T.hd with
  | true =>
    rw [hh] at k0
    by_cases hk : (0 : Int) < (T.kn : Int)
    · go_enter Try.func23, Try.ntmps23
      go_upto_region 1 with fail
      rw [← hX, ← hW]
      clear hX hW
      go_wp2_with fail
      go_ret
      exact ⟨⟨false, rfl, HB.out, fun h => by cases h⟩⟩
    · by_cases hv : T.vl = z33
      · have e33 := neq33b T.vl z33 HV rfl
        rw [decide_eq_true hv] at e33
        have HVE : Hid _ := hv
        clear hv
        by_cases hs : (24 : Int) < (T.sn : Int)
        · go_enter Try.func23, Try.ntmps23
          go_upto_region 1 with fail
          rw [← hX, ← hW]
          clear hX hW
          go_wp2_with (first | refine wpList_load_g (by rfl) 33 (.tmp 13) rfl X 2 (bs T.vl) rfl B0.out (T.vl_at) Try.underlying33 rfl (Try.addrSz T.vl HV) ?_ | refine wpList_bin_g (by rfl) .neq 33 (.tmp 14) (.tmp 15) rfl (u := (bs T.vl).toArray) (v := (bs z33).toArray) rfl rfl Try.eqGuardType33 (e33 _) ?_)
          go_ret
          exact ⟨⟨false, rfl, HB.out, fun h => by cases h⟩⟩
        · have FIN : Hid ((∀ i, i < T.sn → KdFit (T.ks i)) → TwFit T) := fun h => ⟨by have := HKN.out; omega, HV, by omega, h, fun _ => ⟨List.eq_nil_of_length_eq_zero (by have := HKN.out; omega), HVE.out⟩⟩
          clear hh
          rcases Nat.eq_zero_or_pos T.sn with hz | hpos
          · have HZ : Hid _ := hz
            clear hz
            go_enter Try.func23, Try.ntmps23
            go_upto_region 1 with fail
            rw [← hX, ← hW]
            clear hX hW
            go_wp2_with (first | refine wpList_load_g (by rfl) 33 (.tmp 13) rfl X 2 (bs T.vl) rfl B0.out (T.vl_at) Try.underlying33 rfl (Try.addrSz T.vl HV) ?_ | refine wpList_bin_g (by rfl) .neq 33 (.tmp 14) (.tmp 15) rfl (u := (bs T.vl).toArray) (v := (bs z33).toArray) rfl rfl Try.eqGuardType33 (e33 _) ?_)
            clear k0 k1 k5
            go_loopw [34] (fun i wr => i = .int .i64 0 ∧ Hid (Below w.heap.size w wr)) (fun _ _ => 0)
            case atStart => exact ⟨rfl, HB.out⟩
            case round =>
              obtain ⟨rfl, hid⟩ := hrel
              have F2 : Hid _ := hid.out
              have hz := HZ.out
              clear hid
              go_wp2_with fail
              go_ret
              exact ⟨⟨true, rfl, F2.out, fun _ => FIN.out (fun i hi => by have := HZ.out; omega)⟩⟩
          · obtain ⟨g, o, hsa, _, _⟩ := HT.out.row 0 hpos
            have HSA : Hid _ := hsa
            rw [hsa] at k5
            clear hsa
            go_enter Try.func23, Try.ntmps23
            go_upto_region 1 with fail
            rw [← hX, ← hW]
            clear hX hW
            go_wp2_with (first | refine wpList_load_g (by rfl) 33 (.tmp 13) rfl X 2 (bs T.vl) rfl B0.out (T.vl_at) Try.underlying33 rfl (Try.addrSz T.vl HV) ?_ | refine wpList_bin_g (by rfl) .neq 33 (.tmp 14) (.tmp 15) rfl (u := (bs T.vl).toArray) (v := (bs z33).toArray) rfl rfl Try.eqGuardType33 (e33 _) ?_)
            clear k0 k1 k5
            go_loopw [34] (fun i wr => ∃ j : Nat, j ≤ T.sn ∧ i = .int .i64 j ∧ Hid (Below w.heap.size w wr ∧ ∀ i, i < j → KdFit (T.ks i))) (fun i _ => T.sn - (intOf i).toNat)
            case atStart => exact ⟨0, Nat.zero_le _, rfl, HB.out, fun i hi => by omega⟩
            case round =>
              obtain ⟨j, hj, rfl, hid⟩ := hrel
              obtain ⟨bl, fits⟩ := hid.out
              have BL : Hid _ := bl
              have FITS : Hid _ := fits
              clear hid bl fits
              by_cases hlt : j < T.sn
              · obtain ⟨k, hk2⟩ : ∃ k, k = T.ks j := ⟨_, rfl⟩
                obtain ⟨g1, o1, hsb, hav, hrg⟩ := HT.out.row j hlt
                rw [HSA.out] at hsb
                injection hsb with hsb
                injection hsb with hs1 hs2 _
                subst hs1 hs2
                obtain ⟨kin, ekn, ekl⟩ := HT.out.kid j hlt
                rw [← hk2] at hrg kin ekn ekl
                have RG : Hid (wr.rangeAt g (o + j * 68) k.cells) := rangeAt_kept hrg (Chg.of_below BL.out (fun _ => False)) (fun e => e)
                have A1 := kin.ad
                have A2 := kin.lb
                have A3 := kin.ct
                have A4 := kin.lv
                have EKN : Hid _ := ekn
                have kle : k.kn ≤ 9223372036854775807 := by rw [ekn]; exact ekl
                have HKK : Hid _ := hk2
                clear hrg kin hk2 ekn
                go_upto_region 6 with (first
                  | refine wpList_load_mid rfl 156 (.tmp 36) rfl g (o + j * 68) rfl k.cells _ RG.out Try.underlying156 rfl (Try.kidSz k A1 A2) ?_
                  | (refine wpList_store_part rfl 156 (.tmp 4) (.tmp 37) rfl wr.heap.size 0 k.cells rfl rfl (t := 156) ⟨heap_alloc_new _ _⟩ (by simp [Kd.cells, bs, A1, A2]) (Try.kidSz k A1 A2) k.one ?_; intro wB hw8 hc8; rw [splice_all _ _ (by simp [Kd.cells, bs, A1, A2])] at hw8; have c8 : Chg (fun _ => False) wr wB := ((Chg.refl (fun _ => False) wr).alloc _).trans hc8 (fun i e => .inr (by omega)); have BK : Hid _ := hw8; have CB : Hid _ := c8; clear hw8 hc8 c8))
                have BL9 : Hid (Below w.heap.size w wB) := BL.out.trans (CB.out.below BL.out.size (fun _ e => e.elim))
                have q0 : wB.cell? ⟨wr.heap.size, 0, none⟩ = some (.int .i64 k.lv) := BK.out.cell 0
                have q1 : wB.cell? ⟨wr.heap.size, 1, none⟩ = some (.slice k.ka k.kn k.kc) := BK.out.cell 1
                have q2 : wB.cell? ⟨wr.heap.size, 2, none⟩ = some (.int .u64 k.ct) := BK.out.cell 2
                by_cases l0 : k.lv < 0
                · go_wp2_with fail
                  go_ret
                  exact ⟨⟨false, rfl, BL9.out, fun h => by cases h⟩⟩
                · by_cases l1 : 23 < k.lv
                  · go_wp2_with fail
                    go_ret
                    exact ⟨⟨false, rfl, BL9.out, fun h => by cases h⟩⟩
                  · by_cases l2 : (1024 : Int) < (k.kn : Int)
                    · go_wp2_with fail
                      go_ret
                      exact ⟨⟨false, rfl, BL9.out, fun h => by cases h⟩⟩
                    · by_cases l3 : (4611686018427387904 : Int) < (k.ct : Int)
                      · go_wp2_with fail
                        go_ret
                        exact ⟨⟨false, rfl, BL9.out, fun h => by cases h⟩⟩
                      · have FN : Hid (∀ i, i < j + 1 → KdFit (T.ks i)) := fun i hi => by
                          rcases Nat.lt_or_ge i j with e | e
                          · exact FITS.out i e
                          · have e : i = j := by omega
                            rw [e, ← HKK.out]
                            exact ⟨by omega, by have := EKN.out; omega, by omega, A1, A2⟩
                        go_wp2_with fail
                        go_roundw
                        case rel => exact ⟨j + 1, by omega, by go_num, BL9.out, FN.out⟩
                        case measure => simp [intOf]; omega
              · have hjn : j = T.sn := by omega
                have F : Hid (∀ i, i < T.sn → KdFit (T.ks i)) := by
                  have h9 := FITS.out
                  rw [hjn] at h9
                  exact h9
                clear hjn
                go_wp2_with fail
                go_ret
                exact ⟨⟨true, rfl, BL.out, fun _ => FIN.out F.out⟩⟩
      · have e33 := neq33b T.vl z33 HV rfl
        rw [decide_eq_false hv] at e33
        go_enter Try.func23, Try.ntmps23
        go_upto_region 1 with fail
        rw [← hX, ← hW]
        clear hX hW
        go_wp2_with (first | refine wpList_load_g (by rfl) 33 (.tmp 13) rfl X 2 (bs T.vl) rfl B0.out (T.vl_at) Try.underlying33 rfl (Try.addrSz T.vl HV) ?_ | refine wpList_bin_g (by rfl) .neq 33 (.tmp 14) (.tmp 15) rfl (u := (bs T.vl).toArray) (v := (bs z33).toArray) rfl rfl Try.eqGuardType33 (e33 _) ?_)
        go_ret
        exact ⟨⟨false, rfl, HB.out, fun h => by cases h⟩⟩
  | false =>
    rw [hh] at k0
    by_cases hk : (1024 : Int) < (T.kn : Int)
    · go_enter Try.func23, Try.ntmps23
      go_upto_region 1 with fail
      rw [← hX, ← hW]
      clear hX hW
      go_wp2_with fail
      go_ret
      exact ⟨⟨false, rfl, HB.out, fun h => by cases h⟩⟩
    · by_cases hs : (24 : Int) < (T.sn : Int)
      · go_enter Try.func23, Try.ntmps23
        go_upto_region 1 with fail
        rw [← hX, ← hW]
        clear hX hW
        go_wp2_with fail
        go_ret
        exact ⟨⟨false, rfl, HB.out, fun h => by cases h⟩⟩
      · have FIN : Hid ((∀ i, i < T.sn → KdFit (T.ks i)) → TwFit T) := fun h => ⟨by have := HKN.out; omega, HV, by omega, h, fun h9 => by rw [hh] at h9; cases h9⟩
        clear hh
        rcases Nat.eq_zero_or_pos T.sn with hz | hpos
        · have HZ : Hid _ := hz
          clear hz
          go_enter Try.func23, Try.ntmps23
          go_upto_region 1 with fail
          rw [← hX, ← hW]
          clear hX hW
          go_wp2_with (fail)
          clear k0 k1 k5
          go_loopw [34] (fun i wr => i = .int .i64 0 ∧ Hid (Below w.heap.size w wr)) (fun _ _ => 0)
          case atStart => exact ⟨rfl, HB.out⟩
          case round =>
            obtain ⟨rfl, hid⟩ := hrel
            have F2 : Hid _ := hid.out
            have hz := HZ.out
            clear hid
            go_wp2_with fail
            go_ret
            exact ⟨⟨true, rfl, F2.out, fun _ => FIN.out (fun i hi => by have := HZ.out; omega)⟩⟩
        · obtain ⟨g, o, hsa, _, _⟩ := HT.out.row 0 hpos
          have HSA : Hid _ := hsa
          rw [hsa] at k5
          clear hsa
          go_enter Try.func23, Try.ntmps23
          go_upto_region 1 with fail
          rw [← hX, ← hW]
          clear hX hW
          go_wp2_with (fail)
          clear k0 k1 k5
          go_loopw [34] (fun i wr => ∃ j : Nat, j ≤ T.sn ∧ i = .int .i64 j ∧ Hid (Below w.heap.size w wr ∧ ∀ i, i < j → KdFit (T.ks i))) (fun i _ => T.sn - (intOf i).toNat)
          case atStart => exact ⟨0, Nat.zero_le _, rfl, HB.out, fun i hi => by omega⟩
          case round =>
            obtain ⟨j, hj, rfl, hid⟩ := hrel
            obtain ⟨bl, fits⟩ := hid.out
            have BL : Hid _ := bl
            have FITS : Hid _ := fits
            clear hid bl fits
            by_cases hlt : j < T.sn
            · obtain ⟨k, hk2⟩ : ∃ k, k = T.ks j := ⟨_, rfl⟩
              obtain ⟨g1, o1, hsb, hav, hrg⟩ := HT.out.row j hlt
              rw [HSA.out] at hsb
              injection hsb with hsb
              injection hsb with hs1 hs2 _
              subst hs1 hs2
              obtain ⟨kin, ekn, ekl⟩ := HT.out.kid j hlt
              rw [← hk2] at hrg kin ekn ekl
              have RG : Hid (wr.rangeAt g (o + j * 68) k.cells) := rangeAt_kept hrg (Chg.of_below BL.out (fun _ => False)) (fun e => e)
              have A1 := kin.ad
              have A2 := kin.lb
              have A3 := kin.ct
              have A4 := kin.lv
              have EKN : Hid _ := ekn
              have kle : k.kn ≤ 9223372036854775807 := by rw [ekn]; exact ekl
              have HKK : Hid _ := hk2
              clear hrg kin hk2 ekn
              go_upto_region 6 with (first
                | refine wpList_load_mid rfl 156 (.tmp 36) rfl g (o + j * 68) rfl k.cells _ RG.out Try.underlying156 rfl (Try.kidSz k A1 A2) ?_
                | (refine wpList_store_part rfl 156 (.tmp 4) (.tmp 37) rfl wr.heap.size 0 k.cells rfl rfl (t := 156) ⟨heap_alloc_new _ _⟩ (by simp [Kd.cells, bs, A1, A2]) (Try.kidSz k A1 A2) k.one ?_; intro wB hw8 hc8; rw [splice_all _ _ (by simp [Kd.cells, bs, A1, A2])] at hw8; have c8 : Chg (fun _ => False) wr wB := ((Chg.refl (fun _ => False) wr).alloc _).trans hc8 (fun i e => .inr (by omega)); have BK : Hid _ := hw8; have CB : Hid _ := c8; clear hw8 hc8 c8))
              have BL9 : Hid (Below w.heap.size w wB) := BL.out.trans (CB.out.below BL.out.size (fun _ e => e.elim))
              have q0 : wB.cell? ⟨wr.heap.size, 0, none⟩ = some (.int .i64 k.lv) := BK.out.cell 0
              have q1 : wB.cell? ⟨wr.heap.size, 1, none⟩ = some (.slice k.ka k.kn k.kc) := BK.out.cell 1
              have q2 : wB.cell? ⟨wr.heap.size, 2, none⟩ = some (.int .u64 k.ct) := BK.out.cell 2
              by_cases l0 : k.lv < 0
              · go_wp2_with fail
                go_ret
                exact ⟨⟨false, rfl, BL9.out, fun h => by cases h⟩⟩
              · by_cases l1 : 23 < k.lv
                · go_wp2_with fail
                  go_ret
                  exact ⟨⟨false, rfl, BL9.out, fun h => by cases h⟩⟩
                · by_cases l2 : (1024 : Int) < (k.kn : Int)
                  · go_wp2_with fail
                    go_ret
                    exact ⟨⟨false, rfl, BL9.out, fun h => by cases h⟩⟩
                  · by_cases l3 : (4611686018427387904 : Int) < (k.ct : Int)
                    · go_wp2_with fail
                      go_ret
                      exact ⟨⟨false, rfl, BL9.out, fun h => by cases h⟩⟩
                    · have FN : Hid (∀ i, i < j + 1 → KdFit (T.ks i)) := fun i hi => by
                        rcases Nat.lt_or_ge i j with e | e
                        · exact FITS.out i e
                        · have e : i = j := by omega
                          rw [e, ← HKK.out]
                          exact ⟨by omega, by have := EKN.out; omega, by omega, A1, A2⟩
                      go_wp2_with fail
                      go_roundw
                      case rel => exact ⟨j + 1, by omega, by go_num, BL9.out, FN.out⟩
                      case measure => simp [intOf]; omega
            · have hjn : j = T.sn := by omega
              have F : Hid (∀ i, i < T.sn → KdFit (T.ks i)) := by
                have h9 := FITS.out
                rw [hjn] at h9
                exact h9
              clear hjn
              go_wp2_with fail
              go_ret
              exact ⟨⟨true, rfl, BL.out, fun _ => FIN.out F.out⟩⟩
end Go.Proofs.Ytlmdljghhpkbiaa
