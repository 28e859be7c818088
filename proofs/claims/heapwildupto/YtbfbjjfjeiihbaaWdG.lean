/-
  HeapWild walked.
-/
import Derived.Test.YtbfbjjfjeiihbaaWdE
import Derived.Test.YtbfbjjfjeiihbaaWdH
namespace Go.Proofs.Ytbfbjjfjeiihbaa
open Go.RowKit

set_option maxRecDepth 100000 in
set_option maxHeartbeats 8000000 in
theorem wild_any {W : World} {ka ta : Option Addr} {N M kc tc : Nat} {r s : Nat → Int} (hk : Ins W ka N r) (hs : Ins W ta M s) (n : Int) :
    Calls Try.prog 5 #[.slice ka N kc, .slice ta M tc, .int .i64 n] W fun e w' => e = .returned (.bool true) ∧ Below W.heap.size W w' := by
  have HK : Hid _ := hk
  have HZ : Hid _ := hs
  have hN : N ≤ 1048576 := hk.len
  have DD : Hid _ := od_cmp (cmp_wild hs (W.heap.size + 1) W.heap.size tc (by omega) (by omega))
  obtain ⟨od, hod⟩ : ∃ od, od = odF (wildF M s) := ⟨_, rfl⟩
  rw [← hod] at DD
  have NW : Hid _ := new_any (f := fW (W.heap.size + 1) W.heap.size) (.inr ⟨22, _, rfl⟩) ((W.alloc (.cells #[.slice ta M tc] 39)).alloc (.cells #[.int .i64 0] 3))
  clear hk hs hod
  go_enter Try.func5, Try.ntmps5
  go_wp2_with fail
  refine Calls.mono NW.out ?_
  rintro e w1 ⟨rfl, hq1, ch1⟩
  have hsz : ((W.alloc (.cells #[.slice ta M tc] 39)).alloc (.cells #[.int .i64 0] 3)).heap.size = W.heap.size + 2 := by simp
  rw [hsz] at hq1 ⊢
  have X0 : Hid _ := XW.start HZ.out hq1 ch1
  have DX : Hid (Od (fW (W.heap.size + 1) W.heap.size) (SW (W.heap.size + 1) W.heap.size ta M) (IW W (W.heap.size + 1) W.heap.size ta M tc) od 1) := DD.out
  clear NW hsz hq1 ch1 DD
  generalize hp : W.heap.size + 2 = p at X0 ⊢
  generalize hq : W.heap.size + 1 = q at X0 DX ⊢
  generalize ht : W.heap.size = t at X0 DX ⊢
  clear hp hq ht
  go_wp2_with fail
  go_loopg [10, 11] (N + 1) (fun gk lv si wr => ∃ i : Nat, si = .int .i64 i ∧ i ≤ N ∧ N < gk + i ∧ Hid (XW W wr q t ta M tc p (.slice none 0 0) [] 0 lv (ths r i) (.slice none 0 0) [] 0))
  case atStart => exact ⟨0, rfl, by omega, by omega, X0.out⟩
  case round =>
    obtain ⟨i, rfl, hi, hgk, hid⟩ := hrel
    clear X0
    by_cases h0 : i = N
    · have h0' : N = i := h0.symm
      subst h0'
      have h1 := hid.out
      clear hid h0 hi hgk
      obtain ⟨L, hL⟩ : ∃ L, L = ths r N := ⟨_, rfl⟩
      have hLl : L.length = N := by rw [hL, thsw_len]
      have hnd : Numd L := by rw [hL]; exact thsw_numd r N
      rw [← hL] at h1
      obtain ⟨la, lc, el⟩ := h1.li.form
      rw [hLl] at el
      subst el
      have PU : Hid _ := h1.push DX.out (by simp; omega) (by omega) (by omega)
      have ND : Hid _ := hnd
      have LL : Hid _ := hLl
      clear h1 hnd hLl hL
      go_wp2_with fail
      refine Calls.mono PU.out ?_
      rintro e w2 ⟨rfl, v2, c2, hc2, x2⟩
      have hc3 : c2 ≤ 1125899906842624 := by
        have hd := dg_le 21 (([] : List E).length + L.length) (by have := LL.out; simp; omega)
        have hm : L.length * (dg (([] : List E).length + L.length) + 1) ≤ 1048576 * 22 := Nat.mul_le_mul (by have := LL.out; omega) (by omega)
        omega
      clear hc2
      have X2 : Hid _ := x2
      clear x2 PU
      go_wp2_with fail
      go_loopg [12, 13] (N + 1) (fun gk ov si wq => ∃ (i c : Nat) (v : Value) (H : List E) (O : List (Int × Int)), si = .int .i64 i ∧ N < gk + i ∧ c ≤ 1125899906842624 ∧ Hid (H.length + i = N ∧ O.length = i ∧ (O ++ H.map E.th).Perm L ∧ XW W wq q t ta M tc p v H (0 + L.length) (.slice la N lc) L ov O c))
      case atStart => exact ⟨0, c2, v2, (pushF od L [] 0).1, [], rfl, by omega, hc3, by rw [pushF_len, LL.out]; simp, rfl, pushF_perm od L, X2.out⟩
      case round =>
        clear X2
        obtain ⟨i, c, v, H, O, rfl, hgk, hcb, hid⟩ := hrel
        obtain ⟨a1, a2, a3, a4⟩ := hid.out
        clear hid
        obtain ⟨oa, oc, eo⟩ := a4.oi.form
        rw [a2] at eo
        subst eo
        by_cases h1 : i = N
        · have h1' : N = i := h1.symm
          subst h1'
          have hH0 : H = [] := List.eq_nil_of_length_eq_zero (by omega)
          subst hH0
          have PE := a4.popE DX.out hcb
          unfold twoV at PE
          have P4 : Hid _ := PE
          have A3 : Hid (O.Perm L) := by have h9 : (O ++ []).Perm L := a3; rw [List.append_nil] at h9; exact h9
          have A2 : Hid _ := a2
          obtain ⟨kk, hkk⟩ : ∃ kk : Nat, (kk : Int) = max (min n N) 0 := ⟨(max (min n N) 0).toNat, by omega⟩
          clear a1 a2 a3 a4 PE h1 hgk
          go_wp2_with fail
          refine Calls.mono P4.out ?_
          rintro e w4 ⟨rfl, x4⟩
          obtain ⟨w5, hw5⟩ : ∃ w5, w5 = (w4.alloc (.cells #[.int .i64 0, .int .i64 0] 26)).setCell ⟨q, 0, none⟩ (.int .i64 0) := ⟨_, rfl⟩
          have y4 := x4.keep (w' := w4.alloc (.cells #[.int .i64 0, .int .i64 0] 26)) ((Chg.refl _ _).alloc _)
          have x5 : XW W w5 q t ta M tc p v [] (0 + L.length) (.slice la N lc) L (.slice oa N oc) O 0 := by rw [hw5]; exact y4.zero
          have zq : (w4.alloc (.cells #[.int .i64 0, .int .i64 0] 26)).cell? ⟨q, 0, none⟩ = some (.int .i64 c) := y4.ic.q.cell 0
          have zf := y4.ic.q.fr 0
          have X5 : Hid _ := x5
          have W5 : Hid _ := hw5
          have KK : Hid _ := hkk
          clear x4 x5 y4 hw5 P4 hkk
          go_wp2_with fail
          rw [← W5.out]
          refine Calls.mono (X5.out.least DX.out n kk (by rw [LL.out]; exact KK.out) (by rw [LL.out]; exact hN) (by omega)) ?_
          rintro e w6 ⟨fv, c6, rfl, of, hc6, x6⟩
          obtain ⟨fa, fc, ef⟩ := of.form
          rw [leastL_len] at ef
          subst ef
          have hkN : kk ≤ N := by have := KK.out; omega
          have hcq : c6 ≤ N * (3 * dg kk + 3) := by
            rw [LL.out] at hc6
            exact least_costs N kk c6 (dg kk) hkN hc6
          have hcb6 : c6 ≤ 1125899906842624 := by
            have hd := dg_le 21 kk (by omega)
            have hm : N * (3 * dg kk + 3) ≤ 1048576 * 66 := Nat.mul_le_mul hN (by omega)
            omega
          obtain ⟨X, hX⟩ := leastL_sub od L kk (by rw [LL.out]; exact hkN)
          have on := Numd.once ND.out hX
          have hl := LL.out
          have ON : Hid (∀ w', Chg (fun _ => False) w6 w' → Calls Try.prog 23 #[.slice la N lc, .slice fa kk fc] w' fun e w2 => e = .returned (.bool true) ∧ Chg (fun _ => False) w' w2) := fun w' k => once_any (x6.li.ths.keep k (fun _ _ h => h)) (of.ths.keep k (fun _ _ h => h)) on (by omega) (by rw [leastL_len]; omega)
          have BQ : Hid _ := x6.ic.q
          have X6 : Hid _ := x6
          have HCQ : Hid _ := hcq
          have mm : (if (N : Int) < (if n < 0 then 0 else n) then (N : Int) else (if n < 0 then 0 else n)) = (kk : Int) := by
            have h9 := KK.out
            by_cases h8 : n < 0
            · rw [if_pos h8, if_neg (by omega)]; omega
            · rw [if_neg h8]
              by_cases h7 : (N : Int) < n
              · rw [if_pos h7]; omega
              · rw [if_neg h7]; omega
          have MM : Hid _ := mm
          clear of hc6 x6 hX on hl hcq zq zf mm
          go_upto_region 25 with fail
          rename_i K1 hK1 K2 hK2
          refine reg25 (fv := fW q t) (kk := kk) (cq := c6) (oa := oa) (oc := oc) ON.out HCQ.out BQ.out hN hkN rfl rfl (fun x hx => ?_) ?_
          · simp only [List.mem_cons, List.not_mem_nil, or_false] at hx
            rcases hx with rfl | rfl | rfl | rfl | rfl | rfl | rfl
            · rfl
            · rfl
            · rfl
            · rfl
            · rfl
            · rfl
            · exact congrArg (Value.int .i64) MM.out
          intro b w7 b1 b2 b3 b4 b5
          have x7 := XW.keep X6.out b5
          refine hK2 b w7 ?_
          refine wp_cond_false b4 ?_
          refine wp_skip ?_
          refine hK1 b w7 ?_
          refine wp_seq ?_
          refine reg27 x7.ic.q (b3 (7, _) (by simp)) ?_
          have x8 := x7.zero
          refine wp_seq ?_
          refine reg28 (x8.sort DX.out (by rw [LL.out]; exact hN) (by omega)) b1 b2 (b3 (7, .pointer (some ⟨q, 0, none⟩)) (by simp)) (b3 (8, fW q t) (by simp)) (b3 (10, .slice la N lc) (by simp)) (b3 (12, .slice oa N oc) (by simp)) ?_
          rintro d av w9 ⟨o9, x9⟩ d1 d2 d3 d4 d5 d6
          obtain ⟨va, vc, ev⟩ := o9.form
          have hl9 : (drF od L.length (pushF od L [] 0).1).1.length = N := by rw [drF_len]; exact LL.out
          rw [hl9] at ev
          subst ev
          have hlL := LL.out
          have pA : (drF od L.length (pushF od L [] 0).1).1.Perm L := (drF_perm od L.length _ (by rw [pushF_len]; simp)).trans (pushF_perm od L)
          have onA : Onc L (drF od L.length (pushF od L [] 0).1).1 := Numd.once ND.out (X := []) (by rw [List.append_nil]; exact pA)
          have onO : Onc L O := Numd.once ND.out (X := []) (by rw [List.append_nil]; exact A3.out)
          refine wp_seq ?_
          refine reg29 (cq := 0 + ((pushF od L [] 0).2 + (drF od L.length (pushF od L [] 0).1).2)) (oa := oa) (oc := oc) (va := va) (vc := vc) (la := la) (lc := lc) (q := q)
            (fun w' k => each_any (x9.li.ths.keep k (fun _ _ h => h)) (x9.oi.ths.keep k (fun _ _ h => h)) onO (by omega) (by have := A2.out; omega))
            (fun w' k => each_any (x9.li.ths.keep k (fun _ _ h => h)) (o9.ths.keep k (fun _ _ h => h)) onA (by omega) (by omega))
            (by have := wild_costs od L; rw [hlL] at this ⊢; omega) x9.ic.q hN d1 d2 (fun x hx => ?_) ?_
          · simp only [List.mem_cons, List.not_mem_nil, or_false] at hx
            rcases hx with rfl | rfl | rfl | rfl
            · exact d3
            · exact d4
            · exact d5
            · exact d6
          intro f w10 f1 f2 f3 f4 f5
          refine wp_ret ?_
          show bodyPost Try.prog Try.f5 (fun e w' => e = .returned (.bool true) ∧ Below W.heap.size W w') .ret f w10
          refine bodyPost_ret (results_tmp rfl _ _ _) f2 ?_
          exact ⟨by rw [f4], (XW.keep x9 f5).below⟩
        · have hiN : (i : Int) < (N : Int) := by omega
          have hH : 0 < H.length := by omega
          have z4 := a4.zero
          have bq := a4.ic.q
          have PP := z4.pop DX.out hH (by omega) (by omega)
          obtain ⟨⟨xk, xn⟩, hx⟩ : ∃ x, (nth H 0).th = x := ⟨_, rfl⟩
          rw [hx] at PP
          unfold twoV at PP
          have P4 : Hid _ := PP
          have HX : Hid _ := hx
          have A : Hid _ := And.intro a1 (And.intro a2 a3)
          have q0 : wr.cell? ⟨q, 0, none⟩ = some (.int .i64 c) := bq.cell 0
          have qf := bq.fr 0
          have costs := popF_cost od H
          obtain ⟨cp, hcp⟩ : ∃ cp, cp = (popF od H).2 := ⟨_, rfl⟩
          obtain ⟨D, hD⟩ : ∃ D, D = dg H.length := ⟨_, rfl⟩
          have hD21 : D ≤ 21 := by rw [hD]; exact dg_le 21 _ (by omega)
          have DG : Hid (∀ (m : Nat) (w : World), Calls Try.prog 13 #[.int .i64 ((N : Int) - i)] (w.drewN m) fun e w' => e = .returned (.int .i64 D) ∧ w' = w.drewN m) := fun m w => by
            have e9 : (N : Int) - i = ((H.length : Nat) : Int) := by omega
            rw [e9, hD]
            exact (digits_any H.length (by omega) (w.drewN m)).mono (fun _ _ ⟨h1, h2⟩ => ⟨h1, h2.symm⟩)
          rw [← hcp, ← hD] at costs
          have hcpb : cp ≤ 1125899906842624 := by omega
          have hgt : decide ((2 * (D : Int) + 2) < (cp : Int)) = false := decide_eq_false (by omega)
          rw [← hcp] at P4
          clear a1 a2 a3 a4 z4 PP bq hx hcp hD costs
          go_wp2_with fail
          refine Calls.mono P4.out ?_
          rintro e w4 ⟨rfl, v4, x4⟩
          rw [show 0 + cp = cp by omega] at x4
          obtain ⟨w5, hw5⟩ : ∃ w5, w5 = w4.alloc (.cells #[.int .i64 xk, .int .i64 xn] 26) := ⟨_, rfl⟩
          have x5 := x4.keep (w' := w5) (by rw [hw5]; exact (Chg.refl _ _).alloc _)
          have b5 : Blk w5 w4.heap.size [.int .i64 xk, .int .i64 xn] 26 := by rw [hw5]; exact Blk.made w4 [.int .i64 xk, .int .i64 xn] 26
          have z0 : w5.cell? ⟨w4.heap.size, 0, none⟩ = some (.int .i64 xk) := b5.cell 0
          have z1 : w5.cell? ⟨w4.heap.size, 1, none⟩ = some (.int .i64 xn) := b5.cell 1
          have zq : w5.cell? ⟨q, 0, none⟩ = some (.int .i64 cp) := x5.ic.q.cell 0
          have X5 : Hid _ := x5
          have W5 : Hid _ := hw5
          clear x4 x5 b5 hw5 P4 q0 qf
          go_upto_region 18 with fail
          rw [← W5.out]
          go_quiet ((go_at_call 13; refine Calls.quiet_of_same (DG.out _ _)))
          have h7 := XW.keep X5.out (⟨rfl, rfl, rfl, Nat.le_refl _, fun _ _ _ => rfl⟩ : Chg (fun _ => False) w5 (w5.drewN nq))
          obtain ⟨w7, hw7⟩ : ∃ w7, w7 = w5.drewN nq := ⟨_, rfl⟩
          have y0 : w7.cell? ⟨w4.heap.size, 0, none⟩ = some (.int .i64 xk) := by rw [hw7]; exact z0
          have y1 : w7.cell? ⟨w4.heap.size, 1, none⟩ = some (.int .i64 xn) := by rw [hw7]; exact z1
          go_upto_region 20 with fail
          rw [← hw7] at h7 ⊢
          obtain ⟨ov', w8, r8, h8⟩ := h7.addO (xk, xn) (by have := A.out.2.1; omega)
          have H8 : Hid _ := h8
          have Q8 : Hid _ := r8
          clear h7 hw7 r8 h8 z0 z1 zq
          go_wp2_with (at_builtin; refine wpList_app2 rfl (.tmp 68) (.tmp 70) rfl rfl rfl Q8.out ?_)
          go_roundg (N - i)
          case measure => omega
          case rel =>
            obtain ⟨a1, a2, a3⟩ := A.out
            refine ⟨i + 1, cp, v4, (popF od H).1, O ++ [(xk, xn)], by go_num, by omega, hcpb, by rw [popF_len]; omega, by simp [a2], ?_, H8.out⟩
            have h9 := (popF_perm od (H := H) hH).map E.th
            rw [List.map_cons, HX.out] at h9
            rw [List.append_assoc]
            exact (List.Perm.append_left O h9.symm).trans a3
    · have hiN : (i : Int) < (N : Int) := by omega
      obtain ⟨g, o, rfl, e0⟩ := HK.out.row i (by omega)
      have lg : g < W.heap.size := World.block_lt_of_cell? _ _ e0
      have h1 := hid.out
      have d0 : wr.cell? ⟨g, o + i, none⟩ = some (.int .i64 (r i)) := (h1.below.cell (p := ⟨g, o + i, none⟩) lg).trans e0
      obtain ⟨k, hkk⟩ : ∃ k, r i = k := ⟨_, rfl⟩
      rw [hkk] at d0
      obtain ⟨lv', w5, r5, h5⟩ := h1.addL (k, (i : Int)) (by rw [thsw_len]; omega)
      rw [← hkk, ← thsw_succ] at h5
      obtain ⟨la, lc, el⟩ := h1.li.form
      rw [thsw_len] at el
      subst el
      have Q5 : Hid _ := r5
      have H5 : Hid _ := h5
      clear e0 hkk hid h1 r5 h5
      go_wp2_with (at_builtin; refine wpList_app2 rfl (.tmp 32) (.tmp 39) rfl rfl rfl Q5.out ?_)
      go_roundg (N - i)
      case measure => omega
      case rel => exact ⟨i + 1, by go_num, by omega, by omega, H5.out⟩
end Go.Proofs.Ytbfbjjfjeiihbaa
