/-
  Messages compared.
-/
import Derived.Test.YtdofgphokdgjiaaEq2
namespace Go.Proofs.Ytdofgphokdgjiaa
open Go.RowKit

def hdC (hs : Nat) (hl : List Int) : List Value := .int .u64 hs :: bs hl
theorem Try.struct91 : Try.prog.underlying 91 = some (.struct (Try.prog.fieldsOf 91)) := by kernel_rfl
theorem Try.fields91 : (Try.prog.fieldsOf 91).toList.map (fun f => (f.name, f.type, f.offset)) = [("Size", 29, 0), ("Label", 31, 1)] := by kernel_rfl
theorem Try.size91 : (Try.prog.info? 91).map (·.size) = some 33 := by kernel_rfl
theorem Try.hdSz (hs : Nat) (hl : List Int) (h : hl.length = 32) : (Try.prog.info? 91).map (·.size) = some (hdC hs hl).length := by rw [Try.size91]; simp [hdC, bs_len, h]
theorem Try.eqGuardType91 : Try.prog.eqGuardType Try.prog.depth 91 = false := by kernel_rfl
theorem eq91b (d : Nat) (s1 s2 : Nat) (x y : List Int) (hx : x.length = 32) (hy : y.length = 32) (w : World) : (Op.equalIn (d + 3) 91 (.agg (hdC s1 x).toArray) (.agg (hdC s2 y).toArray)).run Try.prog w = .ok (((s1 : Int) == s2) && (decide (x = y) && true)) w := by
  rw [run_equalIn_struct w (d + 2) 91 _ _ Try.struct91 (by kernel_rfl)]
  obtain ⟨f1, f2, e⟩ : ∃ f1 f2, (Try.prog.fieldsOf 91).toList = [f1, f2] := by
    have := congrArg List.length Try.fields91
    rw [List.length_map] at this
    match h : (Try.prog.fieldsOf 91).toList, this with
    | [f1, f2], _ => exact ⟨f1, f2, rfl⟩
  have h := Try.fields91
  rw [e] at h
  simp only [List.map_cons, List.map_nil, List.cons.injEq, Prod.mk.injEq, and_true] at h
  obtain ⟨⟨a1, a2, a3⟩, b1, b2, b3⟩ := h
  rw [e]
  have p1 : ∀ (s : Nat) (z : List Int), (part 29 (hdC s z).toArray 0).run Try.prog w = .ok (.int .u64 s) w := fun s z => by simp [part, isAgg, run_underlying Try.underlying29, hdC]
  have p2 : ∀ (s : Nat) (z : List Int), z.length = 32 → (part 31 (hdC s z).toArray 1).run Try.prog w = .ok (.agg (bs z).toArray) w := fun s z hz => by
    rw [part_row 32 Try.underlying31 rfl (fun _ => by kernel_rfl)]
    have : ((hdC s z).drop 1).take 32 = bs z := by
      show (bs z).take 32 = bs z
      exact List.take_of_length_le (by rw [bs_len]; omega)
    rw [this]
  refine eqF_consb (d + 2) _ _ f1 _ w _ _ _ _ (by rw [a1]; simp) (by rw [a2, a3]; exact p1 s1 x) (by rw [a2, a3]; exact p1 s2 y) (by rw [a2]; exact run_equalIn_int w (d + 1) 29 .u64 .u64 _ _ Try.underlying29) ?_
  exact eqF_consb (d + 2) _ _ f2 _ w _ _ _ _ (by rw [b1]; simp) (by rw [b2, b3]; exact p2 s1 x hx) (by rw [b2, b3]; exact p2 s2 y hy) (by rw [b2]; exact eq31b d x y hx hy w) (eqF_nilb _ _ _ w)
theorem neq91b (s1 s2 : Nat) (x y : List Int) (hx : x.length = 32) (hy : y.length = 32) (w : World) : (binOp .neq 91 (.agg (hdC s1 x).toArray) (.agg (hdC s2 y).toArray)).run Try.prog w = .ok (.bool (!decide (s1 = s2 ∧ x = y))) w := by
  have e : (((s1 : Int) == s2) && (decide (x = y) && true)) = decide (s1 = s2 ∧ x = y) := by
    rw [Bool.and_true]
    by_cases h1 : s1 = s2
    · by_cases h2 : x = y
      · simp [h1, h2]
      · simp [h2]
    · have h3 : ((s1 : Int) == s2) = false := by simp; omega
      rw [h3]
      simp [h1]
  have h := eq91b 9997 s1 s2 x y hx hy w
  rw [e] at h
  simp only [binOp]
  simp [Op.equal, Op.maxDepth, h]
section
variable (ki ver oth : Nat) (lo hi : Value) (op : Bool) (hs : Nat) (hl lb : List Int) (ct co : Nat) (bo pa cg : Value)
theorem msC_hd (_h1 : hl.length = 32) : ((msC ki ver oth lo hi op hs hl lb ct co bo pa cg).drop 6).take (hdC hs hl).length = hdC hs hl := by
  simp [msC, hdC]
theorem msC_lb (h1 : hl.length = 32) : ((msC ki ver oth lo hi op hs hl lb ct co bo pa cg).drop 39).take (bs lb).length = bs lb := by
  have h2 : (bs hl).length = 32 := by rw [bs_len, h1]
  show ((bs hl ++ (bs lb ++ _)).drop 32).take _ = _
  rw [List.drop_append, h2, List.drop_of_length_le (l := bs hl) (by omega)]
  simp
theorem msC_sp : ((msC ki ver oth lo hi op hs hl lb ct co bo pa cg).drop 3).take (spC lo hi op).length = spC lo hi op := by
  simp [msC, spC]
end
/-- What a message says. -/
def MsS.dat (S : MsS) : (Nat × Nat × Nat × (Nat × List Int) × List Int × Nat × Nat) × (Bool × List Int × List Int) × List Int × List (List Value) × List (List Int × Bool × List Int × Bool × List Int) :=
  ((S.ki, S.ver, S.oth, (S.hs, S.hl), S.lb, S.ct, S.co), (S.op, S.lo, S.hi), S.bo, S.pa, S.ch.map ChS.dat)
theorem CM.dat {L : List ChV} {l : List ChS} (h : L.map Prod.fst = l) : L.map (fun o => o.1.dat) = l.map ChS.dat := by rw [← h, List.map_map]; rfl

set_option maxRecDepth 100000 in
set_option maxHeartbeats 16000000 in
theorem sameMsg_any {w : World} {S1 S2 : MsS} {C1 C2 : List Value} (h1 : MsIs w S1 C1) (h2 : MsIs w S2 C2) (k1 : S1.hl.length = 32 ∧ S1.lb.length = 32) (k2 : S2.hl.length = 32 ∧ S2.lb.length = 32) (s1 : Sums S1.pa) (s2 : Sums S2.pa) (l1 : S1.pa.length ≤ 8388608 ∧ S1.ch.length ≤ 8388608) (l2 : S2.pa.length ≤ 8388608 ∧ S2.ch.length ≤ 8388608) :
    Calls Try.prog 33 #[.agg C1.toArray, .agg C2.toArray] w fun e w' => BoQ w w' (S1.dat = S2.dat) e := by
  obtain ⟨lo1, hi1, bo1, pa1, cg1, L1, rfl, ⟨o11, o12, o13, g1, m1⟩, d1⟩ := h1.ex
  obtain ⟨lo2, hi2, bo2, pa2, cg2, L2, rfl, ⟨o21, o22, o23, g2, m2⟩, d2⟩ := h2.ex
  clear h1 h2
  obtain ⟨ki1, ver1, oth1, xlo1, xhi1, op1, hs1, hl1, lb1, ct1, co1, xbo1, xpa1, xch1, at1, err1⟩ := S1
  obtain ⟨ki2, ver2, oth2, xlo2, xhi2, op2, hs2, hl2, lb2, ct2, co2, xbo2, xpa2, xch2, at2, err2⟩ := S2
  simp only [MsS.dat] at *
  obtain ⟨HL1, LB1⟩ := k1
  obtain ⟨HL2, LB2⟩ := k2
  have kk1 : L1.length = xch1.length := by rw [← d1, List.length_map]
  have kk2 : L2.length = xch2.length := by rw [← d2, List.length_map]
  obtain ⟨a1, c1, f1⟩ := g1.form
  obtain ⟨n1, hn1⟩ : ∃ n, n = xpa1.length := ⟨_, rfl⟩
  rw [← hn1] at f1
  subst f1
  obtain ⟨a2, c2, f2⟩ := g2.form
  obtain ⟨n2, hn2⟩ : ∃ n, n = xpa2.length := ⟨_, rfl⟩
  rw [← hn2] at f2
  subst f2
  obtain ⟨b1, e1, f3⟩ := m1.form
  obtain ⟨m1n, hm1⟩ : ∃ n, n = L1.length := ⟨_, rfl⟩
  rw [← hm1] at f3
  subst f3
  obtain ⟨b2, e2, f4⟩ := m2.form
  obtain ⟨m2n, hm2⟩ : ∃ n, n = L2.length := ⟨_, rfl⟩
  rw [← hm2] at f4
  subst f4
  have K1 : Hid (n1 ≤ 8388608 ∧ m1n ≤ 8388608) := ⟨by omega, by omega⟩
  have K2 : Hid (n2 ≤ 8388608 ∧ m2n ≤ 8388608) := ⟨by omega, by omega⟩
  obtain ⟨X1, hX1⟩ : ∃ X, X = msC ki1 ver1 oth1 lo1 hi1 op1 hs1 hl1 lb1 ct1 co1 bo1 (.slice a1 n1 c1) (.slice b1 m1n e1) := ⟨_, rfl⟩
  obtain ⟨X2, hX2⟩ : ∃ X, X = msC ki2 ver2 oth2 lo2 hi2 op2 hs2 hl2 lb2 ct2 co2 bo2 (.slice a2 n2 c2) (.slice b2 m2n e2) := ⟨_, rfl⟩
  rw [← hX1, ← hX2]
  obtain ⟨W, hW⟩ : ∃ W, W = (w.alloc (.cells X1.toArray 95)).alloc (.cells X2.toArray 95) := ⟨_, rfl⟩
  have cW : Chg (fun _ => False) w W := by rw [hW]; exact ((Chg.refl _ _).alloc _).alloc _
  have BX : Hid (Blk W w.heap.size X1 95) := by rw [hW]; exact (Blk.made w _ 95).alloc _
  have BY : Hid (Blk W (w.heap.size + 1) X2 95) := by
    rw [hW]
    have h9 := Blk.made (w.alloc (.cells X1.toArray 95)) X2 95
    rwa [World.size_alloc] at h9
  have F0 : Hid (Below w.heap.size w W) := cW.below (Nat.le_refl _) (fun _ e => e.elim)
  have O11 : Hid (Own W lo1 xlo1) := o11.kept cW (fun _ _ e => e)
  have O12 : Hid (Own W hi1 xhi1) := o12.kept cW (fun _ _ e => e)
  have O13 : Hid (Own W bo1 xbo1) := o13.kept cW (fun _ _ e => e)
  have O21 : Hid (Own W lo2 xlo2) := o21.kept cW (fun _ _ e => e)
  have O22 : Hid (Own W hi2 xhi2) := o22.kept cW (fun _ _ e => e)
  have O23 : Hid (Own W bo2 xbo2) := o23.kept cW (fun _ _ e => e)
  have G1 : Hid _ := g1.fresh cW
  have G2 : Hid _ := g2.fresh cW
  have M1 : Hid _ := m1.kept cW (fun _ _ _ e => e.elim)
  have M2 : Hid _ := m2.kept cW (fun _ _ _ e => e.elim)
  have HW : Hid _ := hW
  have D1 : Hid _ := CM.dat d1
  have D2 : Hid _ := CM.dat d2
  have HN1 : Hid _ := hn1
  have HN2 : Hid _ := hn2
  have HM1 : Hid _ := hm1
  have HM2 : Hid _ := hm2
  have S1 : Hid _ := s1
  have S2 : Hid _ := s2
  have HX1 : Hid _ := hX1
  have HX2 : Hid _ := hX2
  have E91 : Hid _ := neq91b hs1 hs2 hl1 hl2 HL1 HL2
  have E31 : Hid _ := neq31b lb1 lb2 LB1 LB2
  have x0 : W.cell? ⟨w.heap.size, 0, none⟩ = some (.int .i64 ki1) := by rw [BX.out.cell, hX1]; rfl
  have y0 : W.cell? ⟨w.heap.size + 1, 0, none⟩ = some (.int .i64 ki2) := by rw [BY.out.cell, hX2]; rfl
  have x1 : W.cell? ⟨w.heap.size, 1, none⟩ = some (.int .u64 ver1) := by rw [BX.out.cell, hX1]; rfl
  have y1 : W.cell? ⟨w.heap.size + 1, 1, none⟩ = some (.int .u64 ver2) := by rw [BY.out.cell, hX2]; rfl
  have x2 : W.cell? ⟨w.heap.size, 2, none⟩ = some (.int .u64 oth1) := by rw [BX.out.cell, hX1]; rfl
  have y2 : W.cell? ⟨w.heap.size + 1, 2, none⟩ = some (.int .u64 oth2) := by rw [BY.out.cell, hX2]; rfl
  have x5 : W.cell? ⟨w.heap.size, 71, none⟩ = some (.int .u64 ct1) := by rw [BX.out.cell, hX1]; exact msC_at _ _ _ _ _ _ _ _ _ _ _ _ _ _ HL1 LB1 0
  have y5 : W.cell? ⟨w.heap.size + 1, 71, none⟩ = some (.int .u64 ct2) := by rw [BY.out.cell, hX2]; exact msC_at _ _ _ _ _ _ _ _ _ _ _ _ _ _ HL2 LB2 0
  have x6 : W.cell? ⟨w.heap.size, 72, none⟩ = some (.int .i64 co1) := by rw [BX.out.cell, hX1]; exact msC_at _ _ _ _ _ _ _ _ _ _ _ _ _ _ HL1 LB1 1
  have y6 : W.cell? ⟨w.heap.size + 1, 72, none⟩ = some (.int .i64 co2) := by rw [BY.out.cell, hX2]; exact msC_at _ _ _ _ _ _ _ _ _ _ _ _ _ _ HL2 LB2 1
  have HDX : Hid ((X1.drop 6).take (hdC hs1 hl1).length = hdC hs1 hl1) := by rw [hX1]; exact msC_hd _ _ _ _ _ _ _ _ _ _ _ _ _ _ HL1
  have HDY : Hid ((X2.drop 6).take (hdC hs2 hl2).length = hdC hs2 hl2) := by rw [hX2]; exact msC_hd _ _ _ _ _ _ _ _ _ _ _ _ _ _ HL2
  have LBX : Hid ((X1.drop 39).take (bs lb1).length = bs lb1) := by rw [hX1]; exact msC_lb _ _ _ _ _ _ _ _ _ _ _ _ _ _ HL1
  have LBY : Hid ((X2.drop 39).take (bs lb2).length = bs lb2) := by rw [hX2]; exact msC_lb _ _ _ _ _ _ _ _ _ _ _ _ _ _ HL2
  have SPX : Hid ((X1.drop 3).take (spC lo1 hi1 op1).length = spC lo1 hi1 op1) := by rw [hX1]; exact msC_sp _ _ _ _ _ _ _ _ _ _ _ _ _ _
  have SPY : Hid ((X2.drop 3).take (spC lo2 hi2 op2).length = spC lo2 hi2 op2) := by rw [hX2]; exact msC_sp _ _ _ _ _ _ _ _ _ _ _ _ _ _
  have BOX : Hid (X1[73]? = some bo1 ∧ X1[74]? = some (.slice a1 n1 c1) ∧ X1[75]? = some (.slice b1 m1n e1)) := by rw [hX1]; exact ⟨msC_at _ _ _ _ _ _ _ _ _ _ _ _ _ _ HL1 LB1 2, msC_at _ _ _ _ _ _ _ _ _ _ _ _ _ _ HL1 LB1 3, msC_at _ _ _ _ _ _ _ _ _ _ _ _ _ _ HL1 LB1 4⟩
  have BOY : Hid (X2[73]? = some bo2 ∧ X2[74]? = some (.slice a2 n2 c2) ∧ X2[75]? = some (.slice b2 m2n e2)) := by rw [hX2]; exact ⟨msC_at _ _ _ _ _ _ _ _ _ _ _ _ _ _ HL2 LB2 2, msC_at _ _ _ _ _ _ _ _ _ _ _ _ _ _ HL2 LB2 3, msC_at _ _ _ _ _ _ _ _ _ _ _ _ _ _ HL2 LB2 4⟩
  clear cW hW g1 g2 m1 m2 d1 d2 hn1 hn2 hm1 hm2 s1 s2 o11 o12 o13 o21 o22 o23 l1 l2 kk1 kk2 hX1 hX2 HX1 HX2
  go_enter Try.func33, Try.ntmps33
  go_upto_region 1 with fail
  rw [← HW.out]
  clear HW
  go_cut [51] from 5 (fun s51 wx => ∃ D : Bool, s51 = .bool D ∧ Hid ((D = false ↔ (ki1, ver1, oth1, (hs1, hl1), lb1, ct1, co1) = (ki2, ver2, oth2, (hs2, hl2), lb2, ct2, co2)) ∧ W = wx))
  case first =>
    by_cases q1 : ki1 = ki2
    · have iq1 : ((ki1 : Int) != (ki2 : Int)) = false := by simp [q1]
      have Q1 : Hid _ := q1
      clear q1
      by_cases q2 : ver1 = ver2
      · have iq2 : ((ver1 : Int) != (ver2 : Int)) = false := by simp [q2]
        have Q2 : Hid _ := q2
        clear q2
        by_cases q3 : oth1 = oth2
        · have iq3 : ((oth1 : Int) != (oth2 : Int)) = false := by simp [q3]
          have Q3 : Hid _ := q3
          clear q3
          by_cases q4 : hs1 = hs2 ∧ hl1 = hl2
          · have E91 : Hid (∀ w, (binOp .neq 91 (.agg (hdC hs1 hl1).toArray) (.agg (hdC hs2 hl2).toArray)).run Try.prog w = .ok (.bool false) w) := fun w => by rw [E91.out w, decide_eq_true q4]; rfl
            have Q4 : Hid _ := q4
            clear q4
            by_cases q5 : lb1 = lb2
            · have E31 : Hid (∀ w, (binOp .neq 31 (.agg (bs lb1).toArray) (.agg (bs lb2).toArray)).run Try.prog w = .ok (.bool false) w) := fun w => by rw [E31.out w, decide_eq_true q5]; rfl
              have Q5 : Hid _ := q5
              clear q5
              by_cases q6 : ct1 = ct2
              · have iq6 : ((ct1 : Int) != (ct2 : Int)) = false := by simp [q6]
                have Q6 : Hid _ := q6
                clear q6
                by_cases q7 : co1 = co2
                · have iq7 : ((co1 : Int) != (co2 : Int)) = false := by simp [q7]
                  have Q7 : Hid _ := q7
                  clear q7
                  go_wp2_with (first | refine wpList_load_g (by rfl) 91 (.tmp 25) rfl w.heap.size 6 (hdC hs1 hl1) rfl BX.out HDX.out Try.underlying91 rfl (Try.hdSz _ _ HL1) ?_ | refine wpList_load_g (by rfl) 91 (.tmp 27) rfl (w.heap.size + 1) 6 (hdC hs2 hl2) rfl BY.out HDY.out Try.underlying91 rfl (Try.hdSz _ _ HL2) ?_ | refine wpList_bin_g (by rfl) .neq 91 (.tmp 26) (.tmp 28) rfl (u := (hdC hs1 hl1).toArray) (v := (hdC hs2 hl2).toArray) rfl rfl Try.eqGuardType91 (E91.out _) ?_ | refine wpList_load_g (by rfl) 31 (.tmp 32) rfl w.heap.size 39 (bs lb1) rfl BX.out LBX.out Try.underlying31 rfl (Try.sumSz' lb1 LB1) ?_ | refine wpList_load_g (by rfl) 31 (.tmp 34) rfl (w.heap.size + 1) 39 (bs lb2) rfl BY.out LBY.out Try.underlying31 rfl (Try.sumSz' lb2 LB2) ?_ | refine wpList_bin_g (by rfl) .neq 31 (.tmp 33) (.tmp 35) rfl (u := (bs lb1).toArray) (v := (bs lb2).toArray) rfl rfl Try.eqGuardType31 (E31.out _) ?_)
                  go_meet
                  case rel => exact ⟨false, rfl, ⟨(fun _ => by rw [Q1.out, Q2.out, Q3.out, Q4.out.1, Q4.out.2, Q5.out, Q6.out, Q7.out]), fun _ => rfl⟩, rfl⟩
                · have iq7 : ((co1 : Int) != (co2 : Int)) = true := by simp; omega
                  go_wp2_with (first | refine wpList_load_g (by rfl) 91 (.tmp 25) rfl w.heap.size 6 (hdC hs1 hl1) rfl BX.out HDX.out Try.underlying91 rfl (Try.hdSz _ _ HL1) ?_ | refine wpList_load_g (by rfl) 91 (.tmp 27) rfl (w.heap.size + 1) 6 (hdC hs2 hl2) rfl BY.out HDY.out Try.underlying91 rfl (Try.hdSz _ _ HL2) ?_ | refine wpList_bin_g (by rfl) .neq 91 (.tmp 26) (.tmp 28) rfl (u := (hdC hs1 hl1).toArray) (v := (hdC hs2 hl2).toArray) rfl rfl Try.eqGuardType91 (E91.out _) ?_ | refine wpList_load_g (by rfl) 31 (.tmp 32) rfl w.heap.size 39 (bs lb1) rfl BX.out LBX.out Try.underlying31 rfl (Try.sumSz' lb1 LB1) ?_ | refine wpList_load_g (by rfl) 31 (.tmp 34) rfl (w.heap.size + 1) 39 (bs lb2) rfl BY.out LBY.out Try.underlying31 rfl (Try.sumSz' lb2 LB2) ?_ | refine wpList_bin_g (by rfl) .neq 31 (.tmp 33) (.tmp 35) rfl (u := (bs lb1).toArray) (v := (bs lb2).toArray) rfl rfl Try.eqGuardType31 (E31.out _) ?_)
                  go_meet
                  case rel => exact ⟨true, rfl, ⟨(fun h => by cases h), fun h => absurd (by simp only [Prod.mk.injEq] at h; first | exact h.1 | exact h.2.1 | exact h.2.2.1 | exact h.2.2.2.1 | exact h.2.2.2.2.1 | exact h.2.2.2.2.2.1 | exact h.2.2.2.2.2.2) q7⟩, rfl⟩
              · have iq6 : ((ct1 : Int) != (ct2 : Int)) = true := by simp; omega
                go_wp2_with (first | refine wpList_load_g (by rfl) 91 (.tmp 25) rfl w.heap.size 6 (hdC hs1 hl1) rfl BX.out HDX.out Try.underlying91 rfl (Try.hdSz _ _ HL1) ?_ | refine wpList_load_g (by rfl) 91 (.tmp 27) rfl (w.heap.size + 1) 6 (hdC hs2 hl2) rfl BY.out HDY.out Try.underlying91 rfl (Try.hdSz _ _ HL2) ?_ | refine wpList_bin_g (by rfl) .neq 91 (.tmp 26) (.tmp 28) rfl (u := (hdC hs1 hl1).toArray) (v := (hdC hs2 hl2).toArray) rfl rfl Try.eqGuardType91 (E91.out _) ?_ | refine wpList_load_g (by rfl) 31 (.tmp 32) rfl w.heap.size 39 (bs lb1) rfl BX.out LBX.out Try.underlying31 rfl (Try.sumSz' lb1 LB1) ?_ | refine wpList_load_g (by rfl) 31 (.tmp 34) rfl (w.heap.size + 1) 39 (bs lb2) rfl BY.out LBY.out Try.underlying31 rfl (Try.sumSz' lb2 LB2) ?_ | refine wpList_bin_g (by rfl) .neq 31 (.tmp 33) (.tmp 35) rfl (u := (bs lb1).toArray) (v := (bs lb2).toArray) rfl rfl Try.eqGuardType31 (E31.out _) ?_)
                go_meet
                case rel => exact ⟨true, rfl, ⟨(fun h => by cases h), fun h => absurd (by simp only [Prod.mk.injEq] at h; first | exact h.1 | exact h.2.1 | exact h.2.2.1 | exact h.2.2.2.1 | exact h.2.2.2.2.1 | exact h.2.2.2.2.2.1 | exact h.2.2.2.2.2.2) q6⟩, rfl⟩
            · have E31 : Hid (∀ w, (binOp .neq 31 (.agg (bs lb1).toArray) (.agg (bs lb2).toArray)).run Try.prog w = .ok (.bool true) w) := fun w => by rw [E31.out w, decide_eq_false q5]; rfl
              go_wp2_with (first | refine wpList_load_g (by rfl) 91 (.tmp 25) rfl w.heap.size 6 (hdC hs1 hl1) rfl BX.out HDX.out Try.underlying91 rfl (Try.hdSz _ _ HL1) ?_ | refine wpList_load_g (by rfl) 91 (.tmp 27) rfl (w.heap.size + 1) 6 (hdC hs2 hl2) rfl BY.out HDY.out Try.underlying91 rfl (Try.hdSz _ _ HL2) ?_ | refine wpList_bin_g (by rfl) .neq 91 (.tmp 26) (.tmp 28) rfl (u := (hdC hs1 hl1).toArray) (v := (hdC hs2 hl2).toArray) rfl rfl Try.eqGuardType91 (E91.out _) ?_ | refine wpList_load_g (by rfl) 31 (.tmp 32) rfl w.heap.size 39 (bs lb1) rfl BX.out LBX.out Try.underlying31 rfl (Try.sumSz' lb1 LB1) ?_ | refine wpList_load_g (by rfl) 31 (.tmp 34) rfl (w.heap.size + 1) 39 (bs lb2) rfl BY.out LBY.out Try.underlying31 rfl (Try.sumSz' lb2 LB2) ?_ | refine wpList_bin_g (by rfl) .neq 31 (.tmp 33) (.tmp 35) rfl (u := (bs lb1).toArray) (v := (bs lb2).toArray) rfl rfl Try.eqGuardType31 (E31.out _) ?_)
              go_meet
              case rel => exact ⟨true, rfl, ⟨(fun h => by cases h), fun h => absurd (by simp only [Prod.mk.injEq] at h; first | exact h.1 | exact h.2.1 | exact h.2.2.1 | exact h.2.2.2.1 | exact h.2.2.2.2.1 | exact h.2.2.2.2.2.1 | exact h.2.2.2.2.2.2) q5⟩, rfl⟩
          · have E91 : Hid (∀ w, (binOp .neq 91 (.agg (hdC hs1 hl1).toArray) (.agg (hdC hs2 hl2).toArray)).run Try.prog w = .ok (.bool true) w) := fun w => by rw [E91.out w, decide_eq_false q4]; rfl
            go_wp2_with (first | refine wpList_load_g (by rfl) 91 (.tmp 25) rfl w.heap.size 6 (hdC hs1 hl1) rfl BX.out HDX.out Try.underlying91 rfl (Try.hdSz _ _ HL1) ?_ | refine wpList_load_g (by rfl) 91 (.tmp 27) rfl (w.heap.size + 1) 6 (hdC hs2 hl2) rfl BY.out HDY.out Try.underlying91 rfl (Try.hdSz _ _ HL2) ?_ | refine wpList_bin_g (by rfl) .neq 91 (.tmp 26) (.tmp 28) rfl (u := (hdC hs1 hl1).toArray) (v := (hdC hs2 hl2).toArray) rfl rfl Try.eqGuardType91 (E91.out _) ?_ | refine wpList_load_g (by rfl) 31 (.tmp 32) rfl w.heap.size 39 (bs lb1) rfl BX.out LBX.out Try.underlying31 rfl (Try.sumSz' lb1 LB1) ?_ | refine wpList_load_g (by rfl) 31 (.tmp 34) rfl (w.heap.size + 1) 39 (bs lb2) rfl BY.out LBY.out Try.underlying31 rfl (Try.sumSz' lb2 LB2) ?_ | refine wpList_bin_g (by rfl) .neq 31 (.tmp 33) (.tmp 35) rfl (u := (bs lb1).toArray) (v := (bs lb2).toArray) rfl rfl Try.eqGuardType31 (E31.out _) ?_)
            go_meet
            case rel => exact ⟨true, rfl, ⟨(fun h => by cases h), fun h => absurd (by simp only [Prod.mk.injEq] at h; exact h.2.2.2.1) q4⟩, rfl⟩
        · have iq3 : ((oth1 : Int) != (oth2 : Int)) = true := by simp; omega
          go_wp2_with fail
          go_meet
          case rel => exact ⟨true, rfl, ⟨(fun h => by cases h), fun h => absurd (by simp only [Prod.mk.injEq] at h; first | exact h.1 | exact h.2.1 | exact h.2.2.1 | exact h.2.2.2.1 | exact h.2.2.2.2.1 | exact h.2.2.2.2.2.1 | exact h.2.2.2.2.2.2) q3⟩, rfl⟩
      · have iq2 : ((ver1 : Int) != (ver2 : Int)) = true := by simp; omega
        go_wp2_with fail
        go_meet
        case rel => exact ⟨true, rfl, ⟨(fun h => by cases h), fun h => absurd (by simp only [Prod.mk.injEq] at h; first | exact h.1 | exact h.2.1 | exact h.2.2.1 | exact h.2.2.2.1 | exact h.2.2.2.2.1 | exact h.2.2.2.2.2.1 | exact h.2.2.2.2.2.2) q2⟩, rfl⟩
    · have iq1 : ((ki1 : Int) != (ki2 : Int)) = true := by simp; omega
      go_wp2_with fail
      go_meet
      case rel => exact ⟨true, rfl, ⟨(fun h => by cases h), fun h => absurd (by simp only [Prod.mk.injEq] at h; first | exact h.1 | exact h.2.1 | exact h.2.2.1 | exact h.2.2.2.1 | exact h.2.2.2.2.1 | exact h.2.2.2.2.2.1 | exact h.2.2.2.2.2.2) q1⟩, rfl⟩
  case rest =>
    obtain ⟨D, rfl, hid⟩ := hcut
    have HD : Hid _ := hid.out.1
    have e9 := hid.out.2
    subst e9
    clear hid x0 x1 x2 x5 x6 y0 y1 y2 y5 y6 E91 E31
    by_cases hd : D = true
    · subst hd
      have NP : Hid (¬ (ki1, ver1, oth1, (hs1, hl1), lb1, ct1, co1) = (ki2, ver2, oth2, (hs2, hl2), lb2, ct2, co2)) := fun h => by have := HD.out.2 h; cases this
      go_wp2_with fail
      go_ret
      exact ⟨⟨false, rfl, ⟨(fun h => by cases h), fun h => absurd (by simp only [Prod.mk.injEq] at h ⊢; exact h.1) NP.out⟩, F0.out⟩⟩
    · have hd2 : D = false := by cases D <;> simp_all
      subst hd2
      clear hd
      have PP : Hid ((ki1, ver1, oth1, (hs1, hl1), lb1, ct1, co1) = (ki2, ver2, oth2, (hs2, hl2), lb2, ct2, co2)) := HD.out.1 rfl
      clear HD
      go_wp2_with (first | refine wpList_load_g (by rfl) 89 (.tmp 52) rfl w.heap.size 3 (spC lo1 hi1 op1) rfl BX.out SPX.out Try.underlying89 rfl (Try.spSz _ _ _) ?_ | refine wpList_load_g (by rfl) 89 (.tmp 54) rfl (w.heap.size + 1) 3 (spC lo2 hi2 op2) rfl BY.out SPY.out Try.underlying89 rfl (Try.spSz _ _ _) ?_)
      refine Calls.mono (sameSpan_any O11.out O12.out O21.out O22.out) ?_
      intro e v1 hq
      obtain ⟨D1', rfl, hd1, bl1⟩ := hq.ex
      have C1 : Hid (Chg (fun _ => False) W v1) := Chg.of_below bl1 (fun _ => False)
      have F1 : Hid (Below w.heap.size w v1) := F0.out.trans (bl1.mono F0.out.size)
      have HD1 : Hid _ := hd1
      clear hq hd1 bl1 O11 O12 O21 O22
      by_cases q1 : D1' = true
      · subst q1
        have P1 : Hid _ := HD1.out.1 rfl
        clear HD1
        have xx : v1.cell? ⟨w.heap.size, 73, none⟩ = some bo1 := by rw [(BX.out.keep C1.out (fun e => e)).cell]; exact BOX.out.1
        have yy : v1.cell? ⟨w.heap.size + 1, 73, none⟩ = some bo2 := by rw [(BY.out.keep C1.out (fun e => e)).cell]; exact BOY.out.1
        go_wp2_with fail
        refine Calls.mono (same_any (O13.out.kept C1.out (fun _ _ e => e)).src (O23.out.kept C1.out (fun _ _ e => e)).src O13.out.len_le O23.out.len_le) ?_
        rintro e v2 ⟨rfl, kk, hw⟩
        have C2 : Hid (Chg (fun _ => False) W v2) := by rw [hw]; exact C1.out.trans (drewN_chg _ _ (fun _ => False)) (fun _ e => e.elim)
        have F2 : Hid (Below w.heap.size w v2) := F0.out.trans (C2.out.below F0.out.size (fun _ e => e.elim))
        clear hw xx yy
        by_cases q2 : xbo1 = xbo2
        · rw [decide_eq_true q2]
          have P2 : Hid _ := q2
          clear q2
          have xx : v2.cell? ⟨w.heap.size, 74, none⟩ = some (.slice a1 n1 c1) := by rw [(BX.out.keep C2.out (fun e => e)).cell]; exact BOX.out.2.1
          have yy : v2.cell? ⟨w.heap.size + 1, 74, none⟩ = some (.slice a2 n2 c2) := by rw [(BY.out.keep C2.out (fun e => e)).cell]; exact BOY.out.2.1
          go_wp2_with fail
          refine Calls.mono (sameSums_any (G1.out.fresh C2.out) (G2.out.fresh C2.out) S1.out S2.out HN1.out HN2.out K1.out.1 K2.out.1) ?_
          intro e v3 hq
          obtain ⟨D3, rfl, hd3, bl3⟩ := hq.ex
          have C3 : Hid (Chg (fun _ => False) W v3) := C2.out.trans (Chg.of_below bl3 (fun _ => False)) (fun _ e => e.elim)
          have F3 : Hid (Below w.heap.size w v3) := F0.out.trans (C3.out.below F0.out.size (fun _ e => e.elim))
          have HD3 : Hid _ := hd3
          clear hq hd3 bl3 xx yy
          by_cases q3 : D3 = true
          · subst q3
            have P3 : Hid _ := HD3.out.1 rfl
            clear HD3
            have xx : v3.cell? ⟨w.heap.size, 75, none⟩ = some (.slice b1 m1n e1) := by rw [(BX.out.keep C3.out (fun e => e)).cell]; exact BOX.out.2.2
            have yy : v3.cell? ⟨w.heap.size + 1, 75, none⟩ = some (.slice b2 m2n e2) := by rw [(BY.out.keep C3.out (fun e => e)).cell]; exact BOY.out.2.2
            go_wp2_with fail
            refine Calls.mono (sameChanges_any (M1.out.kept C3.out (fun _ _ _ e => e.elim)) (M2.out.kept C3.out (fun _ _ _ e => e.elim)) HM1.out HM2.out K1.out.2 K2.out.2) ?_
            intro e v4 hq
            obtain ⟨D4, rfl, hd4, bl4⟩ := hq.ex
            have F4 : Hid (Below w.heap.size w v4) := F3.out.trans (bl4.mono F3.out.size)
            rw [D1.out, D2.out] at hd4
            have HD4 : Hid _ := hd4
            clear hq hd4 bl4 xx yy
            go_wp2_with fail
            go_ret
            exact ⟨⟨D4, rfl, ⟨fun h => by rw [PP.out, P1.out.1, P1.out.2.1, P1.out.2.2, P2.out, P3.out, HD4.out.1 h], fun h => HD4.out.2 (by simp only [Prod.mk.injEq] at h; exact h.2.2.2.2)⟩, F4.out⟩⟩
          · have q4 : D3 = false := by cases D3 <;> simp_all
            subst q4
            go_wp2_with fail
            go_ret
            exact ⟨⟨false, rfl, ⟨(fun h => by cases h), fun h => absurd (HD3.out.2 (by simp only [Prod.mk.injEq] at h; exact h.2.2.2.1)) (by decide)⟩, F3.out⟩⟩
        · rw [decide_eq_false q2]
          have NQ : Hid _ := q2
          clear q2
          go_wp2_with fail
          go_ret
          exact ⟨⟨false, rfl, ⟨(fun h => by cases h), fun h => absurd (by simp only [Prod.mk.injEq] at h; exact h.2.2.1) NQ.out⟩, F2.out⟩⟩
      · have q4 : D1' = false := by cases D1' <;> simp_all
        subst q4
        go_wp2_with fail
        go_ret
        exact ⟨⟨false, rfl, ⟨(fun h => by cases h), fun h => absurd (HD1.out.2 (by simp only [Prod.mk.injEq] at h; exact h.2.1)) (by decide)⟩, F1.out⟩⟩
end Go.Proofs.Ytdofgphokdgjiaa
