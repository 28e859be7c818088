/-
  Two messages that say the same are compared: all of it.
-/
import Derived.Test.YtjmeaebehndheaaMxE
namespace Go.Proofs.Ytjmeaebehndheaa
open Go.RowKit

theorem Msg.hd_at (o : Msg) (_h1 : o.hl.length = 32) : (o.cells.drop 6).take (hdC o.hs o.hl).length = hdC o.hs o.hl := by
  simp [Msg.cells, hdC]

set_option maxRecDepth 100000 in
set_option maxHeartbeats 16000000 in
theorem sameMsgE {w : World} {x y : Msg} (hx : MV w x) (hy : MV w y) (hs : SmM x y) :
    Calls Try.prog 33 #[.agg x.cells.toArray, .agg y.cells.toArray] w fun e w' => e = .returned (.bool true) ∧ Below w.heap.size w w' := by
  obtain ⟨ki, ver, oth, sp, hs1, hl, lb, ct, co, bo, pa, pn, pc, ps, ca, cn, cc, cs⟩ := x
  obtain ⟨ki2, ver2, oth2, sp2, hs2, hl2, lb2, ct2, co2, bo2, pa2, pn2, pc2, ps2, ca2, cn2, cc2, cs2⟩ := y
  obtain ⟨e1, e2, e3, e4, e5, e6, e7, e8, e9, e10, e11, e12, e13, e14, e15, e16⟩ := hs
  simp only at e1 e2 e3 e4 e5 e6 e7 e8 e9 e10 e11 e12 e13 e14 e15 e16
  subst e1 e2 e3 e7 e8 e9 e10 e11 e13 e15
  have ES : Hid (sp.op = sp2.op ∧ sp.lo.l = sp2.lo.l ∧ sp.hi.l = sp2.hi.l ∧ bo.l = bo2.l) := ⟨e4, e5, e6, e12⟩
  have EP : Hid _ := e14
  have EC : Hid _ := e16
  clear e4 e5 e6 e12 e14 e16
  have HL := hx.hl
  have LB := hx.lb
  simp only at HL LB
  obtain ⟨X1, hX1⟩ : ∃ X : Msg, X = ⟨ki, ver, oth, sp, hs1, hl, lb, ct, co, bo, pa, pn, pc, ps, ca, cn, cc, cs⟩ := ⟨_, rfl⟩
  obtain ⟨X2, hX2⟩ : ∃ X : Msg, X = ⟨ki, ver, oth, sp2, hs1, hl, lb, ct, co, bo2, pa2, pn, pc2, ps2, ca2, cn, cc2, cs2⟩ := ⟨_, rfl⟩
  rw [← hX1, ← hX2]
  rw [← hX1] at hx
  rw [← hX2] at hy
  obtain ⟨W, hW⟩ : ∃ W, W = (w.alloc (.cells X1.cells.toArray 95)).alloc (.cells X2.cells.toArray 95) := ⟨_, rfl⟩
  have cW : Chg (fun _ => False) w W := by rw [hW]; exact ((Chg.refl _ _).alloc _).alloc _
  have BX : Hid (Blk W w.heap.size X1.cells 95) := by rw [hW]; exact (Blk.made w _ 95).alloc _
  have BY : Hid (Blk W (w.heap.size + 1) X2.cells 95) := by
    rw [hW]
    have h9 := Blk.made (w.alloc (.cells X1.cells.toArray 95)) X2.cells 95
    rwa [World.size_alloc] at h9
  have F0 : Hid (Below w.heap.size w W) := cW.below (Nat.le_refl _) (fun _ e => e.elim)
  have VX : Hid _ := hx.kept cW
  have VY : Hid _ := hy.kept cW
  have HW : Hid _ := hW
  have E91 : Hid (∀ w, (binOp .neq 91 (.agg (hdC hs1 hl).toArray) (.agg (hdC hs1 hl).toArray)).run Try.prog w = .ok (.bool false) w) := fun w => by rw [neq91b hs1 hs1 hl hl HL HL w, decide_eq_true ⟨rfl, rfl⟩]; rfl
  have E31 : Hid (∀ w, (binOp .neq 31 (.agg (bs lb).toArray) (.agg (bs lb).toArray)).run Try.prog w = .ok (.bool false) w) := fun w => by rw [neq31b lb lb LB LB w, decide_eq_true rfl]; rfl
  have x0 : W.cell? ⟨w.heap.size, 0, none⟩ = some (.int .i64 ki) := by rw [BX.out.cell, hX1]; rfl
  have x1 : W.cell? ⟨w.heap.size, 1, none⟩ = some (.int .u64 ver) := by rw [BX.out.cell, hX1]; rfl
  have x2 : W.cell? ⟨w.heap.size, 2, none⟩ = some (.int .u64 oth) := by rw [BX.out.cell, hX1]; rfl
  have x5 : W.cell? ⟨w.heap.size, 71, none⟩ = some (.int .u64 ct) := by rw [BX.out.cell, hX1]; exact Msg.at _ HL LB 0
  have x6 : W.cell? ⟨w.heap.size, 72, none⟩ = some (.int .i64 co) := by rw [BX.out.cell, hX1]; exact Msg.at _ HL LB 1
  have HDx : Hid ((X1.cells.drop 6).take (hdC hs1 hl).length = hdC hs1 hl) := by rw [hX1]; exact Msg.hd_at _ HL
  have LBx : Hid ((X1.cells.drop 39).take (bs lb).length = bs lb) := by
    have h9 := Msg.lb_at X1 (by rw [hX1]; exact HL)
    rw [show X1.lb = lb by rw [hX1]] at h9
    exact h9
  have y0 : W.cell? ⟨w.heap.size + 1, 0, none⟩ = some (.int .i64 ki) := by rw [BY.out.cell, hX2]; rfl
  have y1 : W.cell? ⟨w.heap.size + 1, 1, none⟩ = some (.int .u64 ver) := by rw [BY.out.cell, hX2]; rfl
  have y2 : W.cell? ⟨w.heap.size + 1, 2, none⟩ = some (.int .u64 oth) := by rw [BY.out.cell, hX2]; rfl
  have y5 : W.cell? ⟨w.heap.size + 1, 71, none⟩ = some (.int .u64 ct) := by rw [BY.out.cell, hX2]; exact Msg.at _ HL LB 0
  have y6 : W.cell? ⟨w.heap.size + 1, 72, none⟩ = some (.int .i64 co) := by rw [BY.out.cell, hX2]; exact Msg.at _ HL LB 1
  have HDy : Hid ((X2.cells.drop 6).take (hdC hs1 hl).length = hdC hs1 hl) := by rw [hX2]; exact Msg.hd_at _ HL
  have LBy : Hid ((X2.cells.drop 39).take (bs lb).length = bs lb) := by
    have h9 := Msg.lb_at X2 (by rw [hX2]; exact HL)
    rw [show X2.lb = lb by rw [hX2]] at h9
    exact h9
  have SPx : Hid ((X1.cells.drop 3).take sp.cells.length = sp.cells) := by rw [hX1]; exact Msg.sp_at _
  have BOx : Hid (X1.cells[73]? = some bo.val ∧ X1.cells[74]? = some (.slice pa pn pc) ∧ X1.cells[75]? = some (.slice ca cn cc)) := by rw [hX1]; exact ⟨Msg.at _ HL LB 2, Msg.at _ HL LB 3, Msg.at _ HL LB 4⟩
  have SPy : Hid ((X2.cells.drop 3).take sp2.cells.length = sp2.cells) := by rw [hX2]; exact Msg.sp_at _
  have BOy : Hid (X2.cells[73]? = some bo2.val ∧ X2.cells[74]? = some (.slice pa2 pn pc2) ∧ X2.cells[75]? = some (.slice ca2 cn cc2)) := by rw [hX2]; exact ⟨Msg.at _ HL LB 2, Msg.at _ HL LB 3, Msg.at _ HL LB 4⟩
  have iq1 : (ki != ki) = false := by simp
  have iq2 : ((ver : Int) != (ver : Int)) = false := by simp
  have iq3 : ((oth : Int) != (oth : Int)) = false := by simp
  have iq6 : ((ct : Int) != (ct : Int)) = false := by simp
  have iq7 : (co != co) = false := by simp
  have PR1 : Hid (RowsIn W (fun _ => True) pa pn 32 (fun i => bs (ps i)) ∧ RowsIn W (fun _ => True) pa2 pn 32 (fun i => bs (ps2 i)) ∧ (∀ i, i < pn → (ps i).length = 32) ∧ pn ≤ 9223372036854775807) := by
    have a := VX.out
    have b := VY.out
    rw [hX1] at a
    rw [hX2] at b
    exact ⟨a.pr, b.pr, a.pl, a.pn⟩
  have CR1 : Hid (RowsIn W (fun _ => True) ca cn 5 (fun i => (cs i).cells) ∧ RowsIn W (fun _ => True) ca2 cn 5 (fun i => (cs2 i).cells) ∧ (∀ i, i < cn → CgV W (cs i)) ∧ (∀ i, i < cn → CgV W (cs2 i)) ∧ cn ≤ 9223372036854775807) := by
    have a := VX.out
    have b := VY.out
    rw [hX1] at a
    rw [hX2] at b
    exact ⟨a.cr, b.cr, a.ci, b.ci, a.cn⟩
  have TX1 : Hid (TxV W sp.lo ∧ TxV W sp.hi ∧ TxV W bo ∧ TxV W sp2.lo ∧ TxV W sp2.hi ∧ TxV W bo2) := by
    have a := VX.out
    have b := VY.out
    rw [hX1] at a
    rw [hX2] at b
    exact ⟨a.lo, a.hi, a.bo, b.lo, b.hi, b.bo⟩
  clear cW hW hx hy hX1 hX2 VX VY
  go_enter Try.func33, Try.ntmps33
  go_upto_region 1 with fail
  rw [← HW.out]
  clear HW
  go_upto_region 3 with (first | refine wpList_load_g (by rfl) 91 (.tmp 25) rfl w.heap.size 6 (hdC hs1 hl) rfl BX.out HDx.out Try.underlying91 rfl (Try.hdSz _ _ HL) ?_ | refine wpList_load_g (by rfl) 91 (.tmp 27) rfl (w.heap.size + 1) 6 (hdC hs1 hl) rfl BY.out HDy.out Try.underlying91 rfl (Try.hdSz _ _ HL) ?_ | refine wpList_bin_g (by rfl) .neq 91 (.tmp 26) (.tmp 28) rfl (u := (hdC hs1 hl).toArray) (v := (hdC hs1 hl).toArray) rfl rfl Try.eqGuardType91 (E91.out _) ?_ | refine wpList_load_g (by rfl) 31 (.tmp 32) rfl w.heap.size 39 (bs lb) rfl BX.out LBx.out Try.underlying31 rfl (Try.sumSz' lb LB) ?_ | refine wpList_load_g (by rfl) 31 (.tmp 34) rfl (w.heap.size + 1) 39 (bs lb) rfl BY.out LBy.out Try.underlying31 rfl (Try.sumSz' lb LB) ?_ | refine wpList_bin_g (by rfl) .neq 31 (.tmp 33) (.tmp 35) rfl (u := (bs lb).toArray) (v := (bs lb).toArray) rfl rfl Try.eqGuardType31 (E31.out _) ?_)
  clear x0 x1 x2 x5 x6 y0 y1 y2 y5 y6 E91 E31 iq1 iq2 iq3 iq6 iq7
  go_wp2_with (first | refine wpList_load_g (by rfl) 89 (.tmp 52) rfl w.heap.size 3 sp.cells rfl BX.out SPx.out Try.underlying89 rfl (Try.spSz _ _ _) ?_ | refine wpList_load_g (by rfl) 89 (.tmp 54) rfl (w.heap.size + 1) 3 sp2.cells rfl BY.out SPy.out Try.underlying89 rfl (Try.spSz _ _ _) ?_)
  refine Calls.mono (sameSpanE TX1.out.1 TX1.out.2.1 TX1.out.2.2.2.1 TX1.out.2.2.2.2.1 ES.out.1 ES.out.2.1 ES.out.2.2.1) ?_
  rintro e v1 ⟨rfl, bl1⟩
  have C1 : Hid (Chg (fun _ => False) W v1) := Chg.of_below bl1 (fun _ => False)
  clear bl1
  have xx : v1.cell? ⟨w.heap.size, 73, none⟩ = some bo.val := by rw [(BX.out.keep C1.out (fun e => e)).cell]; exact BOx.out.1
  have yy : v1.cell? ⟨w.heap.size + 1, 73, none⟩ = some bo2.val := by rw [(BY.out.keep C1.out (fun e => e)).cell]; exact BOy.out.1
  have HC : Hid _ := same_any (TX1.out.2.2.1.kept C1.out).s (TX1.out.2.2.2.2.2.kept C1.out).s TX1.out.2.2.1.le TX1.out.2.2.2.2.2.le
  rw [decide_eq_true ES.out.2.2.2] at HC
  go_wp2_with fail
  refine Calls.mono HC.out ?_
  rintro e v2 ⟨rfl, kk, hw⟩
  have C2 : Hid (Chg (fun _ => False) W v2) := by rw [hw]; exact C1.out.trans (drewN_chg _ _ (fun _ => False)) (fun _ e => e.elim)
  clear hw xx yy HC
  have xx : v2.cell? ⟨w.heap.size, 74, none⟩ = some (.slice pa pn pc) := by rw [(BX.out.keep C2.out (fun e => e)).cell]; exact BOx.out.2.1
  have yy : v2.cell? ⟨w.heap.size + 1, 74, none⟩ = some (.slice pa2 pn pc2) := by rw [(BY.out.keep C2.out (fun e => e)).cell]; exact BOy.out.2.1
  go_wp2_with fail
  refine Calls.mono (sameSumsE (PR1.out.1.kept C2.out (fun _ _ e => e)) (PR1.out.2.1.kept C2.out (fun _ _ e => e)) PR1.out.2.2.1 EP.out PR1.out.2.2.2) ?_
  rintro e v3 ⟨rfl, bl3⟩
  have C3 : Hid (Chg (fun _ => False) W v3) := C2.out.trans (Chg.of_below bl3 (fun _ => False)) (fun _ e => e.elim)
  clear bl3 xx yy
  have xx : v3.cell? ⟨w.heap.size, 75, none⟩ = some (.slice ca cn cc) := by rw [(BX.out.keep C3.out (fun e => e)).cell]; exact BOx.out.2.2
  have yy : v3.cell? ⟨w.heap.size + 1, 75, none⟩ = some (.slice ca2 cn cc2) := by rw [(BY.out.keep C3.out (fun e => e)).cell]; exact BOy.out.2.2
  go_wp2_with fail
  refine Calls.mono (sameChangesE (CR1.out.1.kept C3.out (fun _ _ e => e)) (CR1.out.2.1.kept C3.out (fun _ _ e => e)) (fun i hi => (CR1.out.2.2.1 i hi).kept C3.out) (fun i hi => (CR1.out.2.2.2.1 i hi).kept C3.out) EC.out CR1.out.2.2.2.2) ?_
  rintro e v4 ⟨rfl, bl4⟩
  have F4 : Hid (Below w.heap.size w v4) := F0.out.trans ((C3.out.below F0.out.size (fun _ e => e.elim)).trans (bl4.mono (Nat.le_trans F0.out.size C3.out.size)))
  clear bl4 xx yy
  go_wp2_with fail
  go_ret
  exact ⟨rfl, F4.out⟩
end Go.Proofs.Ytjmeaebehndheaa
