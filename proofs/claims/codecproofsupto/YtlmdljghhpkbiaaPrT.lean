import Derived.Test.YtlmdljghhpkbiaaPrX
import Derived.Test.YtlmdljghhpkbiaaPrP
import Derived.Test.YtlmdljghhpkbiaaEq
import Derived.Test.YtlmdljghhpkbiaaPrC
import Derived.Test.YtlmdljghhpkbiaaTwS
import Derived.Test.YtlmdljghhpkbiaaTwF
import Derived.Test.YtlmdljghhpkbiaaPrS
/-
  Two proofs with the same ops are the same.
-/
namespace Go.Proofs.Ytlmdljghhpkbiaa
open Go.RowKit

theorem step_storeF {ops : Array Oper} {o : Oper} {a : Act} {w : World} {K : Act → World → Prop} {Q : Exit → Act → World → Prop} {E : Prop} (hgd : o.guard = none) (ty : TypeId) (x y : Operand) (ho : o.op = .store ty x y)
    (g : Nat) (vs : List Value) (hx : a.eval x = .pointer (some ⟨g, 0, none⟩)) (hy : a.eval y = .agg vs.toArray) {cs : List Value} {t : TypeId} (hg : Blk w g cs t) (hl : vs.length = cs.length)
    (hi : (Try.prog.info? ty).map (·.size) = some vs.length) (h1 : ∀ v ∈ vs, v.oneCell' = true)
    (h : ∀ w', Blk w' g vs t → Chg (fun k => k = g) w w' → K (a.put o.dst undef) w') :
    if Region.wanted o (yielded ops a.tmps) = true then Oper.wp Try.prog o a w K Q else E := by
  have hw : Region.wanted o (yielded ops a.tmps) = true := by simp [Region.wanted, hgd]
  rw [if_pos hw]
  obtain ⟨h2, h3⟩ := Blk.setCells vs 0 w cs hg (by omega)
  rw [splice_all _ _ hl] at h2
  exact wp_store_mid ty x y ho g 0 vs.toArray hx hy (by rw [List.size_toArray]; exact hg.there (by omega)) (by rw [List.size_toArray]; exact hi) (all_oneCell_toArray h1) (by rw [List.toList_toArray]; exact h _ h2 h3)
theorem Try.eqGuard31F : Try.prog.eqGuardType Try.prog.depth 31 = false := by kernel_rfl
theorem neq31F (x y : List Int) (hx : x.length = 32) (hy : y.length = 32) (w : World) : (binOp .neq 31 (.agg (bs x).toArray) (.agg (bs y).toArray)).run Try.prog w = .ok (.bool (!decide (x = y))) w := by
  simp only [binOp]
  simp [Op.equal, Op.maxDepth, eq31b 9998 x y hx hy w]

/-- What lies at an op's texts. -/
structure OcT (w : World) (o : Oc) : Prop where
  ks : Src w (.slice o.ka o.kn o.kc) o.kl
  vs : Src w (.slice o.va o.vn o.vc) o.vl
  sm : o.sm.length = 32
  kl : o.kl.length ≤ 9223372036854775807
  vl : o.vl.length ≤ 9223372036854775807
theorem OcT.kept {w w' : World} {o : Oc} (h : OcT w o) (c : Chg (fun _ => False) w w') : OcT w' o := ⟨h.ks.kept c (fun _ _ e => e), h.vs.kept c (fun _ _ e => e), h.sm, h.kl, h.vl⟩
theorem OcIn.t {w : World} {Av : Nat → Prop} {o : Oc} (h : OcIn w Av o) : OcT w o := ⟨h.ks, h.vs, h.sm, by have := h.kl; omega, by have := h.vl; omega⟩
/-- Two ops that say the same. -/
structure SmO (x y : Oc) : Prop where
  ki : x.ki = y.ki
  lv : x.lv = y.lv
  kl : x.kl = y.kl
  ct : x.ct = y.ct
  sm : x.sm = y.sm
  vl : x.vl = y.vl
theorem Oc.lenF (o : Oc) (h : o.sm.length = 32) : o.cells.length = 37 := by simp [Oc.cells, bs, h]

set_option maxRecDepth 100000 in
set_option maxHeartbeats 16000000 in
theorem sameOpsE {w : World} {Av Bv : Nat → Prop} {a b : Option Addr} {n c d : Nat} {f1 f2 : Nat → Oc} (r1 : RowsIn w Av a n 37 (fun i => (f1 i).cells)) (r2 : RowsIn w Bv b n 37 (fun i => (f2 i).cells)) (t1 : ∀ i, i < n → OcT w (f1 i)) (t2 : ∀ i, i < n → OcT w (f2 i)) (hs : ∀ i, i < n → SmO (f1 i) (f2 i)) (hn : n ≤ 9223372036854775807) :
    Calls Try.prog 95 #[.slice a n c, .slice b n d] w fun e w' => e = .returned (.bool true) ∧ Below w.heap.size w w' := by
  have R1 : Hid _ := r1
  have R2 : Hid _ := r2
  have T1 : Hid _ := t1
  have T2 : Hid _ := t2
  have HS : Hid _ := hs
  have HB0 : Hid (Below w.heap.size w w) := Below.refl _ _
  clear r1 r2 t1 t2 hs
  go_enter Try.func95, Try.ntmps95
  go_wp2_with fail
  go_loopw [15] (fun i wr => ∃ j : Nat, j ≤ n ∧ i = .int .i64 j ∧ Hid (Below w.heap.size w wr)) (fun i _ => n - (intOf i).toNat)
  case atStart => exact ⟨0, Nat.zero_le _, rfl, HB0.out⟩
  case round =>
    obtain ⟨j, hj, rfl, BL⟩ := hrel
    by_cases hlt : j < n
    · obtain ⟨g, o1, ea, _, ra⟩ := R1.out j hlt
      obtain ⟨g', o2, eb, _, rb⟩ := R2.out j hlt
      have hix := ix_at Try.underlying96 Try.elem96 Try.so219 (c := c) ea hlt
      have hiy := ix_at Try.underlying96 Try.elem96 Try.so219 (c := d) eb hlt
      have cR : Chg (fun _ => False) w wr := Chg.of_below BL.out (fun _ => False)
      have tx := (T1.out j hlt).kept cR
      have ty := (T2.out j hlt).kept cR
      have hsm := HS.out j hlt
      obtain ⟨x, hx⟩ : ∃ x, x = f1 j := ⟨_, rfl⟩
      obtain ⟨y, hy⟩ : ∃ y, y = f2 j := ⟨_, rfl⟩
      simp only [← hx] at ra tx hsm
      simp only [← hy] at rb ty hsm
      have sa := tx.sm
      have sb := ty.sm
      have RA : Hid (wr.rangeAt g (o1 + j * 37) x.cells) := by exact rangeAt_kept ra cR (fun e => e)
      have RB : Hid (wr.rangeAt g' (o2 + j * 37) y.cells) := by exact rangeAt_kept rb cR (fun e => e)
      have TX : Hid _ := tx
      have TY : Hid _ := ty
      have SM : Hid _ := hsm
      have lx : x.cells.length = 37 := x.lenF sa
      have ly : y.cells.length = 37 := y.lenF sb
      have zx : (Try.prog.info? 111).map (·.size) = some x.cells.length := by rw [lx]; kernel_rfl
      have zy : (Try.prog.info? 111).map (·.size) = some y.cells.length := by rw [ly]; kernel_rfl
      have XO : Hid _ := x.one
      have YO : Hid _ := y.one
      clear ea eb ra rb hx hy cR tx ty hsm
      go_upto_region 6 with fail
      go_cut [6, 7, 15] from 15 to 68 (fun s6 s7 s15 wx => ∃ g6 g7 : Nat, s6 = .pointer (some ⟨g6, 0, none⟩) ∧ s7 = .pointer (some ⟨g7, 0, none⟩) ∧ s15 = .int .i64 j ∧ Hid (Blk wx g6 (x.cells) 111 ∧ Blk wx g7 (y.cells) 111 ∧ Chg (fun _ => False) wr wx))
      case first =>
        refine wp_region_held_drew (S := fun w' => w'.rangeAt g (o1 + j * 37) (x.cells) ∧ w'.rangeAt g' (o2 + j * 37) (y.cells)) (by kernel_rfl) ⟨RA.out, RB.out⟩ (fun hH => ?_)
        refine wpAnyH_take (i := 0) (v := .slice a n c) rfl (by kernel_rfl) (by kernel_rfl) (by kernel_rfl) (fun _ _ _ h => h) (Or.inl ⟨by rfl, fun w' _ => by go_simp⟩) hH ?_
        refine wpAnyH_take (i := 1) (v := .int .i64 j) rfl (by kernel_rfl) (by kernel_rfl) (by kernel_rfl) (fun _ _ _ h => h) (Or.inl ⟨by rfl, fun w' _ => by go_simp⟩) hH ?_
        refine wpAnyH_take (i := 2) (v := .pointer (some ⟨g, o1 + j * 37, none⟩)) rfl (by kernel_rfl) (by kernel_rfl) (by kernel_rfl) (fun _ _ _ h => h) (Or.inl ⟨by rfl, fun w' _ => by have q := hix w'; go_simp⟩) hH ?_
        refine wpAnyH_take (i := 3) (v := .agg (x.cells).toArray) rfl (by kernel_rfl) (by kernel_rfl) (by kernel_rfl) (fun _ _ _ h => h) (yieldsIf_load_mid (by rfl) 111 _ rfl g (o1 + j * 37) (by kernel_rfl) (x.cells) _ (fun w' h => h.1) Try.underlying111 rfl zx) hH ?_
        refine wpAnyH_take (i := 4) (v := .slice b n d) rfl (by kernel_rfl) (by kernel_rfl) (by kernel_rfl) (fun _ _ _ h => h) (Or.inl ⟨by rfl, fun w' _ => by go_simp⟩) hH ?_
        refine wpAnyH_take (i := 5) (v := .int .i64 j) rfl (by kernel_rfl) (by kernel_rfl) (by kernel_rfl) (fun _ _ _ h => h) (Or.inl ⟨by rfl, fun w' _ => by go_simp⟩) hH ?_
        refine wpAnyH_take (i := 6) (v := .pointer (some ⟨g', o2 + j * 37, none⟩)) rfl (by kernel_rfl) (by kernel_rfl) (by kernel_rfl) (fun _ _ _ h => h) (Or.inl ⟨by rfl, fun w' _ => by have q := hiy w'; go_simp⟩) hH ?_
        refine wpAnyH_take (i := 7) (v := .agg (y.cells).toArray) rfl (by kernel_rfl) (by kernel_rfl) (by kernel_rfl) (fun _ _ _ h => h) (yieldsIf_load_mid (by rfl) 111 _ rfl g' (o2 + j * 37) (by kernel_rfl) (y.cells) _ (fun w' h => h.2) Try.underlying111 rfl zy) hH ?_
        have ca1 : Hid (Chg (fun _ => False) wr (wr.alloc (.cells (opC 0 0 (.slice none 0 0) 0 z32 (.slice none 0 0)).toArray 111)).drew) := ((Chg.refl _ _).alloc _).drew
        have ca2 : Hid (Chg (fun _ => False) wr ((wr.alloc (.cells (opC 0 0 (.slice none 0 0) 0 z32 (.slice none 0 0)).toArray 111)).alloc (.cells (opC 0 0 (.slice none 0 0) 0 z32 (.slice none 0 0)).toArray 111)).drew) := (((Chg.refl _ _).alloc _).alloc _).drew
        have N0 : Hid (Blk ((wr.alloc (.cells (opC 0 0 (.slice none 0 0) 0 z32 (.slice none 0 0)).toArray 111)).alloc (.cells (opC 0 0 (.slice none 0 0) 0 z32 (.slice none 0 0)).toArray 111)).drew wr.heap.size (opC 0 0 (.slice none 0 0) 0 z32 (.slice none 0 0)) 111) := ((Blk.made wr _ 111).alloc _).drew
        have N1 : Hid (Blk ((wr.alloc (.cells (opC 0 0 (.slice none 0 0) 0 z32 (.slice none 0 0)).toArray 111)).alloc (.cells (opC 0 0 (.slice none 0 0) 0 z32 (.slice none 0 0)).toArray 111)).drew (wr.heap.size + 1) (opC 0 0 (.slice none 0 0) 0 z32 (.slice none 0 0)) 111) := by
          have h9 := (Blk.made (wr.alloc (.cells (opC 0 0 (.slice none 0 0) 0 z32 (.slice none 0 0)).toArray 111)) (opC 0 0 (.slice none 0 0) 0 z32 (.slice none 0 0)) 111).drew
          rwa [World.size_alloc] at h9
        have RAL : Hid (g < wr.heap.size) := World.block_lt_of_cell? _ _ (RA.out 0 _ (show x.cells[0]? = some (.int .i64 x.ki) from rfl))
        have RBL : Hid (g' < wr.heap.size) := World.block_lt_of_cell? _ _ (RB.out 0 _ (show y.cells[0]? = some (.int .i64 y.ki) from rfl))
        refine wpAnyH_ready (rs := [8, 9]) (by kernel_rfl) (by simp) ?_
        refine AllReadyH.cons rfl (fun KK hKK => ?_) (AllReadyH.cons rfl (fun KK hKK => ?_) AllReadyH.nil)
        · clear hix hiy
          go_simp
          refine hKK.out _ _ ⟨rangeAt_kept RA.out ca1.out (fun e => e), rangeAt_kept RB.out ca1.out (fun e => e)⟩ (fun hH => ?_)
          clear hKK KK
          refine wpAnyH_ready (rs := [9]) (by kernel_rfl) (by simp) ?_
          refine AllReadyH.cons rfl (fun KK hKK => ?_) AllReadyH.nil
          go_simp
          refine hKK.out _ _ ⟨rangeAt_kept RA.out ca2.out (fun e => e), rangeAt_kept RB.out ca2.out (fun e => e)⟩ (fun hH => ?_)
          clear hKK KK
          refine wpAnyH_ready (rs := [10]) (by kernel_rfl) (by simp) ?_
          refine AllReadyH.cons rfl (fun KK hKK => ?_) AllReadyH.nil
          refine step_storeF rfl 111 (.tmp 6) (.tmp 21) rfl (wr.heap.size) (x.cells) (by kernel_rfl) (by kernel_rfl) (N0.out) (by rw [lx]; rfl) zx XO.out ?_
          intro wS b6 cS
          refine hKK.out _ _ ⟨rangeAt_kept (rangeAt_kept RA.out ca2.out (fun e => e)) cS (fun e => by have := RAL.out; omega), rangeAt_kept (rangeAt_kept RB.out ca2.out (fun e => e)) cS (fun e => by have := RBL.out; omega)⟩ (fun hH => ?_)
          clear hKK KK
          refine wpAnyH_ready (rs := [11]) (by kernel_rfl) (by simp) ?_
          refine AllReadyH.cons rfl (fun KK hKK => ?_) AllReadyH.nil
          refine step_storeF rfl 111 (.tmp 7) (.tmp 25) rfl (wr.heap.size + 1) (y.cells) (by kernel_rfl) (by kernel_rfl) (N1.out.keep cS (by omega)) (by rw [ly]; rfl) zy YO.out ?_
          intro wE b7 cE
          refine hKK.out _ _ ⟨rangeAt_kept (rangeAt_kept (rangeAt_kept RA.out ca2.out (fun e => e)) cS (fun e => by have := RAL.out; omega)) cE (fun e => by have := RAL.out; omega), rangeAt_kept (rangeAt_kept (rangeAt_kept RB.out ca2.out (fun e => e)) cS (fun e => by have := RBL.out; omega)) cE (fun e => by have := RBL.out; omega)⟩ (fun hH => ?_)
          clear hKK KK hH
          refine wpAnyH_done (by kernel_rfl) ?_ _
          have DX : Hid (Blk wE (wr.heap.size) (x.cells) 111) := b6.keep cE (by omega)
          have DY : Hid (Blk wE (wr.heap.size + 1) (y.cells) 111) := b7
          have CE : Hid (Chg (fun _ => False) wr wE) := (ca2.out.trans cS (fun k e => .inr (by omega))).trans cE (fun k e => .inr (by omega))
          clear b6 b7 cS cE
          go_wp2_with fail
          go_meet
          case rel => exact ⟨_, _, rfl, rfl, rfl, DX.out, DY.out, CE.out⟩
        · clear hix hiy
          go_simp
          refine hKK.out _ _ ⟨rangeAt_kept RA.out ca1.out (fun e => e), rangeAt_kept RB.out ca1.out (fun e => e)⟩ (fun hH => ?_)
          clear hKK KK
          refine wpAnyH_ready (rs := [8]) (by kernel_rfl) (by simp) ?_
          refine AllReadyH.cons rfl (fun KK hKK => ?_) AllReadyH.nil
          go_simp
          refine hKK.out _ _ ⟨rangeAt_kept RA.out ca2.out (fun e => e), rangeAt_kept RB.out ca2.out (fun e => e)⟩ (fun hH => ?_)
          clear hKK KK
          refine wpAnyH_ready (rs := [10]) (by kernel_rfl) (by simp) ?_
          refine AllReadyH.cons rfl (fun KK hKK => ?_) AllReadyH.nil
          refine step_storeF rfl 111 (.tmp 6) (.tmp 21) rfl (wr.heap.size + 1) (x.cells) (by kernel_rfl) (by kernel_rfl) (N1.out) (by rw [lx]; rfl) zx XO.out ?_
          intro wS b6 cS
          refine hKK.out _ _ ⟨rangeAt_kept (rangeAt_kept RA.out ca2.out (fun e => e)) cS (fun e => by have := RAL.out; omega), rangeAt_kept (rangeAt_kept RB.out ca2.out (fun e => e)) cS (fun e => by have := RBL.out; omega)⟩ (fun hH => ?_)
          clear hKK KK
          refine wpAnyH_ready (rs := [11]) (by kernel_rfl) (by simp) ?_
          refine AllReadyH.cons rfl (fun KK hKK => ?_) AllReadyH.nil
          refine step_storeF rfl 111 (.tmp 7) (.tmp 25) rfl (wr.heap.size) (y.cells) (by kernel_rfl) (by kernel_rfl) (N0.out.keep cS (by omega)) (by rw [ly]; rfl) zy YO.out ?_
          intro wE b7 cE
          refine hKK.out _ _ ⟨rangeAt_kept (rangeAt_kept (rangeAt_kept RA.out ca2.out (fun e => e)) cS (fun e => by have := RAL.out; omega)) cE (fun e => by have := RAL.out; omega), rangeAt_kept (rangeAt_kept (rangeAt_kept RB.out ca2.out (fun e => e)) cS (fun e => by have := RBL.out; omega)) cE (fun e => by have := RBL.out; omega)⟩ (fun hH => ?_)
          clear hKK KK hH
          refine wpAnyH_done (by kernel_rfl) ?_ _
          have DX : Hid (Blk wE (wr.heap.size + 1) (x.cells) 111) := b6.keep cE (by omega)
          have DY : Hid (Blk wE (wr.heap.size) (y.cells) 111) := b7
          have CE : Hid (Chg (fun _ => False) wr wE) := (ca2.out.trans cS (fun k e => .inr (by omega))).trans cE (fun k e => .inr (by omega))
          clear b6 b7 cS cE
          go_wp2_with fail
          go_meet
          case rel => exact ⟨_, _, rfl, rfl, rfl, DX.out, DY.out, CE.out⟩
      case rest =>
        obtain ⟨g6, g7, rfl, rfl, rfl, hid⟩ := hcut
        have DX : Hid _ := hid.out.1
        have DY : Hid _ := hid.out.2.1
        have CE : Hid _ := hid.out.2.2
        clear hid
        have BLE : Hid (Below w.heap.size w wc) := BL.out.trans (CE.out.below BL.out.size (fun _ e => e.elim))
        have PX : Hid (OcT wc x) := TX.out.kept CE.out
        have PY : Hid (OcT wc y) := TY.out.kept CE.out
        clear zx zy XO YO lx ly RA RB TX TY CE hix hiy
        obtain ⟨ki, lv, ka, kn, kc, kl, ct, sm, va, vn, vc, vl⟩ := x
        obtain ⟨ki', lv', ka', kn', kc', kl', ct', sm', va', vn', vc', vl'⟩ := y
        obtain ⟨e1, e2, e3, e4, e5, e6⟩ := SM.out
        simp only at e1 e2 e3 e4 e5 e6
        subst e1 e2 e3 e4 e5 e6
        simp only at sa sb
        have x0 : wc.cell? ⟨g6, 0, none⟩ = some (.int .i64 ki) := DX.out.cell 0
        have x1 : wc.cell? ⟨g6, 1, none⟩ = some (.int .i64 lv) := DX.out.cell 1
        have x2 : wc.cell? ⟨g6, 2, none⟩ = some (.slice ka kn kc) := DX.out.cell 2
        have x3 : wc.cell? ⟨g6, 3, none⟩ = some (.int .u64 ct) := DX.out.cell 3
        have X4 : Hid (∀ k, (wc.drewN k).cell? ⟨g6, 36, none⟩ = some (.slice va vn vc)) := fun k => by
          have h9 : wc.cell? ⟨g6, 36, none⟩ = some (.slice va vn vc) := by rw [DX.out.cell]; exact Oc.vl_at _ sa
          exact h9
        have y0 : wc.cell? ⟨g7, 0, none⟩ = some (.int .i64 ki) := DY.out.cell 0
        have y1 : wc.cell? ⟨g7, 1, none⟩ = some (.int .i64 lv) := DY.out.cell 1
        have y2 : wc.cell? ⟨g7, 2, none⟩ = some (.slice ka' kn' kc') := DY.out.cell 2
        have y3 : wc.cell? ⟨g7, 3, none⟩ = some (.int .u64 ct) := DY.out.cell 3
        have Y4 : Hid (∀ k, (wc.drewN k).cell? ⟨g7, 36, none⟩ = some (.slice va' vn' vc')) := fun k => by
          have h9 : wc.cell? ⟨g7, 36, none⟩ = some (.slice va' vn' vc') := by rw [DY.out.cell]; exact Oc.vl_at _ sb
          exact h9
        have E31 : Hid (∀ w, (binOp .neq 31 (.agg (bs sm).toArray) (.agg (bs sm).toArray)).run Try.prog w = .ok (.bool false) w) := fun w => by rw [neq31F sm sm sa sa w, decide_eq_true rfl]; rfl
        clear SM
        go_wp2_with (first | refine wpList_load_g (by rfl) 31 (.tmp 46) rfl g6 4 (bs sm) rfl DX.out (by simp [Oc.cells]) Try.underlying31 rfl (Try.sumSz' sm sa) ?_ | refine wpList_load_g (by rfl) 31 (.tmp 48) rfl g7 4 (bs sm) rfl DY.out (by simp [Oc.cells]) Try.underlying31 rfl (Try.sumSz' sm sa) ?_ | refine wpList_bin_g (by rfl) .neq 31 (.tmp 47) (.tmp 49) rfl (u := (bs sm).toArray) (v := (bs sm).toArray) rfl rfl Try.eqGuard31F (E31.out _) ?_)
        refine Calls.mono (same_any PX.out.ks PY.out.ks PX.out.kl PX.out.kl) ?_
        rintro e w2 ⟨rfl, k1, rfl⟩
        clear x2 y2
        rw [decide_eq_true rfl]
        have x4 := X4.out k1
        have y4 := Y4.out k1
        have cd : Chg (fun _ => False) wc (wc.drewN k1) := drewN_chg wc k1 _
        have QX : Hid _ := PX.out.kept cd
        have QY : Hid _ := PY.out.kept cd
        clear cd
        go_wp2_with fail
        refine Calls.mono (same_any (w := wc.drewN k1) QX.out.vs QY.out.vs QX.out.vl QX.out.vl) ?_
        rintro e w3 ⟨rfl, k2, hw3⟩
        have B3 : Hid (Below w.heap.size w w3) := by rw [hw3]; exact ⟨BLE.out.os, BLE.out.tape, BLE.out.output, BLE.out.size, BLE.out.block⟩
        clear hw3
        rw [decide_eq_true rfl]
        go_wp2_with fail
        go_roundw
        case rel => exact ⟨j + 1, by omega, by go_num, B3.out⟩
        case measure => simp [intOf]; omega
    · go_wp2_with fail
      go_ret
      exact ⟨rfl, BL.out⟩
end Go.Proofs.Ytlmdljghhpkbiaa

/-
  The reference's upTo.
-/
namespace Go.Proofs.Ytlmdljghhpkbiaa
open Go.RowKit

theorem lowN1_lt {T : List Int} (h : Byts T) (a : Nat) (err : Int) : lowN (pL T a err 1) < 256 := by
  have hb := pL_byts h a err 1
  have hl := pL_len T a err 1
  have h1 := lowN_lt hb
  have h2 : 256 ^ (pL T a err ((1 : Nat) : Int)).length ≤ 256 ^ 1 := Nat.pow_le_pow_right (by decide) hl
  have h3 : lowN (pL T a err 1) < 256 ^ (pL T a err ((1 : Nat) : Int)).length := h1
  omega
set_option maxRecDepth 100000 in
theorem xUpTo_any {w : World} {p : Nat} {t : TypeId} {tv : Value} {T : List Int} {a : Nat} {err : Int} (h : RS w p t tv T a err) (most : Nat) (hm : most ≤ 255) (code : Int) :
    Calls Try.prog 120 #[.pointer (some ⟨p, 0, none⟩), .int .u8 most, .int .i64 code] w fun e w' => e = .returned (.int .i64 (lowN (pL T a err 1))) ∧ RP w w' p t tv T (pA T a err 1) (if most < lowN (pL T a err 1) then failE (pE T a err 1) code else pE T a err 1) := by
  have HC : Hid _ := xLow_any h 1 (by decide)
  have HL := lowN1_lt h.byt a err
  obtain ⟨K, hK⟩ : ∃ K : Nat, K = lowN (pL T a err 1) := ⟨_, rfl⟩
  obtain ⟨b, hb⟩ : ∃ b, b = pA T a err 1 := ⟨_, rfl⟩
  obtain ⟨d, hd⟩ : ∃ d, d = pE T a err 1 := ⟨_, rfl⟩
  have e1 : ((1 : Nat) : Int) = 1 := rfl
  rw [e1, ← hK, ← hb, ← hd] at HC
  rw [← hK] at HL
  rw [← hK, ← hb, ← hd]
  obtain ⟨f, hf⟩ : ∃ f, f = if most < K then failE d code else d := ⟨_, rfl⟩
  rw [← hf]
  have HFF : Hid _ := hf
  clear hK hb hd h e1 hf
  have hw1 : IntKind.wrap .u64 (most : Int) = (most : Int) := by rw [IntKind.wrap_u64]; omega
  have hw2 : IntKind.wrap .i64 (K : Int) = (K : Int) := by rw [IntKind.wrap_i64]; omega
  go_enter Try.func120, Try.ntmps120
  go_wp2_with fail
  refine Calls.mono HC.out ?_
  rintro e w1 ⟨rfl, r1⟩
  have R1 : Hid _ := r1
  clear r1 HC
  by_cases hlt : most < K
  · have HF : Hid _ := xFail_any R1.out.1 code
    go_wp2_with fail
    refine Calls.mono HF.out ?_
    rintro e w2 ⟨rfl, r2⟩
    have R2 : Hid _ := r2
    clear r2 HF
    have F : Hid (RP w w2 p t tv T b f) := by rw [HFF.out, if_pos hlt]; exact RP.trans R1.out R2.out
    go_wp2_with fail
    go_ret
    exact ⟨rfl, F.out⟩
  · have F : Hid (RP w w1 p t tv T b f) := by rw [HFF.out, if_neg hlt]; exact R1.out
    go_wp2_with fail
    go_ret
    exact ⟨rfl, F.out⟩
end Go.Proofs.Ytlmdljghhpkbiaa
