/-
  Proofs compared: ops.
-/
import Derived.Test.YtdofgphokdgjiaaPrC
import Derived.Test.YtdofgphokdgjiaaPrR
import Derived.Test.YtdofgphokdgjiaaTwS
import Derived.Test.YtdofgphokdgjiaaTwF
namespace Go.Proofs.Ytdofgphokdgjiaa
open Go.RowKit

theorem step_storeP {ops : Array Oper} {o : Oper} {a : Act} {w : World} {K : Act → World → Prop} {Q : Exit → Act → World → Prop} {E : Prop} (hgd : o.guard = none) (ty : TypeId) (x y : Operand) (ho : o.op = .store ty x y)
    (g : Nat) (vs : List Value) (hx : a.eval x = .pointer (some ⟨g, 0, none⟩)) (hy : a.eval y = .agg vs.toArray) {cs : List Value} {t : TypeId} (hg : Blk w g cs t) (hl : vs.length = cs.length)
    (hi : (Try.prog.info? ty).map (·.size) = some vs.length) (h1 : ∀ v ∈ vs, v.oneCell' = true)
    (h : ∀ w', Blk w' g vs t → Chg (fun k => k = g) w w' → K (a.put o.dst undef) w') :
    if Region.wanted o (yielded ops a.tmps) = true then Oper.wp Try.prog o a w K Q else E := by
  have hw : Region.wanted o (yielded ops a.tmps) = true := by simp [Region.wanted, hgd]
  rw [if_pos hw]
  obtain ⟨h2, h3⟩ := Blk.setCells vs 0 w cs hg (by omega)
  rw [splice_all _ _ hl] at h2
  exact wp_store_mid ty x y ho g 0 vs.toArray hx hy (by rw [List.size_toArray]; exact hg.there (by omega)) (by rw [List.size_toArray]; exact hi) (all_oneCell_toArray h1) (by rw [List.toList_toArray]; exact h _ h2 h3)
theorem Try.eqGuardType31 : Try.prog.eqGuardType Try.prog.depth 31 = false := by kernel_rfl
theorem neq31b (x y : List Int) (hx : x.length = 32) (hy : y.length = 32) (w : World) : (binOp .neq 31 (.agg (bs x).toArray) (.agg (bs y).toArray)).run Try.prog w = .ok (.bool (!decide (x = y))) w := by
  simp only [binOp]
  simp [Op.equal, Op.maxDepth, eq31b 9998 x y hx hy w]
theorem Own.len_le {w : World} {v : Value} {l : List Int} (h : Own w v l) : l.length ≤ 9223372036854775807 := by
  rcases h.2 with ⟨_, h0⟩ | ⟨g, cap, cur, _, _, _, h1, h2, _⟩
  · omega
  · unfold maxLen at h2; omega
def OpS.dat (o : OpS) : Nat × Nat × List Int × Nat × List Int × List Int := (o.ki, o.lv, o.kl, o.ct, o.sm, o.vl)
theorem OM.rows {w : World} {B : Nat} {v : Value} {L : List (OpS × Value × Value)} (h : OM w B v L) {j : Nat} (hj : j < L.length) : ∃ g c, v = .slice (some ⟨g, 0, none⟩) L.length c ∧ w.rangeAt g (j * 37) (ocOf (L[j])) ∧ (L[j]).1.sm.length = 32 := by
  obtain ⟨g, c, e, r⟩ := h.gl.at (j := j) (by rw [List.length_map]; exact hj)
  rw [List.length_map] at e
  have hl := h.gl.len (ocOf (L[j])) (List.mem_map.2 ⟨_, List.getElem_mem _, rfl⟩)
  rw [ocOf, opC_len] at hl
  refine ⟨g, c, e, ?_, by omega⟩
  simpa using r

/-- What SameOps answers. -/
structure SoQ (w w' : World) (L1 L2 : List (OpS × Value × Value)) (e : Ending) : Prop where
  ex : ∃ D : Bool, e = .returned (.bool D) ∧ (D = true ↔ L1.map (fun o => o.1.dat) = L2.map (fun o => o.1.dat)) ∧ Below w.heap.size w w'

set_option maxRecDepth 100000 in
set_option maxHeartbeats 16000000 in
theorem sameOps_any {w : World} {B1 B2 : Nat} {L1 L2 : List (OpS × Value × Value)} {a b : Option Addr} {n1 n2 c d : Nat} (h1 : OM w B1 (.slice a n1 c) L1) (h2 : OM w B2 (.slice b n2 d) L2) (e1 : n1 = L1.length) (e2 : n2 = L2.length) (b1 : n1 ≤ 4194304) (b2 : n2 ≤ 4194304) :
    Calls Try.prog 96 #[.slice a n1 c, .slice b n2 d] w fun e w' => SoQ w w' L1 L2 e := by
  have H1 : Hid _ := h1
  have H2 : Hid _ := h2
  have E1 : Hid _ := e1
  have E2 : Hid _ := e2
  have HB0 : Hid (Below w.heap.size w w) := Below.refl _ _
  by_cases hne : n1 = n2
  · subst hne
    clear h1 h2 e1 e2 b2
    go_enter Try.func96, Try.ntmps96
    go_wp2_with fail
    go_loopw [15] (fun i wr => ∃ j : Nat, j ≤ n1 ∧ i = .int .i64 j ∧ Hid (Below w.heap.size w wr ∧ (L1.take j).map (fun o => o.1.dat) = (L2.take j).map (fun o => o.1.dat))) (fun i _ => n1 - (intOf i).toNat)
    case atStart => exact ⟨0, Nat.zero_le _, rfl, HB0.out, rfl⟩
    case round =>
      obtain ⟨j, hj, rfl, hid⟩ := hrel
      obtain ⟨bl, pf⟩ := hid.out
      have BL : Hid _ := bl
      have PF : Hid _ := pf
      clear hid bl pf
      by_cases hlt : j < n1
      · have j1 : j < L1.length := by have := E1.out; omega
        have j2 : j < L2.length := by have := E2.out; omega
        obtain ⟨g, c', ea, ra, sa⟩ := H1.out.rows j1
        obtain ⟨g', d', eb, rb, sb⟩ := H2.out.rows j2
        injection ea with ea q1 q2
        injection eb with eb q3 q4
        clear q1 q2 q3 q4
        have hix := ix_at Try.underlying96 Try.elem96 Try.so219 (c := c) ea hlt
        simp only [Nat.zero_add] at hix
        have hiy := ix_at Try.underlying96 Try.elem96 Try.so219 (c := d) eb hlt
        simp only [Nat.zero_add] at hiy
        obtain ⟨x, hx⟩ : ∃ x, x = L1[j] := ⟨_, rfl⟩
        obtain ⟨y, hy⟩ : ∃ y, y = L2[j] := ⟨_, rfl⟩
        rw [← hx] at ra sa
        rw [← hy] at rb sb
        have cR : Chg (fun _ => False) w wr := Chg.of_below BL.out (fun _ => False)
        have RA : Hid (wr.rangeAt g (j * 37) (ocOf x)) := by exact rangeAt_kept ra cR (fun e => e)
        have RB : Hid (wr.rangeAt g' (j * 37) (ocOf y)) := by exact rangeAt_kept rb cR (fun e => e)
        obtain ⟨ox1, ox2, ox3, ox4⟩ := H1.out.own x (by rw [hx]; exact List.getElem_mem _)
        obtain ⟨oy1, oy2, oy3, oy4⟩ := H2.out.own y (by rw [hy]; exact List.getElem_mem _)
        have OX1 : Hid (Own wr x.2.1 x.1.kl) := ox1.kept cR (fun _ _ e => e)
        have OX2 : Hid (Own wr x.2.2 x.1.vl) := ox2.kept cR (fun _ _ e => e)
        have OY1 : Hid (Own wr y.2.1 y.1.kl) := oy1.kept cR (fun _ _ e => e)
        have OY2 : Hid (Own wr y.2.2 y.1.vl) := oy2.kept cR (fun _ _ e => e)
        have lx : (ocOf x).length = 37 := by rw [ocOf, opC_len, sa]
        have ly : (ocOf y).length = 37 := by rw [ocOf, opC_len, sb]
        have xo : ∀ u ∈ ocOf x, u.oneCell' = true := opC_one _ _ ox3 _ _ ox4
        have yo : ∀ u ∈ ocOf y, u.oneCell' = true := opC_one _ _ oy3 _ _ oy4
        have zx : (Try.prog.info? 219).map (·.size) = some (ocOf x).length := by rw [lx]; kernel_rfl
        have zy : (Try.prog.info? 219).map (·.size) = some (ocOf y).length := by rw [ly]; kernel_rfl
        have XO : Hid _ := xo
        have YO : Hid _ := yo
        have HXJ : Hid _ := hx
        have HYJ : Hid _ := hy
        clear ea eb ra rb hx hy cR ox1 ox2 oy1 oy2 xo yo
        go_upto_region 6 with fail
        go_cut [6, 7, 15] from 15 to 68 (fun s6 s7 s15 wx => ∃ g6 g7 : Nat, s6 = .pointer (some ⟨g6, 0, none⟩) ∧ s7 = .pointer (some ⟨g7, 0, none⟩) ∧ s15 = .int .i64 j ∧ Hid (Blk wx g6 (ocOf x) 219 ∧ Blk wx g7 (ocOf y) 219 ∧ Chg (fun _ => False) wr wx))
        case first =>
          refine wp_region_held_drew (S := fun w' => w'.rangeAt g (j * 37) (ocOf x) ∧ w'.rangeAt g' (j * 37) (ocOf y)) (by kernel_rfl) ⟨RA.out, RB.out⟩ (fun hH => ?_)
          refine wpAnyH_take (i := 0) (v := .slice a n1 c) rfl (by kernel_rfl) (by kernel_rfl) (by kernel_rfl) (fun _ _ _ h => h) (Or.inl ⟨by rfl, fun w' _ => by go_simp⟩) hH ?_
          refine wpAnyH_take (i := 1) (v := .int .i64 j) rfl (by kernel_rfl) (by kernel_rfl) (by kernel_rfl) (fun _ _ _ h => h) (Or.inl ⟨by rfl, fun w' _ => by go_simp⟩) hH ?_
          refine wpAnyH_take (i := 2) (v := .pointer (some ⟨g, j * 37, none⟩)) rfl (by kernel_rfl) (by kernel_rfl) (by kernel_rfl) (fun _ _ _ h => h) (Or.inl ⟨by rfl, fun w' _ => by have q := hix w'; go_simp⟩) hH ?_
          refine wpAnyH_take (i := 3) (v := .agg (ocOf x).toArray) rfl (by kernel_rfl) (by kernel_rfl) (by kernel_rfl) (fun _ _ _ h => h) (yieldsIf_load_mid (by rfl) 219 _ rfl g (j * 37) (by kernel_rfl) (ocOf x) _ (fun w' h => h.1) Try.underlying219 rfl zx) hH ?_
          refine wpAnyH_take (i := 4) (v := .slice b n1 d) rfl (by kernel_rfl) (by kernel_rfl) (by kernel_rfl) (fun _ _ _ h => h) (Or.inl ⟨by rfl, fun w' _ => by go_simp⟩) hH ?_
          refine wpAnyH_take (i := 5) (v := .int .i64 j) rfl (by kernel_rfl) (by kernel_rfl) (by kernel_rfl) (fun _ _ _ h => h) (Or.inl ⟨by rfl, fun w' _ => by go_simp⟩) hH ?_
          refine wpAnyH_take (i := 6) (v := .pointer (some ⟨g', j * 37, none⟩)) rfl (by kernel_rfl) (by kernel_rfl) (by kernel_rfl) (fun _ _ _ h => h) (Or.inl ⟨by rfl, fun w' _ => by have q := hiy w'; go_simp⟩) hH ?_
          refine wpAnyH_take (i := 7) (v := .agg (ocOf y).toArray) rfl (by kernel_rfl) (by kernel_rfl) (by kernel_rfl) (fun _ _ _ h => h) (yieldsIf_load_mid (by rfl) 219 _ rfl g' (j * 37) (by kernel_rfl) (ocOf y) _ (fun w' h => h.2) Try.underlying219 rfl zy) hH ?_
          have ca1 : Hid (Chg (fun _ => False) wr (wr.alloc (.cells (opC 0 0 (.slice none 0 0) 0 z32 (.slice none 0 0)).toArray 219)).drew) := ((Chg.refl _ _).alloc _).drew
          have ca2 : Hid (Chg (fun _ => False) wr ((wr.alloc (.cells (opC 0 0 (.slice none 0 0) 0 z32 (.slice none 0 0)).toArray 219)).alloc (.cells (opC 0 0 (.slice none 0 0) 0 z32 (.slice none 0 0)).toArray 219)).drew) := (((Chg.refl _ _).alloc _).alloc _).drew
          have N0 : Hid (Blk ((wr.alloc (.cells (opC 0 0 (.slice none 0 0) 0 z32 (.slice none 0 0)).toArray 219)).alloc (.cells (opC 0 0 (.slice none 0 0) 0 z32 (.slice none 0 0)).toArray 219)).drew wr.heap.size (opC 0 0 (.slice none 0 0) 0 z32 (.slice none 0 0)) 219) := ((Blk.made wr _ 219).alloc _).drew
          have N1 : Hid (Blk ((wr.alloc (.cells (opC 0 0 (.slice none 0 0) 0 z32 (.slice none 0 0)).toArray 219)).alloc (.cells (opC 0 0 (.slice none 0 0) 0 z32 (.slice none 0 0)).toArray 219)).drew (wr.heap.size + 1) (opC 0 0 (.slice none 0 0) 0 z32 (.slice none 0 0)) 219) := by
            have h9 := (Blk.made (wr.alloc (.cells (opC 0 0 (.slice none 0 0) 0 z32 (.slice none 0 0)).toArray 219)) (opC 0 0 (.slice none 0 0) 0 z32 (.slice none 0 0)) 219).drew
            rwa [World.size_alloc] at h9
          have RAL : Hid (g < wr.heap.size) := World.block_lt_of_cell? _ _ (RA.out 0 _ (show (ocOf x)[0]? = some (.int .i64 x.1.ki) from rfl))
          have RBL : Hid (g' < wr.heap.size) := World.block_lt_of_cell? _ _ (RB.out 0 _ (show (ocOf y)[0]? = some (.int .i64 y.1.ki) from rfl))
          refine wpAnyH_ready (rs := [8, 9]) (by kernel_rfl) (by simp) ?_
          refine AllReadyH.cons rfl (fun KK hKK => ?_) (AllReadyH.cons rfl (fun KK hKK => ?_) AllReadyH.nil)
          · clear hix hiy
            go_simp
            refine hKK.out _ _ ⟨rangeAt_kept RA.out ca1.out (fun e => e), rangeAt_kept RB.out ca1.out (fun e => e)⟩ (fun hH => ?_)
            clear hKK KK
            refine wpAnyH_ready (rs := [9]) (by kernel_rfl) (by simp) ?_
            refine AllReadyH.cons rfl (fun KK hKK => ?_) AllReadyH.nil
            go_simp
            refine hKK.out _ _ ⟨rangeAt_kept RA.out ca2.out (fun e => e), rangeAt_kept RB.out ca2.out (fun e => e)⟩ (fun hH => ?_)
            clear hKK KK
            refine wpAnyH_ready (rs := [10]) (by kernel_rfl) (by simp) ?_
            refine AllReadyH.cons rfl (fun KK hKK => ?_) AllReadyH.nil
            refine step_storeP rfl 219 (.tmp 6) (.tmp 21) rfl (wr.heap.size) (ocOf x) (by kernel_rfl) (by kernel_rfl) (N0.out) (by rw [lx]; rfl) zx XO.out ?_
            intro wS b6 cS
            refine hKK.out _ _ ⟨rangeAt_kept (rangeAt_kept RA.out ca2.out (fun e => e)) cS (fun e => by have := RAL.out; omega), rangeAt_kept (rangeAt_kept RB.out ca2.out (fun e => e)) cS (fun e => by have := RBL.out; omega)⟩ (fun hH => ?_)
            clear hKK KK
            refine wpAnyH_ready (rs := [11]) (by kernel_rfl) (by simp) ?_
            refine AllReadyH.cons rfl (fun KK hKK => ?_) AllReadyH.nil
            refine step_storeP rfl 219 (.tmp 7) (.tmp 25) rfl (wr.heap.size + 1) (ocOf y) (by kernel_rfl) (by kernel_rfl) (N1.out.keep cS (by omega)) (by rw [ly]; rfl) zy YO.out ?_
            intro wE b7 cE
            refine hKK.out _ _ ⟨rangeAt_kept (rangeAt_kept (rangeAt_kept RA.out ca2.out (fun e => e)) cS (fun e => by have := RAL.out; omega)) cE (fun e => by have := RAL.out; omega), rangeAt_kept (rangeAt_kept (rangeAt_kept RB.out ca2.out (fun e => e)) cS (fun e => by have := RBL.out; omega)) cE (fun e => by have := RBL.out; omega)⟩ (fun hH => ?_)
            clear hKK KK hH
            refine wpAnyH_done (by kernel_rfl) ?_ _
            have DX : Hid (Blk wE (wr.heap.size) (ocOf x) 219) := b6.keep cE (by omega)
            have DY : Hid (Blk wE (wr.heap.size + 1) (ocOf y) 219) := b7
            have CE : Hid (Chg (fun _ => False) wr wE) := (ca2.out.trans cS (fun k e => .inr (by omega))).trans cE (fun k e => .inr (by omega))
            clear b6 b7 cS cE
            go_wp2_with fail
            go_meet
            case rel => exact ⟨_, _, rfl, rfl, rfl, DX.out, DY.out, CE.out⟩
          · clear hix hiy
            go_simp
            refine hKK.out _ _ ⟨rangeAt_kept RA.out ca1.out (fun e => e), rangeAt_kept RB.out ca1.out (fun e => e)⟩ (fun hH => ?_)
            clear hKK KK
            refine wpAnyH_ready (rs := [8]) (by kernel_rfl) (by simp) ?_
            refine AllReadyH.cons rfl (fun KK hKK => ?_) AllReadyH.nil
            go_simp
            refine hKK.out _ _ ⟨rangeAt_kept RA.out ca2.out (fun e => e), rangeAt_kept RB.out ca2.out (fun e => e)⟩ (fun hH => ?_)
            clear hKK KK
            refine wpAnyH_ready (rs := [10]) (by kernel_rfl) (by simp) ?_
            refine AllReadyH.cons rfl (fun KK hKK => ?_) AllReadyH.nil
            refine step_storeP rfl 219 (.tmp 6) (.tmp 21) rfl (wr.heap.size + 1) (ocOf x) (by kernel_rfl) (by kernel_rfl) (N1.out) (by rw [lx]; rfl) zx XO.out ?_
            intro wS b6 cS
            refine hKK.out _ _ ⟨rangeAt_kept (rangeAt_kept RA.out ca2.out (fun e => e)) cS (fun e => by have := RAL.out; omega), rangeAt_kept (rangeAt_kept RB.out ca2.out (fun e => e)) cS (fun e => by have := RBL.out; omega)⟩ (fun hH => ?_)
            clear hKK KK
            refine wpAnyH_ready (rs := [11]) (by kernel_rfl) (by simp) ?_
            refine AllReadyH.cons rfl (fun KK hKK => ?_) AllReadyH.nil
            refine step_storeP rfl 219 (.tmp 7) (.tmp 25) rfl (wr.heap.size) (ocOf y) (by kernel_rfl) (by kernel_rfl) (N0.out.keep cS (by omega)) (by rw [ly]; rfl) zy YO.out ?_
            intro wE b7 cE
            refine hKK.out _ _ ⟨rangeAt_kept (rangeAt_kept (rangeAt_kept RA.out ca2.out (fun e => e)) cS (fun e => by have := RAL.out; omega)) cE (fun e => by have := RAL.out; omega), rangeAt_kept (rangeAt_kept (rangeAt_kept RB.out ca2.out (fun e => e)) cS (fun e => by have := RBL.out; omega)) cE (fun e => by have := RBL.out; omega)⟩ (fun hH => ?_)
            clear hKK KK hH
            refine wpAnyH_done (by kernel_rfl) ?_ _
            have DX : Hid (Blk wE (wr.heap.size + 1) (ocOf x) 219) := b6.keep cE (by omega)
            have DY : Hid (Blk wE (wr.heap.size) (ocOf y) 219) := b7
            have CE : Hid (Chg (fun _ => False) wr wE) := (ca2.out.trans cS (fun k e => .inr (by omega))).trans cE (fun k e => .inr (by omega))
            clear b6 b7 cS cE
            go_wp2_with fail
            go_meet
            case rel => exact ⟨_, _, rfl, rfl, rfl, DX.out, DY.out, CE.out⟩
        case rest =>
          obtain ⟨g6, g7, rfl, rfl, rfl, hid⟩ := hcut
          have DX : Hid _ := hid.out.1
          have DY : Hid _ := hid.out.2.1
          have CE : Hid _ := hid.out.2.2
          clear hid
          have BLE : Hid (Below w.heap.size w wc) := BL.out.trans (CE.out.below BL.out.size (fun _ e => e.elim))
          have x0 : wc.cell? ⟨g6, 0, none⟩ = some (.int .i64 x.1.ki) := DX.out.cell 0
          have x1 : wc.cell? ⟨g6, 1, none⟩ = some (.int .i64 x.1.lv) := DX.out.cell 1
          have x2 : wc.cell? ⟨g6, 2, none⟩ = some x.2.1 := DX.out.cell 2
          have x3 : wc.cell? ⟨g6, 3, none⟩ = some (.int .u64 x.1.ct) := DX.out.cell 3
          have X4 : Hid (∀ k, (wc.drewN k).cell? ⟨g6, 36, none⟩ = some x.2.2) := fun k => by
            have h9 : wc.cell? ⟨g6, 36, none⟩ = some x.2.2 := by rw [DX.out.cell]; exact opC_v _ _ _ _ _ _ sa
            exact h9
          have y0 : wc.cell? ⟨g7, 0, none⟩ = some (.int .i64 y.1.ki) := DY.out.cell 0
          have y1 : wc.cell? ⟨g7, 1, none⟩ = some (.int .i64 y.1.lv) := DY.out.cell 1
          have y2 : wc.cell? ⟨g7, 2, none⟩ = some y.2.1 := DY.out.cell 2
          have y3 : wc.cell? ⟨g7, 3, none⟩ = some (.int .u64 y.1.ct) := DY.out.cell 3
          have Y4 : Hid (∀ k, (wc.drewN k).cell? ⟨g7, 36, none⟩ = some y.2.2) := fun k => by
            have h9 : wc.cell? ⟨g7, 36, none⟩ = some y.2.2 := by rw [DY.out.cell]; exact opC_v _ _ _ _ _ _ sb
            exact h9
          have E31 : Hid _ := neq31b x.1.sm y.1.sm sa sb
          have PX1 : Hid (Own wc x.2.1 x.1.kl) := OX1.out.kept CE.out (fun _ _ e => e)
          have PX2 : Hid (Own wc x.2.2 x.1.vl) := OX2.out.kept CE.out (fun _ _ e => e)
          have PY1 : Hid (Own wc y.2.1 y.1.kl) := OY1.out.kept CE.out (fun _ _ e => e)
          have PY2 : Hid (Own wc y.2.2 y.1.vl) := OY2.out.kept CE.out (fun _ _ e => e)
          clear zx zy XO YO lx ly RA RB OX1 OX2 OY1 OY2 CE hix hiy
          go_upto_region 7 with fail
          go_cut [15, 67] from 15 to 68 (fun s15 s67 wx => ∃ D : Bool, s15 = .int .i64 j ∧ s67 = .bool D ∧ Hid ((D = false ↔ x.1.dat = y.1.dat) ∧ Below w.heap.size w wx))
          case first =>
            by_cases q1 : x.1.ki = y.1.ki
            · have iq1 : ((x.1.ki : Int) != (y.1.ki : Int)) = false := by simp [q1]
              have Q1 : Hid _ := q1
              clear q1
              by_cases q2 : x.1.lv = y.1.lv
              · have iq2 : ((x.1.lv : Int) != (y.1.lv : Int)) = false := by simp [q2]
                have Q2 : Hid _ := q2
                clear q2
                by_cases q3 : x.1.ct = y.1.ct
                · have iq3 : ((x.1.ct : Int) != (y.1.ct : Int)) = false := by simp [q3]
                  have Q3 : Hid _ := q3
                  clear q3
                  by_cases q4 : x.1.sm = y.1.sm
                  · have E31 : Hid (∀ w, (binOp .neq 31 (.agg (bs x.1.sm).toArray) (.agg (bs y.1.sm).toArray)).run Try.prog w = .ok (.bool false) w) := fun w => by rw [E31.out w, decide_eq_true q4]; rfl
                    have Q4 : Hid _ := q4
                    clear q4
                    go_wp2_with (first | refine wpList_load_g (by rfl) 31 (.tmp 46) rfl g6 4 (bs x.1.sm) rfl DX.out (by simp [ocOf, opC]) Try.underlying31 rfl (Try.sumSz' x.1.sm sa) ?_ | refine wpList_load_g (by rfl) 31 (.tmp 48) rfl g7 4 (bs y.1.sm) rfl DY.out (by simp [ocOf, opC]) Try.underlying31 rfl (Try.sumSz' y.1.sm sb) ?_ | refine wpList_bin_g (by rfl) .neq 31 (.tmp 47) (.tmp 49) rfl (u := (bs x.1.sm).toArray) (v := (bs y.1.sm).toArray) rfl rfl Try.eqGuardType31 (E31.out _) ?_)
                    refine Calls.mono (same_any PX1.out.src PY1.out.src PX1.out.len_le PY1.out.len_le) ?_
                    rintro e w2 ⟨rfl, k1, rfl⟩
                    clear x2 y2
                    by_cases q5 : x.1.kl = y.1.kl
                    · rw [decide_eq_true q5]
                      have Q5 : Hid _ := q5
                      clear q5
                      have x4 := X4.out k1
                      have y4 := Y4.out k1
                      go_wp2_with fail
                      refine Calls.mono (same_any (w := wc.drewN k1) (PX2.out.drewN k1).src (PY2.out.drewN k1).src PX2.out.len_le PY2.out.len_le) ?_
                      rintro e w3 ⟨rfl, k2, hw3⟩
                      have B3 : Hid (Below w.heap.size w w3) := by rw [hw3]; exact ⟨BLE.out.os, BLE.out.tape, BLE.out.output, BLE.out.size, BLE.out.block⟩
                      clear hw3
                      by_cases q6 : x.1.vl = y.1.vl
                      · rw [decide_eq_true q6]
                        have Q6 : Hid _ := q6
                        clear q6
                        go_wp2_with fail
                        go_meet
                        case rel => exact ⟨false, rfl, rfl, ⟨(fun _ => by simp only [OpS.dat, Q1.out, Q2.out, Q3.out, Q4.out, Q5.out, Q6.out]), fun _ => rfl⟩, B3.out⟩
                      · rw [decide_eq_false q6]
                        go_wp2_with fail
                        go_meet
                        case rel => exact ⟨true, rfl, rfl, ⟨(fun h => by cases h), fun h => absurd (by simp only [OpS.dat, Prod.mk.injEq] at h; first | exact h.1 | exact h.2.1 | exact h.2.2.2.1 | exact h.2.2.2.2.1 | exact h.2.2.1 | exact h.2.2.2.2.2) q6⟩, B3.out⟩
                    · have B2 : Hid (Below w.heap.size w (wc.drewN k1)) := ⟨BLE.out.os, BLE.out.tape, BLE.out.output, BLE.out.size, BLE.out.block⟩
                      rw [decide_eq_false q5]
                      go_wp2_with fail
                      go_meet
                      case rel => exact ⟨true, rfl, rfl, ⟨(fun h => by cases h), fun h => absurd (by simp only [OpS.dat, Prod.mk.injEq] at h; first | exact h.1 | exact h.2.1 | exact h.2.2.2.1 | exact h.2.2.2.2.1 | exact h.2.2.1 | exact h.2.2.2.2.2) q5⟩, B2.out⟩
                  · have E31 : Hid (∀ w, (binOp .neq 31 (.agg (bs x.1.sm).toArray) (.agg (bs y.1.sm).toArray)).run Try.prog w = .ok (.bool true) w) := fun w => by rw [E31.out w, decide_eq_false q4]; rfl
                    clear x2 y2
                    go_wp2_with (first | refine wpList_load_g (by rfl) 31 (.tmp 46) rfl g6 4 (bs x.1.sm) rfl DX.out (by simp [ocOf, opC]) Try.underlying31 rfl (Try.sumSz' x.1.sm sa) ?_ | refine wpList_load_g (by rfl) 31 (.tmp 48) rfl g7 4 (bs y.1.sm) rfl DY.out (by simp [ocOf, opC]) Try.underlying31 rfl (Try.sumSz' y.1.sm sb) ?_ | refine wpList_bin_g (by rfl) .neq 31 (.tmp 47) (.tmp 49) rfl (u := (bs x.1.sm).toArray) (v := (bs y.1.sm).toArray) rfl rfl Try.eqGuardType31 (E31.out _) ?_)
                    go_meet
                    case rel => exact ⟨true, rfl, rfl, ⟨(fun h => by cases h), fun h => absurd (by simp only [OpS.dat, Prod.mk.injEq] at h; first | exact h.1 | exact h.2.1 | exact h.2.2.2.1 | exact h.2.2.2.2.1 | exact h.2.2.1 | exact h.2.2.2.2.2) q4⟩, BLE.out⟩
                · have iq3 : ((x.1.ct : Int) != (y.1.ct : Int)) = true := by simp; omega
                  clear x2 y2
                  go_wp2_with fail
                  go_meet
                  case rel => exact ⟨true, rfl, rfl, ⟨(fun h => by cases h), fun h => absurd (by simp only [OpS.dat, Prod.mk.injEq] at h; first | exact h.1 | exact h.2.1 | exact h.2.2.2.1 | exact h.2.2.2.2.1 | exact h.2.2.1 | exact h.2.2.2.2.2) q3⟩, BLE.out⟩
              · have iq2 : ((x.1.lv : Int) != (y.1.lv : Int)) = true := by simp; omega
                clear x2 y2
                go_wp2_with fail
                go_meet
                case rel => exact ⟨true, rfl, rfl, ⟨(fun h => by cases h), fun h => absurd (by simp only [OpS.dat, Prod.mk.injEq] at h; first | exact h.1 | exact h.2.1 | exact h.2.2.2.1 | exact h.2.2.2.2.1 | exact h.2.2.1 | exact h.2.2.2.2.2) q2⟩, BLE.out⟩
            · have iq1 : ((x.1.ki : Int) != (y.1.ki : Int)) = true := by simp; omega
              clear x2 y2
              go_wp2_with fail
              go_meet
              case rel => exact ⟨true, rfl, rfl, ⟨(fun h => by cases h), fun h => absurd (by simp only [OpS.dat, Prod.mk.injEq] at h; first | exact h.1 | exact h.2.1 | exact h.2.2.2.1 | exact h.2.2.2.2.1 | exact h.2.2.1 | exact h.2.2.2.2.2) q1⟩, BLE.out⟩
          case rest =>
            obtain ⟨D, rfl, rfl, hid⟩ := hcut
            have HD : Hid _ := hid.out.1
            have B9 : Hid _ := hid.out.2
            clear hid
            by_cases hd : D = true
            · subst hd
              have NE : Hid (¬ L1.map (fun o => o.1.dat) = L2.map (fun o => o.1.dat)) := fun h => by
                have h9 := congrArg (fun l => l[j]?) h
                simp only [List.getElem?_map, List.getElem?_eq_getElem j1, List.getElem?_eq_getElem j2, Option.map_some, ← HXJ.out, ← HYJ.out] at h9
                injection h9 with h9
                have := HD.out.2 h9
                cases this
              go_wp2_with fail
              go_ret
              exact ⟨⟨false, rfl, ⟨(fun h => by cases h), fun h => absurd h NE.out⟩, B9.out⟩⟩
            · have hd2 : D = false := by cases D <;> simp_all
              subst hd2
              clear hd
              have FN : Hid ((L1.take (j + 1)).map (fun o => o.1.dat) = (L2.take (j + 1)).map (fun o => o.1.dat)) := by
                show _ = _
                rw [List.take_succ_eq_append_getElem j1, List.take_succ_eq_append_getElem j2, List.map_append, List.map_append, PF.out, ← HXJ.out, ← HYJ.out]
                simp only [List.map_cons, List.map_nil, HD.out.1 rfl]
              go_wp2_with fail
              go_roundw
              case rel => exact ⟨j + 1, by omega, by go_num, B9.out, FN.out⟩
              case measure => simp [intOf]; omega
      · have F : Hid (L1.map (fun o => o.1.dat) = L2.map (fun o => o.1.dat)) := by
          have hjn : j = n1 := by omega
          have q1 := E1.out
          have q2 := E2.out
          have h9 := PF.out
          rw [List.take_of_length_le (by omega), List.take_of_length_le (by omega)] at h9
          exact h9
        go_wp2_with fail
        go_ret
        exact ⟨⟨true, rfl, ⟨fun _ => F.out, fun _ => rfl⟩, BL.out⟩⟩
  · have F : Hid (¬ L1.map (fun o => o.1.dat) = L2.map (fun o => o.1.dat)) := by
      intro h9
      have q := congrArg List.length h9
      simp only [List.length_map] at q
      exact hne (by rw [E1.out, E2.out, q])
    have hni : ((n1 : Int) != (n2 : Int)) = true := by simp; omega
    clear h1 h2 e1 e2
    go_enter Try.func96, Try.ntmps96
    go_wp2_with fail
    go_ret
    exact ⟨⟨false, rfl, ⟨(fun h => by cases h), fun h => absurd h F.out⟩, HB0.out⟩⟩
end Go.Proofs.Ytdofgphokdgjiaa
