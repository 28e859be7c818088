/-
  Changes, sums and spans compared.
-/
import Derived.Test.YtdofgphokdgjiaaPrE
import Derived.Test.YtdofgphokdgjiaaMsX
import Derived.Test.YtdofgphokdgjiaaMsP
namespace Go.Proofs.Ytdofgphokdgjiaa
open Go.RowKit

def ChS.dat (o : ChS) : List Int × Bool × List Int × Bool × List Int := (o.kl, o.had, o.ol, o.has, o.nl)
theorem CM.rows {w : World} {v : Value} {L : List ChV} (h : CM w v L) {j : Nat} (hj : j < L.length) : ∃ g c, v = .slice (some ⟨g, 0, none⟩) L.length c ∧ w.rangeAt g (j * 5) (ccOf (L[j])) := by
  obtain ⟨g, c, e, r⟩ := h.gl.at (j := j) (by rw [List.length_map]; exact hj)
  rw [List.length_map] at e
  refine ⟨g, c, e, ?_⟩
  simpa using r
/-- What SameChanges answers. -/
structure ScQ (w w' : World) (L1 L2 : List ChV) (e : Ending) : Prop where
  ex : ∃ D : Bool, e = .returned (.bool D) ∧ (D = true ↔ L1.map (fun o => o.1.dat) = L2.map (fun o => o.1.dat)) ∧ Below w.heap.size w w'

set_option maxRecDepth 100000 in
set_option maxHeartbeats 16000000 in
theorem sameChanges_any {w : World} {L1 L2 : List ChV} {a b : Option Addr} {n1 n2 c d : Nat} (h1 : CM w (.slice a n1 c) L1) (h2 : CM w (.slice b n2 d) L2) (e1 : n1 = L1.length) (e2 : n2 = L2.length) (b1 : n1 ≤ 8388608) (b2 : n2 ≤ 8388608) :
    Calls Try.prog 93 #[.slice a n1 c, .slice b n2 d] w fun e w' => ScQ w w' L1 L2 e := by
  have H1 : Hid _ := h1
  have H2 : Hid _ := h2
  have E1 : Hid _ := e1
  have E2 : Hid _ := e2
  have HB0 : Hid (Below w.heap.size w w) := Below.refl _ _
  by_cases hne : n1 = n2
  · subst hne
    clear h1 h2 e1 e2 b2
    go_enter Try.func93, Try.ntmps93
    go_wp2_with fail
    go_loopw [15] (fun i wr => ∃ j : Nat, j ≤ n1 ∧ i = .int .i64 j ∧ Hid (Below w.heap.size w wr ∧ (L1.take j).map (fun o => o.1.dat) = (L2.take j).map (fun o => o.1.dat))) (fun i _ => n1 - (intOf i).toNat)
    case atStart => exact ⟨0, Nat.zero_le _, rfl, HB0.out, rfl⟩
    case round =>
      obtain ⟨j, hj, rfl, hid⟩ := hrel
      obtain ⟨bl, pf⟩ := hid.out
      have BL : Hid _ := bl
      have PF : Hid _ := pf
      clear hid bl pf
      by_cases hlt : j < n1
      · have j1 : j < L1.length := by have := E1.out; omega
        have j2 : j < L2.length := by have := E2.out; omega
        obtain ⟨g, c', ea, ra⟩ := H1.out.rows j1
        obtain ⟨g', d', eb, rb⟩ := H2.out.rows j2
        injection ea with ea q1 q2
        injection eb with eb q3 q4
        clear q1 q2 q3 q4
        have hix := ix_at Try.underlying93 Try.elem93 Try.so215 (c := c) ea hlt
        simp only [Nat.zero_add] at hix
        have hiy := ix_at Try.underlying93 Try.elem93 Try.so215 (c := d) eb hlt
        simp only [Nat.zero_add] at hiy
        obtain ⟨x, hx⟩ : ∃ x, x = L1[j] := ⟨_, rfl⟩
        obtain ⟨y, hy⟩ : ∃ y, y = L2[j] := ⟨_, rfl⟩
        rw [← hx] at ra
        rw [← hy] at rb
        have cR : Chg (fun _ => False) w wr := Chg.of_below BL.out (fun _ => False)
        have RA : Hid (wr.rangeAt g (j * 5) (ccOf x)) := rangeAt_kept ra cR (fun e => e)
        have RB : Hid (wr.rangeAt g' (j * 5) (ccOf y)) := rangeAt_kept rb cR (fun e => e)
        obtain ⟨ox1, ox2, ox3⟩ := H1.out.own x (by rw [hx]; exact List.getElem_mem _)
        obtain ⟨oy1, oy2, oy3⟩ := H2.out.own y (by rw [hy]; exact List.getElem_mem _)
        have XO : Hid (∀ u ∈ ccOf x, u.oneCell' = true) := chC_one ox1.one ox2.one ox3.one _ _
        have YO : Hid (∀ u ∈ ccOf y, u.oneCell' = true) := chC_one oy1.one oy2.one oy3.one _ _
        have OX1 : Hid (Own wr x.2.1 x.1.kl) := ox1.kept cR (fun _ _ e => e)
        have OX2 : Hid (Own wr x.2.2.1 x.1.ol) := ox2.kept cR (fun _ _ e => e)
        have OX3 : Hid (Own wr x.2.2.2 x.1.nl) := ox3.kept cR (fun _ _ e => e)
        have OY1 : Hid (Own wr y.2.1 y.1.kl) := oy1.kept cR (fun _ _ e => e)
        have OY2 : Hid (Own wr y.2.2.1 y.1.ol) := oy2.kept cR (fun _ _ e => e)
        have OY3 : Hid (Own wr y.2.2.2 y.1.nl) := oy3.kept cR (fun _ _ e => e)
        have zx : (Try.prog.info? 215).map (·.size) = some (ccOf x).length := Try.chSz _ _ _ _ _
        have zy : (Try.prog.info? 215).map (·.size) = some (ccOf y).length := Try.chSz _ _ _ _ _
        have HXJ : Hid _ := hx
        have HYJ : Hid _ := hy
        clear ea eb ra rb hx hy cR ox1 ox2 ox3 oy1 oy2 oy3
        go_upto_region 6 with fail
        go_cut [6, 7, 15] from 15 to 62 (fun s6 s7 s15 wx => ∃ g6 g7 : Nat, s6 = .pointer (some ⟨g6, 0, none⟩) ∧ s7 = .pointer (some ⟨g7, 0, none⟩) ∧ s15 = .int .i64 j ∧ Hid (Blk wx g6 (ccOf x) 215 ∧ Blk wx g7 (ccOf y) 215 ∧ Chg (fun _ => False) wr wx))
        case first =>
          refine wp_region_held_drew (S := fun w' => w'.rangeAt g (j * 5) (ccOf x) ∧ w'.rangeAt g' (j * 5) (ccOf y)) (by kernel_rfl) ⟨RA.out, RB.out⟩ (fun hH => ?_)
          refine wpAnyH_take (i := 0) (v := .slice a n1 c) rfl (by kernel_rfl) (by kernel_rfl) (by kernel_rfl) (fun _ _ _ h => h) (Or.inl ⟨by rfl, fun w' _ => by go_simp⟩) hH ?_
          refine wpAnyH_take (i := 1) (v := .int .i64 j) rfl (by kernel_rfl) (by kernel_rfl) (by kernel_rfl) (fun _ _ _ h => h) (Or.inl ⟨by rfl, fun w' _ => by go_simp⟩) hH ?_
          refine wpAnyH_take (i := 2) (v := .pointer (some ⟨g, j * 5, none⟩)) rfl (by kernel_rfl) (by kernel_rfl) (by kernel_rfl) (fun _ _ _ h => h) (Or.inl ⟨by rfl, fun w' _ => by have q := hix w'; go_simp⟩) hH ?_
          refine wpAnyH_take (i := 3) (v := .agg (ccOf x).toArray) rfl (by kernel_rfl) (by kernel_rfl) (by kernel_rfl) (fun _ _ _ h => h) (yieldsIf_load_mid (by rfl) 215 _ rfl g (j * 5) (by kernel_rfl) (ccOf x) _ (fun w' h => h.1) Try.underlying215 rfl zx) hH ?_
          refine wpAnyH_take (i := 4) (v := .slice b n1 d) rfl (by kernel_rfl) (by kernel_rfl) (by kernel_rfl) (fun _ _ _ h => h) (Or.inl ⟨by rfl, fun w' _ => by go_simp⟩) hH ?_
          refine wpAnyH_take (i := 5) (v := .int .i64 j) rfl (by kernel_rfl) (by kernel_rfl) (by kernel_rfl) (fun _ _ _ h => h) (Or.inl ⟨by rfl, fun w' _ => by go_simp⟩) hH ?_
          refine wpAnyH_take (i := 6) (v := .pointer (some ⟨g', j * 5, none⟩)) rfl (by kernel_rfl) (by kernel_rfl) (by kernel_rfl) (fun _ _ _ h => h) (Or.inl ⟨by rfl, fun w' _ => by have q := hiy w'; go_simp⟩) hH ?_
          refine wpAnyH_take (i := 7) (v := .agg (ccOf y).toArray) rfl (by kernel_rfl) (by kernel_rfl) (by kernel_rfl) (fun _ _ _ h => h) (yieldsIf_load_mid (by rfl) 215 _ rfl g' (j * 5) (by kernel_rfl) (ccOf y) _ (fun w' h => h.2) Try.underlying215 rfl zy) hH ?_
          have ca1 : Hid (Chg (fun _ => False) wr (wr.alloc (.cells (chC (.slice none 0 0) false (.slice none 0 0) false (.slice none 0 0)).toArray 215)).drew) := ((Chg.refl _ _).alloc _).drew
          have ca2 : Hid (Chg (fun _ => False) wr ((wr.alloc (.cells (chC (.slice none 0 0) false (.slice none 0 0) false (.slice none 0 0)).toArray 215)).alloc (.cells (chC (.slice none 0 0) false (.slice none 0 0) false (.slice none 0 0)).toArray 215)).drew) := (((Chg.refl _ _).alloc _).alloc _).drew
          have N0 : Hid (Blk ((wr.alloc (.cells (chC (.slice none 0 0) false (.slice none 0 0) false (.slice none 0 0)).toArray 215)).alloc (.cells (chC (.slice none 0 0) false (.slice none 0 0) false (.slice none 0 0)).toArray 215)).drew wr.heap.size (chC (.slice none 0 0) false (.slice none 0 0) false (.slice none 0 0)) 215) := ((Blk.made wr _ 215).alloc _).drew
          have N1 : Hid (Blk ((wr.alloc (.cells (chC (.slice none 0 0) false (.slice none 0 0) false (.slice none 0 0)).toArray 215)).alloc (.cells (chC (.slice none 0 0) false (.slice none 0 0) false (.slice none 0 0)).toArray 215)).drew (wr.heap.size + 1) (chC (.slice none 0 0) false (.slice none 0 0) false (.slice none 0 0)) 215) := by
            have h9 := (Blk.made (wr.alloc (.cells (chC (.slice none 0 0) false (.slice none 0 0) false (.slice none 0 0)).toArray 215)) (chC (.slice none 0 0) false (.slice none 0 0) false (.slice none 0 0)) 215).drew
            rwa [World.size_alloc] at h9
          have RAL : Hid (g < wr.heap.size) := World.block_lt_of_cell? _ _ (RA.out 1 _ (show (ccOf x)[1]? = some (.bool x.1.had) from rfl))
          have RBL : Hid (g' < wr.heap.size) := World.block_lt_of_cell? _ _ (RB.out 1 _ (show (ccOf y)[1]? = some (.bool y.1.had) from rfl))
          refine wpAnyH_ready (rs := [8, 9]) (by kernel_rfl) (by simp) ?_
          refine AllReadyH.cons rfl (fun KK hKK => ?_) (AllReadyH.cons rfl (fun KK hKK => ?_) AllReadyH.nil)
          · clear hix hiy
            go_simp
            refine hKK.out _ _ ⟨rangeAt_kept RA.out ca1.out (fun e => e), rangeAt_kept RB.out ca1.out (fun e => e)⟩ (fun hH => ?_)
            clear hKK KK
            refine wpAnyH_ready (rs := [9]) (by kernel_rfl) (by simp) ?_
            refine AllReadyH.cons rfl (fun KK hKK => ?_) AllReadyH.nil
            go_simp
            refine hKK.out _ _ ⟨rangeAt_kept RA.out ca2.out (fun e => e), rangeAt_kept RB.out ca2.out (fun e => e)⟩ (fun hH => ?_)
            clear hKK KK
            refine wpAnyH_ready (rs := [10]) (by kernel_rfl) (by simp) ?_
            refine AllReadyH.cons rfl (fun KK hKK => ?_) AllReadyH.nil
            refine step_storeP rfl 215 (.tmp 6) (.tmp 21) rfl (wr.heap.size) (ccOf x) (by kernel_rfl) (by kernel_rfl) (N0.out) rfl zx XO.out ?_
            intro wS b6 cS
            refine hKK.out _ _ ⟨rangeAt_kept (rangeAt_kept RA.out ca2.out (fun e => e)) cS (fun e => by have := RAL.out; omega), rangeAt_kept (rangeAt_kept RB.out ca2.out (fun e => e)) cS (fun e => by have := RBL.out; omega)⟩ (fun hH => ?_)
            clear hKK KK
            refine wpAnyH_ready (rs := [11]) (by kernel_rfl) (by simp) ?_
            refine AllReadyH.cons rfl (fun KK hKK => ?_) AllReadyH.nil
            refine step_storeP rfl 215 (.tmp 7) (.tmp 25) rfl (wr.heap.size + 1) (ccOf y) (by kernel_rfl) (by kernel_rfl) (N1.out.keep cS (by omega)) rfl zy YO.out ?_
            intro wE b7 cE
            refine hKK.out _ _ ⟨rangeAt_kept (rangeAt_kept (rangeAt_kept RA.out ca2.out (fun e => e)) cS (fun e => by have := RAL.out; omega)) cE (fun e => by have := RAL.out; omega), rangeAt_kept (rangeAt_kept (rangeAt_kept RB.out ca2.out (fun e => e)) cS (fun e => by have := RBL.out; omega)) cE (fun e => by have := RBL.out; omega)⟩ (fun hH => ?_)
            clear hKK KK hH
            refine wpAnyH_done (by kernel_rfl) ?_ _
            have DX : Hid (Blk wE (wr.heap.size) (ccOf x) 215) := b6.keep cE (by omega)
            have DY : Hid (Blk wE (wr.heap.size + 1) (ccOf y) 215) := b7
            have CE : Hid (Chg (fun _ => False) wr wE) := (ca2.out.trans cS (fun k e => .inr (by omega))).trans cE (fun k e => .inr (by omega))
            clear b6 b7 cS cE
            go_wp2_with fail
            go_meet
            case rel => exact ⟨_, _, rfl, rfl, rfl, DX.out, DY.out, CE.out⟩
          · clear hix hiy
            go_simp
            refine hKK.out _ _ ⟨rangeAt_kept RA.out ca1.out (fun e => e), rangeAt_kept RB.out ca1.out (fun e => e)⟩ (fun hH => ?_)
            clear hKK KK
            refine wpAnyH_ready (rs := [8]) (by kernel_rfl) (by simp) ?_
            refine AllReadyH.cons rfl (fun KK hKK => ?_) AllReadyH.nil
            go_simp
            refine hKK.out _ _ ⟨rangeAt_kept RA.out ca2.out (fun e => e), rangeAt_kept RB.out ca2.out (fun e => e)⟩ (fun hH => ?_)
            clear hKK KK
            refine wpAnyH_ready (rs := [10]) (by kernel_rfl) (by simp) ?_
            refine AllReadyH.cons rfl (fun KK hKK => ?_) AllReadyH.nil
            refine step_storeP rfl 215 (.tmp 6) (.tmp 21) rfl (wr.heap.size + 1) (ccOf x) (by kernel_rfl) (by kernel_rfl) (N1.out) rfl zx XO.out ?_
            intro wS b6 cS
            refine hKK.out _ _ ⟨rangeAt_kept (rangeAt_kept RA.out ca2.out (fun e => e)) cS (fun e => by have := RAL.out; omega), rangeAt_kept (rangeAt_kept RB.out ca2.out (fun e => e)) cS (fun e => by have := RBL.out; omega)⟩ (fun hH => ?_)
            clear hKK KK
            refine wpAnyH_ready (rs := [11]) (by kernel_rfl) (by simp) ?_
            refine AllReadyH.cons rfl (fun KK hKK => ?_) AllReadyH.nil
            refine step_storeP rfl 215 (.tmp 7) (.tmp 25) rfl (wr.heap.size) (ccOf y) (by kernel_rfl) (by kernel_rfl) (N0.out.keep cS (by omega)) rfl zy YO.out ?_
            intro wE b7 cE
            refine hKK.out _ _ ⟨rangeAt_kept (rangeAt_kept (rangeAt_kept RA.out ca2.out (fun e => e)) cS (fun e => by have := RAL.out; omega)) cE (fun e => by have := RAL.out; omega), rangeAt_kept (rangeAt_kept (rangeAt_kept RB.out ca2.out (fun e => e)) cS (fun e => by have := RBL.out; omega)) cE (fun e => by have := RBL.out; omega)⟩ (fun hH => ?_)
            clear hKK KK hH
            refine wpAnyH_done (by kernel_rfl) ?_ _
            have DX : Hid (Blk wE (wr.heap.size + 1) (ccOf x) 215) := b6.keep cE (by omega)
            have DY : Hid (Blk wE (wr.heap.size) (ccOf y) 215) := b7
            have CE : Hid (Chg (fun _ => False) wr wE) := (ca2.out.trans cS (fun k e => .inr (by omega))).trans cE (fun k e => .inr (by omega))
            clear b6 b7 cS cE
            go_wp2_with fail
            go_meet
            case rel => exact ⟨_, _, rfl, rfl, rfl, DX.out, DY.out, CE.out⟩
        case rest =>
          obtain ⟨g6, g7, rfl, rfl, rfl, hid⟩ := hcut
          have DX : Hid _ := hid.out.1
          have DY : Hid _ := hid.out.2.1
          have CE : Hid _ := hid.out.2.2
          clear hid
          have BLE : Hid (Below w.heap.size w wc) := BL.out.trans (CE.out.below BL.out.size (fun _ e => e.elim))
          have PX1 : Hid (Own wc x.2.1 x.1.kl) := OX1.out.kept CE.out (fun _ _ e => e)
          have PX2 : Hid (Own wc x.2.2.1 x.1.ol) := OX2.out.kept CE.out (fun _ _ e => e)
          have PX3 : Hid (Own wc x.2.2.2 x.1.nl) := OX3.out.kept CE.out (fun _ _ e => e)
          have PY1 : Hid (Own wc y.2.1 y.1.kl) := OY1.out.kept CE.out (fun _ _ e => e)
          have PY2 : Hid (Own wc y.2.2.1 y.1.ol) := OY2.out.kept CE.out (fun _ _ e => e)
          have PY3 : Hid (Own wc y.2.2.2 y.1.nl) := OY3.out.kept CE.out (fun _ _ e => e)
          have x1 : wc.cell? ⟨g6, 1, none⟩ = some (.bool x.1.had) := DX.out.cell 1
          have y1 : wc.cell? ⟨g7, 1, none⟩ = some (.bool y.1.had) := DY.out.cell 1
          have x3 : wc.cell? ⟨g6, 3, none⟩ = some (.bool x.1.has) := DX.out.cell 3
          have y3 : wc.cell? ⟨g7, 3, none⟩ = some (.bool y.1.has) := DY.out.cell 3
          clear zx zy XO YO RA RB OX1 OX2 OX3 OY1 OY2 OY3 CE hix hiy
          go_upto_region 7 with fail
          go_cut [15, 61] from 15 to 62 (fun s15 s61 wx => ∃ D : Bool, s15 = .int .i64 j ∧ s61 = .bool D ∧ Hid ((D = false ↔ x.1.dat = y.1.dat) ∧ Below w.heap.size w wx))
          case first =>
            by_cases q1 : x.1.had = y.1.had
            · have iq1 : (x.1.had != y.1.had) = false := by simp [q1]
              have Q1 : Hid _ := q1
              clear q1
              by_cases q2 : x.1.has = y.1.has
              · have iq2 : (x.1.has != y.1.has) = false := by simp [q2]
                have Q2 : Hid _ := q2
                clear q2
                have xx : wc.cell? ⟨g6, 0, none⟩ = some x.2.1 := DX.out.cell 0
                have yy : wc.cell? ⟨g7, 0, none⟩ = some y.2.1 := DY.out.cell 0
                go_wp2_with fail
                refine Calls.mono (same_any PX1.out.src PY1.out.src PX1.out.len_le PY1.out.len_le) ?_
                rintro e v1 ⟨rfl, kk, hw⟩
                have C1 : Hid (Chg (fun _ => False) wc v1) := by rw [hw]; exact drewN_chg _ _ _
                have E5 : Hid (Below w.heap.size w v1) := BLE.out.trans (C1.out.below BLE.out.size (fun _ e => e.elim))
                clear hw xx yy
                by_cases q3 : x.1.kl = y.1.kl
                · rw [decide_eq_true q3]
                  have Q3 : Hid _ := q3
                  clear q3
                  clear x1 y1 x3 y3
                  have xx : v1.cell? ⟨g6, 2, none⟩ = some x.2.2.1 := (DX.out.keep C1.out (fun e => e)).cell 2
                  have yy : v1.cell? ⟨g7, 2, none⟩ = some y.2.2.1 := (DY.out.keep C1.out (fun e => e)).cell 2
                  go_wp2_with fail
                  refine Calls.mono (same_any (PX2.out.kept C1.out (fun _ _ e => e)).src (PY2.out.kept C1.out (fun _ _ e => e)).src PX2.out.len_le PY2.out.len_le) ?_
                  rintro e v2 ⟨rfl, kk, hw⟩
                  have C2 : Hid (Chg (fun _ => False) wc v2) := by rw [hw]; exact C1.out.trans (drewN_chg _ _ (fun _ => False)) (fun _ e => e.elim)
                  have E6 : Hid (Below w.heap.size w v2) := BLE.out.trans (C2.out.below BLE.out.size (fun _ e => e.elim))
                  clear hw xx yy
                  by_cases q4 : x.1.ol = y.1.ol
                  · rw [decide_eq_true q4]
                    have Q4 : Hid _ := q4
                    clear q4
                    have xx : v2.cell? ⟨g6, 4, none⟩ = some x.2.2.2 := (DX.out.keep C2.out (fun e => e)).cell 4
                    have yy : v2.cell? ⟨g7, 4, none⟩ = some y.2.2.2 := (DY.out.keep C2.out (fun e => e)).cell 4
                    go_wp2_with fail
                    refine Calls.mono (same_any (PX3.out.kept C2.out (fun _ _ e => e)).src (PY3.out.kept C2.out (fun _ _ e => e)).src PX3.out.len_le PY3.out.len_le) ?_
                    rintro e v3 ⟨rfl, kk, hw⟩
                    have C3 : Hid (Chg (fun _ => False) wc v3) := by rw [hw]; exact C2.out.trans (drewN_chg _ _ (fun _ => False)) (fun _ e => e.elim)
                    have E7 : Hid (Below w.heap.size w v3) := BLE.out.trans (C3.out.below BLE.out.size (fun _ e => e.elim))
                    clear hw xx yy
                    by_cases q5 : x.1.nl = y.1.nl
                    · rw [decide_eq_true q5]
                      have Q5 : Hid _ := q5
                      clear q5
                      go_wp2_with fail
                      go_meet
                      case rel => exact ⟨false, rfl, rfl, ⟨(fun _ => by simp only [ChS.dat, Q1.out, Q2.out, Q3.out, Q4.out, Q5.out]), fun _ => rfl⟩, E7.out⟩
                    · rw [decide_eq_false q5]
                      go_wp2_with fail
                      go_meet
                      case rel => exact ⟨true, rfl, rfl, ⟨(fun h => by cases h), fun h => absurd (by simp only [ChS.dat, Prod.mk.injEq] at h; first | exact h.1 | exact h.2.1 | exact h.2.2.1 | exact h.2.2.2.1 | exact h.2.2.2.2) q5⟩, E7.out⟩
                  · rw [decide_eq_false q4]
                    go_wp2_with fail
                    go_meet
                    case rel => exact ⟨true, rfl, rfl, ⟨(fun h => by cases h), fun h => absurd (by simp only [ChS.dat, Prod.mk.injEq] at h; first | exact h.1 | exact h.2.1 | exact h.2.2.1 | exact h.2.2.2.1 | exact h.2.2.2.2) q4⟩, E6.out⟩
                · rw [decide_eq_false q3]
                  go_wp2_with fail
                  go_meet
                  case rel => exact ⟨true, rfl, rfl, ⟨(fun h => by cases h), fun h => absurd (by simp only [ChS.dat, Prod.mk.injEq] at h; first | exact h.1 | exact h.2.1 | exact h.2.2.1 | exact h.2.2.2.1 | exact h.2.2.2.2) q3⟩, E5.out⟩
              · have iq2 : (x.1.has != y.1.has) = true := by simpa using q2
                go_wp2_with fail
                go_meet
                case rel => exact ⟨true, rfl, rfl, ⟨(fun h => by cases h), fun h => absurd (by simp only [ChS.dat, Prod.mk.injEq] at h; first | exact h.1 | exact h.2.1 | exact h.2.2.1 | exact h.2.2.2.1 | exact h.2.2.2.2) q2⟩, BLE.out⟩
            · have iq1 : (x.1.had != y.1.had) = true := by simpa using q1
              go_wp2_with fail
              go_meet
              case rel => exact ⟨true, rfl, rfl, ⟨(fun h => by cases h), fun h => absurd (by simp only [ChS.dat, Prod.mk.injEq] at h; first | exact h.1 | exact h.2.1 | exact h.2.2.1 | exact h.2.2.2.1 | exact h.2.2.2.2) q1⟩, BLE.out⟩
          case rest =>
            obtain ⟨D, rfl, rfl, hid⟩ := hcut
            have HD : Hid _ := hid.out.1
            have B9 : Hid _ := hid.out.2
            clear hid
            by_cases hd : D = true
            · subst hd
              have NE : Hid (¬ L1.map (fun o => o.1.dat) = L2.map (fun o => o.1.dat)) := fun h => by
                have h9 := congrArg (fun l => l[j]?) h
                simp only [List.getElem?_map, List.getElem?_eq_getElem j1, List.getElem?_eq_getElem j2, Option.map_some, ← HXJ.out, ← HYJ.out] at h9
                injection h9 with h9
                have := HD.out.2 h9
                cases this
              go_wp2_with fail
              go_ret
              exact ⟨⟨false, rfl, ⟨(fun h => by cases h), fun h => absurd h NE.out⟩, B9.out⟩⟩
            · have hd2 : D = false := by cases D <;> simp_all
              subst hd2
              clear hd
              have FN : Hid ((L1.take (j + 1)).map (fun o => o.1.dat) = (L2.take (j + 1)).map (fun o => o.1.dat)) := by
                show _ = _
                rw [List.take_succ_eq_append_getElem j1, List.take_succ_eq_append_getElem j2, List.map_append, List.map_append, PF.out, ← HXJ.out, ← HYJ.out]
                simp only [List.map_cons, List.map_nil, HD.out.1 rfl]
              go_wp2_with fail
              go_roundw
              case rel => exact ⟨j + 1, by omega, by go_num, B9.out, FN.out⟩
              case measure => simp [intOf]; omega
      · have F : Hid (L1.map (fun o => o.1.dat) = L2.map (fun o => o.1.dat)) := by
          have hjn : j = n1 := by omega
          have q1 := E1.out
          have q2 := E2.out
          have h9 := PF.out
          rw [List.take_of_length_le (by omega), List.take_of_length_le (by omega)] at h9
          exact h9
        go_wp2_with fail
        go_ret
        exact ⟨⟨true, rfl, ⟨fun _ => F.out, fun _ => rfl⟩, BL.out⟩⟩
  · have F : Hid (¬ L1.map (fun o => o.1.dat) = L2.map (fun o => o.1.dat)) := by
      intro h9
      have q := congrArg List.length h9
      simp only [List.length_map] at q
      exact hne (by rw [E1.out, E2.out, q])
    have hni : ((n1 : Int) != (n2 : Int)) = true := by simp; omega
    clear h1 h2 e1 e2
    go_enter Try.func93, Try.ntmps93
    go_wp2_with fail
    go_ret
    exact ⟨⟨false, rfl, ⟨(fun h => by cases h), fun h => absurd h F.out⟩, HB0.out⟩⟩
end Go.Proofs.Ytdofgphokdgjiaa
