import Derived.Test.YtdofgphokdgjiaaMsD
import Derived.Test.YtdofgphokdgjiaaEq
import Derived.Test.YtdofgphokdgjiaaWhole
/-
  Sums, spans, proofs compared.
-/
namespace Go.Proofs.Ytdofgphokdgjiaa
open Go.RowKit

theorem bs_inj {x y : List Int} (h : bs x = bs y) : x = y := by
  have h2 := congrArg (List.map intOf) h
  simpa [bs, intOf, Function.comp_def] using h2
/-- Sums as cells. -/
def Sums (L : List (List Value)) : Prop := ∀ c, c ∈ L → ∃ z : List Int, z.length = 32 ∧ c = bs z
theorem sums_many (T : List Int) : ∀ (n a : Nat) (e : Int), Sums (manyE sumE T n a e).1
  | 0, _, _ => fun c h => by cases h
  | n + 1, a, e => by
    rw [manyE]
    split
    · intro c h
      rcases List.mem_cons.1 h with h | h
      · exact ⟨pad 32 (pL T a e 32), pad_len (pL_len T a e 32), h⟩
      · exact sums_many T n _ _ c h
    · intro c h; cases h
/-- What comparing answers. -/
structure BoQ (w w' : World) (P : Prop) (e : Ending) : Prop where
  ex : ∃ D : Bool, e = .returned (.bool D) ∧ (D = true ↔ P) ∧ Below w.heap.size w w'

set_option maxRecDepth 100000 in
set_option maxHeartbeats 8000000 in
theorem sameSums_any {w : World} {L1 L2 : List (List Value)} {a b : Option Addr} {n1 n2 c d : Nat} (h1 : GL w (.slice a n1 c) 31 32 L1) (h2 : GL w (.slice b n2 d) 31 32 L2) (s1 : Sums L1) (s2 : Sums L2) (e1 : n1 = L1.length) (e2 : n2 = L2.length) (b1 : n1 ≤ 8388608) (b2 : n2 ≤ 8388608) :
    Calls Try.prog 92 #[.slice a n1 c, .slice b n2 d] w fun e w' => BoQ w w' (L1 = L2) e := by
  have H1 : Hid _ := h1
  have H2 : Hid _ := h2
  have E1 : Hid _ := e1
  have E2 : Hid _ := e2
  have S1 : Hid _ := s1
  have S2 : Hid _ := s2
  have HB0 : Hid (Below w.heap.size w w) := Below.refl _ _
  by_cases hne : n1 = n2
  · subst hne
    clear h1 h2 e1 e2 b2 s1 s2
    go_enter Try.func92, Try.ntmps92
    go_wp2_with fail
    go_loopw [13] (fun i wr => ∃ j : Nat, j ≤ n1 ∧ i = .int .i64 j ∧ Hid (Below w.heap.size w wr ∧ L1.take j = L2.take j)) (fun i _ => n1 - (intOf i).toNat)
    case atStart => exact ⟨0, Nat.zero_le _, rfl, HB0.out, rfl⟩
    case round =>
      obtain ⟨j, hj, rfl, hid⟩ := hrel
      obtain ⟨bl, pf⟩ := hid.out
      have BL : Hid _ := bl
      have PF : Hid _ := pf
      clear hid bl pf
      by_cases hlt : j < n1
      · have j1 : j < L1.length := by have := E1.out; omega
        have j2 : j < L2.length := by have := E2.out; omega
        obtain ⟨g, c', ea, ra⟩ := H1.out.at j1
        obtain ⟨g', d', eb, rb⟩ := H2.out.at j2
        injection ea with ea q1 q2
        injection eb with eb q3 q4
        clear q1 q2 q3 q4
        have hix := ix_at Try.underlying92 Try.elem92 Try.so31 (c := c) ea hlt
        simp only [Nat.zero_add] at hix
        have hiy := ix_at Try.underlying92 Try.elem92 Try.so31 (c := d) eb hlt
        simp only [Nat.zero_add] at hiy
        obtain ⟨x, lx, hx⟩ := S1.out _ (List.getElem_mem j1)
        obtain ⟨y, ly, hy⟩ := S2.out _ (List.getElem_mem j2)
        rw [hx] at ra
        rw [hy] at rb
        have cR : Chg (fun _ => False) w wr := Chg.of_below BL.out (fun _ => False)
        have RA : Hid (wr.rangeAt g (j * 32) (bs x)) := rangeAt_kept ra cR (fun e => e)
        have RB : Hid (wr.rangeAt g' (j * 32) (bs y)) := rangeAt_kept rb cR (fun e => e)
        have BL9 : Hid (Below w.heap.size w wr.drew) := ⟨BL.out.os, BL.out.tape, BL.out.output, BL.out.size, BL.out.block⟩
        have HXJ : Hid _ := hx
        have HYJ : Hid _ := hy
        have NEb := neq31b x y lx ly
        clear ea eb ra rb hx hy cR
        by_cases q : x = y
        · have NE : ∀ w, (binOp .neq 31 (.agg (bs x).toArray) (.agg (bs y).toArray)).run Try.prog w = .ok (.bool false) w := fun w => by rw [NEb w, decide_eq_true q]; rfl
          have QQ : Hid _ := q
          clear q NEb
          go_upto_region 6 with fail
          refine wp_region_held_drew (S := fun w' => w'.rangeAt g (j * 32) (bs x) ∧ w'.rangeAt g' (j * 32) (bs y)) (by kernel_rfl) ⟨RA.out, RB.out⟩ (fun hH => ?_)
          refine wpAnyH_take (i := 0) (v := .slice a n1 c) rfl (by kernel_rfl) (by kernel_rfl) (by kernel_rfl) (fun _ _ _ h => h) (Or.inl ⟨by rfl, fun w' _ => by go_simp⟩) hH ?_
          refine wpAnyH_take (i := 1) (v := .int .i64 j) rfl (by kernel_rfl) (by kernel_rfl) (by kernel_rfl) (fun _ _ _ h => h) (Or.inl ⟨by rfl, fun w' _ => by go_simp⟩) hH ?_
          refine wpAnyH_take (i := 2) (v := .pointer (some ⟨g, j * 32, none⟩)) rfl (by kernel_rfl) (by kernel_rfl) (by kernel_rfl) (fun _ _ _ h => h) (Or.inl ⟨by rfl, fun w' _ => by have q := hix w'; go_simp⟩) hH ?_
          refine wpAnyH_take (i := 3) (v := .agg (bs x).toArray) rfl (by kernel_rfl) (by kernel_rfl) (by kernel_rfl) (fun _ _ _ h => h) (yieldsIf_load_mid (by rfl) 31 _ rfl g (j * 32) (by kernel_rfl) (bs x) _ (fun w' h => h.1) Try.underlying31 rfl (Try.sumSz' x lx)) hH ?_
          refine wpAnyH_take (i := 4) (v := .slice b n1 d) rfl (by kernel_rfl) (by kernel_rfl) (by kernel_rfl) (fun _ _ _ h => h) (Or.inl ⟨by rfl, fun w' _ => by go_simp⟩) hH ?_
          refine wpAnyH_take (i := 5) (v := .int .i64 j) rfl (by kernel_rfl) (by kernel_rfl) (by kernel_rfl) (fun _ _ _ h => h) (Or.inl ⟨by rfl, fun w' _ => by go_simp⟩) hH ?_
          refine wpAnyH_take (i := 6) (v := .pointer (some ⟨g', j * 32, none⟩)) rfl (by kernel_rfl) (by kernel_rfl) (by kernel_rfl) (fun _ _ _ h => h) (Or.inl ⟨by rfl, fun w' _ => by have q := hiy w'; go_simp⟩) hH ?_
          refine wpAnyH_take (i := 7) (v := .agg (bs y).toArray) rfl (by kernel_rfl) (by kernel_rfl) (by kernel_rfl) (fun _ _ _ h => h) (yieldsIf_load_mid (by rfl) 31 _ rfl g' (j * 32) (by kernel_rfl) (bs y) _ (fun w' h => h.2) Try.underlying31 rfl (Try.sumSz' y ly)) hH ?_
          refine wpAnyH_ready (rs := [8]) (by kernel_rfl) (by simp) ?_
          refine AllReadyH.cons rfl (fun K hK => ?_) AllReadyH.nil
          clear hix hiy
          go_simp
          refine hK.out _ _ ⟨RA.out, RB.out⟩ (fun _ => ?_)
          clear hK K hH
          refine wpAnyH_done (by kernel_rfl) ?_ _
          clear NE
          have FN : Hid (L1.take (j + 1) = L2.take (j + 1)) := by
            show _ = _
            rw [List.take_succ_eq_append_getElem j1, List.take_succ_eq_append_getElem j2, PF.out, HXJ.out, HYJ.out, QQ.out]
          go_wp2_with fail
          go_roundw
          case rel => exact ⟨j + 1, by omega, by go_num, BL9.out, FN.out⟩
          case measure => simp [intOf]; omega
        · have NE : ∀ w, (binOp .neq 31 (.agg (bs x).toArray) (.agg (bs y).toArray)).run Try.prog w = .ok (.bool true) w := fun w => by rw [NEb w, decide_eq_false q]; rfl
          have QQ : Hid _ := q
          clear q NEb
          go_upto_region 6 with fail
          refine wp_region_held_drew (S := fun w' => w'.rangeAt g (j * 32) (bs x) ∧ w'.rangeAt g' (j * 32) (bs y)) (by kernel_rfl) ⟨RA.out, RB.out⟩ (fun hH => ?_)
          refine wpAnyH_take (i := 0) (v := .slice a n1 c) rfl (by kernel_rfl) (by kernel_rfl) (by kernel_rfl) (fun _ _ _ h => h) (Or.inl ⟨by rfl, fun w' _ => by go_simp⟩) hH ?_
          refine wpAnyH_take (i := 1) (v := .int .i64 j) rfl (by kernel_rfl) (by kernel_rfl) (by kernel_rfl) (fun _ _ _ h => h) (Or.inl ⟨by rfl, fun w' _ => by go_simp⟩) hH ?_
          refine wpAnyH_take (i := 2) (v := .pointer (some ⟨g, j * 32, none⟩)) rfl (by kernel_rfl) (by kernel_rfl) (by kernel_rfl) (fun _ _ _ h => h) (Or.inl ⟨by rfl, fun w' _ => by have q := hix w'; go_simp⟩) hH ?_
          refine wpAnyH_take (i := 3) (v := .agg (bs x).toArray) rfl (by kernel_rfl) (by kernel_rfl) (by kernel_rfl) (fun _ _ _ h => h) (yieldsIf_load_mid (by rfl) 31 _ rfl g (j * 32) (by kernel_rfl) (bs x) _ (fun w' h => h.1) Try.underlying31 rfl (Try.sumSz' x lx)) hH ?_
          refine wpAnyH_take (i := 4) (v := .slice b n1 d) rfl (by kernel_rfl) (by kernel_rfl) (by kernel_rfl) (fun _ _ _ h => h) (Or.inl ⟨by rfl, fun w' _ => by go_simp⟩) hH ?_
          refine wpAnyH_take (i := 5) (v := .int .i64 j) rfl (by kernel_rfl) (by kernel_rfl) (by kernel_rfl) (fun _ _ _ h => h) (Or.inl ⟨by rfl, fun w' _ => by go_simp⟩) hH ?_
          refine wpAnyH_take (i := 6) (v := .pointer (some ⟨g', j * 32, none⟩)) rfl (by kernel_rfl) (by kernel_rfl) (by kernel_rfl) (fun _ _ _ h => h) (Or.inl ⟨by rfl, fun w' _ => by have q := hiy w'; go_simp⟩) hH ?_
          refine wpAnyH_take (i := 7) (v := .agg (bs y).toArray) rfl (by kernel_rfl) (by kernel_rfl) (by kernel_rfl) (fun _ _ _ h => h) (yieldsIf_load_mid (by rfl) 31 _ rfl g' (j * 32) (by kernel_rfl) (bs y) _ (fun w' h => h.2) Try.underlying31 rfl (Try.sumSz' y ly)) hH ?_
          refine wpAnyH_ready (rs := [8]) (by kernel_rfl) (by simp) ?_
          refine AllReadyH.cons rfl (fun K hK => ?_) AllReadyH.nil
          clear hix hiy
          go_simp
          refine hK.out _ _ ⟨RA.out, RB.out⟩ (fun _ => ?_)
          clear hK K hH
          refine wpAnyH_done (by kernel_rfl) ?_ _
          clear NE
          have NE : Hid (¬ L1 = L2) := fun h => by
            have h9 := congrArg (fun l => l[j]?) h
            simp only [List.getElem?_eq_getElem j1, List.getElem?_eq_getElem j2, HXJ.out, HYJ.out] at h9
            injection h9 with h9
            exact QQ.out (bs_inj h9)
          go_wp2_with fail
          go_ret
          exact ⟨⟨false, rfl, ⟨(fun h => by cases h), fun h => absurd h NE.out⟩, BL9.out⟩⟩
      · have F : Hid (L1 = L2) := by
          have hjn : j = n1 := by omega
          have q1 := E1.out
          have q2 := E2.out
          have h9 := PF.out
          rw [List.take_of_length_le (by omega), List.take_of_length_le (by omega)] at h9
          exact h9
        go_wp2_with fail
        go_ret
        exact ⟨⟨true, rfl, ⟨fun _ => F.out, fun _ => rfl⟩, BL.out⟩⟩
  · have F : Hid (¬ L1 = L2) := by
      intro h9
      have q := congrArg List.length h9
      exact hne (by rw [E1.out, E2.out, q])
    have hni : ((n1 : Int) != (n2 : Int)) = true := by simp; omega
    clear h1 h2 e1 e2 s1 s2
    go_enter Try.func92, Try.ntmps92
    go_wp2_with fail
    go_ret
    exact ⟨⟨false, rfl, ⟨(fun h => by cases h), fun h => absurd h F.out⟩, HB0.out⟩⟩

set_option maxRecDepth 100000 in
set_option maxHeartbeats 8000000 in
theorem sameSpan_any {w : World} {lo1 hi1 lo2 hi2 : Value} {op1 op2 : Bool} {x1 y1 x2 y2 : List Int} (h1 : Own w lo1 x1) (h2 : Own w hi1 y1) (h3 : Own w lo2 x2) (h4 : Own w hi2 y2) :
    Calls Try.prog 91 #[.agg (spC lo1 hi1 op1).toArray, .agg (spC lo2 hi2 op2).toArray] w fun e w' => BoQ w w' (op1 = op2 ∧ x1 = x2 ∧ y1 = y2) e := by
  obtain ⟨W, hW⟩ : ∃ W, W = (w.alloc (.cells (spC lo1 hi1 op1).toArray 89)).alloc (.cells (spC lo2 hi2 op2).toArray 89) := ⟨_, rfl⟩
  have cW : Chg (fun _ => False) w W := by rw [hW]; exact ((Chg.refl _ _).alloc _).alloc _
  have BX : Hid (Blk W w.heap.size (spC lo1 hi1 op1) 89) := by rw [hW]; exact (Blk.made w _ 89).alloc _
  have BY : Hid (Blk W (w.heap.size + 1) (spC lo2 hi2 op2) 89) := by
    rw [hW]
    have h9 := Blk.made (w.alloc (.cells (spC lo1 hi1 op1).toArray 89)) (spC lo2 hi2 op2) 89
    rwa [World.size_alloc] at h9
  have F0 : Hid (Below w.heap.size w W) := cW.below (Nat.le_refl _) (fun _ e => e.elim)
  have PX1 : Hid (Own W lo1 x1) := h1.kept cW (fun _ _ e => e)
  have PX2 : Hid (Own W hi1 y1) := h2.kept cW (fun _ _ e => e)
  have PY1 : Hid (Own W lo2 x2) := h3.kept cW (fun _ _ e => e)
  have PY2 : Hid (Own W hi2 y2) := h4.kept cW (fun _ _ e => e)
  have HW : Hid _ := hW
  clear h1 h2 h3 h4 cW hW
  have xo : W.cell? ⟨w.heap.size, 2, none⟩ = some (.bool op1) := BX.out.cell 2
  have yo : W.cell? ⟨w.heap.size + 1, 2, none⟩ = some (.bool op2) := BY.out.cell 2
  by_cases q1 : op1 = op2
  · have i1 : (op1 == op2) = true := by simp [q1]
    have Q1 : Hid _ := q1
    clear q1
    have xx : W.cell? ⟨w.heap.size, 0, none⟩ = some lo1 := BX.out.cell 0
    have yy : W.cell? ⟨w.heap.size + 1, 0, none⟩ = some lo2 := BY.out.cell 0
    go_enter Try.func91, Try.ntmps91
    go_upto_region 1 with fail
    rw [← HW.out]
    go_wp2_with fail
    refine Calls.mono (same_any PX1.out.src PY1.out.src PX1.out.len_le PY1.out.len_le) ?_
    rintro e v1 ⟨rfl, kk, hw⟩
    have C1 : Hid (Chg (fun _ => False) W v1) := by rw [hw]; exact drewN_chg _ _ _
    have F1 : Hid (Below w.heap.size w v1) := F0.out.trans (C1.out.below F0.out.size (fun _ e => e.elim))
    clear hw xx yy xo yo i1
    by_cases q2 : x1 = x2
    · rw [decide_eq_true q2]
      have Q2 : Hid _ := q2
      clear q2
      have xx : v1.cell? ⟨w.heap.size, 1, none⟩ = some hi1 := (BX.out.keep C1.out (fun e => e)).cell 1
      have yy : v1.cell? ⟨w.heap.size + 1, 1, none⟩ = some hi2 := (BY.out.keep C1.out (fun e => e)).cell 1
      go_wp2_with fail
      refine Calls.mono (same_any (PX2.out.kept C1.out (fun _ _ e => e)).src (PY2.out.kept C1.out (fun _ _ e => e)).src PX2.out.len_le PY2.out.len_le) ?_
      rintro e v2 ⟨rfl, kk, hw⟩
      have C2 : Hid (Chg (fun _ => False) v1 v2) := by rw [hw]; exact drewN_chg _ _ _
      have F2 : Hid (Below w.heap.size w v2) := F1.out.trans (C2.out.below F1.out.size (fun _ e => e.elim))
      clear hw xx yy
      go_wp2_with fail
      go_ret
      exact ⟨⟨decide (y1 = y2), rfl, ⟨fun h => ⟨Q1.out, Q2.out, of_decide_eq_true h⟩, fun h => decide_eq_true h.2.2⟩, F2.out⟩⟩
    · rw [decide_eq_false q2]
      go_wp2_with fail
      go_ret
      exact ⟨⟨false, rfl, ⟨(fun h => by cases h), fun h => absurd h.2.1 q2⟩, F1.out⟩⟩
  · have i1 : (op1 == op2) = false := by simpa using q1
    go_enter Try.func91, Try.ntmps91
    go_upto_region 1 with fail
    rw [← HW.out]
    go_wp2_with fail
    go_ret
    exact ⟨⟨false, rfl, ⟨(fun h => by cases h), fun h => absurd h.1 q1⟩, F0.out⟩⟩

theorem OM.dat {L : List (OpS × Value × Value)} {l : List OpS} (h : L.map Prod.fst = l) : L.map (fun o => o.1.dat) = l.map OpS.dat := by rw [← h, List.map_map]; rfl
set_option maxRecDepth 100000 in
set_option maxHeartbeats 8000000 in
theorem sameProof_any {w : World} {B1 B2 : Nat} {S1 S2 : PrS} {C1 C2 : List Value} (h1 : PrIs w B1 S1 C1) (h2 : PrIs w B2 S2 C2) (l1 : S1.ops.length ≤ 4194304) (l2 : S2.ops.length ≤ 4194304) :
    Calls Try.prog 36 #[.agg C1.toArray, .agg C2.toArray] w fun e w' => BoQ w w' (S1.ct = S2.ct ∧ S1.ops.map OpS.dat = S2.ops.map OpS.dat) e := by
  obtain ⟨v1, L1, rfl, m1, d1⟩ := h1.ex
  obtain ⟨v2, L2, rfl, m2, d2⟩ := h2.ex
  obtain ⟨a1, c1, f1⟩ := m1.form
  obtain ⟨a2, c2, f2⟩ := m2.form
  have k1 : L1.length = S1.ops.length := by rw [← d1, List.length_map]
  have k2 : L2.length = S2.ops.length := by rw [← d2, List.length_map]
  obtain ⟨n1, hn1⟩ : ∃ n, n = L1.length := ⟨_, rfl⟩
  obtain ⟨n2, hn2⟩ : ∃ n, n = L2.length := ⟨_, rfl⟩
  rw [← hn1] at f1 k1
  rw [← hn2] at f2 k2
  subst f1 f2
  have K1 : Hid (n1 ≤ 4194304) := by show _ ≤ _; omega
  have K2 : Hid (n2 ≤ 4194304) := by show _ ≤ _; omega
  clear k1 k2 l1 l2
  obtain ⟨W, hW⟩ : ∃ W, W = (w.alloc (.cells (prC S1.ct (.slice a1 n1 c1)).toArray 98)).alloc (.cells (prC S2.ct (.slice a2 n2 c2)).toArray 98) := ⟨_, rfl⟩
  have cW : Chg (fun _ => False) w W := by rw [hW]; exact ((Chg.refl _ _).alloc _).alloc _
  have BX : Hid (Blk W w.heap.size (prC S1.ct (.slice a1 n1 c1)) 98) := by rw [hW]; exact (Blk.made w _ 98).alloc _
  have BY : Hid (Blk W (w.heap.size + 1) (prC S2.ct (.slice a2 n2 c2)) 98) := by
    rw [hW]
    have h9 := Blk.made (w.alloc (.cells (prC S1.ct (.slice a1 n1 c1)).toArray 98)) (prC S2.ct (.slice a2 n2 c2)) 98
    rwa [World.size_alloc] at h9
  have F0 : Hid (Below w.heap.size w W) := cW.below (Nat.le_refl _) (fun _ e => e.elim)
  have M1 : Hid _ := m1.fresh cW
  have M2 : Hid _ := m2.fresh cW
  have HW : Hid _ := hW
  have D1 : Hid _ := OM.dat d1
  have D2 : Hid _ := OM.dat d2
  have HN1 : Hid _ := hn1
  have HN2 : Hid _ := hn2
  clear h1 h2 cW hW m1 m2 d1 d2 hn1 hn2
  have xo : W.cell? ⟨w.heap.size, 0, none⟩ = some (.int .u64 S1.ct) := BX.out.cell 0
  have yo : W.cell? ⟨w.heap.size + 1, 0, none⟩ = some (.int .u64 S2.ct) := BY.out.cell 0
  have xx : W.cell? ⟨w.heap.size, 1, none⟩ = some (.slice a1 n1 c1) := BX.out.cell 1
  have yy : W.cell? ⟨w.heap.size + 1, 1, none⟩ = some (.slice a2 n2 c2) := BY.out.cell 1
  by_cases q1 : S1.ct = S2.ct
  · have i1 : ((S1.ct : Int) == (S2.ct : Int)) = true := by simp [q1]
    have Q1 : Hid _ := q1
    clear q1
    go_enter Try.func36, Try.ntmps36
    go_upto_region 1 with fail
    rw [← HW.out]
    go_wp2_with fail
    refine Calls.mono (sameOps_any M1.out M2.out HN1.out HN2.out K1.out K2.out) ?_
    intro e v1 hq
    obtain ⟨D, rfl, hd, bl⟩ := hq.ex
    have F1 : Hid (Below w.heap.size w v1) := F0.out.trans (bl.mono F0.out.size)
    rw [D1.out, D2.out] at hd
    have HD : Hid _ := hd
    clear hq hd bl xx yy xo yo i1
    go_wp2_with fail
    go_ret
    exact ⟨⟨D, rfl, ⟨fun h => ⟨Q1.out, HD.out.1 h⟩, fun h => HD.out.2 h.2⟩, F1.out⟩⟩
  · have i1 : ((S1.ct : Int) == (S2.ct : Int)) = false := by simp; omega
    go_enter Try.func36, Try.ntmps36
    go_upto_region 1 with fail
    rw [← HW.out]
    go_wp2_with fail
    go_ret
    exact ⟨⟨false, rfl, ⟨(fun h => by cases h), fun h => absurd h.1 q1⟩, F0.out⟩⟩
end Go.Proofs.Ytdofgphokdgjiaa

/-
  Leaves and forks, compared with themselves.
-/
namespace Go.Proofs.Ytdofgphokdgjiaa
open Go.RowKit

theorem two_fields {T : TypeId} {a b : String × TypeId × Nat} (h : (Try.prog.fieldsOf T).toList.map (fun f => (f.name, f.type, f.offset)) = [a, b]) :
    ∃ f1 f2, (Try.prog.fieldsOf T).toList = [f1, f2] ∧ (f1.name = a.1 ∧ f1.type = a.2.1 ∧ f1.offset = a.2.2) ∧ f2.name = b.1 ∧ f2.type = b.2.1 ∧ f2.offset = b.2.2 := by
  match e : (Try.prog.fieldsOf T).toList, h with
  | [f1, f2], h =>
    simp only [List.map_cons, List.map_nil, List.cons.injEq, and_true] at h
    obtain ⟨rfl, rfl⟩ := h
    exact ⟨f1, f2, rfl, ⟨rfl, rfl, rfl⟩, rfl, rfl, rfl⟩

/-- A struct of two fields, compared with itself. -/
theorem eq_two (d : Nat) (T : TypeId) (xs : Array Value) (w : World) {n1 n2 : String} {t1 t2 : TypeId} {o1 o2 : Nat} {x y : Value}
    (hf : (Try.prog.fieldsOf T).toList.map (fun f => (f.name, f.type, f.offset)) = [(n1, t1, o1), (n2, t2, o2)]) (h1 : n1 ≠ "_") (h2 : n2 ≠ "_")
    (p1 : (part t1 xs o1).run Try.prog w = .ok x w) (q1 : (Op.equalIn d t1 x x).run Try.prog w = .ok true w) (p2 : (part t2 xs o2).run Try.prog w = .ok y w) (q2 : (Op.equalIn d t2 y y).run Try.prog w = .ok true w)
    (hc : (Op.equalIn (d + 1) T (.agg xs) (.agg xs)).run Try.prog w = (Op.eqFields d xs xs (Try.prog.fieldsOf T).toList).run Try.prog w) :
    (Op.equalIn (d + 1) T (.agg xs) (.agg xs)).run Try.prog w = .ok true w := by
  obtain ⟨f1, f2, e, ⟨a1, a2, a3⟩, b1, b2, b3⟩ := two_fields hf
  simp only at a1 a2 a3 b1 b2 b3
  rw [hc, e]
  rw [eqF_cons d _ f1 _ w _ (by rw [a1]; exact h1) (by rw [a2, a3]; exact p1) (by rw [a2]; exact q1), eqF_cons d _ f2 _ w _ (by rw [b1]; exact h2) (by rw [b2, b3]; exact p2) (by rw [b2]; exact q2)]
  exact eqF_nil _ _ w

theorem Try.struct73 : Try.prog.underlying 73 = some (.struct (Try.prog.fieldsOf 73)) := by kernel_rfl
theorem Try.fields73 : (Try.prog.fieldsOf 73).toList.map (fun f => (f.name, f.type, f.offset)) = [("Addr", 33, 0), ("Label", 31, 33)] := by kernel_rfl
theorem Try.struct75 : Try.prog.underlying 75 = some (.struct (Try.prog.fieldsOf 75)) := by kernel_rfl
theorem Try.fields75 : (Try.prog.fieldsOf 75).toList.map (fun f => (f.name, f.type, f.offset)) = [("Left", 73, 0), ("Right", 73, 65)] := by kernel_rfl
theorem Try.struct71 : Try.prog.underlying 71 = some (.struct (Try.prog.fieldsOf 71)) := by kernel_rfl
theorem Try.fields71 : (Try.prog.fieldsOf 71).toList.map (fun f => (f.name, f.type, f.offset)) = [("Version", 29, 0), ("Label", 31, 1)] := by kernel_rfl

theorem part_row {T : TypeId} {D : TypeDesc} (n : Nat) (hu : Try.prog.underlying T = some D) (hd : D.isRow = true) (hz : ∀ w, (sizeOf T).run Try.prog w = .ok n w) (xs : List Value) (o : Nat) (w : World) :
    (part T xs.toArray o).run Try.prog w = .ok (.agg ((xs.drop o).take n).toArray) w := by
  cases D <;> simp [TypeDesc.isRow] at hd <;> simp [part, isAgg, run_underlying hu, hz, List.extract_eq_take_drop]

theorem eq73 (d : Nat) (z : List Int) (hz : z.length = 65) (w : World) : (Op.equalIn (d + 4) 73 (.agg (bs z).toArray) (.agg (bs z).toArray)).run Try.prog w = .ok true w := by
  have e1 : ((bs z).drop 0).take 33 = bs (z.take 33) := by simp [bs, List.map_take]
  have e2 : ((bs z).drop 33).take 32 = bs ((z.drop 33).take 32) := by simp [bs, List.map_take, List.map_drop]
  refine eq_two (d + 3) 73 _ w Try.fields73 (by decide) (by decide) (part_row 33 Try.underlying33 rfl (fun _ => by kernel_rfl) _ _ _) ?_ (part_row 32 Try.underlying31 rfl (fun _ => by kernel_rfl) _ _ _) ?_ (run_equalIn_struct w (d + 3) 73 _ _ Try.struct73 (by kernel_rfl))
  · rw [e1]; exact eq33 d _ (by simp; omega) w
  · rw [e2]; exact eq31 (d + 1) _ (by simp; omega) w
theorem eq75 (d : Nat) (z : List Int) (hz : z.length = 130) (w : World) : (Op.equalIn (d + 5) 75 (.agg (bs z).toArray) (.agg (bs z).toArray)).run Try.prog w = .ok true w := by
  have e1 : ((bs z).drop 0).take 65 = bs (z.take 65) := by simp [bs, List.map_take]
  have e2 : ((bs z).drop 65).take 65 = bs ((z.drop 65).take 65) := by simp [bs, List.map_take, List.map_drop]
  refine eq_two (d + 4) 75 _ w Try.fields75 (by decide) (by decide) (part_row 65 Try.underlying73 rfl (fun _ => by kernel_rfl) _ _ _) ?_ (part_row 65 Try.underlying73 rfl (fun _ => by kernel_rfl) _ _ _) ?_ (run_equalIn_struct w (d + 4) 75 _ _ Try.struct75 (by kernel_rfl))
  · rw [e1]; exact eq73 d _ (by simp; omega) w
  · rw [e2]; exact eq73 d _ (by simp; omega) w
theorem eq71 (d : Nat) (n : Nat) (z : List Int) (hz : z.length = 32) (w : World) : (Op.equalIn (d + 3) 71 (.agg (leafC n z).toArray) (.agg (leafC n z).toArray)).run Try.prog w = .ok true w := by
  have e2 : ((leafC n z).drop 1).take 32 = bs z := by
    have := leafC_back n z
    rwa [bs_len, hz] at this
  refine eq_two (d + 2) 71 _ w Try.fields71 (by decide) (by decide) (x := .int .u64 n) ?_ ?_ (part_row 32 Try.underlying31 rfl (fun _ => by kernel_rfl) _ _ _) ?_ (run_equalIn_struct w (d + 2) 71 _ _ Try.struct71 (by kernel_rfl))
  · simp [part, isAgg, run_underlying Try.underlying29, leafC]
  · rw [run_equalIn_int w (d + 1) 29 .u64 .u64 _ _ Try.underlying29]; simp
  · rw [e2]; exact eq31 d _ hz w

theorem leafA_form (T : List Int) : ∃ n z, leafA T = leafC n z ∧ z.length = 32 := by
  unfold leafA orNone
  split
  · exact ⟨_, _, rfl, leafS_len _ _ _⟩
  · exact ⟨0, _, rfl, by simp⟩
theorem forkA_form (T : List Int) : ∃ z, forkA T = bs z ∧ z.length = 130 := by
  unfold forkA orNone
  split
  · exact ⟨_, rfl, forkS_len _ _ _⟩
  · exact ⟨_, rfl, by simp⟩
theorem eqLeafA (T : List Int) (w : World) : (Op.equalIn 10000 71 (.agg (leafA T).toArray) (.agg (leafA T).toArray)).run Try.prog w = .ok true w := by
  obtain ⟨n, z, e, hz⟩ := leafA_form T
  rw [e]; exact eq71 9997 n z hz w
theorem eqForkA (T : List Int) (w : World) : (Op.equalIn 10000 75 (.agg (forkA T).toArray) (.agg (forkA T).toArray)).run Try.prog w = .ok true w := by
  obtain ⟨z, e, hz⟩ := forkA_form T
  rw [e]; exact eq75 9995 z hz w
end Go.Proofs.Ytdofgphokdgjiaa
