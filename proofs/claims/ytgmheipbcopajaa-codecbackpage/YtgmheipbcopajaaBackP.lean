/-
  CodecBackPage, walked.
-/
import Derived.Test.YtgmheipbcopajaaPgC
import Derived.Test.YtgmheipbcopajaaPgF
import Derived.Test.YtgmheipbcopajaaPgQ
namespace Go.Proofs.Ytgmheipbcopajaa
open Go.RowKit

theorem BytsApp {l m : List Int} (h : Byts l) (k : Byts m) : Byts (l ++ m) := fun y hy => by
  rcases List.mem_append.1 hy with e | e
  · exact h y e
  · exact k y e
theorem numBByts : ∀ (f n : Nat), n ≤ f → Byts (numB n) := by
  have one : ∀ x : Int, 0 ≤ x ∧ x ≤ 255 → Byts [x] := fun x h y hy => by
    have e : y = x := by simpa using hy
    rw [e]; exact h
  intro f
  induction f with
  | zero =>
    intro n hn
    rw [numB, if_pos (by omega)]
    exact one _ (by omega)
  | succ f ih =>
    intro n hn
    rw [numB]
    split
    · exact one _ (by omega)
    · intro y hy
      rcases List.mem_cons.1 hy with e | e
      · rw [e]; omega
      · exact ih (n / 128) (by omega) y e
/-- All that a page bears are bytes. -/
structure PgByt (P : Pg) : Prop where
  v : ∀ i, i < P.vn → Byts (P.vs i).x ∧ Byts (P.vs i).y
  p : ∀ i, i < P.pn → Byts (P.ps i).x ∧ Byts (P.ps i).y
theorem recsB_byts {f : Nat → List Int} : ∀ n, (∀ i, i < n → Byts (f i)) → Byts (recsB f n)
  | 0, _ => fun y hy => by cases hy
  | n + 1, h => BytsApp (recsB_byts n (fun i hi => h i (by omega))) (h n (by omega))
theorem nb_ (n : Nat) : Byts (numB n) := numBByts _ _ (Nat.le_refl _)
theorem Pg.byts {P : Pg} (h : PgByt P) : Byts P.bytes := by
  unfold Pg.bytes
  exact BytsApp (BytsApp (BytsApp (BytsApp (BytsApp (BytsApp (BytsApp (BytsApp (BytsApp (nb_ _) (nb_ _)) (nb_ _)) (nb_ _)) (recsB_byts _ (fun i _ => BytsApp (nb_ _) (nb_ _)))) (nb_ _)) (recsB_byts _ (fun i hi => BytsApp (BytsApp (BytsApp (nb_ _) (h.v i hi).1) (nb_ _)) (h.v i hi).2))) (nb_ _)) (nb_ _)) (recsB_byts _ (fun i hi => BytsApp (nb_ _) (BytsApp (h.p i hi).1 (h.p i hi).2)))
theorem Pg.len {w : World} {Av : Nat → Prop} {P : Pg} (hP : PgIn w Av P) (hF : PgFit P) : 0 < P.bytes.length ∧ P.bytes.length ≤ 2000000 := by
  have t1 := numB_ten hP.la
  have t2 := numB_ten (n := P.wi.toNat) (by have := hF.wi; omega)
  have t3 := numB_ten hP.se
  have t4 := numB_ten (n := P.mn) (by have := hF.mn; omega)
  have t5 := numB_ten (n := P.vn) (by have := hF.vn; omega)
  have t6 := numB_ten hP.sz
  have t7 := numB_ten (n := P.pn) (by have := hF.pn; omega)
  have k1 : (recsB P.mB P.mn).length ≤ P.mn * 20 := recsB_len _ (fun i hi => by have q1 := (hP.em i hi).1; have q2 := hF.em i hi; have e1 := numB_ten q1; have e2 := numB_ten (n := (P.ms i).us.toNat) (by omega); simp only [Pg.mB, Mk.bytes, List.length_append]; omega)
  have k2 : (recsB P.vB P.vn).length ≤ P.vn * 85 := recsB_len _ (fun i hi => by have q1 := hP.vk i hi; have e1 := numB_ten q1.1; have e2 := numB_ten q1.2.2.1; have e3 := q1.2.1; have e4 := q1.2.2.2; simp only [Pg.vB, Vs.bytes, List.length_append]; omega)
  have k3 : (recsB P.pB P.pn).length ≤ P.pn * 75 := recsB_len _ (fun i hi => by have q1 := hP.pk i hi; have e1 := numB_ten q1.1; have e3 := q1.2.1; have e4 := q1.2.2; simp only [Pg.pB, Pk.bytes, List.length_append]; omega)
  have a1 := hF.mn
  have a2 := hF.vn
  have a3 := hF.pn
  have p1 := numB_pos P.la
  simp only [Pg.bytes, List.length_append]
  omega
theorem GL.rows {w : World} {v : Value} {ty sz n : Nat} {f : Nat → List Value} (h : GL w v ty sz ((List.range n).map f)) : ∃ A c, v = .slice A n c ∧ RowsIn w (fun _ => True) A n sz f := by
  obtain ⟨A, c, e⟩ := h.form
  have hl : ((List.range n).map f).length = n := by simp
  refine ⟨A, c, by rw [e, hl], fun i hi => ?_⟩
  obtain ⟨g, c', e2, r⟩ := h.at (j := i) (by rw [hl]; exact hi)
  rw [e] at e2
  injection e2 with e2 _ _
  refine ⟨g, 0, e2, True.intro, ?_⟩
  rw [Nat.zero_add]
  have e3 : ((List.range n).map f)[i]'(by rw [hl]; exact hi) = f i := by simp
  rw [e3] at r
  exact r
theorem Own.cutP {w : World} {g c : Nat} {l : List Int} (h : Own w (.slice (some ⟨g, 0, none⟩) l.length c) l) (hb : Byts l) (hl : l.length ≤ 140737488355328) (hc : l.length ≤ c ∧ c ≤ 9223372036854775807) (hp : 0 < l.length) {m : Nat} (hm : m ≤ l.length) : In w (.slice (some ⟨g, 0, none⟩) m c) (l.take m) := by
  have hlm : (l.take m).length = m := by rw [List.length_take]; omega
  have h2 : Own w (.slice (some ⟨g, 0, none⟩) l.length c) (l.take m ++ l.drop m) := by rw [List.take_append_drop]; exact h
  have s := Own.front h2 c (by rw [List.take_append_drop]; exact hp)
  rw [hlm] at s
  exact ⟨s, hb.take m, by omega, ⟨_, c, by rw [hlm], by omega, by omega⟩, fun k hk => h.lt hk⟩

set_option maxRecDepth 100000 in
set_option maxHeartbeats 16000000 in
theorem backPage_any {w : World} {P : Pg} (hP : PgIn w (fun g => g < w.heap.size) P) (hPb : PgByt P) (cut : Int) (hcu : -9223372036854775808 ≤ cut ∧ cut ≤ 9223372036854775807) :
    Calls Try.prog 4 #[.agg P.cells.toArray, .int .i64 cut] w fun e w' => e = .returned (.bool true) ∧ Below w.heap.size w w' := by
  obtain ⟨X, hX⟩ : ∃ X, X = w.heap.size := ⟨_, rfl⟩
  obtain ⟨W, hW⟩ : ∃ W, W = w.alloc (.cells P.cells.toArray 51) := ⟨_, rfl⟩
  have hb : Below w.heap.size w W := by rw [hW]; exact (Below.refl _ _).alloc (Nat.le_refl _) _
  have HB : Hid _ := hb
  have B5 : Hid (Blk W X P.cells 51) := by rw [hW, hX]; exact Blk.made w _ 51
  have HP : Hid (PgIn W (fun g => g < W.heap.size) P) := hP.keep0 hb
  have HPB : Hid _ := hPb
  clear hP hb hPb
  go_enter Try.func4, Try.ntmps4
  go_upto_region 1 with fail
  rw [← hX, ← hW]
  have HX : Hid _ := hX
  clear hX hW
  go_wp2_with (refine wpList_load_part rfl 51 (.tmp 2) rfl X 0 P.cells rfl B5.out (by simp) Try.underlying51 rfl (Try.pgSzP P) ?_)
  refine Calls.mono (fitPage_any HP.out) ?_
  rintro e w1 ⟨⟨b, rfl, bl1, fit⟩⟩
  have BL1 : Hid (Below W.heap.size W w1) := bl1
  have FIT : Hid _ := fit
  clear bl1 fit
  cases b with
  | false =>
    have F : Hid (Below w.heap.size w w1) := HB.out.trans (BL1.out.mono HB.out.size)
    go_wp2_with fail
    go_ret
    exact ⟨rfl, F.out⟩
  | true =>
    have FT : Hid (PgFit P) := FIT.out rfl
    have HVL : Hid (∀ i, i < P.vn → (P.vs i).x.length = 33 ∧ (P.vs i).y.length = 32) := fun i hi => ⟨(HP.out.vk i hi).2.1, (HP.out.vk i hi).2.2.2⟩
    have HPL : Hid (∀ i, i < P.pn → (P.ps i).x.length = 33 ∧ (P.ps i).y.length = 32) := fun i hi => (HP.out.pk i hi).2
    have D5 : Hid (Blk w1 X P.cells 51) := B5.out.keep0 BL1.out
    go_wp2_with (refine wpList_load_part rfl 51 (.tmp 2) rfl X 0 P.cells rfl D5.out (by simp) Try.underlying51 rfl (Try.pgSzP P) ?_)
    clear D5
    have LN := Pg.len HP.out FT.out
    refine Calls.mono (cPage_any (HP.out.keep0 BL1.out) FT.out LN.2) ?_
    rintro e w2 ⟨b, rfl, m2⟩
    have BL2 : Hid (Below W.heap.size W w2) := BL1.out.trans (m2.2.1.mono BL1.out.size)
    have OB2 : Hid (Own w2 b P.bytes) := m2.1
    obtain ⟨bg, bc, hbf, hbc, hbm⟩ := m2.1.form2 LN.1
    obtain ⟨N1, hN1⟩ : ∃ N1, N1 = P.bytes.length := ⟨_, rfl⟩
    rw [← hN1] at hbf hbc LN
    have HN1 : Hid _ := hN1
    subst hbf
    clear m2 hN1 BL1
    go_wp2_with fail
    refine Calls.mono (pageCode_any (OB2.out.in_ (Pg.byts HPB.out) (by have := HN1.out; omega))) ?_
    rintro e w3 ⟨C, rfl, bl3, hC, tis⟩
    rw [show pageE P.bytes = 0 from page_all FT.out HVL.out HPL.out]
    have BL3 : Hid (Below W.heap.size W w3) := BL2.out.trans (bl3.mono BL2.out.size)
    have OB3 : Hid (Own w3 (.slice (some ⟨bg, 0, none⟩) N1 bc) P.bytes) := OB2.out.kept (Chg.of_below bl3 (fun _ => False)) (fun _ _ e => e)
    have TIS : Hid (PgIs w3 w2.heap.size (pageS P.bytes 0 0) C) := tis (page_all FT.out HVL.out HPL.out)
    have HC := hC.1
    have HCO : Hid _ := hC.2
    clear bl3 hC tis BL2 OB2
    go_upto_region 5 with (refine wpList_store_part rfl 51 (.tmp 6) (.tmp 16) rfl w3.heap.size 0 C rfl rfl (t := 51) ⟨heap_alloc_new _ _⟩ (by rw [HC]; simp [pgZ, pgC]) (Try.pgZsz C HC) HCO.out ?_; intro w4 hw4 hc4; rw [splice_all _ _ (by rw [HC]; simp [pgZ, pgC])] at hw4; have D6 : Hid _ := hw4; have c8 : Chg (fun _ => False) w3 w4 := ((Chg.refl (fun _ => False) w3).alloc _).trans hc4 (fun i e => .inr (by omega)); have C4 : Hid _ := c8; clear hw4 hc4 c8)
    have BL4 : Hid (Below W.heap.size W w4) := BL3.out.trans (C4.out.below BL3.out.size (fun _ e => e.elim))
    have Ob4 : Hid (Own w4 (.slice (some ⟨bg, 0, none⟩) N1 bc) P.bytes) := OB3.out.kept C4.out (fun _ _ e => e)
    have G2 : Hid (Blk w4 X P.cells 51) := B5.out.keep0 BL4.out
    have TB := page_back FT.out HVL.out HPL.out []
    rw [List.append_nil] at TB
    obtain ⟨mv, vv, pv, hCe, pg⟩ := (TIS.out.fresh C4.out).ex
    rw [TB] at hCe pg
    obtain ⟨A1, c1, e1, r1⟩ := GL.rows pg.m
    obtain ⟨A2, c2, e2, r2⟩ := GL.rows pg.v
    obtain ⟨A3, c3, e3, r3⟩ := GL.rows pg.p
    have EC : Hid (C = [.int .u64 P.la, .int .i64 P.wi, .int .u64 P.se, .slice A1 P.mn c1, .slice A2 P.vn c2, .int .u64 P.sz, .slice A3 P.pn c3]) := by
      have e : ((P.wi.toNat : Nat) : Int) = P.wi := by have := FT.out.wi.1; omega
      show C = _
      rw [hCe, e1, e2, e3, pgC]
      simp only [e]
    have R1 : Hid _ := r1
    have R2 : Hid _ := r2
    have R3 : Hid _ := r3
    clear TB hCe pg e1 e2 e3 r1 r2 r3 BL3 OB3 TIS C4
    have z1 : ((N1 : Int) == 0) = false := by simp; omega
    go_wp2_with (first
      | refine wpList_load_g (by rfl) 51 (.tmp 6) rfl w3.heap.size 0 C rfl D6.out (by simp) Try.underlying51 rfl (Try.pgZsz C HC) ?_
      | refine wpList_load_g (by rfl) 51 (.tmp 2) rfl X 0 P.cells rfl G2.out (by simp) Try.underlying51 rfl (Try.pgSzP P) ?_)
    rw [EC.out]
    refine Calls.mono (samePage_any (HP.out.keep0 BL4.out) R1.out R2.out R3.out) ?_
    rintro e w5 ⟨rfl, bl⟩
    have BL5 : Hid (Below W.heap.size W w5) := BL4.out.trans (bl.mono BL4.out.size)
    have Ob5 : Hid (Own w5 (.slice (some ⟨bg, 0, none⟩) N1 bc) P.bytes) := Ob4.out.kept (Chg.of_below bl (fun _ => False)) (fun _ _ e => e)
    clear bl EC R1 R2 R3 BL4 Ob4 D6 G2
    obtain ⟨Nc, hNc⟩ : ∃ Nc : Nat, (Nc : Int) = if cut < 0 then -(cut + 1) else cut := ⟨(if cut < 0 then -(cut + 1) else cut).toNat, by split <;> omega⟩
    go_upto_if 32 with fail
    go_cut [1] from 33 to 35 (fun v wx => v = .int .i64 Nc ∧ Hid (w5 = wx))
    case first =>
      by_cases hneg : cut < 0
      · rw [if_pos hneg] at hNc
        have HNC : Hid _ := hNc
        clear hNc
        go_wp2_with fail
        go_meet
        case rel =>
          have := HNC.out
          refine ⟨?_, rfl⟩
          congr 1
          omega
      · rw [if_neg hneg] at hNc
        have HNC : Hid _ := hNc
        clear hNc
        go_wp2_with fail
        go_meet
        case rel => exact ⟨by rw [HNC.out], rfl⟩
    case rest =>
      obtain ⟨rfl, hid⟩ := hcut
      have hwc := hid.out
      clear hid
      subst hwc
      have hNl : Nc ≤ 9223372036854775807 := by split at hNc <;> omega
      clear hNc
      obtain ⟨m0, hm0⟩ : ∃ m : Nat, m = Nc % N1 := ⟨_, rfl⟩
      have lt0 : m0 < N1 := by rw [hm0]; exact Nat.mod_lt _ (by omega)
      have r0 : (Nc : Int).tmod (N1 : Int) = (m0 : Int) := by rw [hm0, Int.tmod_eq_emod_of_nonneg (by omega)]; simp
      have IN0 : Hid (In w5 (.slice (some ⟨bg, 0, none⟩) m0 bc) (P.bytes.take m0)) := by
        have h9 := Ob5.out
        have h8 := HN1.out
        rw [h8] at h9
        exact Own.cutP h9 (Pg.byts HPB.out) (by omega) (by omega) (by omega) (by omega)
      have ne0 : ¬ pageE (P.bytes.take m0) = 0 := page_cut FT.out HVL.out HPL.out (by have := HN1.out; omega)
      clear hm0
      go_wp2_with fail
      refine Calls.mono (pageCode_any IN0.out) ?_
      rintro e w6 ⟨C2, rfl, bl, _, _⟩
      obtain ⟨E0, hE0⟩ : ∃ E0, E0 = pageE (P.bytes.take m0) := ⟨_, rfl⟩
      rw [← hE0] at ne0 ⊢
      have nb0 : (E0 != 0) = true := by simpa using ne0
      clear hE0
      have F : Hid (Below w.heap.size w w6) := HB.out.trans ((BL5.out.trans (bl.mono BL5.out.size)).mono HB.out.size)
      clear bl r0 IN0
      go_wp2_with fail
      go_ret
      exact ⟨rfl, F.out⟩
end Go.Proofs.Ytgmheipbcopajaa
