/-
  The walk of leastBackwards.
-/
import Derived.Test.YtpkcabbfblhekaaVLc
namespace Go.Proofs.Ytpkcabbfblhekaa.V
open Go.RowKit

theorem dgl_le : ∀ (k n : Nat), n < 2 ^ k → dg n ≤ k
  | 0, n, h => by
    have : n = 0 := by omega
    subst this
    rw [dg_zero]
    exact Nat.le_refl _
  | k + 1, n, h => by
    by_cases h0 : n = 0
    · subst h0; rw [dg_zero]; omega
    · rw [dg_pos (by omega)]
      have := dgl_le k (n / 2) (by rw [Nat.pow_succ] at h; omega)
      omega

set_option maxRecDepth 100000 in
set_option maxHeartbeats 4000000 in
theorem lb_any {w : World} {f : Value} {S : Nat → Prop} {I : Nat → World → Prop} {od : Go.Proofs.Ytpkcabbfblhekaa.E → Go.Proofs.Ytpkcabbfblhekaa.E → Int} {one : Nat} (O : Go.Proofs.Ytpkcabbfblhekaa.Od f S I od one) (h1 : one ≤ 1) {s : Value} {L : List (Int × Int)} (hL : Go.Proofs.Ytpkcabbfblhekaa.Ths w s L) (hs : ∀ k, L ≠ [] → s.ownBlock = some k → ¬ S k)
    (hf : ∀ cs, f ≠ .agg cs) (n c : Nat) (hn : 0 < n) (hn2 : n ≤ 1048576) (hl : L.length ≤ 1048576) (hI : I c w) (hc : c ≤ 1125899906842624) :
    Calls Try.prog 37 #[s, .int .i64 n, f] w fun e w' => ∃ v, e = .returned (.pointer (some ⟨w.heap.size + 1, 0, none⟩)) ∧ LB w w' (w.heap.size + 1) w.heap.size n (c + L.length * (2 * dg n + 1)) f v S I (lbF od n L 0 [] 0).1 (lbF od n L 0 [] 0).2 := by
  obtain ⟨sa, sc, rfl⟩ := hL.form
  have OO : Hid _ := O
  have HL : Hid (Go.Proofs.Ytpkcabbfblhekaa.Ths _ _ _) := hL
  have HS : Hid _ := hs
  have HI : Hid _ := hI
  have hq0 : ¬ S w.heap.size := fun h => Nat.lt_irrefl _ (O.low hI h)
  have hp0 : ¬ (S (w.heap.size + 1) ∨ w.heap.size + 1 = w.heap.size) := fun h => by
    rcases h with h | h
    · have := O.low hI h; omega
    · omega
  have OB : Hid _ := od_back O h1 w.heap.size hq0
  have HQ0 : Hid _ := hq0
  have HP0 : Hid _ := hp0
  have B0 : Hid (Blk (w.alloc (.cells #[f] 27)) w.heap.size [f] 27) := Blk.made w [f] 27
  have NW : Hid _ := new_any (f := .func (.func 46) #[] #[.pointer (some ⟨w.heap.size, 0, none⟩)]) (.inr ⟨46, _, rfl⟩) (w.alloc (.cells #[f] 27))
  clear O hL hs hI hq0 hp0
  have HF : Hid _ := hf
  clear hf
  go_enter Try.func37, Try.ntmps37
  go_wp2_with fail
  · exact absurd rfl (HF.out _)
  refine Calls.mono NW.out ?_
  rintro e w1 ⟨rfl, hq1, ch1⟩
  rw [World.size_alloc] at hq1 ⊢
  have C1 : Hid (Chg (fun _ => False) w w1) := ((Chg.refl (fun _ => False) w).alloc _).trans ch1 (fun _ h => h.elim)
  have B1 : Hid (Blk w1 w.heap.size [f] 27) := B0.out.keep ch1 (fun h => h)
  have Q1 : Hid _ := hq1
  have L0 : Hid (LB w w1 (w.heap.size + 1) w.heap.size n c f (.slice none 0 0) S I [] 0) :=
    ⟨hq1, ⟨⟨c, Nat.le_refl _, OO.out.keep HI.out C1.out (fun _ h => h.elim)⟩, B1.out⟩, C1.out.mono (fun _ _ h => h.elim), fun k hk => by simp [Value.ownBlock] at hk, by simp [Value.ownBlock], by simp⟩
  clear hq1 ch1 NW B0 C1 Q1
  go_wp2_with fail
  go_loopg [17] (L.length + 1) (fun gk si wr => ∃ (j : Nat) (v : Value) (H : List E) (came : Nat), si = .int .i64 j ∧ j ≤ L.length ∧ L.length < gk + j ∧ came ≤ j ∧ Hid (LB w wr (w.heap.size + 1) w.heap.size n (c + j * (2 * dg n + 1)) f v S I H came ∧ lbF od n L 0 [] 0 = lbF od n (L.drop j) j H came))
  case atStart => exact ⟨0, _, [], 0, rfl, by omega, by omega, by omega, by rw [Nat.zero_mul, Nat.add_zero]; exact L0.out, rfl⟩
  case round =>
    obtain ⟨j, v, H, came, rfl, hj, hgk, hcj, hid⟩ := hrel
    obtain ⟨lb, heq⟩ := hid.out
    clear hid L0 B1
    by_cases h0 : j = L.length
    · subst h0
      have LBH : Hid _ := lb
      have HE : Hid _ := heq
      clear lb heq
      go_wp2_with fail
      go_ret
      have e1 : L.drop L.length = [] := List.drop_length
      rw [HE.out, e1]
      exact ⟨v, rfl, LBH.out⟩
    · have hjl : j < L.length := by omega
      have hjl' : (j : Int) < (L.length : Int) := by omega
      obtain ⟨⟨ak, an⟩, ha⟩ : ∃ a, L[j]? = some a := ⟨L[j], by simp [hjl]⟩
      have hdr : L.drop j = (ak, an) :: L.drop (j + 1) := by rw [List.drop_eq_getElem_cons hjl]; congr 1; simpa [hjl] using ha
      obtain ⟨b, o, hsa, e0, e1⟩ : ∃ b o, sa = some ⟨b, o, none⟩ ∧ wr.cell? ⟨b, o + j * 2, none⟩ = some (.int .i64 ak) ∧ wr.cell? ⟨b, o + j * 2 + 1, none⟩ = some (.int .i64 an) := by
        have hk := Go.Proofs.Ytpkcabbfblhekaa.Ths.keep HL.out lb.ch (fun k hk => HS.out k (fun e => by rw [e] at hjl; simp at hjl) hk)
        rcases hk with ⟨h9, h8⟩ | ⟨_, _, _, h8⟩ | ⟨b, o, cp, h9, hcel⟩
        · rw [h8] at hjl; simp at hjl
        · rw [h8] at hjl; simp at hjl
        · injection h9 with h9 _ _
          exact ⟨b, o, h9, hcel j (ak, an) ha⟩
      subst hsa
      have cf : wr.cell? ⟨w.heap.size, 0, none⟩ = some f := lb.ib.2.cell 0
      have hlq : w.heap.size < wr.heap.size := lb.ib.2.lt
      have PK : Hid (∀ w', Chg (fun _ => False) wr w' → _) := fun w' (k : Chg (fun _ => False) wr w') => peek_any (lb.keep OO.out k).hq
      have LBH : Hid _ := lb
      have HE : Hid _ := heq
      have HD : Hid _ := hdr
      have HA : Hid _ := ha
      clear lb heq hdr ha
      go_upto_region 6 with fail
      obtain ⟨w2, hw2⟩ : ∃ w2, w2 = (wr.alloc (.cells #[.int .i64 ak, .int .i64 an] 26)).alloc (.cells #[.int .i64 ak, .int .i64 an, .int .i64 j] 63) := ⟨_, rfl⟩
      rw [← hw2]
      have hc2 : Chg (fun _ => False) wr w2 := by rw [hw2]; exact ((Chg.refl _ _).alloc _).alloc _
      have hb2 : Blk w2 (wr.heap.size + 1) [.int .i64 ak, .int .i64 an, .int .i64 j] 63 := by
        rw [hw2]
        have := Blk.made (wr.alloc (.cells #[.int .i64 ak, .int .i64 an] 26)) [.int .i64 ak, .int .i64 an, .int .i64 j] 63
        rwa [World.size_alloc] at this
      have lb2 := LBH.out.keep OO.out hc2
      obtain ⟨e, he⟩ : ∃ e, nth H 0 = e := ⟨_, rfl⟩
      have PK0 : Hid _ := peek_any lb2.hq
      rw [he] at PK0
      unfold two E.th at PK0
      have B2 : Hid _ := hb2
      have LB2 : Hid _ := lb2
      have HN : Hid _ := he
      clear hw2 hc2 hb2 lb2 he PK e0 e1 cf
      go_wp2_with fail
      refine Calls.mono PK0.out ?_
      rintro e' w3 ⟨rfl, ch3⟩
      obtain ⟨w4, hw4⟩ : ∃ w4, w4 = w3.alloc (.cells #[.int .i64 e.k, .int .i64 e.n, .int .i64 e.i] 63) := ⟨_, rfl⟩
      have hc4 : Chg (fun _ => False) w2 w4 := by rw [hw4]; exact ch3.trans ((Chg.refl (fun _ => False) w3).alloc _) (fun _ h => h.elim)
      have hb10 := Blk.keep B2.out hc4 (fun h => h)
      have hb11 : Blk w4 w3.heap.size [.int .i64 e.k, .int .i64 e.n, .int .i64 e.i] 63 := by rw [hw4]; exact Blk.made w3 [.int .i64 e.k, .int .i64 e.n, .int .i64 e.i] 63
      have lb4 := LB.keep OO.out LB2.out hc4
      have LN : Hid _ := len_any lb4.hq
      have W4 : Hid _ := hw4
      have LB4 : Hid _ := lb4
      have B10 : Hid _ := hb10
      have B11 : Hid _ := hb11
      clear hw4 hc4 hb10 hb11 lb4 ch3 PK0 LB2 B2 LBH
      go_upto_region 7 with fail
      rw [← W4.out]
      by_cases hlt : H.length < n
      · have hlt' : (H.length : Int) < (n : Int) := by omega
        have x0 : w4.cell? ⟨wr.heap.size + 1, 0, none⟩ = some (.int .i64 ak) := B10.out.cell 0
        have x1 : w4.cell? ⟨wr.heap.size + 1, 1, none⟩ = some (.int .i64 an) := B10.out.cell 1
        have x2 : w4.cell? ⟨wr.heap.size + 1, 2, none⟩ = some (.int .i64 j) := B10.out.cell 2
        go_wp2_with (go_at_call 49; refine Calls.mono LN.out ?_; rintro e' w9 ⟨rfl, h9⟩; subst h9; clear LN)
        have hc5 : Chg (fun _ => False) w4 (w4.alloc (.cells #[.int .i64 ak, .int .i64 an, .int .i64 j] 63)) := (Chg.refl _ _).alloc _
        have lb5 := LB.keep OO.out LB4.out hc5
        have hb5 : Blk (w4.alloc (.cells #[.int .i64 ak, .int .i64 an, .int .i64 j] 63)) w4.heap.size [.int .i64 ak, .int .i64 an, .int .i64 j] 63 := Blk.made w4 [.int .i64 ak, .int .i64 an, .int .i64 j] 63
        have hs4 : w.heap.size + 1 < w4.heap.size := LB4.out.hq.lt
        have hdl := dgl_le 21 n (by omega)
        have hjd : j * (2 * dg n + 1) ≤ 1048576 * 43 := Nat.mul_le_mul (by omega) (by omega)
        refine Calls.mono (lb5.push OO.out h1 HI.out (ak, an, (j : Int)) w4.heap.size hb5 hs4 (fun e => by have := LB4.out.hq.vlt _ e; omega) hlt hn2 (by omega) (by omega)) ?_
        rintro e' w6 ⟨rfl, v6, lb6⟩
        have L6 : Hid _ := lb6
        clear lb6 lb5 hb5 hc5 x0 x1 x2 hjd hdl
        go_wp2_with fail
        go_roundg (L.length - j)
        case measure => omega
        case rel =>
          refine ⟨j + 1, v6, (pushF (odF (odBk od)) [(ak, an, (j : Int))] H came).1, came + 1, by go_num, by omega, by omega, by omega, ?_, ?_⟩
          · have := L6.out
            rwa [show c + j * (2 * dg n + 1) + (2 * dg n + 1) = c + (j + 1) * (2 * dg n + 1) by rw [Nat.add_mul, Nat.one_mul]; omega] at this
          · rw [HE.out, HD.out, lbF, if_pos hlt]
      · have hlt' : ¬ ((H.length : Int) < (n : Int)) := by omega
        have x0 : w4.cell? ⟨wr.heap.size + 1, 0, none⟩ = some (.int .i64 ak) := B10.out.cell 0
        have x1 : w4.cell? ⟨wr.heap.size + 1, 1, none⟩ = some (.int .i64 an) := B10.out.cell 1
        have x2 : w4.cell? ⟨wr.heap.size + 1, 2, none⟩ = some (.int .i64 j) := B10.out.cell 2
        have y0 : w4.cell? ⟨w3.heap.size, 0, none⟩ = some (.int .i64 e.k) := B11.out.cell 0
        have y1 : w4.cell? ⟨w3.heap.size, 1, none⟩ = some (.int .i64 e.n) := B11.out.cell 1
        have y2 : w4.cell? ⟨w3.heap.size, 2, none⟩ = some (.int .i64 e.i) := B11.out.cell 2
        have cf : w4.cell? ⟨w.heap.size, 0, none⟩ = some f := LB4.out.ib.2.cell 0
        have hdl := dgl_le 21 n (by omega)
        have hjd : j * (2 * dg n + 1) ≤ 1048576 * 43 := Nat.mul_le_mul (by omega) (by omega)
        have hsum : c + j * (2 * dg n + 1) + 1 < 1152921504606846976 := by omega
        have OR : Hid _ := LB4.out.order OO.out h1 HI.out ⟨ak, an, j⟩ e.inn (by omega)
        unfold E.inn Go.Proofs.Ytpkcabbfblhekaa.E.val at OR
        have HM : Hid _ := hsum
        clear hdl hjd hsum
        obtain ⟨r, hr⟩ : ∃ r, od ⟨ak, an, j⟩ ⟨e.k, e.n, e.i⟩ = r := ⟨_, rfl⟩
        rw [hr] at OR
        have HR : Hid _ := hr
        clear hr
        have NB : Hid (¬ S (wr.heap.size + 1)) := LB.low OO.out HI.out _ (by omega)
        by_cases hr0 : r < 0
        · have SW : Hid (∀ w5 : World, LB w w5 (w.heap.size + 1) w.heap.size n (c + j * (2 * dg n + 1) + 1) f v S I H came → _) := fun w5 lb5 => LB.swap OO.out h1 HI.out lb5 (ak, an, (j : Int)) hn hlt hn2 (by omega) HM.out
          unfold two at SW
          go_wp2_with (first | (go_at_call 49; refine Calls.mono LN.out ?_; rintro e' w9 ⟨rfl, h9⟩; subst h9; clear LN) | (go_at_call 47; refine Calls.mono OR.out ?_; rintro e' w5 ⟨rfl, lb5, ch5⟩; have z0 : w5.cell? ⟨wr.heap.size + 1, 0, none⟩ = some (.int .i64 ak) := (Blk.keep B10.out ch5 NB.out).cell 0; have z1 : w5.cell? ⟨wr.heap.size + 1, 1, none⟩ = some (.int .i64 an) := (Blk.keep B10.out ch5 NB.out).cell 1; have z2 : w5.cell? ⟨wr.heap.size + 1, 2, none⟩ = some (.int .i64 j) := (Blk.keep B10.out ch5 NB.out).cell 2; have L5 : Hid _ := lb5; clear lb5 ch5))
          refine Calls.mono (SW.out _ L5.out) ?_
          rintro e' w6 ⟨⟨xv, rfl⟩, v6, lb6⟩
          have L6 : Hid _ := lb6
          clear lb6 SW L5 z0 z1 z2
          go_wp2_with fail
          go_roundg (L.length - j)
          case measure => omega
          case rel =>
            refine ⟨j + 1, v6, (swapF (odF (odBk od)) H ⟨ak, an, (j : Int), (came : Int) + 1⟩).1, came + 1, by go_num, by omega, by omega, by omega, ?_, ?_⟩
            · have := L6.out
              rwa [show c + j * (2 * dg n + 1) + 1 + 2 * dg n = c + (j + 1) * (2 * dg n + 1) by rw [Nat.add_mul, Nat.one_mul]; omega] at this
            · rw [HE.out, HD.out, lbF, if_neg hlt, if_pos]
              unfold Go.Proofs.Ytpkcabbfblhekaa.lt E.inn
              rw [HN.out, HR.out]
              exact decide_eq_true hr0
        · go_wp2_with (first | (go_at_call 49; refine Calls.mono LN.out ?_; rintro e' w9 ⟨rfl, h9⟩; subst h9; clear LN) | (go_at_call 47; refine Calls.mono OR.out ?_; rintro e' w5 ⟨rfl, lb5, ch5⟩; have z0 : w5.cell? ⟨wr.heap.size + 1, 0, none⟩ = some (.int .i64 ak) := (Blk.keep B10.out ch5 NB.out).cell 0; have z1 : w5.cell? ⟨wr.heap.size + 1, 1, none⟩ = some (.int .i64 an) := (Blk.keep B10.out ch5 NB.out).cell 1; have z2 : w5.cell? ⟨wr.heap.size + 1, 2, none⟩ = some (.int .i64 j) := (Blk.keep B10.out ch5 NB.out).cell 2; have L5 : Hid _ := lb5; clear lb5 ch5))
          go_roundg (L.length - j)
          case measure => omega
          case rel =>
            refine ⟨j + 1, v, H, came, by go_num, by omega, by omega, by omega, ?_, ?_⟩
            · have lb5 := L5.out
              have := lb5.ib.up (d := c + (j + 1) * (2 * dg n + 1)) (by rw [Nat.add_mul, Nat.one_mul]; omega)
              exact ⟨lb5.hq, this, lb5.ch, lb5.vl, lb5.vq, lb5.len⟩
            · rw [HE.out, HD.out, lbF, if_neg hlt, if_neg]
              unfold Go.Proofs.Ytpkcabbfblhekaa.lt E.inn
              rw [HN.out, HR.out]
              simpa using hr0

end Go.Proofs.Ytpkcabbfblhekaa.V
