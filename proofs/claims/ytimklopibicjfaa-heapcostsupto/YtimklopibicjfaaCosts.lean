/-
  The walk of HeapCosts.
-/
import Derived.Test.YtimklopibicjfaaCInv
namespace Go.Proofs.Ytimklopibicjfaa
open Go.RowKit

theorem dg_le : ∀ n : Nat, dg n ≤ n := by
  intro n
  induction n using Nat.strongRecOn with
  | ind n ih =>
    rcases Nat.eq_zero_or_pos n with h0 | h0
    · subst h0; rw [dg_zero]; exact Nat.le_refl _
    · rw [dg_pos h0]
      have := ih (n / 2) (by omega)
      omega

theorem most_le (n : Nat) : ∀ k, most n k ≤ k * (n + k + 1)
  | 0 => Nat.zero_le _
  | k + 1 => by
    have h1 := most_le n k
    have h2 := dg_le (n + k)
    have h3 : k * (n + k + 1) ≤ k * (n + (k + 1) + 1) := Nat.mul_le_mul_left _ (by omega)
    rw [most, Nat.succ_mul]
    omega

theorem Chg.drewN {S : Nat → Prop} {a w : World} (h : Chg S a w) (n : Nat) : Chg S a (w.drewN n) := ⟨h.os, h.tape, h.output, h.size, h.block⟩
theorem CInv.len_quiet {W wr : World} {q p : Nat} {H : List E} {came c : Nat} (h : CInv W wr q p H came c) (n : Nat) : Calls Try.prog 12 #[.pointer (some ⟨p, 0, none⟩)] (wr.drewN n) fun e w' => e = .returned (.int .i64 H.length) ∧ w' = wr.drewN n :=
  ((h.keep ((Chg.refl _ _).drewN n)).len_any).mono (fun _ _ ⟨h1, h2⟩ => ⟨h1, h2.symm⟩)
theorem digits_quiet (n : Nat) (hn : n < 1099511627776) (w : World) (m : Nat) : Calls Try.prog 13 #[.int .i64 n] (w.drewN m) fun e w' => e = .returned (.int .i64 (dg n)) ∧ w' = w.drewN m :=
  (digits_any n hn (w.drewN m)).mono (fun _ _ ⟨h1, h2⟩ => ⟨h1, h2.symm⟩)

theorem HO.min {H : List E} (h : HO odK H) {y : E} (hy : y ∈ H) : (nth H 0).k ≤ y.k := by
  obtain ⟨i, hi, e⟩ := List.mem_iff_getElem.1 hy
  have h1 := h.first tot_k i hi
  have h2 : nth H i = y := by unfold nth; rw [List.getD_eq_getElem?_getD, List.getElem?_eq_getElem hi]; exact e
  rw [h2] at h1
  exact lt_k h1

theorem CInv.other {W wr w' : World} {q p : Nat} {H : List E} {came c : Nat} (h : CInv W wr q p H came c) {B : Nat} (s : Sep wr p q B) (hB : W.heap.size ≤ B) (k : Chg (fun k => k = B) wr w') : CInv W w' q p H came c ∧ Sep w' p q B := by
  obtain ⟨⟨v, h1, h2⟩, h3, h4, h5, h6, h7, h8, h9⟩ := h
  have hv : wr.cell? ⟨p, 1, none⟩ = some v := h1.blk.cell 1
  have hn := s.nv v hv
  have hq' := h1.keep k (fun e => s.np e.symm) (fun i hi e => hn (by rw [hi, e]))
  refine ⟨⟨⟨v, hq', h2⟩, h3.keep k (fun e => s.nq e.symm), h4.trans k (fun i hi => .inr (by omega)), h5, h6, h7, h8, h9⟩, ⟨s.np, s.nq, Nat.lt_of_lt_of_le s.lt k.size, fun u hu => ?_⟩⟩
  have hv' : w'.cell? ⟨p, 1, none⟩ = some v := hq'.blk.cell 1
  have : u = v := by rw [hv'] at hu; injection hu with hu; exact hu.symm
  rw [this]; exact hn

def CRel (W : World) (N : Nat) (bud : Nat → Nat) (q p gk : Nat) (si : Value) (wr : World) : Prop :=
  ∃ (j came c : Nat) (H : List E), si = .int .i64 j ∧ j ≤ N ∧ N < gk + j ∧ came ≤ bud j ∧ c ≤ 10000000000000 ∧ CInv W wr q p H came c

set_option maxRecDepth 100000 in
set_option maxHeartbeats 8000000 in
theorem costs_any {W : World} {a : Option Addr} {N cap : Nat} {st : Nat → Tn} {bud : Nat → Nat} (hs : Scr W a N st bud) :
    Calls Try.prog 3 #[.slice a N cap] W fun e w' => e = .returned (.bool true) ∧ Below W.heap.size W w' := by
  have HS : Hid _ := hs
  have hN : N ≤ 1048576 := hs.len
  obtain ⟨w1, hw1⟩ : ∃ w1, w1 = W.alloc (.cells #[.int .i64 0] 3) := ⟨_, rfl⟩
  have W1 : Hid _ := hw1
  have B1 : Hid (Blk w1 W.heap.size [.int .i64 0] 3) := by rw [hw1]; exact Blk.made W [.int .i64 0] 3
  have C1 : Hid (Chg (fun _ => False) W w1) := by rw [hw1]; exact (Chg.refl _ _).alloc _
  have NW : Hid _ := new_any (f := fq W.heap.size) (.inr ⟨10, _, rfl⟩) w1
  unfold fq at NW
  clear hs hw1
  go_enter Try.func3, Try.ntmps3
  go_wp2_with fail
  rw [← W1.out]
  refine Calls.mono NW.out ?_
  rintro e w2 ⟨rfl, hq2, ch2⟩
  have CI : Hid (CInv W w2 W.heap.size w1.heap.size [] 0 0) := CInv.made B1.out C1.out (Nat.le_refl _) hq2 ch2
  obtain ⟨p, hp⟩ : ∃ p, p = w1.heap.size := ⟨_, rfl⟩
  rw [← hp] at CI ⊢
  obtain ⟨q, hq⟩ : ∃ q, q = W.heap.size := ⟨_, rfl⟩
  rw [← hq] at CI ⊢
  have HQ : Hid _ := hq
  clear hp hq hq2 ch2 NW W1 B1 C1
  go_wp2_with fail
  go_loopg [5] (N + 1) (fun gk si wr => CRel W N bud q p gk si wr)
  case atStart => exact ⟨0, 0, 0, [], rfl, by omega, by omega, by rw [HS.out.zero]; omega, by omega, CI.out⟩
  case round =>
    obtain ⟨j, came, c, H, rfl, hj, hgk, hcame, hc, hci⟩ := hrel
    by_cases h0 : j = N
    · subst h0
      have x0 : wr.cell? ⟨q, 0, none⟩ = some (.int .i64 c) := hci.ic.cell 0
      have xf := hci.ic.fr 0
      obtain ⟨w4, hw4⟩ : ∃ w4, w4 = wr.setCell ⟨q, 0, none⟩ (.int .i64 0) := ⟨_, rfl⟩
      have hC4 : CInv W w4 q p H came 0 := by rw [hw4]; exact hci.reset
      have hcl : came ≤ 2097152 := by have := HS.out.tot j (Nat.le_refl _); omega
      have hH0 : HO odK H := hci.ho
      have PP := hC4.pop_any hcl (by omega)
      obtain ⟨b0, hb0⟩ : ∃ b0, decide (0 < H.length) = b0 := ⟨_, rfl⟩
      obtain ⟨th, hth⟩ : ∃ th, (nth H 0).th = th := ⟨_, rfl⟩
      rw [hb0, hth] at PP
      obtain ⟨tk, tn⟩ := th
      have htk : (nth H 0).k = tk := by have := congrArg Prod.fst hth; exact this
      have PH : Hid _ := PP
      unfold two at PH
      have W4 : Hid _ := hw4
      have HO0 : Hid _ := hH0
      have HB0 : Hid _ := hb0
      have HTK : Hid _ := htk
      clear hw4 hC4 hci PP hth hb0 hH0 htk
      go_wp2_with fail
      rw [← W4.out]
      refine Calls.mono PH.out ?_
      rintro e w5 ⟨rfl, ⟨x, hx, c5⟩, _⟩
      have hSep : Sep (w5.alloc (.cells #[.int .i64 tk, .int .i64 tn] 26)) p q w5.heap.size := by
        have c6 := c5.keep ((Chg.refl _ _).alloc (.cells #[.int .i64 tk, .int .i64 tn] 26))
        obtain ⟨v5, hq5, _⟩ := c5.hq
        refine ⟨fun e => by have := hq5.lt; omega, fun e => by have := c5.ic.lt; omega, (Blk.made w5 [.int .i64 tk, .int .i64 tn] 26).lt, fun v hv e => ?_⟩
        have hv5 : (w5.alloc (.cells #[.int .i64 tk, .int .i64 tn] 26)).cell? ⟨p, 1, none⟩ = some v5 := (hq5.blk.alloc _).cell 1
        have : v = v5 := by rw [hv5] at hv; injection hv with hv; exact hv.symm
        subst this
        have := hq5.vlt _ e
        omega
      obtain ⟨w6, hw6⟩ : ∃ w6, w6 = w5.alloc (.cells #[.int .i64 tk, .int .i64 tn] 26) := ⟨_, rfl⟩
      have W6 : Hid _ := hw6
      have hc6 : CInv W w6 q p (popF odK H).1 came x := by rw [hw6]; exact c5.keep ((Chg.refl _ _).alloc _)
      have LN : Hid _ := hc6.len_any
      obtain ⟨LB, hLB⟩ : ∃ LB, LB = w5.heap.size := ⟨_, rfl⟩
      have hLW : W.heap.size ≤ LB := by rw [hLB]; exact c5.ch.size
      have hB6 : Blk w6 LB [.int .i64 tk, .int .i64 tn] 26 := by rw [hw6, hLB]; exact Blk.made w5 [.int .i64 tk, .int .i64 tn] 26
      rw [← hw6, ← hLB] at hSep
      have C6 : Hid _ := hc6
      have B6 : Hid _ := hB6
      have S6 : Hid _ := hSep
      have HLB : Hid _ := hLB
      have hxx : x ≤ 10000000000000 := by have := dg_le H.length; have := C6.out.ln; have := popF_len odK H; omega
      clear hw6 hc6 hB6 hSep c5 hx hLB x0 xf
      go_wp2_with (go_at_call 12; rw [← W6.out]; refine Calls.mono LN.out ?_; rintro e w9 ⟨rfl, h9⟩; subst h9)
      rw [← HLB.out]
      have hst : (b0 = false → (popF odK H).1 = []) := fun e => by
        have h9 := HB0.out
        rw [e] at h9
        have : H = [] := List.eq_nil_of_length_eq_zero (by have := of_decide_eq_false h9; omega)
        rw [this]; rfl
      have HST : Hid _ := hst
      clear hst LN W6 HLB PH W4
      go_loopg [15] ((popF odK H).1.length + 1) (fun gk n wq => ∃ (G : List E) (x : Nat) (lk ln : Int), n = .int .i64 G.length ∧ G.length < gk ∧ x ≤ 10000000000000 ∧ Hid ((b0 = false → G = []) ∧ CInv W wq q p G came x ∧ Sep wq p q LB ∧ Blk wq LB [.int .i64 lk, .int .i64 ln] 26 ∧ ∀ y ∈ G, lk ≤ y.k))
      case atStart => exact ⟨_, x, tk, tn, rfl, by omega, hxx, HST.out, C6.out, S6.out, B6.out, fun y hy => by rw [← HTK.out]; exact HO.min HO0.out (popF_mem odK hy)⟩
      case round =>
        obtain ⟨G, x, lk, ln, rfl, hG, hx, hid⟩ := hrel
        obtain ⟨hb, hci, hsep, hblk, hle⟩ := hid.out
        clear hid HST C6 S6 B6 HO0 HB0 HTK
        by_cases hz : G = []
        · have LN0 := hci.len_any
          rw [hz] at LN0
          have LN : Hid _ := LN0
          have hl0 : G.length = 0 := by rw [hz]; rfl
          have CH : Hid _ := hci.ch
          clear LN0 hb hci hsep hblk hle hz
          cases b0 with
          | false =>
            go_wp2_with (go_at_call 12; refine Calls.mono LN.out ?_; rintro e w9 ⟨rfl, h9⟩; subst h9)
            go_ret
            exact ⟨rfl, CH.out.below (Nat.le_refl _) (fun _ h => h.elim)⟩
          | true =>
            go_wp2_with (go_at_call 12; refine Calls.mono LN.out ?_; rintro e w9 ⟨rfl, h9⟩; subst h9)
            go_ret
            exact ⟨rfl, CH.out.below (Nat.le_refl _) (fun _ h => h.elim)⟩
        · have hbt : b0 = true := by
            cases b0 with
            | true => rfl
            | false => exact absurd (hb rfl) hz
          subst hbt
          have hGp : 0 < G.length := List.length_pos_iff.2 hz
          have hGp' : (0 : Int) < (G.length : Int) := by omega
          have hGl : G.length ≤ 2097152 := Nat.le_trans hci.ln hcl
          have hdl : dg G.length ≤ 2097152 := Nat.le_trans (dg_le _) hGl
          have x0 : wr.cell? ⟨q, 0, none⟩ = some (.int .i64 x) := hci.ic.cell 0
          have xf := hci.ic.fr 0
          obtain ⟨w7, hw7⟩ : ∃ w7, w7 = wr.setCell ⟨q, 0, none⟩ (.int .i64 0) := ⟨_, rfl⟩
          have hC7 : CInv W w7 q p G came 0 := by rw [hw7]; exact hci.reset
          have hch7 : Chg (fun k => k = q) wr w7 := by rw [hw7]; exact (Chg.refl (fun k => k = q) _).setCell (p := ⟨q, 0, none⟩) (.inl rfl) _
          have hB7 := hblk.keep hch7 hsep.nq
          have hS7 : Sep w7 p q LB := ⟨hsep.np, hsep.nq, hB7.lt, fun v hv => hsep.nv v (by
            have hpl : p < wr.heap.size := by obtain ⟨v0, h1, _⟩ := hci.hq; exact h1.lt
            rw [World.cell?_of_block (a := ⟨p, 1, none⟩) (hch7.block p hpl hci.ne)] at hv
            exact hv)⟩
          have PP := hC7.pop_any hcl (by omega)
          obtain ⟨th, hth⟩ : ∃ th, (nth G 0).th = th := ⟨_, rfl⟩
          rw [decide_eq_true hGp, hth] at PP
          obtain ⟨vk, vn⟩ := th
          have hvk : (nth G 0).k = vk := by have := congrArg Prod.fst hth; exact this
          have hlv : lk ≤ vk := by rw [← hvk]; exact hle _ (nth_mem hGp)
          have hmin : ∀ y ∈ (popF odK G).1, vk ≤ y.k := fun y hy => by rw [← hvk]; exact HO.min hci.ho (popF_mem odK hy)
          have PH : Hid _ := PP
          unfold two at PH
          have W7 : Hid _ := hw7
          have B7 : Hid _ := hB7
          have S7 : Hid _ := hS7
          have MN : Hid _ := hmin
          clear hw7 hC7 hci hsep hblk hle hch7 hB7 hS7 PP hth hvk hmin hb hz
          go_wp2_with fail
          rw [← W7.out]
          refine Calls.mono PH.out ?_
          rintro e w8 ⟨rfl, ⟨y, hy, c8⟩, kp⟩
          obtain ⟨hS8, hB8⟩ := kp _ S7.out
          have hb8 : Blk w8 LB [.int .i64 lk, .int .i64 ln] 26 := ⟨hB8.trans (B7.out).eq⟩
          have hv8 : (Blk (w8.alloc (.cells #[.int .i64 vk, .int .i64 vn] 26)) w8.heap.size [.int .i64 vk, .int .i64 vn] 26) := Blk.made w8 [.int .i64 vk, .int .i64 vn] 26
          obtain ⟨w9, hw9⟩ : ∃ w9, w9 = w8.alloc (.cells #[.int .i64 vk, .int .i64 vn] 26) := ⟨_, rfl⟩
          have hch9 : Chg (fun _ => False) w8 w9 := by rw [hw9]; exact (Chg.refl _ _).alloc _
          rw [← hw9] at hv8
          have hC9 := c8.keep hch9
          have hb9 := hb8.keep hch9 (fun h => h)
          have hpl8 : p < w8.heap.size := by obtain ⟨v0, h1, _⟩ := c8.hq; exact h1.lt
          have hS9 := hS8.keep hch9 hpl8
          have LN0 := fun m => hC9.len_quiet m
          have LM0 := hC9
          have hpl := popF_len odK G
          simp only [hpl, show ((G.length - 1 : Nat) : Int) = (G.length : Int) - 1 by omega] at LN0
          have LN : Hid _ := LN0
          have DG : Hid _ := fun m => digits_quiet G.length (by omega) w9 m
          have C9 : Hid _ := hC9
          have B9 : Hid _ := hb9
          have S9 : Hid _ := hS9
          have W9 : Hid _ := hw9
          have V9 : Hid _ := hv8
          have k0 : w9.cell? ⟨w8.heap.size, 0, none⟩ = some (.int .i64 vk) := hv8.cell 0
          have k1 : w9.cell? ⟨w8.heap.size, 1, none⟩ = some (.int .i64 vn) := hv8.cell 1
          have l0 : w9.cell? ⟨LB, 0, none⟩ = some (.int .i64 lk) := hb9.cell 0
          have l1 : w9.cell? ⟨LB, 1, none⟩ = some (.int .i64 ln) := hb9.cell 1
          have lf0 := hb9.fr 0
          have lf1 := hb9.fr 1
          have c0 : w9.cell? ⟨q, 0, none⟩ = some (.int .i64 y) := hC9.ic.cell 0
          have g1 : decide (vk < lk) = false := decide_eq_false (by omega)
          have g2 : ¬ (vk < lk) := by omega
          have hy' : (y : Int) ≤ 2 * (dg G.length : Int) + 2 := by omega
          have HPL : Hid _ := hpl
          have hyy : y ≤ 10000000000000 := by omega
          clear c8 kp hS8 hB8 hb8 hv8 hw9 hch9 hC9 hb9 hS9 LN0 LM0 hpl PH W7 B7 S7 hpl8 hy x0 xf
          go_upto_region 43 with fail
          rw [← W9.out]
          have g3 : (((G.length : Int) - 1) != ((G.length : Int) - 1)) = false := by simp
          have g4 : decide (2 * (dg G.length : Int) + 2 < (y : Int)) = false := decide_eq_false (by omega)
          go_quiet ((first | (go_at_call 12; refine Calls.quiet_of_same (LN.out _)) | (go_at_call 13; refine Calls.quiet_of_same (DG.out _))))
          go_wp2_with fail
          have d10 : Chg (fun k => k = LB) w9 (((w9.drewN nq).setCell ⟨LB, 0, none⟩ (.int .i64 vk)).setCell ⟨LB, 1, none⟩ (.int .i64 vn)) := (((Chg.refl (fun k => k = LB) w9).drewN nq).setCell (p := ⟨LB, 0, none⟩) (.inl rfl) _).setCell (p := ⟨LB, 1, none⟩) (.inl rfl) _
          obtain ⟨c10, s10⟩ := CInv.other C9.out S9.out hLW d10
          have b10 : Blk (((w9.drewN nq).setCell ⟨LB, 0, none⟩ (.int .i64 vk)).setCell ⟨LB, 1, none⟩ (.int .i64 vn)) LB [.int .i64 vk, .int .i64 vn] 26 := by
            have : Blk (w9.drewN nq) LB [.int .i64 lk, .int .i64 ln] 26 := ⟨B9.out.eq⟩
            exact (this.set 0 (.int .i64 vk)).set 1 (.int .i64 vn)
          obtain ⟨w10, hw10⟩ : ∃ w10, w10 = ((w9.drewN nq).setCell ⟨LB, 0, none⟩ (.int .i64 vk)).setCell ⟨LB, 1, none⟩ (.int .i64 vn) := ⟨_, rfl⟩
          rw [← hw10] at c10 s10 b10 ⊢
          have D1 : Hid _ := c10
          have D2 : Hid _ := s10
          have D3 : Hid _ := b10
          refine Calls.mono c10.len_any ?_
          rintro e w11 ⟨rfl, h11⟩
          subst h11
          clear c10 s10 b10 d10 hw10 k0 k1 l0 l1 lf0 lf1 c0 LN DG C9 B9 S9 W9 V9
          go_wp2_with fail
          go_roundg G.length
          case measure => omega
          case rel => exact ⟨_, y, vk, vn, rfl, by rw [HPL.out]; omega, hyy, fun e => (by cases e), D1.out, D2.out, D3.out, MN.out⟩
    · have hjN : (j : Int) < (N : Int) := by omega
      obtain ⟨g, o, rfl, e0, e1, e2⟩ := HS.out.row j (by omega)
      obtain ⟨T, hT⟩ : ∃ T, st j = T := ⟨_, rfl⟩
      have hth := HS.out.ths j (by omega)
      have hadd := HS.out.add j (by omega)
      have htot := HS.out.tot (j + 1) (by omega)
      rw [hT] at e0 e1 e2 hth hadd
      obtain ⟨kind, which, s, L⟩ := T
      simp only at e0 e1 e2 hth hadd
      obtain ⟨sa, sc, rfl⟩ := hth.form
      have lg : g < W.heap.size := World.block_lt_of_cell? _ _ e0
      have hb : wr.heap[g]? = W.heap[g]? := hci.ch.block g lg (fun h => h)
      have d0 : wr.cell? ⟨g, o + j * 3, none⟩ = some (.int .i64 kind) := (World.cell?_of_block (a := ⟨g, o + j * 3, none⟩) hb).trans e0
      have d1 : wr.cell? ⟨g, o + j * 3 + 1, none⟩ = some (.int .i64 which) := (World.cell?_of_block (a := ⟨g, o + j * 3 + 1, none⟩) hb).trans e1
      have d2 : wr.cell? ⟨g, o + j * 3 + 2, none⟩ = some (.slice sa L.length sc) := (World.cell?_of_block (a := ⟨g, o + j * 3 + 2, none⟩) hb).trans e2
      have lgr : g < wr.heap.size := Nat.lt_of_lt_of_le lg hci.ch.size
      clear e0 e1 e2 hb hT
      have C0 : Hid _ := hci
      have TH : Hid _ := hth
      have hln : H.length ≤ 2097152 := by have := hci.ln; omega
      clear hci hth
      go_upto_region 9 with fail
      obtain ⟨w3, hw3⟩ : ∃ w3, w3 = wr.alloc (.cells #[.int .i64 kind, .int .i64 which, .slice sa L.length sc] 30) := ⟨_, rfl⟩
      rw [← hw3]
      have hc3 : Chg (fun _ => False) wr w3 := by rw [hw3]; exact (Chg.refl _ _).alloc _
      have hO3 : Blk w3 wr.heap.size [.int .i64 kind, .int .i64 which, .slice sa L.length sc] 30 := by rw [hw3]; exact Blk.made wr [.int .i64 kind, .int .i64 which, .slice sa L.length sc] 30
      have hC3 := CInv.keep C0.out hc3
      have LN : Hid _ := hC3.len_any
      have DG : Hid _ := digits_any H.length (by omega) w3
      have x0 : w3.cell? ⟨q, 0, none⟩ = some (.int .i64 c) := hC3.ic.cell 0
      have xf := hC3.ic.fr 0
      have hqo : q < wr.heap.size := C0.out.ic.lt
      have hpo : p < wr.heap.size := by obtain ⟨v, h1, _⟩ := C0.out.hq; exact h1.lt
      have O3 : Hid _ := hO3
      have C3 : Hid _ := hC3
      have CH3 : Hid (Chg (fun k => k = q) wr w3) := hc3.mono (fun _ _ h => h.elim)
      have NV : Hid (∀ v, wr.cell? ⟨p, 1, none⟩ = some v → v.ownBlock ≠ some wr.heap.size) := fun v hv e => by
        obtain ⟨v0, h1, _⟩ := C0.out.hq
        have hv0 : wr.cell? ⟨p, 1, none⟩ = some v0 := h1.blk.cell 1
        have : v = v0 := by rw [hv0] at hv; injection hv with hv; exact hv.symm
        subst this
        have := h1.vlt _ e
        omega
      have hpq : p ≠ q := C0.out.ne
      clear hc3 hO3 hC3 hw3 d0 d1 d2
      go_upto_region 13 with (first | (go_at_call 12; refine Calls.mono LN.out ?_; rintro e w9 ⟨rfl, h9⟩; subst h9) | (go_at_call 13; refine Calls.mono DG.out ?_; rintro e w9 ⟨rfl, h9⟩; subst h9))
      obtain ⟨w4, hw4⟩ : ∃ w4, w4 = w3.setCell ⟨q, 0, none⟩ (.int .i64 0) := ⟨_, rfl⟩
      rw [← hw4]
      have hC4 : CInv W w4 q p H came 0 := by rw [hw4]; exact CInv.reset C3.out
      have hO4 : Blk w4 wr.heap.size [.int .i64 kind, .int .i64 which, .slice sa L.length sc] 30 := by
        rw [hw4]
        exact Blk.keep O3.out ((Chg.refl (fun k => k = q) _).setCell (p := ⟨q, 0, none⟩) (.inl rfl) _) (fun e => by omega)
      have y0 : w4.cell? ⟨wr.heap.size, 0, none⟩ = some (.int .i64 kind) := hO4.cell 0
      have y2 : w4.cell? ⟨wr.heap.size, 2, none⟩ = some (.slice sa L.length sc) := hO4.cell 2
      have z0 : w4.cell? ⟨q, 0, none⟩ = some (.int .i64 0) := hC4.ic.cell 0
      have C4 : Hid _ := hC4
      have O4 : Hid _ := hO4
      have SP : Hid (Sep w4 p q wr.heap.size) := by
        have hch : Chg (fun k => k = q) wr w4 := by rw [hw4]; exact CH3.out.setCell (p := ⟨q, 0, none⟩) (.inl rfl) _
        refine ⟨by omega, by omega, hO4.lt, fun v hv => NV.out v ?_⟩
        rw [World.cell?_of_block (a := ⟨p, 1, none⟩) (hch.block p hpo hpq)] at hv
        exact hv
      have hdl : dg H.length ≤ 2097152 := Nat.le_trans (dg_le _) hln
      clear hw4 hC4 hO4 x0 xf LN DG O3 C3 C0 CH3 NV
      generalize hB : wr.heap.size = B at *
      clear hB
      by_cases k1 : kind = 1
      · subst k1
        have MB : Hid (∀ t, t ≤ L.length → most H.length t ≤ 4398046511104) := fun t ht => by
          have := most_le H.length t
          have h9 : t * (H.length + t + 1) ≤ 1048576 * 4194304 := Nat.mul_le_mul (by omega) (by omega)
          omega
        go_upto_region 15 with fail
        go_wp2_with fail
        go_loopg [9, 10] (L.length + 1) (fun gk m k wq => ∃ t : Nat, k = .int .i64 t ∧ m = .int .i64 (most H.length t) ∧ t ≤ L.length ∧ L.length < gk + t ∧ wq = w4)
        case atStart => exact ⟨0, rfl, rfl, by omega, by omega, rfl⟩
        case round =>
          obtain ⟨t, rfl, rfl, ht, hgt, hw9⟩ := hrel
          subst hw9
          by_cases ht0 : t = L.length
          · subst ht0
            have PS : Hid _ := C4.out.push_any TH.out (by omega)
            have hmb := MB.out L.length (Nat.le_refl _)
            go_wp2_with fail
            refine Calls.mono PS.out ?_
            rintro e w5 ⟨rfl, ⟨x, hx, c5⟩, kp⟩
            have C5 : Hid _ := c5
            have u0 : w5.cell? ⟨q, 0, none⟩ = some (.int .i64 x) := c5.ic.cell 0
            obtain ⟨_, hO5⟩ := kp _ SP.out
            have y5 : w5.cell? ⟨B, 2, none⟩ = some (.slice sa L.length sc) := (World.cell?_of_block (a := ⟨B, 2, none⟩) hO5).trans y2
            have LN0 := fun m => c5.len_quiet m
            simp only [pushF_len, show ((H.length + L.length : Nat) : Int) = (H.length : Int) + (L.length : Int) by omega] at LN0
            have LN : Hid _ := LN0
            have hx' : (x : Int) ≤ (most H.length L.length : Int) := by omega
            clear c5 kp hO5 LN0 PS y0 y2 z0 hx
            go_wp2_with fail
            go_quiet ((go_at_call 12; refine Calls.quiet_of_same (LN.out _)))
            go_wp2_with fail
            go_roundg (N - j)
            case measure => omega
            case rel => exact ⟨j + 1, came + L.length, x, _, by go_num, by omega, by omega, by omega, by omega, CInv.keep C5.out ((Chg.refl _ _).drewN _)⟩
          · have htl : (t : Int) < (L.length : Int) := by omega
            have hmb := MB.out (t + 1) (by omega)
            have hmt := MB.out t (by omega)
            have hms : most H.length (t + 1) = most H.length t + dg (H.length + t) + 1 := rfl
            have DG0 := fun w9 => digits_any (H.length + t) (by omega) w9
            simp only [show ((H.length + t : Nat) : Int) = (H.length : Int) + (t : Int) by omega] at DG0
            have DG : Hid _ := DG0
            obtain ⟨D, hD⟩ : ∃ D, dg (H.length + t) = D := ⟨_, rfl⟩
            rw [hD] at DG hms
            obtain ⟨m, hm⟩ : ∃ m, most H.length t = m := ⟨_, rfl⟩
            rw [hm] at hms hmt ⊢
            rw [hms] at hmb
            have MS : Hid _ := hms
            clear DG0 hD hms
            go_wp2_with (go_at_call 13; refine Calls.mono (DG.out _) ?_; rintro e w9 ⟨rfl, h9⟩; subst h9)
            go_roundg (L.length - t)
            case measure => omega
            case rel => exact ⟨t + 1, by go_num, by rw [MS.out]; go_num, by omega, by omega, rfl⟩
      · have k1' : (kind == 1) = false := by simpa using k1
        by_cases k2 : kind = 2
        · subst k2
          have PK : Hid _ := C4.out.peek_any
          go_wp2_with (go_at_call 15; refine Calls.mono PK.out ?_; rintro e w5 ⟨⟨aa, bb, rfl⟩, c5⟩; have C5 : Hid _ := c5; have u0 : w5.cell? ⟨q, 0, none⟩ = some (.int .i64 0) := c5.ic.cell 0; clear c5)
          go_roundg (N - j)
          case measure => omega
          case rel => exact ⟨j + 1, came, 0, H, by go_num, by omega, by omega, by omega, by omega, C5.out⟩
        · have k2' : (kind == 2) = false := by simpa using k2
          by_cases k3 : kind = 3
          · subst k3
            have PP := C4.out.pop_any (by omega) (by omega)
            obtain ⟨tk, tn⟩ := (nth H 0).th
            unfold two at PP
            by_cases hpos : 0 < H.length
            · rw [decide_eq_true hpos] at PP
              have hpos' : (0 : Int) < (H.length : Int) := by omega
              have PH : Hid _ := PP
              clear PP
              go_wp2_with (go_at_call 16; refine Calls.mono PH.out ?_; rintro e w5 ⟨rfl, ⟨x, hx, c5⟩, _⟩; have C5 : Hid _ := c5; have hx' : (x : Int) ≤ 2 * (dg H.length : Int) + 2 := (by omega); have u0 : w5.cell? ⟨q, 0, none⟩ = some (.int .i64 x) := c5.ic.cell 0; have uq : q < w5.heap.size := c5.ic.lt; clear c5)
              go_roundg (N - j)
              case measure => omega
              case rel => exact ⟨j + 1, came, x, _, by go_num, by omega, by omega, by omega, by omega, CInv.keep C5.out ((Chg.refl _ _).alloc _)⟩
            · rw [decide_eq_false hpos] at PP
              have hpos' : ¬ ((0 : Int) < (H.length : Int)) := by omega
              have PH : Hid _ := PP
              clear PP
              go_wp2_with (go_at_call 16; refine Calls.mono PH.out ?_; rintro e w5 ⟨rfl, ⟨x, hx, c5⟩, _⟩; have C5 : Hid _ := c5; have hx' : (x : Int) ≤ 2 * (dg H.length : Int) + 2 := (by omega); have u0 : w5.cell? ⟨q, 0, none⟩ = some (.int .i64 x) := c5.ic.cell 0; have uq : q < w5.heap.size := c5.ic.lt; clear c5)
              go_roundg (N - j)
              case measure => omega
              case rel => exact ⟨j + 1, came, x, _, by go_num, by omega, by omega, by omega, by omega, CInv.keep C5.out ((Chg.refl _ _).alloc _)⟩
          · have k3' : (kind == 3) = false := by simpa using k3
            by_cases k4 : kind = 4
            · subst k4
              have ON : Hid _ := one_any (Ths.keep TH.out C4.out.ch (fun _ _ h => h))
              unfold two at ON
              go_wp2_with fail
              refine Calls.mono ON.out ?_
              rintro e w5 ⟨rfl, ch5⟩
              have C5 := C4.out.keep ch5
              have SW : Hid _ := C5.swap_any (by omega) (by omega) (headT L)
              unfold two at SW
              have O5 : Hid _ := Blk.keep O4.out ch5 (fun h => h)
              clear ch5 C5 ON
              go_wp2_with fail
              refine Calls.mono SW.out ?_
              rintro e w6 ⟨⟨aa, bb, rfl⟩, H', x, hx, hl', c6⟩
              have C6 : Hid _ := c6
              have LN : Hid _ := c6.len_any
              have hx' : (x : Int) ≤ 2 * (dg H.length : Int) + 2 := by omega
              have u0 : w6.cell? ⟨q, 0, none⟩ = some (.int .i64 x) := c6.ic.cell 0
              clear c6 hx
              obtain ⟨M, hM⟩ : ∃ M, H'.length = M := ⟨_, rfl⟩
              rw [hM] at LN hl'
              by_cases hpos : 0 < H.length
              · have hl9 : M = H.length := by omega
                subst hl9
                have hpos' : (1 : Int) ≤ (H.length : Int) := by omega
                clear hl' hM hpos
                go_wp2_with (go_at_call 12; refine Calls.mono LN.out ?_; rintro e w9 ⟨rfl, h9⟩; subst h9)
                go_roundg (N - j)
                case measure => omega
                case rel => exact ⟨j + 1, came + 1, x, _, by go_num, by omega, by omega, by omega, by omega, C6.out⟩
              · have hl9 : M = 1 := by omega
                subst hl9
                have hH : H = [] := List.eq_nil_of_length_eq_zero (by omega)
                subst hH
                have hd0 := dg_zero
                have hx2 : (x : Int) ≤ 2 := by
                  have : ([] : List E).length = 0 := rfl
                  rw [this, dg_zero] at hx'
                  omega
                clear hl' hM hpos hx' hdl
                go_wp2_with (go_at_call 12; refine Calls.mono LN.out ?_; rintro e w9 ⟨rfl, h9⟩; subst h9)
                go_roundg (N - j)
                case measure => omega
                case rel => exact ⟨j + 1, came + 1, x, _, by go_num, by omega, by omega, by omega, by omega, C6.out⟩
            · have k4' : (kind == 4) = false := by simpa using k4
              go_wp2_with fail
              go_roundg (N - j)
              case measure => omega
              case rel => exact ⟨j + 1, came, 0, H, by go_num, by omega, by omega, by omega, by omega, C4.out⟩

end Go.Proofs.Ytimklopibicjfaa
