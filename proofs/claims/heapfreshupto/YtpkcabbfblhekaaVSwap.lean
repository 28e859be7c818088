/-
  Swap.
-/
import Derived.Test.YtpkcabbfblhekaaVPure
namespace Go.Proofs.Ytpkcabbfblhekaa.V
open Go.RowKit

set_option maxRecDepth 100000 in
set_option maxHeartbeats 2000000 in
theorem swap_none {w : World} {p : Nat} {f v : Value} {came : Nat} {S : Nat → Prop} {I : Nat → World → Prop} {od : E → E → Int} {one : Nat} (O : Od f S I od one)
    (h : Hq w p f v [] came) (hp : ¬ S p) (hg : ∀ k, v.ownBlock = some k → ¬ S k) (c : Nat) (a : Int × Int × Int) (hcm : came + 1 ≤ 2097152) (hI : I c w) (hc : c < 1152921504606846976) (h1 : one ≤ 1) :
    Calls Try.prog 51 #[.pointer (some ⟨p, 0, none⟩), two a] w fun e w' => e = .returned (.tuple #[two (0, 0, 0), .bool false]) ∧ Stt w w' p f v.ownBlock (pushF od [a] [] came).1 (came + 1) (c + one * (pushF od [a] [] came).2) S I := by
  obtain ⟨ak, an, ai⟩ := a
  unfold two
  obtain ⟨w1, hw1⟩ : ∃ w1, w1 = (w.alloc (.cells #[.int .i64 ak, .int .i64 an, .int .i64 ai] 63)).alloc (.cells #[.int .i64 0, .int .i64 0, .int .i64 0] 63) := ⟨_, rfl⟩
  have hc1 : Chg (fun _ => False) w w1 := by rw [hw1]; exact ((Chg.refl _ _).alloc _).alloc _
  have hA1 : Blk w1 w.heap.size [.int .i64 ak, .int .i64 an, .int .i64 ai] 63 := by rw [hw1]; exact (Blk.made w [.int .i64 ak, .int .i64 an, .int .i64 ai] 63).alloc _
  have hR1 : Blk w1 (w.heap.size + 1) [.int .i64 0, .int .i64 0, .int .i64 0] 63 := by
    rw [hw1]
    have := Blk.made (w.alloc (.cells #[.int .i64 ak, .int .i64 an, .int .i64 ai] 63)) [.int .i64 0, .int .i64 0, .int .i64 0] 63
    rwa [show (w.alloc (.cells #[.int .i64 ak, .int .i64 an, .int .i64 ai] 63)).heap.size = w.heap.size + 1 by simp] at this
  have hq1 := h.keep hc1 (fun h => h) (fun _ _ h => h)
  have PK : Hid _ := peek_none hq1
  have W1 : Hid _ := hw1
  have hltp : p < w.heap.size := h.lt
  have OO : Hid _ := O
  have VL : Hid _ := h.vlt
  have I1 : Hid (I c w1) := O.keep hI hc1 (fun _ h => h.elim)
  have I0 : Hid (I c w) := hI
  have NP : Hid _ := hp
  have NG : Hid _ := hg
  have A1 : Hid _ := hA1
  have R1 : Hid _ := hR1
  have Q1 : Hid _ := hq1
  have C1 : Hid _ := hc1
  unfold two at PK
  clear hw1 hA1 hR1 hq1 h O hI hp hg hc1
  go_enter Try.func51, Try.ntmps51
  go_wp2_with fail
  rw [← W1.out]
  refine Calls.mono PK.out ?_
  rintro e w2 ⟨rfl, ch2⟩
  have A2 := Blk.keep A1.out ch2 (fun h => h)
  have R2 := Blk.keep R1.out ch2 (fun h => h)
  have Q2 : Hid _ := Hq.keep Q1.out ch2 (fun h => h) (fun _ _ h => h)
  have I2 : Hid (I c w2) := OO.out.keep I1.out ch2 (fun _ h => h.elim)
  have C2 : Hid (Chg (fun _ => False) w w2) := C1.out.trans ch2 (fun _ h => h.elim)
  have ltA : w.heap.size + 1 < w2.heap.size := R2.lt
  have q0 : w2.cell? ⟨w.heap.size, 0, none⟩ = some (.int .i64 ak) := A2.cell 0
  have q1 : w2.cell? ⟨w.heap.size, 1, none⟩ = some (.int .i64 an) := A2.cell 1
  have q2 : w2.cell? ⟨w.heap.size, 2, none⟩ = some (.int .i64 ai) := A2.cell 2
  have RR : Hid _ := R2
  have ltA0 : w.heap.size < w2.heap.size := by omega
  clear ch2 A2 R2 PK W1 I1 A1 R1 Q1 C1
  go_wp2_with fail
  obtain ⟨w3, hw3⟩ : ∃ w3, w3 = (w2.alloc (.cells #[.int .i64 0, .int .i64 0, .int .i64 0] 63)).alloc (.cells #[.int .i64 ak, .int .i64 an, .int .i64 ai] 63) := ⟨_, rfl⟩
  rw [← hw3]
  have hc3 : Chg (fun _ => False) w2 w3 := by rw [hw3]; exact ((Chg.refl _ _).alloc _).alloc _
  have hF3 : Blk w3 w2.heap.size [.int .i64 0, .int .i64 0, .int .i64 0] 63 := by rw [hw3]; exact (Blk.made w2 [.int .i64 0, .int .i64 0, .int .i64 0] 63).alloc _
  have hL3 : Blk w3 (w2.heap.size + 1) [.int .i64 ak, .int .i64 an, .int .i64 ai] 63 := by
    rw [hw3]
    have := Blk.made (w2.alloc (.cells #[.int .i64 0, .int .i64 0, .int .i64 0] 63)) [.int .i64 ak, .int .i64 an, .int .i64 ai] 63
    rwa [show (w2.alloc (.cells #[.int .i64 0, .int .i64 0, .int .i64 0] 63)).heap.size = w2.heap.size + 1 by simp] at this
  have hR3 := Blk.keep RR.out hc3 (fun h => h)
  have sz3 : w2.heap.size ≤ w3.heap.size := hc3.size
  have hlow : ∀ k, w.heap.size ≤ k → ¬ S k := fun k hk hs => by have := OO.out.low I0.out hs; omega
  have PS : Hid _ := push_any OO.out (Hq.keep Q2.out hc3 (fun h => h) (fun _ _ h => h)) NP.out NG.out c (s := .slice (some ⟨w2.heap.size + 1, 0, none⟩) 1 1) (L := [(ak, an, ai)]) (.inr (.inr ⟨w2.heap.size + 1, 0, 1, rfl, fun i a hi => by
      cases i with
      | zero => have : (ak, an, ai) = a := by simpa using hi
                subst this; exact ⟨hL3.cell 0, hL3.cell 1, hL3.cell 2⟩
      | succ i => simp at hi⟩)) (fun k _ hk => by
      have h9 : w2.heap.size + 1 = k := by simpa [Value.ownBlock] using hk
      refine ⟨by omega, fun e => ?_, hlow k (by omega), by rw [← h9]; exact hL3.lt⟩
      have := VL.out k e.symm
      omega) (by simp) (by simpa using hcm) (OO.out.keep I2.out hc3 (fun _ h => h.elim)) (by simp; omega) h1
  have F3 : Hid _ := hF3
  have R3 : Hid _ := hR3
  have C3 : Hid (Chg (fun _ => False) w w3) := C2.out.trans hc3 (fun _ h => h.elim)
  have LW : Hid _ := hlow
  clear hc3 hF3 hL3 hR3 hw3 Q2 I2 C2 RR q0 q1 hlow
  refine Calls.mono PS.out ?_
  rintro e w4 ⟨rfl, st4⟩
  have hns : ∀ k, w.heap.size ≤ k → ¬ (k = p ∨ some k = v.ownBlock ∨ S k) := fun k hk e => by
    rcases e with e | e | e
    · omega
    · have := VL.out k e.symm; omega
    · exact LW.out k hk e
  have F4 := Blk.keep F3.out st4.ch (hns _ (by omega))
  have R4 := Blk.keep R3.out st4.ch (hns _ (by omega))
  have k0 : w4.cell? ⟨w2.heap.size, 0, none⟩ = some (.int .i64 0) := F4.cell 0
  have k1 : w4.cell? ⟨w2.heap.size, 1, none⟩ = some (.int .i64 0) := F4.cell 1
  have k2 : w4.cell? ⟨w2.heap.size, 2, none⟩ = some (.int .i64 0) := F4.cell 2
  have r0 : w4.cell? ⟨w.heap.size + 1, 0, none⟩ = some (.int .i64 0) := R4.cell 0
  have r1 : w4.cell? ⟨w.heap.size + 1, 1, none⟩ = some (.int .i64 0) := R4.cell 1
  have r2 : w4.cell? ⟨w.heap.size + 1, 2, none⟩ = some (.int .i64 0) := R4.cell 2
  have z0 := R4.fr 0
  have z1 := R4.fr 1
  have z2 := R4.fr 2
  have lt4 : w.heap.size + 1 < w4.heap.size := R4.lt
  have RB : Hid _ := R4
  have ST : Hid _ := st4
  have NS : Hid _ := hns
  clear st4 F4 R4 F3 R3 PS hns
  go_wp2_with fail
  refine bodyPost_ret (results_row2 (t := 63) rfl _ _ (w.heap.size + 1) [.int .i64 0, .int .i64 0, .int .i64 0] _ _ rfl ?_ Try.underlying63 rfl sz26 rfl) rfl ?_
  · exact ((RB.out.set 0 (.int .i64 0)).set 1 (.int .i64 0)).set 2 (.int .i64 0)
  · have hcR : Chg (fun k => k = w.heap.size + 1) w4 (((w4.setCell ⟨w.heap.size + 1, 0, none⟩ (.int .i64 0)).setCell ⟨w.heap.size + 1, 1, none⟩ (.int .i64 0)).setCell ⟨w.heap.size + 1, 2, none⟩ (.int .i64 0)) := (((Chg.refl (fun k => k = w.heap.size + 1) _).setCell (p := ⟨w.heap.size + 1, 0, none⟩) (.inl rfl) _).setCell (p := ⟨w.heap.size + 1, 1, none⟩) (.inl rfl) _).setCell (p := ⟨w.heap.size + 1, 2, none⟩) (.inl rfl) _
    obtain ⟨⟨v4, hq4, hv4⟩, hi4, hch4⟩ := ST.out
    have hs3 : w.heap.size + 1 < w3.heap.size := by omega
    refine ⟨rfl, ⟨v4, hq4.keep hcR (fun e => by omega) (fun k hk e => ?_), fun k hk => ?_⟩, OO.out.keep hi4 hcR (fun k hk hs => LW.out k (by omega) hs), ?_⟩
    · rcases hv4 k hk with h9 | h9
      · have := VL.out k h9.symm; omega
      · omega
    · rcases hv4 k hk with h9 | h9
      · exact .inl h9
      · exact .inr (by omega)
    · exact ((C3.out.mono (fun _ _ h => h.elim)).trans hch4 (fun _ h => .inl h)).trans hcR (fun k hk => .inr (by omega))

set_option maxRecDepth 100000 in
set_option maxHeartbeats 2000000 in
theorem swap_some {w : World} {p : Nat} {f : Value} {g m cap : Nat} {H : List E} {sp : List Value} {came : Nat} {S : Nat → Prop} {I : Nat → World → Prop} {od : E → E → Int} {one : Nat} (O : Od f S I od one)
    (h : Hp w p f g (m + 1) cap H sp came) (hp : ¬ S p) (hg : ¬ S g) (c : Nat) (a : Int × Int × Int) (hcm : came + 1 ≤ 2097152) (hn : m + 1 ≤ 2097152) (hI : I c w) (hc : c < 1152921504606846976) (h1 : one ≤ 1) :
    Calls Try.prog 51 #[.pointer (some ⟨p, 0, none⟩), two a] w fun e w' => e = .returned (.tuple #[two (nth H 0).th, .bool true]) ∧
      Stt w w' p f (some g) (swapF od H ⟨a.1, a.2.1, a.2.2, (came : Int) + 1⟩).1 (came + 1) (c + one * (swapF od H ⟨a.1, a.2.1, a.2.2, (came : Int) + 1⟩).2) S I := by
  obtain ⟨ak, an, ai⟩ := a
  obtain ⟨t, ht⟩ : ∃ t, (nth H 0).th = t := ⟨_, rfl⟩
  have hlen : Hid (H.length = m + 1) := h.len
  obtain ⟨w1, hw1⟩ : ∃ w1, w1 = (w.alloc (.cells #[.int .i64 ak, .int .i64 an, .int .i64 ai] 63)).alloc (.cells #[.int .i64 0, .int .i64 0, .int .i64 0] 63) := ⟨_, rfl⟩
  have hc1 : Chg (fun _ => False) w w1 := by rw [hw1]; exact ((Chg.refl _ _).alloc _).alloc _
  have hA1 : Blk w1 w.heap.size [.int .i64 ak, .int .i64 an, .int .i64 ai] 63 := by rw [hw1]; exact (Blk.made w [.int .i64 ak, .int .i64 an, .int .i64 ai] 63).alloc _
  have hR1 : Blk w1 (w.heap.size + 1) [.int .i64 0, .int .i64 0, .int .i64 0] 63 := by
    rw [hw1]
    have := Blk.made (w.alloc (.cells #[.int .i64 ak, .int .i64 an, .int .i64 ai] 63)) [.int .i64 0, .int .i64 0, .int .i64 0] 63
    rwa [show (w.alloc (.cells #[.int .i64 ak, .int .i64 an, .int .i64 ai] 63)).heap.size = w.heap.size + 1 by simp] at this
  have hq1 := h.keep hc1 (fun h => h) (fun h => h)
  have PK := peek_some hq1 (by omega)
  rw [ht] at PK
  obtain ⟨tk, tn, ti⟩ := t
  have PP : Hid _ := PK
  have W1 : Hid _ := hw1
  have hltp : p < w.heap.size := h.blk.lt
  have hltg : g < w.heap.size := h.row.lt
  have hne : g ≠ p := h.ne
  have OO : Hid _ := O
  have I1 : Hid (I c w1) := O.keep hI hc1 (fun _ h => h.elim)
  have NP : Hid _ := hp
  have NG : Hid _ := hg
  have LW : Hid (∀ k, w.heap.size ≤ k → ¬ S k) := fun k hk hs => by have := O.low hI hs; omega
  have A1 : Hid _ := hA1
  have R1 : Hid _ := hR1
  have Q1 : Hid _ := hq1
  have C1 : Hid _ := hc1
  have HT : Hid _ := ht
  unfold two at PP ⊢
  rw [HT.out]
  clear hw1 hA1 hR1 hq1 h O hI hp hg hc1 ht PK
  go_enter Try.func51, Try.ntmps51
  go_wp2_with fail
  rw [← W1.out]
  refine Calls.mono PP.out ?_
  rintro e w2 ⟨rfl, ch2⟩
  have A2 := Blk.keep A1.out ch2 (fun h => h)
  have R2 := Blk.keep R1.out ch2 (fun h => h)
  have Q2 : Hid _ := Hp.keep Q1.out ch2 (fun h => h) (fun h => h)
  have I2 : Hid (I c w2) := OO.out.keep I1.out ch2 (fun _ h => h.elim)
  have C2 : Hid (Chg (fun _ => False) w w2) := C1.out.trans ch2 (fun _ h => h.elim)
  have ltA : w.heap.size + 1 < w2.heap.size := R2.lt
  have AA : Hid _ := A2
  have RR : Hid _ := R2
  clear ch2 A2 R2 PP W1 I1 A1 R1 Q1 C1
  go_upto_region 5 with fail
  obtain ⟨w3, hw3⟩ : ∃ w3, w3 = w2.alloc (.cells #[.int .i64 tk, .int .i64 tn, .int .i64 ti] 63) := ⟨_, rfl⟩
  rw [← hw3]
  have hc3 : Chg (fun _ => False) w2 w3 := by rw [hw3]; exact (Chg.refl _ _).alloc _
  have hF3 : Blk w3 w2.heap.size [.int .i64 tk, .int .i64 tn, .int .i64 ti] 63 := by rw [hw3]; exact Blk.made w2 [.int .i64 tk, .int .i64 tn, .int .i64 ti] 63
  have hR3 := Blk.keep RR.out hc3 (fun h => h)
  have hA3 := Blk.keep AA.out hc3 (fun h => h)
  have hQ3 := Hp.keep Q2.out hc3 (fun h => h) (fun h => h)
  have NB : Hid _ := numbered_any (w := w3.drew) hQ3.blk.drew (by omega) ak an ai
  have c1 : w3.cell? ⟨p, 1, none⟩ = some (.slice (some ⟨g, 0, none⟩) (m + 1) cap) := hQ3.blk.cell 1
  have c2 : w3.cell? ⟨w.heap.size, 0, none⟩ = some (.int .i64 ak) := hA3.cell 0
  have c3 : w3.cell? ⟨w.heap.size, 1, none⟩ = some (.int .i64 an) := hA3.cell 1
  have c4 : w3.cell? ⟨w.heap.size, 2, none⟩ = some (.int .i64 ai) := hA3.cell 2
  have I3 : Hid (I c w3.drew) := OO.out.keep I2.out hc3.drew (fun _ h => h.elim)
  have C3 : Hid (Chg (fun k => k = p ∨ some k = some g ∨ S k) w w3) := (C2.out.trans hc3 (fun _ h => h.elim)).mono (fun _ _ h => h.elim)
  have F3 : Hid _ := hF3
  have R3 : Hid _ := hR3
  have A3 : Hid _ := hA3
  have Q3 : Hid _ := hQ3
  have ltF : w2.heap.size < w3.heap.size := hF3.lt
  clear hc3 hF3 hR3 hA3 hQ3 hw3 Q2 I2 C2 RR AA
  refine wp_region_held_drew (S := fun w' => w'.cell? ⟨w.heap.size, 0, none⟩ = some (.int .i64 ak) ∧ w'.cell? ⟨w.heap.size, 1, none⟩ = some (.int .i64 an) ∧ w'.cell? ⟨w.heap.size, 2, none⟩ = some (.int .i64 ai)) (by kernel_rfl) ⟨c2, c3, c4⟩ (fun hH => ?_)
  refine wpAnyH_take (i := 0) (v := .pointer (some ⟨p, 0, none⟩)) rfl (by kernel_rfl) (by kernel_rfl) (by kernel_rfl) (fun _ _ _ h => h) (Or.inl ⟨by rfl, fun w' hw' => by go_simp⟩) hH ?_
  refine wpAnyH_take (i := 1) (v := .pointer (some ⟨p, 0, none⟩)) rfl (by kernel_rfl) (by kernel_rfl) (by kernel_rfl) (fun _ _ _ h => h) (Or.inl ⟨by rfl, fun w' hw' => by go_simp⟩) hH ?_
  refine wpAnyH_take (i := 2) (v := .pointer (some ⟨p, 1, none⟩)) rfl (by kernel_rfl) (by kernel_rfl) (by kernel_rfl) (fun _ _ _ h => h) (Or.inl ⟨by rfl, fun w' hw' => by go_simp⟩) hH ?_
  refine wpAnyH_take (i := 4) (v := .pointer (some ⟨p, 0, none⟩)) rfl (by kernel_rfl) (by kernel_rfl) (by kernel_rfl) (fun _ _ _ h => h) (Or.inl ⟨by rfl, fun w' hw' => by go_simp⟩) hH ?_
  refine wpAnyH_take (i := 5) (v := .agg #[.int .i64 ak, .int .i64 an, .int .i64 ai]) rfl (by kernel_rfl) (by kernel_rfl) (by kernel_rfl) (fun _ _ _ h => h) (Or.inl ⟨by rfl, fun w' hw' => by have q1 := hw'.1; have q2 := hw'.2.1; have q9 := hw'.2.2; go_simp⟩) hH ?_
  refine wpAnyH_ready (rs := [3, 6]) (by kernel_rfl) (by simp) ?_
  refine AllReadyH.cons rfl (fun K hK => ?_) (AllReadyH.cons rfl (fun K hK => ?_) AllReadyH.nil)
  · go_simp
    refine hK.out _ _ hH (fun _ => ?_)
    clear hK K
    refine wpAnyH_ready (rs := [6]) (by kernel_rfl) (by simp) ?_
    refine AllReadyH.cons rfl (fun K hK => ?_) AllReadyH.nil
    go_simp
    refine Calls.mono NB.out ?_
    rintro e w4 ⟨rfl, b4, ch4⟩
    have hch4 : Chg (fun x => x = p) w3 w4 := ((Chg.refl _ w3).drew).trans ch4 (fun _ h => .inl h)
    obtain ⟨x, hx⟩ : ∃ x : E, x = ⟨ak, an, ai, (came : Int) + 1⟩ := ⟨_, rfl⟩
    rw [← hx]
    have HX : Hid _ := hx
    clear hx
    have hA4 := Blk.keep A3.out hch4 (fun e => by omega)
    have F4 : Hid _ := Blk.keep F3.out hch4 (fun e => by omega)
    have R4 : Hid _ := Blk.keep R3.out hch4 (fun e => by omega)
    have hQ4 : Hp w4 p f g (m + 1) cap H sp (came + 1) := ⟨b4, Q3.out.row.keep hch4 Q3.out.ne, Q3.out.len, Q3.out.spl, Q3.out.ne, Q3.out.cl⟩
    have I4 : Hid (I c w4) := OO.out.keep I3.out ch4 (fun k hk hs => NP.out (hk ▸ hs))
    have C4 : Hid (Chg (fun k => k = p ∨ some k = some g ∨ S k) w w4) := C3.out.trans hch4 (fun _ h => .inl (.inl h))
    refine hK.out _ _ ⟨hA4.cell 0, hA4.cell 1, hA4.cell 2⟩ (fun h2 => ?_)
    clear hK K hH
    refine wpAnyH_take (i := 7) (v := .pointer (some ⟨g, 0, none⟩)) rfl (by kernel_rfl) (by kernel_rfl) (by kernel_rfl) (fun _ _ _ h => h) (Or.inl ⟨by rfl, fun w' hw' => by go_simp⟩) h2 ?_
    obtain ⟨hQ5, hc5⟩ := Hp.put hQ4 (Nat.succ_pos m) x
    simp only [Nat.zero_mul, Nat.zero_add] at hQ5 hc5
    obtain ⟨y0, y1, y2, y3⟩ := rowE_at H sp 0 (by rw [hlen.out]; omega)
    rw [← hQ4.row.cell, Nat.zero_mul] at y0
    rw [← hQ4.row.cell, Nat.zero_mul, Nat.zero_add] at y1 y2 y3
    have f0 := hQ4.row.fr 0
    have f1 := hQ4.row.fr 1
    have f2 := hQ4.row.fr 2
    have f3 := hQ4.row.fr 3
    obtain ⟨w5, hw5⟩ : ∃ w5, w5 = (((w4.setCell ⟨g, 0, none⟩ (.int .i64 x.k)).setCell ⟨g, 1, none⟩ (.int .i64 x.n)).setCell ⟨g, 2, none⟩ (.int .i64 x.i)).setCell ⟨g, 3, none⟩ (.int .i64 x.num) := ⟨_, rfl⟩
    rw [← hw5] at hQ5 hc5
    have hA5 := Blk.keep hA4 hc5 (fun e => by omega)
    have W5 : Hid _ := hw5
    have Q5 : Hid _ := hQ5
    have C5 : Hid (Chg (fun k => k = p ∨ some k = some g ∨ S k) w w5) := C4.out.trans hc5 (fun _ h => .inl (.inr (.inl (by rw [h]))))
    have I5 : Hid (I c w5) := OO.out.keep I4.out hc5 (fun k hk hs => NG.out (hk ▸ hs))
    have F5 : Hid _ := Blk.keep F4.out hc5 (fun e => by omega)
    have R5 : Hid _ := Blk.keep R4.out hc5 (fun e => by omega)
    clear hw5 hQ5 hc5
    refine wpAnyH_ready (rs := [8]) (by kernel_rfl) (by simp) ?_
    refine AllReadyH.cons rfl (fun K hK => ?_) AllReadyH.nil
    unfold E.val
    go_simp
    rw [← W5.out]
    refine hK.out _ _ ⟨hA5.cell 0, hA5.cell 1, hA5.cell 2⟩ (fun _ => ?_)
    clear hK K
    refine wpAnyH_done (by kernel_rfl) ?_ _
    have SK : Hid _ := sink_any OO.out Q5.out NP.out NG.out c (by omega) I5.out (by omega) h1
    clear hA5 hA4 hQ4 h2 y0 y1 y2 y3 f0 f1 f2 f3 b4 ch4 hch4 c1 c2 c3 c4
    go_wp2_with fail
    refine Calls.mono SK.out ?_
    rintro e w6 ⟨rfl, hQ6, hI6, hc6⟩
    have hF6 := Blk.keep F5.out hc6 (fun e => by rcases e with e | e; omega; exact LW.out _ (by omega) e)
    have hR6 := Blk.keep R5.out hc6 (fun e => by rcases e with e | e; omega; exact LW.out _ (by omega) e)
    have C6 : Hid (Chg (fun k => k = p ∨ some k = some g ∨ S k) w w6) := C5.out.trans hc6 (fun _ h => .inl (by rcases h with h | h; exact .inr (.inl (by rw [h])); exact .inr (.inr h)))
    have Q6 : Hid _ := hQ6
    have I6 : Hid _ := hI6
    have k0 : w6.cell? ⟨w2.heap.size, 0, none⟩ = some (.int .i64 tk) := hF6.cell 0
    have k1 : w6.cell? ⟨w2.heap.size, 1, none⟩ = some (.int .i64 tn) := hF6.cell 1
    have k2 : w6.cell? ⟨w2.heap.size, 2, none⟩ = some (.int .i64 ti) := hF6.cell 2
    have r0 : w6.cell? ⟨w.heap.size + 1, 0, none⟩ = some (.int .i64 0) := hR6.cell 0
    have r1 : w6.cell? ⟨w.heap.size + 1, 1, none⟩ = some (.int .i64 0) := hR6.cell 1
    have r2 : w6.cell? ⟨w.heap.size + 1, 2, none⟩ = some (.int .i64 0) := hR6.cell 2
    have z0 := hR6.fr 0
    have z1 := hR6.fr 1
    have z2 := hR6.fr 2
    have RB : Hid _ := hR6
    clear hF6 hR6 hc6 hQ6 hI6 SK F5 R5 I5 C5 Q5
    go_wp2_with fail
    refine bodyPost_ret (results_row2 (t := 63) rfl _ _ (w.heap.size + 1) [.int .i64 tk, .int .i64 tn, .int .i64 ti] _ _ rfl ?_ Try.underlying63 rfl sz26 rfl) rfl ?_
    · exact ((RB.out.set 0 (.int .i64 tk)).set 1 (.int .i64 tn)).set 2 (.int .i64 ti)
    · have hcR : Chg (fun k => k = w.heap.size + 1) w6 (((w6.setCell ⟨w.heap.size + 1, 0, none⟩ (.int .i64 tk)).setCell ⟨w.heap.size + 1, 1, none⟩ (.int .i64 tn)).setCell ⟨w.heap.size + 1, 2, none⟩ (.int .i64 ti)) := (((Chg.refl (fun k => k = w.heap.size + 1) _).setCell (p := ⟨w.heap.size + 1, 0, none⟩) (.inl rfl) _).setCell (p := ⟨w.heap.size + 1, 1, none⟩) (.inl rfl) _).setCell (p := ⟨w.heap.size + 1, 2, none⟩) (.inl rfl) _
      have hsw : swapF od H ⟨ak, an, ai, (came : Int) + 1⟩ = sinkF od (m + 1) 0 (H.set 0 x) := by unfold swapF; rw [hlen.out, HX.out]
      rw [hsw]
      exact ⟨rfl, ⟨_, (Hp.keep Q6.out hcR (fun e => by omega) (fun e => by omega)).hq, fun k hk => .inl hk.symm⟩, OO.out.keep I6.out hcR (fun k hk hs => LW.out k (by omega) hs), C6.out.trans hcR (fun k hk => .inr (by omega))⟩
  · go_simp
    refine Calls.mono NB.out ?_
    rintro e w4 ⟨rfl, b4, ch4⟩
    have hch4 : Chg (fun x => x = p) w3 w4 := ((Chg.refl _ w3).drew).trans ch4 (fun _ h => .inl h)
    obtain ⟨x, hx⟩ : ∃ x : E, x = ⟨ak, an, ai, (came : Int) + 1⟩ := ⟨_, rfl⟩
    rw [← hx]
    have HX : Hid _ := hx
    clear hx
    have hA4 := Blk.keep A3.out hch4 (fun e => by omega)
    have F4 : Hid _ := Blk.keep F3.out hch4 (fun e => by omega)
    have R4 : Hid _ := Blk.keep R3.out hch4 (fun e => by omega)
    have hQ4 : Hp w4 p f g (m + 1) cap H sp (came + 1) := ⟨b4, Q3.out.row.keep hch4 Q3.out.ne, Q3.out.len, Q3.out.spl, Q3.out.ne, Q3.out.cl⟩
    have I4 : Hid (I c w4) := OO.out.keep I3.out ch4 (fun k hk hs => NP.out (hk ▸ hs))
    have C4 : Hid (Chg (fun k => k = p ∨ some k = some g ∨ S k) w w4) := C3.out.trans hch4 (fun _ h => .inl (.inl h))
    refine hK.out _ _ ⟨hA4.cell 0, hA4.cell 1, hA4.cell 2⟩ (fun h2 => ?_)
    clear hK K hH
    have k41 : w4.cell? ⟨p, 1, none⟩ = some (.slice (some ⟨g, 0, none⟩) (m + 1) cap) := b4.cell 1
    refine wpAnyH_ready (rs := [3]) (by kernel_rfl) (by simp) ?_
    refine AllReadyH.cons rfl (fun K hK => ?_) AllReadyH.nil
    unfold E.val
    go_simp
    refine hK.out _ _ h2 (fun _ => ?_)
    clear hK K k41
    refine wpAnyH_take (i := 7) (v := .pointer (some ⟨g, 0, none⟩)) rfl (by kernel_rfl) (by kernel_rfl) (by kernel_rfl) (fun _ _ _ h => h) (Or.inl ⟨by rfl, fun w' hw' => by go_simp⟩) h2 ?_
    obtain ⟨hQ5, hc5⟩ := Hp.put hQ4 (Nat.succ_pos m) x
    simp only [Nat.zero_mul, Nat.zero_add] at hQ5 hc5
    obtain ⟨y0, y1, y2, y3⟩ := rowE_at H sp 0 (by rw [hlen.out]; omega)
    rw [← hQ4.row.cell, Nat.zero_mul] at y0
    rw [← hQ4.row.cell, Nat.zero_mul, Nat.zero_add] at y1 y2 y3
    have f0 := hQ4.row.fr 0
    have f1 := hQ4.row.fr 1
    have f2 := hQ4.row.fr 2
    have f3 := hQ4.row.fr 3
    obtain ⟨w5, hw5⟩ : ∃ w5, w5 = (((w4.setCell ⟨g, 0, none⟩ (.int .i64 x.k)).setCell ⟨g, 1, none⟩ (.int .i64 x.n)).setCell ⟨g, 2, none⟩ (.int .i64 x.i)).setCell ⟨g, 3, none⟩ (.int .i64 x.num) := ⟨_, rfl⟩
    rw [← hw5] at hQ5 hc5
    have hA5 := Blk.keep hA4 hc5 (fun e => by omega)
    have W5 : Hid _ := hw5
    have Q5 : Hid _ := hQ5
    have C5 : Hid (Chg (fun k => k = p ∨ some k = some g ∨ S k) w w5) := C4.out.trans hc5 (fun _ h => .inl (.inr (.inl (by rw [h]))))
    have I5 : Hid (I c w5) := OO.out.keep I4.out hc5 (fun k hk hs => NG.out (hk ▸ hs))
    have F5 : Hid _ := Blk.keep F4.out hc5 (fun e => by omega)
    have R5 : Hid _ := Blk.keep R4.out hc5 (fun e => by omega)
    clear hw5 hQ5 hc5
    refine wpAnyH_ready (rs := [8]) (by kernel_rfl) (by simp) ?_
    refine AllReadyH.cons rfl (fun K hK => ?_) AllReadyH.nil
    go_simp
    rw [← W5.out]
    refine hK.out _ _ ⟨hA5.cell 0, hA5.cell 1, hA5.cell 2⟩ (fun _ => ?_)
    clear hK K
    refine wpAnyH_done (by kernel_rfl) ?_ _
    have SK : Hid _ := sink_any OO.out Q5.out NP.out NG.out c (by omega) I5.out (by omega) h1
    clear hA5 hA4 hQ4 h2 y0 y1 y2 y3 f0 f1 f2 f3 b4 ch4 hch4 c1 c2 c3 c4
    go_wp2_with fail
    refine Calls.mono SK.out ?_
    rintro e w6 ⟨rfl, hQ6, hI6, hc6⟩
    have hF6 := Blk.keep F5.out hc6 (fun e => by rcases e with e | e; omega; exact LW.out _ (by omega) e)
    have hR6 := Blk.keep R5.out hc6 (fun e => by rcases e with e | e; omega; exact LW.out _ (by omega) e)
    have C6 : Hid (Chg (fun k => k = p ∨ some k = some g ∨ S k) w w6) := C5.out.trans hc6 (fun _ h => .inl (by rcases h with h | h; exact .inr (.inl (by rw [h])); exact .inr (.inr h)))
    have Q6 : Hid _ := hQ6
    have I6 : Hid _ := hI6
    have k0 : w6.cell? ⟨w2.heap.size, 0, none⟩ = some (.int .i64 tk) := hF6.cell 0
    have k1 : w6.cell? ⟨w2.heap.size, 1, none⟩ = some (.int .i64 tn) := hF6.cell 1
    have k2 : w6.cell? ⟨w2.heap.size, 2, none⟩ = some (.int .i64 ti) := hF6.cell 2
    have r0 : w6.cell? ⟨w.heap.size + 1, 0, none⟩ = some (.int .i64 0) := hR6.cell 0
    have r1 : w6.cell? ⟨w.heap.size + 1, 1, none⟩ = some (.int .i64 0) := hR6.cell 1
    have r2 : w6.cell? ⟨w.heap.size + 1, 2, none⟩ = some (.int .i64 0) := hR6.cell 2
    have z0 := hR6.fr 0
    have z1 := hR6.fr 1
    have z2 := hR6.fr 2
    have RB : Hid _ := hR6
    clear hF6 hR6 hc6 hQ6 hI6 SK F5 R5 I5 C5 Q5
    go_wp2_with fail
    refine bodyPost_ret (results_row2 (t := 63) rfl _ _ (w.heap.size + 1) [.int .i64 tk, .int .i64 tn, .int .i64 ti] _ _ rfl ?_ Try.underlying63 rfl sz26 rfl) rfl ?_
    · exact ((RB.out.set 0 (.int .i64 tk)).set 1 (.int .i64 tn)).set 2 (.int .i64 ti)
    · have hcR : Chg (fun k => k = w.heap.size + 1) w6 (((w6.setCell ⟨w.heap.size + 1, 0, none⟩ (.int .i64 tk)).setCell ⟨w.heap.size + 1, 1, none⟩ (.int .i64 tn)).setCell ⟨w.heap.size + 1, 2, none⟩ (.int .i64 ti)) := (((Chg.refl (fun k => k = w.heap.size + 1) _).setCell (p := ⟨w.heap.size + 1, 0, none⟩) (.inl rfl) _).setCell (p := ⟨w.heap.size + 1, 1, none⟩) (.inl rfl) _).setCell (p := ⟨w.heap.size + 1, 2, none⟩) (.inl rfl) _
      have hsw : swapF od H ⟨ak, an, ai, (came : Int) + 1⟩ = sinkF od (m + 1) 0 (H.set 0 x) := by unfold swapF; rw [hlen.out, HX.out]
      rw [hsw]
      exact ⟨rfl, ⟨_, (Hp.keep Q6.out hcR (fun e => by omega) (fun e => by omega)).hq, fun k hk => .inl hk.symm⟩, OO.out.keep I6.out hcR (fun k hk hs => LW.out k (by omega) hs), C6.out.trans hcR (fun k hk => .inr (by omega))⟩

end Go.Proofs.Ytpkcabbfblhekaa.V
