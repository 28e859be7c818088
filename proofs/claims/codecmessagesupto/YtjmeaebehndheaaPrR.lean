/-
  The reading of proofs: what each op says of the tower that it meets.
-/
import Derived.Test.YtjmeaebehndheaaTwK
namespace Go.Proofs.Ytjmeaebehndheaa
open Go.RowKit

def opC (ki lv : Nat) (s : Value) (ct : Nat) (sm : List Int) (v : Value) : List Value := .int .i64 ki :: .int .i64 lv :: s :: .int .u64 ct :: (bs sm ++ [v])
theorem opC_len (ki lv : Nat) (s : Value) (ct : Nat) (sm : List Int) (v : Value) : (opC ki lv s ct sm v).length = sm.length + 5 := by simp [opC, bs]
theorem opC_one (ki lv : Nat) {s : Value} (hs : s.oneCell' = true) (ct : Nat) (sm : List Int) {v : Value} (hv : v.oneCell' = true) : ∀ u ∈ opC ki lv s ct sm v, u.oneCell' = true := by
  intro u hu
  simp only [opC, List.mem_cons, List.mem_append, List.not_mem_nil, or_false] at hu
  rcases hu with rfl | rfl | rfl | rfl | hu | rfl
  · rfl
  · rfl
  · exact hs
  · rfl
  · exact bs_one _ u hu
  · exact hv
theorem Try.ocSz (ki lv : Nat) (s : Value) (ct : Nat) (sm : List Int) (v : Value) (h : sm.length = 32) : (Try.prog.info? 220).map (·.size) = some (opC ki lv s ct sm v).length := by
  have e : (Try.prog.info? 220).map (·.size) = some 37 := by kernel_rfl
  rw [e, opC_len, h]
theorem opC_putsm (ki lv : Nat) (s : Value) (ct : Nat) (u x : List Int) (v : Value) (h : u.length = x.length) : splice (opC ki lv s ct u v) 4 (bs x) = opC ki lv s ct x v := by
  have h2 : (bs u).length = (bs x).length := by rw [bs_len, bs_len, h]
  unfold splice opC
  rw [show 4 + (bs x).length = (bs u).length + 4 by omega]
  simp
theorem opC_putv (ki lv : Nat) (s : Value) (ct : Nat) (sm : List Int) (v v' : Value) (h : sm.length = 32) : (opC ki lv s ct sm v).set 36 v' = opC ki lv s ct sm v' := by
  unfold opC
  rw [List.set_cons_succ, List.set_cons_succ, List.set_cons_succ, List.set_cons_succ, List.set_append_right _ _ (by rw [bs_len]; omega), bs_len, h]
  rfl
theorem opC_v (ki lv : Nat) (s : Value) (ct : Nat) (sm : List Int) (v : Value) (h : sm.length = 32) : (opC ki lv s ct sm v)[36]? = some v := by
  show (bs sm ++ [v])[32]? = _
  rw [List.getElem?_append_right (by rw [bs_len]; omega), bs_len, h]
  rfl

/-- What reading a neighbour gives. -/
structure NS where
  lv : Nat
  kl : List Int
  ct : Nat
  at_ : Nat
  err : Int
def nbS (T : List Int) (a : Nat) (err : Int) : NS :=
  let L := levelS T a err
  let K := textS T L.2.1 L.2.2 1024
  let U := uintS T K.2.1 K.2.2 maxN
  ⟨L.1, K.1, U.1, U.2.1, U.2.2⟩

set_option maxRecDepth 100000 in
set_option maxHeartbeats 4000000 in
theorem nb_any {w0 w : World} {p q : Nat} {tv : Value} {T : List Int} {a : Nat} {err : Int} (h : At w0 w p 195 tv T a err) (hq : w0.heap.size ≤ q) {ki : Nat} {sm : List Int} {v : Value} (hb : Blk w q (opC ki 0 (.slice none 0 0) 0 sm v) 220) :
    Calls Try.prog 127 #[.pointer (some ⟨p, 0, none⟩), .pointer (some ⟨q, 0, none⟩)] w fun e w' => e = .returned (.tuple #[]) ∧ ∃ s, At w0 w' p 195 tv T (nbS T a err).at_ (nbS T a err).err ∧ Blk w' q (opC ki (nbS T a err).lv s (nbS T a err).ct sm v) 220 ∧ Own w' s (nbS T a err).kl ∧ s.oneCell' = true ∧ (∀ k, s.ownBlock = some k → w.heap.size ≤ k) ∧ Chg (fun k => k = p ∨ k = q) w w' := by
  unfold nbS
  obtain ⟨L, a1, e1, hL⟩ : ∃ L a1 e1, levelS T a err = (L, a1, e1) := ⟨_, _, _, rfl⟩
  have C1 : ∀ w', RS w' p 195 tv T a err → _ := fun w' h => rLevel_any h
  simp only [hL] at C1 ⊢
  obtain ⟨kb, a2, e2, hK⟩ : ∃ kb a2 e2, textS T a1 e1 1024 = (kb, a2, e2) := ⟨_, _, _, rfl⟩
  have C2 : ∀ w', RS w' p 195 tv T a1 e1 → _ := fun w' h => rKey_any h
  simp only [hK] at C2 ⊢
  obtain ⟨U, a3, e3, hU⟩ : ∃ U a3 e3, uintS T a2 e2 maxN = (U, a3, e3) := ⟨_, _, _, rfl⟩
  have C3 : ∀ w', RS w' p 195 tv T a2 e2 → _ := fun w' h => rNumber_any h
  simp only [hU] at C3 ⊢
  clear hL hK hU
  have A0 : Hid _ := h
  have D0 : Hid _ := hb
  have plt := h.plt
  have qlt := hb.lt
  have HC : Hid _ := C1 w h.rp.1
  have H2 : Hid _ := C2
  have H3 : Hid _ := C3
  clear h hb C1 C2 C3
  go_enter Try.func127, Try.ntmps127
  go_wp2_with fail
  refine Calls.mono HC.out ?_
  rintro e w1 ⟨rfl, r1⟩
  have A1 : Hid _ := A0.out.call r1
  have D1 : Hid _ := A0.out.blk D0.out hq r1
  have K1 : Hid (Chg (fun k => k = p ∨ k = q) w w1) := r1.2.mono (fun _ _ e => .inl e)
  have hc : w1.cell? ⟨q, 1, none⟩ = some (.int .i64 0) := D1.out.cell 1
  have hf : w1.frozen? ⟨q, 1, none⟩ = false := D1.out.fr 1
  clear r1 A0 D0 HC
  go_wp2_with fail
  have A2 : Hid _ := A1.out.set (g := q) hq 1 (.int .i64 L)
  have D2 : Hid (Blk (w1.setCell ⟨q, 1, none⟩ (.int .i64 L)) q (opC ki L (.slice none 0 0) 0 sm v) 220) := D1.out.set 1 (.int .i64 L)
  have K2 : Hid (Chg (fun k => k = p ∨ k = q) w (w1.setCell ⟨q, 1, none⟩ (.int .i64 L))) := K1.out.setCell (p := ⟨q, 1, none⟩) (.inl (.inr rfl)) _
  clear A1 D1 K1
  refine Calls.mono (H2.out _ A2.out.rp.1) ?_
  rintro e w2 ⟨s, rfl, o2, r2, hs2⟩
  obtain ⟨sa, sc, hsf⟩ := Own.form o2
  have A3 : Hid _ := A2.out.call r2
  have D3 : Hid _ := A2.out.blk D2.out hq r2
  have K3 : Hid (Chg (fun k => k = p ∨ k = q) w w2) := K2.out.trans r2.2 (fun _ e => .inl (.inl e))
  have hs3 : ∀ k, s.ownBlock = some k → w.heap.size ≤ k := fun k hk => by have h9 := hs2 k hk; have h8 := K2.out.size; omega
  have HS : Hid _ := hs3
  have O2 : Hid _ := o2
  obtain ⟨n, hn⟩ : ∃ n, n = kb.length := ⟨_, rfl⟩
  rw [← hn] at hsf
  subst hsf
  have hc2 : w2.cell? ⟨q, 2, none⟩ = some (.slice none 0 0) := D3.out.cell 2
  have hf2 : w2.frozen? ⟨q, 2, none⟩ = false := D3.out.fr 2
  clear o2 r2 hs2 hs3 hc hf A2 D2 K2 H2 hn
  go_wp2_with fail
  have A4 : Hid _ := A3.out.set (g := q) hq 2 (.slice sa n sc)
  have D4 : Hid (Blk (w2.setCell ⟨q, 2, none⟩ (.slice sa n sc)) q (opC ki L (.slice sa n sc) 0 sm v) 220) := D3.out.set 2 (.slice sa n sc)
  have K4 : Hid (Chg (fun k => k = p ∨ k = q) w (w2.setCell ⟨q, 2, none⟩ (.slice sa n sc))) := K3.out.setCell (p := ⟨q, 2, none⟩) (.inl (.inr rfl)) _
  have O3 : Hid (Own (w2.setCell ⟨q, 2, none⟩ (.slice sa n sc)) (.slice sa n sc) kb) := Own.kept O2.out ((Chg.refl (fun k => k = q) w2).setCell (p := ⟨q, 2, none⟩) (.inl rfl) _) (fun k hk e => by have := HS.out k hk; omega)
  clear A3 D3 K3 O2
  refine Calls.mono (H3.out _ A4.out.rp.1) ?_
  rintro e w3 ⟨rfl, r3⟩
  have A5 : Hid _ := A4.out.call r3
  have D5 : Hid _ := A4.out.blk D4.out hq r3
  have K5 : Hid (Chg (fun k => k = p ∨ k = q) w w3) := K4.out.trans r3.2 (fun _ e => .inl (.inl e))
  have O4 : Hid (Own w3 (.slice sa n sc) kb) := Own.kept O3.out r3.2 (fun k hk e => by have := HS.out k hk; have := K4.out.size; have h7 := A4.out.plt; have h6 := A4.out.rp.2.size; omega)
  have hc3 : w3.cell? ⟨q, 3, none⟩ = some (.int .u64 0) := D5.out.cell 3
  have hf3 : w3.frozen? ⟨q, 3, none⟩ = false := D5.out.fr 3
  clear r3 hc2 hf2 A4 D4 K4 O3 H3
  have A6 : Hid _ := A5.out.set (g := q) hq 3 (.int .u64 U)
  have D6 : Hid (Blk (w3.setCell ⟨q, 3, none⟩ (.int .u64 U)) q (opC ki L (.slice sa n sc) U sm v) 220) := D5.out.set 3 (.int .u64 U)
  have K6 : Hid (Chg (fun k => k = p ∨ k = q) w (w3.setCell ⟨q, 3, none⟩ (.int .u64 U))) := K5.out.setCell (p := ⟨q, 3, none⟩) (.inl (.inr rfl)) _
  have O5 : Hid (Own (w3.setCell ⟨q, 3, none⟩ (.int .u64 U)) (.slice sa n sc) kb) := Own.kept O4.out ((Chg.refl (fun k => k = q) w3).setCell (p := ⟨q, 3, none⟩) (.inl rfl) _) (fun k hk e => by have := HS.out k hk; omega)
  clear A5 D5 K5 O4
  go_wp2_with fail
  go_end0
  exact ⟨rfl, _, A6.out, D6.out, O5.out, rfl, HS.out, K6.out⟩
end Go.Proofs.Ytjmeaebehndheaa
