/-
  The heap of HeapCosts: its state between calls, and what each call makes of it.
-/
import Derived.Test.YtimklopibicjfaaSwap
import Derived.Test.YtimklopibicjfaaSmall
namespace Go.Proofs.Ytimklopibicjfaa
open Go.RowKit

/-- The order by K, then by the numbers; the compare that counts in block q. -/
def odK : E → E → Int := odF (fun a b => cmpI a.k b.k)
def fq (q : Nat) : Value := .func (.func 10) #[] #[.pointer (some ⟨q, 0, none⟩)]
theorem od_q (q : Nat) : Od (fq q) (fun k => k = q) (fun c w => Blk w q [.int .i64 c] 3) odK 1 := od_cmp (cmp_count q)

structure CInv (W wr : World) (q p : Nat) (H : List E) (came c : Nat) : Prop where
  hq : ∃ v, Hq wr p (fq q) v H came ∧ ∀ k, v.ownBlock = some k → W.heap.size ≤ k ∧ k ≠ q
  ic : Blk wr q [.int .i64 c] 3
  ch : Chg (fun _ => False) W wr
  lq : W.heap.size ≤ q
  lp : W.heap.size ≤ p
  ne : p ≠ q
  ho : HO odK H
  ln : H.length ≤ came

/-- A block that is none of the heap's own. -/
structure Sep (w : World) (p q B : Nat) : Prop where
  np : B ≠ p
  nq : B ≠ q
  lt : B < w.heap.size
  nv : ∀ v, w.cell? ⟨p, 1, none⟩ = some v → v.ownBlock ≠ some B

section
variable {W wr w' : World} {q p : Nat} {H : List E} {came c : Nat}
theorem CInv.keep (h : CInv W wr q p H came c) (k : Chg (fun _ => False) wr w') : CInv W w' q p H came c := by
  obtain ⟨⟨v, h1, h2⟩, h3, h4, h5, h6, h7, h8, h9⟩ := h
  exact ⟨⟨v, h1.keep k (fun h => h) (fun _ _ h => h), h2⟩, h3.keep k (fun h => h), h4.trans k (fun _ h => h.elim), h5, h6, h7, h8, h9⟩
theorem CInv.reset (h : CInv W wr q p H came c) : CInv W (wr.setCell ⟨q, 0, none⟩ (.int .i64 0)) q p H came 0 := by
  obtain ⟨⟨v, h1, h2⟩, h3, h4, h5, h6, h7, h8, h9⟩ := h
  have k : Chg (fun k => k = q) wr (wr.setCell ⟨q, 0, none⟩ (.int .i64 0)) := (Chg.refl (fun k => k = q) _).setCell (p := ⟨q, 0, none⟩) (.inl rfl) _
  exact ⟨⟨v, h1.keep k h7 (fun k hk e => (h2 k hk).2 e), h2⟩, h3.set 0 _, h4.trans k (fun i hi => .inr (by omega)), h5, h6, h7, h8, h9⟩
theorem CInv.stt (h : CInv W wr q p H came c) {v : Value} (h2 : ∀ k, v.ownBlock = some k → W.heap.size ≤ k ∧ k ≠ q) {H' : List E} {came' c' : Nat}
    (st : Stt wr w' p (fq q) v.ownBlock H' came' c' (fun k => k = q) (fun c w => Blk w q [.int .i64 c] 3)) (hH : HO odK H') (hl : H'.length ≤ came') : CInv W w' q p H' came' c' := by
  obtain ⟨⟨v', s1, s2⟩, s3, s4⟩ := st
  have hs := h.ch.size
  have hqlt := h.ic.lt
  refine ⟨⟨v', s1, fun k hk => ?_⟩, s3, h.ch.trans s4 (fun i hi => .inr ?_), h.lq, h.lp, h.ne, hH, hl⟩
  · rcases s2 k hk with e | e
    · exact h2 k e.symm
    · exact ⟨by omega, by omega⟩
  · rcases hi with e | e | e
    · rw [e]; exact h.lp
    · exact (h2 i e.symm).1
    · rw [e]; exact h.lq

theorem Sep.keep {B : Nat} (h : Sep wr p q B) (k : Chg (fun _ => False) wr w') (hp : p < wr.heap.size) : Sep w' p q B :=
  ⟨h.np, h.nq, Nat.lt_of_lt_of_le h.lt k.size, fun v hv => h.nv v (by rw [World.cell?_of_block (a := ⟨p, 1, none⟩) (k.block p hp (fun h => h))] at hv; exact hv)⟩
/-- What a call leaves of such a block. -/
def Keeps (wr w' : World) (p q : Nat) : Prop := ∀ B, Sep wr p q B → Sep w' p q B ∧ w'.heap[B]? = wr.heap[B]?
theorem CInv.keeps {f v : Value} {H' : List E} {came' c' : Nat} {J : Nat → World → Prop} (h1 : Hq wr p f v H came) (st : Stt wr w' p f v.ownBlock H' came' c' (fun k => k = q) J) : Keeps wr w' p q := by
  intro B hB
  obtain ⟨⟨v', s1, s2⟩, _, s4⟩ := st
  have hv : wr.cell? ⟨p, 1, none⟩ = some v := h1.blk.cell 1
  have hn := hB.nv v hv
  refine ⟨⟨hB.np, hB.nq, Nat.lt_of_lt_of_le hB.lt s4.size, fun u hu e => ?_⟩, s4.block B hB.lt (fun e => ?_)⟩
  · have hv' : w'.cell? ⟨p, 1, none⟩ = some v' := s1.blk.cell 1
    have : u = v' := by rw [hv'] at hu; injection hu with hu; exact hu.symm
    subst this
    rcases s2 B e with e | e
    · exact hn e.symm
    · have := hB.lt; omega
  · rcases e with e | e | e
    · exact hB.np e
    · exact hn e.symm
    · exact hB.nq e

theorem CInv.len_any (h : CInv W wr q p H came c) : Calls Try.prog 12 #[.pointer (some ⟨p, 0, none⟩)] wr fun e w' => e = .returned (.int .i64 H.length) ∧ wr = w' := by
  obtain ⟨v, h1, _⟩ := h.hq
  exact Go.Proofs.Ytimklopibicjfaa.len_any h1

theorem CInv.push_any (h : CInv W wr q p H came 0) {s : Value} {L : List (Int × Int)} (hL : Ths W s L) (hc : came + L.length ≤ 2097152) :
    Calls Try.prog 14 #[.pointer (some ⟨p, 0, none⟩), s] wr fun e w' => e = .returned (.tuple #[]) ∧ (∃ x, x ≤ most H.length L.length ∧ CInv W w' q p (pushF odK L H came).1 (came + L.length) x) ∧ Keeps wr w' p q := by
  obtain ⟨v, h1, h2⟩ := h.hq
  have hL' : Ths wr s L := hL.keep h.ch (fun _ _ h => h)
  have hln := h.ln
  refine (Go.Proofs.Ytimklopibicjfaa.push_any (od_q q) h1 h.ne (fun k hk e => (h2 k hk).2 e) 0 hL' (fun k hne hk => ?_) (by omega) hc h.ic (by omega) (Nat.le_refl 1)).mono ?_
  · have h8 := hL.low hne k hk
    have h9 := h.lp
    have h10 := h.lq
    have h11 := h.ch.size
    refine ⟨by omega, fun e => ?_, by omega, by omega⟩
    have := (h2 k e.symm).1
    omega
  · rintro e w9 ⟨rfl, st⟩
    refine ⟨rfl, ⟨_, ?_, h.stt h2 st (pushF_HO tot_k L came h.ho) (by rw [pushF_len]; omega)⟩, CInv.keeps h1 st⟩
    have := pushF_cost odK L H came
    omega

theorem CInv.peek_any (h : CInv W wr q p H came c) : Calls Try.prog 15 #[.pointer (some ⟨p, 0, none⟩)] wr fun e w' => (∃ a b, e = .returned (.tuple #[two a, .bool b])) ∧ CInv W w' q p H came c := by
  obtain ⟨v, h1, h2⟩ := h.hq
  rcases h1.cases with ⟨_, rfl⟩ | ⟨g, cap, sp, rfl, hp⟩
  · refine (peek_none h1).mono ?_
    rintro e w9 ⟨rfl, k⟩
    exact ⟨⟨_, _, rfl⟩, h.keep k⟩
  · by_cases h0 : 0 < H.length
    · refine (peek_some hp h0).mono ?_
      rintro e w9 ⟨rfl, k⟩
      exact ⟨⟨_, _, rfl⟩, h.keep k⟩
    · have : H = [] := List.eq_nil_of_length_eq_zero (by omega)
      subst this
      refine (peek_none h1).mono ?_
      rintro e w9 ⟨rfl, k⟩
      exact ⟨⟨_, _, rfl⟩, h.keep k⟩

theorem popF_nil : popF odK [] = ([], 0) := rfl

theorem CInv.pop_any (h : CInv W wr q p H came c) (hc : came ≤ 2097152) (hcc : c ≤ 1000000000000) :
    Calls Try.prog 16 #[.pointer (some ⟨p, 0, none⟩)] wr fun e w' => e = .returned (.tuple #[two (nth H 0).th, .bool (decide (0 < H.length))]) ∧ (∃ x, x ≤ c + 2 * dg H.length ∧ CInv W w' q p (popF odK H).1 came x) ∧ Keeps wr w' p q := by
  have hln := h.ln
  obtain ⟨v, h1, h2⟩ := h.hq
  by_cases h0 : 0 < H.length
  · rcases h1.cases with ⟨_, rfl⟩ | ⟨g, cap, sp, rfl, hp⟩
    · simp at h0
    · have hgq := h2 g rfl
      refine (pop_some (od_q q) hp h.ne (fun e => hgq.2 e) c (H.length - 1) (by omega) (by omega) h.ic (by omega) (Nat.le_refl 1)).mono ?_
      rintro e w9 ⟨rfl, ⟨v', hv1, hv2⟩, hi, hch⟩
      have st : Stt wr w9 p (fq q) (Value.slice (some ⟨g, 0, none⟩) H.length cap).ownBlock (popF odK H).1 came (c + 1 * (popF odK H).2) (fun k => k = q) (fun c w => Blk w q [.int .i64 c] 3) := by
        refine ⟨⟨v', hv1, fun k hk => ?_⟩, hi, hch.mono (fun i _ hi => ?_)⟩
        · rcases hv2 k hk with e | e
          · exact .inl (by rw [e]; rfl)
          · exact .inr e
        · rcases hi with e | e | e
          · exact .inl e
          · exact .inr (.inl (by rw [e]; rfl))
          · exact .inr (.inr e)
      refine ⟨by rw [decide_eq_true h0], ⟨_, ?_, h.stt (v := .slice (some ⟨g, 0, none⟩) H.length cap) h2 st (popF_HO tot_k h.ho h0) (by rw [popF_len]; omega)⟩, CInv.keeps h1 st⟩
      have := popF_cost odK H
      omega
  · have : H = [] := List.eq_nil_of_length_eq_zero (by omega)
    subst this
    refine (pop_none h1).mono ?_
    rintro e w9 ⟨rfl, k⟩
    exact ⟨rfl, ⟨c, by omega, h.keep k⟩, fun B hB => ⟨hB.keep k h1.lt, k.block B hB.lt (fun h => h)⟩⟩

theorem CInv.swap_any (h : CInv W wr q p H came c) (hc : came + 1 ≤ 2097152) (hcc : c ≤ 1000000000000) (a : Int × Int) :
    Calls Try.prog 17 #[.pointer (some ⟨p, 0, none⟩), two a] wr fun e w' => (∃ a b, e = .returned (.tuple #[two a, .bool b])) ∧ ∃ H' x, x ≤ c + 2 * dg H.length ∧ H'.length = max H.length 1 ∧ CInv W w' q p H' (came + 1) x := by
  have hln := h.ln
  obtain ⟨v, h1, h2⟩ := h.hq
  by_cases h0 : 0 < H.length
  · rcases h1.cases with ⟨_, rfl⟩ | ⟨g, cap, sp, rfl, hp⟩
    · simp at h0
    · obtain ⟨m, hm⟩ : ∃ m, H.length = m + 1 := ⟨H.length - 1, by omega⟩
      have hgq := h2 g rfl
      have hp' : Hp wr p (fq q) g (m + 1) cap H sp came := hm ▸ hp
      refine (swap_some (od_q q) hp' h.ne (fun e => hgq.2 e) c a hc (by omega) h.ic (by omega) (Nat.le_refl 1)).mono ?_
      rintro e w9 ⟨rfl, st⟩
      refine ⟨⟨_, _, rfl⟩, _, _, ?_, by rw [swapF_len]; omega, h.stt (v := .slice (some ⟨g, 0, none⟩) H.length cap) h2 st (swapF_HO tot_k h.ho h0 _) (by rw [swapF_len]; omega)⟩
      have := swapF_cost odK H ⟨a.1, a.2, (came : Int) + 1⟩
      omega
  · have : H = [] := List.eq_nil_of_length_eq_zero (by omega)
    subst this
    refine (swap_none (od_q q) h1 h.ne (fun k hk e => (h2 k hk).2 e) c a hc h.ic (by omega) (Nat.le_refl 1)).mono ?_
    rintro e w9 ⟨rfl, st⟩
    refine ⟨⟨_, _, rfl⟩, _, _, ?_, by rw [pushF_len]; rfl, h.stt h2 st (pushF_HO tot_k [a] came h.ho) (by rw [pushF_len]; simp)⟩
    have h9 : (pushF odK [a] [] came).2 = 0 := rfl
    omega
end

/-- New, counted. -/
theorem CInv.made {W w0 w' : World} {q : Nat} (h0 : Blk w0 q [.int .i64 0] 3) (hc : Chg (fun _ => False) W w0) (hq : W.heap.size ≤ q) (h : Hq w' w0.heap.size (fq q) (.slice none 0 0) [] 0) (k : Chg (fun _ => False) w0 w') : CInv W w' q w0.heap.size [] 0 0 :=
  ⟨⟨_, h, fun k hk => by simp [Value.ownBlock] at hk⟩, h0.keep k (fun h => h), hc.trans k (fun _ h => h.elim), hq, hc.size, by have := h0.lt; omega, HO.nil _, Nat.le_refl _⟩

end Go.Proofs.Ytimklopibicjfaa
