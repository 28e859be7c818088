/-
  leastBackwards: the plain function, and its walk.
-/
import Derived.Test.YtbfbjjfjeiihbaaVRf
import Derived.Test.YtbfbjjfjeiihbaaTurn
namespace Go.Proofs.Ytbfbjjfjeiihbaa.V
open Go.RowKit

/-- Its heap, thing by thing. -/
def lbF (od : Go.Proofs.Ytbfbjjfjeiihbaa.E → Go.Proofs.Ytbfbjjfjeiihbaa.E → Int) (n : Nat) : List (Int × Int) → Nat → List E → Nat → List E × Nat
  | [], _, H, came => (H, came)
  | a :: L, i, H, came => if H.length < n then lbF od n L (i + 1) (pushF (odF (odBk od)) [(a.1, a.2, (i : Int))] H came).1 (came + 1)
      else if Go.Proofs.Ytbfbjjfjeiihbaa.lt od ⟨a.1, a.2, i⟩ (nth H 0).inn = true then lbF od n L (i + 1) (swapF (odF (odBk od)) H ⟨a.1, a.2, i, (came : Int) + 1⟩).1 (came + 1) else lbF od n L (i + 1) H came

theorem Ib.up {I : Nat → World → Prop} {q : Nat} {f : Value} {c d : Nat} {w : World} (h : Ib I q f c w) (hd : c ≤ d) : Ib I q f d w := by
  obtain ⟨⟨c0, h1, h2⟩, h3⟩ := h
  exact ⟨⟨c0, by omega, h2⟩, h3⟩

theorem peek_any {w : World} {p : Nat} {f v : Value} {H : List E} {came : Nat} (h1 : Hq w p f v H came) : Calls Try.prog 46 #[.pointer (some ⟨p, 0, none⟩)] w fun e w' => e = .returned (.tuple #[two (nth H 0).th, .bool (decide (0 < H.length))]) ∧ Chg (fun _ => False) w w' := by
  by_cases h0 : 0 < H.length
  · rcases h1.cases with ⟨_, rfl⟩ | ⟨g, cap, sp, rfl, hp⟩
    · simp at h0
    · rw [decide_eq_true h0]
      exact peek_some hp h0
  · have : H = [] := List.eq_nil_of_length_eq_zero (by omega)
    subst this
    exact peek_none h1

/-- Between two things. -/
structure LB (w wr : World) (p q n c : Nat) (f v : Value) (S : Nat → Prop) (I : Nat → World → Prop) (H : List E) (came : Nat) : Prop where
  hq : Hq wr p (.func (.func 44) #[] #[.pointer (some ⟨q, 0, none⟩)]) v H came
  ib : Ib I q f c wr
  ch : Chg S w wr
  vl : ∀ k, v.ownBlock = some k → w.heap.size ≤ k
  vq : v.ownBlock ≠ some q
  len : H.length ≤ n

theorem LB.keep {w wr w' : World} {p q n c : Nat} {f v : Value} {S : Nat → Prop} {I : Nat → World → Prop} {H : List E} {came : Nat} {od : Go.Proofs.Ytbfbjjfjeiihbaa.E → Go.Proofs.Ytbfbjjfjeiihbaa.E → Int} {one : Nat} (O : Go.Proofs.Ytbfbjjfjeiihbaa.Od f S I od one) (h : LB w wr p q n c f v S I H came) (k : Chg (fun _ => False) wr w') : LB w w' p q n c f v S I H came := by
  obtain ⟨⟨c0, h1, h2⟩, h3⟩ := h.ib
  exact ⟨h.hq.keep k (fun h => h) (fun _ _ h => h), ⟨⟨c0, h1, O.keep h2 k (fun _ h => h.elim)⟩, h3.keep k (fun h => h)⟩, h.ch.trans k (fun _ h => h.elim), h.vl, h.vq, h.len⟩

/-- A call on the heap. -/
theorem LB.stt {w wr w' : World} {p q n c c' : Nat} {f v : Value} {S : Nat → Prop} {I : Nat → World → Prop} {H H' : List E} {came came' : Nat} (h : LB w wr p q n c f v S I H came) (hp : w.heap.size ≤ p) (hq : w.heap.size ≤ q) (hqr : q < wr.heap.size)
    (st : Stt wr w' p (.func (.func 44) #[] #[.pointer (some ⟨q, 0, none⟩)]) v.ownBlock H' came' c' (fun k => S k ∨ k = q) (Ib I q f)) (hl : H'.length ≤ n) : ∃ v', LB w w' p q n c' f v' S I H' came' := by
  obtain ⟨⟨v', h1, h2⟩, h3, h4⟩ := st
  refine ⟨v', h1, h3, h.ch.trans h4 (fun i hi => ?_), fun k hk => ?_, fun e => ?_, hl⟩
  · rcases hi with rfl | hi | hi | rfl
    · exact .inr hp
    · exact .inr (h.vl i hi.symm)
    · exact .inl hi
    · exact .inr hq
  · rcases h2 k hk with e | e
    · exact h.vl k e.symm
    · have := h.ch.size; omega
  · rcases h2 q e with e | e
    · exact h.vq e.symm
    · omega

end Go.Proofs.Ytbfbjjfjeiihbaa.V
