import Derived.Test.YtpkcabbfblhekaaVRf
import Derived.Test.YtpkcabbfblhekaaTurn
/-
  leastBackwards: the plain function, and its walk.
-/
namespace Go.Proofs.Ytpkcabbfblhekaa.V
open Go.RowKit

/-- Its heap, thing by thing. -/
def lbF (od : Go.Proofs.Ytpkcabbfblhekaa.E → Go.Proofs.Ytpkcabbfblhekaa.E → Int) (n : Nat) : List (Int × Int) → Nat → List E → Nat → List E × Nat
  | [], _, H, came => (H, came)
  | a :: L, i, H, came => if H.length < n then lbF od n L (i + 1) (pushF (odF (odBk od)) [(a.1, a.2, (i : Int))] H came).1 (came + 1)
      else if Go.Proofs.Ytpkcabbfblhekaa.lt od ⟨a.1, a.2, i⟩ (nth H 0).inn = true then lbF od n L (i + 1) (swapF (odF (odBk od)) H ⟨a.1, a.2, i, (came : Int) + 1⟩).1 (came + 1) else lbF od n L (i + 1) H came

theorem Ib.up {I : Nat → World → Prop} {q : Nat} {f : Value} {c d : Nat} {w : World} (h : Ib I q f c w) (hd : c ≤ d) : Ib I q f d w := by
  obtain ⟨⟨c0, h1, h2⟩, h3⟩ := h
  exact ⟨⟨c0, by omega, h2⟩, h3⟩

theorem peek_any {w : World} {p : Nat} {f v : Value} {H : List E} {came : Nat} (h1 : Hq w p f v H came) : Calls Try.prog 48 #[.pointer (some ⟨p, 0, none⟩)] w fun e w' => e = .returned (.tuple #[two (nth H 0).th, .bool (decide (0 < H.length))]) ∧ Chg (fun _ => False) w w' := by
  by_cases h0 : 0 < H.length
  · rcases h1.cases with ⟨_, rfl⟩ | ⟨g, cap, sp, rfl, hp⟩
    · simp at h0
    · rw [decide_eq_true h0]
      exact peek_some hp h0
  · have : H = [] := List.eq_nil_of_length_eq_zero (by omega)
    subst this
    exact peek_none h1

/-- Between two things. -/
structure LB (w wr : World) (p q n c : Nat) (f v : Value) (S : Nat → Prop) (I : Nat → World → Prop) (H : List E) (came : Nat) : Prop where
  hq : Hq wr p (.func (.func 46) #[] #[.pointer (some ⟨q, 0, none⟩)]) v H came
  ib : Ib I q f c wr
  ch : Chg S w wr
  vl : ∀ k, v.ownBlock = some k → w.heap.size ≤ k
  vq : v.ownBlock ≠ some q
  len : H.length ≤ n

theorem LB.keep {w wr w' : World} {p q n c : Nat} {f v : Value} {S : Nat → Prop} {I : Nat → World → Prop} {H : List E} {came : Nat} {od : Go.Proofs.Ytpkcabbfblhekaa.E → Go.Proofs.Ytpkcabbfblhekaa.E → Int} {one : Nat} (O : Go.Proofs.Ytpkcabbfblhekaa.Od f S I od one) (h : LB w wr p q n c f v S I H came) (k : Chg (fun _ => False) wr w') : LB w w' p q n c f v S I H came := by
  obtain ⟨⟨c0, h1, h2⟩, h3⟩ := h.ib
  exact ⟨h.hq.keep k (fun h => h) (fun _ _ h => h), ⟨⟨c0, h1, O.keep h2 k (fun _ h => h.elim)⟩, h3.keep k (fun h => h)⟩, h.ch.trans k (fun _ h => h.elim), h.vl, h.vq, h.len⟩

/-- A call on the heap. -/
theorem LB.stt {w wr w' : World} {p q n c c' : Nat} {f v : Value} {S : Nat → Prop} {I : Nat → World → Prop} {H H' : List E} {came came' : Nat} (h : LB w wr p q n c f v S I H came) (hp : w.heap.size ≤ p) (hq : w.heap.size ≤ q) (hqr : q < wr.heap.size)
    (st : Stt wr w' p (.func (.func 46) #[] #[.pointer (some ⟨q, 0, none⟩)]) v.ownBlock H' came' c' (fun k => S k ∨ k = q) (Ib I q f)) (hl : H'.length ≤ n) : ∃ v', LB w w' p q n c' f v' S I H' came' := by
  obtain ⟨⟨v', h1, h2⟩, h3, h4⟩ := st
  refine ⟨v', h1, h3, h.ch.trans h4 (fun i hi => ?_), fun k hk => ?_, fun e => ?_, hl⟩
  · rcases hi with rfl | hi | hi | rfl
    · exact .inr hp
    · exact .inr (h.vl i hi.symm)
    · exact .inl hi
    · exact .inr hq
  · rcases h2 k hk with e | e
    · exact h.vl k e.symm
    · have := h.ch.size; omega
  · rcases h2 q e with e | e
    · exact h.vq e.symm
    · omega

end Go.Proofs.Ytpkcabbfblhekaa.V

/-
  leastBackwards: its calls on the heap.
-/
namespace Go.Proofs.Ytpkcabbfblhekaa.V
open Go.RowKit

section
variable {w wr : World} {n c : Nat} {f v : Value} {S : Nat → Prop} {I : Nat → World → Prop} {H : List E} {came : Nat} {od : Go.Proofs.Ytpkcabbfblhekaa.E → Go.Proofs.Ytpkcabbfblhekaa.E → Int} {one : Nat}

theorem LB.low (O : Go.Proofs.Ytpkcabbfblhekaa.Od f S I od one) {c0 : Nat} (hI : I c0 w) : ∀ k, w.heap.size ≤ k → ¬ S k := fun k hk hs => by have := O.low hI hs; omega

theorem LB.push (O : Go.Proofs.Ytpkcabbfblhekaa.Od f S I od one) (h1 : one ≤ 1) {c0 : Nat} (hI : I c0 w) (h : LB w wr (w.heap.size + 1) w.heap.size n c f v S I H came) (a : Int × Int × Int) (g : Nat) (hg : Blk wr g [.int .i64 a.1, .int .i64 a.2.1, .int .i64 a.2.2] 63)
    (hgl : w.heap.size + 1 < g) (hgv : v.ownBlock ≠ some g) (hlt : H.length < n) (hn2 : n ≤ 1048576) (hcm : came + 1 ≤ 2097152) (hc : c ≤ 1152921504606846976) :
    Calls Try.prog 50 #[.pointer (some ⟨w.heap.size + 1, 0, none⟩), .slice (some ⟨g, 0, none⟩) 1 1] wr fun e w' => e = .returned (.tuple #[]) ∧ ∃ v', LB w w' (w.heap.size + 1) w.heap.size n (c + (2 * dg n + 1)) f v' S I (pushF (odF (odBk od)) [a] H came).1 (came + 1) := by
  have hlow := LB.low O hI
  have hqr : w.heap.size < wr.heap.size := h.ib.2.lt
  have hth : Ths wr (.slice (some ⟨g, 0, none⟩) 1 1) [a] := .inr (.inr ⟨g, 0, 1, rfl, fun i z hz => by
    cases i with
    | zero =>
      have h9 : a = z := by simpa using hz
      subst h9
      exact ⟨hg.cell 0, hg.cell 1, hg.cell 2⟩
    | succ i => simp at hz⟩)
  refine (push_any (od_back O h1 w.heap.size (hlow _ (Nat.le_refl _))) h.hq (fun e => ?_) (fun k hk e => ?_) c (L := [a]) hth (fun k _ hk => ?_) (by simp; omega) (by simp; omega) h.ib (by simp; omega) (Nat.le_refl _)).mono ?_
  · rcases e with e | e
    · exact hlow _ (by omega) e
    · omega
  · rcases e with e | e
    · exact hlow _ (h.vl k hk) e
    · exact h.vq (by rw [hk, e])
  · have h9 : g = k := by simpa [Value.ownBlock] using hk
    subst h9
    refine ⟨by omega, fun e => hgv e.symm, fun e => ?_, hg.lt⟩
    rcases e with e | e
    · exact hlow _ (by omega) e
    · omega
  · rintro e w' ⟨rfl, st⟩
    obtain ⟨v', hv'⟩ := h.stt (by omega) (Nat.le_refl _) hqr st (by rw [pushF_len]; simp; omega)
    refine ⟨rfl, v', hv'.hq, hv'.ib.up ?_, hv'.ch, hv'.vl, hv'.vq, hv'.len⟩
    have h5 := pushF_cost (odF (odBk od)) [a] H came
    have h6 : most H.length [a].length = dg H.length + 1 := by simp [most]
    rw [h6] at h5
    have h7 := dg_mono (Nat.le_of_lt hlt)
    rw [Nat.one_mul]
    omega

theorem LB.swap (O : Go.Proofs.Ytpkcabbfblhekaa.Od f S I od one) (h1 : one ≤ 1) {c0 : Nat} (hI : I c0 w) (h : LB w wr (w.heap.size + 1) w.heap.size n c f v S I H came) (a : Int × Int × Int)
    (hn : 0 < n) (hlt : ¬ H.length < n) (hn2 : n ≤ 1048576) (hcm : came + 1 ≤ 2097152) (hc : c < 1152921504606846976) :
    Calls Try.prog 51 #[.pointer (some ⟨w.heap.size + 1, 0, none⟩), two a] wr fun e w' => (∃ x, e = .returned x) ∧ ∃ v', LB w w' (w.heap.size + 1) w.heap.size n (c + 2 * dg n) f v' S I (swapF (odF (odBk od)) H ⟨a.1, a.2.1, a.2.2, (came : Int) + 1⟩).1 (came + 1) := by
  have hlow := LB.low O hI
  have hqr : w.heap.size < wr.heap.size := h.ib.2.lt
  have hle := h.len
  rcases h.hq.cases with ⟨_, e⟩ | ⟨g, cap, sp, rfl, hp⟩
  · rw [e] at hlt; simp at hlt; omega
  · obtain ⟨m, hm⟩ : ∃ m, H.length = m + 1 := ⟨H.length - 1, by omega⟩
    rw [hm] at hp
    have hvg : (Value.slice (some ⟨g, 0, none⟩) H.length cap).ownBlock = some g := rfl
    refine (swap_some (od_back O h1 w.heap.size (hlow _ (Nat.le_refl _))) hp (fun e => ?_) (fun e => ?_) c a hcm (by omega) h.ib hc (Nat.le_refl _)).mono ?_
    · rcases e with e | e
      · exact hlow _ (by omega) e
      · omega
    · rcases e with e | e
      · exact hlow _ (h.vl g hvg) e
      · exact h.vq (by rw [hvg, e])
    · rintro e w' ⟨rfl, st⟩
      obtain ⟨v', hv'⟩ := h.stt (by omega) (Nat.le_refl _) hqr st (by rw [swapF_len]; exact hle)
      refine ⟨⟨_, rfl⟩, v', hv'.hq, hv'.ib.up ?_, hv'.ch, hv'.vl, hv'.vq, hv'.len⟩
      have h5 := swapF_cost (odF (odBk od)) H ⟨a.1, a.2.1, a.2.2, (came : Int) + 1⟩
      have h7 := dg_mono hle
      rw [Nat.one_mul]
      omega

theorem LB.order (O : Go.Proofs.Ytpkcabbfblhekaa.Od f S I od one) (h1 : one ≤ 1) {c0 : Nat} (hI : I c0 w) (h : LB w wr (w.heap.size + 1) w.heap.size n c f v S I H came) (x y : Go.Proofs.Ytpkcabbfblhekaa.E) (hc : c < 4611686018427387904) :
    Calls Try.prog 47 #[f, x.val, y.val] wr fun e w' => e = .returned (.int .i64 (od x y)) ∧ LB w w' (w.heap.size + 1) w.heap.size n (c + 1) f v S I H came ∧ Chg S wr w' := by
  have hlow := LB.low O hI
  obtain ⟨⟨c1, h2, h3⟩, h4⟩ := h.ib
  refine (O.run wr c1 x y h3 (by omega)).mono ?_
  rintro e w' ⟨rfl, i2, ch2⟩
  exact ⟨rfl, ⟨h.hq.keep ch2 (hlow _ (by omega)) (fun k hk => hlow _ (h.vl k hk)), ⟨⟨c1 + one, by omega, i2⟩, h4.keep ch2 (hlow _ (Nat.le_refl _))⟩, h.ch.trans ch2 (fun _ h => .inl h), h.vl, h.vq, h.len⟩, ch2⟩
end

end Go.Proofs.Ytpkcabbfblhekaa.V
