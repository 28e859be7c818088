/-
  leastBackwards: its calls on the heap.
-/
import Derived.Test.YtbfbjjfjeiihbaaVLb
namespace Go.Proofs.Ytbfbjjfjeiihbaa.V
open Go.RowKit

section
variable {w wr : World} {n c : Nat} {f v : Value} {S : Nat → Prop} {I : Nat → World → Prop} {H : List E} {came : Nat} {od : Go.Proofs.Ytbfbjjfjeiihbaa.E → Go.Proofs.Ytbfbjjfjeiihbaa.E → Int} {one : Nat}

theorem LB.low (O : Go.Proofs.Ytbfbjjfjeiihbaa.Od f S I od one) {c0 : Nat} (hI : I c0 w) : ∀ k, w.heap.size ≤ k → ¬ S k := fun k hk hs => by have := O.low hI hs; omega

theorem LB.push (O : Go.Proofs.Ytbfbjjfjeiihbaa.Od f S I od one) (h1 : one ≤ 1) {c0 : Nat} (hI : I c0 w) (h : LB w wr (w.heap.size + 1) w.heap.size n c f v S I H came) (a : Int × Int × Int) (g : Nat) (hg : Blk wr g [.int .i64 a.1, .int .i64 a.2.1, .int .i64 a.2.2] 67)
    (hgl : w.heap.size + 1 < g) (hgv : v.ownBlock ≠ some g) (hlt : H.length < n) (hn2 : n ≤ 1048576) (hcm : came + 1 ≤ 2097152) (hc : c ≤ 1152921504606846976) :
    Calls Try.prog 48 #[.pointer (some ⟨w.heap.size + 1, 0, none⟩), .slice (some ⟨g, 0, none⟩) 1 1] wr fun e w' => e = .returned (.tuple #[]) ∧ ∃ v', LB w w' (w.heap.size + 1) w.heap.size n (c + (2 * dg n + 1)) f v' S I (pushF (odF (odBk od)) [a] H came).1 (came + 1) := by
  have hlow := LB.low O hI
  have hqr : w.heap.size < wr.heap.size := h.ib.2.lt
  have hth : Ths wr (.slice (some ⟨g, 0, none⟩) 1 1) [a] := .inr (.inr ⟨g, 0, 1, rfl, fun i z hz => by
    cases i with
    | zero =>
      have h9 : a = z := by simpa using hz
      subst h9
      exact ⟨hg.cell 0, hg.cell 1, hg.cell 2⟩
    | succ i => simp at hz⟩)
  refine (push_any (od_back O h1 w.heap.size (hlow _ (Nat.le_refl _))) h.hq (fun e => ?_) (fun k hk e => ?_) c (L := [a]) hth (fun k _ hk => ?_) (by simp; omega) (by simp; omega) h.ib (by simp; omega) (Nat.le_refl _)).mono ?_
  · rcases e with e | e
    · exact hlow _ (by omega) e
    · omega
  · rcases e with e | e
    · exact hlow _ (h.vl k hk) e
    · exact h.vq (by rw [hk, e])
  · have h9 : g = k := by simpa [Value.ownBlock] using hk
    subst h9
    refine ⟨by omega, fun e => hgv e.symm, fun e => ?_, hg.lt⟩
    rcases e with e | e
    · exact hlow _ (by omega) e
    · omega
  · rintro e w' ⟨rfl, st⟩
    obtain ⟨v', hv'⟩ := h.stt (by omega) (Nat.le_refl _) hqr st (by rw [pushF_len]; simp; omega)
    refine ⟨rfl, v', hv'.hq, hv'.ib.up ?_, hv'.ch, hv'.vl, hv'.vq, hv'.len⟩
    have h5 := pushF_cost (odF (odBk od)) [a] H came
    have h6 : most H.length [a].length = dg H.length + 1 := by simp [most]
    rw [h6] at h5
    have h7 := dg_mono (Nat.le_of_lt hlt)
    rw [Nat.one_mul]
    omega

theorem LB.swap (O : Go.Proofs.Ytbfbjjfjeiihbaa.Od f S I od one) (h1 : one ≤ 1) {c0 : Nat} (hI : I c0 w) (h : LB w wr (w.heap.size + 1) w.heap.size n c f v S I H came) (a : Int × Int × Int)
    (hn : 0 < n) (hlt : ¬ H.length < n) (hn2 : n ≤ 1048576) (hcm : came + 1 ≤ 2097152) (hc : c < 1152921504606846976) :
    Calls Try.prog 49 #[.pointer (some ⟨w.heap.size + 1, 0, none⟩), two a] wr fun e w' => (∃ x, e = .returned x) ∧ ∃ v', LB w w' (w.heap.size + 1) w.heap.size n (c + 2 * dg n) f v' S I (swapF (odF (odBk od)) H ⟨a.1, a.2.1, a.2.2, (came : Int) + 1⟩).1 (came + 1) := by
  have hlow := LB.low O hI
  have hqr : w.heap.size < wr.heap.size := h.ib.2.lt
  have hle := h.len
  rcases h.hq.cases with ⟨_, e⟩ | ⟨g, cap, sp, rfl, hp⟩
  · rw [e] at hlt; simp at hlt; omega
  · obtain ⟨m, hm⟩ : ∃ m, H.length = m + 1 := ⟨H.length - 1, by omega⟩
    rw [hm] at hp
    have hvg : (Value.slice (some ⟨g, 0, none⟩) H.length cap).ownBlock = some g := rfl
    refine (swap_some (od_back O h1 w.heap.size (hlow _ (Nat.le_refl _))) hp (fun e => ?_) (fun e => ?_) c a hcm (by omega) h.ib hc (Nat.le_refl _)).mono ?_
    · rcases e with e | e
      · exact hlow _ (by omega) e
      · omega
    · rcases e with e | e
      · exact hlow _ (h.vl g hvg) e
      · exact h.vq (by rw [hvg, e])
    · rintro e w' ⟨rfl, st⟩
      obtain ⟨v', hv'⟩ := h.stt (by omega) (Nat.le_refl _) hqr st (by rw [swapF_len]; exact hle)
      refine ⟨⟨_, rfl⟩, v', hv'.hq, hv'.ib.up ?_, hv'.ch, hv'.vl, hv'.vq, hv'.len⟩
      have h5 := swapF_cost (odF (odBk od)) H ⟨a.1, a.2.1, a.2.2, (came : Int) + 1⟩
      have h7 := dg_mono hle
      rw [Nat.one_mul]
      omega

theorem LB.order (O : Go.Proofs.Ytbfbjjfjeiihbaa.Od f S I od one) (h1 : one ≤ 1) {c0 : Nat} (hI : I c0 w) (h : LB w wr (w.heap.size + 1) w.heap.size n c f v S I H came) (x y : Go.Proofs.Ytbfbjjfjeiihbaa.E) (hc : c < 4611686018427387904) :
    Calls Try.prog 45 #[f, x.val, y.val] wr fun e w' => e = .returned (.int .i64 (od x y)) ∧ LB w w' (w.heap.size + 1) w.heap.size n (c + 1) f v S I H came ∧ Chg S wr w' := by
  have hlow := LB.low O hI
  obtain ⟨⟨c1, h2, h3⟩, h4⟩ := h.ib
  refine (O.run wr c1 x y h3 (by omega)).mono ?_
  rintro e w' ⟨rfl, i2, ch2⟩
  exact ⟨rfl, ⟨h.hq.keep ch2 (hlow _ (by omega)) (fun k hk => hlow _ (h.vl k hk)), ⟨⟨c1 + one, by omega, i2⟩, h4.keep ch2 (hlow _ (Nat.le_refl _))⟩, h.ch.trans ch2 (fun _ h => .inl h), h.vl, h.vq, h.len⟩, ch2⟩
end

end Go.Proofs.Ytbfbjjfjeiihbaa.V
