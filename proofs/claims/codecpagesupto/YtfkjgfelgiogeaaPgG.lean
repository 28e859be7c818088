/-
  Of the walk of CodecPages: lists copied, and one record more.
-/
import Derived.Test.YtfkjgfelgiogeaaPgK
import Derived.Test.YtfkjgfelgiogeaaPgJ
import Derived.Test.YtfkjgfelgiogeaaPgY
import Derived.Test.YtfkjgfelgiogeaaRef
namespace Go.Proofs.Ytfkjgfelgiogeaa
open Go.RowKit

theorem Own.addrP {w : World} {a : Option Addr} {n c : Nat} {l : List Int} (h : Own w (.slice a n c) l) (hp : 0 < l.length) : ∃ g, a = some ⟨g, 0, none⟩ := by
  obtain ⟨g, cap, e, _⟩ := h.form2 hp
  injection e with e
  exact ⟨g, e⟩
theorem untouched_P {w : World} {a : Option Addr} {s : Value} {c M : Nat} {m : List Int} (hM : M = m.length + 2) (hs : Src w s m) (ho : Own w (.slice a M c) (m ++ [165, 90])) (hl : m.length + 2 ≤ 140737488355328) :
    Calls Try.prog 11 #[.slice a M c, s] w fun e w' => e = .returned (.bool true) ∧ ∃ n, w' = w.drewN n := by
  subst hM
  exact untouched_any hs ho hl

/-- A list of records copied behind nothing, and one record more. -/
theorem twiceG {sl ty sz by_ : Nat} {Z : Array Value} (hu : Try.prog.underlying sl = some (.slice ty)) (hi0 : (Try.prog.info? ty).map (fun i => (i.zero, i.size, i.bytes)) = some (some (.agg Z), sz, by_)) (hZ : (Value.agg Z).cells.size = sz) (hp : 0 < sz) {w : World} {Av : Nat → Prop} {A : Option Addr} {n c : Nat} {f : Nat → List Value} (hr : RowsIn w Av A n sz f) (hl : ∀ i, i < n → (f i).length = sz) (h1 : ∀ i, i < n → ∀ u ∈ f i, u.oneCell' = true) (hb : (n + 1) * by_ ≤ 140737488355328) (hb2 : n + 1 ≤ 1000000000) {E : List Value} (hE : E.length = sz) (hE1 : ∀ u ∈ E, u.oneCell' = true) :
    ∃ (ya : Option Addr) (yn yc : Nat) (w1 : World) (g cap : Nat) (w2 : World), (Builtin.append_ #[sl, sl] sl #[.slice (some ⟨w.heap.size, 0, none⟩) 0 0, .slice A n c]).run Try.prog (w.alloc (.cells #[] ty)) = .ok (.slice ya yn yc) w1 ∧ (Builtin.append_ #[sl, sl] sl #[.slice ya yn yc, .slice (some ⟨w1.heap.size, 0, none⟩) 1 1]).run Try.prog (w1.alloc (.cells E.toArray ty)) = .ok (.slice (some ⟨g, 0, none⟩) (n + 1) cap) w2 ∧ GL w2 (.slice (some ⟨g, 0, none⟩) (n + 1) cap) ty sz ((List.range n).map f ++ [E]) ∧ n + 1 ≤ cap ∧ cap ≤ 9223372036854775807 ∧ w.heap.size ≤ g ∧ Chg (fun _ => False) w w2 := by
  have cA : Chg (fun _ => False) w (w.alloc (.cells #[] ty)) := (Chg.refl _ _).alloc _
  have g0 : GL (w.alloc (.cells #[] ty)) (.slice (some ⟨w.heap.size, 0, none⟩) 0 0) ty sz [] := GL.made w #[] 0 (by simp) (by omega)
  obtain ⟨v1, w1, r1, g1, c1, b1⟩ := GL.addAll (c := c) hu hi0 hZ hp g0 (hr.kept cA (fun _ _ e => e)) hl h1 (by simp only [List.length_nil]; rw [Nat.zero_add]; exact Nat.le_trans (Nat.mul_le_mul_right _ (Nat.le_succ n)) hb) (by simp only [List.length_nil]; omega) sl
  rw [List.nil_append] at g1
  obtain ⟨ya, yc, e1⟩ := g1.form
  have hb1 : ∀ k, v1.ownBlock = some k → w.heap.size ≤ k := fun k hk => by
    rcases b1 with b1 | ⟨q, hq, hle⟩
    · rw [b1] at hk; simp [Value.ownBlock] at hk; omega
    · rw [hq] at hk; injection hk with hk; have := cA.size; omega
  have hll : ((List.range n).map f).length = n := by simp
  obtain ⟨v2, w2, r2, g2, c2, b2⟩ := g1.add hu hi0 hZ hp hE hE1 (by rw [hll]; exact hb) (by rw [hll]; omega) sl
  have hb2' : ∀ k, v2.ownBlock = some k → w.heap.size ≤ k := fun k hk => by
    rcases b2 with b2 | ⟨q, hq, hle⟩
    · rw [b2] at hk; exact hb1 k hk
    · rw [hq] at hk; injection hk with hk; have := cA.size; have := c1.size; omega
  have hl2 : ((List.range n).map f ++ [E]).length = n + 1 := by simp
  have hro := g2.row
  rw [hl2] at hro
  rcases hro.2 with ⟨_, h0⟩ | ⟨g, cap, cur, e2, _, _, hcap, hmax, _⟩
  · omega
  · subst e1
    subst e2
    refine ⟨ya, _, yc, w1, g, cap, w2, r1, r2, g2, hcap, by simp only [maxLen] at hmax; omega, hb2' g rfl, ?_⟩
    exact (cA.trans c1 (fun i e => .inr (by simp [Value.ownBlock] at e; omega))).trans c2 (fun i e => .inr (hb1 i e.symm))
theorem frontG {w : World} {ty sz n g cap : Nat} {f : Nat → List Value} {E : List Value} (h : GL w (.slice (some ⟨g, 0, none⟩) (n + 1) cap) ty sz ((List.range n).map f ++ [E])) : RowsIn w (fun k => k = g) (some ⟨g, 0, none⟩) n sz f ∧ w.rangeAt g (n * sz) E := by
  have hl2 : ((List.range n).map f ++ [E]).length = n + 1 := by simp
  refine ⟨fun i hi => ?_, ?_⟩
  · obtain ⟨g', c', e, r⟩ := h.at (j := i) (by omega)
    injection e with e
    injection e with e
    injection e with e
    subst e
    refine ⟨g, 0, rfl, rfl, ?_⟩
    rw [Nat.zero_add]
    rw [List.getElem_append_left (by simpa using hi)] at r
    simpa using r
  · obtain ⟨g', c', e, r⟩ := h.at (j := n) (by omega)
    injection e with e
    injection e with e
    injection e with e
    subst e
    rw [List.getElem_append_right (by simp)] at r
    simpa using r
theorem samePage_at {w : World} {Av Bv : Nat → Prop} {P : Pg} (hP : PgIn w Av P) {A1 A2 A3 : Option Addr} {c1 c2 c3 : Nat} (h1 : RowsIn w Bv A1 P.mn 2 (fun i => (P.ms i).cells)) (h2 : RowsIn w Bv A2 P.vn 67 (fun i => (P.vs i).cells)) (h3 : RowsIn w Bv A3 P.pn 66 (fun i => (P.ps i).cells)) :
    Calls Try.prog 19 #[.agg (P.at A1 A2 A3 c1 c2 c3).cells.toArray, .agg P.cells.toArray] w fun e w' => e = .returned (.bool true) ∧ Below w.heap.size w w' := samePage_any hP h1 h2 h3
end Go.Proofs.Ytfkjgfelgiogeaa
