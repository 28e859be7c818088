/-
  NodeTexts: what lies in memory meanwhile.
-/
import Derived.Test.YtoilnommhkmioaaDoorApA
import Derived.Test.YtoilnommhkmioaaDoorUntouched
namespace Go.Proofs.YtoilnommhkmioaaDoor
open Go.RowKit

/-- Bytes that were made one behind the other, each in a row of its own. -/
structure Tx (B : Nat) (w : World) (ts : List (Value × List Int)) : Prop where
  own : ∀ p ∈ ts, Own w p.1 p.2
  lo : ∀ p ∈ ts, ∀ g, p.1.ownBlock = some g → B ≤ g
  dis : ts.Pairwise (fun p q => ∀ g, p.1.ownBlock = some g → q.1.ownBlock ≠ some g)

section
variable {B : Nat} {w w' : World} {ts : List (Value × List Int)}
theorem Tx.nil (B : Nat) (w : World) : Tx B w [] := ⟨fun _ h => by simp at h, fun _ h => by simp at h, List.Pairwise.nil⟩
theorem Tx.keep (h : Tx B w ts) (b : Below w.heap.size w w') : Tx B w' ts := ⟨fun p hp => (h.own p hp).kept (Chg.of_below b (fun _ => False)) (fun _ _ h => h), h.lo, h.dis⟩
theorem Tx.drewN (h : Tx B w ts) (n : Nat) : Tx B (w.drewN n) ts := ⟨h.own, h.lo, h.dis⟩
theorem Tx.drew (h : Tx B w ts) : Tx B w.drew ts := ⟨h.own, h.lo, h.dis⟩
theorem Tx.snoc (h : Tx B w ts) {v : Value} {l : List Int} (hm : Made w w' v l) (hB : B ≤ w.heap.size) : Tx B w' (ts ++ [(v, l)]) := by
  refine ⟨fun p hp => ?_, fun p hp g hg => ?_, List.pairwise_append.2 ⟨h.dis, List.pairwise_singleton _ _, fun p hp q hq g hg e => ?_⟩⟩
  · rcases List.mem_append.1 hp with hp | hp
    · exact (h.own p hp).kept (Chg.of_below hm.2.1 (fun _ => False)) (fun _ _ h => h)
    · simp at hp; subst hp; exact hm.1
  · rcases List.mem_append.1 hp with hp | hp
    · exact h.lo p hp g hg
    · simp at hp; subst hp; have := hm.2.2 g hg; omega
  · simp at hq; subst hq
    have h1 := (h.own p hp).lt hg
    have h2 := hm.2.2 g e
    omega
/-- A byte of one of them is turned. -/
theorem Tx.set {xs ys : List (Value × List Int)} {g n c : Nat} {l : List Int} (h : Tx B w (xs ++ (.slice (some ⟨g, 0, none⟩) n c, l) :: ys)) (i : Nat) (b : Int) : Tx B (w.setCell ⟨g, i, none⟩ (.int .u8 b)) (xs ++ (.slice (some ⟨g, 0, none⟩) n c, l.set i b) :: ys) := by
  have ch : Chg (fun j => j = g) w (w.setCell ⟨g, i, none⟩ (.int .u8 b)) := (Chg.refl (fun j => j = g) w).setCell (.inl rfl) _
  obtain ⟨d1, d2, d3⟩ := List.pairwise_append.1 h.dis
  obtain ⟨d4, d5⟩ := List.pairwise_cons.1 d2
  refine ⟨fun p hp => ?_, fun p hp => ?_, List.pairwise_append.2 ⟨d1, List.pairwise_cons.2 ⟨d4, d5⟩, fun p hp q hq => ?_⟩⟩
  · rcases List.mem_append.1 hp with hp | hp
    · exact (h.own p (List.mem_append_left _ hp)).kept ch (fun k hk e => d3 p hp _ List.mem_cons_self k hk (by rw [e]; rfl))
    · rcases List.mem_cons.1 hp with hp | hp
      · subst hp
        exact (h.own (.slice (some ⟨g, 0, none⟩) n c, l) (by simp)).set i b
      · exact (h.own p (by simp [hp])).kept ch (fun k hk e => d4 p hp g rfl (by rw [← e]; exact hk))
  · rcases List.mem_append.1 hp with hp | hp
    · exact h.lo p (by simp [hp])
    · rcases List.mem_cons.1 hp with hp | hp
      · subst hp; exact h.lo (.slice (some ⟨g, 0, none⟩) n c, l) (by simp)
      · exact h.lo p (by simp [hp])
  · rcases List.mem_cons.1 hq with hq | hq
    · subst hq; exact d3 p hp (.slice (some ⟨g, 0, none⟩) n c, l) List.mem_cons_self
    · exact d3 p hp q (List.mem_cons_of_mem _ hq)
end

/-- A kid and a sum that came in; the kid with other keys. -/
structure KE (w : World) (g : Nat) (lv cn : Int) (kv : Value) (ad y x : List Int) (ks : List (Nat × Value)) : Prop where
  b : KB w g lv cn kv ad y x
  n : ∀ p ∈ ks, Blk w p.1 (kidC lv cn p.2 ad y) 29
section
variable {w w' : World} {g : Nat} {lv cn : Int} {kv : Value} {ad y x : List Int} {ks : List (Nat × Value)}
theorem KE.keep (h : KE w g lv cn kv ad y x ks) (b : Below w.heap.size w w') : KE w' g lv cn kv ad y x ks := ⟨h.b.keep b, fun p hp => (h.n p hp).keep0 b⟩
theorem KE.drew (h : KE w g lv cn kv ad y x ks) : KE w.drew g lv cn kv ad y x ks := ⟨h.b.drew, fun p hp => (h.n p hp).drew⟩
theorem KE.drewN (h : KE w g lv cn kv ad y x ks) (n : Nat) : KE (w.drewN n) g lv cn kv ad y x ks := ⟨⟨⟨h.b.k.eq⟩, ⟨h.b.s.eq⟩⟩, fun p hp => ⟨(h.n p hp).eq⟩⟩
theorem KE.chg (h : KE w g lv cn kv ad y x ks) {q : Nat} {cur : Array Value} (hq : w.heap[q]? = some (.cells cur 5 (0, 0))) (c : Chg (fun j => j = q) w w') : KE w' g lv cn kv ad y x ks :=
  ⟨⟨h.b.k.keep c (fun e => cells_ne hq h.b.k.eq (by decide) e.symm), h.b.s.keep c (fun e => cells_ne hq h.b.s.eq (by decide) e.symm)⟩, fun p hp => (h.n p hp).keep c (fun e => cells_ne hq (h.n p hp).eq (by decide) e.symm)⟩
end

/-- All of it. -/
structure NS (W w : World) (g : Nat) (lv cn : Int) (kv : Value) (ad y x : List Int) (ks : List (Nat × Value)) (ts : List (Value × List Int)) : Prop where
  bel : Below W.heap.size W w
  e : KE w g lv cn kv ad y x ks
  t : Tx W.heap.size w ts
section
variable {W w w' : World} {g : Nat} {lv cn : Int} {kv : Value} {ad y x : List Int} {ks : List (Nat × Value)} {ts : List (Value × List Int)}
theorem NS.keep (h : NS W w g lv cn kv ad y x ks ts) (b : Below w.heap.size w w') : NS W w' g lv cn kv ad y x ks ts := ⟨h.bel.trans (b.mono h.bel.size), h.e.keep b, h.t.keep b⟩
theorem NS.snoc (h : NS W w g lv cn kv ad y x ks ts) {v : Value} {l : List Int} (hm : Made w w' v l) : NS W w' g lv cn kv ad y x ks (ts ++ [(v, l)]) := ⟨h.bel.trans (hm.2.1.mono h.bel.size), h.e.keep hm.2.1, h.t.snoc hm h.bel.size⟩
theorem NS.drew (h : NS W w g lv cn kv ad y x ks ts) : NS W w.drew g lv cn kv ad y x ks ts := ⟨⟨h.bel.os, h.bel.tape, h.bel.output, h.bel.size, h.bel.block⟩, h.e.drew, h.t.drew⟩
theorem NS.drewN (h : NS W w g lv cn kv ad y x ks ts) (n : Nat) : NS W (w.drewN n) g lv cn kv ad y x ks ts := ⟨Below.drewN h.bel, h.e.drewN n, h.t.drewN n⟩
theorem NS.set {xs ys : List (Value × List Int)} {q n c : Nat} {l : List Int} (h : NS W w g lv cn kv ad y x ks (xs ++ (.slice (some ⟨q, 0, none⟩) n c, l) :: ys)) (i : Nat) (b : Int) : NS W (w.setCell ⟨q, i, none⟩ (.int .u8 b)) g lv cn kv ad y x ks (xs ++ (.slice (some ⟨q, 0, none⟩) n c, l.set i b) :: ys) := by
  have hm : (Value.slice (some ⟨q, 0, none⟩) n c, l) ∈ xs ++ (Value.slice (some ⟨q, 0, none⟩) n c, l) :: ys := by simp
  obtain ⟨cur, hq⟩ := own_block (h.t.own _ hm) (g := q) rfl
  have hB : W.heap.size ≤ q := h.t.lo _ hm q rfl
  refine ⟨?_, h.e.chg hq ((Chg.refl (fun j => j = q) w).setCell (.inl rfl) _), h.t.set i b⟩
  exact ((Chg.of_below h.bel (fun _ => False)).setCell (.inr hB) _).below (Nat.le_refl _) (fun _ h => h.elim)
/-- A kid more, made in a block of its own. -/
theorem NS.kid (h : NS W w g lv cn kv ad y x ks ts) {q : Nat} {kn : Value} (b : Below w.heap.size w w') (hk : Blk w' q (kidC lv cn kn ad y) 29) : NS W w' g lv cn kv ad y x (ks ++ [(q, kn)]) ts :=
  ⟨h.bel.trans (b.mono h.bel.size), ⟨h.e.b.keep b, fun p hp => by
    rcases List.mem_append.1 hp with hp | hp
    · exact (h.e.n p hp).keep0 b
    · simp at hp; subst hp; exact hk⟩, h.t.keep b⟩
/-- A kid's key is stored. -/
theorem NS.name {q : Nat} {kn k' : Value} (h : NS W w g lv cn kv ad y x (ks ++ [(q, kn)]) ts) (hq : W.heap.size ≤ q) (hd : ∀ p ∈ ks, p.1 ≠ q) (hg : g + 1 < W.heap.size) : NS W (w.setCell ⟨q, 1, none⟩ k') g lv cn kv ad y x (ks ++ [(q, k')]) ts := by
  have ch : Chg (fun j => j = q) w (w.setCell ⟨q, 1, none⟩ k') := (Chg.refl (fun j => j = q) w).setCell (.inl rfl) _
  have hk := h.e.n (q, kn) (by simp)
  refine ⟨((Chg.of_below h.bel (fun _ => False)).setCell (.inr hq) _).below (Nat.le_refl _) (fun _ h => h.elim), ⟨⟨h.e.b.k.keep ch (by omega), h.e.b.s.keep ch (by omega)⟩, fun p hp => ?_⟩, fun p hp => ?_, h.t.lo, h.t.dis⟩
  · rcases List.mem_append.1 hp with hp | hp
    · exact (h.e.n p (by simp [hp])).keep ch (hd p hp)
    · simp at hp; subst hp
      exact hk.set 1 k'
  · exact (h.t.own p hp).kept ch (fun j hj e => by
      obtain ⟨cur, e2⟩ := own_block (h.t.own p hp) hj
      exact cells_ne e2 hk.eq (by decide) e)
theorem NS.own (h : NS W w g lv cn kv ad y x ks ts) {v : Value} {l : List Int} (hm : (v, l) ∈ ts) : Own w v l := h.t.own (v, l) hm
end
theorem front2 {w : World} {g n k c : Nat} {l : List Int} (hn : n = l.length) (h : Own w (.slice (some ⟨g, 0, none⟩) k c) (l ++ [165, 90])) : Src w (.slice (some ⟨g, 0, none⟩) n c) l := by
  subst hn
  exact Own.front h c (by simp)
theorem untouched2 {w : World} {a : Option Addr} {s : Value} {n c : Nat} {m : List Int} (hn : n = m.length) (hs : Src w s m) (ho : Own w (.slice a (n + 2) c) (m ++ [165, 90])) (hl : n + 2 ≤ 140737488355328) :
    Calls Tryd.prog 11 #[.slice a (n + 2) c, s] w fun e w' => e = .returned (.bool true) ∧ ∃ n, w' = w.drewN n := by
  subst hn
  exact untouched_any hs ho hl
theorem wrap64 (x : Int) : IntKind.u64.wrap x = x % 18446744073709551616 := by
  unfold IntKind.wrap
  simp [IntKind.signed, IntKind.bits]
/-- The texts among them, as a list. -/
def pk (ts : List (Value × List Int)) (ix : List Nat) (k : Nat) : Value × List Int := ts.getD (ix.getD k 0) (.slice none 0 0, [])
theorem ap_of_tx {B : Nat} {w : World} {ts : List (Value × List Int)} {ix : List Nat} (h : Tx B w ts) (hi : ∀ j, j < ix.length → ∀ k, k < ix.length → j ≠ k → ix.getD j 0 ≠ ix.getD k 0) (hl : ∀ k, k < ix.length → ix.getD k 0 < ts.length) :
    AP (w.alloc (.cells ((List.range ix.length).map fun k => (pk ts ix k).1).toArray 22)) w.heap.size ix.length (fun k => (pk ts ix k).1) (fun k => (pk ts ix k).2) ∧ (∀ k, k < ix.length → ∀ b, (∀ p ∈ ts, p.2.length ≤ b) → (pk ts ix k).2.length + 70 ≤ b + 70) ∧ ∀ k, k < ix.length → ∀ g, (pk ts ix k).1.ownBlock = some g → B ≤ g := by
  have mem : ∀ k, k < ix.length → pk ts ix k ∈ ts := fun k hk => by
    unfold pk
    rw [List.getD_eq_getElem?_getD, List.getElem?_eq_getElem (hl k hk)]
    exact List.getElem_mem _
  have pw := List.pairwise_iff_getElem.1 h.dis
  have at_ : ∀ k (hk : k < ix.length), pk ts ix k = ts[ix.getD k 0]'(hl k hk) := fun k hk => by
    unfold pk
    rw [List.getD_eq_getElem?_getD, List.getElem?_eq_getElem (hl k hk)]
    rfl
  refine ⟨⟨Blk.made _ _ _, fun k hk => (h.own _ (mem k hk)).alloc _, fun j k hj hk hne g hg e => ?_⟩, fun k hk b hb => by have := hb _ (mem k hk); omega, fun k hk g hg => h.lo _ (mem k hk) g hg⟩
  have n1 := hi j hj k hk hne
  rw [at_ j hj] at hg
  rw [at_ k hk] at e
  rcases Nat.lt_or_ge (ix.getD j 0) (ix.getD k 0) with h1 | h1
  · exact pw _ _ (hl j hj) (hl k hk) h1 g hg e
  · exact pw _ _ (hl k hk) (hl j hj) (by omega) g e hg
end Go.Proofs.YtoilnommhkmioaaDoor
