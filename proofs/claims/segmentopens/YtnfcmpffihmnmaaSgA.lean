/-
  Things with numbers in memory: what a block holds, what a call changes.
-/
import Derived.Test.YtnfcmpffihmnmaaRows
import Derived.WalkKit
import Derived.WalkSpells
import Derived.WalkLawsBesides
import Derived.Lib.BitFns
import Derived.BigQuiet
import Derived.Deep.QuietTactic
import Derived.Deep.RegionHeld3
import Derived.Deep.AppendLies
import Derived.Deep.MidRow
import Derived.Deep.LoopGhost
import Derived.OwnWalk
import Derived.Below
import Derived.Sort.AssemblyPlain
namespace Go.Proofs.Ytnfcmpffihmnmaa
open Go.RowKit

/-- Only blocks in S have turned, and some were made. -/
structure Chg (S : Nat → Prop) (w w' : World) : Prop where
  os : w'.os = w.os
  tape : w'.tape = w.tape
  output : w'.output = w.output
  size : w.heap.size ≤ w'.heap.size
  block : ∀ k, k < w.heap.size → ¬ S k → w'.heap[k]? = w.heap[k]?

theorem Chg.refl (S : Nat → Prop) (w : World) : Chg S w w := ⟨rfl, rfl, rfl, Nat.le_refl _, fun _ _ _ => rfl⟩
theorem Chg.drew {S : Nat → Prop} {a w : World} (h : Chg S a w) : Chg S a w.drew := ⟨h.os, h.tape, h.output, h.size, h.block⟩
theorem Chg.alloc {S : Nat → Prop} {a w : World} (h : Chg S a w) (o : Obj) : Chg S a (w.alloc o) :=
  ⟨h.os, h.tape, h.output, Nat.le_trans h.size (by simp), fun k hk hn => (Below.heap_alloc w o k (Nat.lt_of_lt_of_le hk h.size)).trans (h.block k hk hn)⟩
theorem Chg.setCell {S : Nat → Prop} {a w : World} (h : Chg S a w) {p : Addr} (hp : S p.block ∨ a.heap.size ≤ p.block) (u : Value) : Chg S a (w.setCell p u) :=
  ⟨h.os, h.tape, h.output, Nat.le_trans h.size (by simp), fun k hk hn => (Below.heap_setCell w p u k (fun e => by subst e; rcases hp with hp | hp; exact hn hp; omega)).trans (h.block k hk hn)⟩
theorem Chg.trans {S T : Nat → Prop} {a b c : World} (h : Chg S a b) (k : Chg T b c) (hT : ∀ i, T i → S i ∨ a.heap.size ≤ i) : Chg S a c :=
  ⟨k.os.trans h.os, k.tape.trans h.tape, k.output.trans h.output, Nat.le_trans h.size k.size, fun i hi hn => (k.block i (Nat.lt_of_lt_of_le hi h.size) (fun ht => by rcases hT i ht with x | x; exact hn x; omega)).trans (h.block i hi hn)⟩
theorem Chg.of_grown {w w' : World} {row : Option Nat} (h : w.grownBy w' row) : Chg (fun k => some k = row) w w' := ⟨h.os, h.tape, h.output, h.size, fun k hk hn => h.block k hk hn⟩
theorem Chg.of_below {w w' : World} (h : Below w.heap.size w w') (S : Nat → Prop) : Chg S w w' := ⟨h.os, h.tape, h.output, h.size, fun k hk _ => h.block k hk⟩
theorem Chg.below {w w' : World} {S : Nat → Prop} (h : Chg S w w') {B : Nat} (hB : B ≤ w.heap.size) (hS : ∀ k, S k → B ≤ k) : Below B w w' := ⟨h.os, h.tape, h.output, h.size, fun k hk => h.block k (by omega) (fun s => by have := hS k s; omega)⟩
theorem Chg.mono {w w' : World} {S T : Nat → Prop} (h : Chg S w w') (hT : ∀ i, i < w.heap.size → S i → T i) : Chg T w w' := ⟨h.os, h.tape, h.output, h.size, fun k hk hn => h.block k hk (fun s => hn (hT k hk s))⟩
theorem Chg.heap_some {w w' : World} {S : Nat → Prop} (h : Chg S w w') {k : Nat} {o : Obj} (hc : w.heap[k]? = some o) (hn : ¬ S k) : w'.heap[k]? = some o := (h.block k (Array.getElem?_eq_some_iff.1 hc).1 hn).trans hc

theorem addr_add (b off i : Nat) : (⟨b, off, none⟩ : Addr).add i = ⟨b, off + i, none⟩ := by unfold Addr.add; split <;> simp_all

/-- Block g has these cells. -/
structure Blk (w : World) (g : Nat) (cs : List Value) (t : TypeId) : Prop where
  eq : w.heap[g]? = some (.cells cs.toArray t (0, 0))

section
variable {w w' : World} {g : Nat} {cs : List Value} {t : TypeId}
theorem Blk.lt (h : Blk w g cs t) : g < w.heap.size := (Array.getElem?_eq_some_iff.1 h.eq).1
theorem Blk.cell (h : Blk w g cs t) (j : Nat) : w.cell? ⟨g, j, none⟩ = cs[j]? := by
  rw [cell_of_row w g j _ t (0, 0) h.eq]; simp
theorem Blk.fr (h : Blk w g cs t) (j : Nat) : w.frozen? ⟨g, j, none⟩ = false := frozen_of_row w g j _ t h.eq
theorem Blk.keep {S : Nat → Prop} (h : Blk w g cs t) (c : Chg S w w') (hn : ¬ S g) : Blk w' g cs t := ⟨c.heap_some h.eq hn⟩
theorem Blk.keep0 (h : Blk w g cs t) (b : Below w.heap.size w w') : Blk w' g cs t := by
  exact ⟨by rw [b.block g h.lt]; exact h.eq⟩
theorem Blk.made (w : World) (cs : List Value) (t : TypeId) : Blk (w.alloc (.cells cs.toArray t)) w.heap.size cs t := ⟨heap_alloc_new _ _⟩
theorem Blk.alloc (h : Blk w g cs t) (ob : Obj) : Blk (w.alloc ob) g cs t := h.keep0 ((Below.refl _ _).alloc (Nat.le_refl _) _)
theorem Blk.drew (h : Blk w g cs t) : Blk w.drew g cs t := ⟨h.eq⟩
theorem Blk.set (h : Blk w g cs t) (o : Nat) (v : Value) : Blk (w.setCell ⟨g, o, none⟩ v) g (cs.set o v) t := by
  refine ⟨?_⟩
  rw [heap_setCell_same w g o _ t v h.eq]
  simp
theorem Blk.range (h : Blk w g cs t) {o : Nat} {vs : List Value} (hv : (cs.drop o).take vs.length = vs) : w.rangeAt g o vs := fun j v hj => by
  rw [h.cell]
  rw [← hv, List.getElem?_take] at hj
  split at hj
  · rw [List.getElem?_drop] at hj; exact hj
  · cases hj
theorem Blk.there (h : Blk w g cs t) {o n : Nat} (hn : o + n ≤ cs.length) : w.there g o n := fun j hj => by
  rw [h.cell]
  refine ⟨?_, h.fr _⟩
  simp; omega
end

/-- A list with a piece laid over it. -/
def splice {α : Type} (l : List α) (o : Nat) (m : List α) : List α := l.take o ++ m ++ l.drop (o + m.length)

theorem Blk.setCells {g : Nat} {t : TypeId} : ∀ (vs : List Value) (o : Nat) (w : World) (cs : List Value), Blk w g cs t → o + vs.length ≤ cs.length → Blk (w.setCells g o vs) g (splice cs o vs) t ∧ Chg (fun k => k = g) w (w.setCells g o vs)
  | [], o, w, cs, h, _ => by
    refine ⟨?_, Chg.refl _ _⟩
    simpa [splice, World.setCells] using h
  | v :: vs, o, w, cs, h, hl => by
    simp only [List.length_cons] at hl
    have h1 := h.set o v
    obtain ⟨h2, h3⟩ := Blk.setCells vs (o + 1) _ _ h1 (by simp; omega)
    refine ⟨?_, ((Chg.refl (fun k => k = g) w).setCell (.inl rfl) v).trans h3 (fun _ e => .inl e)⟩
    have e : splice (cs.set o v) (o + 1) vs = splice cs o (v :: vs) := by
      unfold splice
      have ho : o < cs.length := by omega
      rw [List.take_set, List.drop_set_of_lt (by omega), List.take_add_one, List.set_append_right _ _ (by simp; omega)]
      simp only [List.getElem?_eq_getElem ho, Option.toList_some, List.length_take, Nat.min_eq_left (Nat.le_of_lt ho), Nat.sub_self, List.set_cons_zero, List.append_assoc, List.length_cons]
      rw [show o + 1 + vs.length = o + (vs.length + 1) by omega]
      rfl
    rw [e] at h2
    exact h2

/-- Block g begins with these numbers. -/
def RU (w : World) (g : Nat) (d : Array Int) : Prop := ∃ rest, Blk w g (d.toList.map (Value.int .u64) ++ rest) 22

theorem RU.lt {w : World} {g : Nat} {d : Array Int} (h : RU w g d) : g < w.heap.size := by
  obtain ⟨r, hb⟩ := h
  exact hb.lt
theorem RU.cell {w : World} {g : Nat} {d : Array Int} (h : RU w g d) {i : Nat} (hi : i < d.size) : w.cell? ⟨g, i, none⟩ = some (.int .u64 d[i]!) := by
  obtain ⟨r, hb⟩ := h
  rw [hb.cell, List.getElem?_append_left (by simp; exact hi), List.getElem?_map]
  simp [hi]
theorem RU.fr {w : World} {g : Nat} {d : Array Int} (h : RU w g d) (i : Nat) : w.frozen? ⟨g, i, none⟩ = false := by
  obtain ⟨r, hb⟩ := h
  exact hb.fr i
theorem RU.keep {w w' : World} {g : Nat} {d : Array Int} {S : Nat → Prop} (h : RU w g d) (k : Chg S w w') (hn : ¬ S g) : RU w' g d := by
  obtain ⟨r, hb⟩ := h
  exact ⟨r, hb.keep k hn⟩
theorem RU.set {w : World} {g : Nat} {d : Array Int} (h : RU w g d) {i : Nat} (hi : i < d.size) (x : Int) : RU (w.setCell ⟨g, i, none⟩ (.int .u64 x)) g (d.setIfInBounds i x) := by
  obtain ⟨r, hb⟩ := h
  refine ⟨r, ?_⟩
  have := hb.set i (.int .u64 x)
  rw [List.set_append_left _ _ (by simp; exact hi)] at this
  rw [Array.toList_setIfInBounds, List.map_set]
  exact this
theorem RU.drewN {w : World} {g : Nat} {d : Array Int} (h : RU w g d) (n : Nat) : RU (w.drewN n) g d := by
  obtain ⟨r, hb⟩ := h
  exact ⟨r, ⟨hb.eq⟩⟩
theorem swp_size (d : Array Int) (i j : Nat) : (Sort.swp d i j).size = d.size := by simp [Sort.swp]
theorem RU.swp {w : World} {g : Nat} {d : Array Int} (h : RU w g d) {i j : Nat} (hi : i < d.size) (hj : j < d.size) : RU ((w.setCell ⟨g, i, none⟩ (.int .u64 d[j]!)).setCell ⟨g, j, none⟩ (.int .u64 d[i]!)) g (Sort.swp d i j) :=
  (h.set hi _).set (by simp; exact hj) _

def ltI : Int → Int → Bool := Sort.ltInt

set_option maxRecDepth 100000 in
theorem less_any (x y : Int) (w : World) : Calls Try.prog 40 #[.int .u64 x, .int .u64 y] w fun e w' => e = .returned (.bool (decide (x < y))) ∧ w' = w := by
  have e1 : (x == x) = true := by simp
  have e2 : (y == y) = true := by simp
  go_enter Try.func40, Try.ntmps40
  go_wp2
  go_ret
  exact ⟨rfl, rfl⟩

end Go.Proofs.Ytnfcmpffihmnmaa
