/-
  Things with numbers in memory: what a block holds, what a call changes.
-/
import Derived.Test.YtpkcabbfblhekaaRows
import Derived.WalkKit
import Derived.WalkSpells
import Derived.WalkLawsBesides
import Derived.Lib.BitFns
import Derived.BigQuiet
import Derived.Deep.QuietTactic
import Derived.Deep.RegionHeld3
import Derived.Deep.AppendLies
import Derived.Deep.MidRow
import Derived.Deep.LoopGhost
import Derived.OwnWalk
import Derived.Below
namespace Go.Proofs.Ytpkcabbfblhekaa
open Go.RowKit

/-- Only blocks in S have turned, and some were made. -/
structure Chg (S : Nat → Prop) (w w' : World) : Prop where
  os : w'.os = w.os
  tape : w'.tape = w.tape
  output : w'.output = w.output
  size : w.heap.size ≤ w'.heap.size
  block : ∀ k, k < w.heap.size → ¬ S k → w'.heap[k]? = w.heap[k]?

theorem Chg.refl (S : Nat → Prop) (w : World) : Chg S w w := ⟨rfl, rfl, rfl, Nat.le_refl _, fun _ _ _ => rfl⟩
theorem Chg.drew {S : Nat → Prop} {a w : World} (h : Chg S a w) : Chg S a w.drew := ⟨h.os, h.tape, h.output, h.size, h.block⟩
theorem Chg.alloc {S : Nat → Prop} {a w : World} (h : Chg S a w) (o : Obj) : Chg S a (w.alloc o) :=
  ⟨h.os, h.tape, h.output, Nat.le_trans h.size (by simp), fun k hk hn => (Below.heap_alloc w o k (Nat.lt_of_lt_of_le hk h.size)).trans (h.block k hk hn)⟩
theorem Chg.setCell {S : Nat → Prop} {a w : World} (h : Chg S a w) {p : Addr} (hp : S p.block ∨ a.heap.size ≤ p.block) (u : Value) : Chg S a (w.setCell p u) :=
  ⟨h.os, h.tape, h.output, Nat.le_trans h.size (by simp), fun k hk hn => (Below.heap_setCell w p u k (fun e => by subst e; rcases hp with hp | hp; exact hn hp; omega)).trans (h.block k hk hn)⟩
theorem Chg.trans {S T : Nat → Prop} {a b c : World} (h : Chg S a b) (k : Chg T b c) (hT : ∀ i, T i → S i ∨ a.heap.size ≤ i) : Chg S a c :=
  ⟨k.os.trans h.os, k.tape.trans h.tape, k.output.trans h.output, Nat.le_trans h.size k.size, fun i hi hn => (k.block i (Nat.lt_of_lt_of_le hi h.size) (fun ht => by rcases hT i ht with x | x; exact hn x; omega)).trans (h.block i hi hn)⟩
theorem Chg.of_grown {w w' : World} {row : Option Nat} (h : w.grownBy w' row) : Chg (fun k => some k = row) w w' := ⟨h.os, h.tape, h.output, h.size, fun k hk hn => h.block k hk hn⟩
theorem Chg.of_below {w w' : World} (h : Below w.heap.size w w') (S : Nat → Prop) : Chg S w w' := ⟨h.os, h.tape, h.output, h.size, fun k hk _ => h.block k hk⟩
theorem Chg.below {w w' : World} {S : Nat → Prop} (h : Chg S w w') {B : Nat} (hB : B ≤ w.heap.size) (hS : ∀ k, S k → B ≤ k) : Below B w w' := ⟨h.os, h.tape, h.output, h.size, fun k hk => h.block k (by omega) (fun s => by have := hS k s; omega)⟩
theorem Chg.mono {w w' : World} {S T : Nat → Prop} (h : Chg S w w') (hT : ∀ i, i < w.heap.size → S i → T i) : Chg T w w' := ⟨h.os, h.tape, h.output, h.size, fun k hk hn => h.block k hk (fun s => hn (hT k hk s))⟩
theorem Chg.heap_some {w w' : World} {S : Nat → Prop} (h : Chg S w w') {k : Nat} {o : Obj} (hc : w.heap[k]? = some o) (hn : ¬ S k) : w'.heap[k]? = some o := (h.block k (Array.getElem?_eq_some_iff.1 hc).1 hn).trans hc

theorem addr_add (b off i : Nat) : (⟨b, off, none⟩ : Addr).add i = ⟨b, off + i, none⟩ := by unfold Addr.add; split <;> simp_all

/-- Block g has these cells. -/
structure Blk (w : World) (g : Nat) (cs : List Value) (t : TypeId) : Prop where
  eq : w.heap[g]? = some (.cells cs.toArray t (0, 0))

section
variable {w w' : World} {g : Nat} {cs : List Value} {t : TypeId}
theorem Blk.lt (h : Blk w g cs t) : g < w.heap.size := (Array.getElem?_eq_some_iff.1 h.eq).1
theorem Blk.cell (h : Blk w g cs t) (j : Nat) : w.cell? ⟨g, j, none⟩ = cs[j]? := by
  rw [cell_of_row w g j _ t (0, 0) h.eq]; simp
theorem Blk.fr (h : Blk w g cs t) (j : Nat) : w.frozen? ⟨g, j, none⟩ = false := frozen_of_row w g j _ t h.eq
theorem Blk.keep {S : Nat → Prop} (h : Blk w g cs t) (c : Chg S w w') (hn : ¬ S g) : Blk w' g cs t := ⟨c.heap_some h.eq hn⟩
theorem Blk.keep0 (h : Blk w g cs t) (b : Below w.heap.size w w') : Blk w' g cs t := by
  exact ⟨by rw [b.block g h.lt]; exact h.eq⟩
theorem Blk.made (w : World) (cs : List Value) (t : TypeId) : Blk (w.alloc (.cells cs.toArray t)) w.heap.size cs t := ⟨heap_alloc_new _ _⟩
theorem Blk.alloc (h : Blk w g cs t) (ob : Obj) : Blk (w.alloc ob) g cs t := h.keep0 ((Below.refl _ _).alloc (Nat.le_refl _) _)
theorem Blk.drew (h : Blk w g cs t) : Blk w.drew g cs t := ⟨h.eq⟩
theorem Blk.set (h : Blk w g cs t) (o : Nat) (v : Value) : Blk (w.setCell ⟨g, o, none⟩ v) g (cs.set o v) t := by
  refine ⟨?_⟩
  rw [heap_setCell_same w g o _ t v h.eq]
  simp
theorem Blk.range (h : Blk w g cs t) {o : Nat} {vs : List Value} (hv : (cs.drop o).take vs.length = vs) : w.rangeAt g o vs := fun j v hj => by
  rw [h.cell]
  rw [← hv, List.getElem?_take] at hj
  split at hj
  · rw [List.getElem?_drop] at hj; exact hj
  · cases hj
theorem Blk.there (h : Blk w g cs t) {o n : Nat} (hn : o + n ≤ cs.length) : w.there g o n := fun j hj => by
  rw [h.cell]
  refine ⟨?_, h.fr _⟩
  simp; omega
end

/-- A list with a piece laid over it. -/
def splice {α : Type} (l : List α) (o : Nat) (m : List α) : List α := l.take o ++ m ++ l.drop (o + m.length)

theorem Blk.setCells {g : Nat} {t : TypeId} : ∀ (vs : List Value) (o : Nat) (w : World) (cs : List Value), Blk w g cs t → o + vs.length ≤ cs.length → Blk (w.setCells g o vs) g (splice cs o vs) t ∧ Chg (fun k => k = g) w (w.setCells g o vs)
  | [], o, w, cs, h, _ => by
    refine ⟨?_, Chg.refl _ _⟩
    simpa [splice, World.setCells] using h
  | v :: vs, o, w, cs, h, hl => by
    simp only [List.length_cons] at hl
    have h1 := h.set o v
    obtain ⟨h2, h3⟩ := Blk.setCells vs (o + 1) _ _ h1 (by simp; omega)
    refine ⟨?_, ((Chg.refl (fun k => k = g) w).setCell (.inl rfl) v).trans h3 (fun _ e => .inl e)⟩
    have e : splice (cs.set o v) (o + 1) vs = splice cs o (v :: vs) := by
      unfold splice
      have ho : o < cs.length := by omega
      rw [List.take_set, List.drop_set_of_lt (by omega), List.take_add_one, List.set_append_right _ _ (by simp; omega)]
      simp only [List.getElem?_eq_getElem ho, Option.toList_some, List.length_take, Nat.min_eq_left (Nat.le_of_lt ho), Nat.sub_self, List.set_cons_zero, List.append_assoc, List.length_cons]
      rw [show o + 1 + vs.length = o + (vs.length + 1) by omega]
      rfl
    rw [e] at h2
    exact h2

/-- A thing with its number: what it is ordered by, what it is, when it came. -/
structure E where
  k : Int
  n : Int
  num : Int
def zE : E := ⟨0, 0, 0⟩
/-- Its cells. -/
def E.cells (e : E) : List Value := [.int .i64 e.k, .int .i64 e.n, .int .i64 e.num]
def E.val (e : E) : Value := .agg #[.int .i64 e.k, .int .i64 e.n, .int .i64 e.num]
def E.two (e : E) : Value := .agg #[.int .i64 e.k, .int .i64 e.n]
def nth (H : List E) (i : Nat) : E := H.getD i zE
def sw (H : List E) (i j : Nat) : List E := (H.set i (nth H j)).set j (nth H i)
theorem sw_len (H : List E) (i j : Nat) : (sw H i j).length = H.length := by simp [sw]
/-- Things as cells. -/
def rowE (H : List E) : List Value := H.flatMap E.cells
theorem rowE_nil : rowE [] = [] := rfl
theorem rowE_cons (e : E) (H : List E) : rowE (e :: H) = e.cells ++ rowE H := rfl
theorem rowE_app (H G : List E) : rowE (H ++ G) = rowE H ++ rowE G := by simp [rowE]
theorem rowE_len (H : List E) : (rowE H).length = H.length * 3 := by
  induction H with
  | nil => rfl
  | cons e H ih => rw [rowE_cons, List.length_append, ih]; simp [E.cells]; omega
theorem rowE_one (H : List E) : ∀ u ∈ rowE H, u.oneCell' = true := by
  intro u hu
  simp only [rowE, List.mem_flatMap, E.cells, List.mem_cons, List.not_mem_nil, or_false] at hu
  obtain ⟨e, _, rfl | rfl | rfl⟩ := hu <;> rfl
theorem rowE_get (H : List E) (sp : List Value) : ∀ (i : Nat), i < H.length → ((rowE H ++ sp).drop (i * 3)).take 3 = (nth H i).cells := by
  induction H with
  | nil => intro i h; simp at h
  | cons e H ih =>
    intro i h
    cases i with
    | zero => simp [rowE_cons, nth, E.cells]
    | succ i =>
      have := ih i (by simpa using h)
      have e3 : (i + 1) * 3 = 3 + i * 3 := by omega
      rw [e3, ← List.drop_drop, rowE_cons, List.append_assoc]
      have : (e.cells ++ (rowE H ++ sp)).drop 3 = rowE H ++ sp := by simp [E.cells]
      rw [this]
      simpa [nth] using ih i (by simpa using h)
theorem rowE_at (H : List E) (sp : List Value) (i : Nat) (h : i < H.length) : (rowE H ++ sp)[i * 3]? = some (.int .i64 (nth H i).k) ∧ (rowE H ++ sp)[i * 3 + 1]? = some (.int .i64 (nth H i).n) ∧ (rowE H ++ sp)[i * 3 + 2]? = some (.int .i64 (nth H i).num) := by
  have e := rowE_get H sp i h
  have g : ∀ j, j < 3 → (rowE H ++ sp)[i * 3 + j]? = (nth H i).cells[j]? := fun j hj => by rw [← e, List.getElem?_take, if_pos hj, List.getElem?_drop]
  exact ⟨by simpa [E.cells] using g 0 (by omega), by simpa [E.cells] using g 1 (by omega), by simpa [E.cells] using g 2 (by omega)⟩
theorem rowE_set (H : List E) (sp : List Value) : ∀ (i : Nat) (e : E), i < H.length → splice (rowE H ++ sp) (i * 3) e.cells = rowE (H.set i e) ++ sp := by
  induction H with
  | nil => intro i e h; simp at h
  | cons x H ih =>
    intro i e h
    cases i with
    | zero => simp [splice, rowE_cons, E.cells]
    | succ i =>
      have e3 : (i + 1) * 3 = 3 + i * 3 := by omega
      have := ih i e (by simpa using h)
      unfold splice at this ⊢
      have hx : x.cells.length = 3 := rfl
      rw [List.set_cons_succ, rowE_cons, rowE_cons, List.append_assoc x.cells, List.append_assoc x.cells, ← this, e3]
      have t1 : (x.cells ++ (rowE H ++ sp)).take (3 + i * 3) = x.cells ++ (rowE H ++ sp).take (i * 3) := by rw [← hx, List.take_length_add_append]
      have t2 : (x.cells ++ (rowE H ++ sp)).drop (3 + i * 3 + e.cells.length) = (rowE H ++ sp).drop (i * 3 + e.cells.length) := by rw [← hx, Nat.add_assoc, List.drop_length_add_append]
      rw [t1, t2]
      simp [List.append_assoc]

theorem E.cells_len (e : E) : e.cells.length = 3 := rfl
theorem E.one (e : E) : ∀ v ∈ e.cells, v.oneCell' = true := by
  intro u hu
  simp only [E.cells, List.mem_cons, List.not_mem_nil, or_false] at hu
  obtain rfl | rfl | rfl := hu <;> rfl

end Go.Proofs.Ytpkcabbfblhekaa
