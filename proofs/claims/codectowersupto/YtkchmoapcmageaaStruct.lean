/-
  Structs in a block of their own: a field that is an aggregate, stored and loaded.
-/
import Derived.Test.YtkchmoapcmageaaSum2
import Derived.Deep.MidRow
namespace Go.Proofs.Ytkchmoapcmageaa
open Go.RowKit

/-- Block g has these cells. -/
structure Blk (w : World) (g : Nat) (cs : List Value) (t : TypeId) : Prop where
  eq : w.heap[g]? = some (.cells cs.toArray t (0, 0))

theorem Blk.lt {w : World} {g : Nat} {cs : List Value} {t : TypeId} (h : Blk w g cs t) : g < w.heap.size := (Array.getElem?_eq_some_iff.1 h.eq).1
theorem Blk.cell {w : World} {g : Nat} {cs : List Value} {t : TypeId} (h : Blk w g cs t) (j : Nat) : w.cell? ⟨g, j, none⟩ = cs[j]? := by
  rw [cell_of_row w g j _ t (0, 0) h.eq]; simp
theorem Blk.fr {w : World} {g : Nat} {cs : List Value} {t : TypeId} (h : Blk w g cs t) (j : Nat) : w.frozen? ⟨g, j, none⟩ = false := frozen_of_row w g j _ t h.eq
theorem Blk.keep {w w' : World} {g : Nat} {cs : List Value} {t : TypeId} {S : Nat → Prop} (h : Blk w g cs t) (c : Chg S w w') (hn : ¬ S g) : Blk w' g cs t := ⟨c.heap_some h.eq hn⟩
theorem Blk.keep0 {w w' : World} {g : Nat} {cs : List Value} {t : TypeId} (h : Blk w g cs t) (b : Below w.heap.size w w') : Blk w' g cs t := by
  exact ⟨by rw [b.block g h.lt]; exact h.eq⟩
theorem Blk.made (w : World) (cs : List Value) (t : TypeId) : Blk (w.alloc (.cells cs.toArray t)) w.heap.size cs t := ⟨heap_alloc_new _ _⟩
theorem Blk.alloc {w : World} {g : Nat} {cs : List Value} {t : TypeId} (h : Blk w g cs t) (ob : Obj) : Blk (w.alloc ob) g cs t := h.keep0 ((Below.refl _ _).alloc (Nat.le_refl _) _)
theorem Blk.drew {w : World} {g : Nat} {cs : List Value} {t : TypeId} (h : Blk w g cs t) : Blk w.drew g cs t := ⟨h.eq⟩
theorem Blk.set {w : World} {g : Nat} {cs : List Value} {t : TypeId} (h : Blk w g cs t) (o : Nat) (v : Value) : Blk (w.setCell ⟨g, o, none⟩ v) g (cs.set o v) t := by
  refine ⟨?_⟩
  rw [heap_setCell_same w g o _ t v h.eq]
  simp
theorem Blk.range {w : World} {g : Nat} {cs : List Value} {t : TypeId} (h : Blk w g cs t) {o : Nat} {vs : List Value} (hv : (cs.drop o).take vs.length = vs) : w.rangeAt g o vs := fun j v hj => by
  rw [h.cell]
  rw [← hv, List.getElem?_take] at hj
  split at hj
  · rw [List.getElem?_drop] at hj; exact hj
  · cases hj
theorem Blk.there {w : World} {g : Nat} {cs : List Value} {t : TypeId} (h : Blk w g cs t) {o n : Nat} (hn : o + n ≤ cs.length) : w.there g o n := fun j hj => by
  rw [h.cell]
  refine ⟨?_, h.fr _⟩
  simp; omega

theorem Blk.setCells {g : Nat} {t : TypeId} : ∀ (vs : List Value) (o : Nat) (w : World) (cs : List Value), Blk w g cs t → o + vs.length ≤ cs.length → Blk (w.setCells g o vs) g (splice cs o vs) t ∧ Chg (fun k => k = g) w (w.setCells g o vs)
  | [], o, w, cs, h, _ => by
    refine ⟨?_, Chg.refl _ _⟩
    simpa [splice, World.setCells] using h
  | v :: vs, o, w, cs, h, hl => by
    simp only [List.length_cons] at hl
    have h1 := h.set o v
    obtain ⟨h2, h3⟩ := Blk.setCells vs (o + 1) _ _ h1 (by simp; omega)
    refine ⟨?_, ((Chg.refl (fun k => k = g) w).setCell (.inl rfl) v).trans h3 (fun _ e => .inl e)⟩
    have e : splice (cs.set o v) (o + 1) vs = splice cs o (v :: vs) := by
      unfold splice
      have ho : o < cs.length := by omega
      rw [List.take_set, List.drop_set_of_lt (by omega), List.take_add_one, List.set_append_right _ _ (by simp; omega)]
      simp only [List.getElem?_eq_getElem ho, Option.toList_some, List.length_take, Nat.min_eq_left (Nat.le_of_lt ho), Nat.sub_self, List.set_cons_zero, List.append_assoc, List.length_cons]
      rw [show o + 1 + vs.length = o + (vs.length + 1) by omega]
      rfl
    rw [e] at h2
    exact h2

section
variable {ops : Array Oper} {rest : List Oper} {op : Oper} {a : Act} {w : World} {Q : Exit → Act → World → Prop}
theorem wpList_store_part (hgd : op.guard = none) (ty : TypeId) (x y : Operand) (ho : op.op = .store ty x y)
    (g o : Nat) (vs : List Value) (hx : a.eval x = .pointer (some ⟨g, o, none⟩)) (hy : a.eval y = .agg vs.toArray) {cs : List Value} {t : TypeId} (hg : Blk w g cs t) (hl : o + vs.length ≤ cs.length)
    (hi : (Try.prog.info? ty).map (·.size) = some vs.length) (h1 : ∀ v ∈ vs, v.oneCell' = true)
    (h : ∀ w', Blk w' g (splice cs o vs) t → Chg (fun k => k = g) w w' → wpList Try.prog ops Q rest (a.put op.dst undef) w') : wpList Try.prog ops Q (op :: rest) a w := by
  obtain ⟨h2, h3⟩ := Blk.setCells vs o w cs hg hl
  exact wpList_store_mid hgd ty x y ho g o vs.toArray hx hy (by rw [List.size_toArray]; exact hg.there hl) (by rw [List.size_toArray]; exact hi) (all_oneCell_toArray h1) (by rw [List.toList_toArray]; exact h _ h2 h3)

theorem wpList_load_part (hgd : op.guard = none) (ty : TypeId) (x : Operand) (ho : op.op = .load ty x)
    (g o : Nat) (vs : List Value) (hx : a.eval x = .pointer (some ⟨g, o, none⟩)) {cs : List Value} {t : TypeId} (hg : Blk w g cs t) (hv : (cs.drop o).take vs.length = vs) {d : TypeDesc} (hu : Try.prog.underlying ty = some d) (hd : d.isRow = true)
    (hi : (Try.prog.info? ty).map (·.size) = some vs.length) (h : wpList Try.prog ops Q rest (a.put op.dst (.agg vs.toArray)) w) : wpList Try.prog ops Q (op :: rest) a w :=
  wpList_load_mid hgd ty x ho g o hx vs d (hg.range hv) hu hd hi h
end

theorem results_row2 {fn : Func} {p u : Tmp} {ty : TypeId} (h : fn.results = #[.cell p ty, .tmp u]) (tmps : Array Value) (w : World) (g : Nat) (t : TypeId) (cs : List Value) (d : TypeDesc) (x : Value)
    (hp : tmps.getD p undef = .pointer (some ⟨g, 0, none⟩)) (hg : Blk w g cs t)
    (hu : Try.prog.underlying ty = some d) (hd : d.isRow = true) (hi : (Try.prog.info? ty).map (·.size) = some cs.length) (hx : tmps.getD u undef = x) :
    (results fn tmps).run Try.prog w = .ok (.tuple #[.agg cs.toArray, x]) w := by
  have hl := run_loadVar_mid (P := Try.prog) w g 0 ty cs d (hg.range (by simp)) hu hd hi
  have hp' : tmps[p]?.getD undef = .pointer (some ⟨g, 0, none⟩) := by simpa using hp
  have hx' : tmps[u]?.getD undef = x := by simpa using hx
  simp [results, h, hp', hx', asAddr, hl]

theorem splice_all {α : Type} (L cs : List α) (h : cs.length = L.length) : splice L 0 cs = cs := by simp [splice, h]
end Go.Proofs.Ytkchmoapcmageaa
