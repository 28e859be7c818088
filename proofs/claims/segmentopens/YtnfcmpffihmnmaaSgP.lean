/-
  Marks in memory; lists that lie alone, and append onto them.
-/
import Derived.Test.YtnfcmpffihmnmaaSgO
namespace Go.Proofs.Ytnfcmpffihmnmaa
open Go.RowKit

theorem Chg.cell_some {w w' : World} {S : Nat → Prop} (h : Chg S w w') {a : Addr} {v : Value} (hc : w.cell? a = some v) (hn : ¬ S a.block) : w'.cell? a = some v := by
  have hl := World.block_lt_of_cell? _ _ hc
  have e : w'.heap[a.block]? = w.heap[a.block]? := h.block _ hl hn
  rw [← hc]
  simp only [World.cell?, e]
theorem rangeAt_kept {w w' : World} {S : Nat → Prop} {g o : Nat} {vs : List Value} (h : w.rangeAt g o vs) (c : Chg S w w') (hn : ¬ S g) : w'.rangeAt g o vs := fun j v hj => c.cell_some (h j v hj) hn

structure Mk where
  se : Int
  us : Int
def Mk.cells (m : Mk) : List Value := [.int .u64 m.se, .int .i64 m.us]
/-- Records that lie one behind the other. -/
def RowsIn (w : World) (Av : Nat → Prop) (A : Option Addr) (n sz : Nat) (f : Nat → List Value) : Prop := ∀ i, i < n → ∃ g o, A = some ⟨g, o, none⟩ ∧ Av g ∧ w.rangeAt g (o + i * sz) (f i)
theorem RowsIn.kept {w w' : World} {Av : Nat → Prop} {A : Option Addr} {n sz : Nat} {f : Nat → List Value} (h : RowsIn w Av A n sz f) {S : Nat → Prop} (c : Chg S w w') (hS : ∀ g, Av g → ¬ S g) : RowsIn w' Av A n sz f := fun i hi => by
  obtain ⟨g, o, e, ha, hr⟩ := h i hi
  exact ⟨g, o, e, ha, rangeAt_kept hr c (hS g ha)⟩
theorem RowsIn.mono {w : World} {Av Av' : Nat → Prop} {A : Option Addr} {n sz : Nat} {f : Nat → List Value} (h : RowsIn w Av A n sz f) (hA : ∀ g, Av g → Av' g) : RowsIn w Av' A n sz f := fun i hi => by
  obtain ⟨g, o, e, ha, hr⟩ := h i hi
  exact ⟨g, o, e, hA g ha, hr⟩
theorem ix_at {sl ty sz : Nat} (hu : Try.prog.underlying sl = some (.slice ty)) (he : Try.prog.elem sl = ty) (hs : ∀ w, (sizeOf ty).run Try.prog w = .ok sz w) {A : Option Addr} {g o n c j : Nat} (hA : A = some ⟨g, o, none⟩) (hj : j < n) (w : World) :
    (Instr.indexAt sl (.slice A n c) (.int .i64 j)).run Try.prog w = .ok (.pointer (some ⟨g, o + j * sz, none⟩)) w := by
  subst hA
  rw [run_indexAt_slice _ sl _ _ _ _ _ (by rw [he]; exact hu), if_pos ⟨by omega, by omega⟩, he, hs]
  simp [addr_add]
theorem Try.elem23 : Try.prog.elem 23 = 45 := by kernel_rfl
theorem Try.elem54 : Try.prog.elem 54 = 4 := by kernel_rfl
theorem Try.so45 (w : World) : (sizeOf 45).run Try.prog w = .ok 2 w := by kernel_rfl
theorem Try.so4 (w : World) : (sizeOf 4).run Try.prog w = .ok 1 w := by kernel_rfl
theorem Mk.one (m : Mk) : ∀ u ∈ m.cells, u.oneCell' = true := by
  intro v hv
  simp only [Mk.cells, List.mem_cons, List.not_mem_nil, or_false] at hv
  rcases hv with rfl | rfl <;> rfl
theorem Try.mkSz (m : Mk) : (Try.prog.info? 45).map (·.size) = some m.cells.length := by
  show _ = some 2
  kernel_rfl

section
variable {ops : Array Oper} {rest : List Oper} {op : Oper} {a : Act} {w : World} {Q : Exit → Act → World → Prop}
theorem wpList_store_part (hgd : op.guard = none) (ty : TypeId) (x y : Operand) (ho : op.op = .store ty x y)
    (g o : Nat) (vs : List Value) (hx : a.eval x = .pointer (some ⟨g, o, none⟩)) (hy : a.eval y = .agg vs.toArray) {cs : List Value} {t : TypeId} (hg : Blk w g cs t) (hl : o + vs.length ≤ cs.length)
    (hi : (Try.prog.info? ty).map (·.size) = some vs.length) (h1 : ∀ v ∈ vs, v.oneCell' = true)
    (h : ∀ w', Blk w' g (splice cs o vs) t → Chg (fun k => k = g) w w' → wpList Try.prog ops Q rest (a.put op.dst undef) w') : wpList Try.prog ops Q (op :: rest) a w := by
  obtain ⟨h2, h3⟩ := Blk.setCells vs o w cs hg hl
  exact wpList_store_mid hgd ty x y ho g o vs.toArray hx hy (by rw [List.size_toArray]; exact hg.there hl) (by rw [List.size_toArray]; exact hi) (all_oneCell_toArray h1) (by rw [List.toList_toArray]; exact h _ h2 h3)
theorem wpList_load_part (hgd : op.guard = none) (ty : TypeId) (x : Operand) (ho : op.op = .load ty x)
    (g o : Nat) (vs : List Value) (hx : a.eval x = .pointer (some ⟨g, o, none⟩)) {cs : List Value} {t : TypeId} (hg : Blk w g cs t) (hv : (cs.drop o).take vs.length = vs) {d : TypeDesc} (hu : Try.prog.underlying ty = some d) (hd : d.isRow = true)
    (hi : (Try.prog.info? ty).map (·.size) = some vs.length) (h : wpList Try.prog ops Q rest (a.put op.dst (.agg vs.toArray)) w) : wpList Try.prog ops Q (op :: rest) a w :=
  wpList_load_mid hgd ty x ho g o hx vs d (hg.range hv) hu hd hi h
end
theorem splice_all {α : Type} (L cs : List α) (h : cs.length = L.length) : splice L 0 cs = cs := by simp [splice, h]

/-- The cells of n records. -/
def cellsF (f : Nat → List Value) : Nat → List Value
  | 0 => []
  | n + 1 => cellsF f n ++ f n
section
variable {f : Nat → List Value} {sz : Nat}
theorem cellsF_len (h : ∀ i, (f i).length = sz) : ∀ n, (cellsF f n).length = n * sz
  | 0 => by simp [cellsF]
  | n + 1 => by rw [cellsF, List.length_append, cellsF_len h n, h, Nat.succ_mul]
theorem cellsF_at (h : ∀ i, (f i).length = sz) : ∀ n i j u, i < n → (f i)[j]? = some u → (cellsF f n)[i * sz + j]? = some u
  | 0, i, j, u, hi, _ => by omega
  | n + 1, i, j, u, hi, hu => by
    have hj : j < sz := by rw [← h i]; exact (List.getElem?_eq_some_iff.1 hu).1
    rcases Nat.lt_or_ge i n with c | c
    · have hk : i * sz + j < n * sz := by
        have := Nat.mul_le_mul_right sz (show i + 1 ≤ n by omega)
        rw [Nat.succ_mul] at this
        omega
      rw [cellsF, List.getElem?_append_left (by rw [cellsF_len h]; exact hk)]
      exact cellsF_at h n i j u c hu
    · have e : i = n := by omega
      subst e
      rw [cellsF, List.getElem?_append_right (by rw [cellsF_len h]; omega), cellsF_len h, Nat.add_sub_cancel_left]
      exact hu
theorem cellsF_inv (h : ∀ i, (f i).length = sz) : ∀ n k u, (cellsF f n)[k]? = some u → ∃ i j, i < n ∧ k = i * sz + j ∧ (f i)[j]? = some u
  | 0, k, u, hk => by simp [cellsF] at hk
  | n + 1, k, u, hk => by
    rw [cellsF] at hk
    rcases Nat.lt_or_ge k (n * sz) with c | c
    · rw [List.getElem?_append_left (by rw [cellsF_len h]; exact c)] at hk
      obtain ⟨i, j, a, b, d⟩ := cellsF_inv h n k u hk
      exact ⟨i, j, by omega, b, d⟩
    · rw [List.getElem?_append_right (by rw [cellsF_len h]; exact c), cellsF_len h] at hk
      exact ⟨n, k - n * sz, by omega, by omega, hk⟩
theorem cellsF_one (h1 : ∀ i, ∀ u ∈ f i, u.oneCell' = true) : ∀ n, ∀ u ∈ cellsF f n, u.oneCell' = true
  | 0, u, hu => by simp [cellsF] at hu
  | n + 1, u, hu => by
    rw [cellsF, List.mem_append] at hu
    rcases hu with hu | hu
    · exact cellsF_one h1 n u hu
    · exact h1 n u hu
end

/-- A list that lies alone in a row of its own. -/
def OL (w : World) (v : Value) (ty sz : Nat) (f : Nat → List Value) (n : Nat) : Prop := w.ownsRow 0 ty sz v n (cellsF f n)

section
variable {w w' : World} {v : Value} {ty sz n : Nat} {f : Nat → List Value}
theorem OL.kept (h : OL w v ty sz f n) {S : Nat → Prop} (c : Chg S w w') (hS : ∀ g, v.ownBlock = some g → ¬ S g) : OL w' v ty sz f n := by
  refine ⟨h.1, ?_⟩
  rcases h.2 with e | ⟨b, cap, cur, rfl, hb, hgg, rest⟩
  · exact .inl e
  · exact .inr ⟨b, cap, cur, rfl, hb, c.heap_some hgg (hS b rfl), rest⟩
theorem OL.rows (h : OL w v ty sz f n) (hf : ∀ i, (f i).length = sz) : ∃ A c, v = .slice A n c ∧ RowsIn w (fun g => v.ownBlock = some g) A n sz f := by
  have h0 := h
  rcases h.2 with ⟨e, h0⟩ | ⟨b, cap, cur, e, _⟩
  · exact ⟨none, 0, by rw [e, h0], fun i hi => by omega⟩
  · refine ⟨_, _, e, fun i hi => ⟨b, 0, rfl, by rw [e]; rfl, fun j u hu => ?_⟩⟩
    have := World.ownsRow.cells h0 (g := b) (by rw [e]; rfl) (i * sz + j) u (cellsF_at hf n i j u hi hu)
    rw [addr_add, Nat.zero_add] at this
    rw [Nat.zero_add]
    exact this
theorem OL.empty (w : World) : OL (w.alloc (.cells #[] ty)) (.slice (some ⟨w.heap.size, 0, none⟩) 0 0) ty sz f 0 := ⟨by simp [cellsF], .inr ⟨_, _, #[], rfl, Nat.zero_le _, heap_alloc_new _ _, Nat.le_refl _, by unfold maxLen; omega, by simp, by simp [cellsF]⟩⟩
/-- Records appended to none. -/
theorem OL.app {g0 : Nat → List Value} {sl by_ : Nat} {Z : Value} (hu : Try.prog.underlying sl = some (.slice ty)) (hi0 : (Try.prog.info? ty).map (fun i => (i.zero, i.size, i.bytes)) = some (some Z, sz, by_)) (hZ : Z.cells.size = sz) (hp : 0 < sz)
    {b : Nat} (h : OL w (.slice (some ⟨b, 0, none⟩) 0 0) ty sz g0 0) (hf : ∀ i, (f i).length = sz) (h1 : ∀ i, ∀ u ∈ f i, u.oneCell' = true) {Av : Nat → Prop} {A : Option Addr} {c : Nat} (hr : RowsIn w Av A n sz f) (hb : n * by_ ≤ 140737488355328) (hb2 : n ≤ 9223372036854775807) (ty2 : TypeId) :
    ∃ v' w', (Builtin.append_ #[sl, sl] ty2 #[.slice (some ⟨b, 0, none⟩) 0 0, .slice A n c]).run Try.prog w = .ok v' w' ∧ OL w' v' ty sz f n ∧ Chg (fun g => g = b) w w' ∧ (v'.ownBlock = some b ∨ v'.ownBlock = some w.heap.size) := by
  obtain ⟨i0, hi, hz0, hz1, hz2⟩ := info_parts hi0
  cases A with
  | none =>
    have n0 : n = 0 := by
      rcases Nat.eq_zero_or_pos n with e | e
      · exact e
      · obtain ⟨g, o, e, _⟩ := hr 0 e
        cases e
    subst n0
    refine ⟨_, w, ?_, h, Chg.refl _ _, .inl rfl⟩
    simp [Builtin.append_, run_underlying hu, sizeOf, typeInfo, hi, Builtin.lenOf, Builtin.firstCells, storeCells]
  | some a =>
    obtain ⟨v', w', r1, r2, r3, r4, r5⟩ := run_append_own_at (P := Try.prog) w 0 sl ty2 ty i0 Z sz by_ hu hi hz0 hz1 hz2 hZ hp _ 0 (cellsF g0 0) h a n c (cellsF f n) (cellsF_len hf n) (fun k u hk => by
      obtain ⟨i, j, q1, q2, q3⟩ := cellsF_inv hf n k u hk
      obtain ⟨g, o, e, _, hg⟩ := hr i q1
      cases e
      rw [addr_add, q2, ← Nat.add_assoc]
      exact hg j u q3) (cellsF_one h1 n) (by unfold maxLen; omega) (by rw [Nat.zero_add]; exact hb) (Nat.zero_le _)
    rw [Nat.zero_add] at r2
    refine ⟨v', w', r1, r2, (Chg.of_grown r3).mono (fun i _ e => by simpa [Value.ownBlock] using e), r5⟩
end

theorem wpList_appG {sl : Nat} {ops : Array Oper} {rest : List Oper} {o : Oper} {a : Act} {w w' : World} {Q : Exit → Act → World → Prop} (hgd : o.guard = none) (s x : Operand)
    (ho : o.op = .call { callee := .builtin .append, args := #[s, x], argTypes := #[sl, sl] }) {v u v' : Value} (hs : a.eval s = v) (hx : a.eval x = u) (hr : (Builtin.append_ #[sl, sl] o.type #[v, u]).run Try.prog w = .ok v' w')
    (h : wpList Try.prog ops Q rest (a.put o.dst v') w') : wpList Try.prog ops Q (o :: rest) a w := by
  refine wpList_plain hgd fun K hK => ?_
  unfold Oper.wp execOp
  simp only [ho, resolve, invoke, builtin, Sem.run_bind, Sem.run_pure, Result.andThen_ok, List.map_toArray, List.map_cons, List.map_nil, hs, hx, hr]
  exact hK _ _ h

theorem info45 : (Try.prog.info? 45).map (fun i => (i.zero, i.size, i.bytes)) = some (some (.agg #[.int .u64 0, .int .i64 0]), 2, 16) := by kernel_rfl
theorem info4 : (Try.prog.info? 4).map (fun i => (i.zero, i.size, i.bytes)) = some (some (.bool false), 1, 1) := by kernel_rfl
theorem info22 : (Try.prog.info? 22).map (fun i => (i.zero, i.size, i.bytes)) = some (some (.int .u64 0), 1, 8) := by kernel_rfl

/-- Numbers that lie alone. -/
def OU (w : World) (v : Value) (l : List Int) : Prop := w.ownsRow 0 22 1 v l.length (l.map (Value.int .u64))
theorem OU.nil (w : World) : OU w (.slice none 0 0) [] := World.ownsRow_nil _ _ _ _
theorem OU.kept {w w' : World} {v : Value} {l : List Int} (h : OU w v l) {S : Nat → Prop} (c : Chg S w w') (hS : ∀ g, v.ownBlock = some g → ¬ S g) : OU w' v l := by
  refine ⟨h.1, ?_⟩
  rcases h.2 with e | ⟨b, cap, cur, rfl, hb, hgg, rest⟩
  · exact .inl e
  · exact .inr ⟨b, cap, cur, rfl, hb, c.heap_some hgg (hS b rfl), rest⟩
theorem OU.ru {w : World} {v : Value} {l : List Int} (h : OU w v l) : (v = .slice none 0 0 ∧ l = []) ∨ ∃ g cap, v = .slice (some ⟨g, 0, none⟩) l.length cap ∧ RU w g l.toArray ∧ l.length ≤ cap ∧ cap ≤ 9223372036854775807 := by
  rcases h.2 with ⟨e, e0⟩ | ⟨b, cap, cur, e, _, hgg, h1, h2, h3, h4⟩
  · exact .inl ⟨e, List.eq_nil_of_length_eq_zero e0⟩
  · refine .inr ⟨b, cap, e, ⟨cur.toList.drop (l.length * 1), ⟨?_⟩⟩, h1, h2⟩
    rw [hgg, ← h4, List.take_append_drop]
theorem OU.add {w : World} {v : Value} {l : List Int} (h : OU w v l) (x : Int) (hb : l.length < 100000) (ty2 : TypeId) :
    ∃ v' w', (Builtin.append_ #[94, 94] ty2 #[v, .slice (some ⟨w.heap.size, 0, none⟩) 1 1]).run Try.prog (w.alloc (.cells #[.int .u64 x] 22)) = .ok v' w' ∧ OU w' v' (l ++ [x]) ∧ Chg (fun g => v.ownBlock = some g) w w' ∧ (v'.ownBlock = v.ownBlock ∨ ∃ q, v'.ownBlock = some q ∧ w.heap.size ≤ q) := by
  have k3 : Chg (fun _ => False) w (w.alloc (.cells #[.int .u64 x] 22)) := (Chg.refl _ _).alloc _
  have h3 : OU _ v l := h.kept k3 (fun _ _ e => e)
  obtain ⟨i0, hi, hz0, hz1, hz2⟩ := info_parts info22
  obtain ⟨v', w1, r1, r2, r3, _, r5⟩ := run_append_own_at (P := Try.prog) (w.alloc (.cells #[.int .u64 x] 22)) 0 94 ty2 22 i0 _ 1 8 Try.underlying94 hi hz0 hz1 hz2 rfl (by decide) v l.length _ h3 ⟨w.heap.size, 0, none⟩ 1 1 [.int .u64 x] rfl (fun j u hu => by rw [addr_add, Nat.zero_add, cell_of_row _ _ _ _ _ _ (heap_alloc_new _ _)]; simpa using hu) (fun u hu => by rw [List.mem_singleton.1 hu]; rfl) (by unfold maxLen; omega) (by omega) (Nat.zero_le _)
  have c1 : Chg (fun g => v.ownBlock = some g) w w1 := (k3.mono (fun _ _ e => e.elim)).trans (Chg.of_grown r3) (fun _ e => .inl e.symm)
  exact ⟨v', w1, r1, by unfold OU; rw [List.length_append, List.map_append]; exact r2, c1, r5.imp id (fun e => ⟨_, e, k3.size⟩)⟩
end Go.Proofs.Ytnfcmpffihmnmaa
