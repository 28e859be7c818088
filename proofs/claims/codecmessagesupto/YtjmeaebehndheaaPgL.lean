/-
  Lists of records of plain cells: in a row of their own; one record more; what reading many gives.
-/
import Derived.Test.YtjmeaebehndheaaMsA
namespace Go.Proofs.Ytjmeaebehndheaa
open Go.RowKit

/-- What reading many records gives, each as its cells. -/
def manyE (one : List Int → Nat → Int → List Value × Nat × Int) (T : List Int) : Nat → Nat → Int → List (List Value) × Nat × Int
  | 0, a, err => ([], a, err)
  | n + 1, a, err => if err = 0 then ((one T a err).1 :: (manyE one T n (one T a err).2.1 (one T a err).2.2).1, (manyE one T n (one T a err).2.1 (one T a err).2.2).2) else ([], a, err)
section
variable {one : List Int → Nat → Int → List Value × Nat × Int} {T : List Int} {n a : Nat} {err : Int}
theorem manyE_err (h : ¬ err = 0) : manyE one T n a err = ([], a, err) := by
  cases n with
  | zero => rfl
  | succ n => simp [manyE, h]
theorem manyE_step : manyE one T (n + 1) a 0 = ((one T a 0).1 :: (manyE one T n (one T a 0).2.1 (one T a 0).2.2).1, (manyE one T n (one T a 0).2.1 (one T a 0).2.2).2) := by simp [manyE]
end

/-- Records in a list of their own. -/
structure GL (w : World) (v : Value) (ty sz : Nat) (L : List (List Value)) : Prop where
  row : w.ownsRow 0 ty sz v L.length L.flatten
  len : ∀ c, c ∈ L → c.length = sz

section
variable {w w' : World} {v : Value} {ty sz : Nat} {L : List (List Value)}
theorem GL.blk (h : GL w v ty sz L) {g : Nat} (hg : v.ownBlock = some g) : ∃ cur, w.heap[g]? = some (.cells cur ty (0, 0)) := by
  rcases h.row.2 with ⟨e, _⟩ | ⟨b, cap, cur, e, _, hgg, _⟩
  · rw [e] at hg; simp [Value.ownBlock] at hg
  · rw [e] at hg
    simp [Value.ownBlock] at hg
    rw [← hg]
    exact ⟨cur, hgg⟩
theorem GL.form (h : GL w v ty sz L) : ∃ a c, v = .slice a L.length c := by
  rcases h.row.2 with ⟨e, h0⟩ | ⟨b, cap, cur, e, _⟩
  · exact ⟨_, _, by rw [e, h0]⟩
  · exact ⟨_, _, e⟩
theorem GL.kept (h : GL w v ty sz L) {S : Nat → Prop} (c : Chg S w w') (hv : ∀ g cur, v.ownBlock = some g → w.heap[g]? = some (.cells cur ty (0, 0)) → ¬ S g) : GL w' v ty sz L := by
  refine ⟨⟨h.row.1, ?_⟩, h.len⟩
  rcases h.row.2 with e | ⟨b, cap, cur, rfl, hb, hgg, rest⟩
  · exact .inl e
  · exact .inr ⟨b, cap, cur, rfl, hb, c.heap_some hgg (hv b cur rfl hgg), rest⟩
theorem GL.fresh (h : GL w v ty sz L) (c : Chg (fun _ => False) w w') : GL w' v ty sz L := h.kept c (fun _ _ _ _ e => e)
theorem GL.one (h : GL w v ty sz L) : v.oneCell' = true := by
  obtain ⟨a, c, e⟩ := h.form
  rw [e]; rfl
theorem flatten_at : ∀ (L : List (List Value)) (_ : ∀ c, c ∈ L → c.length = sz) (j : Nat) (hj : j < L.length) (i : Nat) (u : Value), (L[j])[i]? = some u → L.flatten[j * sz + i]? = some u
  | [], _, j, hj, _, _, _ => by simp at hj
  | k :: r, _, 0, _, i, u, h => by
    have h : k[i]? = some u := h
    have hl := (List.getElem?_eq_some_iff.1 h).1
    rw [Nat.zero_mul, Nat.zero_add, List.flatten_cons, List.getElem?_append_left hl]
    exact h
  | k :: r, hz, j + 1, hj, i, u, h => by
    have hk := hz k (List.mem_cons_self ..)
    have h2 := flatten_at r (fun q hq => hz q (List.mem_cons_of_mem _ hq)) j (by simpa using hj) i u (by simpa using h)
    have e : (j + 1) * sz + i = sz + (j * sz + i) := by rw [Nat.succ_mul]; omega
    rw [List.flatten_cons, List.getElem?_append_right (by rw [hk, e]; omega), hk, e, Nat.add_sub_cancel_left]
    exact h2
theorem GL.at (h : GL w v ty sz L) {j : Nat} (hj : j < L.length) : ∃ g c, v = .slice (some ⟨g, 0, none⟩) L.length c ∧ w.rangeAt g (j * sz) (L[j]) := by
  have hr := h.row
  rcases hr.2 with ⟨_, h0⟩ | ⟨g, cap, cur, e, _⟩
  · omega
  · refine ⟨g, cap, e, fun i u hu => ?_⟩
    rw [e] at hr
    have h3 := World.ownsRow.cells hr (g := g) rfl (j * sz + i) u (flatten_at L h.len j hj i u hu)
    rw [addr_add, Nat.zero_add] at h3
    exact h3
/-- One record more. -/
theorem GL.add {sl by_ : Nat} {Z : Array Value} (hu : Try.prog.underlying sl = some (.slice ty)) (hi0 : (Try.prog.info? ty).map (fun i => (i.zero, i.size, i.bytes)) = some (some (.agg Z), sz, by_)) (hZ : (Value.agg Z).cells.size = sz) (hp : 0 < sz) (h : GL w v ty sz L) {C : List Value} (hC : C.length = sz) (h1 : ∀ u ∈ C, u.oneCell' = true) (hb : (L.length + 1) * by_ ≤ 140737488355328) (hb2 : L.length + 1 ≤ 1000000000) (ty2 : TypeId) :
    ∃ v' w', (Builtin.append_ #[sl, sl] ty2 #[v, .slice (some ⟨w.heap.size, 0, none⟩) 1 1]).run Try.prog (w.alloc (.cells C.toArray ty)) = .ok v' w' ∧ GL w' v' ty sz (L ++ [C]) ∧ Chg (fun g => some g = v.ownBlock) w w' ∧ (v'.ownBlock = v.ownBlock ∨ ∃ q, v'.ownBlock = some q ∧ w.heap.size ≤ q) := by
  have k3 : Chg (fun _ => False) w (w.alloc (.cells C.toArray ty)) := (Chg.refl _ _).alloc _
  have h3 := h.fresh k3
  obtain ⟨i0, hi, hz0, hz1, hz2⟩ := info_parts hi0
  obtain ⟨v', w1, r1, r2, r3, _, r5⟩ := run_append_own_at (P := Try.prog) (w.alloc (.cells C.toArray ty)) 0 sl ty2 ty i0 _ sz by_ hu hi hz0 hz1 hz2 hZ hp v L.length L.flatten h3.row ⟨w.heap.size, 0, none⟩ 1 1 C (by rw [hC, Nat.one_mul]) (fun j u hu => by rw [addr_add, Nat.zero_add, cell_of_row _ _ _ _ _ _ (heap_alloc_new _ _)]; simpa using hu) h1 (by unfold maxLen; omega) hb (Nat.zero_le _)
  have c1 : Chg (fun g => some g = v.ownBlock) w w1 := (k3.mono (fun _ _ e => e.elim)).trans (Chg.of_grown r3) (fun _ e => .inl e)
  refine ⟨v', w1, r1, ⟨by rw [List.length_append, List.flatten_append]; simpa using r2, fun q hq => ?_⟩, c1, r5.imp id (fun e => ⟨_, e, k3.size⟩)⟩
  rcases List.mem_append.1 hq with hq | hq
  · exact h.len q hq
  · have e : q = C := by simpa using hq
    rw [e]; exact hC
end

theorem wpList_appG {sl : Nat} {ops : Array Oper} {rest : List Oper} {o : Oper} {a : Act} {w w' : World} {Q : Exit → Act → World → Prop} (hgd : o.guard = none) (s x : Operand)
    (ho : o.op = .call { callee := .builtin .append, args := #[s, x], argTypes := #[sl, sl] }) {v u v' : Value} (hs : a.eval s = v) (hx : a.eval x = u) (hr : (Builtin.append_ #[sl, sl] o.type #[v, u]).run Try.prog w = .ok v' w')
    (h : wpList Try.prog ops Q rest (a.put o.dst v') w') : wpList Try.prog ops Q (o :: rest) a w := by
  refine wpList_plain hgd fun K hK => ?_
  unfold Oper.wp execOp
  simp only [ho, resolve, invoke, builtin, Sem.run_bind, Sem.run_pure, Result.andThen_ok, List.map_toArray, List.map_cons, List.map_nil, hs, hx, hr]
  exact hK _ _ h
theorem wpList_buildG {sl ty sz by_ : Nat} {Z : Array Value} (hu : Try.prog.underlying sl = some (.slice ty)) (hi0 : (Try.prog.info? ty).map (fun i => (i.zero, i.size, i.bytes)) = some (some (.agg Z), sz, by_)) (hp : 0 < sz) (hq : sz ≤ 1000) {ops : Array Oper} {rest : List Oper} {o : Oper} {a : Act} {w : World} {Q : Exit → Act → World → Prop} (hgd : o.guard = none) (x : Operand)
    (ho : o.op = .buildSlice sl 1 #[(0, x)]) {C : List Value} (hx : a.eval x = .agg C.toArray) (hC : C.length = sz)
    (h : wpList Try.prog ops Q rest (a.put o.dst (.slice (some ⟨w.heap.size, 0, none⟩) 1 1)) (w.alloc (.cells C.toArray ty))) : wpList Try.prog ops Q (o :: rest) a w := by
  obtain ⟨i0, hi, hz0, hz1, hz2⟩ := info_parts hi0
  refine wpList_buildSlice hgd sl ty 1 #[(0, x)] ho C.toArray i0 _ hu hi hz0 (by rw [hz1]; omega) (by rw [hz1]; omega) ?_ h
  have h9 := Go.Great.fill_whole (s := sz) hp [.agg C.toArray] ((Array.range (1 * sz)).map ((Value.agg Z).cells[· % (Value.agg Z).cells.size]!)) (fun v hv => by
    have e : v = .agg C.toArray := by simpa using hv
    rw [e]
    simpa [Value.cells] using hC) (by simp)
  rw [hz1]
  simpa [hx, Value.cells] using h9
theorem run_mkG {sl ty sz by_ : Nat} {Z : Array Value} (hu : Try.prog.underlying sl = some (.slice ty)) (hi0 : (Try.prog.info? ty).map (fun i => (i.zero, i.size, i.bytes)) = some (some (.agg Z), sz, by_)) (c : Nat) (h : by_ * c ≤ 281474976710656) (h2 : c ≤ 1000000000) (w : World) : (Instr.makeSlice sl (.int .i64 0) (.int .u64 c)).run Try.prog w = .ok (.slice (some ⟨w.heap.size, 0, none⟩) 0 c) (w.alloc (.cells (madeCells (Value.agg Z).cells (c * sz)) ty)) := by
  obtain ⟨i0, hi, hz0, hz1, hz2⟩ := info_parts hi0
  have := run_make (P := Try.prog) w sl ty i0 _ hu hi hz0 .i64 .u64 0 c (by omega) (by omega) (by rw [hz2, ← Int.natCast_mul]; omega) (by omega)
  rw [this, hz1, Int.toNat_natCast]
  rfl
theorem GL.made {ty sz : Nat} (w : World) (cs : Array Value) (c : Nat) (hs : cs.size = c * sz) (hc : c ≤ 1000000000) : GL (w.alloc (.cells cs ty)) (.slice (some ⟨w.heap.size, 0, none⟩) 0 c) ty sz [] :=
  ⟨World.ownsRow_made w _ c (Nat.zero_le _) (by unfold maxLen; omega) hs, fun k hk => by cases hk⟩
end Go.Proofs.Ytjmeaebehndheaa
