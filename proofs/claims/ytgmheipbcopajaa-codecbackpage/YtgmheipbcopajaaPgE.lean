/-
  Marks, versions, peaks, compared with themselves.
-/
import Derived.Test.YtgmheipbcopajaaPgD
import Derived.Test.YtgmheipbcopajaaEq2
namespace Go.Proofs.Ytgmheipbcopajaa
open Go.RowKit

theorem three_fields {T : TypeId} {a b c : String × TypeId × Nat} (h : (Try.prog.fieldsOf T).toList.map (fun f => (f.name, f.type, f.offset)) = [a, b, c]) :
    ∃ f1 f2 f3, (Try.prog.fieldsOf T).toList = [f1, f2, f3] ∧ (f1.name = a.1 ∧ f1.type = a.2.1 ∧ f1.offset = a.2.2) ∧ (f2.name = b.1 ∧ f2.type = b.2.1 ∧ f2.offset = b.2.2) ∧ f3.name = c.1 ∧ f3.type = c.2.1 ∧ f3.offset = c.2.2 := by
  match e : (Try.prog.fieldsOf T).toList, h with
  | [f1, f2, f3], h =>
    simp only [List.map_cons, List.map_nil, List.cons.injEq, and_true] at h
    obtain ⟨rfl, rfl, rfl⟩ := h
    exact ⟨f1, f2, f3, rfl, ⟨rfl, rfl, rfl⟩, ⟨rfl, rfl, rfl⟩, rfl, rfl, rfl⟩
theorem eq_three (d : Nat) (T : TypeId) (xs : Array Value) (w : World) {n1 n2 n3 : String} {t1 t2 t3 : TypeId} {o1 o2 o3 : Nat} {x y z : Value}
    (hf : (Try.prog.fieldsOf T).toList.map (fun f => (f.name, f.type, f.offset)) = [(n1, t1, o1), (n2, t2, o2), (n3, t3, o3)]) (h1 : n1 ≠ "_") (h2 : n2 ≠ "_") (h3 : n3 ≠ "_")
    (p1 : (part t1 xs o1).run Try.prog w = .ok x w) (q1 : (Op.equalIn d t1 x x).run Try.prog w = .ok true w) (p2 : (part t2 xs o2).run Try.prog w = .ok y w) (q2 : (Op.equalIn d t2 y y).run Try.prog w = .ok true w) (p3 : (part t3 xs o3).run Try.prog w = .ok z w) (q3 : (Op.equalIn d t3 z z).run Try.prog w = .ok true w)
    (hc : (Op.equalIn (d + 1) T (.agg xs) (.agg xs)).run Try.prog w = (Op.eqFields d xs xs (Try.prog.fieldsOf T).toList).run Try.prog w) :
    (Op.equalIn (d + 1) T (.agg xs) (.agg xs)).run Try.prog w = .ok true w := by
  obtain ⟨f1, f2, f3, e, ⟨a1, a2, a3⟩, ⟨b1, b2, b3⟩, c1, c2, c3⟩ := three_fields hf
  simp only at a1 a2 a3 b1 b2 b3 c1 c2 c3
  rw [hc, e]
  rw [eqF_cons d _ f1 _ w _ (by rw [a1]; exact h1) (by rw [a2, a3]; exact p1) (by rw [a2]; exact q1), eqF_cons d _ f2 _ w _ (by rw [b1]; exact h2) (by rw [b2, b3]; exact p2) (by rw [b2]; exact q2), eqF_cons d _ f3 _ w _ (by rw [c1]; exact h3) (by rw [c2, c3]; exact p3) (by rw [c2]; exact q3)]
  exact eqF_nil _ _ w
theorem neqAggP {t : TypeId} {xs : Array Value} {w : World} (h : (Op.equalIn 10000 t (.agg xs) (.agg xs)).run Try.prog w = .ok true w) : (binOp .neq t (.agg xs) (.agg xs)).run Try.prog w = .ok (.bool false) w := by
  simp only [binOp]
  simp [Op.equal, Op.maxDepth, h]
theorem Try.struct124 : Try.prog.underlying 124 = some (.struct (Try.prog.fieldsOf 124)) := by kernel_rfl
theorem Try.fields124 : (Try.prog.fieldsOf 124).toList.map (fun f => (f.name, f.type, f.offset)) = [("Serial", 29, 0), ("Used", 3, 1)] := by kernel_rfl
theorem Try.struct130 : Try.prog.underlying 130 = some (.struct (Try.prog.fieldsOf 130)) := by kernel_rfl
theorem Try.fields130 : (Try.prog.fieldsOf 130).toList.map (fun f => (f.name, f.type, f.offset)) = [("Size", 29, 0), ("Limb", 73, 1)] := by kernel_rfl
theorem Try.struct128 : Try.prog.underlying 128 = some (.struct (Try.prog.fieldsOf 128)) := by kernel_rfl
theorem Try.fields128 : (Try.prog.fieldsOf 128).toList.map (fun f => (f.name, f.type, f.offset)) = [("Number", 29, 0), ("Tree", 126, 1)] := by kernel_rfl
theorem Try.struct126 : Try.prog.underlying 126 = some (.struct (Try.prog.fieldsOf 126)) := by kernel_rfl
theorem Try.fields126 : (Try.prog.fieldsOf 126).toList.map (fun f => (f.name, f.type, f.offset)) = [("Addr", 33, 0), ("Count", 29, 33), ("Label", 31, 34)] := by kernel_rfl

theorem ne124 (m : Mk) (w : World) : (binOp .neq 124 (.agg m.cells.toArray) (.agg m.cells.toArray)).run Try.prog w = .ok (.bool false) w := by
  refine neqAggP (eq_two 9999 124 _ w Try.fields124 (by decide) (by decide) (x := .int .u64 m.se) (y := .int .i64 m.us) ?_ ?_ ?_ ?_ (run_equalIn_struct w 9999 124 _ _ Try.struct124 (by kernel_rfl)))
  · simp [part, isAgg, run_underlying Try.underlying29, Mk.cells]
  · rw [run_equalIn_int w 9998 29 .u64 .u64 _ _ Try.underlying29]; simp
  · simp [part, isAgg, run_underlying Try.underlying3, Mk.cells]
  · rw [run_equalIn_int w 9998 3 .i64 .i64 _ _ Try.underlying3]; simp
theorem ne130 (k : Pk) (hx : k.x.length = 33) (hy : k.y.length = 32) (w : World) : (binOp .neq 130 (.agg k.cells.toArray) (.agg k.cells.toArray)).run Try.prog w = .ok (.bool false) w := by
  have e2 : (k.cells.drop 1).take 65 = bs (k.x ++ k.y) := by
    have := k.z_at
    rwa [bs_len, List.length_append, hx, hy] at this
  refine neqAggP (eq_two 9999 130 _ w Try.fields130 (by decide) (by decide) (x := .int .u64 k.n) ?_ ?_ (part_row 65 Try.underlying73 rfl (fun _ => by kernel_rfl) _ _ _) ?_ (run_equalIn_struct w 9999 130 _ _ Try.struct130 (by kernel_rfl)))
  · simp [part, isAgg, run_underlying Try.underlying29, Pk.cells, leafC]
  · rw [run_equalIn_int w 9998 29 .u64 .u64 _ _ Try.underlying29]; simp
  · rw [e2]; exact eq73 9995 _ (by rw [List.length_append, hx, hy]) w
theorem ne128 (v : Vs) (hx : v.x.length = 33) (hy : v.y.length = 32) (w : World) : (binOp .neq 128 (.agg v.cells.toArray) (.agg v.cells.toArray)).run Try.prog w = .ok (.bool false) w := by
  have e2 : (v.cells.drop 1).take 66 = bs v.x ++ .int .u64 v.c :: bs v.y := by
    show (bs v.x ++ .int .u64 v.c :: bs v.y).take 66 = _
    exact List.take_of_length_le (by simp [bs, hx, hy])
  have p1 : ((bs v.x ++ .int .u64 v.c :: bs v.y).drop 0).take 33 = bs v.x := by rw [List.drop_zero, List.take_left' (by rw [bs_len, hx])]
  have p3 : ((bs v.x ++ .int .u64 v.c :: bs v.y).drop 34).take 32 = bs v.y := by
    have e : bs v.x ++ .int .u64 v.c :: bs v.y = (bs v.x ++ [.int .u64 v.c]) ++ bs v.y := by simp
    rw [e, List.drop_left' (by simp [bs, hx]), List.take_of_length_le (by rw [bs_len]; omega)]
  have p2 : (bs v.x ++ .int .u64 v.c :: bs v.y)[33]? = some (.int .u64 v.c) := by
    rw [List.getElem?_append_right (by rw [bs_len]; omega), bs_len, hx]
    rfl
  have tree : (Op.equalIn 9999 126 (.agg (bs v.x ++ .int .u64 v.c :: bs v.y).toArray) (.agg (bs v.x ++ .int .u64 v.c :: bs v.y).toArray)).run Try.prog w = .ok true w := by
    refine eq_three 9998 126 _ w Try.fields126 (by decide) (by decide) (by decide) (y := .int .u64 v.c) (part_row 33 Try.underlying33 rfl (fun _ => by kernel_rfl) _ _ _) ?_ ?_ ?_ (part_row 32 Try.underlying31 rfl (fun _ => by kernel_rfl) _ _ _) ?_ (run_equalIn_struct w 9998 126 _ _ Try.struct126 (by kernel_rfl))
    · rw [p1]; exact eq33 9995 _ hx w
    · simp only [part, isAgg, run_underlying Try.underlying29, Sem.run_bind, Result.andThen_ok]
      simp [p2]
    · rw [run_equalIn_int w 9997 29 .u64 .u64 _ _ Try.underlying29]; simp
    · rw [p3]; exact eq31 9996 _ hy w
  refine neqAggP (eq_two 9999 128 _ w Try.fields128 (by decide) (by decide) (x := .int .u64 v.n) ?_ ?_ (part_row 66 Try.underlying126 rfl (fun _ => by kernel_rfl) _ _ _) ?_ (run_equalIn_struct w 9999 128 _ _ Try.struct128 (by kernel_rfl)))
  · simp [part, isAgg, run_underlying Try.underlying29, Vs.cells, vsC]
  · rw [run_equalIn_int w 9998 29 .u64 .u64 _ _ Try.underlying29]; simp
  · rw [e2]; exact tree

end Go.Proofs.Ytgmheipbcopajaa
