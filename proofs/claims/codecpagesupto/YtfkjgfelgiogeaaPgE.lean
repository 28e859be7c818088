import Derived.Test.YtfkjgfelgiogeaaEq
import Derived.Test.YtfkjgfelgiogeaaWhole
import Derived.Test.YtfkjgfelgiogeaaPgD
/-
  Leaves and forks, compared with themselves.
-/
namespace Go.Proofs.Ytfkjgfelgiogeaa
open Go.RowKit

theorem two_fields {T : TypeId} {a b : String × TypeId × Nat} (h : (Try.prog.fieldsOf T).toList.map (fun f => (f.name, f.type, f.offset)) = [a, b]) :
    ∃ f1 f2, (Try.prog.fieldsOf T).toList = [f1, f2] ∧ (f1.name = a.1 ∧ f1.type = a.2.1 ∧ f1.offset = a.2.2) ∧ f2.name = b.1 ∧ f2.type = b.2.1 ∧ f2.offset = b.2.2 := by
  match e : (Try.prog.fieldsOf T).toList, h with
  | [f1, f2], h =>
    simp only [List.map_cons, List.map_nil, List.cons.injEq, and_true] at h
    obtain ⟨rfl, rfl⟩ := h
    exact ⟨f1, f2, rfl, ⟨rfl, rfl, rfl⟩, rfl, rfl, rfl⟩

/-- A struct of two fields, compared with itself. -/
theorem eq_two (d : Nat) (T : TypeId) (xs : Array Value) (w : World) {n1 n2 : String} {t1 t2 : TypeId} {o1 o2 : Nat} {x y : Value}
    (hf : (Try.prog.fieldsOf T).toList.map (fun f => (f.name, f.type, f.offset)) = [(n1, t1, o1), (n2, t2, o2)]) (h1 : n1 ≠ "_") (h2 : n2 ≠ "_")
    (p1 : (part t1 xs o1).run Try.prog w = .ok x w) (q1 : (Op.equalIn d t1 x x).run Try.prog w = .ok true w) (p2 : (part t2 xs o2).run Try.prog w = .ok y w) (q2 : (Op.equalIn d t2 y y).run Try.prog w = .ok true w)
    (hc : (Op.equalIn (d + 1) T (.agg xs) (.agg xs)).run Try.prog w = (Op.eqFields d xs xs (Try.prog.fieldsOf T).toList).run Try.prog w) :
    (Op.equalIn (d + 1) T (.agg xs) (.agg xs)).run Try.prog w = .ok true w := by
  obtain ⟨f1, f2, e, ⟨a1, a2, a3⟩, b1, b2, b3⟩ := two_fields hf
  simp only at a1 a2 a3 b1 b2 b3
  rw [hc, e]
  rw [eqF_cons d _ f1 _ w _ (by rw [a1]; exact h1) (by rw [a2, a3]; exact p1) (by rw [a2]; exact q1), eqF_cons d _ f2 _ w _ (by rw [b1]; exact h2) (by rw [b2, b3]; exact p2) (by rw [b2]; exact q2)]
  exact eqF_nil _ _ w

theorem Try.struct73 : Try.prog.underlying 73 = some (.struct (Try.prog.fieldsOf 73)) := by kernel_rfl
theorem Try.fields73 : (Try.prog.fieldsOf 73).toList.map (fun f => (f.name, f.type, f.offset)) = [("Addr", 33, 0), ("Label", 31, 33)] := by kernel_rfl
theorem Try.struct75 : Try.prog.underlying 75 = some (.struct (Try.prog.fieldsOf 75)) := by kernel_rfl
theorem Try.fields75 : (Try.prog.fieldsOf 75).toList.map (fun f => (f.name, f.type, f.offset)) = [("Left", 73, 0), ("Right", 73, 65)] := by kernel_rfl
theorem Try.struct71 : Try.prog.underlying 71 = some (.struct (Try.prog.fieldsOf 71)) := by kernel_rfl
theorem Try.fields71 : (Try.prog.fieldsOf 71).toList.map (fun f => (f.name, f.type, f.offset)) = [("Version", 29, 0), ("Label", 31, 1)] := by kernel_rfl

theorem part_row {T : TypeId} {D : TypeDesc} (n : Nat) (hu : Try.prog.underlying T = some D) (hd : D.isRow = true) (hz : ∀ w, (sizeOf T).run Try.prog w = .ok n w) (xs : List Value) (o : Nat) (w : World) :
    (part T xs.toArray o).run Try.prog w = .ok (.agg ((xs.drop o).take n).toArray) w := by
  cases D <;> simp [TypeDesc.isRow] at hd <;> simp [part, isAgg, run_underlying hu, hz, List.extract_eq_take_drop]

theorem eq73 (d : Nat) (z : List Int) (hz : z.length = 65) (w : World) : (Op.equalIn (d + 4) 73 (.agg (bs z).toArray) (.agg (bs z).toArray)).run Try.prog w = .ok true w := by
  have e1 : ((bs z).drop 0).take 33 = bs (z.take 33) := by simp [bs, List.map_take]
  have e2 : ((bs z).drop 33).take 32 = bs ((z.drop 33).take 32) := by simp [bs, List.map_take, List.map_drop]
  refine eq_two (d + 3) 73 _ w Try.fields73 (by decide) (by decide) (part_row 33 Try.underlying33 rfl (fun _ => by kernel_rfl) _ _ _) ?_ (part_row 32 Try.underlying31 rfl (fun _ => by kernel_rfl) _ _ _) ?_ (run_equalIn_struct w (d + 3) 73 _ _ Try.struct73 (by kernel_rfl))
  · rw [e1]; exact eq33 d _ (by simp; omega) w
  · rw [e2]; exact eq31 (d + 1) _ (by simp; omega) w
theorem eq75 (d : Nat) (z : List Int) (hz : z.length = 130) (w : World) : (Op.equalIn (d + 5) 75 (.agg (bs z).toArray) (.agg (bs z).toArray)).run Try.prog w = .ok true w := by
  have e1 : ((bs z).drop 0).take 65 = bs (z.take 65) := by simp [bs, List.map_take]
  have e2 : ((bs z).drop 65).take 65 = bs ((z.drop 65).take 65) := by simp [bs, List.map_take, List.map_drop]
  refine eq_two (d + 4) 75 _ w Try.fields75 (by decide) (by decide) (part_row 65 Try.underlying73 rfl (fun _ => by kernel_rfl) _ _ _) ?_ (part_row 65 Try.underlying73 rfl (fun _ => by kernel_rfl) _ _ _) ?_ (run_equalIn_struct w (d + 4) 75 _ _ Try.struct75 (by kernel_rfl))
  · rw [e1]; exact eq73 d _ (by simp; omega) w
  · rw [e2]; exact eq73 d _ (by simp; omega) w
theorem eq71 (d : Nat) (n : Nat) (z : List Int) (hz : z.length = 32) (w : World) : (Op.equalIn (d + 3) 71 (.agg (leafC n z).toArray) (.agg (leafC n z).toArray)).run Try.prog w = .ok true w := by
  have e2 : ((leafC n z).drop 1).take 32 = bs z := by
    have := leafC_back n z
    rwa [bs_len, hz] at this
  refine eq_two (d + 2) 71 _ w Try.fields71 (by decide) (by decide) (x := .int .u64 n) ?_ ?_ (part_row 32 Try.underlying31 rfl (fun _ => by kernel_rfl) _ _ _) ?_ (run_equalIn_struct w (d + 2) 71 _ _ Try.struct71 (by kernel_rfl))
  · simp [part, isAgg, run_underlying Try.underlying29, leafC]
  · rw [run_equalIn_int w (d + 1) 29 .u64 .u64 _ _ Try.underlying29]; simp
  · rw [e2]; exact eq31 d _ hz w

theorem leafA_form (T : List Int) : ∃ n z, leafA T = leafC n z ∧ z.length = 32 := by
  unfold leafA orNone
  split
  · exact ⟨_, _, rfl, leafS_len _ _ _⟩
  · exact ⟨0, _, rfl, by simp⟩
theorem forkA_form (T : List Int) : ∃ z, forkA T = bs z ∧ z.length = 130 := by
  unfold forkA orNone
  split
  · exact ⟨_, rfl, forkS_len _ _ _⟩
  · exact ⟨_, rfl, by simp⟩
theorem eqLeafA (T : List Int) (w : World) : (Op.equalIn 10000 71 (.agg (leafA T).toArray) (.agg (leafA T).toArray)).run Try.prog w = .ok true w := by
  obtain ⟨n, z, e, hz⟩ := leafA_form T
  rw [e]; exact eq71 9997 n z hz w
theorem eqForkA (T : List Int) (w : World) : (Op.equalIn 10000 75 (.agg (forkA T).toArray) (.agg (forkA T).toArray)).run Try.prog w = .ok true w := by
  obtain ⟨z, e, hz⟩ := forkA_form T
  rw [e]; exact eq75 9995 z hz w
end Go.Proofs.Ytfkjgfelgiogeaa

/-
  Marks, versions, peaks, compared with themselves.
-/
namespace Go.Proofs.Ytfkjgfelgiogeaa
open Go.RowKit

theorem three_fields {T : TypeId} {a b c : String × TypeId × Nat} (h : (Try.prog.fieldsOf T).toList.map (fun f => (f.name, f.type, f.offset)) = [a, b, c]) :
    ∃ f1 f2 f3, (Try.prog.fieldsOf T).toList = [f1, f2, f3] ∧ (f1.name = a.1 ∧ f1.type = a.2.1 ∧ f1.offset = a.2.2) ∧ (f2.name = b.1 ∧ f2.type = b.2.1 ∧ f2.offset = b.2.2) ∧ f3.name = c.1 ∧ f3.type = c.2.1 ∧ f3.offset = c.2.2 := by
  match e : (Try.prog.fieldsOf T).toList, h with
  | [f1, f2, f3], h =>
    simp only [List.map_cons, List.map_nil, List.cons.injEq, and_true] at h
    obtain ⟨rfl, rfl, rfl⟩ := h
    exact ⟨f1, f2, f3, rfl, ⟨rfl, rfl, rfl⟩, ⟨rfl, rfl, rfl⟩, rfl, rfl, rfl⟩
theorem eq_three (d : Nat) (T : TypeId) (xs : Array Value) (w : World) {n1 n2 n3 : String} {t1 t2 t3 : TypeId} {o1 o2 o3 : Nat} {x y z : Value}
    (hf : (Try.prog.fieldsOf T).toList.map (fun f => (f.name, f.type, f.offset)) = [(n1, t1, o1), (n2, t2, o2), (n3, t3, o3)]) (h1 : n1 ≠ "_") (h2 : n2 ≠ "_") (h3 : n3 ≠ "_")
    (p1 : (part t1 xs o1).run Try.prog w = .ok x w) (q1 : (Op.equalIn d t1 x x).run Try.prog w = .ok true w) (p2 : (part t2 xs o2).run Try.prog w = .ok y w) (q2 : (Op.equalIn d t2 y y).run Try.prog w = .ok true w) (p3 : (part t3 xs o3).run Try.prog w = .ok z w) (q3 : (Op.equalIn d t3 z z).run Try.prog w = .ok true w)
    (hc : (Op.equalIn (d + 1) T (.agg xs) (.agg xs)).run Try.prog w = (Op.eqFields d xs xs (Try.prog.fieldsOf T).toList).run Try.prog w) :
    (Op.equalIn (d + 1) T (.agg xs) (.agg xs)).run Try.prog w = .ok true w := by
  obtain ⟨f1, f2, f3, e, ⟨a1, a2, a3⟩, ⟨b1, b2, b3⟩, c1, c2, c3⟩ := three_fields hf
  simp only at a1 a2 a3 b1 b2 b3 c1 c2 c3
  rw [hc, e]
  rw [eqF_cons d _ f1 _ w _ (by rw [a1]; exact h1) (by rw [a2, a3]; exact p1) (by rw [a2]; exact q1), eqF_cons d _ f2 _ w _ (by rw [b1]; exact h2) (by rw [b2, b3]; exact p2) (by rw [b2]; exact q2), eqF_cons d _ f3 _ w _ (by rw [c1]; exact h3) (by rw [c2, c3]; exact p3) (by rw [c2]; exact q3)]
  exact eqF_nil _ _ w
theorem neqAggP {t : TypeId} {xs : Array Value} {w : World} (h : (Op.equalIn 10000 t (.agg xs) (.agg xs)).run Try.prog w = .ok true w) : (binOp .neq t (.agg xs) (.agg xs)).run Try.prog w = .ok (.bool false) w := by
  simp only [binOp]
  simp [Op.equal, Op.maxDepth, h]
theorem Try.struct124 : Try.prog.underlying 112 = some (.struct (Try.prog.fieldsOf 112)) := by kernel_rfl
theorem Try.fields124 : (Try.prog.fieldsOf 112).toList.map (fun f => (f.name, f.type, f.offset)) = [("Serial", 29, 0), ("Used", 3, 1)] := by kernel_rfl
theorem Try.struct130 : Try.prog.underlying 129 = some (.struct (Try.prog.fieldsOf 129)) := by kernel_rfl
theorem Try.fields130 : (Try.prog.fieldsOf 129).toList.map (fun f => (f.name, f.type, f.offset)) = [("Size", 29, 0), ("Limb", 73, 1)] := by kernel_rfl
theorem Try.struct128 : Try.prog.underlying 116 = some (.struct (Try.prog.fieldsOf 116)) := by kernel_rfl
theorem Try.fields128 : (Try.prog.fieldsOf 116).toList.map (fun f => (f.name, f.type, f.offset)) = [("Number", 29, 0), ("Tree", 114, 1)] := by kernel_rfl
theorem Try.struct126 : Try.prog.underlying 114 = some (.struct (Try.prog.fieldsOf 114)) := by kernel_rfl
theorem Try.fields126 : (Try.prog.fieldsOf 114).toList.map (fun f => (f.name, f.type, f.offset)) = [("Addr", 33, 0), ("Count", 29, 33), ("Label", 31, 34)] := by kernel_rfl

theorem ne124 (m : Mk) (w : World) : (binOp .neq 112 (.agg m.cells.toArray) (.agg m.cells.toArray)).run Try.prog w = .ok (.bool false) w := by
  refine neqAggP (eq_two 9999 112 _ w Try.fields124 (by decide) (by decide) (x := .int .u64 m.se) (y := .int .i64 m.us) ?_ ?_ ?_ ?_ (run_equalIn_struct w 9999 112 _ _ Try.struct124 (by kernel_rfl)))
  · simp [part, isAgg, run_underlying Try.underlying29, Mk.cells]
  · rw [run_equalIn_int w 9998 29 .u64 .u64 _ _ Try.underlying29]; simp
  · simp [part, isAgg, run_underlying Try.underlying3, Mk.cells]
  · rw [run_equalIn_int w 9998 3 .i64 .i64 _ _ Try.underlying3]; simp
theorem ne130 (k : Pk) (hx : k.x.length = 33) (hy : k.y.length = 32) (w : World) : (binOp .neq 129 (.agg k.cells.toArray) (.agg k.cells.toArray)).run Try.prog w = .ok (.bool false) w := by
  have e2 : (k.cells.drop 1).take 65 = bs (k.x ++ k.y) := by
    have := k.z_at
    rwa [bs_len, List.length_append, hx, hy] at this
  refine neqAggP (eq_two 9999 129 _ w Try.fields130 (by decide) (by decide) (x := .int .u64 k.n) ?_ ?_ (part_row 65 Try.underlying73 rfl (fun _ => by kernel_rfl) _ _ _) ?_ (run_equalIn_struct w 9999 129 _ _ Try.struct130 (by kernel_rfl)))
  · simp [part, isAgg, run_underlying Try.underlying29, Pk.cells, leafC]
  · rw [run_equalIn_int w 9998 29 .u64 .u64 _ _ Try.underlying29]; simp
  · rw [e2]; exact eq73 9995 _ (by rw [List.length_append, hx, hy]) w
theorem ne128 (v : Vs) (hx : v.x.length = 33) (hy : v.y.length = 32) (w : World) : (binOp .neq 116 (.agg v.cells.toArray) (.agg v.cells.toArray)).run Try.prog w = .ok (.bool false) w := by
  have e2 : (v.cells.drop 1).take 66 = bs v.x ++ .int .u64 v.c :: bs v.y := by
    show (bs v.x ++ .int .u64 v.c :: bs v.y).take 66 = _
    exact List.take_of_length_le (by simp [bs, hx, hy])
  have p1 : ((bs v.x ++ .int .u64 v.c :: bs v.y).drop 0).take 33 = bs v.x := by rw [List.drop_zero, List.take_left' (by rw [bs_len, hx])]
  have p3 : ((bs v.x ++ .int .u64 v.c :: bs v.y).drop 34).take 32 = bs v.y := by
    have e : bs v.x ++ .int .u64 v.c :: bs v.y = (bs v.x ++ [.int .u64 v.c]) ++ bs v.y := by simp
    rw [e, List.drop_left' (by simp [bs, hx]), List.take_of_length_le (by rw [bs_len]; omega)]
  have p2 : (bs v.x ++ .int .u64 v.c :: bs v.y)[33]? = some (.int .u64 v.c) := by
    rw [List.getElem?_append_right (by rw [bs_len]; omega), bs_len, hx]
    rfl
  have tree : (Op.equalIn 9999 114 (.agg (bs v.x ++ .int .u64 v.c :: bs v.y).toArray) (.agg (bs v.x ++ .int .u64 v.c :: bs v.y).toArray)).run Try.prog w = .ok true w := by
    refine eq_three 9998 114 _ w Try.fields126 (by decide) (by decide) (by decide) (y := .int .u64 v.c) (part_row 33 Try.underlying33 rfl (fun _ => by kernel_rfl) _ _ _) ?_ ?_ ?_ (part_row 32 Try.underlying31 rfl (fun _ => by kernel_rfl) _ _ _) ?_ (run_equalIn_struct w 9998 114 _ _ Try.struct126 (by kernel_rfl))
    · rw [p1]; exact eq33 9995 _ hx w
    · simp only [part, isAgg, run_underlying Try.underlying29, Sem.run_bind, Result.andThen_ok]
      simp [p2]
    · rw [run_equalIn_int w 9997 29 .u64 .u64 _ _ Try.underlying29]; simp
    · rw [p3]; exact eq31 9996 _ hy w
  refine neqAggP (eq_two 9999 116 _ w Try.fields128 (by decide) (by decide) (x := .int .u64 v.n) ?_ ?_ (part_row 66 Try.underlying114 rfl (fun _ => by kernel_rfl) _ _ _) ?_ (run_equalIn_struct w 9999 116 _ _ Try.struct128 (by kernel_rfl)))
  · simp [part, isAgg, run_underlying Try.underlying29, Vs.cells, vsC]
  · rw [run_equalIn_int w 9998 29 .u64 .u64 _ _ Try.underlying29]; simp
  · rw [e2]; exact tree

end Go.Proofs.Ytfkjgfelgiogeaa
