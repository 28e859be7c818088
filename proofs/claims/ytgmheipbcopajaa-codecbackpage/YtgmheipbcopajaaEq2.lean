/-
  Leaves and forks, compared with themselves.
-/
import Derived.Test.YtgmheipbcopajaaEq
import Derived.Test.YtgmheipbcopajaaWhole
namespace Go.Proofs.Ytgmheipbcopajaa
open Go.RowKit

theorem two_fields {T : TypeId} {a b : String × TypeId × Nat} (h : (Try.prog.fieldsOf T).toList.map (fun f => (f.name, f.type, f.offset)) = [a, b]) :
    ∃ f1 f2, (Try.prog.fieldsOf T).toList = [f1, f2] ∧ (f1.name = a.1 ∧ f1.type = a.2.1 ∧ f1.offset = a.2.2) ∧ f2.name = b.1 ∧ f2.type = b.2.1 ∧ f2.offset = b.2.2 := by
  match e : (Try.prog.fieldsOf T).toList, h with
  | [f1, f2], h =>
    simp only [List.map_cons, List.map_nil, List.cons.injEq, and_true] at h
    obtain ⟨rfl, rfl⟩ := h
    exact ⟨f1, f2, rfl, ⟨rfl, rfl, rfl⟩, rfl, rfl, rfl⟩

/-- A struct of two fields, compared with itself. -/
theorem eq_two (d : Nat) (T : TypeId) (xs : Array Value) (w : World) {n1 n2 : String} {t1 t2 : TypeId} {o1 o2 : Nat} {x y : Value}
    (hf : (Try.prog.fieldsOf T).toList.map (fun f => (f.name, f.type, f.offset)) = [(n1, t1, o1), (n2, t2, o2)]) (h1 : n1 ≠ "_") (h2 : n2 ≠ "_")
    (p1 : (part t1 xs o1).run Try.prog w = .ok x w) (q1 : (Op.equalIn d t1 x x).run Try.prog w = .ok true w) (p2 : (part t2 xs o2).run Try.prog w = .ok y w) (q2 : (Op.equalIn d t2 y y).run Try.prog w = .ok true w)
    (hc : (Op.equalIn (d + 1) T (.agg xs) (.agg xs)).run Try.prog w = (Op.eqFields d xs xs (Try.prog.fieldsOf T).toList).run Try.prog w) :
    (Op.equalIn (d + 1) T (.agg xs) (.agg xs)).run Try.prog w = .ok true w := by
  obtain ⟨f1, f2, e, ⟨a1, a2, a3⟩, b1, b2, b3⟩ := two_fields hf
  simp only at a1 a2 a3 b1 b2 b3
  rw [hc, e]
  rw [eqF_cons d _ f1 _ w _ (by rw [a1]; exact h1) (by rw [a2, a3]; exact p1) (by rw [a2]; exact q1), eqF_cons d _ f2 _ w _ (by rw [b1]; exact h2) (by rw [b2, b3]; exact p2) (by rw [b2]; exact q2)]
  exact eqF_nil _ _ w

theorem Try.struct73 : Try.prog.underlying 73 = some (.struct (Try.prog.fieldsOf 73)) := by kernel_rfl
theorem Try.fields73 : (Try.prog.fieldsOf 73).toList.map (fun f => (f.name, f.type, f.offset)) = [("Addr", 33, 0), ("Label", 31, 33)] := by kernel_rfl
theorem Try.struct75 : Try.prog.underlying 75 = some (.struct (Try.prog.fieldsOf 75)) := by kernel_rfl
theorem Try.fields75 : (Try.prog.fieldsOf 75).toList.map (fun f => (f.name, f.type, f.offset)) = [("Left", 73, 0), ("Right", 73, 65)] := by kernel_rfl
theorem Try.struct71 : Try.prog.underlying 71 = some (.struct (Try.prog.fieldsOf 71)) := by kernel_rfl
theorem Try.fields71 : (Try.prog.fieldsOf 71).toList.map (fun f => (f.name, f.type, f.offset)) = [("Version", 29, 0), ("Label", 31, 1)] := by kernel_rfl

theorem part_row {T : TypeId} {D : TypeDesc} (n : Nat) (hu : Try.prog.underlying T = some D) (hd : D.isRow = true) (hz : ∀ w, (sizeOf T).run Try.prog w = .ok n w) (xs : List Value) (o : Nat) (w : World) :
    (part T xs.toArray o).run Try.prog w = .ok (.agg ((xs.drop o).take n).toArray) w := by
  cases D <;> simp [TypeDesc.isRow] at hd <;> simp [part, isAgg, run_underlying hu, hz, List.extract_eq_take_drop]

theorem eq73 (d : Nat) (z : List Int) (hz : z.length = 65) (w : World) : (Op.equalIn (d + 4) 73 (.agg (bs z).toArray) (.agg (bs z).toArray)).run Try.prog w = .ok true w := by
  have e1 : ((bs z).drop 0).take 33 = bs (z.take 33) := by simp [bs, List.map_take]
  have e2 : ((bs z).drop 33).take 32 = bs ((z.drop 33).take 32) := by simp [bs, List.map_take, List.map_drop]
  refine eq_two (d + 3) 73 _ w Try.fields73 (by decide) (by decide) (part_row 33 Try.underlying33 rfl (fun _ => by kernel_rfl) _ _ _) ?_ (part_row 32 Try.underlying31 rfl (fun _ => by kernel_rfl) _ _ _) ?_ (run_equalIn_struct w (d + 3) 73 _ _ Try.struct73 (by kernel_rfl))
  · rw [e1]; exact eq33 d _ (by simp; omega) w
  · rw [e2]; exact eq31 (d + 1) _ (by simp; omega) w
theorem eq75 (d : Nat) (z : List Int) (hz : z.length = 130) (w : World) : (Op.equalIn (d + 5) 75 (.agg (bs z).toArray) (.agg (bs z).toArray)).run Try.prog w = .ok true w := by
  have e1 : ((bs z).drop 0).take 65 = bs (z.take 65) := by simp [bs, List.map_take]
  have e2 : ((bs z).drop 65).take 65 = bs ((z.drop 65).take 65) := by simp [bs, List.map_take, List.map_drop]
  refine eq_two (d + 4) 75 _ w Try.fields75 (by decide) (by decide) (part_row 65 Try.underlying73 rfl (fun _ => by kernel_rfl) _ _ _) ?_ (part_row 65 Try.underlying73 rfl (fun _ => by kernel_rfl) _ _ _) ?_ (run_equalIn_struct w (d + 4) 75 _ _ Try.struct75 (by kernel_rfl))
  · rw [e1]; exact eq73 d _ (by simp; omega) w
  · rw [e2]; exact eq73 d _ (by simp; omega) w
theorem eq71 (d : Nat) (n : Nat) (z : List Int) (hz : z.length = 32) (w : World) : (Op.equalIn (d + 3) 71 (.agg (leafC n z).toArray) (.agg (leafC n z).toArray)).run Try.prog w = .ok true w := by
  have e2 : ((leafC n z).drop 1).take 32 = bs z := by
    have := leafC_back n z
    rwa [bs_len, hz] at this
  refine eq_two (d + 2) 71 _ w Try.fields71 (by decide) (by decide) (x := .int .u64 n) ?_ ?_ (part_row 32 Try.underlying31 rfl (fun _ => by kernel_rfl) _ _ _) ?_ (run_equalIn_struct w (d + 2) 71 _ _ Try.struct71 (by kernel_rfl))
  · simp [part, isAgg, run_underlying Try.underlying29, leafC]
  · rw [run_equalIn_int w (d + 1) 29 .u64 .u64 _ _ Try.underlying29]; simp
  · rw [e2]; exact eq31 d _ hz w

theorem leafA_form (T : List Int) : ∃ n z, leafA T = leafC n z ∧ z.length = 32 := by
  unfold leafA orNone
  split
  · exact ⟨_, _, rfl, leafS_len _ _ _⟩
  · exact ⟨0, _, rfl, by simp⟩
theorem forkA_form (T : List Int) : ∃ z, forkA T = bs z ∧ z.length = 130 := by
  unfold forkA orNone
  split
  · exact ⟨_, rfl, forkS_len _ _ _⟩
  · exact ⟨_, rfl, by simp⟩
theorem eqLeafA (T : List Int) (w : World) : (Op.equalIn 10000 71 (.agg (leafA T).toArray) (.agg (leafA T).toArray)).run Try.prog w = .ok true w := by
  obtain ⟨n, z, e, hz⟩ := leafA_form T
  rw [e]; exact eq71 9997 n z hz w
theorem eqForkA (T : List Int) (w : World) : (Op.equalIn 10000 75 (.agg (forkA T).toArray) (.agg (forkA T).toArray)).run Try.prog w = .ok true w := by
  obtain ⟨z, e, hz⟩ := forkA_form T
  rw [e]; exact eq75 9995 z hz w
end Go.Proofs.Ytgmheipbcopajaa
