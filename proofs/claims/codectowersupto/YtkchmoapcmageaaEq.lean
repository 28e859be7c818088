/-
  Sums and addresses, compared with themselves.
-/
import Derived.Test.YtkchmoapcmageaaSum2
import Derived.Stop.BytesEq
namespace Go.Proofs.Ytkchmoapcmageaa
open Go.RowKit

theorem eq31 (d : Nat) (z : List Int) (hz : z.length = 32) (w : World) : (Op.equalIn (d + 2) 31 (.agg (bs z).toArray) (.agg (bs z).toArray)).run Try.prog w = .ok true w := by
  have hsz : ∀ w, (sizeOf 5).run Try.prog w = .ok 1 w := fun _ => by kernel_rfl
  rw [Op.equalIn]
  simp only [Sem.run_bind, run_underlying Try.underlying31, Result.andThen_ok, hsz, Std.Legacy.Range.forIn_eq_forIn_range', Std.Legacy.Range.size, Nat.sub_zero, Nat.add_sub_cancel, Nat.div_one]
  have hl : ∀ i ∈ List.range' 0 32 1, i < 32 := fun i hi => by simpa using (List.mem_range'_1.1 hi).2
  generalize List.range' 0 32 1 = l at hl ⊢
  induction l with
  | nil => simp
  | cons i l ih =>
    have hi : i < 32 := hl i (by simp)
    have px : (part 5 (bs z).toArray (i * 1)).run Try.prog w = .ok (.int .u8 (z[i]'(by omega))) w := by
      have := bs_get z i (by omega)
      simp [part, isAgg, run_underlying Try.underlying5, this]
    have pe : (Op.equalIn (d + 1) 5 (.int .u8 (z[i]'(by omega))) (.int .u8 (z[i]'(by omega)))).run Try.prog w = .ok true w := by
      rw [run_equalIn_int w d 5 .u8 .u8 _ _ Try.underlying5]
      simp
    simp only [List.forIn_cons, Sem.run_bind, px, pe, Result.andThen_ok]
    simp only [Bool.not_true, Bool.false_eq_true, if_false, Sem.run_pure, Result.andThen_ok]
    exact ih fun j hj => hl j (by simp [hj])

theorem eql31 (z : List Int) (hz : z.length = 32) (w : World) : (binOp .eql 31 (.agg (bs z).toArray) (.agg (bs z).toArray)).run Try.prog w = .ok (.bool true) w := by
  rw [run_eql_struct, eq31 9998 z hz w]; rfl

theorem Try.struct33 : Try.prog.underlying 33 = some (.struct (Try.prog.fieldsOf 33)) := by kernel_rfl
theorem Try.fields33 : (Try.prog.fieldsOf 33).toList.map (fun f => (f.name, f.type, f.offset)) = [("Sum", 31, 0), ("Nth", 5, 32)] := by kernel_rfl
theorem eqF_cons (d : Nat) (xs : Array Value) (f : Field) (fs : List Field) (w : World) (a : Value) (hn : f.name ≠ "_") (hp : (part f.type xs f.offset).run Try.prog w = .ok a w) (hq : (Op.equalIn d f.type a a).run Try.prog w = .ok true w) :
    (Op.eqFields d xs xs (f :: fs)).run Try.prog w = (Op.eqFields d xs xs fs).run Try.prog w := by
  simp only [Op.eqFields, if_pos hn, Sem.run_bind, hp, Result.andThen_ok, hq, Bool.not_true, Bool.false_eq_true, if_false]
theorem eqF_nil (d : Nat) (xs : Array Value) (w : World) : (Op.eqFields d xs xs []).run Try.prog w = .ok true w := by simp only [Op.eqFields, Sem.run_pure]
theorem eqF (d : Nat) (z : List Int) (hz : z.length = 33) (w : World) (f1 f2 : Field) (h1 : f1.name ≠ "_") (h2 : f2.name ≠ "_") (t1 : f1.type = 31) (t2 : f2.type = 5) (o1 : f1.offset = 0) (o2 : f2.offset = 32) :
    (Op.eqFields (d + 2) (bs z).toArray (bs z).toArray [f1, f2]).run Try.prog w = .ok true w := by
  have hs31 : ∀ w, (sizeOf 31).run Try.prog w = .ok 32 w := fun _ => by kernel_rfl
  have p1 : (part 31 (bs z).toArray 0).run Try.prog w = .ok (.agg (bs (z.take 32)).toArray) w := by
    have e : List.take 32 (bs z) = bs (z.take 32) := by simp [bs, List.map_take]
    simp [part, isAgg, run_underlying Try.underlying31, hs31, e]
  have p2 : (part 5 (bs z).toArray 32).run Try.prog w = .ok (.int .u8 (z[32]'(by omega))) w := by
    have := bs_get z 32 (by omega)
    simp [part, isAgg, run_underlying Try.underlying5, this]
  have q1 := eq31 d (z.take 32) (by simp; omega) w
  have q2 : (Op.equalIn (d + 2) 5 (.int .u8 (z[32]'(by omega))) (.int .u8 (z[32]'(by omega)))).run Try.prog w = .ok true w := by
    rw [run_equalIn_int w (d + 1) 5 .u8 .u8 _ _ Try.underlying5]
    simp
  rw [eqF_cons (d + 2) _ f1 _ w _ h1 (by rw [t1, o1]; exact p1) (by rw [t1]; exact q1), eqF_cons (d + 2) _ f2 _ w _ h2 (by rw [t2, o2]; exact p2) (by rw [t2]; exact q2)]
  exact eqF_nil _ _ w
theorem eq33 (d : Nat) (z : List Int) (hz : z.length = 33) (w : World) : (Op.equalIn (d + 3) 33 (.agg (bs z).toArray) (.agg (bs z).toArray)).run Try.prog w = .ok true w := by
  rw [run_equalIn_struct w (d + 2) 33 _ _ Try.struct33 (by kernel_rfl)]
  obtain ⟨f1, f2, e⟩ : ∃ f1 f2, (Try.prog.fieldsOf 33).toList = [f1, f2] := by
    have := congrArg List.length Try.fields33
    rw [List.length_map] at this
    match h : (Try.prog.fieldsOf 33).toList, this with
    | [f1, f2], _ => exact ⟨f1, f2, rfl⟩
  have h := Try.fields33
  rw [e] at h
  simp only [List.map_cons, List.map_nil, List.cons.injEq, Prod.mk.injEq, and_true] at h
  obtain ⟨⟨a1, a2, a3⟩, b1, b2, b3⟩ := h
  rw [e]
  exact eqF d z hz w f1 f2 (by rw [a1]; simp) (by rw [b1]; simp) a2 b2 a3 b3
theorem eql33 (z : List Int) (hz : z.length = 33) (w : World) : (binOp .eql 33 (.agg (bs z).toArray) (.agg (bs z).toArray)).run Try.prog w = .ok (.bool true) w := by
  rw [run_eql_struct, eq33 9997 z hz w]; rfl
end Go.Proofs.Ytkchmoapcmageaa
