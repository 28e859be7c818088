/-
  Arrays of 32 bytes, compared with themselves.
-/
import Derived.Test.YtfnfmgnebhfacaaParse
import Derived.Stop.BytesEq
namespace Go.Proofs.Ytfnfmgnebhfacaa
open Go.RowKit

theorem run_equalIn_arr (d : Nat) (t : TypeId) (ht : Try.prog.underlying t = some (.array 32 5)) (z : Nat → Int) (w : World) :
    (Op.equalIn (d + 2) t (.agg (arrOf z).toArray) (.agg (arrOf z).toArray)).run Try.prog w = .ok true w := by
  have hsz : ∀ w, (sizeOf 5).run Try.prog w = .ok 1 w := fun _ => by kernel_rfl
  rw [Op.equalIn]
  simp only [Sem.run_bind, run_underlying ht, Result.andThen_ok, hsz, Std.Legacy.Range.forIn_eq_forIn_range', Std.Legacy.Range.size, Nat.sub_zero, Nat.add_sub_cancel, Nat.div_one]
  have hl : ∀ i ∈ List.range' 0 32 1, i < 32 := fun i hi => by simpa using (List.mem_range'_1.1 hi).2
  generalize List.range' 0 32 1 = l at hl ⊢
  induction l with
  | nil => simp
  | cons i l ih =>
    have hi : i < 32 := hl i (by simp)
    have px : (part 5 (arrOf z).toArray (i * 1)).run Try.prog w = .ok (.int .u8 (z i)) w := by
      simp [part, isAgg, run_underlying Try.underlying5, arrOf_get z i hi]
    have pe : (Op.equalIn (d + 1) 5 (.int .u8 (z i)) (.int .u8 (z i))).run Try.prog w = .ok true w := by
      rw [run_equalIn_int w d 5 .u8 .u8 _ _ Try.underlying5]
      simp
    simp only [List.forIn_cons, Sem.run_bind, px, pe, Result.andThen_ok]
    simp only [Bool.not_true, Bool.false_eq_true, if_false, Sem.run_pure, Result.andThen_ok]
    exact ih fun j hj => hl j (by simp [hj])

theorem run_eql_arr (t : TypeId) (ht : Try.prog.underlying t = some (.array 32 5)) (z : Nat → Int) (w : World) :
    (binOp .eql t (.agg (arrOf z).toArray) (.agg (arrOf z).toArray)).run Try.prog w = .ok (.bool true) w := by
  rw [run_eql_struct, run_equalIn_arr 9998 t ht z w]
  rfl
theorem run_neq_arr (t : TypeId) (ht : Try.prog.underlying t = some (.array 32 5)) (z : Nat → Int) (w : World) :
    (binOp .neq t (.agg (arrOf z).toArray) (.agg (arrOf z).toArray)).run Try.prog w = .ok (.bool false) w := by
  rw [run_neq_struct, run_equalIn_arr 9998 t ht z w]
  rfl
end Go.Proofs.Ytfnfmgnebhfacaa
