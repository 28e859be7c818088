/-
  Sums and addresses, compared whatever they are.
-/
import Derived.Test.YtkchmoapcmageaaEq
namespace Go.Proofs.Ytkchmoapcmageaa
open Go.RowKit

theorem eq31b (d : Nat) (x y : List Int) (hx : x.length = 32) (hy : y.length = 32) (w : World) : (Op.equalIn (d + 2) 31 (.agg (bs x).toArray) (.agg (bs y).toArray)).run Try.prog w = .ok (decide (x = y)) w := by
  have hsz : ∀ w, (sizeOf 5).run Try.prog w = .ok 1 w := fun _ => by kernel_rfl
  have hd : decide (x = y) = decide (∀ i ∈ List.range' 0 32 1, x[i]? = y[i]?) := by
    apply decide_eq_decide.2
    constructor
    · intro h i _; rw [h]
    · intro h
      apply List.ext_getElem?
      intro i
      by_cases hi : i < 32
      · exact h i (List.mem_range'_1.2 ⟨by omega, by omega⟩)
      · rw [List.getElem?_eq_none (by omega), List.getElem?_eq_none (by omega)]
  rw [hd, Op.equalIn]
  simp only [Sem.run_bind, run_underlying Try.underlying31, Result.andThen_ok, hsz, Std.Legacy.Range.forIn_eq_forIn_range', Std.Legacy.Range.size, Nat.sub_zero, Nat.add_sub_cancel, Nat.div_one]
  have hl : ∀ i ∈ List.range' 0 32 1, i < 32 := fun i hi => by simpa using (List.mem_range'_1.1 hi).2
  clear hd
  generalize List.range' 0 32 1 = l at hl ⊢
  induction l with
  | nil => simp
  | cons i l ih =>
    have hi : i < 32 := hl i (by simp)
    have px : (part 5 (bs x).toArray (i * 1)).run Try.prog w = .ok (.int .u8 (x[i]'(by omega))) w := by
      have := bs_get x i (by omega)
      simp [part, isAgg, run_underlying Try.underlying5, this]
    have py : (part 5 (bs y).toArray (i * 1)).run Try.prog w = .ok (.int .u8 (y[i]'(by omega))) w := by
      have := bs_get y i (by omega)
      simp [part, isAgg, run_underlying Try.underlying5, this]
    have pe : (Op.equalIn (d + 1) 5 (.int .u8 (x[i]'(by omega))) (.int .u8 (y[i]'(by omega)))).run Try.prog w = .ok (decide (x[i]'(by omega) = y[i]'(by omega))) w := by
      rw [run_equalIn_int w d 5 .u8 .u8 _ _ Try.underlying5]
      simp
      exact Bool.eq_iff_iff.2 (by simp)
    have ih' := ih fun j hj => hl j (by simp [hj])
    simp only [List.forIn_cons, Sem.run_bind, px, py, pe, Result.andThen_ok]
    by_cases he : x[i]'(by omega) = y[i]'(by omega)
    · have e1 : x[i]? = y[i]? := by rw [List.getElem?_eq_getElem (by omega), List.getElem?_eq_getElem (by omega), he]
      simp only [he, decide_true, Bool.not_true, Bool.false_eq_true, if_false, Sem.run_pure, Result.andThen_ok]
      rw [ih']
      refine congrArg (Result.ok · w) (decide_eq_decide.2 ?_)
      simp only [List.mem_cons, forall_eq_or_imp, e1, true_and]
    · have e1 : ¬ x[i]? = y[i]? := by rw [List.getElem?_eq_getElem (by omega), List.getElem?_eq_getElem (by omega)]; simpa using he
      simp only [he, decide_false, Bool.not_false, if_true, Sem.run_pure, Result.andThen_ok]
      refine congrArg (Result.ok · w) (Eq.symm (decide_eq_false ?_))
      intro h
      exact e1 (h i (by simp))

theorem eqF_nilb (d : Nat) (xs ys : Array Value) (w : World) : (Op.eqFields d xs ys []).run Try.prog w = .ok true w := by simp only [Op.eqFields, Sem.run_pure]
theorem eqF_consb (d : Nat) (xs ys : Array Value) (f : Field) (fs : List Field) (w : World) (a b : Value) (p q : Bool) (hn : f.name ≠ "_") (hp : (part f.type xs f.offset).run Try.prog w = .ok a w) (hp' : (part f.type ys f.offset).run Try.prog w = .ok b w)
    (hq : (Op.equalIn d f.type a b).run Try.prog w = .ok p w) (hr : (Op.eqFields d xs ys fs).run Try.prog w = .ok q w) :
    (Op.eqFields d xs ys (f :: fs)).run Try.prog w = .ok (p && q) w := by
  cases p
  · simp only [Op.eqFields, if_pos hn, Sem.run_bind, hp, hp', Result.andThen_ok, hq, Bool.not_false, if_true, Sem.run_pure, Bool.false_and]
  · simp only [Op.eqFields, if_pos hn, Sem.run_bind, hp, hp', Result.andThen_ok, hq, Bool.not_true, Bool.false_eq_true, if_false, hr, Bool.true_and]
theorem eqFb (d : Nat) (x y : List Int) (hx : x.length = 33) (hy : y.length = 33) (w : World) (f1 f2 : Field) (h1 : f1.name ≠ "_") (h2 : f2.name ≠ "_") (t1 : f1.type = 31) (t2 : f2.type = 5) (o1 : f1.offset = 0) (o2 : f2.offset = 32) :
    (Op.eqFields (d + 2) (bs x).toArray (bs y).toArray [f1, f2]).run Try.prog w = .ok (decide (x = y)) w := by
  have hs31 : ∀ w, (sizeOf 31).run Try.prog w = .ok 32 w := fun _ => by kernel_rfl
  have p1 : ∀ z : List Int, z.length = 33 → (part 31 (bs z).toArray 0).run Try.prog w = .ok (.agg (bs (z.take 32)).toArray) w := by
    intro z hz
    have e : List.take 32 (bs z) = bs (z.take 32) := by simp [bs, List.map_take]
    simp [part, isAgg, run_underlying Try.underlying31, hs31, e]
  have p2 : ∀ (z : List Int) (hz : z.length = 33), (part 5 (bs z).toArray 32).run Try.prog w = .ok (.int .u8 (z[32]'(by omega))) w := by
    intro z hz
    have := bs_get z 32 (by omega)
    simp [part, isAgg, run_underlying Try.underlying5, this]
  have q1 := eq31b d (x.take 32) (y.take 32) (by simp; omega) (by simp; omega) w
  have q2 : (Op.equalIn (d + 2) 5 (.int .u8 (x[32]'(by omega))) (.int .u8 (y[32]'(by omega)))).run Try.prog w = .ok (decide (x[32]'(by omega) = y[32]'(by omega))) w := by
    rw [run_equalIn_int w (d + 1) 5 .u8 .u8 _ _ Try.underlying5]
    simp
    exact Bool.eq_iff_iff.2 (by simp)
  have hd : decide (x = y) = (decide (x.take 32 = y.take 32) && (decide (x[32]'(by omega) = y[32]'(by omega)) && true)) := by
    rw [Bool.and_true, ← Bool.decide_and]
    apply decide_eq_decide.2
    constructor
    · intro h; subst h; exact ⟨rfl, rfl⟩
    · rintro ⟨h, h'⟩
      have ex : ∀ z : List Int, (hz : z.length = 33) → z = z.take 32 ++ [z[32]'(by omega)] := by
        intro z hz
        have := List.take_append_getElem (l := z) (i := 32) (by omega)
        rw [this, List.take_of_length_le (by omega)]
      exact (ex x hx).trans ((congr (congrArg (· ++ ·) h) (congrArg (fun a => [a]) h')).trans (ex y hy).symm)
  rw [hd]
  refine eqF_consb (d + 2) _ _ f1 _ w _ _ _ _ h1 (by rw [t1, o1]; exact p1 x hx) (by rw [t1, o1]; exact p1 y hy) (by rw [t1]; exact q1) ?_
  exact eqF_consb (d + 2) _ _ f2 _ w _ _ _ _ h2 (by rw [t2, o2]; exact p2 x hx) (by rw [t2, o2]; exact p2 y hy) (by rw [t2]; exact q2) (eqF_nilb _ _ _ w)
theorem eq33b (d : Nat) (x y : List Int) (hx : x.length = 33) (hy : y.length = 33) (w : World) : (Op.equalIn (d + 3) 33 (.agg (bs x).toArray) (.agg (bs y).toArray)).run Try.prog w = .ok (decide (x = y)) w := by
  rw [run_equalIn_struct w (d + 2) 33 _ _ Try.struct33 (by kernel_rfl)]
  obtain ⟨f1, f2, e⟩ : ∃ f1 f2, (Try.prog.fieldsOf 33).toList = [f1, f2] := by
    have := congrArg List.length Try.fields33
    rw [List.length_map] at this
    match h : (Try.prog.fieldsOf 33).toList, this with
    | [f1, f2], _ => exact ⟨f1, f2, rfl⟩
  have h := Try.fields33
  rw [e] at h
  simp only [List.map_cons, List.map_nil, List.cons.injEq, Prod.mk.injEq, and_true] at h
  obtain ⟨⟨a1, a2, a3⟩, b1, b2, b3⟩ := h
  rw [e]
  exact eqFb d x y hx hy w f1 f2 (by rw [a1]; simp) (by rw [b1]; simp) a2 b2 a3 b3
theorem eql33b (x y : List Int) (hx : x.length = 33) (hy : y.length = 33) (w : World) : (binOp .eql 33 (.agg (bs x).toArray) (.agg (bs y).toArray)).run Try.prog w = .ok (.bool (decide (x = y))) w := by
  rw [run_eql_struct, eq33b 9997 x y hx hy w]; rfl
set_option maxRecDepth 100000 in
theorem neq33b (x y : List Int) (hx : x.length = 33) (hy : y.length = 33) (w : World) : (binOp .neq 33 (.agg (bs x).toArray) (.agg (bs y).toArray)).run Try.prog w = .ok (.bool (!decide (x = y))) w := by
  have h := eql33b x y hx hy w
  simp only [binOp, Sem.run_bind] at h ⊢
  cases hr : (Op.equal 33 (.agg (bs x).toArray) (.agg (bs y).toArray)).run Try.prog w with
  | ok b w' =>
    rw [hr] at h
    simp only [Result.andThen_ok, Sem.run_pure] at h ⊢
    injection h with h1 h2
    injection h1 with h1
    subst h1 h2
    rfl
  | _ => rw [hr] at h; cases h
end Go.Proofs.Ytkchmoapcmageaa
