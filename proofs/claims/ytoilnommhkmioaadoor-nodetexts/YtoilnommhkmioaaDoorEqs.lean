/-
  Sums compared; what texts tell.
-/
import Derived.Test.YtoilnommhkmioaaDoorNdC
import Derived.Stop.BytesEq
namespace Go.Proofs.YtoilnommhkmioaaDoor
open Go.RowKit

theorem Src.drew1 {w : World} {v : Value} {l : List Int} (h : Src w v l) : Src w.drew v l := h
theorem Below.drew0 {w w' : World} (h : Below w.drew.heap.size w.drew w') : Below w.heap.size w w' := ⟨h.os, h.tape, h.output, h.size, h.block⟩

theorem wpList_load_g {ops : Array Oper} {rest : List Oper} {op : Oper} {a : Act} {w : World} {Q : Exit → Act → World → Prop} (hw : Region.wanted op (yielded ops a.tmps) = true) (ty : TypeId) (x : Operand) (ho : op.op = .load ty x)
    (b o : Nat) (hx : a.eval x = .pointer (some ⟨b, o, none⟩)) (cs : List Value) (d : TypeDesc) (hc : w.rangeAt b o cs)
    (hu : Tryd.prog.underlying ty = some d) (hd : d.isRow = true) (hi : (Tryd.prog.info? ty).map (·.size) = some cs.length)
    (h : wpList Tryd.prog ops Q rest (a.put op.dst (.agg cs.toArray)) w) : wpList Tryd.prog ops Q (op :: rest) a w := by
  rw [wpList, if_pos hw]
  exact .inl (wp_load_mid ty x ho b o hx cs d hc hu hd hi h)
theorem Tryd.sz29 : (Tryd.prog.info? 29).map (·.size) = some 68 := by kernel_rfl
theorem Tryd.kidSz (lv cn : Int) (kv : Value) (ad y : List Int) (ha : ad.length = 33) (hy : y.length = 32) : (Tryd.prog.info? 29).map (·.size) = some (kidC lv cn kv ad y).length := by rw [Tryd.sz29, kidC_len lv cn kv ad y ha hy]
theorem Below.drewN {w w' : World} {B : Nat} (h : Below B w w') {n : Nat} : Below B w (w'.drewN n) := ⟨h.os, h.tape, h.output, h.size, h.block⟩
theorem Below.cell_some {w w' : World} (h : Below w.heap.size w w') {a : Addr} {v : Value} (hc : w.cell? a = some v) : w'.cell? a = some v := by rw [h.cell (World.block_lt_of_cell? _ _ hc)]; exact hc
/-- The first bytes of three texts. -/
structure Three (w : World) (ga gc gd : Nat) : Prop where
  a : w.cell? ⟨ga, 0, none⟩ = some (.int .u8 17)
  c : w.cell? ⟨gc, 0, none⟩ = some (.int .u8 19)
  d : w.cell? ⟨gd, 0, none⟩ = some (.int .u8 20)
theorem Three.alloc {w : World} {ga gc gd : Nat} (h : Three w ga gc gd) (o : Obj) : Three (w.alloc o) ga gc gd := by
  have b : Below w.heap.size w (w.alloc o) := (Below.refl _ _).alloc (Nat.le_refl _) _
  exact ⟨Below.cell_some b h.a, Below.cell_some b h.c, Below.cell_some b h.d⟩
/-- The four first bytes. -/
def fv (k : Nat) : Int := [17, 19, 20, 18].getD k 0
theorem fv_hi (k : Nat) (hk : k < 4) : 5 < fv k := by
  have key : ∀ a : Fin 4, 5 < fv a.val := by decide
  exact key ⟨k, hk⟩
theorem fv_ne (k q : Nat) (hk : k < 4) (hq : q < k) : ¬ fv k = fv q := by
  have key : ∀ a : Fin 4, ∀ b : Fin 4, b.val < a.val → ¬ fv a.val = fv b.val := by decide
  exact key ⟨k, hk⟩ ⟨q, by omega⟩ hq
theorem fv_cell {w : World} {g n : Nat} (h : Blk w g (bs [17, 19, 20, 18]) 5) (k : Nat) (hk : k < 4) : (w.drewN n).cell? ⟨g, k, none⟩ = some (.int .u8 (fv k)) := by
  have e : w.cell? ⟨g, k, none⟩ = some (.int .u8 (fv k)) := by
    rw [h.cell]
    match k, hk with
    | 0, _ => rfl
    | 1, _ => rfl
    | 2, _ => rfl
    | 3, _ => rfl
  exact e
theorem kidC_one (lv cn : Int) {kv : Value} (ad y : List Int) (h : kv.oneCell' = true) : ∀ v ∈ kidC lv cn kv ad y, v.oneCell' = true := by
  intro v hv
  simp only [kidC, List.mem_cons] at hv
  rcases hv with rfl | rfl | rfl | hv
  · rfl
  · exact h
  · rfl
  · exact bs_one _ v hv
theorem kidC_swap (lv cn : Int) (kv : Value) (ad y x : List Int) (ha : ad.length = 33) (hy : y.length = 32) (hx : x.length = 32) : splice (kidC lv cn kv ad y) 36 (bs x) = kidC lv cn kv ad x := by
  have e : (kidC lv cn kv ad y).take 36 = kidC lv cn kv ad [] := by
    unfold kidC
    rw [show 36 = 33 + 1 + 1 + 1 by rfl, List.take_succ_cons, List.take_succ_cons, List.take_succ_cons, bs_app, bs_app, List.take_append_of_le_length (by rw [bs_len]; omega), List.take_of_length_le (by rw [bs_len]; omega)]
    simp [bs]
  unfold splice
  rw [e, List.drop_of_length_le (by rw [kidC_len lv cn kv ad y ha hy, bs_len]; omega)]
  simp [kidC, bs]
/-- A kid and a sum, and the kid with another label. -/
structure KD (w : World) (g h : Nat) (lv cn : Int) (kv : Value) (ad y x : List Int) : Prop where
  b : KB w g lv cn kv ad y x
  n : Blk w h (kidC lv cn kv ad x) 29
theorem KD.keep {w w' : World} {g h : Nat} {lv cn : Int} {kv : Value} {ad y x : List Int} (k : KD w g h lv cn kv ad y x) (b : Below w.heap.size w w') : KD w' g h lv cn kv ad y x := ⟨k.b.keep b, k.n.keep0 b⟩
theorem KD.drew {w : World} {g h : Nat} {lv cn : Int} {kv : Value} {ad y x : List Int} (k : KD w g h lv cn kv ad y x) : KD w.drew g h lv cn kv ad y x := ⟨k.b.drew, k.n.drew⟩
theorem KD.drewN {w : World} {g h : Nat} {lv cn : Int} {kv : Value} {ad y x : List Int} (k : KD w g h lv cn kv ad y x) (n : Nat) : KD (w.drewN n) g h lv cn kv ad y x := ⟨⟨⟨k.b.k.eq⟩, ⟨k.b.s.eq⟩⟩, ⟨k.n.eq⟩⟩
theorem dr2 (w : World) (a b : Nat) : (w.drewN a).drewN b = w.drewN (a + b) := by simp

theorem eq25 (d : Nat) (x y : List Int) (hx : x.length = 32) (hy : y.length = 32) (w : World) : (Op.equalIn (d + 2) 25 (.agg (bs x).toArray) (.agg (bs y).toArray)).run Tryd.prog w = .ok (decide (x = y)) w := by
  have hsz : ∀ w, (sizeOf 5).run Tryd.prog w = .ok 1 w := fun _ => by kernel_rfl
  have hall : decide (x = y) = decide (∀ i ∈ List.range' 0 32 1, x[i]? = y[i]?) := by
    rw [decide_eq_decide]
    constructor
    · rintro rfl _ _; rfl
    · intro h
      apply List.ext_getElem?
      intro i
      by_cases hi : i < 32
      · exact h i (List.mem_range'_1.2 ⟨Nat.zero_le _, by omega⟩)
      · rw [List.getElem?_eq_none (by omega), List.getElem?_eq_none (by omega)]
  rw [hall, Op.equalIn]
  simp only [Sem.run_bind, run_underlying Tryd.underlying25, Result.andThen_ok, hsz, Std.Legacy.Range.forIn_eq_forIn_range', Std.Legacy.Range.size, Nat.sub_zero, Nat.add_sub_cancel, Nat.div_one]
  have hl : ∀ i ∈ List.range' 0 32 1, i < 32 := fun i hi => by simpa using (List.mem_range'_1.1 hi).2
  clear hall
  generalize List.range' 0 32 1 = l at hl ⊢
  induction l with
  | nil => simp
  | cons i l ih =>
    have hi : i < 32 := hl i (by simp)
    have px : (part 5 (bs x).toArray (i * 1)).run Tryd.prog w = .ok (.int .u8 (x[i]'(by omega))) w := by
      have := bs_get x i (by omega)
      simp [part, isAgg, run_underlying Tryd.underlying5, this]
    have py : (part 5 (bs y).toArray (i * 1)).run Tryd.prog w = .ok (.int .u8 (y[i]'(by omega))) w := by
      have := bs_get y i (by omega)
      simp [part, isAgg, run_underlying Tryd.underlying5, this]
    have pe : (Op.equalIn (d + 1) 5 (.int .u8 (x[i]'(by omega))) (.int .u8 (y[i]'(by omega)))).run Tryd.prog w = .ok (x[i]'(by omega) == y[i]'(by omega)) w := by
      rw [run_equalIn_int w d 5 .u8 .u8 _ _ Tryd.underlying5]
    simp only [List.forIn_cons, Sem.run_bind, px, py, pe, Result.andThen_ok]
    have ex : x[i]? = some (x[i]'(by omega)) := List.getElem?_eq_getElem _
    have ey : y[i]? = some (y[i]'(by omega)) := List.getElem?_eq_getElem _
    by_cases hxy : x[i]'(by omega) = y[i]'(by omega)
    · simp only [hxy, beq_self_eq_true, Bool.not_true, Bool.false_eq_true, if_false, Sem.run_pure, Result.andThen_ok]
      rw [ih fun j hj => hl j (by simp [hj])]
      simp [ex, ey, hxy]
    · simp [hxy, ex, ey]

theorem eql25 (x y : List Int) (hx : x.length = 32) (hy : y.length = 32) (w : World) : (binOp .eql 25 (.agg (bs x).toArray) (.agg (bs y).toArray)).run Tryd.prog w = .ok (.bool (decide (x = y))) w := by
  rw [run_eql_struct, eq25 9998 x y hx hy w]; rfl

theorem leafT_eq {m1 m2 x y : List Int} (hx : x.length = 32) (hy : y.length = 32) : leafT m1 x = leafT m2 y ↔ m1 = m2 ∧ x = y := by
  constructor
  · intro h
    have hl := congrArg List.length h
    simp [leafT, word, hx, hy] at hl
    unfold leafT at h
    rw [hl] at h
    simp only [List.append_assoc] at h
    have h2 := List.append_cancel_left (List.append_cancel_left h)
    exact List.append_inj h2 hl
  · rintro ⟨rfl, rfl⟩; rfl
theorem pairT_eq {lv cn : Int} {m x y : List Int} (hx : x.length = 32) (hy : y.length = 32) : pairT lv cn m x y = pairT lv cn m y x ↔ x = y := by
  constructor
  · intro h
    unfold pairT at h
    simp only [List.append_assoc] at h
    have h2 := List.append_cancel_left (List.append_cancel_left (List.append_cancel_left (List.append_cancel_left (List.append_cancel_left h))))
    exact (List.append_inj h2 (by omega)).1
  · rintro rfl; rfl
end Go.Proofs.YtoilnommhkmioaaDoor
