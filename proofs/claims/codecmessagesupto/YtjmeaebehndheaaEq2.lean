import Derived.Test.YtjmeaebehndheaaPrL
import Derived.Test.YtjmeaebehndheaaEq
import Derived.Test.YtjmeaebehndheaaRd
import Derived.Test.YtjmeaebehndheaaWhole
/-
  Kids compared.
-/
namespace Go.Proofs.Ytjmeaebehndheaa
open Go.RowKit

theorem wpList_load_g {ops : Array Oper} {rest : List Oper} {op : Oper} {a : Act} {w : World} {Q : Exit → Act → World → Prop} (hw : Region.wanted op (yielded ops a.tmps) = true) (ty : TypeId) (x : Operand) (ho : op.op = .load ty x)
    (g o : Nat) (vs : List Value) (hx : a.eval x = .pointer (some ⟨g, o, none⟩)) {cs : List Value} {t : TypeId} (hg : Blk w g cs t) (hv : (cs.drop o).take vs.length = vs) {d : TypeDesc} (hu : Try.prog.underlying ty = some d) (hd : d.isRow = true)
    (hi : (Try.prog.info? ty).map (·.size) = some vs.length) (h : wpList Try.prog ops Q rest (a.put op.dst (.agg vs.toArray)) w) : wpList Try.prog ops Q (op :: rest) a w :=
  wpList_step fun K hK => by
    rw [if_pos hw]
    exact wp_load_mid ty x ho g o hx vs d (hg.range hv) hu hd hi (hK _ _ h)
theorem kdC_ad (lv : Nat) (s : Value) (ct : Nat) (x y : List Int) : ((kdC lv s ct (x ++ y)).drop 3).take (bs x).length = bs x := by simp [kdC, bs]
theorem kdC_lb (lv : Nat) (s : Value) (ct : Nat) (x y : List Int) (h : x.length = 33) : ((kdC lv s ct (x ++ y)).drop 36).take (bs y).length = bs y := by
  have e : (kdC lv s ct (x ++ y)).drop 36 = bs y := by
    show (bs (x ++ y)).drop 33 = bs y
    rw [bs_app, List.drop_append_of_le_length (by rw [bs_len]; omega), List.drop_eq_nil_of_le (by rw [bs_len]; omega), List.nil_append]
  rw [e, List.take_length]

set_option maxRecDepth 100000 in
set_option maxHeartbeats 4000000 in
theorem sameKid_any {w : World} {lv ct : Nat} {x y kl : List Int} (hx : x.length = 33) (hy : y.length = 32) (hk : kl.length ≤ 1024) {a b : Option Addr} {n c m d : Nat} (hs : Src w (.slice a n c) kl) (hu : Src w (.slice b m d) kl) :
    Calls Try.prog 87 #[.agg (kdC lv (.slice a n c) ct (x ++ y)).toArray, .agg (kdC lv (.slice b m d) ct (x ++ y)).toArray] w fun e w' => e = .returned (.bool true) ∧ Below w.heap.size w w' := by
  obtain ⟨W, hW⟩ : ∃ W, W = (w.alloc (.cells (kdC lv (.slice a n c) ct (x ++ y)).toArray 156)).alloc (.cells (kdC lv (.slice b m d) ct (x ++ y)).toArray 156) := ⟨_, rfl⟩
  have cW : Chg (fun _ => False) w W := by rw [hW]; exact ((Chg.refl _ _).alloc _).alloc _
  have B1 : Hid (Blk W w.heap.size (kdC lv (.slice a n c) ct (x ++ y)) 156) := by rw [hW]; exact (Blk.made w _ 156).alloc _
  have B2 : Hid (Blk W (w.heap.size + 1) (kdC lv (.slice b m d) ct (x ++ y)) 156) := by
    rw [hW]
    have := Blk.made (w.alloc (.cells (kdC lv (.slice a n c) ct (x ++ y)).toArray 156)) (kdC lv (.slice b m d) ct (x ++ y)) 156
    rwa [World.size_alloc] at this
  have c0 : W.cell? ⟨w.heap.size, 0, none⟩ = some (.int .i64 lv) := B1.out.cell 0
  have c1 : W.cell? ⟨w.heap.size, 1, none⟩ = some (.slice a n c) := B1.out.cell 1
  have c2 : W.cell? ⟨w.heap.size, 2, none⟩ = some (.int .u64 ct) := B1.out.cell 2
  have d0 : W.cell? ⟨w.heap.size + 1, 0, none⟩ = some (.int .i64 lv) := B2.out.cell 0
  have d1 : W.cell? ⟨w.heap.size + 1, 1, none⟩ = some (.slice b m d) := B2.out.cell 1
  have d2 : W.cell? ⟨w.heap.size + 1, 2, none⟩ = some (.int .u64 ct) := B2.out.cell 2
  have e33 := eql33 x hx
  have e31 := eql31 y hy
  have SA : Hid (Src W (.slice a n c) kl) := hs.kept cW (fun _ _ e => e)
  have SB : Hid (Src W (.slice b m d) kl) := hu.kept cW (fun _ _ e => e)
  have HB : Hid (Below w.heap.size w W) := by rw [hW]; exact ((Below.refl _ _).alloc (Nat.le_refl _) _).alloc (by simp) _
  clear hs hu cW
  go_enter Try.func87, Try.ntmps87
  go_upto_region 1 with fail
  rw [← hW]
  clear hW
  go_wp2_with (first
    | refine wpList_load_g (by rfl) 33 (.tmp 18) rfl w.heap.size 3 (bs x) rfl B1.out (kdC_ad _ _ _ _ _) Try.underlying33 rfl (Try.addrSz x hx) ?_
    | refine wpList_load_g (by rfl) 33 (.tmp 20) rfl (w.heap.size + 1) 3 (bs x) rfl B2.out (kdC_ad _ _ _ _ _) Try.underlying33 rfl (Try.addrSz x hx) ?_
    | refine wpList_load_g (by rfl) 31 (.tmp 25) rfl w.heap.size 36 (bs y) rfl B1.out (kdC_lb _ _ _ _ _ hx) Try.underlying31 rfl (Try.sumSz' y hy) ?_
    | refine wpList_load_g (by rfl) 31 (.tmp 27) rfl (w.heap.size + 1) 36 (bs y) rfl B2.out (kdC_lb _ _ _ _ _ hx) Try.underlying31 rfl (Try.sumSz' y hy) ?_
    | (go_at_call 15; refine Calls.mono (same_any SA.out SB.out (by omega) (by omega)) ?_; rintro e w9 ⟨rfl, n9, rfl⟩; rw [decide_eq_true rfl]))
  have F : Hid (Below w.heap.size w (W.drewN n9)) := ⟨HB.out.os, HB.out.tape, HB.out.output, HB.out.size, HB.out.block⟩
  go_ret
  exact ⟨rfl, F.out⟩
end Go.Proofs.Ytjmeaebehndheaa

/-
  Sums and addresses, compared whatever they are.
-/
namespace Go.Proofs.Ytjmeaebehndheaa
open Go.RowKit

theorem eq31b (d : Nat) (x y : List Int) (hx : x.length = 32) (hy : y.length = 32) (w : World) : (Op.equalIn (d + 2) 31 (.agg (bs x).toArray) (.agg (bs y).toArray)).run Try.prog w = .ok (decide (x = y)) w := by
  have hsz : ∀ w, (sizeOf 5).run Try.prog w = .ok 1 w := fun _ => by kernel_rfl
  have hd : decide (x = y) = decide (∀ i ∈ List.range' 0 32 1, x[i]? = y[i]?) := by
    apply decide_eq_decide.2
    constructor
    · intro h i _; rw [h]
    · intro h
      apply List.ext_getElem?
      intro i
      by_cases hi : i < 32
      · exact h i (List.mem_range'_1.2 ⟨by omega, by omega⟩)
      · rw [List.getElem?_eq_none (by omega), List.getElem?_eq_none (by omega)]
  rw [hd, Op.equalIn]
  simp only [Sem.run_bind, run_underlying Try.underlying31, Result.andThen_ok, hsz, Std.Legacy.Range.forIn_eq_forIn_range', Std.Legacy.Range.size, Nat.sub_zero, Nat.add_sub_cancel, Nat.div_one]
  have hl : ∀ i ∈ List.range' 0 32 1, i < 32 := fun i hi => by simpa using (List.mem_range'_1.1 hi).2
  clear hd
  generalize List.range' 0 32 1 = l at hl ⊢
  induction l with
  | nil => simp
  | cons i l ih =>
    have hi : i < 32 := hl i (by simp)
    have px : (part 5 (bs x).toArray (i * 1)).run Try.prog w = .ok (.int .u8 (x[i]'(by omega))) w := by
      have := bs_get x i (by omega)
      simp [part, isAgg, run_underlying Try.underlying5, this]
    have py : (part 5 (bs y).toArray (i * 1)).run Try.prog w = .ok (.int .u8 (y[i]'(by omega))) w := by
      have := bs_get y i (by omega)
      simp [part, isAgg, run_underlying Try.underlying5, this]
    have pe : (Op.equalIn (d + 1) 5 (.int .u8 (x[i]'(by omega))) (.int .u8 (y[i]'(by omega)))).run Try.prog w = .ok (decide (x[i]'(by omega) = y[i]'(by omega))) w := by
      rw [run_equalIn_int w d 5 .u8 .u8 _ _ Try.underlying5]
      simp
      exact Bool.eq_iff_iff.2 (by simp)
    have ih' := ih fun j hj => hl j (by simp [hj])
    simp only [List.forIn_cons, Sem.run_bind, px, py, pe, Result.andThen_ok]
    by_cases he : x[i]'(by omega) = y[i]'(by omega)
    · have e1 : x[i]? = y[i]? := by rw [List.getElem?_eq_getElem (by omega), List.getElem?_eq_getElem (by omega), he]
      simp only [he, decide_true, Bool.not_true, Bool.false_eq_true, if_false, Sem.run_pure, Result.andThen_ok]
      rw [ih']
      refine congrArg (Result.ok · w) (decide_eq_decide.2 ?_)
      simp only [List.mem_cons, forall_eq_or_imp, e1, true_and]
    · have e1 : ¬ x[i]? = y[i]? := by rw [List.getElem?_eq_getElem (by omega), List.getElem?_eq_getElem (by omega)]; simpa using he
      simp only [he, decide_false, Bool.not_false, if_true, Sem.run_pure, Result.andThen_ok]
      refine congrArg (Result.ok · w) (Eq.symm (decide_eq_false ?_))
      intro h
      exact e1 (h i (by simp))

theorem eqF_nilb (d : Nat) (xs ys : Array Value) (w : World) : (Op.eqFields d xs ys []).run Try.prog w = .ok true w := by simp only [Op.eqFields, Sem.run_pure]
theorem eqF_consb (d : Nat) (xs ys : Array Value) (f : Field) (fs : List Field) (w : World) (a b : Value) (p q : Bool) (hn : f.name ≠ "_") (hp : (part f.type xs f.offset).run Try.prog w = .ok a w) (hp' : (part f.type ys f.offset).run Try.prog w = .ok b w)
    (hq : (Op.equalIn d f.type a b).run Try.prog w = .ok p w) (hr : (Op.eqFields d xs ys fs).run Try.prog w = .ok q w) :
    (Op.eqFields d xs ys (f :: fs)).run Try.prog w = .ok (p && q) w := by
  cases p
  · simp only [Op.eqFields, if_pos hn, Sem.run_bind, hp, hp', Result.andThen_ok, hq, Bool.not_false, if_true, Sem.run_pure, Bool.false_and]
  · simp only [Op.eqFields, if_pos hn, Sem.run_bind, hp, hp', Result.andThen_ok, hq, Bool.not_true, Bool.false_eq_true, if_false, hr, Bool.true_and]
theorem eqFb (d : Nat) (x y : List Int) (hx : x.length = 33) (hy : y.length = 33) (w : World) (f1 f2 : Field) (h1 : f1.name ≠ "_") (h2 : f2.name ≠ "_") (t1 : f1.type = 31) (t2 : f2.type = 5) (o1 : f1.offset = 0) (o2 : f2.offset = 32) :
    (Op.eqFields (d + 2) (bs x).toArray (bs y).toArray [f1, f2]).run Try.prog w = .ok (decide (x = y)) w := by
  have hs31 : ∀ w, (sizeOf 31).run Try.prog w = .ok 32 w := fun _ => by kernel_rfl
  have p1 : ∀ z : List Int, z.length = 33 → (part 31 (bs z).toArray 0).run Try.prog w = .ok (.agg (bs (z.take 32)).toArray) w := by
    intro z hz
    have e : List.take 32 (bs z) = bs (z.take 32) := by simp [bs, List.map_take]
    simp [part, isAgg, run_underlying Try.underlying31, hs31, e]
  have p2 : ∀ (z : List Int) (hz : z.length = 33), (part 5 (bs z).toArray 32).run Try.prog w = .ok (.int .u8 (z[32]'(by omega))) w := by
    intro z hz
    have := bs_get z 32 (by omega)
    simp [part, isAgg, run_underlying Try.underlying5, this]
  have q1 := eq31b d (x.take 32) (y.take 32) (by simp; omega) (by simp; omega) w
  have q2 : (Op.equalIn (d + 2) 5 (.int .u8 (x[32]'(by omega))) (.int .u8 (y[32]'(by omega)))).run Try.prog w = .ok (decide (x[32]'(by omega) = y[32]'(by omega))) w := by
    rw [run_equalIn_int w (d + 1) 5 .u8 .u8 _ _ Try.underlying5]
    simp
    exact Bool.eq_iff_iff.2 (by simp)
  have hd : decide (x = y) = (decide (x.take 32 = y.take 32) && (decide (x[32]'(by omega) = y[32]'(by omega)) && true)) := by
    rw [Bool.and_true, ← Bool.decide_and]
    apply decide_eq_decide.2
    constructor
    · intro h; subst h; exact ⟨rfl, rfl⟩
    · rintro ⟨h, h'⟩
      have ex : ∀ z : List Int, (hz : z.length = 33) → z = z.take 32 ++ [z[32]'(by omega)] := by
        intro z hz
        have := List.take_append_getElem (l := z) (i := 32) (by omega)
        rw [this, List.take_of_length_le (by omega)]
      exact (ex x hx).trans ((congr (congrArg (· ++ ·) h) (congrArg (fun a => [a]) h')).trans (ex y hy).symm)
  rw [hd]
  refine eqF_consb (d + 2) _ _ f1 _ w _ _ _ _ h1 (by rw [t1, o1]; exact p1 x hx) (by rw [t1, o1]; exact p1 y hy) (by rw [t1]; exact q1) ?_
  exact eqF_consb (d + 2) _ _ f2 _ w _ _ _ _ h2 (by rw [t2, o2]; exact p2 x hx) (by rw [t2, o2]; exact p2 y hy) (by rw [t2]; exact q2) (eqF_nilb _ _ _ w)
theorem eq33b (d : Nat) (x y : List Int) (hx : x.length = 33) (hy : y.length = 33) (w : World) : (Op.equalIn (d + 3) 33 (.agg (bs x).toArray) (.agg (bs y).toArray)).run Try.prog w = .ok (decide (x = y)) w := by
  rw [run_equalIn_struct w (d + 2) 33 _ _ Try.struct33 (by kernel_rfl)]
  obtain ⟨f1, f2, e⟩ : ∃ f1 f2, (Try.prog.fieldsOf 33).toList = [f1, f2] := by
    have := congrArg List.length Try.fields33
    rw [List.length_map] at this
    match h : (Try.prog.fieldsOf 33).toList, this with
    | [f1, f2], _ => exact ⟨f1, f2, rfl⟩
  have h := Try.fields33
  rw [e] at h
  simp only [List.map_cons, List.map_nil, List.cons.injEq, Prod.mk.injEq, and_true] at h
  obtain ⟨⟨a1, a2, a3⟩, b1, b2, b3⟩ := h
  rw [e]
  exact eqFb d x y hx hy w f1 f2 (by rw [a1]; simp) (by rw [b1]; simp) a2 b2 a3 b3
theorem eql33b (x y : List Int) (hx : x.length = 33) (hy : y.length = 33) (w : World) : (binOp .eql 33 (.agg (bs x).toArray) (.agg (bs y).toArray)).run Try.prog w = .ok (.bool (decide (x = y))) w := by
  rw [run_eql_struct, eq33b 9997 x y hx hy w]; rfl
set_option maxRecDepth 100000 in
theorem neq33b (x y : List Int) (hx : x.length = 33) (hy : y.length = 33) (w : World) : (binOp .neq 33 (.agg (bs x).toArray) (.agg (bs y).toArray)).run Try.prog w = .ok (.bool (!decide (x = y))) w := by
  have h := eql33b x y hx hy w
  simp only [binOp, Sem.run_bind] at h ⊢
  cases hr : (Op.equal 33 (.agg (bs x).toArray) (.agg (bs y).toArray)).run Try.prog w with
  | ok b w' =>
    rw [hr] at h
    simp only [Result.andThen_ok, Sem.run_pure] at h ⊢
    injection h with h1 h2
    injection h1 with h1
    subst h1 h2
    rfl
  | _ => rw [hr] at h; cases h
end Go.Proofs.Ytjmeaebehndheaa

/-
  Leaves and forks, compared with themselves.
-/
namespace Go.Proofs.Ytjmeaebehndheaa
open Go.RowKit

theorem two_fields {T : TypeId} {a b : String × TypeId × Nat} (h : (Try.prog.fieldsOf T).toList.map (fun f => (f.name, f.type, f.offset)) = [a, b]) :
    ∃ f1 f2, (Try.prog.fieldsOf T).toList = [f1, f2] ∧ (f1.name = a.1 ∧ f1.type = a.2.1 ∧ f1.offset = a.2.2) ∧ f2.name = b.1 ∧ f2.type = b.2.1 ∧ f2.offset = b.2.2 := by
  match e : (Try.prog.fieldsOf T).toList, h with
  | [f1, f2], h =>
    simp only [List.map_cons, List.map_nil, List.cons.injEq, and_true] at h
    obtain ⟨rfl, rfl⟩ := h
    exact ⟨f1, f2, rfl, ⟨rfl, rfl, rfl⟩, rfl, rfl, rfl⟩

/-- A struct of two fields, compared with itself. -/
theorem eq_two (d : Nat) (T : TypeId) (xs : Array Value) (w : World) {n1 n2 : String} {t1 t2 : TypeId} {o1 o2 : Nat} {x y : Value}
    (hf : (Try.prog.fieldsOf T).toList.map (fun f => (f.name, f.type, f.offset)) = [(n1, t1, o1), (n2, t2, o2)]) (h1 : n1 ≠ "_") (h2 : n2 ≠ "_")
    (p1 : (part t1 xs o1).run Try.prog w = .ok x w) (q1 : (Op.equalIn d t1 x x).run Try.prog w = .ok true w) (p2 : (part t2 xs o2).run Try.prog w = .ok y w) (q2 : (Op.equalIn d t2 y y).run Try.prog w = .ok true w)
    (hc : (Op.equalIn (d + 1) T (.agg xs) (.agg xs)).run Try.prog w = (Op.eqFields d xs xs (Try.prog.fieldsOf T).toList).run Try.prog w) :
    (Op.equalIn (d + 1) T (.agg xs) (.agg xs)).run Try.prog w = .ok true w := by
  obtain ⟨f1, f2, e, ⟨a1, a2, a3⟩, b1, b2, b3⟩ := two_fields hf
  simp only at a1 a2 a3 b1 b2 b3
  rw [hc, e]
  rw [eqF_cons d _ f1 _ w _ (by rw [a1]; exact h1) (by rw [a2, a3]; exact p1) (by rw [a2]; exact q1), eqF_cons d _ f2 _ w _ (by rw [b1]; exact h2) (by rw [b2, b3]; exact p2) (by rw [b2]; exact q2)]
  exact eqF_nil _ _ w

theorem Try.struct73 : Try.prog.underlying 73 = some (.struct (Try.prog.fieldsOf 73)) := by kernel_rfl
theorem Try.fields73 : (Try.prog.fieldsOf 73).toList.map (fun f => (f.name, f.type, f.offset)) = [("Addr", 33, 0), ("Label", 31, 33)] := by kernel_rfl
theorem Try.struct75 : Try.prog.underlying 75 = some (.struct (Try.prog.fieldsOf 75)) := by kernel_rfl
theorem Try.fields75 : (Try.prog.fieldsOf 75).toList.map (fun f => (f.name, f.type, f.offset)) = [("Left", 73, 0), ("Right", 73, 65)] := by kernel_rfl
theorem Try.struct71 : Try.prog.underlying 71 = some (.struct (Try.prog.fieldsOf 71)) := by kernel_rfl
theorem Try.fields71 : (Try.prog.fieldsOf 71).toList.map (fun f => (f.name, f.type, f.offset)) = [("Version", 29, 0), ("Label", 31, 1)] := by kernel_rfl

theorem part_row {T : TypeId} {D : TypeDesc} (n : Nat) (hu : Try.prog.underlying T = some D) (hd : D.isRow = true) (hz : ∀ w, (sizeOf T).run Try.prog w = .ok n w) (xs : List Value) (o : Nat) (w : World) :
    (part T xs.toArray o).run Try.prog w = .ok (.agg ((xs.drop o).take n).toArray) w := by
  cases D <;> simp [TypeDesc.isRow] at hd <;> simp [part, isAgg, run_underlying hu, hz, List.extract_eq_take_drop]

theorem eq73 (d : Nat) (z : List Int) (hz : z.length = 65) (w : World) : (Op.equalIn (d + 4) 73 (.agg (bs z).toArray) (.agg (bs z).toArray)).run Try.prog w = .ok true w := by
  have e1 : ((bs z).drop 0).take 33 = bs (z.take 33) := by simp [bs, List.map_take]
  have e2 : ((bs z).drop 33).take 32 = bs ((z.drop 33).take 32) := by simp [bs, List.map_take, List.map_drop]
  refine eq_two (d + 3) 73 _ w Try.fields73 (by decide) (by decide) (part_row 33 Try.underlying33 rfl (fun _ => by kernel_rfl) _ _ _) ?_ (part_row 32 Try.underlying31 rfl (fun _ => by kernel_rfl) _ _ _) ?_ (run_equalIn_struct w (d + 3) 73 _ _ Try.struct73 (by kernel_rfl))
  · rw [e1]; exact eq33 d _ (by simp; omega) w
  · rw [e2]; exact eq31 (d + 1) _ (by simp; omega) w
theorem eq75 (d : Nat) (z : List Int) (hz : z.length = 130) (w : World) : (Op.equalIn (d + 5) 75 (.agg (bs z).toArray) (.agg (bs z).toArray)).run Try.prog w = .ok true w := by
  have e1 : ((bs z).drop 0).take 65 = bs (z.take 65) := by simp [bs, List.map_take]
  have e2 : ((bs z).drop 65).take 65 = bs ((z.drop 65).take 65) := by simp [bs, List.map_take, List.map_drop]
  refine eq_two (d + 4) 75 _ w Try.fields75 (by decide) (by decide) (part_row 65 Try.underlying73 rfl (fun _ => by kernel_rfl) _ _ _) ?_ (part_row 65 Try.underlying73 rfl (fun _ => by kernel_rfl) _ _ _) ?_ (run_equalIn_struct w (d + 4) 75 _ _ Try.struct75 (by kernel_rfl))
  · rw [e1]; exact eq73 d _ (by simp; omega) w
  · rw [e2]; exact eq73 d _ (by simp; omega) w
theorem eq71 (d : Nat) (n : Nat) (z : List Int) (hz : z.length = 32) (w : World) : (Op.equalIn (d + 3) 71 (.agg (leafC n z).toArray) (.agg (leafC n z).toArray)).run Try.prog w = .ok true w := by
  have e2 : ((leafC n z).drop 1).take 32 = bs z := by
    have := leafC_back n z
    rwa [bs_len, hz] at this
  refine eq_two (d + 2) 71 _ w Try.fields71 (by decide) (by decide) (x := .int .u64 n) ?_ ?_ (part_row 32 Try.underlying31 rfl (fun _ => by kernel_rfl) _ _ _) ?_ (run_equalIn_struct w (d + 2) 71 _ _ Try.struct71 (by kernel_rfl))
  · simp [part, isAgg, run_underlying Try.underlying29, leafC]
  · rw [run_equalIn_int w (d + 1) 29 .u64 .u64 _ _ Try.underlying29]; simp
  · rw [e2]; exact eq31 d _ hz w

theorem leafA_form (T : List Int) : ∃ n z, leafA T = leafC n z ∧ z.length = 32 := by
  unfold leafA orNone
  split
  · exact ⟨_, _, rfl, leafS_len _ _ _⟩
  · exact ⟨0, _, rfl, by simp⟩
theorem forkA_form (T : List Int) : ∃ z, forkA T = bs z ∧ z.length = 130 := by
  unfold forkA orNone
  split
  · exact ⟨_, rfl, forkS_len _ _ _⟩
  · exact ⟨_, rfl, by simp⟩
theorem eqLeafA (T : List Int) (w : World) : (Op.equalIn 10000 71 (.agg (leafA T).toArray) (.agg (leafA T).toArray)).run Try.prog w = .ok true w := by
  obtain ⟨n, z, e, hz⟩ := leafA_form T
  rw [e]; exact eq71 9997 n z hz w
theorem eqForkA (T : List Int) (w : World) : (Op.equalIn 10000 75 (.agg (forkA T).toArray) (.agg (forkA T).toArray)).run Try.prog w = .ok true w := by
  obtain ⟨z, e, hz⟩ := forkA_form T
  rw [e]; exact eq75 9995 z hz w
end Go.Proofs.Ytjmeaebehndheaa
