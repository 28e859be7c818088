/-
  Peek, shrink, Pop.
-/
import Derived.Test.YtpkcabbfblhekaaVOps
namespace Go.Proofs.Ytpkcabbfblhekaa.V
open Go.RowKit

/-- A thing. -/
def two (a : Int × Int × Int) : Value := .agg #[.int .i64 a.1, .int .i64 a.2.1, .int .i64 a.2.2]
def E.th (e : E) : Int × Int × Int := (e.k, e.n, e.i)

set_option maxRecDepth 100000 in
theorem peek_none {w : World} {p : Nat} {f v : Value} {came : Nat} (h : Hq w p f v [] came) :
    Calls Try.prog 48 #[.pointer (some ⟨p, 0, none⟩)] w fun e w' => e = .returned (.tuple #[two (0, 0, 0), .bool false]) ∧ Chg (fun _ => False) w w' := by
  obtain ⟨a, c, rfl⟩ := h.form
  have c1 : w.cell? ⟨p, 1, none⟩ = some (.slice a 0 c) := h.blk.cell 1
  have hlt : p < w.heap.size := h.lt
  clear h
  go_enter Try.func48, Try.ntmps48
  go_wp2_with fail
  refine bodyPost_ret (results_row2 (t := 63) rfl _ _ w.heap.size [.int .i64 0, .int .i64 0, .int .i64 0] _ _ rfl ?_ Try.underlying63 rfl sz26 rfl) rfl ?_
  · exact (Blk.made w [.int .i64 0, .int .i64 0, .int .i64 0] 63).alloc _
  · exact ⟨rfl, ((Chg.refl _ _).alloc _).alloc _⟩

set_option maxRecDepth 100000 in
theorem peek_some {w : World} {p : Nat} {f : Value} {g n cap : Nat} {H : List E} {sp : List Value} {came : Nat} (h : Hp w p f g n cap H sp came) (hn : 0 < n) :
    Calls Try.prog 48 #[.pointer (some ⟨p, 0, none⟩)] w fun e w' => e = .returned (.tuple #[two (nth H 0).th, .bool true]) ∧ Chg (fun _ => False) w w' := by
  have c1 : w.cell? ⟨p, 1, none⟩ = some (.slice (some ⟨g, 0, none⟩) n cap) := h.blk.cell 1
  have hlt : p < w.heap.size := h.blk.lt
  have hlg : g < w.heap.size := h.row.lt
  obtain ⟨a, ha⟩ : ∃ a, nth H 0 = a := ⟨_, rfl⟩
  obtain ⟨x0, x1, x2, _⟩ := rowE_at H sp 0 (by rw [h.len]; exact hn)
  rw [← h.row.cell, ha] at x0 x1 x2
  rw [ha]
  have hn0 : ((n : Int) == 0) = false := by simp; omega
  have hn1 : (0 : Int) < (n : Int) := by omega
  clear h ha
  go_enter Try.func48, Try.ntmps48
  go_wp2_with fail
  refine bodyPost_ret (results_row2 (t := 63) rfl _ _ w.heap.size [.int .i64 a.k, .int .i64 a.n, .int .i64 a.i] _ _ rfl ?_ Try.underlying63 rfl sz26 rfl) rfl ?_
  · exact Blk.made w [.int .i64 a.k, .int .i64 a.n, .int .i64 a.i] 63
  · exact ⟨rfl, (Chg.refl _ _).alloc _⟩

theorem info63 : (Try.prog.info? 93).map (fun i => (i.zero, i.size, i.bytes)) = some (some (.agg #[.int .i64 0, .int .i64 0, .int .i64 0, .int .i64 0]), 4, 32) := by kernel_rfl

/-- append of things with numbers. -/
theorem run_app3 (w : World) (ty : TypeId) {v : Value} {H G : List E} (hv : w.ownsRow 0 93 4 v H.length (rowE H)) {b o m c : Nat} (hm : G.length = m) (hG : ∀ j u, (rowE G)[j]? = some u → w.cell? ⟨b, o + j, none⟩ = some u) (hb : H.length + m ≤ 1099511627776) :
    ∃ v' w', (Builtin.append_ #[88, 88] ty #[v, .slice (some ⟨b, o, none⟩) m c]).run Try.prog w = .ok v' w' ∧ w'.ownsRow 0 93 4 v' (H ++ G).length (rowE (H ++ G)) ∧ Chg (fun k => some k = v.ownBlock) w w' ∧ (v'.ownBlock = v.ownBlock ∨ v'.ownBlock = some w.heap.size) := by
  obtain ⟨i0, hi, hz0, hz1, hz2⟩ := info_parts info63
  obtain ⟨v', w', h1, h2, h3, _, h5⟩ := run_append_own_at (P := Try.prog) w 0 88 ty 93 i0 _ 4 32 Try.underlying88 hi hz0 hz1 hz2 rfl (by decide) v H.length (rowE H) hv ⟨b, o, none⟩ m c (rowE G) (by rw [rowE_len, hm]) (fun j u hu => by rw [addr_add]; exact hG j u hu) (rowE_one G) (by unfold maxLen; omega) (by omega) (Nat.zero_le _)
  exact ⟨v', w', h1, by rw [List.length_append, hm, rowE_app]; exact h2, Chg.of_grown h3, h5⟩

theorem wpList_app3 {ops : Array Oper} {rest : List Oper} {o : Oper} {a : Act} {w : World} {Q : Exit → Act → World → Prop} (hgd : o.guard = none) (s x : Operand)
    (ho : o.op = .call { callee := .builtin .append, args := #[s, x], argTypes := #[88, 88] })
    {v u v' : Value} {w' : World} (hs : a.eval s = v) (hx : a.eval x = u) (hr : (Builtin.append_ #[88, 88] o.type #[v, u]).run Try.prog w = .ok v' w')
    (h : wpList Try.prog ops Q rest (a.put o.dst v') w') : wpList Try.prog ops Q (o :: rest) a w := by
  refine wpList_plain hgd fun K hK => ?_
  unfold Oper.wp execOp
  simp only [ho, resolve, invoke, builtin, Sem.run_bind, Sem.run_pure, Result.andThen_ok, List.map_toArray, List.map_cons, List.map_nil, hs, hx, hr]
  exact hK _ _ h

theorem own_form {w : World} {v : Value} {n : Nat} {xs : List Value} (h : w.ownsRow 0 93 4 v n xs) : ∃ a c, v = .slice a n c := by
  rcases h.2 with ⟨rfl, rfl⟩ | ⟨g, cap, cur, rfl, _⟩
  · exact ⟨none, 0, rfl⟩
  · exact ⟨_, _, rfl⟩

set_option maxRecDepth 100000 in
theorem shrink_any {w : World} {p : Nat} {f : Value} {g n cap : Nat} {H : List E} {sp : List Value} {came : Nat} (h : Hp w p f g n cap H sp came) (hn : n ≤ 1099511627776) :
    Calls Try.prog 59 #[.pointer (some ⟨p, 0, none⟩)] w fun e w' => e = .returned (.tuple #[]) ∧ (∃ v, Hq w' p f v H came ∧ (∀ k, v.ownBlock = some k → k = g ∨ w.heap.size ≤ k)) ∧ Chg (fun k => k = p) w w' := by
  have c1 : w.cell? ⟨p, 1, none⟩ = some (.slice (some ⟨g, 0, none⟩) n cap) := h.blk.cell 1
  have f1 := h.blk.fr 1
  have hq : ((cap : Int).tdiv 4) = ((cap / 4 : Nat) : Int) := by rw [Int.tdiv_eq_ediv_of_nonneg (by omega)]; omega
  have HH : Hid _ := h
  have hlt : p < w.heap.size := h.blk.lt
  have hcl : (cap : Int) ≤ 9223372036854775807 := by have := h.cl; unfold maxLen at this; omega
  by_cases hs : n ≤ cap / 4
  · have hs' : (n : Int) ≤ ((cap / 4 : Nat) : Int) := by omega
    obtain ⟨v', w', hr, ho, hch, hv'⟩ := run_app3 (w := w.drew) (v := .slice none 0 0) (H := []) (G := H) 88 (World.ownsRow_nil _ _ _ _) (b := g) (o := 0) (m := n) (c := cap) h.len (fun j u hu => by
      rw [Nat.zero_add, h.row.drew.cell j, List.getElem?_append_left (by rw [List.getElem?_eq_some_iff] at hu; exact hu.1)]; exact hu) (by simpa using hn)
    rw [List.nil_append] at ho
    obtain ⟨av, cv, rfl⟩ := own_form ho
    have HR : Hid _ := hr
    have HO : Hid _ := ho
    have B1 := h.blk.drew.keep hch (by simp [Value.ownBlock])
    have k1 : w'.cell? ⟨p, 1, none⟩ = some (.slice (some ⟨g, 0, none⟩) n cap) := B1.cell 1
    have z1 := B1.fr 1
    have BB : Hid _ := B1
    have hpw : ∀ k, (Value.slice av H.length cv).ownBlock = some k → k ≠ p ∧ w.heap.size ≤ k := by
      intro k hk
      rcases hv' with e | e
      · rw [hk] at e; simp [Value.ownBlock] at e
      · rw [hk] at e
        have : k = w.heap.size := by simpa using e
        omega
    have HW : Hid _ := hpw
    have HC : Hid (Chg (fun k => k = p) w w') := by
      have : Chg (fun k => k = p) w w.drew := (Chg.refl _ _).drew
      exact this.trans hch (fun k e => by simp [Value.ownBlock] at e)
    clear h hr ho hch hv' B1 hpw
    go_enter Try.func59, Try.ntmps59
    go_wp2_with fail
    go_region
    go_wp2_with (at_builtin; refine wpList_app3 rfl (.const (.slice none 0 0)) (.tmp 18) rfl rfl rfl HR.out ?_)
    go_end0
    have hne : (Value.slice av H.length cv).ownBlock ≠ some p := fun e => (HW.out p e).1 rfl
    refine ⟨rfl, ⟨_, ⟨BB.out.set 1 _, World.ownsRow.kept HO.out (row := some p) ⟨rfl, rfl, rfl, by simp, fun k _ hk => heap_setCell_other w' ⟨p, 1, none⟩ k _ (fun e => hk (by rw [e]))⟩ (.inr hne), hne⟩, fun k hk => .inr (HW.out k hk).2⟩, HC.out.setCell (p := ⟨p, 1, none⟩) (.inl rfl) _⟩
  · have hs' : ¬ ((n : Int) ≤ ((cap / 4 : Nat) : Int)) := by omega
    clear h
    go_enter Try.func59, Try.ntmps59
    go_wp2_with fail
    go_region
    go_wp2_with fail
    go_end0
    exact ⟨rfl, ⟨_, HH.out.drew.hq, fun k hk => .inl (by simpa [Value.ownBlock] using hk.symm)⟩, (Chg.refl _ _).drew⟩

/-- What is there when the last thing was laid upon the first. -/
def popT (H : List E) (m : Nat) : List E := (H.set 0 (nth H m)).take m
/-- .. and what Pop leaves, with how often two were compared. -/
def popF (od : E → E → Int) (H : List E) : List E × Nat := sinkF od (H.length - 1) 0 (popT H (H.length - 1))

theorem rowE_last (X : List E) (sp : List Value) (m : Nat) (h : X.length = m + 1) : rowE (X.set m zE) ++ sp = rowE (X.take m) ++ (zE.cells ++ sp) := by
  have : X.set m zE = X.take m ++ [zE] := by
    rw [List.set_eq_take_append_cons_drop, if_pos (by omega), List.drop_eq_nil_of_le (by omega)]
  rw [this, rowE_app, List.append_assoc]
  rfl

end Go.Proofs.Ytpkcabbfblhekaa.V
