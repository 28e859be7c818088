/-
  A heap in memory; which of two things goes first, and the exchange of two.
-/
import Derived.Test.YtpkcabbfblhekaaOrder
import Derived.StillTailTactics
import Derived.BigRegion
namespace Go.Proofs.Ytpkcabbfblhekaa
open Go.RowKit

theorem sz67 : (Try.prog.info? 63).map (·.size) = some 3 := by kernel_rfl
theorem sz26 : (Try.prog.info? 26).map (·.size) = some 2 := by kernel_rfl

section
variable {ops : Array Oper} {op : Oper} {a : Act} {w : World} {K : Act → World → Prop} {Q : Exit → Act → World → Prop} {X : Prop}
/-- A load and a store of a whole struct, as steps of a region that draws. -/
theorem step_load (hgd : op.guard = none) (ty : TypeId) (x : Operand) (ho : op.op = .load ty x) (b o : Nat) (hx : a.eval x = .pointer (some ⟨b, o, none⟩)) (cs : List Value) (d : TypeDesc) (hc : w.rangeAt b o cs)
    (hu : Try.prog.underlying ty = some d) (hd : d.isRow = true) (hi : (Try.prog.info? ty).map (·.size) = some cs.length) (h : K (a.put op.dst (.agg cs.toArray)) w) :
    if Region.wanted op (yielded ops a.tmps) = true then Oper.wp Try.prog op a w K Q else X := by
  have hw : Region.wanted op (yielded ops a.tmps) = true := by simp [Region.wanted, hgd]
  rw [if_pos hw]
  exact wp_load_mid ty x ho b o hx cs d hc hu hd hi h
theorem step_store (hgd : op.guard = none) (ty : TypeId) (x y : Operand) (ho : op.op = .store ty x y) (b o : Nat) (cells : List Value) (hx : a.eval x = .pointer (some ⟨b, o, none⟩)) (hy : a.eval y = .agg cells.toArray)
    (ht : w.there b o cells.length) (hi : (Try.prog.info? ty).map (·.size) = some cells.length) (h1 : ∀ v ∈ cells, v.oneCell' = true) (h : K (a.put op.dst undef) (w.setCells b o cells)) :
    if Region.wanted op (yielded ops a.tmps) = true then Oper.wp Try.prog op a w K Q else X := by
  have hw : Region.wanted op (yielded ops a.tmps) = true := by simp [Region.wanted, hgd]
  rw [if_pos hw]
  exact wp_store_mid ty x y ho b o cells.toArray hx hy (by rw [List.size_toArray]; exact ht) (by rw [List.size_toArray]; exact hi) (all_oneCell_toArray h1) (by rw [List.toList_toArray]; exact h)
end

/-- A heap in block p: its compare f, its things H in block g with room for cap, spare cells sp, the last number. -/
structure Hp (w : World) (p : Nat) (f : Value) (g n cap : Nat) (H : List E) (sp : List Value) (came : Nat) : Prop where
  blk : Blk w p [f, .slice (some ⟨g, 0, none⟩) n cap, .int .i64 came] 61
  row : Blk w g (rowE H ++ sp) 63
  len : H.length = n
  spl : n * 3 + sp.length = cap * 3
  ne : g ≠ p
  cl : cap ≤ maxLen

theorem Hp.keep {w w' : World} {p : Nat} {f : Value} {g n cap : Nat} {H : List E} {sp : List Value} {came : Nat} {S : Nat → Prop} (h : Hp w p f g n cap H sp came) (c : Chg S w w') (h1 : ¬ S p) (h2 : ¬ S g) : Hp w' p f g n cap H sp came :=
  ⟨h.blk.keep c h1, h.row.keep c h2, h.len, h.spl, h.ne, h.cl⟩
theorem Hp.drew {w : World} {p : Nat} {f : Value} {g n cap : Nat} {H : List E} {sp : List Value} {came : Nat} (h : Hp w p f g n cap H sp came) : Hp w.drew p f g n cap H sp came :=
  ⟨h.blk.drew, h.row.drew, h.len, h.spl, h.ne, h.cl⟩

set_option maxRecDepth 100000 in
set_option maxHeartbeats 2000000 in
theorem ahead_any {w : World} {p : Nat} {f : Value} {g n cap : Nat} {H : List E} {sp : List Value} {came : Nat} {S : Nat → Prop} {I : Nat → World → Prop} {od : E → E → Int} {one : Nat} (O : Od f S I od one)
    (h : Hp w p f g n cap H sp came) (i j c : Nat) (hi : i < n) (hj : j < n) (hI : I c w) (hc : c < 4611686018427387904) :
    Calls Try.prog 42 #[.pointer (some ⟨p, 0, none⟩), .int .i64 i, .int .i64 j] w fun e w' => e = .returned (.bool (decide (od (nth H i) (nth H j) < 0))) ∧ I (c + one) w' ∧ Chg S w w' := by
  have c0 : w.cell? ⟨p, 0, none⟩ = some f := h.blk.cell 0
  have c1 : w.cell? ⟨p, 1, none⟩ = some (.slice (some ⟨g, 0, none⟩) n cap) := h.blk.cell 1
  have OO : Hid _ := O
  have HI : Hid (I c w.drew) := O.keep hI (Chg.refl (fun _ => False) w).drew (fun _ h => h.elim)
  obtain ⟨a, ha⟩ : ∃ a, nth H i = a := ⟨_, rfl⟩
  obtain ⟨b, hb⟩ : ∃ b, nth H j = b := ⟨_, rfl⟩
  obtain ⟨x0, x1, x2⟩ := rowE_at H sp i (by rw [h.len]; exact hi)
  obtain ⟨y0, y1, y2⟩ := rowE_at H sp j (by rw [h.len]; exact hj)
  rw [← h.row.cell] at x0 x1 x2 y0 y1 y2
  rw [ha] at x0 x1 x2 ⊢
  rw [hb] at y0 y1 y2 ⊢
  have hi' : (i : Int) < (n : Int) := by omega
  have hj' : (j : Int) < (n : Int) := by omega
  clear O hI ha hb h
  go_enter Try.func42, Try.ntmps42
  go_wp2_with fail
  go_still_tail 18, (by kernel_rfl)
  have hR : Calls Try.prog 47 #[f, a.val, b.val] w.drew fun e w' => e = .returned (.int .i64 (od a b)) ∧ I (c + one) w' ∧ Chg S w w' := by
    refine Calls.mono (OO.out.run w.drew c a b HI.out hc) ?_
    rintro e w2 ⟨h1, h2, h3⟩
    exact ⟨h1, h2, ((Chg.refl S w).drew).trans h3 (fun _ h => .inl h)⟩
  have HR : Hid _ := hR
  clear hR c0 c1 x0 x1 x2 y0 y1 y2
  go_wp2_with (go_at_call 47; refine Calls.mono HR.out ?_; rintro e w2 ⟨rfl, i2, ch2⟩; have I2 : Hid _ := i2; have C2 : Hid _ := ch2; clear i2 ch2)
  go_ret
  exact ⟨rfl, I2.out, C2.out⟩

/-- Two things, exchanged. -/
theorem Hp.swap {w : World} {p : Nat} {f : Value} {g n cap : Nat} {H : List E} {sp : List Value} {came : Nat} (h : Hp w p f g n cap H sp came) {i j : Nat} (hi : i < n) (hj : j < n) :
    Hp ((w.setCells g (i * 3) (nth H j).cells).setCells g (j * 3) (nth H i).cells) p f g n cap (sw H i j) sp came ∧ Chg (fun k => k = g) w ((w.setCells g (i * 3) (nth H j).cells).setCells g (j * 3) (nth H i).cells) := by
  have hl : (rowE H ++ sp).length = cap * 3 := by rw [List.length_append, rowE_len, h.len, h.spl]
  have hcap : n ≤ cap := by have := h.spl; omega
  obtain ⟨b1, k1⟩ := Blk.setCells (nth H j).cells (i * 3) w _ h.row (by rw [hl, E.cells_len]; omega)
  rw [rowE_set H sp i _ (by rw [h.len]; exact hi)] at b1
  have hl1 : (rowE (H.set i (nth H j)) ++ sp).length = cap * 3 := by rw [List.length_append, rowE_len, List.length_set, h.len, h.spl]
  obtain ⟨b2, k2⟩ := Blk.setCells (nth H i).cells (j * 3) _ _ b1 (by rw [hl1, E.cells_len]; omega)
  rw [rowE_set _ sp j _ (by rw [List.length_set, h.len]; exact hj)] at b2
  have kk := k1.trans k2 (fun _ e => .inl e)
  exact ⟨⟨h.blk.keep kk (fun e => h.ne e.symm), b2, by rw [sw_len, h.len], h.spl, h.ne, h.cl⟩, kk⟩

theorem sets3 (w : World) (g o : Nat) (e : E) : w.setCells g o e.cells = ((w.setCell ⟨g, o, none⟩ (.int .i64 e.k)).setCell ⟨g, o + 1, none⟩ (.int .i64 e.n)).setCell ⟨g, o + 2, none⟩ (.int .i64 e.num) := rfl
theorem setCell_drew' (w : World) (a : Addr) (v : Value) : w.drew.setCell a v = (w.setCell a v).drew := rfl

set_option maxRecDepth 100000 in
set_option maxHeartbeats 4000000 in
theorem exchange_any {w : World} {p : Nat} {f : Value} {g n cap : Nat} {H : List E} {sp : List Value} {came : Nat} (h : Hp w p f g n cap H sp came) (i j : Nat) (hi : i < n) (hj : j < n) (hij : i ≠ j) :
    Calls Try.prog 43 #[.pointer (some ⟨p, 0, none⟩), .int .i64 i, .int .i64 j] w fun e w' => e = .returned (.tuple #[]) ∧ Hp w' p f g n cap (sw H i j) sp came ∧ Chg (fun k => k = g) w w' := by
  have c1 : w.cell? ⟨p, 1, none⟩ = some (.slice (some ⟨g, 0, none⟩) n cap) := h.blk.cell 1
  obtain ⟨a, ha⟩ : ∃ a, nth H i = a := ⟨_, rfl⟩
  obtain ⟨b, hb⟩ : ∃ b, nth H j = b := ⟨_, rfl⟩
  have hi' : (i : Int) < (n : Int) := by omega
  have hj' : (j : Int) < (n : Int) := by omega
  have HS := h.drew.swap hi hj
  rw [ha, hb] at HS
  simp only [sets3, setCell_drew'] at HS
  have HS' : Hid _ := HS
  obtain ⟨x0, x1, x2⟩ := rowE_at H sp i (by rw [h.len]; exact hi)
  obtain ⟨y0, y1, y2⟩ := rowE_at H sp j (by rw [h.len]; exact hj)
  rw [← h.row.cell] at x0 x1 x2 y0 y1 y2
  rw [ha] at x0 x1 x2
  rw [hb] at y0 y1 y2
  have f0 := h.row.fr (i * 3)
  have f1 := h.row.fr (i * 3 + 1)
  have f2 := h.row.fr (i * 3 + 2)
  have g0 := h.row.fr (j * 3)
  have g1 := h.row.fr (j * 3 + 1)
  have g2 := h.row.fr (j * 3 + 2)
  have d00 : ¬ (i * 3 = j * 3) := by omega
  have d01 : ¬ (i * 3 = j * 3 + 1) := by omega
  have d02 : ¬ (i * 3 = j * 3 + 2) := by omega
  have d10 : ¬ (i * 3 + 1 = j * 3) := by omega
  have d11 : ¬ (i * 3 + 1 = j * 3 + 1) := by omega
  have d12 : ¬ (i * 3 + 1 = j * 3 + 2) := by omega
  have d20 : ¬ (i * 3 + 2 = j * 3) := by omega
  have d21 : ¬ (i * 3 + 2 = j * 3 + 1) := by omega
  have d22 : ¬ (i * 3 + 2 = j * 3 + 2) := by omega
  have e00 : ¬ (j * 3 = i * 3) := by omega
  have e01 : ¬ (j * 3 = i * 3 + 1) := by omega
  have e02 : ¬ (j * 3 = i * 3 + 2) := by omega
  have e10 : ¬ (j * 3 + 1 = i * 3) := by omega
  have e11 : ¬ (j * 3 + 1 = i * 3 + 1) := by omega
  have e12 : ¬ (j * 3 + 1 = i * 3 + 2) := by omega
  have e20 : ¬ (j * 3 + 2 = i * 3) := by omega
  have e21 : ¬ (j * 3 + 2 = i * 3 + 1) := by omega
  have e22 : ¬ (j * 3 + 2 = i * 3 + 2) := by omega
  have hne : ¬ (g = p) := h.ne
  have hne' : ¬ (p = g) := fun e => h.ne e.symm
  clear h ha hb HS hij
  go_enter Try.func43, Try.ntmps43
  go_region
  go_end0
  refine ⟨rfl, HS'.out.1, ?_⟩
  have := HS'.out.2
  exact ⟨this.os, this.tape, this.output, this.size, this.block⟩

end Go.Proofs.Ytpkcabbfblhekaa