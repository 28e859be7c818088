/-
  A heap in memory; which of two things goes first, and the exchange of two.
-/
import Derived.Test.YtpkcabbfblhekaaVOrder
import Derived.StillTailTactics
import Derived.BigRegion
namespace Go.Proofs.Ytpkcabbfblhekaa.V
open Go.RowKit

theorem sz67 : (Try.prog.info? 93).map (·.size) = some 4 := by kernel_rfl
theorem sz26 : (Try.prog.info? 63).map (·.size) = some 3 := by kernel_rfl

/-- A heap in block p: its compare f, its things H in block g with room for cap, spare cells sp, the last number. -/
structure Hp (w : World) (p : Nat) (f : Value) (g n cap : Nat) (H : List E) (sp : List Value) (came : Nat) : Prop where
  blk : Blk w p [f, .slice (some ⟨g, 0, none⟩) n cap, .int .i64 came] 90
  row : Blk w g (rowE H ++ sp) 93
  len : H.length = n
  spl : n * 4 + sp.length = cap * 4
  ne : g ≠ p
  cl : cap ≤ maxLen

theorem Hp.keep {w w' : World} {p : Nat} {f : Value} {g n cap : Nat} {H : List E} {sp : List Value} {came : Nat} {S : Nat → Prop} (h : Hp w p f g n cap H sp came) (c : Chg S w w') (h1 : ¬ S p) (h2 : ¬ S g) : Hp w' p f g n cap H sp came :=
  ⟨h.blk.keep c h1, h.row.keep c h2, h.len, h.spl, h.ne, h.cl⟩
theorem Hp.drew {w : World} {p : Nat} {f : Value} {g n cap : Nat} {H : List E} {sp : List Value} {came : Nat} (h : Hp w p f g n cap H sp came) : Hp w.drew p f g n cap H sp came :=
  ⟨h.blk.drew, h.row.drew, h.len, h.spl, h.ne, h.cl⟩

set_option maxRecDepth 100000 in
set_option maxHeartbeats 2000000 in
theorem ahead_any {w : World} {p : Nat} {f : Value} {g n cap : Nat} {H : List E} {sp : List Value} {came : Nat} {S : Nat → Prop} {I : Nat → World → Prop} {od : E → E → Int} {one : Nat} (O : Od f S I od one)
    (h : Hp w p f g n cap H sp came) (i j c : Nat) (hi : i < n) (hj : j < n) (hI : I c w) (hc : c < 4611686018427387904) :
    Calls Try.prog 61 #[.pointer (some ⟨p, 0, none⟩), .int .i64 i, .int .i64 j] w fun e w' => e = .returned (.bool (decide (od (nth H i) (nth H j) < 0))) ∧ I (c + one) w' ∧ Chg S w w' := by
  have c0 : w.cell? ⟨p, 0, none⟩ = some f := h.blk.cell 0
  have c1 : w.cell? ⟨p, 1, none⟩ = some (.slice (some ⟨g, 0, none⟩) n cap) := h.blk.cell 1
  have OO : Hid _ := O
  have HI : Hid (I c w.drew) := O.keep hI (Chg.refl (fun _ => False) w).drew (fun _ h => h.elim)
  obtain ⟨a, ha⟩ : ∃ a, nth H i = a := ⟨_, rfl⟩
  obtain ⟨b, hb⟩ : ∃ b, nth H j = b := ⟨_, rfl⟩
  obtain ⟨x0, x1, x2, x3⟩ := rowE_at H sp i (by rw [h.len]; exact hi)
  obtain ⟨y0, y1, y2, y3⟩ := rowE_at H sp j (by rw [h.len]; exact hj)
  rw [← h.row.cell] at x0 x1 x2 x3 y0 y1 y2 y3
  rw [ha] at x0 x1 x2 x3 ⊢
  rw [hb] at y0 y1 y2 y3 ⊢
  have hi' : (i : Int) < (n : Int) := by omega
  have hj' : (j : Int) < (n : Int) := by omega
  clear O hI ha hb h
  go_enter Try.func61, Try.ntmps61
  go_wp2_with fail
  go_still_tail 18, (by kernel_rfl)
  have hR : Calls Try.prog 63 #[f, a.val, b.val] w.drew fun e w' => e = .returned (.int .i64 (od a b)) ∧ I (c + one) w' ∧ Chg S w w' := by
    refine Calls.mono (OO.out.run w.drew c a b HI.out hc) ?_
    rintro e w2 ⟨h1, h2, h3⟩
    exact ⟨h1, h2, ((Chg.refl S w).drew).trans h3 (fun _ h => .inl h)⟩
  have HR : Hid _ := hR
  clear hR c0 c1 x0 x1 x2 x3 y0 y1 y2 y3
  go_wp2_with (go_at_call 63; refine Calls.mono HR.out ?_; rintro e w2 ⟨rfl, i2, ch2⟩; have I2 : Hid _ := i2; have C2 : Hid _ := ch2; clear i2 ch2)
  go_ret
  exact ⟨rfl, I2.out, C2.out⟩

/-- Two things, exchanged. -/
theorem Hp.swap {w : World} {p : Nat} {f : Value} {g n cap : Nat} {H : List E} {sp : List Value} {came : Nat} (h : Hp w p f g n cap H sp came) {i j : Nat} (hi : i < n) (hj : j < n) :
    Hp ((w.setCells g (i * 4) (nth H j).cells).setCells g (j * 4) (nth H i).cells) p f g n cap (sw H i j) sp came ∧ Chg (fun k => k = g) w ((w.setCells g (i * 4) (nth H j).cells).setCells g (j * 4) (nth H i).cells) := by
  have hl : (rowE H ++ sp).length = cap * 4 := by rw [List.length_append, rowE_len, h.len, h.spl]
  have hcap : n ≤ cap := by have := h.spl; omega
  obtain ⟨b1, k1⟩ := Blk.setCells (nth H j).cells (i * 4) w _ h.row (by rw [hl, E.cells_len]; omega)
  rw [rowE_set H sp i _ (by rw [h.len]; exact hi)] at b1
  have hl1 : (rowE (H.set i (nth H j)) ++ sp).length = cap * 4 := by rw [List.length_append, rowE_len, List.length_set, h.len, h.spl]
  obtain ⟨b2, k2⟩ := Blk.setCells (nth H i).cells (j * 4) _ _ b1 (by rw [hl1, E.cells_len]; omega)
  rw [rowE_set _ sp j _ (by rw [List.length_set, h.len]; exact hj)] at b2
  have kk := k1.trans k2 (fun _ e => .inl e)
  exact ⟨⟨h.blk.keep kk (fun e => h.ne e.symm), b2, by rw [sw_len, h.len], h.spl, h.ne, h.cl⟩, kk⟩

theorem sets3 (w : World) (g o : Nat) (e : E) : w.setCells g o e.cells = (((w.setCell ⟨g, o, none⟩ (.int .i64 e.k)).setCell ⟨g, o + 1, none⟩ (.int .i64 e.n)).setCell ⟨g, o + 2, none⟩ (.int .i64 e.i)).setCell ⟨g, o + 3, none⟩ (.int .i64 e.num) := rfl
theorem setCell_drewV' (w : World) (a : Addr) (v : Value) : w.drew.setCell a v = (w.setCell a v).drew := rfl

set_option maxRecDepth 100000 in
set_option maxHeartbeats 4000000 in
theorem exchange_any {w : World} {p : Nat} {f : Value} {g n cap : Nat} {H : List E} {sp : List Value} {came : Nat} (h : Hp w p f g n cap H sp came) (i j : Nat) (hi : i < n) (hj : j < n) (hij : i ≠ j) :
    Calls Try.prog 62 #[.pointer (some ⟨p, 0, none⟩), .int .i64 i, .int .i64 j] w fun e w' => e = .returned (.tuple #[]) ∧ Hp w' p f g n cap (sw H i j) sp came ∧ Chg (fun k => k = g) w w' := by
  have c1 : w.cell? ⟨p, 1, none⟩ = some (.slice (some ⟨g, 0, none⟩) n cap) := h.blk.cell 1
  obtain ⟨a, ha⟩ : ∃ a, nth H i = a := ⟨_, rfl⟩
  obtain ⟨b, hb⟩ : ∃ b, nth H j = b := ⟨_, rfl⟩
  have hi' : (i : Int) < (n : Int) := by omega
  have hj' : (j : Int) < (n : Int) := by omega
  have HS := h.drew.swap hi hj
  rw [ha, hb] at HS
  simp only [sets3, setCell_drewV'] at HS
  have HS' : Hid _ := HS
  obtain ⟨x0, x1, x2, x3⟩ := rowE_at H sp i (by rw [h.len]; exact hi)
  obtain ⟨y0, y1, y2, y3⟩ := rowE_at H sp j (by rw [h.len]; exact hj)
  rw [← h.row.cell] at x0 x1 x2 x3 y0 y1 y2 y3
  rw [ha] at x0 x1 x2 x3
  rw [hb] at y0 y1 y2 y3
  have f0 := h.row.fr (i * 4)
  have f1 := h.row.fr (i * 4 + 1)
  have f2 := h.row.fr (i * 4 + 2)
  have f3 := h.row.fr (i * 4 + 3)
  have g0 := h.row.fr (j * 4)
  have g1 := h.row.fr (j * 4 + 1)
  have g2 := h.row.fr (j * 4 + 2)
  have g3 := h.row.fr (j * 4 + 3)
  have d00 : ¬ (i * 4 = j * 4) := by omega
  have d01 : ¬ (i * 4 = j * 4 + 1) := by omega
  have d02 : ¬ (i * 4 = j * 4 + 2) := by omega
  have d03 : ¬ (i * 4 = j * 4 + 3) := by omega
  have d10 : ¬ (i * 4 + 1 = j * 4) := by omega
  have d11 : ¬ (i * 4 + 1 = j * 4 + 1) := by omega
  have d12 : ¬ (i * 4 + 1 = j * 4 + 2) := by omega
  have d13 : ¬ (i * 4 + 1 = j * 4 + 3) := by omega
  have d20 : ¬ (i * 4 + 2 = j * 4) := by omega
  have d21 : ¬ (i * 4 + 2 = j * 4 + 1) := by omega
  have d22 : ¬ (i * 4 + 2 = j * 4 + 2) := by omega
  have d23 : ¬ (i * 4 + 2 = j * 4 + 3) := by omega
  have d30 : ¬ (i * 4 + 3 = j * 4) := by omega
  have d31 : ¬ (i * 4 + 3 = j * 4 + 1) := by omega
  have d32 : ¬ (i * 4 + 3 = j * 4 + 2) := by omega
  have d33 : ¬ (i * 4 + 3 = j * 4 + 3) := by omega
  have e00 : ¬ (j * 4 = i * 4) := by omega
  have e01 : ¬ (j * 4 = i * 4 + 1) := by omega
  have e02 : ¬ (j * 4 = i * 4 + 2) := by omega
  have e03 : ¬ (j * 4 = i * 4 + 3) := by omega
  have e10 : ¬ (j * 4 + 1 = i * 4) := by omega
  have e11 : ¬ (j * 4 + 1 = i * 4 + 1) := by omega
  have e12 : ¬ (j * 4 + 1 = i * 4 + 2) := by omega
  have e13 : ¬ (j * 4 + 1 = i * 4 + 3) := by omega
  have e20 : ¬ (j * 4 + 2 = i * 4) := by omega
  have e21 : ¬ (j * 4 + 2 = i * 4 + 1) := by omega
  have e22 : ¬ (j * 4 + 2 = i * 4 + 2) := by omega
  have e23 : ¬ (j * 4 + 2 = i * 4 + 3) := by omega
  have e30 : ¬ (j * 4 + 3 = i * 4) := by omega
  have e31 : ¬ (j * 4 + 3 = i * 4 + 1) := by omega
  have e32 : ¬ (j * 4 + 3 = i * 4 + 2) := by omega
  have e33 : ¬ (j * 4 + 3 = i * 4 + 3) := by omega
  have hne : ¬ (g = p) := h.ne
  have hne' : ¬ (p = g) := fun e => h.ne e.symm
  clear h ha hb HS hij
  go_enter Try.func62, Try.ntmps62
  go_region
  go_end0
  refine ⟨rfl, HS'.out.1, ?_⟩
  have := HS'.out.2
  exact ⟨this.os, this.tape, this.output, this.size, this.block⟩

end Go.Proofs.Ytpkcabbfblhekaa.V
