/-
  A page is copied, its lists too.
-/
import Derived.Test.YtfkjgfelgiogeaaNumI
import Derived.Test.YtfkjgfelgiogeaaPgI
namespace Go.Proofs.Ytfkjgfelgiogeaa
open Go.RowKit

theorem Mk.lenK (m : Mk) : m.cells.length = 2 := rfl
theorem Vs.lenK (v : Vs) (hx : v.x.length = 33) (hy : v.y.length = 32) : v.cells.length = 67 := by rw [Vs.cells, vsC_len, hx, hy]
theorem Pk.lenK (k : Pk) (hx : k.x.length = 33) (hy : k.y.length = 32) : k.cells.length = 66 := by rw [Pk.cells, leafC_len, List.length_append, hx, hy]
/-- A page under way of being copied. -/
structure KR (w : World) (P : Pg) (mv vv pv : Value) (wr : World) (L1 L2 L3 : List (List Value)) (cs : List Value) : Prop where
  b0 : Blk wr w.heap.size P.cells 51
  res : Blk wr (w.heap.size + 1) pgZ 51
  row : Blk wr (w.heap.size + 2) cs 51
  inn : PgIn wr (fun g => g < w.heap.size) P
  pg : PG wr (w.heap.size + 3) mv vv pv L1 L2 L3
  be : Below w.heap.size w wr
  sz : w.heap.size + 3 ≤ wr.heap.size
section
variable {w : World} {P : Pg} {mv vv pv : Value} {wr w' : World} {L1 L2 L3 : List (List Value)} {cs : List Value}
theorem KR.set (h : KR w P mv vv pv wr L1 L2 L3 cs) (i : Nat) (v : Value) : KR w P mv vv pv (wr.setCell ⟨w.heap.size + 2, i, none⟩ v) L1 L2 L3 (cs.set i v) := by
  have c : Chg (fun k => k = w.heap.size + 2) wr (wr.setCell ⟨w.heap.size + 2, i, none⟩ v) := (Chg.refl (fun k => k = w.heap.size + 2) wr).setCell (p := ⟨w.heap.size + 2, i, none⟩) (.inl rfl) v
  exact ⟨h.b0.keep c (by omega), h.res.keep c (by omega), h.row.set i v, h.inn.kept c (fun g hg e => by omega), h.pg.kept c (fun g e => by rw [e]; exact h.row.notEl), h.be.trans (c.below (Nat.le_trans (by omega) h.sz) (fun k e => by omega)), Nat.le_trans h.sz c.size⟩
theorem KR.addM (h : KR w P (.slice none 0 0) vv pv wr [] L2 L3 cs) (hF : PgSm P) : ∃ v' w', (Builtin.append_ #[45, 45] 45 #[.slice none 0 0, .slice P.ma P.mn P.mc]).run Try.prog wr = .ok v' w' ∧ KR w P v' vv pv w' P.mL L2 L3 cs := by
  obtain ⟨v', w', r, gl, c0, bb⟩ := GL.addAll (c := P.mc) Try.underlying45 info124 (by kernel_rfl) (by decide) h.pg.m h.inn.mrow (fun i _ => Mk.lenK _) (fun i _ => Mk.one _) (by have := hF.mn; simp; omega) (by have := hF.mn; simp; omega) 45
  have c : Chg (fun _ => False) wr w' := c0.mono (fun _ _ e => by simp [Value.ownBlock] at e)
  refine ⟨v', w', r, h.b0.keep c (fun e => e), h.res.keep c (fun e => e), h.row.keep c (fun e => e), h.inn.kept c (fun _ _ e => e), ⟨gl, h.pg.v.fresh c, h.pg.p.fresh c, fun g hg => ?_⟩, h.be.trans (c.below (Nat.le_trans (by omega) h.sz) (fun _ e => e.elim)), Nat.le_trans h.sz c.size⟩
  rcases hg with hg | hg
  · rcases bb with bb | ⟨q, hq, hle⟩
    · rw [bb] at hg; simp [Value.ownBlock] at hg
    · rw [hq] at hg; injection hg with hg; have := h.sz; omega
  · exact h.pg.nb g (.inr hg)
theorem KR.addV (h : KR w P mv (.slice none 0 0) pv wr L1 [] L3 cs) (hF : PgSm P) : ∃ v' w', (Builtin.append_ #[46, 46] 46 #[.slice none 0 0, .slice P.va P.vn P.vc]).run Try.prog wr = .ok v' w' ∧ KR w P mv v' pv w' L1 P.vL L3 cs := by
  obtain ⟨v', w', r, gl, c0, bb⟩ := GL.addAll (c := P.vc) Try.underlying46 info128 (by kernel_rfl) (by decide) h.pg.v h.inn.vrow (fun i hi => Vs.lenK _ (h.inn.vk i hi).2.1 (h.inn.vk i hi).2.2.2) (fun i _ => vsC_one _ _ _ _) (by have := hF.vn; simp; omega) (by have := hF.vn; simp; omega) 46
  have c : Chg (fun _ => False) wr w' := c0.mono (fun _ _ e => by simp [Value.ownBlock] at e)
  refine ⟨v', w', r, h.b0.keep c (fun e => e), h.res.keep c (fun e => e), h.row.keep c (fun e => e), h.inn.kept c (fun _ _ e => e), ⟨h.pg.m.fresh c, gl, h.pg.p.fresh c, fun g hg => ?_⟩, h.be.trans (c.below (Nat.le_trans (by omega) h.sz) (fun _ e => e.elim)), Nat.le_trans h.sz c.size⟩
  rcases hg with hg | hg | hg
  · exact h.pg.nb g (.inl hg)
  · rcases bb with bb | ⟨q, hq, hle⟩
    · rw [bb] at hg; simp [Value.ownBlock] at hg
    · rw [hq] at hg; injection hg with hg; have := h.sz; omega
  · exact h.pg.nb g (.inr (.inr hg))
theorem KR.addP (h : KR w P mv vv (.slice none 0 0) wr L1 L2 [] cs) (hF : PgSm P) : ∃ v' w', (Builtin.append_ #[47, 47] 47 #[.slice none 0 0, .slice P.pa P.pn P.pc]).run Try.prog wr = .ok v' w' ∧ KR w P mv vv v' w' L1 L2 P.pL cs := by
  obtain ⟨v', w', r, gl, c0, bb⟩ := GL.addAll (c := P.pc) Try.underlying47 info130 (by kernel_rfl) (by decide) h.pg.p h.inn.prow (fun i hi => Pk.lenK _ (h.inn.pk i hi).2.1 (h.inn.pk i hi).2.2) (fun i _ => leafC_one _ _) (by have := hF.pn; simp; omega) (by have := hF.pn; simp; omega) 47
  have c : Chg (fun _ => False) wr w' := c0.mono (fun _ _ e => by simp [Value.ownBlock] at e)
  refine ⟨v', w', r, h.b0.keep c (fun e => e), h.res.keep c (fun e => e), h.row.keep c (fun e => e), h.inn.kept c (fun _ _ e => e), ⟨h.pg.m.fresh c, h.pg.v.fresh c, gl, fun g hg => ?_⟩, h.be.trans (c.below (Nat.le_trans (by omega) h.sz) (fun _ e => e.elim)), Nat.le_trans h.sz c.size⟩
  rcases hg with hg | hg | hg
  · exact h.pg.nb g (.inl hg)
  · exact h.pg.nb g (.inr (.inl hg))
  · rcases bb with bb | ⟨q, hq, hle⟩
    · rw [bb] at hg; simp [Value.ownBlock] at hg
    · rw [hq] at hg; injection hg with hg; have := h.sz; omega
end
theorem Pg.oneK (P : Pg) : ∀ u ∈ P.cells, u.oneCell' = true := by
  intro u hu
  simp [Pg.cells] at hu
  rcases hu with rfl | rfl | rfl | rfl | rfl | rfl | rfl <;> rfl
theorem GL.rowsK {w : World} {v : Value} {ty sz n : Nat} {f : Nat → List Value} {B : Nat} (h : GL w v ty sz ((List.range n).map f)) (hb : ∀ g, v.ownBlock = some g → B ≤ g) : ∃ A c, v = .slice A n c ∧ RowsIn w (fun g => B ≤ g ∧ g < w.heap.size) A n sz f := by
  obtain ⟨A, c, e, r⟩ := GL.rowsN h
  refine ⟨A, c, e, fun i hi => ?_⟩
  obtain ⟨g, o, hA, _, rg⟩ := r i hi
  refine ⟨g, o, hA, ⟨hb g (by rw [e, hA]; rfl), ?_⟩, rg⟩
  obtain ⟨cur, hg⟩ := h.blk (g := g) (by rw [e, hA]; rfl)
  exact (Array.getElem?_eq_some_iff.1 hg).1

set_option maxRecDepth 100000 in
set_option maxHeartbeats 4000000 in
theorem copyPage_any {w : World} {P : Pg} (hP : PgIn w (fun g => g < w.heap.size) P) (hF : PgSm P) :
    Calls Try.prog 38 #[.agg P.cells.toArray] w fun e w' => ∃ A1 A2 A3 c1 c2 c3, e = .returned (.agg (P.at A1 A2 A3 c1 c2 c3).cells.toArray) ∧ Below w.heap.size w w' ∧ PgIn w' (fun g => g < w'.heap.size) (P.at A1 A2 A3 c1 c2 c3) := by
  obtain ⟨W, hW⟩ : ∃ W, W = (w.alloc (.cells P.cells.toArray 51)).alloc (.cells pgZ.toArray 51) := ⟨_, rfl⟩
  have cW : Chg (fun _ => False) w W := by rw [hW]; exact ((Chg.refl _ _).alloc _).alloc _
  have bW : Below w.heap.size w W := cW.below (Nat.le_refl _) (fun _ e => e.elim)
  have B0 : Hid (Blk W w.heap.size P.cells 51) := by rw [hW]; exact (Blk.made w _ 51).alloc _
  have B1 : Hid (Blk W (w.heap.size + 1) pgZ 51) := by
    rw [hW]
    have := Blk.made (w.alloc (.cells P.cells.toArray 51)) pgZ 51
    rwa [World.size_alloc] at this
  have SW : W.heap.size = w.heap.size + 2 := by rw [hW]; simp
  have HI : Hid (PgIn W (fun g => g < w.heap.size) P) := hP.kept cW (fun _ _ e => e)
  have HBW : Hid _ := bW
  have NM : Hid _ := hP.nm
  have HF : Hid _ := hF
  clear hP hF cW bW
  go_enter Try.func38, Try.ntmps38
  go_upto_region 1 with fail
  have hW2 : W = (w.alloc (.cells P.cells.toArray 51)).alloc (.cells #[.int .u64 0, .int .i64 0, .int .u64 0, .slice none 0 0, .slice none 0 0, .int .u64 0, .slice none 0 0] 51) := hW
  rw [← hW2]
  clear hW hW2
  go_upto_region 2 with (first
    | refine wpList_load_part rfl 51 (.tmp 1) rfl w.heap.size 0 P.cells rfl B0.out (by simp) Try.underlying51 rfl Try.size51 ?_
    | (refine wpList_store_part rfl 51 (.tmp 3) (.tmp 4) rfl (w.heap.size + 2) 0 P.cells rfl rfl (t := 51) (cs := pgZ) ⟨by rw [← SW]; exact heap_alloc_new _ _⟩ (by simp [Pg.cells, pgZ, pgC]) Try.size51 (Pg.oneK P) ?_; intro wB hw8 hc8; rw [splice_all _ _ (by simp [Pg.cells, pgZ, pgC])] at hw8; have c8 : Chg (fun _ => False) W wB := ((Chg.refl (fun _ => False) W).alloc _).trans hc8 (fun i e => .inr (by omega)); have z8 : w.heap.size + 3 ≤ wB.heap.size := hw8.lt; have K0 : Hid (KR w P (.slice none 0 0) (.slice none 0 0) (.slice none 0 0) wB [] [] [] P.cells) := ⟨B0.out.keep c8 (fun e => e), B1.out.keep c8 (fun e => e), hw8, HI.out.kept c8 (fun _ _ e => e), PG.none _ _, HBW.out.trans (c8.below HBW.out.size (fun _ e => e.elim)), z8⟩; clear hw8 hc8 c8 z8))
  clear B0 B1 HI HBW
  obtain ⟨xm, hxm⟩ : ∃ xm, xm = Value.slice P.ma P.mn P.mc := ⟨_, rfl⟩
  have k3 : wB.cell? ⟨w.heap.size, 3, none⟩ = some xm := by rw [hxm]; exact K0.out.b0.cell 3
  obtain ⟨v1, w1, hr1, x1⟩ := K0.out.addM HF.out
  rw [← hxm] at hr1
  obtain ⟨ym1, ym2, hy⟩ := x1.pg.m.form
  obtain ⟨nm, hn⟩ : ∃ n, n = P.mL.length := ⟨_, rfl⟩
  rw [← hn] at hy
  subst hy
  clear hn
  have HR1 : Hid _ := hr1
  have X1 : Hid _ := x1
  have hc1 : w1.cell? ⟨w.heap.size + 2, 3, none⟩ = some (.slice P.ma P.mn P.mc) := x1.row.cell 3
  have hf1 : w1.frozen? ⟨w.heap.size + 2, 3, none⟩ = false := x1.row.fr 3
  clear hxm
  clear hr1 x1 K0
  go_upto_region 3 with (refine wpList_appG (sl := 45) rfl (.const (.slice none 0 0)) (.tmp 6) rfl (v := .slice none 0 0) (u := xm) (v' := .slice ym1 nm ym2) (w' := w1) rfl rfl HR1.out ?_)
  have Y1 : Hid _ := X1.out.set 3 (.slice ym1 nm ym2)
  obtain ⟨w2, hw2⟩ : ∃ w2 : World, w2 = w1.setCell ⟨w.heap.size + 2, 3, none⟩ (.slice ym1 nm ym2) := ⟨_, rfl⟩
  rw [← hw2] at Y1 ⊢
  clear X1 hc1 hf1 k3 HR1 hw2
  obtain ⟨xv, hxv⟩ : ∃ xv, xv = Value.slice P.va P.vn P.vc := ⟨_, rfl⟩
  have k4 : w2.cell? ⟨w.heap.size, 4, none⟩ = some xv := by rw [hxv]; exact Y1.out.b0.cell 4
  obtain ⟨v2, w3, hr1, x1⟩ := Y1.out.addV HF.out
  rw [← hxv] at hr1
  obtain ⟨yv1, yv2, hy⟩ := x1.pg.v.form
  obtain ⟨nv, hn⟩ : ∃ n, n = P.vL.length := ⟨_, rfl⟩
  rw [← hn] at hy
  subst hy
  clear hn
  have HR1 : Hid _ := hr1
  have X1 : Hid _ := x1
  have hc1 : w3.cell? ⟨w.heap.size + 2, 4, none⟩ = some (.slice P.va P.vn P.vc) := x1.row.cell 4
  have hf1 : w3.frozen? ⟨w.heap.size + 2, 4, none⟩ = false := x1.row.fr 4
  clear hxv
  clear hr1 x1 Y1
  go_upto_region 4 with (refine wpList_appG (sl := 46) rfl (.const (.slice none 0 0)) (.tmp 10) rfl (v := .slice none 0 0) (u := xv) (v' := .slice yv1 nv yv2) (w' := w3) rfl rfl HR1.out ?_)
  have Y1 : Hid _ := X1.out.set 4 (.slice yv1 nv yv2)
  obtain ⟨w4, hw2⟩ : ∃ w4 : World, w4 = w3.setCell ⟨w.heap.size + 2, 4, none⟩ (.slice yv1 nv yv2) := ⟨_, rfl⟩
  rw [← hw2] at Y1 ⊢
  clear X1 hc1 hf1 k4 HR1 hw2
  obtain ⟨xp, hxp⟩ : ∃ xp, xp = Value.slice P.pa P.pn P.pc := ⟨_, rfl⟩
  have k5 : w4.cell? ⟨w.heap.size, 6, none⟩ = some xp := by rw [hxp]; exact Y1.out.b0.cell 6
  obtain ⟨v3, w5, hr1, x1⟩ := Y1.out.addP HF.out
  rw [← hxp] at hr1
  obtain ⟨yp1, yp2, hy⟩ := x1.pg.p.form
  obtain ⟨np, hn⟩ : ∃ n, n = P.pL.length := ⟨_, rfl⟩
  rw [← hn] at hy
  subst hy
  clear hn
  have HR1 : Hid _ := hr1
  have X1 : Hid _ := x1
  have hc1 : w5.cell? ⟨w.heap.size + 2, 6, none⟩ = some (.slice P.pa P.pn P.pc) := x1.row.cell 6
  have hf1 : w5.frozen? ⟨w.heap.size + 2, 6, none⟩ = false := x1.row.fr 6
  clear hxp
  clear hr1 x1 Y1
  go_upto_region 5 with (refine wpList_appG (sl := 47) rfl (.const (.slice none 0 0)) (.tmp 15) rfl (v := .slice none 0 0) (u := xp) (v' := .slice yp1 np yp2) (w' := w5) rfl rfl HR1.out ?_)
  have Y1 : Hid _ := X1.out.set 6 (.slice yp1 np yp2)
  obtain ⟨w6, hw2⟩ : ∃ w6 : World, w6 = w5.setCell ⟨w.heap.size + 2, 6, none⟩ (.slice yp1 np yp2) := ⟨_, rfl⟩
  rw [← hw2] at Y1 ⊢
  clear X1 hc1 hf1 k5 HR1 hw2
  obtain ⟨A1, c1, e1, r1⟩ := GL.rowsK Y1.out.pg.m (fun g hg => Y1.out.pg.nb g (.inl hg))
  obtain ⟨A2, c2, e2, r2⟩ := GL.rowsK Y1.out.pg.v (fun g hg => Y1.out.pg.nb g (.inr (.inl hg)))
  obtain ⟨A3, c3, e3, r3⟩ := GL.rowsK Y1.out.pg.p (fun g hg => Y1.out.pg.nb g (.inr (.inr hg)))
  obtain ⟨C, hC⟩ : ∃ C, C = (P.at A1 A2 A3 c1 c2 c3).cells := ⟨_, rfl⟩
  have ED : Hid (Blk w6 (w.heap.size + 2) C 51) := by
    have h9 := Y1.out.row
    rw [hC, Pg.cells, Pg.at]
    rw [e1, e2, e3] at h9
    exact h9
  have HN : Hid (PgIn w6 (fun g => w.heap.size + 3 ≤ g ∧ g < w6.heap.size) (P.at A1 A2 A3 c1 c2 c3)) := NM.out.in_ r1 r2 r3
  have HCC : Hid _ := hC
  have LC : C.length = pgZ.length := by rw [hC]; rfl
  have ON : Hid (∀ u ∈ C, u.oneCell' = true) := by rw [hC]; exact Pg.oneK _
  clear e1 e2 e3 r1 r2 r3 hC
  go_wp2_with (first | (refine wpList_load_part rfl 51 (.tmp 3) rfl (w.heap.size + 2) 0 C rfl ED.out (by simp) Try.underlying51 rfl (Try.pgZsz C LC) ?_) | (refine wpList_store_part rfl 51 (.tmp 2) (.tmp 19) rfl (w.heap.size + 1) 0 C rfl rfl Y1.out.res (by rw [LC, Nat.zero_add]; exact Nat.le_refl _) (Try.pgZsz C LC) ON.out ?_; intro w7 b7 c7; rw [splice_all _ _ LC] at b7; have B7 : Hid _ := b7; have C7 : Hid _ := c7; clear b7 c7))
  have F7 : Hid (Below w.heap.size w w7) := Y1.out.be.trans (C7.out.below (Nat.le_trans (by omega) Y1.out.sz) (fun k e => by omega))
  have F8 : Hid (PgIn w7 (fun g => g < w7.heap.size) (P.at A1 A2 A3 c1 c2 c3)) := (HN.out.kept C7.out (fun g hg e => by omega)).mono (fun g hg => by have := C7.out.size; omega)
  exact bodyPost_ret (results_row1 rfl _ _ (w.heap.size + 1) 51 C _ _ rfl B7.out.eq Try.underlying51 rfl (Try.pgZsz C LC)) rfl ⟨A1, A2, A3, c1, c2, c3, by rw [HCC.out], F7.out, F8.out⟩
end Go.Proofs.Ytfkjgfelgiogeaa
