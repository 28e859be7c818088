/-
  asked: Stats, Sizes; all of asked.
-/
import Derived.Test.YtddnecfnjnipjaaPlD
import Derived.Stop.BytesEq
namespace Go.Proofs.Ytddnecfnjnipjaa
open Go.RowKit

theorem Try.struct106 : Try.prog.underlying 106 = some (.struct (Try.prog.fieldsOf 106)) := by kernel_rfl
theorem Try.fields106 : (Try.prog.fieldsOf 106).toList.map (fun f => (f.name, f.type, f.offset)) = [("Reads", 50, 0), ("Writes", 50, 1), ("Flushes", 50, 2)] := by kernel_rfl
theorem eqF_cons (d : Nat) (xs : Array Value) (f : Field) (fs : List Field) (w : World) (a : Value) (hn : f.name ≠ "_") (hp : (part f.type xs f.offset).run Try.prog w = .ok a w) (hq : (Op.equalIn d f.type a a).run Try.prog w = .ok true w) :
    (Op.eqFields d xs xs (f :: fs)).run Try.prog w = (Op.eqFields d xs xs fs).run Try.prog w := by
  simp only [Op.eqFields, if_pos hn, Sem.run_bind, hp, Result.andThen_ok, hq, Bool.not_true, Bool.false_eq_true, if_false]
theorem eqF_nil (d : Nat) (xs : Array Value) (w : World) : (Op.eqFields d xs xs []).run Try.prog w = .ok true w := by simp only [Op.eqFields, Sem.run_pure]
theorem eq106 (d : Nat) (x y v : Int) (w : World) : (Op.equalIn (d + 3) 106 (.agg #[.int .u64 x, .int .u64 y, .int .u64 v]) (.agg #[.int .u64 x, .int .u64 y, .int .u64 v])).run Try.prog w = .ok true w := by
  rw [run_equalIn_struct w (d + 2) 106 _ _ Try.struct106 (by kernel_rfl)]
  obtain ⟨f1, f2, f3, e⟩ : ∃ f1 f2 f3, (Try.prog.fieldsOf 106).toList = [f1, f2, f3] := by
    have := congrArg List.length Try.fields106
    rw [List.length_map] at this
    match h : (Try.prog.fieldsOf 106).toList, this with
    | [f1, f2, f3], _ => exact ⟨f1, f2, f3, rfl⟩
  have h := Try.fields106
  rw [e] at h
  simp only [List.map_cons, List.map_nil, List.cons.injEq, Prod.mk.injEq, and_true] at h
  obtain ⟨⟨a1, a2, a3⟩, ⟨b1, b2, b3⟩, c1, c2, c3⟩ := h
  rw [e]
  have p1 : (part 50 #[.int .u64 x, .int .u64 y, .int .u64 v] 0).run Try.prog w = .ok (.int .u64 x) w := by
    simp [part, isAgg, run_underlying Try.underlying50]
  have p2 : (part 50 #[.int .u64 x, .int .u64 y, .int .u64 v] 1).run Try.prog w = .ok (.int .u64 y) w := by
    simp [part, isAgg, run_underlying Try.underlying50]
  have p3 : (part 50 #[.int .u64 x, .int .u64 y, .int .u64 v] 2).run Try.prog w = .ok (.int .u64 v) w := by
    simp [part, isAgg, run_underlying Try.underlying50]
  have q : ∀ z, (Op.equalIn (d + 2) 50 (.int .u64 z) (.int .u64 z)).run Try.prog w = .ok true w := fun z => by
    rw [run_equalIn_int w (d + 1) 50 .u64 .u64 _ _ Try.underlying50]
    simp
  rw [eqF_cons (d + 2) _ f1 _ w _ (by rw [a1]; simp) (by rw [a2, a3]; exact p1) (by rw [a2]; exact q x), eqF_cons (d + 2) _ f2 _ w _ (by rw [b1]; simp) (by rw [b2, b3]; exact p2) (by rw [b2]; exact q y), eqF_cons (d + 2) _ f3 _ w _ (by rw [c1]; simp) (by rw [c2, c3]; exact p3) (by rw [c2]; exact q v)]
  exact eqF_nil _ _ w
theorem eql106 (x y v : Int) (w : World) : (Op.equalIn 10000 106 (.agg #[.int .u64 x, .int .u64 y, .int .u64 v]) (.agg #[.int .u64 x, .int .u64 y, .int .u64 v])).run Try.prog w = .ok true w := eq106 9997 x y v w

set_option maxRecDepth 100000 in
set_option maxHeartbeats 1000000 in
theorem sectors_row {w : World} {p m c S z : Nat} {x : Nums} (h : Rw w p (dkG S z m c x) 86) :
    Calls Try.prog 55 #[.pointer (some ⟨p, 0, none⟩)] w fun e w' => e = .returned (.int .i64 S) ∧ w = w' := by
  have h0 : w.cell? ⟨p, 0, none⟩ = some (.int .i64 S) := h.cell 0
  clear h
  go_enter Try.func55, Try.ntmps55
  go_wp2_with fail
  go_ret
  exact ⟨rfl, rfl⟩
set_option maxRecDepth 100000 in
set_option maxHeartbeats 1000000 in
theorem size_row {w : World} {p m c S z : Nat} {x : Nums} (h : Rw w p (dkG S z m c x) 86) :
    Calls Try.prog 56 #[.pointer (some ⟨p, 0, none⟩)] w fun e w' => e = .returned (.int .i64 z) ∧ w = w' := by
  have h0 : w.cell? ⟨p, 1, none⟩ = some (.int .i64 z) := h.cell 1
  clear h
  go_enter Try.func56, Try.ntmps56
  go_wp2_with fail
  go_ret
  exact ⟨rfl, rfl⟩
/-- The row of a disk. -/
theorem AB.drow {w : World} {Bl : Nat → Prop} {p S z b : Nat} {x : Nums} {A : Nat → List (Nat × List Int)} {F : Nat → Option (List Int)} (h : AB w Bl p S z b x A F) : ∃ m c, Rw w p (dkG S z m c x) 86 ∧ ∀ w', Rw w' p (dkG S z m c x) 86 → Chg (fun i => i = p) w w' → AB w' Bl p S z b x A F := by
  obtain ⟨m, c, kc, km, L, V, D, K, E, C, hd, q⟩ := h.ex
  exact ⟨m, c, hd.dd.row, fun w' hr ch => ⟨⟨m, c, kc, km, L, V, D, K, E, C, hd.turn ch hr rfl (Nat.le_refl b), q⟩, h.bp, fun g hg => Nat.lt_of_lt_of_le (h.low g hg) ch.size, h.nb⟩⟩
/-- The row of a reference's disk. -/
theorem RB.rrow {w : World} {Bl : Nat → Prop} {q S z b : Nat} {r : Rs} (h : RB w Bl q S z b r) : ∃ dv cv, Rw w q (rrow S z dv cv r.y) 52 := by
  obtain ⟨dl, cl, dv, cv, C, hd, _⟩ := h.ex
  exact ⟨dv, cv, hd.row⟩

set_option maxRecDepth 100000 in
set_option maxHeartbeats 4000000 in
theorem TS.askedSizes {w : World} {BD BR BL : Nat → Prop} {p q lg S z b : Nat} {s : St} {r : Rs} (h : TS w BD BR BL p q lg S z b b b s r) (re : Re z s r) (hb : Bd S z b) (a : Ac) (ha : a.kd = 12) :
    Calls Try.prog 16 #[.pointer (some ⟨p, 0, none⟩), .pointer (some ⟨q, 0, none⟩), .agg a.cells.toArray, .pointer (some ⟨lg, 0, none⟩)] w fun e w' => e = .returned (.bool true) ∧ PT w w' BD BR BL p q lg S z b := by
  obtain ⟨W, hW⟩ : ∃ W, W = w.alloc (.cells a.cells.toArray 44) := ⟨_, rfl⟩
  have c0 : Chg (fun _ => False) w W := by rw [hW]; exact (Chg.refl _ _).alloc _
  have r0 : Rw W w.heap.size a.cells.toArray 44 := by rw [hW]; exact ⟨heap_alloc_new _ _⟩
  have h0 := h.fresh c0
  have hlow := h.low
  have nB : ¬ B3 BD BR BL w.heap.size := fun e => by have := hlow _ e; omega
  have k1 : W.cell? ⟨w.heap.size, 1, none⟩ = some (.int .i64 12) := by rw [← ha]; exact r0.cell 1
  have H0 : Hid _ := h0
  have HB : Hid _ := hb
  have RE : Hid _ := re
  have C0 : Hid _ := c0
  have R0 : Hid _ := r0
  have NB : Hid _ := nB
  have HLOW : Hid _ := hlow
  clear h re hb c0 r0 h0 hlow nB
  go_enter Try.func16, Try.ntmps16
  go_upto_region 1 with fail
  rw [← hW]
  clear hW
  obtain ⟨m, c, dr, _⟩ := H0.out.d.drow
  obtain ⟨dv, cv, rr⟩ := H0.out.r.rrow
  have rrd : Rw W.drew q (rrow S z dv cv r.y) 52 := ⟨rr.eq⟩
  have DR : Hid (Rw W.drew p (dkG S z m c s.x) 86) := ⟨dr.eq⟩
  have FIN : Hid (PT w W.drew BD BR BL p q lg S z b) := ⟨(C0.out.drew).mono (fun _ _ h => h.elim), BD, BR, BL, s, r, fun g hg => .inl (.inl hg), fun g hg => .inl (.inr (.inl hg)), fun g hg => .inl (.inr (.inr hg)), (H0.out.fresh ((Chg.refl (fun _ => False) W).drew)).mono (Nat.le_succ _) (Nat.le_succ _) (Nat.le_succ _), RE.out⟩
  clear dr
  go_upto_region 25 with fail
  clear k1
  refine wp_region_held_drew (S := fun w' => Rw w' q (rrow S z dv cv r.y) 52) (by kernel_rfl) rrd (fun hH => ?_)
  refine wpAnyH_take (i := 0) (v := .pointer (some ⟨p, 0, none⟩)) rfl (by kernel_rfl) (by kernel_rfl) (by kernel_rfl) (fun _ _ _ h => h) (Or.inl ⟨by rfl, fun w' _ => by go_simp⟩) hH ?_
  refine wpAnyH_take (i := 2) (v := .pointer (some ⟨q, 0, none⟩)) rfl (by kernel_rfl) (by kernel_rfl) (by kernel_rfl) (fun _ _ _ h => h) (Or.inl ⟨by rfl, fun w' _ => by go_simp⟩) hH ?_
  refine wpAnyH_take (i := 3) (v := .pointer (some ⟨q, 0, none⟩)) rfl (by kernel_rfl) (by kernel_rfl) (by kernel_rfl) (fun _ _ _ h => h) (Or.inl ⟨by rfl, fun w' _ => by go_simp⟩) hH ?_
  refine wpAnyH_take (i := 4) (v := .pointer (some ⟨q, 0, none⟩)) rfl (by kernel_rfl) (by kernel_rfl) (by kernel_rfl) (fun _ _ _ h => h) (Or.inl ⟨by rfl, fun w' _ => by go_simp⟩) hH ?_
  refine wpAnyH_take (i := 5) (v := .int .i64 S) rfl (by kernel_rfl) (by kernel_rfl) (by kernel_rfl) (fun _ _ _ h => h) (Or.inl ⟨by rfl, fun w' hw' => by have q1 : w'.cell? ⟨q, 0, none⟩ = some (.int .i64 S) := Rw.cell hw' 0; go_simp⟩) hH ?_
  refine wpAnyH_ready (rs := [1]) (by kernel_rfl) (by simp) ?_
  refine AllReadyH.cons rfl (fun K hK => ?_) AllReadyH.nil
  go_simp
  refine Calls.mono (sectors_row DR.out) ?_
  rintro e w1 ⟨rfl, hw⟩
  subst hw
  refine hK.out _ _ rrd (fun hH => ?_)
  clear hK K
  refine wpAnyH_take (i := 6) (v := .bool true) rfl (by kernel_rfl) (by kernel_rfl) (by kernel_rfl) (fun _ _ _ h => h) (Or.inl ⟨by rfl, fun w' _ => by go_simp⟩) hH ?_
  refine wpAnyH_take (i := 7) (v := .bool true) rfl (by kernel_rfl) (by kernel_rfl) (by kernel_rfl) (fun _ _ _ h => h) (Or.inl ⟨by rfl, fun w' _ => by go_simp⟩) hH ?_
  refine wpAnyH_take (i := 8) (v := .pointer (some ⟨p, 0, none⟩)) rfl (by kernel_rfl) (by kernel_rfl) (by kernel_rfl) (fun _ _ _ h => h) (Or.inl ⟨by rfl, fun w' _ => by go_simp⟩) hH ?_
  refine wpAnyH_take (i := 10) (v := .pointer (some ⟨q, 0, none⟩)) rfl (by kernel_rfl) (by kernel_rfl) (by kernel_rfl) (fun _ _ _ h => h) (Or.inl ⟨by rfl, fun w' _ => by go_simp⟩) hH ?_
  refine wpAnyH_take (i := 11) (v := .pointer (some ⟨q, 0, none⟩)) rfl (by kernel_rfl) (by kernel_rfl) (by kernel_rfl) (fun _ _ _ h => h) (Or.inl ⟨by rfl, fun w' _ => by go_simp⟩) hH ?_
  refine wpAnyH_take (i := 12) (v := .pointer (some ⟨q, 1, none⟩)) rfl (by kernel_rfl) (by kernel_rfl) (by kernel_rfl) (fun _ _ _ h => h) (Or.inl ⟨by rfl, fun w' _ => by go_simp⟩) hH ?_
  refine wpAnyH_take (i := 13) (v := .int .i64 z) rfl (by kernel_rfl) (by kernel_rfl) (by kernel_rfl) (fun _ _ _ h => h) (Or.inl ⟨by rfl, fun w' hw' => by have q1 : w'.cell? ⟨q, 1, none⟩ = some (.int .i64 z) := Rw.cell hw' 1; go_simp⟩) hH ?_
  refine wpAnyH_ready (rs := [9]) (by kernel_rfl) (by simp) ?_
  refine AllReadyH.cons rfl (fun K hK => ?_) AllReadyH.nil
  go_simp
  refine Calls.mono (size_row DR.out) ?_
  rintro e w1 ⟨rfl, hw⟩
  subst hw
  refine hK.out _ _ rrd (fun hH => ?_)
  clear hK K
  refine wpAnyH_take (i := 14) (v := .bool true) rfl (by kernel_rfl) (by kernel_rfl) (by kernel_rfl) (fun _ _ _ h => h) (Or.inl ⟨by rfl, fun w' _ => by go_simp⟩) hH ?_
  refine wpAnyH_take (i := 15) (v := .bool true) rfl (by kernel_rfl) (by kernel_rfl) (by kernel_rfl) (fun _ _ _ h => h) (Or.inl ⟨by rfl, fun w' _ => by go_simp⟩) hH ?_
  refine wpAnyH_take (i := 16) (v := .bool true) rfl (by kernel_rfl) (by kernel_rfl) (by kernel_rfl) (fun _ _ _ h => h) (Or.inl ⟨by rfl, fun w' _ => by go_simp⟩) hH ?_
  refine wpAnyH_done (by kernel_rfl) ?_ _
  clear hH
  go_wp2_with fail
  go_ret
  exact ⟨rfl, FIN.out⟩

set_option maxRecDepth 100000 in
set_option maxHeartbeats 4000000 in
theorem TS.askedStats {w : World} {BD BR BL : Nat → Prop} {p q lg S z b : Nat} {s : St} {r : Rs} (h : TS w BD BR BL p q lg S z b b b s r) (re : Re z s r) (hb : Bd S z b) (a : Ac) (ha : a.kd = 10) :
    Calls Try.prog 16 #[.pointer (some ⟨p, 0, none⟩), .pointer (some ⟨q, 0, none⟩), .agg a.cells.toArray, .pointer (some ⟨lg, 0, none⟩)] w fun e w' => e = .returned (.bool true) ∧ PT w w' BD BR BL p q lg S z b := by
  obtain ⟨W, hW⟩ : ∃ W, W = w.alloc (.cells a.cells.toArray 44) := ⟨_, rfl⟩
  have c0 : Chg (fun _ => False) w W := by rw [hW]; exact (Chg.refl _ _).alloc _
  have r0 : Rw W w.heap.size a.cells.toArray 44 := by rw [hW]; exact ⟨heap_alloc_new _ _⟩
  have h0 := h.fresh c0
  have hlow := h.low
  have nB : ¬ B3 BD BR BL w.heap.size := fun e => by have := hlow _ e; omega
  have k1 : W.cell? ⟨w.heap.size, 1, none⟩ = some (.int .i64 10) := by rw [← ha]; exact r0.cell 1
  have H0 : Hid _ := h0
  have HB : Hid _ := hb
  have RE : Hid _ := re
  have C0 : Hid _ := c0
  have R0 : Hid _ := r0
  have NB : Hid _ := nB
  have HLOW : Hid _ := hlow
  clear h re hb c0 r0 h0 hlow nB
  go_enter Try.func16, Try.ntmps16
  go_upto_region 1 with fail
  rw [← hW]
  clear hW
  have h0 := H0.out.fresh ((Chg.refl (fun _ => False) W).drew)
  obtain ⟨m, c, dr, tu⟩ := h0.d.drow
  obtain ⟨dv, cv, rr⟩ := h0.r.rrow
  have bp := h0.d.bp
  have H0D : Hid _ := h0
  have DR : Hid _ := dr
  have TU : Hid _ := tu
  have BP : Hid _ := bp
  clear h0 dr tu bp
  go_upto_region 23 with fail
  clear k1
  refine wp_region_held_drew (S := fun w' => Rw w' q (rrow S z dv cv r.y) 52) (by kernel_rfl) rr (fun hH => ?_)
  refine wpAnyH_take (i := 0) (v := .pointer (some ⟨p, 0, none⟩)) rfl (by kernel_rfl) (by kernel_rfl) (by kernel_rfl) (fun _ _ _ h => h) (Or.inl ⟨by rfl, fun w' _ => by go_simp⟩) hH ?_
  refine wpAnyH_take (i := 2) (v := .pointer (some ⟨q, 0, none⟩)) rfl (by kernel_rfl) (by kernel_rfl) (by kernel_rfl) (fun _ _ _ h => h) (Or.inl ⟨by rfl, fun w' _ => by go_simp⟩) hH ?_
  refine wpAnyH_take (i := 3) (v := .pointer (some ⟨q, 0, none⟩)) rfl (by kernel_rfl) (by kernel_rfl) (by kernel_rfl) (fun _ _ _ h => h) (Or.inl ⟨by rfl, fun w' _ => by go_simp⟩) hH ?_
  refine wpAnyH_take (i := 4) (v := .pointer (some ⟨q, 8, none⟩)) rfl (by kernel_rfl) (by kernel_rfl) (by kernel_rfl) (fun _ _ _ h => h) (Or.inl ⟨by rfl, fun w' _ => by go_simp⟩) hH ?_
  refine wpAnyH_take (i := 5) (v := .int .u64 r.y.rd) rfl (by kernel_rfl) (by kernel_rfl) (by kernel_rfl) (fun _ _ _ h => h) (Or.inl ⟨by rfl, fun w' hw' => by have q1 : w'.cell? ⟨q, 8, none⟩ = some (.int .u64 r.y.rd) := Rw.cell hw' 8; go_simp⟩) hH ?_
  refine wpAnyH_take (i := 6) (v := .pointer (some ⟨q, 0, none⟩)) rfl (by kernel_rfl) (by kernel_rfl) (by kernel_rfl) (fun _ _ _ h => h) (Or.inl ⟨by rfl, fun w' _ => by go_simp⟩) hH ?_
  refine wpAnyH_take (i := 7) (v := .pointer (some ⟨q, 0, none⟩)) rfl (by kernel_rfl) (by kernel_rfl) (by kernel_rfl) (fun _ _ _ h => h) (Or.inl ⟨by rfl, fun w' _ => by go_simp⟩) hH ?_
  refine wpAnyH_take (i := 8) (v := .pointer (some ⟨q, 9, none⟩)) rfl (by kernel_rfl) (by kernel_rfl) (by kernel_rfl) (fun _ _ _ h => h) (Or.inl ⟨by rfl, fun w' _ => by go_simp⟩) hH ?_
  refine wpAnyH_take (i := 9) (v := .int .u64 r.y.wr) rfl (by kernel_rfl) (by kernel_rfl) (by kernel_rfl) (fun _ _ _ h => h) (Or.inl ⟨by rfl, fun w' hw' => by have q1 : w'.cell? ⟨q, 9, none⟩ = some (.int .u64 r.y.wr) := Rw.cell hw' 9; go_simp⟩) hH ?_
  refine wpAnyH_take (i := 10) (v := .pointer (some ⟨q, 0, none⟩)) rfl (by kernel_rfl) (by kernel_rfl) (by kernel_rfl) (fun _ _ _ h => h) (Or.inl ⟨by rfl, fun w' _ => by go_simp⟩) hH ?_
  refine wpAnyH_take (i := 11) (v := .pointer (some ⟨q, 0, none⟩)) rfl (by kernel_rfl) (by kernel_rfl) (by kernel_rfl) (fun _ _ _ h => h) (Or.inl ⟨by rfl, fun w' _ => by go_simp⟩) hH ?_
  refine wpAnyH_take (i := 12) (v := .pointer (some ⟨q, 10, none⟩)) rfl (by kernel_rfl) (by kernel_rfl) (by kernel_rfl) (fun _ _ _ h => h) (Or.inl ⟨by rfl, fun w' _ => by go_simp⟩) hH ?_
  refine wpAnyH_take (i := 13) (v := .int .u64 r.y.fl) rfl (by kernel_rfl) (by kernel_rfl) (by kernel_rfl) (fun _ _ _ h => h) (Or.inl ⟨by rfl, fun w' hw' => by have q1 : w'.cell? ⟨q, 10, none⟩ = some (.int .u64 r.y.fl) := Rw.cell hw' 10; go_simp⟩) hH ?_
  refine wpAnyH_take (i := 14) (v := .agg #[.int .u64 r.y.rd, .int .u64 r.y.wr, .int .u64 r.y.fl]) rfl (by kernel_rfl) (by kernel_rfl) (by kernel_rfl) (fun _ _ _ h => h) (Or.inl ⟨by rfl, fun w' _ => by go_simp⟩) hH ?_
  refine wpAnyH_ready (rs := [1]) (by kernel_rfl) (by simp) ?_
  refine AllReadyH.cons rfl (fun K hK => ?_) AllReadyH.nil
  go_simp
  refine Calls.mono (stats_row DR.out) ?_
  rintro e w1 ⟨rfl, r1, ch⟩
  rw [RE.out.n.rd, RE.out.n.wr, RE.out.n.fl]
  have h1 := H0D.out.row ch (TU.out w1 r1 ch)
  obtain ⟨m1, c1, dr1, tu1⟩ := h1.d.drow
  have rr1 : Rw w1 q (rrow S z dv cv r.y) 52 := ⟨ch.heap_some rr.eq (fun e => h1.dr p BP.out (by rw [← e]; exact h1.r.bq))⟩
  have C1 : Hid (Chg BD W w1) := ⟨ch.os, ch.tape, ch.output, ch.size, fun k hk hn => ch.block k hk (fun e => hn (by rw [e]; exact BP.out))⟩
  have H1 : Hid _ := h1
  have DR1 : Hid _ := dr1
  have TU1 : Hid _ := tu1
  refine hK.out _ _ rr1 (fun hH => ?_)
  clear hK K ch r1 h1 dr1 tu1
  refine wpAnyH_take (i := 15) (v := .bool true) rfl (by kernel_rfl) (by kernel_rfl) (by kernel_rfl) (fun _ _ _ h => h) (Or.inl ⟨by rfl, fun w' _ => by have q1 := eql106 r.y.rd r.y.wr r.y.fl w'; go_simp⟩) hH ?_
  refine wpAnyH_take (i := 16) (v := .bool true) rfl (by kernel_rfl) (by kernel_rfl) (by kernel_rfl) (fun _ _ _ h => h) (Or.inl ⟨by rfl, fun w' _ => by go_simp⟩) hH ?_
  refine wpAnyH_take (i := 17) (v := .pointer (some ⟨p, 0, none⟩)) rfl (by kernel_rfl) (by kernel_rfl) (by kernel_rfl) (fun _ _ _ h => h) (Or.inl ⟨by rfl, fun w' _ => by go_simp⟩) hH ?_
  refine wpAnyH_take (i := 19) (v := .pointer (some ⟨q, 0, none⟩)) rfl (by kernel_rfl) (by kernel_rfl) (by kernel_rfl) (fun _ _ _ h => h) (Or.inl ⟨by rfl, fun w' _ => by go_simp⟩) hH ?_
  refine wpAnyH_take (i := 20) (v := .pointer (some ⟨q, 0, none⟩)) rfl (by kernel_rfl) (by kernel_rfl) (by kernel_rfl) (fun _ _ _ h => h) (Or.inl ⟨by rfl, fun w' _ => by go_simp⟩) hH ?_
  refine wpAnyH_take (i := 21) (v := .pointer (some ⟨q, 11, none⟩)) rfl (by kernel_rfl) (by kernel_rfl) (by kernel_rfl) (fun _ _ _ h => h) (Or.inl ⟨by rfl, fun w' _ => by go_simp⟩) hH ?_
  refine wpAnyH_take (i := 22) (v := .int .i64 r.y.era) rfl (by kernel_rfl) (by kernel_rfl) (by kernel_rfl) (fun _ _ _ h => h) (Or.inl ⟨by rfl, fun w' hw' => by have q1 : w'.cell? ⟨q, 11, none⟩ = some (.int .i64 r.y.era) := Rw.cell hw' 11; go_simp⟩) hH ?_
  refine wpAnyH_ready (rs := [18]) (by kernel_rfl) (by simp) ?_
  refine AllReadyH.cons rfl (fun K hK => ?_) AllReadyH.nil
  go_simp
  refine Calls.mono (era_row DR1.out) ?_
  rintro e w2 ⟨rfl, r2, ch⟩
  rw [RE.out.n.era]
  have h2 := H1.out.row ch (TU1.out w2 r2 ch)
  have rr2 : Rw w2 q (rrow S z dv cv r.y) 52 := ⟨ch.heap_some rr1.eq (fun e => h2.dr p BP.out (by rw [← e]; exact h2.r.bq))⟩
  have FIN : Hid (PT w w2 BD BR BL p q lg S z b) := ⟨((C0.out.mono (fun _ _ h => h.elim)).trans C1.out (fun g e => .inl (.inl e))).trans ch (fun g e => .inl (.inl (by rw [e]; exact BP.out))), BD, BR, BL, s, r, fun g hg => .inl (.inl hg), fun g hg => .inl (.inr (.inl hg)), fun g hg => .inl (.inr (.inr hg)), h2.mono (Nat.le_succ _) (Nat.le_succ _) (Nat.le_succ _), RE.out⟩
  refine hK.out _ _ rr2 (fun hH => ?_)
  clear hK K ch r2 h2
  refine wpAnyH_take (i := 23) (v := .bool true) rfl (by kernel_rfl) (by kernel_rfl) (by kernel_rfl) (fun _ _ _ h => h) (Or.inl ⟨by rfl, fun w' _ => by go_simp⟩) hH ?_
  refine wpAnyH_take (i := 24) (v := .bool true) rfl (by kernel_rfl) (by kernel_rfl) (by kernel_rfl) (fun _ _ _ h => h) (Or.inl ⟨by rfl, fun w' _ => by go_simp⟩) hH ?_
  refine wpAnyH_take (i := 25) (v := .bool true) rfl (by kernel_rfl) (by kernel_rfl) (by kernel_rfl) (fun _ _ _ h => h) (Or.inl ⟨by rfl, fun w' _ => by go_simp⟩) hH ?_
  refine wpAnyH_done (by kernel_rfl) ?_ _
  clear hH
  go_wp2_with fail
  go_ret
  exact ⟨rfl, FIN.out⟩

/-- asked, whatever the act is. -/
theorem TS.asked {w : World} {BD BR BL : Nat → Prop} {p q lg S z b : Nat} {s : St} {r : Rs} (h : TS w BD BR BL p q lg S z b b b s r) (re : Re z s r) (hb : Bd S z b) (a : Ac) :
    Calls Try.prog 16 #[.pointer (some ⟨p, 0, none⟩), .pointer (some ⟨q, 0, none⟩), .agg a.cells.toArray, .pointer (some ⟨lg, 0, none⟩)] w fun e w' => e = .returned (.bool true) ∧ PT w w' BD BR BL p q lg S z b := by
  by_cases n1 : a.kd = 1
  · exact h.askedRead re hb a n1
  by_cases n7 : a.kd = 7
  · exact h.askedPending re hb a n7
  by_cases n8 : a.kd = 8
  · exact h.askedImage re hb a n8
  by_cases n9 : a.kd = 9
  · exact h.askedRot re hb a n9
  by_cases n10 : a.kd = 10
  · exact h.askedStats re hb a n10
  by_cases n12 : a.kd = 12
  · exact h.askedSizes re hb a n12
  exact h.askedElse re hb a n1 n7 n8 n9 n10 n12
end Go.Proofs.Ytddnecfnjnipjaa
