import Derived.Test.YtddnecfnjnipjaaPend2
import Derived.Test.YtddnecfnjnipjaaRfD
/-
  Stats and Era; lists of numbers compared.
-/
namespace Go.Proofs.Ytddnecfnjnipjaa
open Go.RowKit Go.RwLone

theorem results_cell {fn : Func} {p : Tmp} {ty : TypeId} (h : fn.results = #[.cell p ty]) (tmps : Array Value) (w : World) (g : Nat) (t : TypeId) (cs : List Value) (d : TypeDesc)
    (hp : tmps.getD p undef = .pointer (some ⟨g, 0, none⟩)) (hg : Rw w g cs.toArray t)
    (hu : Try.prog.underlying ty = some d) (hd : d.isRow = true) (hi : (Try.prog.info? ty).map (·.size) = some cs.length) :
    (results fn tmps).run Try.prog w = .ok (.agg cs.toArray) w := by
  have hl := run_loadVar_mid (P := Try.prog) w g 0 ty cs d (fun j v hj => by rw [Nat.zero_add, Rw.cell hg j, List.getElem?_toArray]; exact hj) hu hd hi
  have hp' : tmps[p]?.getD undef = .pointer (some ⟨g, 0, none⟩) := by simpa using hp
  simp [results, h, hp', asAddr, hl]

set_option maxRecDepth 100000 in
set_option maxHeartbeats 2000000 in
theorem era_row {w : World} {p m c S z : Nat} {x : Nums} (h : Rw w p (dkG S z m c x) 86) :
    Calls Try.prog 54 #[.pointer (some ⟨p, 0, none⟩)] w fun e w' => e = .returned (.int .i64 x.era) ∧ Rw w' p (dkG S z m c x) 86 ∧ Chg (fun k => k = p) w w' := by
  have c2 : w.cell? ⟨p, 2, none⟩ = some (.int .i32 0) := h.cell 2
  have c5 : w.cell? ⟨p, 5, none⟩ = some (.int .u32 0) := h.cell 5
  have c6 : w.cell? ⟨p, 6, none⟩ = some (.int .i32 0) := h.cell 6
  have f6 := h.fr 6
  have H : Hid _ := h
  clear h
  go_enter_defers Try.func54, Try.ntmps54
  go_wp2_with fail
  refine (rlock_open Try.rwRLib p 2 0 _ _ _ c2 c5 c6 f6 (by rw [wr1]; decide)).mono ?_
  rintro e w' ⟨rfl, rfl⟩
  rw [wr1]
  have R1 := Rw.set H.out 6 (.int .i32 1)
  obtain ⟨w1, hw1⟩ : ∃ w1, w1 = w.setCell ⟨p, 6, none⟩ (.int .i32 1) := ⟨_, rfl⟩
  rw [← hw1] at R1
  have e1 : w.setCell ⟨p, 2 + 4, none⟩ (.int .i32 1) = w1 := hw1.symm
  rw [e1]
  have C1 : Hid (Chg (fun k => k = p) w w1) := by rw [hw1]; exact (Chg.refl (fun k => k = p) w).setCell (.inl rfl) _
  have d13 : w1.cell? ⟨p, 13, none⟩ = some (.int .i64 x.era) := Rw.cell R1 13
  have K1 : Hid _ := R1
  clear c2 c5 c6 f6 R1 hw1 e1
  go_wp2_with fail
  refine leaves_cons (f := 32) (args := #[.pointer (some ⟨p, 2, none⟩)]) (by simp) (by simp [go_sem]) ?_
  refine (runlock_deferred Try.rwRLib p 2 1 _ _ .returning _ (Rw.cell K1.out 2) (Rw.cell K1.out 4) (Rw.cell K1.out 6) (Rw.fr K1.out 6) (by rw [wr0]; decide)).mono ?_
  rintro e u' w'' ⟨rfl, rfl, rfl⟩
  rw [wr0]
  exact ⟨_, results_tmp rfl _ _ _, rfl, Rw.set K1.out 6 (.int .i32 0), C1.out.setCell (.inl rfl) _⟩

/-- Numbers in memory. -/
theorem pcells_get {P : List Nat} {w : World} {g : Nat} (h : Rw w g (pcells P).toArray 3) {k : Nat} (hk : k < P.length) : w.cell? ⟨g, k, none⟩ = some (.int .i64 (P[k] : Nat)) := by
  rw [Rw.cell h k, List.getElem?_toArray]
  unfold pcells
  rw [List.getElem?_map, List.getElem?_eq_getElem hk]
  rfl

set_option maxRecDepth 100000 in
set_option maxHeartbeats 2000000 in
theorem same_ints {w : World} {g g' n : Nat} {P : List Nat} (h : Rw w g (pcells P).toArray 3) (h' : Rw w g' (pcells P).toArray 3) (hn : P.length = n) (hb : n ≤ 4398046511104) :
    Calls Try.prog 48 #[.slice (some ⟨g, 0, none⟩) n n, .slice (some ⟨g', 0, none⟩) n n] w fun e w' => e = .returned (.bool true) ∧ ∃ m, w' = w.drewN m := by
  have H : Hid _ := h
  have H' : Hid _ := h'
  have HN : Hid _ := hn
  clear h h' hn
  go_enter Try.func48, Try.ntmps48
  go_wp2_with fail
  go_loopw [5] (fun x wr => ∃ (k j : Nat), x = .int .i64 k ∧ wr = w.drewN j ∧ k ≤ n) (fun x _ => n - (intOf x).toNat)
  case atStart => exact ⟨0, 0, rfl, rfl, Nat.zero_le _⟩
  case round =>
    obtain ⟨k, j, rfl, rfl, hk⟩ := hrel
    by_cases hlt : k < n
    · have hc1 := pcells_get H.out (k := k) (by have := HN.out; omega)
      have hc2 := pcells_get H'.out (k := k) (by have := HN.out; omega)
      obtain ⟨v, hv⟩ : ∃ v : Nat, v = P[k]'(by have := HN.out; omega) := ⟨_, rfl⟩
      rw [← hv] at hc1 hc2
      have hc1' : ∀ n, (w.drewN n).cell? ⟨g, k, none⟩ = some (.int .i64 v) := fun n => hc1
      have hc2' : ∀ n, (w.drewN n).cell? ⟨g', k, none⟩ = some (.int .i64 v) := fun n => hc2
      clear hc1 hc2 hv
      go_wp2_with fail
      go_quiet (fail)
      go_wp2_with fail
      go_roundw
      case rel => exact ⟨k + 1, _, by go_num, rfl, by omega⟩
      case measure => simp [intOf]; omega
    · go_wp2_with fail
      go_ret
      exact ⟨rfl, _, rfl⟩

set_option maxRecDepth 100000 in
set_option maxHeartbeats 4000000 in
theorem stats_row {w : World} {p m c S z : Nat} {x : Nums} (h : Rw w p (dkG S z m c x) 86) :
    Calls Try.prog 53 #[.pointer (some ⟨p, 0, none⟩)] w fun e w' => e = .returned (.agg #[.int .u64 x.rd, .int .u64 x.wr, .int .u64 x.fl]) ∧ Rw w' p (dkG S z m c x) 86 ∧ Chg (fun k => k = p) w w' := by
  obtain ⟨w0, hw0⟩ : ∃ w0, w.alloc (.cells #[.int .u64 0, .int .u64 0, .int .u64 0] 106) = w0 := ⟨_, rfl⟩
  obtain ⟨T, hT⟩ : ∃ T, w.heap.size = T := ⟨_, rfl⟩
  have r0 : Rw w0 p (dkG S z m c x) 86 := by rw [← hw0]; exact Rw.alloc h _
  have t0 : Rw w0 T #[.int .u64 0, .int .u64 0, .int .u64 0] 106 := by rw [← hw0, ← hT]; exact ⟨heap_alloc_new _ _⟩
  have k0 : Chg (fun _ => False) w w0 := by rw [← hw0]; exact (Chg.refl _ _).alloc _
  have hpT : p < T := by rw [← hT]; exact h.lt
  have c2 : w0.cell? ⟨p, 2, none⟩ = some (.int .i32 0) := r0.cell 2
  have c5 : w0.cell? ⟨p, 5, none⟩ = some (.int .u32 0) := r0.cell 5
  have c6 : w0.cell? ⟨p, 6, none⟩ = some (.int .i32 0) := r0.cell 6
  have f6 := r0.fr 6
  have H : Hid _ := r0
  have T0 : Hid _ := t0
  have K0 : Hid _ := k0
  have HT : Hid _ := hT
  clear h r0 t0 k0
  go_enter_defers Try.func53, Try.ntmps53
  go_upto_region 1 with fail
  clear hw0 hT
  go_wp2_with fail
  refine (rlock_open Try.rwRLib p 2 0 _ _ _ c2 c5 c6 f6 (by rw [wr1]; decide)).mono ?_
  rintro e w' ⟨rfl, rfl⟩
  rw [wr1]
  have R1 := Rw.set H.out 6 (.int .i32 1)
  obtain ⟨w1, hw1⟩ : ∃ w1, w1 = w0.setCell ⟨p, 6, none⟩ (.int .i32 1) := ⟨_, rfl⟩
  rw [← hw1] at R1
  have e1 : w0.setCell ⟨p, 2 + 4, none⟩ (.int .i32 1) = w1 := hw1.symm
  rw [e1]
  have hc1 : Chg (fun k => k = p) w0 w1 := by rw [hw1]; exact (Chg.refl (fun k => k = p) w0).setCell (.inl rfl) _
  have T1 : Hid (Rw w1 T #[.int .u64 0, .int .u64 0, .int .u64 0] 106) := Rw.chg1 T0.out hc1 (by omega)
  have C1 : Hid (Chg (fun k => k = p) w w1) := (K0.out.mono (fun _ _ h => h.elim)).trans hc1 (fun _ e => .inl e)
  have K1 : Hid _ := R1
  clear c2 c5 c6 f6 R1 hw1 e1 hc1
  go_upto_region 3 with fail
  refine wp_region_noPanic ?_
  refine wp_region_held_drew (S := fun _ => True) (by kernel_rfl) trivial (fun hH => ?_)
  refine wpAnyH_take (i := 0) (v := .pointer (some ⟨p, 0, none⟩)) rfl (by kernel_rfl) (by kernel_rfl) (by kernel_rfl) (fun _ _ _ h => h) (Or.inl ⟨by rfl, fun w' hw' => by go_simp⟩) hH ?_
  refine wpAnyH_take (i := 1) (v := .pointer (some ⟨p, 0, none⟩)) rfl (by kernel_rfl) (by kernel_rfl) (by kernel_rfl) (fun _ _ _ h => h) (Or.inl ⟨by rfl, fun w' hw' => by go_simp⟩) hH ?_
  refine wpAnyH_take (i := 2) (v := .pointer (some ⟨p, 14, none⟩)) rfl (by kernel_rfl) (by kernel_rfl) (by kernel_rfl) (fun _ _ _ h => h) (Or.inl ⟨by rfl, fun w' hw' => by go_simp⟩) hH ?_
  refine wpAnyH_take (i := 4) (v := .pointer (some ⟨p, 0, none⟩)) rfl (by kernel_rfl) (by kernel_rfl) (by kernel_rfl) (fun _ _ _ h => h) (Or.inl ⟨by rfl, fun w' hw' => by go_simp⟩) hH ?_
  refine wpAnyH_take (i := 5) (v := .pointer (some ⟨p, 0, none⟩)) rfl (by kernel_rfl) (by kernel_rfl) (by kernel_rfl) (fun _ _ _ h => h) (Or.inl ⟨by rfl, fun w' hw' => by go_simp⟩) hH ?_
  refine wpAnyH_take (i := 6) (v := .pointer (some ⟨p, 15, none⟩)) rfl (by kernel_rfl) (by kernel_rfl) (by kernel_rfl) (fun _ _ _ h => h) (Or.inl ⟨by rfl, fun w' hw' => by go_simp⟩) hH ?_
  refine wpAnyH_take (i := 8) (v := .pointer (some ⟨p, 0, none⟩)) rfl (by kernel_rfl) (by kernel_rfl) (by kernel_rfl) (fun _ _ _ h => h) (Or.inl ⟨by rfl, fun w' hw' => by go_simp⟩) hH ?_
  refine wpAnyH_take (i := 9) (v := .pointer (some ⟨p, 0, none⟩)) rfl (by kernel_rfl) (by kernel_rfl) (by kernel_rfl) (fun _ _ _ h => h) (Or.inl ⟨by rfl, fun w' hw' => by go_simp⟩) hH ?_
  refine wpAnyH_take (i := 10) (v := .pointer (some ⟨p, 16, none⟩)) rfl (by kernel_rfl) (by kernel_rfl) (by kernel_rfl) (fun _ _ _ h => h) (Or.inl ⟨by rfl, fun w' hw' => by go_simp⟩) hH ?_
  refine wpAnyH_ready (rs := [3]) (by kernel_rfl) (by simp) ?_
  refine AllReadyH.cons rfl (fun KK hKK => ?_) AllReadyH.nil
  go_simp
  refine Calls.mono (u64load_any ⟨p, 14, none⟩ x.rd w1.drew (Rw.cell K1.out 14)) ?_
  rintro e w9 ⟨rfl, h9⟩
  subst h9
  refine hKK.out _ _ trivial (fun _ => ?_)
  clear hKK KK
  refine wpAnyH_ready (rs := [7]) (by kernel_rfl) (by simp) ?_
  refine AllReadyH.cons rfl (fun KK hKK => ?_) AllReadyH.nil
  go_simp
  refine Calls.mono (u64load_any ⟨p, 15, none⟩ x.wr w1.drew (Rw.cell K1.out 15)) ?_
  rintro e w9 ⟨rfl, h9⟩
  subst h9
  refine hKK.out _ _ trivial (fun _ => ?_)
  clear hKK KK
  refine wpAnyH_ready (rs := [11]) (by kernel_rfl) (by simp) ?_
  refine AllReadyH.cons rfl (fun KK hKK => ?_) AllReadyH.nil
  go_simp
  refine Calls.mono (u64load_any ⟨p, 16, none⟩ x.fl w1.drew (Rw.cell K1.out 16)) ?_
  rintro e w9 ⟨rfl, h9⟩
  subst h9
  refine hKK.out _ _ trivial (fun _ => ?_)
  clear hKK KK
  have q0 : w1.cell? ⟨T, 0, none⟩ = some (.int .u64 0) := Rw.cell T1.out 0
  have q1 : w1.cell? ⟨T, 1, none⟩ = some (.int .u64 0) := Rw.cell T1.out 1
  have q2 : w1.cell? ⟨T, 2, none⟩ = some (.int .u64 0) := Rw.cell T1.out 2
  have g0 := Rw.fr T1.out 0
  have g1 := Rw.fr T1.out 1
  have g2 := Rw.fr T1.out 2
  obtain ⟨wA, eA⟩ : ∃ wA, ((w1.setCell ⟨T, 0, none⟩ (.int .u64 0)).setCell ⟨T, 1, none⟩ (.int .u64 0)).setCell ⟨T, 2, none⟩ (.int .u64 0) = wA := ⟨_, rfl⟩
  have rA : Rw wA T #[.int .u64 0, .int .u64 0, .int .u64 0] 106 := by rw [← eA]; exact Rw.set (Rw.set (Rw.set T1.out 0 (.int .u64 0)) 1 (.int .u64 0)) 2 (.int .u64 0)
  have cA : Chg (fun k => k = T) w1 wA := by rw [← eA]; exact (((Chg.refl (fun k => k = T) w1).setCell (.inl rfl) _).setCell (.inl rfl) _).setCell (.inl rfl) _
  have a0 : wA.cell? ⟨T, 0, none⟩ = some (.int .u64 0) := Rw.cell rA 0
  have b0 := Rw.fr rA 0
  have rB := Rw.set rA 0 (.int .u64 x.rd)
  obtain ⟨wB, eB⟩ : ∃ wB, wA.setCell ⟨T, 0, none⟩ (.int .u64 x.rd) = wB := ⟨_, rfl⟩
  rw [eB] at rB
  have cB : Chg (fun k => k = T) w1 wB := by rw [← eB]; exact cA.setCell (.inl rfl) _
  have a1 : wB.cell? ⟨T, 1, none⟩ = some (.int .u64 0) := Rw.cell rB 1
  have b1 := Rw.fr rB 1
  have rC := Rw.set rB 1 (.int .u64 x.wr)
  obtain ⟨wC, eC⟩ : ∃ wC, wB.setCell ⟨T, 1, none⟩ (.int .u64 x.wr) = wC := ⟨_, rfl⟩
  rw [eC] at rC
  have cC : Chg (fun k => k = T) w1 wC := by rw [← eC]; exact cB.setCell (.inl rfl) _
  have a2 : wC.cell? ⟨T, 2, none⟩ = some (.int .u64 0) := Rw.cell rC 2
  have b2 := Rw.fr rC 2
  have rD := Rw.set rC 2 (.int .u64 x.fl)
  obtain ⟨wD, eD⟩ : ∃ wD, wC.setCell ⟨T, 2, none⟩ (.int .u64 x.fl) = wD := ⟨_, rfl⟩
  rw [eD] at rD
  have cD : Chg (fun k => k = T) w1 wD := by rw [← eD]; exact cC.setCell (.inl rfl) _
  obtain ⟨wE, eE⟩ : ∃ wE, wD.drew = wE := ⟨_, rfl⟩
  have RE : Hid (Rw wE T [.int .u64 x.rd, .int .u64 x.wr, .int .u64 x.fl].toArray 106) := by rw [← eE]; exact ⟨rD.eq⟩
  have CE : Hid (Chg (fun k => k = T) w1 wE) := by rw [← eE]; exact cD.drew
  clear rA rB rC rD cA cB cC cD
  refine wpAnyH_ready (rs := [12]) (by kernel_rfl) (by simp) ?_
  refine AllReadyH.cons rfl (fun KK hKK => ?_) AllReadyH.nil
  go_simp
  refine hKK.out _ _ trivial (fun _ => ?_)
  clear hKK KK q0 q1 q2 g0 g1 g2 eA
  refine wpAnyH_take (i := 13) (v := .pointer (some ⟨T, 0, none⟩)) rfl (by kernel_rfl) (by kernel_rfl) (by kernel_rfl) (fun _ _ _ h => h) (Or.inl ⟨by rfl, fun w' hw' => by go_simp⟩) trivial ?_
  refine wpAnyH_ready (rs := [14]) (by kernel_rfl) (by simp) ?_
  refine AllReadyH.cons rfl (fun KK hKK => ?_) AllReadyH.nil
  go_simp
  refine hKK.out _ _ trivial (fun _ => ?_)
  clear hKK KK
  refine wpAnyH_take (i := 15) (v := .pointer (some ⟨T, 1, none⟩)) rfl (by kernel_rfl) (by kernel_rfl) (by kernel_rfl) (fun _ _ _ h => h) (Or.inl ⟨by rfl, fun w' hw' => by go_simp⟩) trivial ?_
  refine wpAnyH_ready (rs := [16]) (by kernel_rfl) (by simp) ?_
  refine AllReadyH.cons rfl (fun KK hKK => ?_) AllReadyH.nil
  go_simp
  refine hKK.out _ _ trivial (fun _ => ?_)
  clear hKK KK
  refine wpAnyH_take (i := 17) (v := .pointer (some ⟨T, 2, none⟩)) rfl (by kernel_rfl) (by kernel_rfl) (by kernel_rfl) (fun _ _ _ h => h) (Or.inl ⟨by rfl, fun w' hw' => by go_simp⟩) trivial ?_
  refine wpAnyH_ready (rs := [18]) (by kernel_rfl) (by simp) ?_
  refine AllReadyH.cons rfl (fun KK hKK => ?_) AllReadyH.nil
  go_simp
  refine hKK.out _ _ trivial (fun _ => ?_)
  clear hKK KK
  refine wpAnyH_done (by kernel_rfl) (NoPanic.normal ?_) _
  clear hH a0 a1 a2 b0 b1 b2 eB eC eD eE
  have K5 : Hid (Rw wE p ((dkG S z m c x).setIfInBounds 6 (.int .i32 1)) 86) := Rw.chg1 K1.out CE.out (by omega)
  go_wp2_with fail
  refine leaves_cons (f := 32) (args := #[.pointer (some ⟨p, 2, none⟩)]) (by simp) (by simp [go_sem]) ?_
  refine (runlock_deferred Try.rwRLib p 2 1 _ _ .returning _ (Rw.cell K5.out 2) (Rw.cell K5.out 4) (Rw.cell K5.out 6) (Rw.fr K5.out 6) (by rw [wr0]; decide)).mono ?_
  rintro e u' w'' ⟨rfl, rfl, rfl⟩
  rw [wr0]
  have c4 : Chg (fun k => k = p) wE (wE.setCell ⟨p, 2 + 4, none⟩ (.int .i32 0)) := (Chg.refl (fun k => k = p) wE).setCell (.inl rfl) _
  have hsT : w.heap.size ≤ T := by rw [HT.out]; exact Nat.le_refl _
  exact ⟨_, results_cell rfl _ _ T 106 [.int .u64 x.rd, .int .u64 x.wr, .int .u64 x.fl] _ rfl (Rw.chg1 RE.out c4 (by omega)) Try.underlying106 rfl (by kernel_rfl), rfl, Rw.set K5.out 6 (.int .i32 0), (C1.out.trans CE.out (fun k e => .inr (by omega))).trans c4 (fun _ e => .inl e)⟩
end Go.Proofs.Ytddnecfnjnipjaa

/-
  The reference's Pending.
-/
namespace Go.Proofs.Ytddnecfnjnipjaa
open Go.RowKit

theorem pcells_len (P : List Nat) : (pcells P).length = P.length := by simp [pcells]
theorem pcells_app (P R : List Nat) : pcells (P ++ R) = pcells P ++ pcells R := by simp [pcells]
theorem pcells_one (P : List Nat) : ∀ u ∈ pcells P, u.oneCell' = true := by
  intro u hu
  unfold pcells at hu
  obtain ⟨x, _, rfl⟩ := List.mem_map.1 hu
  rfl
/-- Numbers that lie alone in a row. -/
def OwnP (w : World) (v : Value) (P : List Nat) : Prop := w.ownsRow 0 3 1 v P.length (pcells P)
theorem OwnP.nil (w : World) : OwnP w (.slice none 0 0) [] := World.ownsRow_nil w 0 3 1
theorem OwnP.chg {w w' : World} {v : Value} {P : List Nat} (h : OwnP w v P) {S : Nat → Prop} (c : Chg S w w') (hn : ∀ k, v.ownBlock = some k → ¬ S k) : OwnP w' v P := by
  refine ⟨h.1, ?_⟩
  rcases h.2 with e | ⟨b, cap, cur, rfl, hb, hgg, rest⟩
  · exact .inl e
  · exact .inr ⟨b, cap, cur, rfl, hb, c.heap_some hgg (hn b rfl), rest⟩

theorem wpList_appP {ops : Array Oper} {rest : List Oper} {o : Oper} {a : Act} {w : World} {Q : Exit → Act → World → Prop} (hgd : o.guard = none) (s x : Operand)
    (ho : o.op = .call { callee := .builtin .append, args := #[s, x], argTypes := #[99, 99] })
    {v : Value} {g : Addr} {c : Nat} {P R : List Nat} (hs : a.eval s = v) (hx : a.eval x = .slice (some g) R.length c) (hv : OwnP w v P) (hu : ∀ j u, (pcells R)[j]? = some u → w.cell? (g.add j) = some u) (hb : P.length + R.length ≤ 4398046511104)
    (h : ∀ v' w', OwnP w' v' (P ++ R) → Chg (fun k => some k = v.ownBlock) w w' → (v'.ownBlock = v.ownBlock ∨ v'.ownBlock = some w.heap.size) → wpList Try.prog ops Q rest (a.put o.dst v') w') :
    wpList Try.prog ops Q (o :: rest) a w := by
  refine wpList_plain hgd fun K hK => ?_
  obtain ⟨i0, hi, hz0, hz1, hz2⟩ := info_parts info3
  obtain ⟨v', w', hr, h2, h3, _, h5⟩ := run_append_own_at (P := Try.prog) w 0 99 o.type 3 i0 (.int .i64 0) 1 8 Try.underlying99 hi hz0 hz1 hz2 rfl (by decide) v P.length (pcells P) hv g R.length c (pcells R) (by rw [pcells_len, Nat.mul_one]) hu (pcells_one R) (by unfold maxLen; omega) (by omega) (Nat.zero_le _)
  unfold Oper.wp execOp
  simp only [ho, resolve, invoke, builtin, Sem.run_bind, Sem.run_pure, Result.andThen_ok, List.map_toArray, List.map_cons, List.map_nil, hs, hx, hr]
  exact hK _ _ (h v' w' (by unfold OwnP; rw [List.length_append, pcells_app]; exact h2) (Chg.of_grown h3) h5)

section
variable {w w' : World} {q S z b : Nat} {y : RN} {dl cl : List Dd} {dv cv : Value} {C : Nat → List Int}

set_option maxRecDepth 100000 in
set_option maxHeartbeats 4000000 in
theorem RD.pending (h : RD w q S z b y dl cl dv cv C) (hb : b < 2199023255552) :
    Calls Try.prog 47 #[.pointer (some ⟨q, 0, none⟩)] w fun e w' => ∃ v, e = .returned v ∧ OwnP w' v (cl.map Dd.s) ∧ Chg (fun _ => False) w w' ∧ ∀ k, v.ownBlock = some k → w.heap.size ≤ k := by
  have H : Hid _ := h
  have hlb := h.len
  obtain ⟨n, hn⟩ : ∃ n, n = cl.length := ⟨_, rfl⟩
  obtain ⟨cn, ca, cc, hcv⟩ : ∃ n a c, cv = .slice a n c := by
    rcases owns_form h.cn with ⟨e, _⟩ | ⟨g, c, e⟩
    · exact ⟨_, _, _, e⟩
    · exact ⟨_, _, _, e⟩
  have hcn : cn = n := by
    rcases owns_form h.cn with ⟨e, h0⟩ | ⟨g, c, e⟩
    · rw [hcv] at e; injection e; omega
    · rw [hcv] at e; injection e; omega
  subst hcn
  have HN : Hid _ := hn
  have HV : Hid _ := hcv
  have hnb : cn < 2199023255552 := by omega
  clear h hn hcv
  go_enter Try.func47, Try.ntmps47
  go_wp2_with fail
  go_loopw [3, 4] (fun u i wr => ∃ k : Nat, k ≤ cn ∧ i = .int .i64 k ∧ Hid (OwnP wr u ((cl.map Dd.s).take k) ∧ Chg (fun _ => False) w wr ∧ ∀ g, u.ownBlock = some g → w.heap.size ≤ g)) (fun _ i _ => cn - (intOf i).toNat)
  case atStart => exact ⟨0, Nat.zero_le _, rfl, OwnP.nil _, Chg.refl _ _, fun g e => by simp [Value.ownBlock] at e⟩
  case round =>
    obtain ⟨k, hk, rfl, hid⟩ := hrel
    obtain ⟨ho, hc, hu⟩ := hid.out
    have c4 : wr.cell? ⟨q, 4, none⟩ = some (.slice ca cn cc) := by rw [← HV.out]; exact hc.cell_some (H.out.row.cell 4) (fun h => h)
    by_cases hlt : k < cn
    · obtain ⟨d, hd⟩ : ∃ d, cl[k]? = some d := ⟨cl[k]'(by have := HN.out; omega), List.getElem?_eq_getElem _⟩
      obtain ⟨g, c, e, hcl⟩ := H.out.cn.cell hd
      rw [HV.out] at e
      injection e with e1 e2 e3
      subst e1
      have c0 : wr.cell? ⟨g, k * 6, none⟩ = some (.int .i64 d.s) := hc.cell_some (hcl 0 _ rfl) (fun h => h)
      have OU : Hid _ := ho
      have HC : Hid _ := hc
      have HU : Hid _ := hu
      have ht : Hid ((cl.map Dd.s).take (k + 1) = (cl.map Dd.s).take k ++ [d.s]) := by
        rw [List.take_add_one, List.getElem?_map, hd]
        rfl
      have htl : ((cl.map Dd.s).take k).length = k := by rw [List.length_take, List.length_map]; have := HN.out; omega
      clear ho hc hu hid hcl hd
      go_wp2_with (refine wpList_appP rfl (.tmp 14) (.tmp 23) rfl (v := u3) (g := ⟨wr.heap.size, 0, none⟩) (c := 1) (P := (cl.map Dd.s).take k) (R := [d.s]) rfl rfl (OwnP.chg OU.out ((Chg.refl (fun _ => False) _).alloc _) (fun _ _ h => h)) (fun j u hu => ?cells) (by simp; omega) ?next)
      case cells =>
        rw [addr_add, Nat.zero_add, cell_of_row _ _ _ #[.int .i64 d.s] 3 _ (heap_alloc_new _ _)]
        simpa [pcells] using hu
      intro v' w2 o2 k2 b2
      have hal : Chg (fun _ => False) wr (wr.alloc (.cells #[.int .i64 d.s] 3)) := (Chg.refl _ _).alloc _
      have R : Hid (OwnP w2 v' ((cl.map Dd.s).take (k + 1)) ∧ Chg (fun _ => False) w w2 ∧ ∀ g, v'.ownBlock = some g → w.heap.size ≤ g) := by
        refine ⟨by rw [ht.out]; exact o2, (HC.out.trans hal (fun _ h => h.elim)).trans k2 (fun i e => .inr (HU.out i e.symm)), fun g hg => ?_⟩
        rcases b2 with e | e
        · exact HU.out g (by rw [← e]; exact hg)
        · rw [hg] at e
          injection e with e
          have h1 := HC.out.size
          have h2 := hal.size
          omega
      clear o2 k2 b2 hal
      go_wp2_with fail
      go_roundw
      case rel => exact ⟨k + 1, by omega, by go_num, R.out⟩
      case measure => simp [intOf]; omega
    · have hkn : k = cn := by omega
      subst hkn
      have R : Hid (OwnP wr u3 (cl.map Dd.s) ∧ Chg (fun _ => False) w wr ∧ ∀ g, u3.ownBlock = some g → w.heap.size ≤ g) := by
        have e : (cl.map Dd.s).take k = cl.map Dd.s := List.take_of_length_le (by rw [List.length_map]; have := HN.out; omega)
        rw [e] at ho
        exact ⟨ho, hc, hu⟩
      clear ho hc hu hid
      go_wp2_with fail
      go_ret
      exact ⟨_, rfl, R.out.1, R.out.2.1, R.out.2.2⟩
end
end Go.Proofs.Ytddnecfnjnipjaa
