/-
  Stats and Era; lists of numbers compared.
-/
import Derived.Test.YtpongepfjdgcmaaPend2
namespace Go.Proofs.Ytpongepfjdgcmaa
open Go.RowKit Go.RwLone

theorem results_cell {fn : Func} {p : Tmp} {ty : TypeId} (h : fn.results = #[.cell p ty]) (tmps : Array Value) (w : World) (g : Nat) (t : TypeId) (cs : List Value) (d : TypeDesc)
    (hp : tmps.getD p undef = .pointer (some ⟨g, 0, none⟩)) (hg : Rw w g cs.toArray t)
    (hu : Try.prog.underlying ty = some d) (hd : d.isRow = true) (hi : (Try.prog.info? ty).map (·.size) = some cs.length) :
    (results fn tmps).run Try.prog w = .ok (.agg cs.toArray) w := by
  have hl := run_loadVar_mid (P := Try.prog) w g 0 ty cs d (fun j v hj => by rw [Nat.zero_add, Rw.cell hg j, List.getElem?_toArray]; exact hj) hu hd hi
  have hp' : tmps[p]?.getD undef = .pointer (some ⟨g, 0, none⟩) := by simpa using hp
  simp [results, h, hp', asAddr, hl]

set_option maxRecDepth 100000 in
set_option maxHeartbeats 2000000 in
theorem era_row {w : World} {p m c S z : Nat} {x : Nums} (h : Rw w p (dkG S z m c x) 91) :
    Calls Try.prog 31 #[.pointer (some ⟨p, 0, none⟩)] w fun e w' => e = .returned (.int .i64 x.era) ∧ Rw w' p (dkG S z m c x) 91 ∧ Chg (fun k => k = p) w w' := by
  have c2 : w.cell? ⟨p, 2, none⟩ = some (.int .i32 0) := h.cell 2
  have c5 : w.cell? ⟨p, 5, none⟩ = some (.int .u32 0) := h.cell 5
  have c6 : w.cell? ⟨p, 6, none⟩ = some (.int .i32 0) := h.cell 6
  have f6 := h.fr 6
  have H : Hid _ := h
  clear h
  go_enter_defers Try.func31, Try.ntmps31
  go_wp2_with fail
  refine (rlock_open Try.rwRLib p 2 0 _ _ _ c2 c5 c6 f6 (by rw [wr1]; decide)).mono ?_
  rintro e w' ⟨rfl, rfl⟩
  rw [wr1]
  have R1 := Rw.set H.out 6 (.int .i32 1)
  obtain ⟨w1, hw1⟩ : ∃ w1, w1 = w.setCell ⟨p, 6, none⟩ (.int .i32 1) := ⟨_, rfl⟩
  rw [← hw1] at R1
  have e1 : w.setCell ⟨p, 2 + 4, none⟩ (.int .i32 1) = w1 := hw1.symm
  rw [e1]
  have C1 : Hid (Chg (fun k => k = p) w w1) := by rw [hw1]; exact (Chg.refl (fun k => k = p) w).setCell (.inl rfl) _
  have d13 : w1.cell? ⟨p, 13, none⟩ = some (.int .i64 x.era) := Rw.cell R1 13
  have K1 : Hid _ := R1
  clear c2 c5 c6 f6 R1 hw1 e1
  go_wp2_with fail
  refine leaves_cons (f := 37) (args := #[.pointer (some ⟨p, 2, none⟩)]) (by simp) (by simp [go_sem]) ?_
  refine (runlock_deferred Try.rwRLib p 2 1 _ _ .returning _ (Rw.cell K1.out 2) (Rw.cell K1.out 4) (Rw.cell K1.out 6) (Rw.fr K1.out 6) (by rw [wr0]; decide)).mono ?_
  rintro e u' w'' ⟨rfl, rfl, rfl⟩
  rw [wr0]
  exact ⟨_, results_tmp rfl _ _ _, rfl, Rw.set K1.out 6 (.int .i32 0), C1.out.setCell (.inl rfl) _⟩

/-- Numbers in memory. -/
theorem pcells_get {P : List Nat} {w : World} {g : Nat} (h : Rw w g (pcells P).toArray 3) {k : Nat} (hk : k < P.length) : w.cell? ⟨g, k, none⟩ = some (.int .i64 (P[k] : Nat)) := by
  rw [Rw.cell h k, List.getElem?_toArray]
  unfold pcells
  rw [List.getElem?_map, List.getElem?_eq_getElem hk]
  rfl

set_option maxRecDepth 100000 in
set_option maxHeartbeats 2000000 in
theorem same_ints {w : World} {g g' n : Nat} {P : List Nat} (h : Rw w g (pcells P).toArray 3) (h' : Rw w g' (pcells P).toArray 3) (hn : P.length = n) (hb : n ≤ 4398046511104) :
    Calls Try.prog 30 #[.slice (some ⟨g, 0, none⟩) n n, .slice (some ⟨g', 0, none⟩) n n] w fun e w' => e = .returned (.bool true) ∧ ∃ m, w' = w.drewN m := by
  have H : Hid _ := h
  have H' : Hid _ := h'
  have HN : Hid _ := hn
  clear h h' hn
  go_enter Try.func30, Try.ntmps30
  go_wp2_with fail
  go_loopw [5] (fun x wr => ∃ (k j : Nat), x = .int .i64 k ∧ wr = w.drewN j ∧ k ≤ n) (fun x _ => n - (intOf x).toNat)
  case atStart => exact ⟨0, 0, rfl, rfl, Nat.zero_le _⟩
  case round =>
    obtain ⟨k, j, rfl, rfl, hk⟩ := hrel
    by_cases hlt : k < n
    · have hc1 := pcells_get H.out (k := k) (by have := HN.out; omega)
      have hc2 := pcells_get H'.out (k := k) (by have := HN.out; omega)
      obtain ⟨v, hv⟩ : ∃ v : Nat, v = P[k]'(by have := HN.out; omega) := ⟨_, rfl⟩
      rw [← hv] at hc1 hc2
      have hc1' : ∀ n, (w.drewN n).cell? ⟨g, k, none⟩ = some (.int .i64 v) := fun n => hc1
      have hc2' : ∀ n, (w.drewN n).cell? ⟨g', k, none⟩ = some (.int .i64 v) := fun n => hc2
      clear hc1 hc2 hv
      go_wp2_with fail
      go_quiet (fail)
      go_wp2_with fail
      go_roundw
      case rel => exact ⟨k + 1, _, by go_num, rfl, by omega⟩
      case measure => simp [intOf]; omega
    · go_wp2_with fail
      go_ret
      exact ⟨rfl, _, rfl⟩

set_option maxRecDepth 100000 in
set_option maxHeartbeats 4000000 in
theorem stats_row {w : World} {p m c S z : Nat} {x : Nums} (h : Rw w p (dkG S z m c x) 91) :
    Calls Try.prog 28 #[.pointer (some ⟨p, 0, none⟩)] w fun e w' => e = .returned (.agg #[.int .u64 x.rd, .int .u64 x.wr, .int .u64 x.fl]) ∧ Rw w' p (dkG S z m c x) 91 ∧ Chg (fun k => k = p) w w' := by
  obtain ⟨w0, hw0⟩ : ∃ w0, w.alloc (.cells #[.int .u64 0, .int .u64 0, .int .u64 0] 67) = w0 := ⟨_, rfl⟩
  obtain ⟨T, hT⟩ : ∃ T, w.heap.size = T := ⟨_, rfl⟩
  have r0 : Rw w0 p (dkG S z m c x) 91 := by rw [← hw0]; exact Rw.alloc h _
  have t0 : Rw w0 T #[.int .u64 0, .int .u64 0, .int .u64 0] 67 := by rw [← hw0, ← hT]; exact ⟨heap_alloc_new _ _⟩
  have k0 : Chg (fun _ => False) w w0 := by rw [← hw0]; exact (Chg.refl _ _).alloc _
  have hpT : p < T := by rw [← hT]; exact h.lt
  have c2 : w0.cell? ⟨p, 2, none⟩ = some (.int .i32 0) := r0.cell 2
  have c5 : w0.cell? ⟨p, 5, none⟩ = some (.int .u32 0) := r0.cell 5
  have c6 : w0.cell? ⟨p, 6, none⟩ = some (.int .i32 0) := r0.cell 6
  have f6 := r0.fr 6
  have H : Hid _ := r0
  have T0 : Hid _ := t0
  have K0 : Hid _ := k0
  have HT : Hid _ := hT
  clear h r0 t0 k0
  go_enter_defers Try.func28, Try.ntmps28
  go_upto_region 1 with fail
  clear hw0 hT
  go_wp2_with fail
  refine (rlock_open Try.rwRLib p 2 0 _ _ _ c2 c5 c6 f6 (by rw [wr1]; decide)).mono ?_
  rintro e w' ⟨rfl, rfl⟩
  rw [wr1]
  have R1 := Rw.set H.out 6 (.int .i32 1)
  obtain ⟨w1, hw1⟩ : ∃ w1, w1 = w0.setCell ⟨p, 6, none⟩ (.int .i32 1) := ⟨_, rfl⟩
  rw [← hw1] at R1
  have e1 : w0.setCell ⟨p, 2 + 4, none⟩ (.int .i32 1) = w1 := hw1.symm
  rw [e1]
  have hc1 : Chg (fun k => k = p) w0 w1 := by rw [hw1]; exact (Chg.refl (fun k => k = p) w0).setCell (.inl rfl) _
  have T1 : Hid (Rw w1 T #[.int .u64 0, .int .u64 0, .int .u64 0] 67) := Rw.chg1 T0.out hc1 (by omega)
  have C1 : Hid (Chg (fun k => k = p) w w1) := (K0.out.mono (fun _ _ h => h.elim)).trans hc1 (fun _ e => .inl e)
  have K1 : Hid _ := R1
  clear c2 c5 c6 f6 R1 hw1 e1 hc1
  go_upto_region 3 with fail
  refine wp_region_noPanic ?_
  refine wp_region_held_drew (S := fun _ => True) (by kernel_rfl) trivial (fun hH => ?_)
  refine wpAnyH_take (i := 0) (v := .pointer (some ⟨p, 0, none⟩)) rfl (by kernel_rfl) (by kernel_rfl) (by kernel_rfl) (fun _ _ _ h => h) (Or.inl ⟨by rfl, fun w' hw' => by go_simp⟩) hH ?_
  refine wpAnyH_take (i := 1) (v := .pointer (some ⟨p, 0, none⟩)) rfl (by kernel_rfl) (by kernel_rfl) (by kernel_rfl) (fun _ _ _ h => h) (Or.inl ⟨by rfl, fun w' hw' => by go_simp⟩) hH ?_
  refine wpAnyH_take (i := 2) (v := .pointer (some ⟨p, 14, none⟩)) rfl (by kernel_rfl) (by kernel_rfl) (by kernel_rfl) (fun _ _ _ h => h) (Or.inl ⟨by rfl, fun w' hw' => by go_simp⟩) hH ?_
  refine wpAnyH_take (i := 4) (v := .pointer (some ⟨p, 0, none⟩)) rfl (by kernel_rfl) (by kernel_rfl) (by kernel_rfl) (fun _ _ _ h => h) (Or.inl ⟨by rfl, fun w' hw' => by go_simp⟩) hH ?_
  refine wpAnyH_take (i := 5) (v := .pointer (some ⟨p, 0, none⟩)) rfl (by kernel_rfl) (by kernel_rfl) (by kernel_rfl) (fun _ _ _ h => h) (Or.inl ⟨by rfl, fun w' hw' => by go_simp⟩) hH ?_
  refine wpAnyH_take (i := 6) (v := .pointer (some ⟨p, 15, none⟩)) rfl (by kernel_rfl) (by kernel_rfl) (by kernel_rfl) (fun _ _ _ h => h) (Or.inl ⟨by rfl, fun w' hw' => by go_simp⟩) hH ?_
  refine wpAnyH_take (i := 8) (v := .pointer (some ⟨p, 0, none⟩)) rfl (by kernel_rfl) (by kernel_rfl) (by kernel_rfl) (fun _ _ _ h => h) (Or.inl ⟨by rfl, fun w' hw' => by go_simp⟩) hH ?_
  refine wpAnyH_take (i := 9) (v := .pointer (some ⟨p, 0, none⟩)) rfl (by kernel_rfl) (by kernel_rfl) (by kernel_rfl) (fun _ _ _ h => h) (Or.inl ⟨by rfl, fun w' hw' => by go_simp⟩) hH ?_
  refine wpAnyH_take (i := 10) (v := .pointer (some ⟨p, 16, none⟩)) rfl (by kernel_rfl) (by kernel_rfl) (by kernel_rfl) (fun _ _ _ h => h) (Or.inl ⟨by rfl, fun w' hw' => by go_simp⟩) hH ?_
  refine wpAnyH_ready (rs := [3]) (by kernel_rfl) (by simp) ?_
  refine AllReadyH.cons rfl (fun KK hKK => ?_) AllReadyH.nil
  go_simp
  refine Calls.mono (u64load_any ⟨p, 14, none⟩ x.rd w1.drew (Rw.cell K1.out 14)) ?_
  rintro e w9 ⟨rfl, h9⟩
  subst h9
  refine hKK.out _ _ trivial (fun _ => ?_)
  clear hKK KK
  refine wpAnyH_ready (rs := [7]) (by kernel_rfl) (by simp) ?_
  refine AllReadyH.cons rfl (fun KK hKK => ?_) AllReadyH.nil
  go_simp
  refine Calls.mono (u64load_any ⟨p, 15, none⟩ x.wr w1.drew (Rw.cell K1.out 15)) ?_
  rintro e w9 ⟨rfl, h9⟩
  subst h9
  refine hKK.out _ _ trivial (fun _ => ?_)
  clear hKK KK
  refine wpAnyH_ready (rs := [11]) (by kernel_rfl) (by simp) ?_
  refine AllReadyH.cons rfl (fun KK hKK => ?_) AllReadyH.nil
  go_simp
  refine Calls.mono (u64load_any ⟨p, 16, none⟩ x.fl w1.drew (Rw.cell K1.out 16)) ?_
  rintro e w9 ⟨rfl, h9⟩
  subst h9
  refine hKK.out _ _ trivial (fun _ => ?_)
  clear hKK KK
  have q0 : w1.cell? ⟨T, 0, none⟩ = some (.int .u64 0) := Rw.cell T1.out 0
  have q1 : w1.cell? ⟨T, 1, none⟩ = some (.int .u64 0) := Rw.cell T1.out 1
  have q2 : w1.cell? ⟨T, 2, none⟩ = some (.int .u64 0) := Rw.cell T1.out 2
  have g0 := Rw.fr T1.out 0
  have g1 := Rw.fr T1.out 1
  have g2 := Rw.fr T1.out 2
  obtain ⟨wA, eA⟩ : ∃ wA, ((w1.setCell ⟨T, 0, none⟩ (.int .u64 0)).setCell ⟨T, 1, none⟩ (.int .u64 0)).setCell ⟨T, 2, none⟩ (.int .u64 0) = wA := ⟨_, rfl⟩
  have rA : Rw wA T #[.int .u64 0, .int .u64 0, .int .u64 0] 67 := by rw [← eA]; exact Rw.set (Rw.set (Rw.set T1.out 0 (.int .u64 0)) 1 (.int .u64 0)) 2 (.int .u64 0)
  have cA : Chg (fun k => k = T) w1 wA := by rw [← eA]; exact (((Chg.refl (fun k => k = T) w1).setCell (.inl rfl) _).setCell (.inl rfl) _).setCell (.inl rfl) _
  have a0 : wA.cell? ⟨T, 0, none⟩ = some (.int .u64 0) := Rw.cell rA 0
  have b0 := Rw.fr rA 0
  have rB := Rw.set rA 0 (.int .u64 x.rd)
  obtain ⟨wB, eB⟩ : ∃ wB, wA.setCell ⟨T, 0, none⟩ (.int .u64 x.rd) = wB := ⟨_, rfl⟩
  rw [eB] at rB
  have cB : Chg (fun k => k = T) w1 wB := by rw [← eB]; exact cA.setCell (.inl rfl) _
  have a1 : wB.cell? ⟨T, 1, none⟩ = some (.int .u64 0) := Rw.cell rB 1
  have b1 := Rw.fr rB 1
  have rC := Rw.set rB 1 (.int .u64 x.wr)
  obtain ⟨wC, eC⟩ : ∃ wC, wB.setCell ⟨T, 1, none⟩ (.int .u64 x.wr) = wC := ⟨_, rfl⟩
  rw [eC] at rC
  have cC : Chg (fun k => k = T) w1 wC := by rw [← eC]; exact cB.setCell (.inl rfl) _
  have a2 : wC.cell? ⟨T, 2, none⟩ = some (.int .u64 0) := Rw.cell rC 2
  have b2 := Rw.fr rC 2
  have rD := Rw.set rC 2 (.int .u64 x.fl)
  obtain ⟨wD, eD⟩ : ∃ wD, wC.setCell ⟨T, 2, none⟩ (.int .u64 x.fl) = wD := ⟨_, rfl⟩
  rw [eD] at rD
  have cD : Chg (fun k => k = T) w1 wD := by rw [← eD]; exact cC.setCell (.inl rfl) _
  obtain ⟨wE, eE⟩ : ∃ wE, wD.drew = wE := ⟨_, rfl⟩
  have RE : Hid (Rw wE T [.int .u64 x.rd, .int .u64 x.wr, .int .u64 x.fl].toArray 67) := by rw [← eE]; exact ⟨rD.eq⟩
  have CE : Hid (Chg (fun k => k = T) w1 wE) := by rw [← eE]; exact cD.drew
  clear rA rB rC rD cA cB cC cD
  refine wpAnyH_ready (rs := [12]) (by kernel_rfl) (by simp) ?_
  refine AllReadyH.cons rfl (fun KK hKK => ?_) AllReadyH.nil
  go_simp
  refine hKK.out _ _ trivial (fun _ => ?_)
  clear hKK KK q0 q1 q2 g0 g1 g2 eA
  refine wpAnyH_take (i := 13) (v := .pointer (some ⟨T, 0, none⟩)) rfl (by kernel_rfl) (by kernel_rfl) (by kernel_rfl) (fun _ _ _ h => h) (Or.inl ⟨by rfl, fun w' hw' => by go_simp⟩) trivial ?_
  refine wpAnyH_ready (rs := [14]) (by kernel_rfl) (by simp) ?_
  refine AllReadyH.cons rfl (fun KK hKK => ?_) AllReadyH.nil
  go_simp
  refine hKK.out _ _ trivial (fun _ => ?_)
  clear hKK KK
  refine wpAnyH_take (i := 15) (v := .pointer (some ⟨T, 1, none⟩)) rfl (by kernel_rfl) (by kernel_rfl) (by kernel_rfl) (fun _ _ _ h => h) (Or.inl ⟨by rfl, fun w' hw' => by go_simp⟩) trivial ?_
  refine wpAnyH_ready (rs := [16]) (by kernel_rfl) (by simp) ?_
  refine AllReadyH.cons rfl (fun KK hKK => ?_) AllReadyH.nil
  go_simp
  refine hKK.out _ _ trivial (fun _ => ?_)
  clear hKK KK
  refine wpAnyH_take (i := 17) (v := .pointer (some ⟨T, 2, none⟩)) rfl (by kernel_rfl) (by kernel_rfl) (by kernel_rfl) (fun _ _ _ h => h) (Or.inl ⟨by rfl, fun w' hw' => by go_simp⟩) trivial ?_
  refine wpAnyH_ready (rs := [18]) (by kernel_rfl) (by simp) ?_
  refine AllReadyH.cons rfl (fun KK hKK => ?_) AllReadyH.nil
  go_simp
  refine hKK.out _ _ trivial (fun _ => ?_)
  clear hKK KK
  refine wpAnyH_done (by kernel_rfl) (NoPanic.normal ?_) _
  clear hH a0 a1 a2 b0 b1 b2 eB eC eD eE
  have K5 : Hid (Rw wE p ((dkG S z m c x).setIfInBounds 6 (.int .i32 1)) 91) := Rw.chg1 K1.out CE.out (by omega)
  go_wp2_with fail
  refine leaves_cons (f := 37) (args := #[.pointer (some ⟨p, 2, none⟩)]) (by simp) (by simp [go_sem]) ?_
  refine (runlock_deferred Try.rwRLib p 2 1 _ _ .returning _ (Rw.cell K5.out 2) (Rw.cell K5.out 4) (Rw.cell K5.out 6) (Rw.fr K5.out 6) (by rw [wr0]; decide)).mono ?_
  rintro e u' w'' ⟨rfl, rfl, rfl⟩
  rw [wr0]
  have c4 : Chg (fun k => k = p) wE (wE.setCell ⟨p, 2 + 4, none⟩ (.int .i32 0)) := (Chg.refl (fun k => k = p) wE).setCell (.inl rfl) _
  have hsT : w.heap.size ≤ T := by rw [HT.out]; exact Nat.le_refl _
  exact ⟨_, results_cell rfl _ _ T 67 [.int .u64 x.rd, .int .u64 x.wr, .int .u64 x.fl] _ rfl (Rw.chg1 RE.out c4 (by omega)) Try.underlying67 rfl (by kernel_rfl), rfl, Rw.set K5.out 6 (.int .i32 0), (C1.out.trans CE.out (fun k e => .inr (by omega))).trans c4 (fun _ e => .inl e)⟩
end Go.Proofs.Ytpongepfjdgcmaa
