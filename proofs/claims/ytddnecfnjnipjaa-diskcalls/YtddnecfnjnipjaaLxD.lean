/-
  The ledger, exactly: page.
-/
import Derived.Test.YtddnecfnjnipjaaLxC
import Derived.Lib.RabinKarpLaws
namespace Go.Proofs.Ytddnecfnjnipjaa
open Go.RowKit

theorem SX.set {w : World} {t : TypeId} {v : Value} {n : Nat} {X : List Value} (h : SX w t v n X) {i : Nat} (hi : i < n) : ∃ g c u, v = .slice (some ⟨g, 0, none⟩) n c ∧ w.cell? ⟨g, i, none⟩ = some u ∧ w.frozen? ⟨g, i, none⟩ = false ∧ ∀ x, SX (w.setCell ⟨g, i, none⟩ x) t v n (X.set i x) := by
  obtain ⟨hxl, h⟩ := h
  rcases h.2 with ⟨_, h0⟩ | ⟨g, cap, cur, e, hb, hgg, h1, h2, h3, h4⟩
  · omega
  · subst e
    have hc : w.cell? ⟨g, i, none⟩ = some (X[i]'(by omega)) := by
      have := World.ownsRow.cells h (g := g) rfl i (X[i]'(by omega)) (List.getElem?_eq_getElem _)
      rwa [addr_add, Nat.zero_add] at this
    refine ⟨g, cap, _, rfl, hc, frozen_of_row w g i _ t hgg, fun x => ⟨by rw [List.length_set]; exact hxl, by rw [List.length_set]; exact h.1, .inr ⟨g, cap, cur.setIfInBounds i x, rfl, hb, heap_setCell_same w g i cur t x hgg, h1, h2, by simpa using h3, ?_⟩⟩⟩
    rw [Array.toList_setIfInBounds, List.take_set, h4]
theorem SX.sn {w : World} {v : Value} {n : Nat} {x : Int} (h : SX w 3 v n (List.replicate n (.int .i64 x))) : Sn w v n x := by
  rcases owns_form h.2 with ⟨e, h0⟩ | ⟨g, c, e⟩
  · exact .inl ⟨e, h0⟩
  · refine .inr ⟨g, c, e, fun j hj => ?_⟩
    have h2 := h.2
    rw [e] at h2
    have h3 := World.ownsRow.cells h2 (g := g) rfl j (.int .i64 x) (by simp [hj])
    rw [addr_add, Nat.zero_add] at h3
    exact h3
theorem set_rep {x : Value} {L : List Value} {j : Nat} (hj : j < L.length) : (List.replicate j x ++ L.drop j).set j x = List.replicate (j + 1) x ++ L.drop (j + 1) := by
  rw [List.set_append_right _ _ (by simp), List.length_replicate, Nat.sub_self, List.drop_eq_getElem_cons hj, List.set_cons_zero, List.replicate_succ', List.append_assoc]
  rfl
theorem info3i : (Try.prog.info? 3).map (fun i => (i.zero, i.size, i.bytes)) = some (some (.int .i64 0), 1, 8) := by kernel_rfl
theorem SX.num {w : World} {v : Value} {n : Nat} {X : List Value} (hv : SX w 3 v n X) (x : Int) (ty : TypeId) (hb : n + 1 ≤ 8796093022208) :
    ∃ v' w', (Builtin.append_ #[99, 99] ty #[v, .slice (some ⟨w.heap.size, 0, none⟩) 1 1]).run Try.prog (w.alloc (.cells #[.int .i64 x] 3)) = .ok v' w' ∧ SX w' 3 v' (n + 1) (X ++ [.int .i64 x]) ∧ SX w' 3 v n X ∧ Chg (fun k => some k = v.ownBlock) w w' ∧ (v'.ownBlock = v.ownBlock ∨ ∃ k, v'.ownBlock = some k ∧ w.heap.size ≤ k) := by
  have k3 : Chg (fun _ => False) w (w.alloc (.cells #[.int .i64 x] 3)) := (Chg.refl _ _).alloc _
  obtain ⟨i0, hi, hz0, hz1, hz2⟩ := info_parts info3i
  obtain ⟨hn, hv'⟩ := hv.chg k3 (fun _ _ h => h)
  obtain ⟨v', w1, r1, r2, r3, _, r5⟩ := run_append_own_at (P := Try.prog) (w.alloc (.cells #[.int .i64 x] 3)) 0 99 ty 3 i0 _ 1 8 Try.underlying99 hi hz0 hz1 hz2 rfl (by decide) v n X hv' ⟨w.heap.size, 0, none⟩ 1 1 [.int .i64 x] rfl (fun i y hy => by rw [addr_add, Nat.zero_add, cell_of_row _ _ _ _ _ _ (heap_alloc_new _ _)]; simpa using hy) (fun y hy => by simp at hy; subst hy; rfl) (by unfold maxLen; omega) (by omega) (Nat.zero_le _)
  have r6 := app_keep (P := Try.prog) Try.underlying99 hi hz0 hz1 hz2 hv' ⟨w.heap.size, 0, none⟩ 1 1 [.int .i64 x] rfl (by decide) (fun i y hy => by rw [addr_add, Nat.zero_add, cell_of_row _ _ _ _ _ _ (heap_alloc_new _ _)]; simpa using hy) (fun y hy => by simp at hy; subst hy; rfl) (by omega) (by decide) r1
  exact ⟨v', w1, r1, ⟨by rw [List.length_append, ← hn]; rfl, r2⟩, ⟨hn, r6⟩, (k3.mono (fun _ _ h => h.elim)).trans (Chg.of_grown r3) (fun _ e => .inl e), r5.imp id (fun e => ⟨_, e, k3.size⟩)⟩
theorem SX.two {w : World} {v : Value} {n : Nat} {X : List Value} (hv : SX w 99 v n X) (u y : Value) (hu : u.oneCell' = true) (hy : y.oneCell' = true) (ty : TypeId) (hb : n + 2 ≤ 4398046511104) :
    ∃ v' w', (Builtin.append_ #[39, 39] ty #[v, .slice (some ⟨w.heap.size, 0, none⟩) 2 2]).run Try.prog (w.alloc (.cells #[u, y] 99)) = .ok v' w' ∧ SX w' 99 v' (n + 2) (X ++ [u, y]) ∧ Chg (fun k => some k = v.ownBlock) w w' ∧ (v'.ownBlock = v.ownBlock ∨ ∃ k, v'.ownBlock = some k ∧ w.heap.size ≤ k) := by
  have k3 : Chg (fun _ => False) w (w.alloc (.cells #[u, y] 99)) := (Chg.refl _ _).alloc _
  obtain ⟨a', w4, hr4, s4, k4, b4⟩ := run_appY (w.alloc (.cells #[u, y] 99)) ty (hv.chg k3 (fun _ _ h => h)) ⟨w.heap.size, 0, none⟩ [u, y] 2 (fun i x hx => by rw [addr_add, Nat.zero_add, cell_of_row _ _ _ _ _ _ (heap_alloc_new _ _)]; simpa using hx) (fun x hx => by simp at hx; rcases hx with rfl | rfl; exact hu; exact hy) (by simp; omega)
  exact ⟨a', w4, hr4, s4, (k3.mono (fun _ _ h => h.elim)).trans k4 (fun _ e => .inl e), b4.imp id (fun e => ⟨_, e, k3.size⟩)⟩
theorem step_appN {ops : Array Oper} {o : Oper} {a : Act} {w w' : World} {K : Act → World → Prop} {Q : Exit → Act → World → Prop} {E : Prop} (ts : Array TypeId) (hgd : o.guard = none) (s x : Operand)
    (ho : o.op = .call { callee := .builtin .append, args := #[s, x], argTypes := ts }) {v u v' : Value} (hs : a.eval s = v) (hx : a.eval x = u) (hr : (Builtin.append_ ts o.type #[v, u]).run Try.prog w = .ok v' w') (h : K (a.put o.dst v') w') :
    if Region.wanted o (yielded ops a.tmps) = true then Oper.wp Try.prog o a w K Q else E := by
  have hw : Region.wanted o (yielded ops a.tmps) = true := by simp [Region.wanted, hgd]
  rw [if_pos hw]
  unfold Oper.wp execOp
  simp only [ho, resolve, invoke, builtin, Sem.run_bind, Sem.run_pure, Result.andThen_ok, List.map_toArray, List.map_cons, List.map_nil, hs, hx, hr]
  exact h

/-- keep, whatever turn it is. -/
theorem Lg.keep {w : World} {lg : Nat} {Bl : Nat → Prop} {k : Nat} {a p c d : Value} {t na np nc nd : Nat} {X Y C D : List Value} (h : Lg w lg Bl k a p c d t na np nc nd X Y C D) (hk : k < 2199023255551) {v : Value} {l : List Int} (hv : Own w v l) (hvB : ∀ g, v.ownBlock = some g → ¬ Bl g) (hl : l.length ≤ 16777217) :
    Calls Try.prog 25 #[.pointer (some ⟨lg, 0, none⟩), v] w fun e w' => e = .returned (.tuple #[]) ∧ Chg (fun g => Bl g ∨ some g = v.ownBlock) w w' ∧ ∃ a' c' d' na' nc' nd' X' C' D', Lg w' lg (grB (Bv Bl v) w w') (k + 1) a' p c' d' (t + 1) na' np nc' nd' X' Y C' D' := by
  have hb := and_one (t + 1) (by have := h.ln; omega)
  rw [show ((t + 1 : Nat) : Int) = (t : Int) + 1 by omega] at hb
  rcases Nat.mod_two_eq_zero_or_one (t + 1) with e | e
  · rw [e] at hb
    refine (h.keep_even hk hb hv hvB hl).mono ?_
    rintro e w9 ⟨rfl, ch, c', d', nc', nd', C', D', h9⟩
    exact ⟨rfl, ch.mono (fun _ _ e => .inl e), _, _, _, _, _, _, _, _, _, h9⟩
  · rw [e] at hb
    refine (h.keep_odd hk hb hv hvB hl).mono ?_
    rintro e w9 ⟨rfl, ch, a', na', X', h9⟩
    exact ⟨rfl, ch, _, _, _, _, _, _, _, _, _, h9⟩

set_option maxRecDepth 100000 in
set_option maxHeartbeats 8000000 in
theorem Lg.page {w : World} {lg : Nat} {Bl : Nat → Prop} {k : Nat} {a p c d : Value} {t na np nc nd : Nat} {X Y C D : List Value} (h : Lg w lg Bl k a p c d t na np nc nd X Y C D) (hk : k < 2199023255551) {v : Value} {n : Nat} (hv : Sl w 3 v n) (hvB : ∀ g, v.ownBlock = some g → ¬ Bl g) (hn : n ≤ 4398046511104) :
    Calls Try.prog 49 #[.pointer (some ⟨lg, 0, none⟩), v] w fun e w' => e = .returned (.tuple #[]) ∧ Chg (fun g => Bl g ∨ some g = v.ownBlock) w w' ∧ ∃ p' np' Y', Lg w' lg (grB (Bv Bl v) w w') (k + 1) a p' c d t na np' nc nd X Y' C D := by
  obtain ⟨va, vc, hvf⟩ := hv.form
  obtain ⟨xs, hv⟩ := hv
  have hxl : n = xs.length := by have := hv.1; omega
  have hv : SX w 3 v n xs := ⟨hxl, hv⟩
  obtain ⟨x0, hx0⟩ : ∃ x0 : Int, x0 = -1 - ((np / 2 : Nat) : Int) := ⟨_, rfl⟩
  have HX0 : Hid _ := hx0
  have HXL : Hid _ := hxl
  clear hx0 hxl
  obtain ⟨pa, pc, hpf⟩ := h.rp.form
  have hnpb := h.ln.2.1
  have c1 : w.cell? ⟨lg, 1, none⟩ = some (.slice pa np pc) := by rw [← hpf]; exact h.row.cell 1
  have H : Hid _ := h
  have HV : Hid _ := hv
  have HVF : Hid _ := hvf
  have HPF : Hid _ := hpf
  have HVB : Hid _ := hvB
  rw [hvf]
  clear h hv hvB hvf hpf
  go_enter Try.func49, Try.ntmps49
  go_wp2_with fail
  clear c1
  go_loopw [5] (fun i wr => ∃ j : Nat, j ≤ n ∧ i = .int .i64 j ∧ Hid (Chg (fun g => some g = v.ownBlock) w wr ∧ SX wr 3 v n (List.replicate j (.int .i64 x0) ++ xs.drop j))) (fun i _ => n - (intOf i).toNat)
  case atStart => exact ⟨0, Nat.zero_le _, rfl, Chg.refl _ _, HV.out⟩
  case round =>
    obtain ⟨j, hj, rfl, hid⟩ := hrel
    obtain ⟨ch, ho⟩ := hid.out
    clear hid
    by_cases hlt : j < n
    · obtain ⟨g, gc, bv, e, hcel, hfr, hset⟩ := ho.set hlt
      rw [HVF.out] at e
      injection e with e1 _ _
      subst e1
      have K5 : Hid (∀ x, x = .int .i64 (-1 - ((np / 2 : Nat) : Int)) → Chg (fun g => some g = v.ownBlock) w (wr.setCell ⟨g, j, none⟩ x) ∧ SX (wr.setCell ⟨g, j, none⟩ x) 3 v n (List.replicate (j + 1) (.int .i64 x0) ++ xs.drop (j + 1))) := fun x hx => by
        refine ⟨ch.trans ((Chg.refl (fun i => i = g) wr).setCell (.inl rfl) _) (fun i e => .inl (by rw [e, HVF.out]; rfl)), ?_⟩
        rw [← HX0.out] at hx
        have h9 := hset x
        rw [hx] at h9 ⊢
        rw [set_rep (by rw [← HXL.out]; exact hlt)] at h9
        exact h9
      clear ch ho hset
      go_wp2_with fail
      go_roundw
      case rel => exact ⟨j + 1, by omega, by go_num, K5.out _ (by first | rfl | (congr 1; omega))⟩
      case measure => simp [intOf]; omega
    · have hjn : n = j := by omega
      subst hjn
      have ho : SX wr 3 v n (List.replicate n (.int .i64 x0)) := by
        have h9 := ho
        rw [List.drop_eq_nil_of_le (by rw [← HXL.out]; exact Nat.le_refl _), List.append_nil] at h9
        exact h9
      have h := H.out
      have hvB := HVB.out
      obtain ⟨w3, hw3⟩ : ∃ v, v = wr := ⟨_, rfl⟩
      subst hw3
      have bA : ∀ g, a.ownBlock = some g → Bl g := fun g hg => h.bo g (.inl hg)
      have bP : ∀ g, p.ownBlock = some g → Bl g := fun g hg => h.bo g (.inr (.inl hg))
      have bC : ∀ g, c.ownBlock = some g → Bl g := fun g hg => h.bo g (.inr (.inr (.inl hg)))
      have bD : ∀ g, d.ownBlock = some g → Bl g := fun g hg => h.bo g (.inr (.inr (.inr hg)))
      have hvB1 : ∀ g, Bl g → some g ≠ v.ownBlock := fun g hg e => hvB g e.symm hg
      have r3 : Rw w3 lg (lrow a p c d t) 41 := ⟨ch.heap_some h.row.eq (hvB1 lg h.bl)⟩
      have st : ∀ {ty : TypeId} {x : Value} {m : Nat} {Z : List Value}, SX w ty x m Z → (∀ g, x.ownBlock = some g → Bl g) → SX w3 ty x m Z := fun hs hb => hs.chg ch (fun g hg => hvB1 g (hb g hg))
      have a3 := st h.ra bA
      have p3 := st h.rp bP
      have c3 := st h.rc bC
      have d3 := st h.rd bD
      -- the longer one
      obtain ⟨u, w5, hr5, o5, o5', k5, b5⟩ := SX.num (w := w3.drew) ho (-1 - ((np / 2 : Nat) : Int)) 99 (by omega)
      obtain ⟨ua, uc, huf⟩ := o5.form
      subst huf
      have k35 : Chg (fun g => some g = v.ownBlock) w3 w5 := ⟨k5.os, k5.tape, k5.output, k5.size, k5.block⟩
      have r5 : Rw w5 lg (lrow a p c d t) 41 := ⟨k35.heap_some r3.eq (hvB1 lg h.bl)⟩
      have p5 : SX w5 99 p np Y := p3.chg k35 (fun g hg => hvB1 g (bP g hg))
      obtain ⟨p', w6, hr6, s6, k6, b6⟩ := p5.two (.slice va n vc) (.slice ua (n + 1) uc) rfl rfl 39 (by omega)
      obtain ⟨ya, yc, hyf⟩ := s6.form
      subst hyf
      have nl : ∀ {w : World} {ty : TypeId} {x : Value} {m : Nat} {cs : Array Value} {Z : List Value}, SX w ty x m Z → ty ≠ 41 → w.heap[lg]? = some (.cells cs 41 (0, 0)) → ∀ g, x.ownBlock = some g → g ≠ lg := fun hs hty hq g hg e => by
        obtain ⟨cur, e1⟩ := hs.block hg
        exact cells_ne e1 hq hty e
      have r6 : Rw w6 lg (lrow a p c d t) 41 := ⟨k6.heap_some r5.eq (fun e => nl p5 (by decide) r5.eq lg e.symm rfl)⟩
      obtain ⟨w7, hw7⟩ : ∃ w7, w7 = w6.setCell ⟨lg, 1, none⟩ (.slice ya (np + 2) yc) := ⟨_, rfl⟩
      have k7 : Chg (fun i => i = lg) w6 w7 := by rw [hw7]; exact (Chg.refl (fun i => i = lg) w6).setCell (.inl rfl) _
      have r7 : Rw w7 lg (lrow a (.slice ya (np + 2) yc) c d t) 41 := by rw [hw7]; exact Rw.set r6 1 _
      have kw7 : Chg (fun g => Bl g ∨ some g = v.ownBlock) w w7 := (((ch.mono (fun _ _ e => .inr e)).trans k35 (fun _ e => .inl (.inr e))).trans k6 (fun g e => .inl (.inl (bP g e.symm)))).trans k7 (fun g e => .inl (.inl (by rw [e]; exact h.bl)))
      have pB : ∀ g, (Value.slice ya (np + 2) yc).ownBlock = some g → p.ownBlock = some g ∨ w5.heap.size ≤ g := fun g hg => by
        rcases b6 with e | ⟨j, e, hj⟩
        · exact .inl (by rw [← e]; exact hg)
        · rw [hg] at e; injection e with e; subst e; exact .inr hj
      have fin : ∀ {x : Value} {m : Nat} {Z : List Value}, SX w3 48 x m Z → (∀ g, x.ownBlock = some g → Bl g) → SX w7 48 x m Z := fun hs hb => by
        have h5 := hs.chg k35 (fun g hg => hvB1 g (hb g hg))
        have h6 := h5.chg k6 (fun g hg e => by
          obtain ⟨_, e1⟩ := h5.block hg
          obtain ⟨_, e2⟩ := p5.block e.symm
          exact cells_ne e1 e2 (by decide) rfl)
        exact h6.chg k7 (nl h6 (by decide) r6.eq)
      have cww : Chg (fun g => g = lg ∨ some g = v.ownBlock ∨ some g = p.ownBlock) w w7 := (((ch.mono (fun _ _ e => .inr (.inl e))).trans k35 (fun _ e => .inl (.inr (.inl e)))).trans k6 (fun g e => .inl (.inr (.inr e)))).trans k7 (fun g e => .inl (.inl e))
      have hno : ∀ {g : Nat} {cur : Array Value} {ty : TypeId}, ty ≠ 41 → ty ≠ 99 → Bl g → w.heap[g]? = some (.cells cur ty (0, 0)) → ¬ (g = lg ∨ some g = v.ownBlock ∨ some g = p.ownBlock) := fun h1 h2 hg hc e => by
        rcases e with e | e | e
        · exact cells_ne hc h.row.eq h1 e
        · exact hvB1 _ hg e
        · obtain ⟨_, e2⟩ := h.rp.block e.symm
          exact cells_ne hc e2 h2 rfl
      have hld : Ld w7 (grB (Bv Bl v) w w7) X Y C D := h.hold.frame cww (fun g cur hg hc => hno (by decide) (by decide) hg hc) (fun g cur hg hc => hno (by decide) (by decide) hg hc) (fun g hg => .inl (.inl hg))
      have to7 : ∀ {x : Value} {m : Nat} {Z : List Value}, SX w5 3 x m Z → SX w7 3 x m Z := fun hs => by
        have h6 := hs.chg k6 (fun g hg e => by
          obtain ⟨_, e1⟩ := hs.block hg
          obtain ⟨_, e2⟩ := p5.block e.symm
          exact cells_ne e1 e2 (by decide) rfl)
        exact h6.chg k7 (nl h6 (by decide) r6.eq)
      have ov7 : SX w7 3 v n (List.replicate n (.int .i64 x0)) := to7 o5'
      have ou7 : SX w7 3 (.slice ua (n + 1) uc) (n + 1) (List.replicate (n + 1) (.int .i64 x0)) := by
        have h9 := to7 o5
        rw [← HX0.out, ← List.replicate_succ'] at h9
        exact h9
      have hub : ∀ g, (Value.slice ua (n + 1) uc).ownBlock = some g → v.ownBlock = some g ∨ w.heap.size ≤ g := fun g hg => by
        rcases b5 with e | ⟨q, e, hq⟩
        · exact .inl (by rw [← e]; exact hg)
        · rw [hg] at e
          injection e with e
          have h9 := ch.size
          have hq : w3.heap.size ≤ q := hq
          exact .inr (by omega)
      have hnp : np = Y.length := h.rp.1
      have hld2 : Ld w7 (grB (Bv Bl v) w w7) X (Y ++ [.slice va n vc, .slice ua (n + 1) uc]) C D := by
        rw [← HVF.out]
        refine hld.addY (by have := h.ev.2; omega) (n := n) (m := n + 1) (by omega) (by omega) (fun g hg => ⟨.inl (.inr hg), ov7.block hg⟩) (fun g hg => ⟨?_, ou7.block hg⟩) (by rw [← hnp, ← HX0.out]; exact ov7.sn) (by rw [← hnp, ← HX0.out]; exact ou7.sn)
        rcases hub g hg with e | e
        · exact .inl (.inr e)
        · exact .inr ⟨e, ou7.lt hg⟩
      have LG : Hid (Lg w7 lg (grB (Bv Bl v) w w7) (k + 1) a (.slice ya (np + 2) yc) c d t na (np + 2) nc nd X (Y ++ [.slice va n vc, .slice ua (n + 1) uc]) C D) := by
        refine ⟨r7, fin a3 bA, s6.chg k7 (nl s6 (by decide) r6.eq), fin c3 bC, fin d3 bD, h.ac, h.cd, .inl (.inl h.bl), fun g hg => ?_, fun g hg => ?_, by have := h.ln; omega, by have := h.ev; omega, hld2⟩
        · rcases hg with e | e | e | e
          · exact .inl (.inl (bA g e))
          · rcases pB g e with e2 | e2
            · exact .inl (.inl (bP g e2))
            · exact .inr ⟨by have := ch.size; have := k35.size; omega, by have := s6.lt e; have := k7.size; omega⟩
          · exact .inl (.inl (bC g e))
          · exact .inl (.inl (bD g e))
        · rcases hg with (hg | hg) | hg
          · exact Nat.lt_of_lt_of_le (h.low g hg) kw7.size
          · exact ov7.lt hg
          · exact hg.2
      have FIN : Hid (Chg (fun g => Bl g ∨ some g = v.ownBlock) w w7 ∧ ∃ p' np' Y', Lg w7 lg (grB (Bv Bl (.slice va n vc)) w w7) (k + 1) a p' c d t na np' nc nd X Y' C D) := ⟨kw7, _, np + 2, _, by have h9 := LG.out; rw [HVF.out] at h9; exact h9⟩
      have HR5 : Hid ((Builtin.append_ #[99, 99] 99 #[.slice va n vc, .slice (some ⟨w3.heap.size, 0, none⟩) 1 1]).run Try.prog (w3.drew.alloc (.cells #[.int .i64 (-1 - ((np / 2 : Nat) : Int))] 3)) = .ok (.slice ua (n + 1) uc) w5) := by rw [← HVF.out]; exact hr5
      have HR6 : Hid ((Builtin.append_ #[39, 39] 39 #[.slice pa np pc, .slice (some ⟨w5.heap.size, 0, none⟩) 2 2]).run Try.prog (w5.alloc (.cells #[.slice va n vc, .slice ua (n + 1) uc] 99)) = .ok (.slice ya (np + 2) yc) w6) := by rw [← HPF.out]; exact hr6
      have S3 : Hid (w3.drew.cell? ⟨lg, 1, none⟩ = some (.slice pa np pc)) := by rw [← HPF.out]; exact r3.cell 1
      have S4 : Hid (∀ o, (w3.alloc o).drew.cell? ⟨lg, 1, none⟩ = some (.slice pa np pc)) := fun o => by rw [← HPF.out]; exact (r3.alloc o).cell 1
      have S5 : Hid (w5.cell? ⟨lg, 1, none⟩ = some (.slice pa np pc)) := by rw [← HPF.out]; exact r5.cell 1
      have S5a : Hid (∀ o, (w5.alloc o).cell? ⟨lg, 1, none⟩ = some (.slice pa np pc)) := fun o => by rw [← HPF.out]; exact (r5.alloc o).cell 1
      have S6 : Hid (w6.cell? ⟨lg, 1, none⟩ = some (.slice pa np pc)) := by rw [← HPF.out]; exact r6.cell 1
      have F6 : Hid _ := r6.fr 1
      have HW7 : Hid _ := hw7
      clear h hvB bA bP bC bD hvB1 r3 st a3 p3 c3 d3 hr5 o5 k5 b5 k35 r5 p5 hr6 s6 k6 b6 nl r6 hw7 k7 r7 kw7 pB fin LG ch ho hlt hj cww hno hld to7 ov7 ou7 hub hnp hld2 o5'
      go_upto_region 5 with fail
      refine wp_region_held_drew (S := fun _ => True) (by kernel_rfl) trivial (fun _ => ?_)
      refine wpAnyH_take (i := 0) (v := .pointer (some ⟨lg, 0, none⟩)) rfl (by kernel_rfl) (by kernel_rfl) (by kernel_rfl) (fun _ _ _ h => h) (Or.inl ⟨by rfl, fun w' _ => by go_simp⟩) trivial ?_
      refine wpAnyH_take (i := 1) (v := .pointer (some ⟨lg, 0, none⟩)) rfl (by kernel_rfl) (by kernel_rfl) (by kernel_rfl) (fun _ _ _ h => h) (Or.inl ⟨by rfl, fun w' _ => by go_simp⟩) trivial ?_
      refine wpAnyH_take (i := 2) (v := .pointer (some ⟨lg, 0, none⟩)) rfl (by kernel_rfl) (by kernel_rfl) (by kernel_rfl) (fun _ _ _ h => h) (Or.inl ⟨by rfl, fun w' _ => by go_simp⟩) trivial ?_
      refine wpAnyH_take (i := 3) (v := .pointer (some ⟨lg, 1, none⟩)) rfl (by kernel_rfl) (by kernel_rfl) (by kernel_rfl) (fun _ _ _ h => h) (Or.inl ⟨by rfl, fun w' _ => by go_simp⟩) trivial ?_
      refine wpAnyH_take (i := 5) (v := .slice va n vc) rfl (by kernel_rfl) (by kernel_rfl) (by kernel_rfl) (fun _ _ _ h => h) (Or.inl ⟨by rfl, fun w' _ => by go_simp⟩) trivial ?_
      refine wpAnyH_take (i := 6) (v := .slice va n vc) rfl (by kernel_rfl) (by kernel_rfl) (by kernel_rfl) (fun _ _ _ h => h) (Or.inl ⟨by rfl, fun w' _ => by go_simp⟩) trivial ?_
      refine wpAnyH_take (i := 7) (v := .int .i64 np) rfl (by kernel_rfl) (by kernel_rfl) (by kernel_rfl) (fun _ _ _ h => h) (Or.inl ⟨by rfl, fun w' _ => by go_simp⟩) trivial ?_
      refine wpAnyH_take (i := 8) (v := .int .i64 ((np / 2 : Nat) : Int)) rfl (by kernel_rfl) (by kernel_rfl) (by kernel_rfl) (fun _ _ _ h => h) (Or.inl ⟨by rfl, fun w' _ => by go_simp; exact (by rw [IntKind.wrap_i64]; omega)⟩) trivial ?_
      refine wpAnyH_take (i := 9) (v := .int .i64 (-1 - ((np / 2 : Nat) : Int))) rfl (by kernel_rfl) (by kernel_rfl) (by kernel_rfl) (fun _ _ _ h => h) (Or.inl ⟨by rfl, fun w' _ => by go_simp; exact (by rw [IntKind.wrap_i64]; omega)⟩) trivial ?_
      refine wpAnyH_ready (rs := [4, 10]) (by kernel_rfl) (by simp) ?_
      refine AllReadyH.cons rfl (fun KK hKK => ?_) (AllReadyH.cons rfl (fun KK hKK => ?_) AllReadyH.nil)
      · have q4 := S3.out
        go_simp
        refine hKK.out _ _ trivial (fun _ => ?_)
        clear hKK KK q4
        refine wpAnyH_ready (rs := [10]) (by kernel_rfl) (by simp) ?_
        refine AllReadyH.cons rfl (fun KK hKK => ?_) AllReadyH.nil
        go_simp
        refine hKK.out _ _ trivial (fun _ => ?_)
        clear hKK KK
        refine wpAnyH_ready (rs := [11]) (by kernel_rfl) (by simp) ?_
        refine AllReadyH.cons rfl (fun KK hKK => ?_) AllReadyH.nil
        refine step_appN #[99, 99] rfl (.tmp 29) (.tmp 33) rfl (v := .slice va n vc) (u := .slice (some ⟨w3.heap.size, 0, none⟩) 1 1) (by kernel_rfl) (by kernel_rfl) HR5.out ?_
        refine hKK.out _ _ trivial (fun _ => ?_)
        clear hKK KK
        refine wpAnyH_ready (rs := [12]) (by kernel_rfl) (by simp) ?_
        refine AllReadyH.cons rfl (fun KK hKK => ?_) AllReadyH.nil
        go_simp
        refine hKK.out _ _ trivial (fun _ => ?_)
        clear hKK KK
        refine wpAnyH_ready (rs := [13]) (by kernel_rfl) (by simp) ?_
        refine AllReadyH.cons rfl (fun KK hKK => ?_) AllReadyH.nil
        refine step_appN #[39, 39] rfl (.tmp 27) (.tmp 35) rfl (v := .slice pa np pc) (u := .slice (some ⟨w5.heap.size, 0, none⟩) 2 2) (by kernel_rfl) (by kernel_rfl) HR6.out ?_
        refine hKK.out _ _ trivial (fun _ => ?_)
        clear hKK KK
        refine wpAnyH_take (i := 14) (v := .pointer (some ⟨lg, 0, none⟩)) rfl (by kernel_rfl) (by kernel_rfl) (by kernel_rfl) (fun _ _ _ h => h) (Or.inl ⟨by rfl, fun w' _ => by go_simp⟩) trivial ?_
        refine wpAnyH_take (i := 15) (v := .pointer (some ⟨lg, 1, none⟩)) rfl (by kernel_rfl) (by kernel_rfl) (by kernel_rfl) (fun _ _ _ h => h) (Or.inl ⟨by rfl, fun w' _ => by go_simp⟩) trivial ?_
        have s6 := S6.out
        have f6 := F6.out
        refine wpAnyH_ready (rs := [16]) (by kernel_rfl) (by simp) ?_
        refine AllReadyH.cons rfl (fun KK hKK => ?_) AllReadyH.nil
        go_simp
        refine hKK.out _ _ trivial (fun _ => ?_)
        clear hKK KK s6 f6
        refine wpAnyH_done (by kernel_rfl) ?_ _
        rw [← HW7.out]
        go_end0
        exact ⟨rfl, by rw [← HVF.out]; exact FIN.out.1, FIN.out.2⟩
      · go_simp
        refine hKK.out _ _ trivial (fun _ => ?_)
        clear hKK KK
        refine wpAnyH_ready (rs := [4, 11]) (by kernel_rfl) (by simp) ?_
        refine AllReadyH.cons rfl (fun KK hKK => ?_) (AllReadyH.cons rfl (fun KK hKK => ?_) AllReadyH.nil)
        · have q4 := S4.out
          go_simp
          refine hKK.out _ _ trivial (fun _ => ?_)
          clear hKK KK q4
          refine wpAnyH_ready (rs := [11]) (by kernel_rfl) (by simp) ?_
          refine AllReadyH.cons rfl (fun KK hKK => ?_) AllReadyH.nil
          refine step_appN #[99, 99] rfl (.tmp 29) (.tmp 33) rfl (v := .slice va n vc) (u := .slice (some ⟨w3.heap.size, 0, none⟩) 1 1) (by kernel_rfl) (by kernel_rfl) HR5.out ?_
          refine hKK.out _ _ trivial (fun _ => ?_)
          clear hKK KK
          refine wpAnyH_ready (rs := [12]) (by kernel_rfl) (by simp) ?_
          refine AllReadyH.cons rfl (fun KK hKK => ?_) AllReadyH.nil
          go_simp
          refine hKK.out _ _ trivial (fun _ => ?_)
          clear hKK KK
          refine wpAnyH_ready (rs := [13]) (by kernel_rfl) (by simp) ?_
          refine AllReadyH.cons rfl (fun KK hKK => ?_) AllReadyH.nil
          refine step_appN #[39, 39] rfl (.tmp 27) (.tmp 35) rfl (v := .slice pa np pc) (u := .slice (some ⟨w5.heap.size, 0, none⟩) 2 2) (by kernel_rfl) (by kernel_rfl) HR6.out ?_
          refine hKK.out _ _ trivial (fun _ => ?_)
          clear hKK KK
          refine wpAnyH_take (i := 14) (v := .pointer (some ⟨lg, 0, none⟩)) rfl (by kernel_rfl) (by kernel_rfl) (by kernel_rfl) (fun _ _ _ h => h) (Or.inl ⟨by rfl, fun w' _ => by go_simp⟩) trivial ?_
          refine wpAnyH_take (i := 15) (v := .pointer (some ⟨lg, 1, none⟩)) rfl (by kernel_rfl) (by kernel_rfl) (by kernel_rfl) (fun _ _ _ h => h) (Or.inl ⟨by rfl, fun w' _ => by go_simp⟩) trivial ?_
          have s6 := S6.out
          have f6 := F6.out
          refine wpAnyH_ready (rs := [16]) (by kernel_rfl) (by simp) ?_
          refine AllReadyH.cons rfl (fun KK hKK => ?_) AllReadyH.nil
          go_simp
          refine hKK.out _ _ trivial (fun _ => ?_)
          clear hKK KK s6 f6
          refine wpAnyH_done (by kernel_rfl) ?_ _
          rw [← HW7.out]
          go_end0
          exact ⟨rfl, by rw [← HVF.out]; exact FIN.out.1, FIN.out.2⟩
        · refine step_appN #[99, 99] rfl (.tmp 29) (.tmp 33) rfl (v := .slice va n vc) (u := .slice (some ⟨w3.heap.size, 0, none⟩) 1 1) (by kernel_rfl) (by kernel_rfl) HR5.out ?_
          refine hKK.out _ _ trivial (fun _ => ?_)
          clear hKK KK
          refine wpAnyH_ready (rs := [4, 12]) (by kernel_rfl) (by simp) ?_
          refine AllReadyH.cons rfl (fun KK hKK => ?_) (AllReadyH.cons rfl (fun KK hKK => ?_) AllReadyH.nil)
          · have q4 := S5.out
            go_simp
            refine hKK.out _ _ trivial (fun _ => ?_)
            clear hKK KK q4
            refine wpAnyH_ready (rs := [12]) (by kernel_rfl) (by simp) ?_
            refine AllReadyH.cons rfl (fun KK hKK => ?_) AllReadyH.nil
            go_simp
            refine hKK.out _ _ trivial (fun _ => ?_)
            clear hKK KK
            refine wpAnyH_ready (rs := [13]) (by kernel_rfl) (by simp) ?_
            refine AllReadyH.cons rfl (fun KK hKK => ?_) AllReadyH.nil
            refine step_appN #[39, 39] rfl (.tmp 27) (.tmp 35) rfl (v := .slice pa np pc) (u := .slice (some ⟨w5.heap.size, 0, none⟩) 2 2) (by kernel_rfl) (by kernel_rfl) HR6.out ?_
            refine hKK.out _ _ trivial (fun _ => ?_)
            clear hKK KK
            refine wpAnyH_take (i := 14) (v := .pointer (some ⟨lg, 0, none⟩)) rfl (by kernel_rfl) (by kernel_rfl) (by kernel_rfl) (fun _ _ _ h => h) (Or.inl ⟨by rfl, fun w' _ => by go_simp⟩) trivial ?_
            refine wpAnyH_take (i := 15) (v := .pointer (some ⟨lg, 1, none⟩)) rfl (by kernel_rfl) (by kernel_rfl) (by kernel_rfl) (fun _ _ _ h => h) (Or.inl ⟨by rfl, fun w' _ => by go_simp⟩) trivial ?_
            have s6 := S6.out
            have f6 := F6.out
            refine wpAnyH_ready (rs := [16]) (by kernel_rfl) (by simp) ?_
            refine AllReadyH.cons rfl (fun KK hKK => ?_) AllReadyH.nil
            go_simp
            refine hKK.out _ _ trivial (fun _ => ?_)
            clear hKK KK s6 f6
            refine wpAnyH_done (by kernel_rfl) ?_ _
            rw [← HW7.out]
            go_end0
            exact ⟨rfl, by rw [← HVF.out]; exact FIN.out.1, FIN.out.2⟩
          · go_simp
            refine hKK.out _ _ trivial (fun _ => ?_)
            clear hKK KK
            refine wpAnyH_ready (rs := [4]) (by kernel_rfl) (by simp) ?_
            refine AllReadyH.cons rfl (fun KK hKK => ?_) AllReadyH.nil
            have q4 := S5a.out
            go_simp
            refine hKK.out _ _ trivial (fun _ => ?_)
            clear hKK KK q4
            refine wpAnyH_ready (rs := [13]) (by kernel_rfl) (by simp) ?_
            refine AllReadyH.cons rfl (fun KK hKK => ?_) AllReadyH.nil
            refine step_appN #[39, 39] rfl (.tmp 27) (.tmp 35) rfl (v := .slice pa np pc) (u := .slice (some ⟨w5.heap.size, 0, none⟩) 2 2) (by kernel_rfl) (by kernel_rfl) HR6.out ?_
            refine hKK.out _ _ trivial (fun _ => ?_)
            clear hKK KK
            refine wpAnyH_take (i := 14) (v := .pointer (some ⟨lg, 0, none⟩)) rfl (by kernel_rfl) (by kernel_rfl) (by kernel_rfl) (fun _ _ _ h => h) (Or.inl ⟨by rfl, fun w' _ => by go_simp⟩) trivial ?_
            refine wpAnyH_take (i := 15) (v := .pointer (some ⟨lg, 1, none⟩)) rfl (by kernel_rfl) (by kernel_rfl) (by kernel_rfl) (fun _ _ _ h => h) (Or.inl ⟨by rfl, fun w' _ => by go_simp⟩) trivial ?_
            have s6 := S6.out
            have f6 := F6.out
            refine wpAnyH_ready (rs := [16]) (by kernel_rfl) (by simp) ?_
            refine AllReadyH.cons rfl (fun KK hKK => ?_) AllReadyH.nil
            go_simp
            refine hKK.out _ _ trivial (fun _ => ?_)
            clear hKK KK s6 f6
            refine wpAnyH_done (by kernel_rfl) ?_ _
            rw [← HW7.out]
            go_end0
            exact ⟨rfl, by rw [← HVF.out]; exact FIN.out.1, FIN.out.2⟩
end Go.Proofs.Ytddnecfnjnipjaa
