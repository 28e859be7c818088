/-
  The ledger, exactly: keep in an even turn.
-/
import Derived.Test.YtddnecfnjnipjaaLxB
namespace Go.Proofs.Ytddnecfnjnipjaa
open Go.RowKit

theorem step_appS {ops : Array Oper} {o : Oper} {a : Act} {w w' : World} {K : Act → World → Prop} {Q : Exit → Act → World → Prop} {E : Prop} (hgd : o.guard = none) (s x : Operand)
    (ho : o.op = .call { callee := .builtin .append, args := #[s, x], argTypes := #[38, 38] }) {v u v' : Value} (hs : a.eval s = v) (hx : a.eval x = u) (hr : (Builtin.append_ #[38, 38] o.type #[v, u]).run Try.prog w = .ok v' w') (h : K (a.put o.dst v') w') :
    if Region.wanted o (yielded ops a.tmps) = true then Oper.wp Try.prog o a w K Q else E := by
  have hw : Region.wanted o (yielded ops a.tmps) = true := by simp [Region.wanted, hgd]
  rw [if_pos hw]
  unfold Oper.wp execOp
  simp only [ho, resolve, invoke, builtin, Sem.run_bind, Sem.run_pure, Result.andThen_ok, List.map_toArray, List.map_cons, List.map_nil, hs, hx, hr]
  exact h
theorem step_appB {ops : Array Oper} {o : Oper} {a : Act} {w w' : World} {K : Act → World → Prop} {Q : Exit → Act → World → Prop} {E : Prop} (hgd : o.guard = none) (s x : Operand)
    (ho : o.op = .call { callee := .builtin .append, args := #[s, x], argTypes := #[48, 48] }) {v u v' : Value} (hs : a.eval s = v) (hx : a.eval x = u) (hr : (Builtin.append_ #[48, 48] o.type #[v, u]).run Try.prog w = .ok v' w') (h : K (a.put o.dst v') w') :
    if Region.wanted o (yielded ops a.tmps) = true then Oper.wp Try.prog o a w K Q else E := by
  have hw : Region.wanted o (yielded ops a.tmps) = true := by simp [Region.wanted, hgd]
  rw [if_pos hw]
  unfold Oper.wp execOp
  simp only [ho, resolve, invoke, builtin, Sem.run_bind, Sem.run_pure, Result.andThen_ok, List.map_toArray, List.map_cons, List.map_nil, hs, hx, hr]
  exact h
theorem own_empty (w : World) : Own (w.alloc (.cells #[] 5)) (.slice (some ⟨w.heap.size, 0, none⟩) 0 0) [] := World.ownsRow_made w #[] 0 (Nat.zero_le _) (by unfold maxLen; omega) rfl

/-- One slice more in a list of slices. -/
theorem SX.one {w : World} {v : Value} {n : Nat} {X : List Value} (hv : SX w 48 v n X) (u : Value) (hu : u.oneCell' = true) (ty : TypeId) (hb : n + 1 ≤ 4398046511104) :
    ∃ v' w', (Builtin.append_ #[38, 38] ty #[v, .slice (some ⟨w.heap.size, 0, none⟩) 1 1]).run Try.prog (w.alloc (.cells #[u] 48)) = .ok v' w' ∧ SX w' 48 v' (n + 1) (X ++ [u]) ∧ Chg (fun k => some k = v.ownBlock) w w' ∧ (v'.ownBlock = v.ownBlock ∨ ∃ k, v'.ownBlock = some k ∧ w.heap.size ≤ k) := by
  have k3 : Chg (fun _ => False) w (w.alloc (.cells #[u] 48)) := (Chg.refl _ _).alloc _
  obtain ⟨a', w4, hr4, s4, k4, b4⟩ := run_appX (w.alloc (.cells #[u] 48)) ty (hv.chg k3 (fun _ _ h => h)) ⟨w.heap.size, 0, none⟩ [u] 1 (fun i y hy => by rw [addr_add, Nat.zero_add, cell_of_row _ _ _ _ _ _ (heap_alloc_new _ _)]; simpa using hy) (fun y hy => by simp at hy; subst hy; exact hu) (by simp; omega)
  exact ⟨a', w4, hr4, s4, (k3.mono (fun _ _ h => h.elim)).trans k4 (fun _ e => .inl e), b4.imp id (fun e => ⟨_, e, k3.size⟩)⟩

set_option maxRecDepth 100000 in
set_option maxHeartbeats 8000000 in
theorem Lg.keep_even {w : World} {lg : Nat} {Bl : Nat → Prop} {k : Nat} {a p c d : Value} {t na np nc nd : Nat} {X Y C D : List Value} (h : Lg w lg Bl k a p c d t na np nc nd X Y C D) (hk : k < 2199023255551) (ht : bits BinOp.and IntKind.i64 ((t : Int) + 1) 1 = 0) {v : Value} {l : List Int} (hv : Own w v l) (hvB : ∀ g, v.ownBlock = some g → ¬ Bl g) (hl : l.length ≤ 16777217) :
    Calls Try.prog 25 #[.pointer (some ⟨lg, 0, none⟩), v] w fun e w' => e = .returned (.tuple #[]) ∧ Chg Bl w w' ∧ ∃ c' d' nc' nd' C' D', Lg w' lg (grB (Bv Bl v) w w') (k + 1) a p c' d' (t + 1) na np nc' nd' X Y C' D' := by
  obtain ⟨n, hn⟩ : ∃ n, n = l.length := ⟨_, rfl⟩
  obtain ⟨va, vc, hvf⟩ := Own.form hv
  rw [← hn] at hvf hl
  obtain ⟨ca, cc, hcf⟩ := h.rc.form
  obtain ⟨da, dc, hdf⟩ := h.rd.form
  have c4 : w.cell? ⟨lg, 4, none⟩ = some (.int .i64 t) := h.row.cell 4
  have f4 := h.row.fr 4
  have htb : t ≤ k := h.ln.2.2.2.2
  have hncb := h.ln.2.2.1
  have hndb := h.ln.2.2.2.1
  have bA : ∀ g, a.ownBlock = some g → Bl g := fun g hg => h.bo g (.inl hg)
  have bP : ∀ g, p.ownBlock = some g → Bl g := fun g hg => h.bo g (.inr (.inl hg))
  have bC : ∀ g, c.ownBlock = some g → Bl g := fun g hg => h.bo g (.inr (.inr (.inl hg)))
  have bD : ∀ g, d.ownBlock = some g → Bl g := fun g hg => h.bo g (.inr (.inr (.inr hg)))
  have nl : ∀ {w : World} {ty : TypeId} {x : Value} {m : Nat} {cs : Array Value} {Z : List Value}, SX w ty x m Z → ty ≠ 41 → w.heap[lg]? = some (.cells cs 41 (0, 0)) → ∀ g, x.ownBlock = some g → g ≠ lg := fun hs hty hq g hg e => by
    obtain ⟨cur, e1⟩ := hs.block hg
    exact cells_ne e1 hq hty e
  -- the turn
  obtain ⟨w1, hw1⟩ : ∃ w1, w1 = w.setCell ⟨lg, 4, none⟩ (.int .i64 ((t : Int) + 1)) := ⟨_, rfl⟩
  have r1 : Rw w1 lg (lrow a p c d ((t : Int) + 1)) 41 := by rw [hw1]; exact Rw.set h.row 4 _
  have k1 : Chg (fun i => i = lg) w w1 := by rw [hw1]; exact (Chg.refl (fun i => i = lg) w).setCell (.inl rfl) _
  have a1 : SX w1 48 a na X := h.ra.chg k1 (nl h.ra (by decide) h.row.eq)
  have p1 : SX w1 99 p np Y := h.rp.chg k1 (nl h.rp (by decide) h.row.eq)
  have c1 : SX w1 48 c nc C := h.rc.chg k1 (nl h.rc (by decide) h.row.eq)
  have d1 : SX w1 48 d nd D := h.rd.chg k1 (nl h.rd (by decide) h.row.eq)
  -- Late
  obtain ⟨c', w2, hr2, s2, k2, b2⟩ := c1.one v (by rw [hvf]; rfl) 38 (by omega)
  obtain ⟨xa, xc, hxf⟩ := s2.form
  have cne : ∀ {x : Value} {m : Nat} {ty : TypeId} {Z : List Value}, SX w1 ty x m Z → (∀ g, x.ownBlock = some g → c.ownBlock ≠ some g) → SX w2 ty x m Z := fun hs hn => hs.chg k2 (fun g hg e => hn g hg e.symm)
  have r2 : Rw w2 lg (lrow a p c d ((t : Int) + 1)) 41 := ⟨k2.heap_some r1.eq (fun e => nl c1 (by decide) r1.eq lg e.symm rfl)⟩
  have a2 : SX w2 48 a na X := cne a1 (fun g hg => (h.ac g hg).1)
  have p2 : SX w2 99 p np Y := cne p1 (fun g hg e => by
    obtain ⟨_, e1⟩ := p1.block hg
    obtain ⟨_, e2⟩ := c1.block e
    exact cells_ne e1 e2 (by decide) rfl)
  have d2 : SX w2 48 d nd D := cne d1 (fun g hg e => h.cd g e hg)
  obtain ⟨w3, hw3⟩ : ∃ w3, w3 = w2.setCell ⟨lg, 2, none⟩ c' := ⟨_, rfl⟩
  have k3 : Chg (fun i => i = lg) w2 w3 := by rw [hw3]; exact (Chg.refl (fun i => i = lg) w2).setCell (.inl rfl) _
  have r3 : Rw w3 lg (lrow a p c' d ((t : Int) + 1)) 41 := by rw [hw3]; exact Rw.set r2 2 c'
  have a3 : SX w3 48 a na X := a2.chg k3 (nl a2 (by decide) r2.eq)
  have p3 : SX w3 99 p np Y := p2.chg k3 (nl p2 (by decide) r2.eq)
  have c3 : SX w3 48 c' (nc + 1) (C ++ [v]) := s2.chg k3 (nl s2 (by decide) r2.eq)
  have d3 : SX w3 48 d nd D := d2.chg k3 (nl d2 (by decide) r2.eq)
  have k03 : Chg Bl w w3 := ((k1.mono (fun _ _ e => by rw [e]; exact h.bl)).trans k2 (fun g e => .inl (bC g e.symm))).trans k3 (fun g e => .inl (by rw [e]; exact h.bl))
  have v3 : Src w3 v l := (Own.src hv).kept k03 (fun g hg => hvB g hg)
  -- Was
  obtain ⟨u, w5, hr5, o5, k5, b5⟩ := run_app (w3.drew.alloc (.cells #[] 5)) 48 (own_empty w3.drew) (v3.kept (S := fun _ => False) ((Chg.refl (fun _ => False) w3).drew.alloc _) (fun _ _ h => h)) (by simp; omega)
  obtain ⟨ua, uc, huf⟩ := o5.form
  rw [List.nil_append, ← hn] at huf
  subst huf
  have ke : Chg (fun _ => False) w3 (w3.drew.alloc (.cells #[] 5)) := (Chg.refl (fun _ => False) w3).drew.alloc _
  have k35 : Chg (fun _ => False) w3 w5 := ke.trans k5 (fun g e => .inr (by
    have e : some g = some w3.drew.heap.size := e
    injection e with e
    have : w3.drew.heap.size = w3.heap.size := rfl
    omega))
  have d5 : SX w5 48 d nd D := d3.chg k35 (fun _ _ h => h)
  obtain ⟨d', w6, hr6, s6, k6, b6⟩ := d5.one (.slice ua n uc) rfl 38 (by omega)
  obtain ⟨ya, yc, hyf⟩ := s6.form
  subst hyf
  have r5 : Rw w5 lg (lrow a p c' d ((t : Int) + 1)) 41 := ⟨k35.heap_some r3.eq (fun h => h)⟩
  have r6 : Rw w6 lg (lrow a p c' d ((t : Int) + 1)) 41 := ⟨k6.heap_some r5.eq (fun e => nl d5 (by decide) r5.eq lg e.symm rfl)⟩
  have k36 : Chg (fun g => some g = d.ownBlock) w3 w6 := (k35.mono (fun _ _ h => h.elim)).trans k6 (fun _ e => .inl e)
  have s12 : w1.heap.size = w.heap.size ∧ w1.heap.size ≤ w2.heap.size ∧ w2.heap.size ≤ w3.heap.size ∧ w3.heap.size ≤ w5.heap.size := ⟨by rw [hw1]; simp, k2.size, k3.size, k35.size⟩
  have cB : ∀ g, c'.ownBlock = some g → c.ownBlock = some g ∨ (w.heap.size ≤ g ∧ g < w2.heap.size) := fun g hg => by
    rcases b2 with e | ⟨j, e, hj⟩
    · exact .inl (by rw [← e]; exact hg)
    · rw [hg] at e; injection e with e; subst e; exact .inr ⟨by omega, s2.lt hg⟩
  have dB : ∀ g, (Value.slice ya (nd + 1) yc).ownBlock = some g → d.ownBlock = some g ∨ w5.heap.size ≤ g := fun g hg => by
    rcases b6 with e | ⟨j, e, hj⟩
    · exact .inl (by rw [← e]; exact hg)
    · rw [hg] at e; injection e with e; subst e; exact .inr hj
  obtain ⟨w7, hw7⟩ : ∃ w7, w7 = w6.setCell ⟨lg, 3, none⟩ (.slice ya (nd + 1) yc) := ⟨_, rfl⟩
  have k7 : Chg (fun i => i = lg) w6 w7 := by rw [hw7]; exact (Chg.refl (fun i => i = lg) w6).setCell (.inl rfl) _
  have r7 : Rw w7 lg (lrow a p c' (.slice ya (nd + 1) yc) ((t : Int) + 1)) 41 := by rw [hw7]; exact Rw.set r6 3 (.slice ya (nd + 1) yc)
  have kw7 : Chg Bl w w7 := (k03.trans k36 (fun g e => .inl (bD g e.symm))).trans k7 (fun g e => .inl (by rw [e]; exact h.bl))
  have fin : ∀ {ty : TypeId} {x : Value} {m : Nat} {Z : List Value}, SX w3 ty x m Z → ty ≠ 41 → (∀ g, x.ownBlock = some g → d.ownBlock ≠ some g) → SX w7 ty x m Z := fun hs hty hn => by
    have h6 := hs.chg k36 (fun g hg e => hn g hg e.symm)
    exact h6.chg k7 (nl h6 hty r6.eq)
  have cww : Chg (fun g => g = lg ∨ some g = c.ownBlock ∨ some g = d.ownBlock) w w7 := ((((k1.mono (fun _ _ e => .inl e)).trans k2 (fun g e => .inl (.inr (.inl e)))).trans k3 (fun g e => .inl (.inl e))).trans k36 (fun g e => .inl (.inr (.inr e)))).trans k7 (fun g e => .inl (.inl e))
  have hno : ∀ {g : Nat} {cur : Array Value} {ty : TypeId}, ty ≠ 41 → ty ≠ 48 → w.heap[g]? = some (.cells cur ty (0, 0)) → ¬ (g = lg ∨ some g = c.ownBlock ∨ some g = d.ownBlock) := fun h1 h2 hc e => by
    rcases e with e | e | e
    · exact cells_ne hc h.row.eq h1 e
    · obtain ⟨_, e2⟩ := h.rc.block e.symm
      exact cells_ne hc e2 h2 rfl
    · obtain ⟨_, e2⟩ := h.rd.block e.symm
      exact cells_ne hc e2 h2 rfl
  have hld : Ld w7 (grB (Bv Bl v) w w7) X Y C D := h.hold.frame cww (fun g cur _ hc => hno (by decide) (by decide) hc) (fun g cur _ hc => hno (by decide) (by decide) hc) (fun g hg => .inl (.inl hg))
  have ov7 : Own w7 v l := Own.kept hv kw7 (fun g hg => hvB g hg)
  have hub : ∀ g, (Value.slice ua n uc).ownBlock = some g → w.heap.size ≤ g := fun g hg => by
    rcases b5 with e | e
    · have e : (Value.slice ua n uc).ownBlock = some w3.drew.heap.size := e
      rw [hg] at e
      injection e with e
      have : w3.drew.heap.size = w3.heap.size := rfl
      omega
    · rw [hg] at e
      injection e with e
      have := ke.size
      omega
  have ou7 : Own w7 (.slice ua n uc) l := by
    have h1 : Own w5 (.slice ua n uc) l := o5
    refine Own.kept (Own.kept h1 k6 (fun g hg e => ?_)) k7 (fun g hg e => ?_)
    · have := hub g hg
      have := h.low g (bD g e.symm)
      omega
    · have := hub g hg
      have := h.low lg h.bl
      omega
  have hld2 : Ld w7 (grB (Bv Bl v) w w7) X Y (C ++ [v]) (D ++ [.slice ua n uc]) := by
    have inB : ∀ g y, y ∈ X ∨ y ∈ C ++ D → y.ownBlock = some g → Bl g := fun g y hy e => by
      rcases hy with hy | hy
      · obtain ⟨i, hi⟩ := List.getElem?_of_mem hy
        exact ((h.hold.x i y hi).1 g e).1
      · exact (h.hold.btC hy g e).1
    refine hld.addC (l := l) (by rw [← hn]; exact hl) (fun g hg => ⟨.inl (.inr hg), own_block ov7 hg⟩) (fun g hg => ⟨.inr ⟨hub g hg, Own.lt ou7 hg⟩, own_block ou7 hg⟩) ov7 ou7 (fun g hg e => ?_) (fun g y hy hg e => hvB g hg (inB g y hy e)) (fun g y hy hg e => ?_)
    · have := Own.lt hv hg
      have := hub g e
      omega
    · have := h.low g (inB g y hy e)
      have := hub g hg
      omega
  have LG : Hid (Lg w7 lg (grB (Bv Bl v) w w7) (k + 1) a p c' (.slice ya (nd + 1) yc) (t + 1) na np (nc + 1) (nd + 1) X Y (C ++ [v]) (D ++ [.slice ua n uc])) := by
    refine ⟨?_, fin a3 (by decide) (fun g hg => (h.ac g hg).2), fin p3 (by decide) (fun g hg e => ?_), fin c3 (by decide) (fun g hg e => ?_), s6.chg k7 (nl s6 (by decide) r6.eq), fun g hg => ⟨fun e => ?_, fun e => ?_⟩, fun g hg e => ?_, .inl (.inl h.bl), fun g hg => ?_, fun g hg => ?_, ?_, h.ev, hld2⟩
    · rw [show ((t + 1 : Nat) : Int) = (t : Int) + 1 by omega]
      exact r7
    · obtain ⟨_, e1⟩ := p3.block hg
      obtain ⟨_, e2⟩ := d3.block e
      exact cells_ne e1 e2 (by decide) rfl
    · rcases cB g hg with e2 | e2
      · exact h.cd g e2 e
      · have := h.rd.lt e; omega
    · rcases cB g e with e2 | e2
      · exact (h.ac g hg).1 e2
      · have := h.ra.lt hg; omega
    · rcases dB g e with e2 | e2
      · exact (h.ac g hg).2 e2
      · have := h.ra.lt hg; omega
    · rcases cB g hg with e1 | e1 <;> rcases dB g e with e2 | e2
      · exact h.cd g e1 e2
      · have := h.rc.lt e1; omega
      · have := h.rd.lt e2; omega
      · omega
    · have hsz := kw7.size
      rcases hg with e | e | e | e
      · exact .inl (.inl (bA g e))
      · exact .inl (.inl (bP g e))
      · rcases cB g e with e2 | e2
        · exact .inl (.inl (bC g e2))
        · exact .inr ⟨e2.1, by have := k36.size; have := k7.size; omega⟩
      · rcases dB g e with e2 | e2
        · exact .inl (.inl (bD g e2))
        · exact .inr ⟨by omega, by have := s6.lt e; have := k7.size; omega⟩
    · rcases hg with (hg | hg) | hg
      · exact Nat.lt_of_lt_of_le (h.low g hg) kw7.size
      · exact Own.lt ov7 hg
      · exact hg.2
    · have := h.ln
      omega
  have FIN : Hid (Chg Bl w w7 ∧ ∃ c' d' nc' nd' C' D', Lg w7 lg (grB (Bv Bl (.slice va n vc)) w w7) (k + 1) a p c' d' (t + 1) na np nc' nd' X Y C' D') := by
    rw [← hvf]
    exact ⟨kw7, c', (.slice ya (nd + 1) yc), nc + 1, nd + 1, C ++ [v], D ++ [.slice ua n uc], LG.out⟩
  have d4 : w1.cell? ⟨lg, 4, none⟩ = some (.int .i64 ((t : Int) + 1)) := r1.cell 4
  have g2 : ∀ o, (w1.alloc o).cell? ⟨lg, 2, none⟩ = some (.slice ca nc cc) := fun o => by rw [← hcf]; exact (r1.alloc o).cell 2
  have g20 : w1.cell? ⟨lg, 2, none⟩ = some (.slice ca nc cc) := by rw [← hcf]; exact r1.cell 2
  have h22 : w2.cell? ⟨lg, 2, none⟩ = some (.slice ca nc cc) := by rw [← hcf]; exact r2.cell 2
  have f22 := r2.fr 2
  have HR2 : Hid ((Builtin.append_ #[38, 38] 38 #[.slice ca nc cc, .slice (some ⟨w1.heap.size, 0, none⟩) 1 1]).run Try.prog (w1.alloc (.cells #[.slice va n vc] 48)) = .ok (.slice xa (nc + 1) xc) w2) := by rw [← hcf, ← hvf, ← hxf]; exact hr2
  have hw3' : w2.setCell ⟨lg, 2, none⟩ (.slice xa (nc + 1) xc) = w3 := by rw [hw3, hxf]
  have HR5 : Hid ((Builtin.append_ #[48, 48] 48 #[.slice (some ⟨w3.heap.size, 0, none⟩) 0 0, .slice va n vc]).run Try.prog (w3.drew.alloc (.cells #[] 5)) = .ok (.slice ua n uc) w5) := by rw [← hvf]; exact hr5
  have HR6 : Hid ((Builtin.append_ #[38, 38] 38 #[.slice da nd dc, .slice (some ⟨w5.heap.size, 0, none⟩) 1 1]).run Try.prog (w5.alloc (.cells #[.slice ua n uc] 48)) = .ok (.slice ya (nd + 1) yc) w6) := by rw [← hdf]; exact hr6
  have S3 : Hid (w3.drew.cell? ⟨lg, 3, none⟩ = some (.slice da nd dc)) := by rw [← hdf]; exact r3.cell 3
  have S4 : Hid (∀ o, (w3.alloc o).drew.cell? ⟨lg, 3, none⟩ = some (.slice da nd dc)) := fun o => by rw [← hdf]; exact (r3.alloc o).cell 3
  have S5 : Hid (w5.cell? ⟨lg, 3, none⟩ = some (.slice da nd dc)) := by rw [← hdf]; exact r5.cell 3
  have S5a : Hid (∀ o, (w5.alloc o).cell? ⟨lg, 3, none⟩ = some (.slice da nd dc)) := fun o => by rw [← hdf]; exact (r5.alloc o).cell 3
  have S6 : Hid (w6.cell? ⟨lg, 3, none⟩ = some (.slice da nd dc)) := by rw [← hdf]; exact r6.cell 3
  have F6 : Hid _ := r6.fr 3
  have HW7 : Hid _ := hw7
  have HW3 : Hid _ := hw3'
  have G2 : Hid _ := (⟨g2, g20, h22, f22⟩ : (∀ o, (w1.alloc o).cell? ⟨lg, 2, none⟩ = some (.slice ca nc cc)) ∧ w1.cell? ⟨lg, 2, none⟩ = some (.slice ca nc cc) ∧ w2.cell? ⟨lg, 2, none⟩ = some (.slice ca nc cc) ∧ w2.frozen? ⟨lg, 2, none⟩ = false)
  rw [hvf]
  clear h hv hvB hn hvf hcf hdf bA bP bC bD nl r1 k1 a1 p1 c1 d1 hr2 s2 k2 b2 hxf cne r2 a2 p2 d2 hw3 k3 r3 a3 p3 c3 d3 k03 v3 hr5 o5 k5 b5 ke k35 d5 hr6 s6 k6 b6 r5 r6 k36 s12 cB dB hw7 k7 r7 kw7 fin LG cww hno hld ov7 hub ou7 hld2 g2 g20 h22 f22 hw3' hncb hndb
  go_enter Try.func25, Try.ntmps25
  go_upto_region 1 with fail
  rw [← hw1]
  clear hw1 c4 f4
  go_upto_region 2 with fail
  clear d4 ht
  obtain ⟨g2, g20, h22, f22⟩ := G2.out
  go_upto_region 3 with (refine wpList_appS rfl (.tmp 25) (.tmp 27) rfl (v := .slice ca nc cc) (u := .slice (some ⟨w1.heap.size, 0, none⟩) 1 1) (v' := .slice xa (nc + 1) xc) (w' := w2) rfl rfl HR2.out ?_)
  rw [HW3.out]
  clear g2 g20 h22 f22
  refine wp_region_held_drew (S := fun _ => True) (by kernel_rfl) trivial (fun _ => ?_)
  refine wpAnyH_take (i := 0) (v := .pointer (some ⟨lg, 0, none⟩)) rfl (by kernel_rfl) (by kernel_rfl) (by kernel_rfl) (fun _ _ _ h => h) (Or.inl ⟨by rfl, fun w' _ => by go_simp⟩) trivial ?_
  refine wpAnyH_take (i := 1) (v := .pointer (some ⟨lg, 0, none⟩)) rfl (by kernel_rfl) (by kernel_rfl) (by kernel_rfl) (fun _ _ _ h => h) (Or.inl ⟨by rfl, fun w' _ => by go_simp⟩) trivial ?_
  refine wpAnyH_take (i := 2) (v := .pointer (some ⟨lg, 0, none⟩)) rfl (by kernel_rfl) (by kernel_rfl) (by kernel_rfl) (fun _ _ _ h => h) (Or.inl ⟨by rfl, fun w' _ => by go_simp⟩) trivial ?_
  refine wpAnyH_take (i := 3) (v := .pointer (some ⟨lg, 3, none⟩)) rfl (by kernel_rfl) (by kernel_rfl) (by kernel_rfl) (fun _ _ _ h => h) (Or.inl ⟨by rfl, fun w' _ => by go_simp⟩) trivial ?_
  refine wpAnyH_take (i := 6) (v := .slice va n vc) rfl (by kernel_rfl) (by kernel_rfl) (by kernel_rfl) (fun _ _ _ h => h) (Or.inl ⟨by rfl, fun w' _ => by go_simp⟩) trivial ?_
  refine wpAnyH_ready (rs := [4, 5]) (by kernel_rfl) (by simp) ?_
  refine AllReadyH.cons rfl (fun KK hKK => ?_) (AllReadyH.cons rfl (fun KK hKK => ?_) AllReadyH.nil)
  · have q4 := S3.out
    go_simp
    refine hKK.out _ _ trivial (fun _ => ?_)
    clear hKK KK q4
    refine wpAnyH_ready (rs := [5]) (by kernel_rfl) (by simp) ?_
    refine AllReadyH.cons rfl (fun KK hKK => ?_) AllReadyH.nil
    go_simp
    refine hKK.out _ _ trivial (fun _ => ?_)
    clear hKK KK
    refine wpAnyH_ready (rs := [7]) (by kernel_rfl) (by simp) ?_
    refine AllReadyH.cons rfl (fun KK hKK => ?_) AllReadyH.nil
    refine step_appB rfl (.tmp 36) (.tmp 37) rfl (v := .slice (some ⟨w3.heap.size, 0, none⟩) 0 0) (u := .slice va n vc) (by kernel_rfl) (by kernel_rfl) HR5.out ?_
    refine hKK.out _ _ trivial (fun _ => ?_)
    clear hKK KK
    refine wpAnyH_ready (rs := [8]) (by kernel_rfl) (by simp) ?_
    refine AllReadyH.cons rfl (fun KK hKK => ?_) AllReadyH.nil
    go_simp
    refine hKK.out _ _ trivial (fun _ => ?_)
    clear hKK KK
    refine wpAnyH_ready (rs := [9]) (by kernel_rfl) (by simp) ?_
    refine AllReadyH.cons rfl (fun KK hKK => ?_) AllReadyH.nil
    refine step_appS rfl (.tmp 35) (.tmp 39) rfl (v := .slice da nd dc) (u := .slice (some ⟨w5.heap.size, 0, none⟩) 1 1) (by kernel_rfl) (by kernel_rfl) HR6.out ?_
    refine hKK.out _ _ trivial (fun _ => ?_)
    clear hKK KK
    refine wpAnyH_take (i := 10) (v := .pointer (some ⟨lg, 0, none⟩)) rfl (by kernel_rfl) (by kernel_rfl) (by kernel_rfl) (fun _ _ _ h => h) (Or.inl ⟨by rfl, fun w' _ => by go_simp⟩) trivial ?_
    refine wpAnyH_take (i := 11) (v := .pointer (some ⟨lg, 3, none⟩)) rfl (by kernel_rfl) (by kernel_rfl) (by kernel_rfl) (fun _ _ _ h => h) (Or.inl ⟨by rfl, fun w' _ => by go_simp⟩) trivial ?_
    have s6 := S6.out
    have f6 := F6.out
    refine wpAnyH_ready (rs := [12]) (by kernel_rfl) (by simp) ?_
    refine AllReadyH.cons rfl (fun KK hKK => ?_) AllReadyH.nil
    go_simp
    refine hKK.out _ _ trivial (fun _ => ?_)
    clear hKK KK s6 f6
    refine wpAnyH_done (by kernel_rfl) ?_ _
    rw [← HW7.out]
    go_wp2_with fail
    exact bodyPost_ret (results_none rfl _ _ _) rfl ⟨rfl, FIN.out⟩
  · go_simp
    refine hKK.out _ _ trivial (fun _ => ?_)
    clear hKK KK
    refine wpAnyH_ready (rs := [4, 7]) (by kernel_rfl) (by simp) ?_
    refine AllReadyH.cons rfl (fun KK hKK => ?_) (AllReadyH.cons rfl (fun KK hKK => ?_) AllReadyH.nil)
    · have q4 := S4.out (.cells #[] 5)
      go_simp
      refine hKK.out _ _ trivial (fun _ => ?_)
      clear hKK KK q4
      refine wpAnyH_ready (rs := [7]) (by kernel_rfl) (by simp) ?_
      refine AllReadyH.cons rfl (fun KK hKK => ?_) AllReadyH.nil
      refine step_appB rfl (.tmp 36) (.tmp 37) rfl (v := .slice (some ⟨w3.heap.size, 0, none⟩) 0 0) (u := .slice va n vc) (by kernel_rfl) (by kernel_rfl) HR5.out ?_
      refine hKK.out _ _ trivial (fun _ => ?_)
      clear hKK KK
      refine wpAnyH_ready (rs := [8]) (by kernel_rfl) (by simp) ?_
      refine AllReadyH.cons rfl (fun KK hKK => ?_) AllReadyH.nil
      go_simp
      refine hKK.out _ _ trivial (fun _ => ?_)
      clear hKK KK
      refine wpAnyH_ready (rs := [9]) (by kernel_rfl) (by simp) ?_
      refine AllReadyH.cons rfl (fun KK hKK => ?_) AllReadyH.nil
      refine step_appS rfl (.tmp 35) (.tmp 39) rfl (v := .slice da nd dc) (u := .slice (some ⟨w5.heap.size, 0, none⟩) 1 1) (by kernel_rfl) (by kernel_rfl) HR6.out ?_
      refine hKK.out _ _ trivial (fun _ => ?_)
      clear hKK KK
      refine wpAnyH_take (i := 10) (v := .pointer (some ⟨lg, 0, none⟩)) rfl (by kernel_rfl) (by kernel_rfl) (by kernel_rfl) (fun _ _ _ h => h) (Or.inl ⟨by rfl, fun w' _ => by go_simp⟩) trivial ?_
      refine wpAnyH_take (i := 11) (v := .pointer (some ⟨lg, 3, none⟩)) rfl (by kernel_rfl) (by kernel_rfl) (by kernel_rfl) (fun _ _ _ h => h) (Or.inl ⟨by rfl, fun w' _ => by go_simp⟩) trivial ?_
      have s6 := S6.out
      have f6 := F6.out
      refine wpAnyH_ready (rs := [12]) (by kernel_rfl) (by simp) ?_
      refine AllReadyH.cons rfl (fun KK hKK => ?_) AllReadyH.nil
      go_simp
      refine hKK.out _ _ trivial (fun _ => ?_)
      clear hKK KK s6 f6
      refine wpAnyH_done (by kernel_rfl) ?_ _
      rw [← HW7.out]
      go_wp2_with fail
      exact bodyPost_ret (results_none rfl _ _ _) rfl ⟨rfl, FIN.out⟩
    · refine step_appB rfl (.tmp 36) (.tmp 37) rfl (v := .slice (some ⟨w3.heap.size, 0, none⟩) 0 0) (u := .slice va n vc) (by kernel_rfl) (by kernel_rfl) HR5.out ?_
      refine hKK.out _ _ trivial (fun _ => ?_)
      clear hKK KK
      refine wpAnyH_ready (rs := [4, 8]) (by kernel_rfl) (by simp) ?_
      refine AllReadyH.cons rfl (fun KK hKK => ?_) (AllReadyH.cons rfl (fun KK hKK => ?_) AllReadyH.nil)
      · have q4 := S5.out
        go_simp
        refine hKK.out _ _ trivial (fun _ => ?_)
        clear hKK KK q4
        refine wpAnyH_ready (rs := [8]) (by kernel_rfl) (by simp) ?_
        refine AllReadyH.cons rfl (fun KK hKK => ?_) AllReadyH.nil
        go_simp
        refine hKK.out _ _ trivial (fun _ => ?_)
        clear hKK KK
        refine wpAnyH_ready (rs := [9]) (by kernel_rfl) (by simp) ?_
        refine AllReadyH.cons rfl (fun KK hKK => ?_) AllReadyH.nil
        refine step_appS rfl (.tmp 35) (.tmp 39) rfl (v := .slice da nd dc) (u := .slice (some ⟨w5.heap.size, 0, none⟩) 1 1) (by kernel_rfl) (by kernel_rfl) HR6.out ?_
        refine hKK.out _ _ trivial (fun _ => ?_)
        clear hKK KK
        refine wpAnyH_take (i := 10) (v := .pointer (some ⟨lg, 0, none⟩)) rfl (by kernel_rfl) (by kernel_rfl) (by kernel_rfl) (fun _ _ _ h => h) (Or.inl ⟨by rfl, fun w' _ => by go_simp⟩) trivial ?_
        refine wpAnyH_take (i := 11) (v := .pointer (some ⟨lg, 3, none⟩)) rfl (by kernel_rfl) (by kernel_rfl) (by kernel_rfl) (fun _ _ _ h => h) (Or.inl ⟨by rfl, fun w' _ => by go_simp⟩) trivial ?_
        have s6 := S6.out
        have f6 := F6.out
        refine wpAnyH_ready (rs := [12]) (by kernel_rfl) (by simp) ?_
        refine AllReadyH.cons rfl (fun KK hKK => ?_) AllReadyH.nil
        go_simp
        refine hKK.out _ _ trivial (fun _ => ?_)
        clear hKK KK s6 f6
        refine wpAnyH_done (by kernel_rfl) ?_ _
        rw [← HW7.out]
        go_wp2_with fail
        exact bodyPost_ret (results_none rfl _ _ _) rfl ⟨rfl, FIN.out⟩
      · go_simp
        refine hKK.out _ _ trivial (fun _ => ?_)
        clear hKK KK
        refine wpAnyH_ready (rs := [4]) (by kernel_rfl) (by simp) ?_
        refine AllReadyH.cons rfl (fun KK hKK => ?_) AllReadyH.nil
        have q4 := S5a.out (.cells #[.slice ua n uc] 48)
        go_simp
        refine hKK.out _ _ trivial (fun _ => ?_)
        clear hKK KK q4
        refine wpAnyH_ready (rs := [9]) (by kernel_rfl) (by simp) ?_
        refine AllReadyH.cons rfl (fun KK hKK => ?_) AllReadyH.nil
        refine step_appS rfl (.tmp 35) (.tmp 39) rfl (v := .slice da nd dc) (u := .slice (some ⟨w5.heap.size, 0, none⟩) 1 1) (by kernel_rfl) (by kernel_rfl) HR6.out ?_
        refine hKK.out _ _ trivial (fun _ => ?_)
        clear hKK KK
        refine wpAnyH_take (i := 10) (v := .pointer (some ⟨lg, 0, none⟩)) rfl (by kernel_rfl) (by kernel_rfl) (by kernel_rfl) (fun _ _ _ h => h) (Or.inl ⟨by rfl, fun w' _ => by go_simp⟩) trivial ?_
        refine wpAnyH_take (i := 11) (v := .pointer (some ⟨lg, 3, none⟩)) rfl (by kernel_rfl) (by kernel_rfl) (by kernel_rfl) (fun _ _ _ h => h) (Or.inl ⟨by rfl, fun w' _ => by go_simp⟩) trivial ?_
        have s6 := S6.out
        have f6 := F6.out
        refine wpAnyH_ready (rs := [12]) (by kernel_rfl) (by simp) ?_
        refine AllReadyH.cons rfl (fun KK hKK => ?_) AllReadyH.nil
        go_simp
        refine hKK.out _ _ trivial (fun _ => ?_)
        clear hKK KK s6 f6
        refine wpAnyH_done (by kernel_rfl) ?_ _
        rw [← HW7.out]
        go_wp2_with fail
        exact bodyPost_ret (results_none rfl _ _ _) rfl ⟨rfl, FIN.out⟩
end Go.Proofs.Ytddnecfnjnipjaa
