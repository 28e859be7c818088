/-
  Lists of texts, each alone: what apart leaves of them.
-/
import Derived.Test.YtoilnommhkmioaaDoorTxB
import Derived.Deep.DeepAppendRoom
namespace Go.Proofs.YtoilnommhkmioaaDoor
open Go.RowKit

theorem cells_ne {w : World} {g q : Nat} {c1 c2 : Array Value} {t1 t2 : TypeId} (h1 : w.heap[g]? = some (.cells c1 t1 (0, 0))) (h2 : w.heap[q]? = some (.cells c2 t2 (0, 0))) (ht : t1 ≠ t2) : g ≠ q := fun e => by
  subst e
  rw [h1] at h2
  injection h2 with h2
  injection h2 with _ h2
  exact ht h2
def updL (ls : Nat → List Int) (k : Nat) (l : List Int) : Nat → List Int := fun j => if j = k then l else ls j
theorem updL_same (ls : Nat → List Int) (k : Nat) (l : List Int) : updL ls k l k = l := if_pos rfl
theorem updL_ne (ls : Nat → List Int) {k j : Nat} (l : List Int) (h : j ≠ k) : updL ls k l j = ls j := if_neg h
theorem updL_id (ls : Nat → List Int) (k : Nat) : updL ls k (ls k) = ls := by
  funext j
  by_cases h : j = k
  · subst h; exact updL_same ..
  · exact updL_ne ls _ h
theorem updL_upd (ls : Nat → List Int) (k : Nat) (l m : List Int) : updL (updL ls k l) k m = updL ls k m := by
  funext j
  by_cases h : j = k
  · subst h; rw [updL_same, updL_same]
  · rw [updL_ne _ _ h, updL_ne _ _ h, updL_ne _ _ h]

/-- Lists of bytes, each one alone, and a list of them. -/
structure AP (w : World) (gL n : Nat) (vs : Nat → Value) (ls : Nat → List Int) : Prop where
  blk : Blk w gL ((List.range n).map vs) 22
  own : ∀ k, k < n → Own w (vs k) (ls k)
  dis : ∀ j k, j < n → k < n → j ≠ k → ∀ g, (vs j).ownBlock = some g → (vs k).ownBlock ≠ some g

section
variable {w w' : World} {gL n : Nat} {vs : Nat → Value} {ls : Nat → List Int}
theorem AP.cell (h : AP w gL n vs ls) {k : Nat} (hk : k < n) : w.cell? ⟨gL, k, none⟩ = some (vs k) := by
  rw [h.blk.cell]; simp [hk]
theorem AP.ne (h : AP w gL n vs ls) {k : Nat} (hk : k < n) : ∀ g, (vs k).ownBlock = some g → g ≠ gL := fun g hg => by
  obtain ⟨cur, e⟩ := own_block (h.own k hk) hg
  exact cells_ne e h.blk.eq (by decide)
/-- A byte more is laid down. -/
theorem AP.set (h : AP w gL n vs ls) {k : Nat} (hk : k < n) {i : Nat} (hi : i < (ls k).length) : ∃ g c, vs k = .slice (some ⟨g, 0, none⟩) (ls k).length c ∧ (∃ b, w.cell? ⟨g, i, none⟩ = some (.int .u8 b)) ∧ w.frozen? ⟨g, i, none⟩ = false ∧ ∀ x, AP (w.setCell ⟨g, i, none⟩ (.int .u8 x)) gL n vs (updL ls k ((ls k).set i x)) ∧ Chg (fun j => some j = (vs k).ownBlock) w (w.setCell ⟨g, i, none⟩ (.int .u8 x)) := by
  rcases owns_form (h.own k hk) with ⟨_, h0⟩ | ⟨g, c, e⟩
  · omega
  · have ho := h.own k hk
    rw [e] at ho
    have hg : (vs k).ownBlock = some g := by rw [e]; rfl
    refine ⟨g, c, e, ⟨_, ho.byte i hi⟩, ho.frz i, fun x => ?_⟩
    have ch : Chg (fun j => j = g) w (w.setCell ⟨g, i, none⟩ (.int .u8 x)) := (Chg.refl (fun j => j = g) w).setCell (.inl rfl) _
    refine ⟨⟨h.blk.keep ch (fun e2 => h.ne hk g hg e2.symm), fun j hj => ?_, h.dis⟩, ch.mono (fun j _ e2 => by rw [e2, hg])⟩
    by_cases hjk : j = k
    · subst hjk
      rw [updL_same, e]
      exact ho.set i x
    · rw [updL_ne _ _ hjk]
      exact (h.own j hj).kept ch (fun g' hg' e2 => h.dis k j hk hj (fun e3 => hjk e3.symm) g hg (by rw [hg', e2]))
theorem AP.drewN (h : AP w gL n vs ls) (m : Nat) : AP (w.drewN m) gL n vs ls := ⟨⟨h.blk.eq⟩, h.own, h.dis⟩
end

/-- The mark of a text's byte. -/
def mark (k i : Nat) : Int := (41 * (k : Int) + 7 * i + 1) % 256
def Mk (k : Nat) (l : List Int) (i : Nat) : Prop := ∀ j, j < i → l[j]? = some (mark k j)
theorem Mk.step {k : Nat} {l : List Int} {i : Nat} (h : Mk k l i) (hi : i < l.length) : Mk k (l.set i (mark k i)) (i + 1) := fun j hj => by
  by_cases e : j = i
  · subst e; simp [hi]
  · rw [List.getElem?_set_ne (fun e2 => e e2.symm)]
    exact h j (by omega)
def tlL (k : Nat) : List Int := List.replicate 70 ((200 + (k : Int)) % 256)

/-- While the tails are laid. -/
structure A3 (w : World) (gL n : Nat) (vs : Nat → Value) (ls : Nat → List Int) (k : Nat) (ms : Nat → Value) (more : Value) : Prop where
  blk : Blk w gL ((List.range n).map vs) 22
  own : ∀ j, j < n → Own w (vs j) (ls j)
  mow : ∀ j, j < k → Own w (ms j) (ls j ++ tlL j)
  mo : w.ownsRow 0 22 1 more k ((List.range k).map ms)
  dis : ∀ i j, i < n → j < n → i ≠ j → ∀ g, (vs i).ownBlock = some g → (vs j).ownBlock ≠ some g
  msd : ∀ i j, i < k → k ≤ j → j < n → ∀ g, (ms i).ownBlock = some g → (vs j).ownBlock ≠ some g
  mne : more.ownBlock ≠ some gL

theorem A3.start {w : World} {gL n : Nat} {vs : Nat → Value} {ls : Nat → List Int} (h : AP w gL n vs ls) : A3 w gL n vs ls 0 vs (.slice none 0 0) :=
  ⟨h.blk, h.own, fun j hj => by omega, World.ownsRow_nil w 0 22 1, h.dis, fun i j hi => by omega, by simp [Value.ownBlock]⟩

theorem row_lt {w : World} {t : TypeId} {v : Value} {n : Nat} {xs : List Value} (h : w.ownsRow 0 t 1 v n xs) {g : Nat} (hg : v.ownBlock = some g) : ∃ cur, w.heap[g]? = some (.cells cur t (0, 0)) := by
  rcases h.2 with ⟨e, _⟩ | ⟨b, cap, cur, e, _, hgg, _⟩
  · rw [e] at hg; simp [Value.ownBlock] at hg
  · rw [e] at hg
    simp [Value.ownBlock] at hg
    rw [← hg]
    exact ⟨cur, hgg⟩
theorem row_keep {w w' : World} {t : TypeId} {v : Value} {n : Nat} {xs : List Value} (h : w.ownsRow 0 t 1 v n xs) {S : Nat → Prop} (c : Chg S w w') (hn : ∀ k, v.ownBlock = some k → ¬ S k) : w'.ownsRow 0 t 1 v n xs := by
  refine ⟨h.1, ?_⟩
  rcases h.2 with e | ⟨b, cap, cur, rfl, hb, hgg, rest⟩
  · exact .inl e
  · exact .inr ⟨b, cap, cur, rfl, hb, c.heap_some hgg (hn b rfl), rest⟩

theorem Own.fst {w : World} {g n cap : Nat} {l m : List Int} (h : Own w (.slice (some ⟨g, 0, none⟩) n cap) (l ++ m)) : Own w (.slice (some ⟨g, 0, none⟩) l.length cap) l := by
  refine ⟨by simp [bs], ?_⟩
  rcases h.2 with ⟨e, _⟩ | ⟨b, cap', cur, e, hb, hgg, h1, h2, h3, h4⟩
  · cases e
  · injection e with e1 e2 e3
    injection e1 with e1
    injection e1 with e1
    subst e1 e3
    rw [List.length_append] at h1
    refine .inr ⟨g, cap, cur, rfl, hb, hgg, by omega, h2, h3, ?_⟩
    rw [Nat.mul_one] at h4 ⊢
    have h5 := congrArg (List.take l.length) h4
    rw [List.take_take, Nat.min_eq_left (by simp), bs_app, List.take_left' (bs_len l)] at h5
    exact h5

/-- append of bytes: what was there stays what it was. -/
theorem run_app_keep (w : World) (ty : TypeId) {v s : Value} {l m : List Int} (hv : Own w v l) (hs : Src w s m) (hm : 0 < m.length) (hb : l.length + m.length ≤ 140737488355328) :
    ∃ v' w', (Builtin.append_ #[22, 22] ty #[v, s]).run Tryd.prog w = .ok v' w' ∧ Own w' v' (l ++ m) ∧ Own w' v l ∧ Chg (fun k => some k = v.ownBlock) w w' ∧ (v'.ownBlock = v.ownBlock ∨ v'.ownBlock = some w.heap.size) := by
  obtain ⟨v', w', hr, ho, hc, hat⟩ := run_app w ty hv hs hb
  refine ⟨v', w', hr, ho, ?_, hc, hat⟩
  obtain ⟨i0, hi, hz0, hz1, hz2⟩ := info_parts info5
  rcases hs with ⟨_, rfl⟩ | ⟨a, c, rfl, hcs⟩
  · simp at hm
  · have hnews : ∀ j u, (bs m)[j]? = some u → w.cell? (a.add j) = some u := fun j u hu => by
      obtain ⟨h1, h2⟩ := hcs j u hu
      obtain ⟨b, o, sp⟩ := a
      simp only at h1
      subst h1
      rw [addr_add]
      exact h2
    rcases hv.2 with ⟨rfl, h0⟩ | ⟨g, cap, cur, rfl, hbg, hg, hnc, hcm, hsz, htake⟩
    · rw [List.eq_nil_of_length_eq_zero h0]
      exact Own.nil _
    · by_cases hroom : l.length + m.length ≤ cap
      · obtain ⟨w2, hr2, ho2, _⟩ := run_append_own_spare (P := Tryd.prog) w 0 22 ty 5 i0 1 Tryd.underlying22 hi hz1 g l.length cap (bs l) hv a m.length c (bs m) (by rw [bs_len, Nat.mul_one]) hnews (bs_one m) hroom
        rw [hr] at hr2
        injection hr2 with e1 e2
        subst e1 e2
        have ho3 : Own w' (.slice (some ⟨g, 0, none⟩) (l.length + m.length) cap) (l ++ m) := by
          unfold Own
          rw [List.length_append, bs_app]
          exact ho2
        exact ho3.fst
      · have holds : ∀ j u, (bs l)[j]? = some u → w.cell? ((⟨g, 0, none⟩ : Addr).add j) = some u := World.ownsRow.cells hv (g := g) rfl
        have hr2 := run_append_grow (P := Tryd.prog) w 22 ty 5 i0 _ Tryd.underlying22 hi hz0 ⟨g, 0, none⟩ l.length cap (bs l) (by rw [bs_len, hz1, Nat.mul_one]) holds a m.length c (bs m) (by rw [bs_len, hz1, Nat.mul_one]) hnews (by omega) (by unfold maxLen at *; omega) (growslice_fits (by omega) (by rw [hz2]; omega))
        rw [hr] at hr2
        injection hr2 with e1 e2
        subst e1 e2
        exact hv.kept (((Chg.refl (fun _ => False) w).drew).alloc _) (fun _ _ h => h)

theorem wpList_app_keep {ops : Array Oper} {rest : List Oper} {o : Oper} {a : Act} {w : World} {Q : Exit → Act → World → Prop} (hgd : o.guard = none) (s x : Operand)
    (ho : o.op = .call { callee := .builtin .append, args := #[s, x], argTypes := #[22, 22] })
    {v u : Value} {l m : List Int} (hs : a.eval s = v) (hx : a.eval x = u) (hv : Own w v l) (hu : Src w u m) (hm : 0 < m.length) (hb : l.length + m.length ≤ 140737488355328)
    (h : ∀ v' w', Own w' v' (l ++ m) → Own w' v l → Chg (fun k => some k = v.ownBlock) w w' → (v'.ownBlock = v.ownBlock ∨ v'.ownBlock = some w.heap.size) → wpList Tryd.prog ops Q rest (a.put o.dst v') w') :
    wpList Tryd.prog ops Q (o :: rest) a w := by
  refine wpList_plain hgd fun K hK => ?_
  obtain ⟨v', w', hr, h2, h2', h3, h5⟩ := run_app_keep w o.type hv hu hm hb
  unfold Oper.wp execOp
  simp only [ho, resolve, invoke, builtin, Sem.run_bind, Sem.run_pure, Result.andThen_ok, List.map_toArray, List.map_cons, List.map_nil, hs, hx, hr]
  exact hK _ _ (h v' w' h2 h2' h3 h5)

def updV (ms : Nat → Value) (k : Nat) (v : Value) : Nat → Value := fun j => if j = k then v else ms j
theorem updV_same (ms : Nat → Value) (k : Nat) (v : Value) : updV ms k v k = v := if_pos rfl
theorem updV_ne (ms : Nat → Value) {k j : Nat} (v : Value) (h : j ≠ k) : updV ms k v j = ms j := if_neg h
theorem updV_range (ms : Nat → Value) (k : Nat) (v : Value) : (List.range (k + 1)).map (updV ms k v) = (List.range k).map ms ++ [v] := by
  rw [List.range_succ, List.map_append, List.map_singleton, updV_same]
  congr 1
  exact List.map_congr_left (fun j hj => updV_ne ms v (by have := List.mem_range.1 hj; omega))

theorem A3.step {w w1 w2 w3 w4 : World} {gL n : Nat} {vs : Nat → Value} {ls : Nat → List Int} {k : Nat} {ms : Nat → Value} {more more' v' : Value} (h : A3 w gL n vs ls k ms more) (hk : k < n) (c1 : Chg (fun _ => False) w w1)
    (o2 : Own w2 v' (ls k ++ tlL k)) (p2 : Own w2 (vs k) (ls k)) (c2 : Chg (fun g => some g = (vs k).ownBlock) w1 w2) (a2 : v'.ownBlock = (vs k).ownBlock ∨ v'.ownBlock = some w1.heap.size) (c3 : Chg (fun _ => False) w2 w3)
    (m4 : w4.ownsRow 0 22 1 more' (k + 1) ((List.range k).map ms ++ [v'])) (c4 : Chg (fun g => some g = more.ownBlock) w3 w4) (a4 : more'.ownBlock = more.ownBlock ∨ more'.ownBlock = some w3.heap.size) :
    A3 w4 gL n vs ls (k + 1) (updV ms k v') more' ∧ Chg (fun g => some g = (vs k).ownBlock ∨ some g = more.ownBlock) w w4 := by
  have c12 : Chg (fun g => some g = (vs k).ownBlock) w w2 := (c1.mono (fun _ _ h => h.elim)).trans c2 (fun _ e => .inl e)
  have c13 : Chg (fun g => some g = (vs k).ownBlock) w w3 := c12.trans c3 (fun _ e => e.elim)
  have c14 : Chg (fun g => some g = (vs k).ownBlock ∨ some g = more.ownBlock) w w4 := (c13.mono (fun _ _ e => .inl e)).trans c4 (fun _ e => .inl (.inr e))
  have lt5 : ∀ {v : Value} {l : List Int} {g : Nat}, Own w v l → v.ownBlock = some g → more.ownBlock ≠ some g := fun ho hg e => by
    obtain ⟨_, e1⟩ := own_block ho hg
    obtain ⟨_, e2⟩ := row_lt h.mo e
    exact cells_ne e1 e2 (by decide) rfl
  have kgL : (vs k).ownBlock ≠ some gL := fun e => by
    obtain ⟨_, e1⟩ := own_block (h.own k hk) e
    exact cells_ne e1 h.blk.eq (by decide) rfl
  have klt : ∀ g, (vs k).ownBlock = some g → g < w.heap.size := fun g hg => (h.own k hk).lt hg
  have s1 := c1.size
  have n2 : ∀ g, v'.ownBlock = some g → more.ownBlock ≠ some g := fun g hg e => by
    rcases a2 with e2 | e2
    · exact lt5 (h.own k hk) (by rw [← e2]; exact hg) e
    · obtain ⟨_, e3⟩ := row_lt h.mo e
      have := (Array.getElem?_eq_some_iff.1 e3).1
      rw [hg] at e2; injection e2 with e2; omega
  have keep : ∀ {v : Value} {l : List Int}, Own w v l → (∀ g, v.ownBlock = some g → (vs k).ownBlock ≠ some g) → Own w4 v l := fun ho hn =>
    ho.kept c14 (fun g hg e => by
      rcases e with e | e
      · exact hn g hg e.symm
      · exact lt5 ho hg e.symm)
  refine ⟨⟨h.blk.keep c14 (fun e => ?_), fun j hj => ?_, fun j hj => ?_, by rw [updV_range]; exact m4, h.dis, fun i j hi hj hjn g hg => ?_, fun e => ?_⟩, c14⟩
  · rcases e with e | e
    · exact kgL e.symm
    · exact h.mne e.symm
  · by_cases hjk : j = k
    · subst hjk
      exact (p2.kept c3 (fun _ _ h => h)).kept c4 (fun g hg e => lt5 (h.own j hj) hg e.symm)
    · exact keep (h.own j hj) (fun g hg e => h.dis j k hj hk hjk g hg e)
  · by_cases hjk : j = k
    · subst hjk
      rw [updV_same]
      exact (o2.kept c3 (fun _ _ h => h)).kept c4 (fun g hg e => n2 g hg e.symm)
    · rw [updV_ne _ _ hjk]
      exact keep (h.mow j (by omega)) (fun g hg e => h.msd j k (by omega) (Nat.le_refl _) hk g hg e)
  · by_cases hik : i = k
    · subst hik
      rw [updV_same] at hg
      intro e
      rcases a2 with e2 | e2
      · exact h.dis i j hk hjn (by omega) g (by rw [← e2]; exact hg) e
      · have := (h.own j hjn).lt e
        rw [hg] at e2; injection e2 with e2; omega
    · rw [updV_ne _ _ hik] at hg
      exact h.msd i j (by omega) (by omega) hjn g hg
  · rcases a4 with e2 | e2
    · exact h.mne (by rw [← e2]; exact e)
    · rw [e] at e2; injection e2 with e2
      have := h.blk.lt
      have := c13.size
      omega

theorem info22 : (Tryd.prog.info? 22).map (fun i => (i.zero, i.size, i.bytes)) = some (some (.slice none 0 0), 1, 24) := by kernel_rfl
/-- append of one slice to a list of slices. -/
theorem wpList_appS {ops : Array Oper} {rest : List Oper} {o : Oper} {a : Act} {w : World} {Q : Exit → Act → World → Prop} (hgd : o.guard = none) (s x : Operand)
    (ho : o.op = .call { callee := .builtin .append, args := #[s, x], argTypes := #[40, 40] }) {v u : Value} {k g : Nat} {xs : List Value} (hs : a.eval s = v) (hx : a.eval x = .slice (some ⟨g, 0, none⟩) 1 1) (hv : w.ownsRow 0 22 1 v k xs) (hc : w.cell? ⟨g, 0, none⟩ = some u) (hu : u.oneCell' = true) (hk : k ≤ 1000)
    (h : ∀ v' w', w'.ownsRow 0 22 1 v' (k + 1) (xs ++ [u]) → Chg (fun g => some g = v.ownBlock) w w' → (v'.ownBlock = v.ownBlock ∨ v'.ownBlock = some w.heap.size) → wpList Tryd.prog ops Q rest (a.put o.dst v') w') :
    wpList Tryd.prog ops Q (o :: rest) a w := by
  refine wpList_plain hgd fun K hK => ?_
  obtain ⟨i0, hi, hz0, hz1, hz2⟩ := info_parts info22
  obtain ⟨v', w1, r1, r2, r3, _, r5⟩ := run_append_own_at (P := Tryd.prog) w 0 40 o.type 22 i0 _ 1 24 Tryd.underlying40 hi hz0 hz1 hz2 rfl (by decide) v k xs hv ⟨g, 0, none⟩ 1 1 [u] rfl (fun j y hy => by
    match j, hy with
    | 0, hy => simp at hy; subst hy; exact hc) (fun y hy => by simp at hy; subst hy; exact hu) (by unfold maxLen; omega) (by omega) (Nat.zero_le _)
  unfold Oper.wp execOp
  simp only [ho, resolve, invoke, builtin, Sem.run_bind, Sem.run_pure, Result.andThen_ok, List.map_toArray, List.map_cons, List.map_nil, hs, hx, r1]
  exact hK _ _ (h v' w1 r2 (Chg.of_grown r3) r5)
end Go.Proofs.YtoilnommhkmioaaDoor
