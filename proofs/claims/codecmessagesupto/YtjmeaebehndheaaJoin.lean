import Derived.Test.YtjmeaebehndheaaLaid
import Derived.Deep.Cut
/-
  What holds of the memory of CodecWrites between its steps: two writers, two likenesses, the list of what was handed out; all apart.
-/
namespace Go.Proofs.Ytjmeaebehndheaa
open Go.RowKit

def upd {α : Type} (f : Nat → α) (i : Nat) (a : α) : Nat → α := fun j => if j = i then a else f j
theorem upd_same {α : Type} (f : Nat → α) (i : Nat) (a : α) : upd f i a i = a := by simp [upd]
theorem upd_other {α : Type} (f : Nat → α) {i j : Nat} (a : α) (h : j ≠ i) : upd f i a j = f j := by simp [upd, h]

structure Inv (w wr : World) (P : Nat) (val : Nat → Value) (con : Nat → List Int) (q : Nat) : Prop where
  bel : Below P w wr
  blkP : wr.heap[P]? = some (.cells #[val 0, val 1] 26 (0, 0))
  blkL : wr.heap[P + 1]? = some (.cells #[val 2, val 3] 27 (0, 0))
  own : ∀ i, i < 5 + q → i ≠ 4 → Own wr (val i) (con i)
  oo : wr.ownsRow 0 23 1 (val 4) q ((List.range q).map fun i => val (5 + i))
  ap : ∀ i j k, i < 5 + q → j < 5 + q → i ≠ j → (val i).ownBlock = some k → (val j).ownBlock ≠ some k
  lo : ∀ i k, i < 5 + q → (val i).ownBlock = some k → P + 1 < k

theorem ownsRow_chg {w w' : World} {S : Nat → Prop} {e : TypeId} {v : Value} {n : Nat} {xs : List Value} (h : w.ownsRow 0 e 1 v n xs) (c : Chg S w w') (hn : ∀ k, v.ownBlock = some k → ¬ S k) : w'.ownsRow 0 e 1 v n xs := by
  refine ⟨h.1, ?_⟩
  rcases h.2 with hn' | ⟨g, cap, cur, rfl, hb, hgg, rest⟩
  · exact .inl hn'
  · exact .inr ⟨g, cap, cur, rfl, hb, c.heap_some hgg (hn g rfl), rest⟩

section
variable {w wr wr' wr1 : World} {P : Nat} {val : Nat → Value} {con : Nat → List Int} {q : Nat}

theorem Inv.lt (h : Inv w wr P val con q) : P + 1 < wr.heap.size := (Array.getElem?_eq_some_iff.1 h.blkL).1
theorem Inv.has (h : Inv w wr P val con q) {i k : Nat} (hi : i < 5 + q) (hk : (val i).ownBlock = some k) : k < wr.heap.size := by
  by_cases e : i = 4
  · subst e; exact (h.oo.lt k hk).2
  · exact (h.own i hi e).lt hk

theorem Inv.keep (h : Inv w wr P val con q) {S : Nat → Prop} (c : Chg S wr wr') (hS : ∀ k, S k → P + 1 < k ∧ ∀ i, i < 5 + q → (val i).ownBlock ≠ some k) : Inv w wr' P val con q where
  bel := h.bel.trans (c.below (by have := h.lt; omega) (fun k s => by have := (hS k s).1; omega))
  blkP := c.heap_some h.blkP (fun s => by have := (hS _ s).1; omega)
  blkL := c.heap_some h.blkL (fun s => by have := (hS _ s).1; omega)
  own := fun i hi h4 => (h.own i hi h4).kept c (fun k hk s => (hS k s).2 i hi hk)
  oo := ownsRow_chg h.oo c (fun k hk s => (hS k s).2 4 (by omega) hk)
  ap := h.ap
  lo := h.lo

theorem Inv.keep0 (h : Inv w wr P val con q) (b : Below wr.heap.size wr wr') : Inv w wr' P val con q := h.keep (Chg.of_below b (fun _ => False)) (fun _ s => s.elim)

theorem Inv.ws (h : Inv w wr P val con q) {k : Nat} (hk : k < 2) : WS wr P k #[val 0, val 1] 26 (val k) (con k) :=
  ⟨h.blkP, by match k, hk with | 0, _ => rfl | 1, _ => rfl, h.own k (by omega) (by omega), fun e => by have := h.lo k P (by omega) e; omega⟩

/-- One of the four values that lie in the two blocks is another now. -/
theorem Inv.repl (h : Inv w wr P val con q) {i : Nat} (hi : i < 4) {v' : Value} {l' : List Int} {Q : Nat} (c : Chg (fun k => k = Q ∨ some k = (val i).ownBlock) wr wr') (hQ : Q = P ∨ Q = P + 1) (hv : Own wr' v' l')
    (hat : v'.ownBlock = (val i).ownBlock ∨ ∃ g, v'.ownBlock = some g ∧ wr.heap.size ≤ g)
    (hP : wr'.heap[P]? = some (.cells #[upd val i v' 0, upd val i v' 1] 26 (0, 0))) (hL : wr'.heap[P + 1]? = some (.cells #[upd val i v' 2, upd val i v' 3] 27 (0, 0))) : Inv w wr' P (upd val i v') (upd con i l') q := by
  have hsz := h.lt
  have far : ∀ j k, j < 5 + q → j ≠ i → (val j).ownBlock = some k → ¬ (k = Q ∨ some k = (val i).ownBlock) := by
    rintro j k hj hji hk (e | e)
    · have := h.lo j k hj hk
      rcases hQ with hQ | hQ <;> omega
    · exact h.ap j i k hj (by omega) hji hk e.symm
  refine ⟨h.bel.trans (c.below (by omega) ?_), hP, hL, ?_, ?_, ?_, ?_⟩
  · rintro k (e | e)
    · rcases hQ with hQ | hQ <;> omega
    · have := h.lo i k (by omega) e.symm; omega
  · intro j hj h4
    by_cases e : j = i
    · subst e; rw [upd_same, upd_same]; exact hv
    · rw [upd_other _ _ e, upd_other _ _ e]
      exact (h.own j hj h4).kept c (fun k hk => far j k hj e hk)
  · rw [upd_other _ _ (by omega)]
    have e : ((List.range q).map fun j => upd val i v' (5 + j)) = (List.range q).map fun j => val (5 + j) := by
      refine List.map_congr_left fun j _ => upd_other _ _ (by omega)
    rw [e]
    exact ownsRow_chg h.oo c (fun k hk => far 4 k (by omega) (by omega) hk)
  · have new : ∀ k, v'.ownBlock = some k → ∀ j, j < 5 + q → j ≠ i → (val j).ownBlock ≠ some k := by
      intro k hk j hj hji hjk
      rcases hat with e | ⟨g, e, hg⟩
      · exact h.ap j i k hj (by omega) hji hjk (by rw [← e, hk])
      · rw [hk] at e; injection e with e; have := h.has hj hjk; omega
    intro a b k ha hb hab hak
    by_cases ea : a = i
    · subst ea
      rw [upd_same] at hak
      rw [upd_other _ _ (by omega)]
      exact new k hak b hb (by omega)
    · rw [upd_other _ _ ea] at hak
      by_cases eb : b = i
      · subst eb; rw [upd_same]; intro hk; exact new k hk a ha ea hak
      · rw [upd_other _ _ eb]; exact h.ap a b k ha hb hab hak
  · intro a k ha hak
    by_cases ea : a = i
    · subst ea
      rw [upd_same] at hak
      rcases hat with e | ⟨g, e, hg⟩
      · exact h.lo a k ha (by rw [← e, hak])
      · rw [hak] at e; injection e with e; omega
    · rw [upd_other _ _ ea] at hak; exact h.lo a k ha hak

theorem Inv.lay (h : Inv w wr P val con q) {k : Nat} (hk : k < 2) {l' : List Int} (pw : PW wr wr' P k #[val 0, val 1] 26 (val k) l') : ∃ v', Inv w wr' P (upd val k v') (upd con k l') q ∧ (v'.ownBlock = (val k).ownBlock ∨ ∃ g, v'.ownBlock = some g ∧ wr.heap.size ≤ g) := by
  obtain ⟨v', s, c, a⟩ := pw
  have hsz := h.lt
  refine ⟨v', h.repl (i := k) (by omega) (Q := P) c (.inl rfl) s.own a ?_ ?_, a⟩
  · have := s.blk
    match k, hk with
    | 0, _ => simpa [upd] using this
    | 1, _ => simpa [upd] using this
  · rw [upd_other _ _ (by omega), upd_other _ _ (by omega)]
    refine c.heap_some h.blkL ?_
    rintro (e | e)
    · omega
    · have := h.lo k _ (by omega) e.symm; omega

theorem Inv.cellL (h : Inv w wr P val con q) {k : Nat} (hk : k < 2) : wr.cell? ⟨P + 1, k, none⟩ = some (val (2 + k)) := by
  rw [cell_of_row wr (P + 1) k _ 27 _ h.blkL]
  match k, hk with | 0, _ => rfl | 1, _ => rfl

theorem Inv.like (h : Inv w wr P val con q) {k : Nat} (hk : k < 2) {v' : Value} {l' : List Int} (hv : Own wr1 v' l') (c : Chg (fun j => some j = (val (2 + k)).ownBlock) wr wr1) (hat : v'.ownBlock = (val (2 + k)).ownBlock ∨ v'.ownBlock = some wr.heap.size) :
    Inv w (wr1.setCell ⟨P + 1, k, none⟩ v') P (upd val (2 + k) v') (upd con (2 + k) l') q := by
  have hsz := h.lt
  have hne : v'.ownBlock ≠ some (P + 1) := by
    intro e
    rcases hat with x | x
    · have := h.lo (2 + k) (P + 1) (by omega) (by rw [← x, e]); omega
    · rw [e] at x; injection x with x; omega
  have hL1 : wr1.heap[P + 1]? = some (.cells #[val 2, val 3] 27 (0, 0)) := c.heap_some h.blkL (fun e => by have := h.lo (2 + k) _ (by omega) e.symm; omega)
  have c2 : Chg (fun j => j = P + 1 ∨ some j = (val (2 + k)).ownBlock) wr (wr1.setCell ⟨P + 1, k, none⟩ v') := (c.mono (fun _ _ e => .inr e)).setCell (.inl (.inl rfl)) _
  refine h.repl (i := 2 + k) (by omega) (Q := P + 1) c2 (.inr rfl) ?_ (hat.imp id fun e => ⟨_, e, Nat.le_refl _⟩) ?_ ?_
  · exact hv.kept ((Chg.refl (fun j => j = P + 1) _).setCell (.inl rfl) _) (fun j hj e => hne (by rw [hj, e]))
  · rw [upd_other _ _ (by omega), upd_other _ _ (by omega)]
    refine c2.heap_some h.blkP ?_
    rintro (e | e)
    · omega
    · have := h.lo (2 + k) _ (by omega) e.symm; omega
  · rw [heap_setCell_same wr1 (P + 1) k _ 27 v' hL1]
    match k, hk with
    | 0, _ => simp [upd]
    | 1, _ => simp [upd]

theorem Inv.stayL (h : Inv w wr P val con q) {k : Nat} (hk : k < 2) (c : Chg (fun j => some j = (val (2 + k)).ownBlock) wr wr1) : wr1.cell? ⟨P + 1, k, none⟩ = some (val (2 + k)) ∧ wr1.frozen? ⟨P + 1, k, none⟩ = false := by
  have hL1 : wr1.heap[P + 1]? = some (.cells #[val 2, val 3] 27 (0, 0)) := c.heap_some h.blkL (fun e => by have := h.lo (2 + k) _ (by omega) e.symm; omega)
  refine ⟨?_, frozen_of_row wr1 (P + 1) k _ 27 hL1⟩
  rw [cell_of_row wr1 (P + 1) k _ 27 _ hL1]
  match k, hk with | 0, _ => rfl | 1, _ => rfl

/-- One more was handed out. -/
theorem Inv.push (h : Inv w wr P val con q) {b v4 : Value} {l : List Int} {wr2 : World} (md : Made wr wr1 b l) (hoo : wr2.ownsRow 0 23 1 v4 (q + 1) (((List.range q).map fun i => val (5 + i)) ++ [b])) (c : Chg (fun j => some j = (val 4).ownBlock) wr1 wr2)
    (hat : v4.ownBlock = (val 4).ownBlock ∨ v4.ownBlock = some wr1.heap.size) : Inv w wr2 P (upd (upd val 4 v4) (5 + q) b) (upd con (5 + q) l) (q + 1) := by
  have h1 := h.keep0 md.2.1
  have hsz := h.lt
  have hsz1 := md.2.1.size
  have far : ∀ j k, j < 5 + q → j ≠ 4 → (val j).ownBlock = some k → ¬ (some k = (val 4).ownBlock) := fun j k hj hj4 hk e => h.ap j 4 k hj (by omega) hj4 hk e.symm
  have bfar : ∀ k, b.ownBlock = some k → ¬ (some k = (val 4).ownBlock) := fun k hk e => by have := md.2.2 k hk; have := h.has (i := 4) (by omega) e.symm; omega
  have V : ∀ j, j < 5 + q → j ≠ 4 → upd (upd val 4 v4) (5 + q) b j = val j := fun j hj h4 => by rw [upd_other _ _ (by omega), upd_other _ _ h4]
  have V4 : upd (upd val 4 v4) (5 + q) b 4 = v4 := by rw [upd_other _ _ (by omega), upd_same]
  have Vb : upd (upd val 4 v4) (5 + q) b (5 + q) = b := upd_same _ _ _
  have b2 : Below (P + 2) wr1 wr2 := c.below (by omega) (fun k e => by have := h.lo 4 k (by omega) e.symm; omega)
  have n4 : ∀ k, v4.ownBlock = some k → P + 1 < k ∧ b.ownBlock ≠ some k ∧ ∀ j, j < 5 + q → j ≠ 4 → (val j).ownBlock ≠ some k := by
    intro k hk
    rcases hat with e | e
    · rw [hk] at e
      exact ⟨h.lo 4 k (by omega) e.symm, fun hb => bfar k hb e, fun j hj h4 hjk => far j k hj h4 hjk e⟩
    · rw [hk] at e; injection e with e
      refine ⟨by omega, fun hb => ?_, fun j hj h4 hjk => ?_⟩
      · have := md.1.lt hb; omega
      · have := h1.has hj hjk; omega
  refine ⟨h1.bel.trans (b2.mono (by omega)), ?_, ?_, ?_, ?_, ?_, ?_⟩
  · rw [V 0 (by omega) (by omega), V 1 (by omega) (by omega), b2.block P (by omega)]; exact h1.blkP
  · rw [V 2 (by omega) (by omega), V 3 (by omega) (by omega), b2.block (P + 1) (by omega)]; exact h1.blkL
  · intro j hj h4
    by_cases e : j = 5 + q
    · subst e; rw [Vb, upd_same]; exact md.1.kept c (fun k hk => bfar k hk)
    · rw [V j (by omega) h4, upd_other _ _ e]; exact (h1.own j (by omega) h4).kept c (fun k hk => far j k (by omega) h4 hk)
  · rw [V4, List.range_succ, List.map_append, List.map_singleton, Vb]
    have e : ((List.range q).map fun j => upd (upd val 4 v4) (5 + q) b (5 + j)) = (List.range q).map fun j => val (5 + j) := by
      refine List.map_congr_left fun j hj => V _ ?_ (by omega)
      have : j < q := by simpa using hj
      omega
    rw [e]; exact hoo
  · intro i j k hi hj hij hik
    by_cases e4 : i = 4
    · subst e4
      rw [V4] at hik
      by_cases ej : j = 5 + q
      · subst ej; rw [Vb]; exact (n4 k hik).2.1
      · rw [V j (by omega) (by omega)]; exact (n4 k hik).2.2 j (by omega) (by omega)
    · by_cases eb : i = 5 + q
      · subst eb
        rw [Vb] at hik
        by_cases ej : j = 4
        · subst ej; rw [V4]; intro hk; exact (n4 k hk).2.1 hik
        · rw [V j (by omega) ej]; intro hk; have := md.2.2 k hik; have := h.has (i := j) (by omega) hk; omega
      · rw [V i (by omega) e4] at hik
        by_cases ej : j = 4
        · subst ej; rw [V4]; intro hk; exact (n4 k hk).2.2 i (by omega) e4 hik
        · by_cases ej2 : j = 5 + q
          · subst ej2; rw [Vb]; intro hk; have := md.2.2 k hk; have := h.has (i := i) (by omega) hik; omega
          · rw [V j (by omega) ej]; exact h.ap i j k (by omega) (by omega) hij hik
  · intro i k hi hik
    by_cases e4 : i = 4
    · subst e4; rw [V4] at hik; exact (n4 k hik).1
    · by_cases eb : i = 5 + q
      · subst eb; rw [Vb] at hik; have := md.2.2 k hik; omega
      · rw [V i (by omega) e4] at hik; exact h.lo i k (by omega) hik
end

theorem untouched_M {w : World} {a : Option Addr} {s : Value} {c M : Nat} {m : List Int} (hM : M = m.length + 2) (hs : Src w s m) (ho : Own w (.slice a M c) (m ++ [165, 90])) (hl : m.length + 2 ≤ 140737488355328) :
    Calls Try.prog 11 #[.slice a M c, s] w fun e w' => e = .returned (.bool true) ∧ ∃ n, w' = w.drewN n := by
  subst hM
  exact untouched_any hs ho hl

theorem Own.addr {w : World} {a : Option Addr} {n c : Nat} {l : List Int} (h : Own w (.slice a n c) l) (hp : 0 < l.length) : ∃ g, a = some ⟨g, 0, none⟩ := by
  obtain ⟨g, cap, e, _⟩ := h.form2 hp
  injection e with e1 _ _
  exact ⟨g, e1⟩

theorem step_app {ops : Array Oper} {o : Oper} {a : Act} {w : World} {K : Act → World → Prop} {Q : Exit → Act → World → Prop} {E : Prop} (hgd : o.guard = none) (s x : Operand)
    (ho : o.op = .call { callee := .builtin .append, args := #[s, x], argTypes := #[23, 23] })
    {v u : Value} {l m : List Int} (hs : a.eval s = v) (hx : a.eval x = u) (hv : Own w v l) (hu : Src w u m) (hb : l.length + m.length ≤ 140737488355328)
    (h : ∀ v' w', Own w' v' (l ++ m) → Chg (fun k => some k = v.ownBlock) w w' → (v'.ownBlock = v.ownBlock ∨ v'.ownBlock = some w.heap.size) → K (a.put o.dst v') w') :
    if Region.wanted o (yielded ops a.tmps) = true then Oper.wp Try.prog o a w K Q else E := by
  have hw : Region.wanted o (yielded ops a.tmps) = true := by simp [Region.wanted, hgd]
  rw [if_pos hw]
  obtain ⟨v', w', hr, h2, h3, h5⟩ := run_app w o.type hv hu hb
  unfold Oper.wp execOp
  simp only [ho, resolve, invoke, builtin, Sem.run_bind, Sem.run_pure, Result.andThen_ok, List.map_toArray, List.map_cons, List.map_nil, hs, hx, hr]
  exact h v' w' h2 h3 h5

/-- The first j are x. -/
def fil (l : List Int) (x : Int) (j : Nat) : List Int := List.replicate j x ++ l.drop j
theorem fil_len (l : List Int) (x : Int) (j : Nat) (h : j ≤ l.length) : (fil l x j).length = l.length := by simp [fil]; omega
theorem fil_set (l : List Int) (x : Int) (j : Nat) (h : j < l.length) : (fil l x j).set j x = fil l x (j + 1) := by
  unfold fil
  rw [List.replicate_succ', List.append_assoc]
  simp
  rw [List.drop_eq_getElem_cons h]
  rfl
theorem fil_all (l : List Int) (x : Int) : fil l x l.length = List.replicate l.length x := by simp [fil]

theorem Own.store {w : World} {g n c : Nat} {l : List Int} (h : Own w (.slice (some ⟨g, 0, none⟩) n c) l) (j : Nat) (x : Int) : Own (w.setCell ⟨g, j, none⟩ (.int .u8 x)) (.slice (some ⟨g, 0, none⟩) n c) (l.set j x) := by
  rcases h.2 with ⟨e, _⟩ | ⟨g', cap, cur, e, hb, hg, h1, h2, h3, h4⟩
  · cases e
  · injection e with e1 e2 e3
    injection e1 with e1
    injection e1 with e1
    subst e1 e2 e3
    refine ⟨by simp [bs], .inr ⟨g, c, _, by simp, Nat.zero_le _, heap_setCell_same w g j cur 5 _ hg, by simpa using h1, h2, by simpa using h3, ?_⟩⟩
    rw [Nat.mul_one] at h4 ⊢
    have e5 : bs (l.set j x) = (bs l).set j (.int .u8 x) := by simp [bs, List.map_set]
    rw [e5, ← h4]
    simp [List.take_set]

theorem Own.cellAt {w : World} {g n c : Nat} {l : List Int} (h : Own w (.slice (some ⟨g, 0, none⟩) n c) l) (j : Nat) (hj : j < l.length) : w.cell? ⟨g, j, none⟩ = some (.int .u8 l[j]) ∧ w.frozen? ⟨g, j, none⟩ = false := by
  rcases h.2 with ⟨e, _⟩ | ⟨g', cap, cur, e, hb, hg, h1, h2, h3, h4⟩
  · cases e
  · injection e with e1 e2 e3
    injection e1 with e1
    injection e1 with e1
    subst e1
    obtain ⟨g2, o2, e, hc⟩ := Src.at h.src j hj
    injection e with e
    injection e with e1 e2
    subst e1 e2
    rw [Nat.zero_add] at hc
    exact ⟨hc, frozen_of_row w g j cur 5 hg⟩
end Go.Proofs.Ytjmeaebehndheaa

/-
  The walks of the reference's sum, join and addr.
-/
namespace Go.Proofs.Ytjmeaebehndheaa
open Go.RowKit

set_option maxRecDepth 100000 in
set_option maxHeartbeats 1000000 in
theorem xsum_any {w : World} (z : List Int) (hz : z.length = 32) :
    Calls Try.prog 99 #[.agg (bs z).toArray] w fun e w' => ∃ v, e = .returned v ∧ Made w w' v z := by
  go_enter Try.func99, Try.ntmps99
  go_wp2_with fail
  go_loopw [3, 4] (fun u i wr => ∃ k : Nat, k ≤ 32 ∧ i = .int .i64 k ∧ Made (w.alloc (.cells (bs z).toArray 31)) wr u (z.take k)) (fun _ i _ => 32 - (intOf i).toNat)
  case atStart => exact ⟨0, Nat.zero_le _, rfl, Made.nil _⟩
  case round =>
    obtain ⟨k, hk, rfl, hmd⟩ := hrel
    by_cases hlt : k < 32
    · have hzl : k < z.length := by omega
      obtain ⟨x, hx⟩ : ∃ x, x = z[k]'hzl := ⟨_, rfl⟩
      have hcell : wr.cell? ⟨w.heap.size, k, none⟩ = some (.int .u8 x) := by
        rw [hmd.2.1.cell (by simp), hx, cell_of_row _ _ k _ 31 _ (heap_alloc_new _ _)]
        simpa using bs_get z k hzl
      have HX : Hid _ := (show z.take k ++ [x] = z.take (k + 1) by rw [hx]; exact take_one hzl)
      have hbd : (z.take k).length + [x].length ≤ 140737488355328 := by simp; omega
      have M1 : Hid _ := hmd
      clear hmd hx
      go_wp2_with (refine wpList_app rfl (.tmp 9) (.tmp 13) rfl (v := u3) rfl rfl (Made.alloc M1.out _).1 (src_new _ [x] 1) hbd ?_; intro v' w2 hv hch hat; have R : Hid _ := Made.app (Made.alloc M1.out _) hv hch hat; clear hv hch hat)
      go_roundw
      case rel => exact ⟨k + 1, by omega, by go_num, by rw [← HX.out]; exact R.out⟩
      case measure => simp [intOf]; omega
    · have ht : z.take k = z := List.take_of_length_le (by omega)
      rw [ht] at hmd
      have R : Hid _ := hmd
      clear hmd ht
      go_wp2_with fail
      go_ret
      exact ⟨_, rfl, R.out.1, ((Below.refl _ _).alloc (Nat.le_refl _) _).trans (R.out.2.1.mono (by simp)), fun j hj => by have := R.out.2.2 j hj; simp at this; omega⟩

theorem rangeKept {w w' : World} {g o : Nat} {cs : List Value} (h : w.rangeAt g o cs) (b : Below w.heap.size w w') : w'.rangeAt g o cs := fun j v hv => by
  have := h j v hv
  rw [b.cell (World.block_lt_of_cell? _ _ this)]; exact this

/-- The pieces that join is given, one behind the other. -/
structure Pieces (w : World) (g n : Nat) (vs : Nat → Value) (ls : Nat → List Int) : Prop where
  cell : ∀ i, i < n → w.cell? ⟨g, i, none⟩ = some (vs i)
  src : ∀ i, i < n → Src w (vs i) (ls i)
def flat (ls : Nat → List Int) : Nat → List Int
  | 0 => []
  | k + 1 => flat ls k ++ ls k

set_option maxRecDepth 100000 in
set_option maxHeartbeats 1000000 in
theorem join_any {w : World} {g n c : Nat} {vs : Nat → Value} {ls : Nat → List Int} (h : Pieces w g n vs ls) (hn : n ≤ 1000) (hb : ∀ k, k ≤ n → (flat ls k).length ≤ 140737488355328) :
    Calls Try.prog 97 #[.slice (some ⟨g, 0, none⟩) n c] w fun e w' => ∃ v, e = .returned v ∧ Made w w' v (flat ls n) := by
  have H : Hid _ := h
  have HB : Hid _ := hb
  clear h hb
  go_enter Try.func97, Try.ntmps97
  go_wp2_with fail
  go_loopw [3, 8] (fun u i wr => ∃ k : Nat, k ≤ n ∧ i = .int .i64 k ∧ Made w wr u (flat ls k)) (fun _ i _ => n - (intOf i).toNat)
  case atStart => exact ⟨0, Nat.zero_le _, rfl, Made.nil _⟩
  case round =>
    obtain ⟨k, hk, rfl, hmd⟩ := hrel
    by_cases hlt : k < n
    · have hcw := H.out.cell k hlt
      have hcell : wr.cell? ⟨g, k, none⟩ = some (vs k) := by rw [hmd.2.1.cell (World.block_lt_of_cell? _ _ hcw)]; exact hcw
      have hS : Hid _ := Src.kept0 (H.out.src k hlt) hmd.2.1
      have hbd := HB.out (k + 1) (by omega)
      simp only [flat, List.length_append] at hbd
      have M1 : Hid _ := hmd
      clear hmd hcw
      obtain ⟨va, vn, vc, hvk⟩ : ∃ a n c, vs k = .slice a n c := by obtain ⟨a, c, e⟩ := Src.form hS.out; exact ⟨a, _, c, e⟩
      go_wp2_with (refine wpList_app rfl (.tmp 12) (.tmp 13) rfl (v := u3) (u := vs k) rfl (by first | rfl | exact hvk.symm) M1.out.1 hS.out hbd ?_; intro v' w2 hv hch hat; have R : Hid _ := Made.app M1.out hv hch hat; clear hv hch hat)
      go_roundw
      case rel => exact ⟨k + 1, by omega, by go_num, R.out⟩
      case measure => simp [intOf]; omega
    · have hkn : k = n := by omega
      subst hkn
      have R : Hid _ := hmd
      clear hmd
      go_wp2_with fail
      go_ret
      exact ⟨_, rfl, R.out⟩

end Go.Proofs.Ytjmeaebehndheaa
