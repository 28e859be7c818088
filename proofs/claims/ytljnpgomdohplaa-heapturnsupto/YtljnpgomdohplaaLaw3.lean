/-
  Three heaps and their lists in two arrays.
-/
import Derived.Test.YtljnpgomdohplaaThree
import Derived.Test.YtljnpgomdohplaaTurn7
import Derived.Laws.BitsLemmas
namespace Go.Proofs.Ytljnpgomdohplaa
open Go.RowKit

theorem and3 (n : Int) : bits .and .i64 n 3 = n % 4 := by
  have h3 : (BitVec.ofInt 64 3).toNat = 2 ^ 2 - 1 := by decide
  have key : (BitVec.ofInt 64 n &&& BitVec.ofInt 64 3).toNat = (n % ((2 ^ 64 : Nat) : Int)).toNat % 2 ^ 2 := by
    rw [BitVec.toNat_and, BitVec.toNat_ofInt, h3, Nat.and_two_pow_sub_one_eq_mod]
  show IntKind.i64.wrap ((BitVec.ofInt 64 n &&& BitVec.ofInt 64 3).toNat : Nat) = n % 4
  rw [key, IntKind.wrap_i64]
  omega

def sel {α : Type} (a b c : α) : Nat → α := fun i => if i = 0 then a else if i = 1 then b else c

theorem three {i : Nat} (h : i < 3) : i = 0 ∨ i = 1 ∨ i = 2 := by omega

/-- Three heaps and their lists; the two arrays. -/
structure L3 (W w : World) (p : Nat → Nat) (v : Nat → Value) (H : Nat → List E) (came : Nat → Nat) (lv : Nat → Value) (l : Nat → List (Int × Int)) (A B : Nat) : Prop where
  m : M3 W w p v H came lv l
  ab : Blk w A [.pointer (some ⟨p 0, 0, none⟩), .pointer (some ⟨p 1, 0, none⟩), .pointer (some ⟨p 2, 0, none⟩)] 47
  bb : Blk w B [lv 0, lv 1, lv 2] 48
  aW : W.heap.size ≤ A
  bW : W.heap.size ≤ B
  ne : A ≠ B
  ap : ∀ i, i < 3 → p i ≠ A ∧ p i ≠ B
  av : ∀ i, i < 3 → (v i).ownBlock ≠ some A ∧ (v i).ownBlock ≠ some B
  al : ∀ i, i < 3 → (lv i).ownBlock ≠ some B

section
variable {W w w' : World} {p : Nat → Nat} {v : Nat → Value} {H : Nat → List E} {came : Nat → Nat} {lv : Nat → Value} {l : Nat → List (Int × Int)} {A B : Nat}

theorem L3.acell (h : L3 W w p v H came lv l A B) {j : Nat} (hj : j < 3) : w.cell? ⟨A, j, none⟩ = some (.pointer (some ⟨p j, 0, none⟩)) := by
  rcases three hj with rfl | rfl | rfl <;> exact h.ab.cell _
theorem L3.bcell (h : L3 W w p v H came lv l A B) {j : Nat} (hj : j < 3) : w.cell? ⟨B, j, none⟩ = some (lv j) := by
  rcases three hj with rfl | rfl | rfl <;> exact h.bb.cell _
theorem L3.bcell' (h : Blk w B [lv 0, lv 1, lv 2] 48) {j : Nat} (hj : j < 3) : w.cell? ⟨B, j, none⟩ = some (lv j) := by
  rcases three hj with rfl | rfl | rfl <;> exact h.cell _

theorem L3.keep (h : L3 W w p v H came lv l A B) (k : Chg (fun _ => False) w w') : L3 W w' p v H came lv l A B :=
  ⟨h.m.keep k, h.ab.keep k (fun h => h), h.bb.keep k (fun h => h), h.aW, h.bW, h.ne, h.ap, h.av, h.al⟩

/-- A store into the array of lists alone. -/
theorem M3.store (m : M3 W w p v H came lv l) (k : Chg (fun k => k = B) w w') (bW : W.heap.size ≤ B) (hp : ∀ i, i < 3 → p i ≠ B) (hv : ∀ i, i < 3 → (v i).ownBlock ≠ some B) (hl : ∀ i, i < 3 → (lv i).ownBlock ≠ some B) : M3 W w' p v H came lv l := by
  refine ⟨fun i hi => ?_, m.ch.trans k (fun i hi => .inr (by subst hi; exact bW)), m.lp, m.nv, m.pp, m.vp, m.lq, m.vv, m.lw⟩
  have h := m.ts i hi
  exact ⟨h.hq.keep k (hp i hi) (fun k hk e => hv i hi (by rw [hk, e])), h.ho, h.fo, h.own.keep k (fun k hk e => hl i hi (by rw [hk, e])), h.np, h.nv, h.cm⟩

/-- What a turn leaves of the arrays. -/
theorem L3.ab' (h : L3 W w p v H came lv l A B) {t : Nat} (ht : t < 3) (hch : Chg (fun k => k = p t ∨ some k = (v t).ownBlock) w w') : Blk w' A [.pointer (some ⟨p 0, 0, none⟩), .pointer (some ⟨p 1, 0, none⟩), .pointer (some ⟨p 2, 0, none⟩)] 47 :=
  h.ab.keep hch (fun e => by rcases e with e | e; exact (h.ap t ht).1 e.symm; exact (h.av t ht).1 e.symm)
theorem L3.bb' (h : L3 W w p v H came lv l A B) {t : Nat} (ht : t < 3) (hch : Chg (fun k => k = p t ∨ some k = (v t).ownBlock) w w') : Blk w' B [lv 0, lv 1, lv 2] 48 :=
  h.bb.keep hch (fun e => by rcases e with e | e; exact (h.ap t ht).2 e.symm; exact (h.av t ht).2 e.symm)

theorem L3.turnx (h : L3 W w p v H came lv l A B) {t : Nat} (ht : t < 3) {lv' v' : Value} {H' : List E} {came' : Nat} {l' : List (Int × Int)}
    (ts' : TS w' (decide (t = 2)) (p t) v' H' came' lv' l') (hch : Chg (fun k => k = p t ∨ some k = (v t).ownBlock) w w') (hv : ∀ k, v'.ownBlock = some k → some k = (v t).ownBlock ∨ w.heap.size ≤ k) (hl : ∀ k, lv'.ownBlock = some k → (lv t).ownBlock = some k ∨ w.heap.size ≤ k) :
    L3 W (w'.setCell ⟨B, t, none⟩ lv') p (upd v t v') (upd H t H') (upd came t came') (upd lv t lv') (upd l t l') A B := by
  have hA := h.ab.lt
  have hB := h.bb.lt
  have m1 := h.m.turnx ht ts' hch hv hl
  have hk : Chg (fun k => k = B) w' (w'.setCell ⟨B, t, none⟩ lv') := (Chg.refl (fun k => k = B) _).setCell (p := ⟨B, t, none⟩) (.inl rfl) _
  have v1 : ∀ i, i < 3 → (upd v t v' i).ownBlock ≠ some A ∧ (upd v t v' i).ownBlock ≠ some B := fun i hi => by
    by_cases e : i = t
    · subst e
      rw [upd_same]
      refine ⟨fun e => ?_, fun e => ?_⟩
      · rcases hv _ e with e | e
        · exact (h.av i hi).1 e.symm
        · omega
      · rcases hv _ e with e | e
        · exact (h.av i hi).2 e.symm
        · omega
    · rw [upd_other _ e]; exact h.av i hi
  have l1 : ∀ i, i < 3 → (upd lv t lv' i).ownBlock ≠ some B := fun i hi => by
    by_cases e : i = t
    · subst e
      rw [upd_same]
      intro e
      rcases hl _ e with e | e
      · exact h.al i hi e
      · omega
    · rw [upd_other _ e]; exact h.al i hi
  refine ⟨m1.store hk h.bW (fun i hi => (h.ap i hi).2) (fun i hi => (v1 i hi).2) l1, (h.ab' ht hch).keep hk (fun e => h.ne e), ?_, h.aW, h.bW, h.ne, h.ap, v1, l1⟩
  have b1 := (h.bb' ht hch).set t lv'
  have e : [lv 0, lv 1, lv 2].set t lv' = [upd lv t lv' 0, upd lv t lv' 1, upd lv t lv' 2] := by rcases three ht with rfl | rfl | rfl <;> rfl
  rw [e] at b1
  exact b1

/-- The last Pop of one of them: nothing is there any more. -/
theorem L3.popped (h : L3 W w p v H came lv l A B) {t : Nat} (ht : t < 3) {v' : Value} {H' : List E} {came' : Nat}
    (ts' : TS w' (decide (t = 2)) (p t) v' H' came' (lv t) (l t)) (hch : Chg (fun k => k = p t ∨ some k = (v t).ownBlock) w w') (hv : ∀ k, v'.ownBlock = some k → some k = (v t).ownBlock ∨ w.heap.size ≤ k) :
    L3 W w' p (upd v t v') (upd H t H') (upd came t came') lv l A B := by
  have hA := h.ab.lt
  have hB := h.bb.lt
  have m1 := h.m.turnx ht ts' hch hv (fun k hk => .inl hk)
  have el : upd lv t (lv t) = lv := by funext i; unfold upd; split; rename_i e; rw [e]; rfl
  have el2 : upd l t (l t) = l := by funext i; unfold upd; split; rename_i e; rw [e]; rfl
  rw [el, el2] at m1
  refine ⟨m1, h.ab' ht hch, h.bb' ht hch, h.aW, h.bW, h.ne, h.ap, fun i hi => ?_, h.al⟩
  by_cases e : i = t
  · subst e
    rw [upd_same]
    refine ⟨fun e => ?_, fun e => ?_⟩
    · rcases hv _ e with e | e
      · exact (h.av i hi).1 e.symm
      · omega
    · rcases hv _ e with e | e
      · exact (h.av i hi).2 e.symm
      · omega
  · rw [upd_other _ e]; exact h.av i hi

end

/-- Three new heaps. -/
theorem L3.made {W w1 w2 w3 w4 : World} (c1 : Hq w1 W.heap.size (fB false) (.slice none 0 0) [] 0) (d1 : Chg (fun _ => False) W w1) (c2 : Hq w2 w1.heap.size (fB false) (.slice none 0 0) [] 0) (d2 : Chg (fun _ => False) w1 w2)
    (c3 : Hq w3 w2.heap.size (fB true) (.slice none 0 0) [] 0) (d3 : Chg (fun _ => False) w2 w3) {A B : Nat} (hA : w3.heap.size ≤ A) (hB : w3.heap.size ≤ B) (ne : A ≠ B) (d4 : Chg (fun _ => False) w3 w4)
    (ab : Blk w4 A [.pointer (some ⟨W.heap.size, 0, none⟩), .pointer (some ⟨w1.heap.size, 0, none⟩), .pointer (some ⟨w2.heap.size, 0, none⟩)] 47) (bb : Blk w4 B [.slice none 0 0, .slice none 0 0, .slice none 0 0] 48) :
    L3 W w4 (sel W.heap.size w1.heap.size w2.heap.size) (fun _ => .slice none 0 0) (fun _ => []) (fun _ => 0) (fun _ => .slice none 0 0) (fun _ => []) A B := by
  have h1 := c1.lt
  have h2 := c2.lt
  have h3 := c3.lt
  have s1 := d1.size
  have s2 := d2.size
  have s3 := d3.size
  have nb : (Value.slice none 0 0).ownBlock = none := rfl
  have q : ∀ i, i < 3 → Hq w4 (sel W.heap.size w1.heap.size w2.heap.size i) (fB (decide (i = 2))) (.slice none 0 0) [] 0 := fun i hi => by
    rcases three hi with rfl | rfl | rfl
    · exact ((c1.keep d2 (fun h => h) (fun _ _ h => h)).keep d3 (fun h => h) (fun _ _ h => h)).keep d4 (fun h => h) (fun _ _ h => h)
    · exact (c2.keep d3 (fun h => h) (fun _ _ h => h)).keep d4 (fun h => h) (fun _ _ h => h)
    · exact c3.keep d4 (fun h => h) (fun _ _ h => h)
  refine ⟨⟨fun i hi => ⟨q i hi, HO.nil _, ⟨[], Follows.nil⟩, OwnT.nil _, by simp [nb], by simp [nb], Nat.le_refl _⟩, ((d1.trans d2 (fun _ h => h.elim)).trans d3 (fun _ h => h.elim)).trans d4 (fun _ h => h.elim), fun i hi => ?_, by simp [nb], fun i j hi hj hij => ?_, by simp [nb], by simp [nb], by simp [nb], by simp [nb]⟩, ab, bb, by omega, by omega, ne, fun i hi => ?_, by simp [nb], by simp [nb]⟩
  · rcases three hi with rfl | rfl | rfl <;> simp [sel] <;> omega
  · rcases three hi with rfl | rfl | rfl <;> rcases three hj with rfl | rfl | rfl <;> simp [sel] at hij ⊢ <;> omega
  · rcases three hi with rfl | rfl | rfl <;> simp [sel] <;> omega

end Go.Proofs.Ytljnpgomdohplaa
