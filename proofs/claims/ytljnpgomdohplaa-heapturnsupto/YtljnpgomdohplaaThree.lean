/-
  Three heaps side by side.
-/
import Derived.Test.YtljnpgomdohplaaTurn6
namespace Go.Proofs.Ytljnpgomdohplaa

/-- One place of three turned. -/
def upd {α : Type} (f : Nat → α) (t : Nat) (x : α) : Nat → α := fun i => if i = t then x else f i
theorem upd_same {α : Type} (f : Nat → α) (t : Nat) (x : α) : upd f t x t = x := by simp [upd]
theorem upd_other {α : Type} (f : Nat → α) {t i : Nat} (h : i ≠ t) (x : α) : upd f t x i = f i := by simp [upd, h]

/-- Three heaps with their lists, none of which shares a block with another. -/
structure M3 (W w : World) (p : Nat → Nat) (v : Nat → Value) (H : Nat → List E) (came : Nat → Nat) (lv : Nat → Value) (l : Nat → List (Int × Int)) : Prop where
  ts : ∀ i, i < 3 → TS w (decide (i = 2)) (p i) (v i) (H i) (came i) (lv i) (l i)
  ch : Chg (fun _ => False) W w
  lp : ∀ i, i < 3 → W.heap.size ≤ p i
  nv : ∀ i, i < 3 → ∀ k, (v i).ownBlock = some k → W.heap.size ≤ k
  pp : ∀ i j, i < 3 → j < 3 → i ≠ j → p i ≠ p j
  vp : ∀ i j, i < 3 → j < 3 → i ≠ j → (v i).ownBlock ≠ some (p j)
  lq : ∀ i j, i < 3 → j < 3 → i ≠ j → (lv i).ownBlock ≠ some (p j)
  vv : ∀ i j, i < 3 → j < 3 → i ≠ j → ∀ k, (v j).ownBlock = some k → (v i).ownBlock ≠ some k
  lw : ∀ i j, i < 3 → j < 3 → i ≠ j → ∀ k, (v j).ownBlock = some k → (lv i).ownBlock ≠ some k

/-- A turn of one of them, said in full. -/
theorem M3.turnx {W w w' : World} {p : Nat → Nat} {v : Nat → Value} {H : Nat → List E} {came : Nat → Nat} {lv : Nat → Value} {l : Nat → List (Int × Int)} (m : M3 W w p v H came lv l) {t : Nat} (ht : t < 3) {lv' v' : Value} {H' : List E} {came' : Nat} {l' : List (Int × Int)}
    (ts' : TS w' (decide (t = 2)) (p t) v' H' came' lv' l') (hch : Chg (fun k => k = p t ∨ some k = (v t).ownBlock) w w') (hv : ∀ k, v'.ownBlock = some k → some k = (v t).ownBlock ∨ w.heap.size ≤ k) (hl : ∀ k, lv'.ownBlock = some k → (lv t).ownBlock = some k ∨ w.heap.size ≤ k) :
    M3 W w' p (upd v t v') (upd H t H') (upd came t came') (upd lv t lv') (upd l t l') := by
  have plt : ∀ i, i < 3 → p i < w.heap.size := fun i hi => (m.ts i hi).hq.lt
  have vlt : ∀ i, i < 3 → ∀ k, (v i).ownBlock = some k → k < w.heap.size := fun i hi => (m.ts i hi).hq.vlt
  have llt : ∀ i, i < 3 → ∀ k, (lv i).ownBlock = some k → k < w.heap.size := fun i hi k hk => (m.ts i hi).own.lt hk
  have hsz := m.ch.size
  refine ⟨fun i hi => ?_, m.ch.trans hch (fun i hi => .inr ?_), m.lp, fun i hi k hk => ?_, m.pp, fun i j hi hj hij => ?_, fun i j hi hj hij => ?_, fun i j hi hj hij k hk => ?_, fun i j hi hj hij k hk => ?_⟩
  · by_cases hit : i = t
    · subst hit; simp only [upd_same]; exact ts'
    · simp only [upd_other _ hit]
      have h := m.ts i hi
      refine ⟨h.hq.keep hch (fun e => ?_) (fun k hk e => ?_), h.ho, h.fo, h.own.keep hch (fun k hk e => ?_), h.np, h.nv, h.cm⟩
      · rcases e with e | e
        · exact m.pp i t hi ht hit e
        · exact m.vp t i ht hi (Ne.symm hit) e.symm
      · rcases e with e | e
        · exact m.vp i t hi ht hit (by rw [hk, e])
        · exact m.vv i t hi ht hit k e.symm hk
      · rcases e with e | e
        · exact m.lq i t hi ht hit (by rw [hk, e])
        · exact m.lw i t hi ht hit k e.symm hk
  · rcases hi with e | e
    · rw [e]; exact m.lp t ht
    · exact m.nv t ht i e.symm
  · by_cases hit : i = t
    · subst hit
      rw [upd_same] at hk
      rcases hv k hk with e | e
      · exact m.nv i hi k e.symm
      · omega
    · rw [upd_other _ hit] at hk; exact m.nv i hi k hk
  · by_cases hit : i = t
    · subst hit
      rw [upd_same]
      intro e
      rcases hv _ e with e | e
      · exact m.vp i j hi hj hij e.symm
      · have := plt j hj; omega
    · rw [upd_other _ hit]; exact m.vp i j hi hj hij
  · by_cases hit : i = t
    · subst hit
      rw [upd_same]
      intro e
      rcases hl _ e with e | e
      · exact m.lq i j hi hj hij e
      · have := plt j hj; omega
    · rw [upd_other _ hit]; exact m.lq i j hi hj hij
  · by_cases hit : i = t
    · subst hit
      rw [upd_same]
      rw [upd_other _ (Ne.symm hij)] at hk
      intro e
      rcases hv k e with e | e
      · exact m.vv i j hi hj hij k hk e.symm
      · have := vlt j hj k hk; omega
    · rw [upd_other _ hit]
      by_cases hjt : j = t
      · subst hjt
        rw [upd_same] at hk
        intro e
        rcases hv k hk with e2 | e2
        · exact m.vv i j hi hj hij k e2.symm e
        · have := vlt i hi k e; omega
      · rw [upd_other _ hjt] at hk
        exact m.vv i j hi hj hij k hk
  · by_cases hit : i = t
    · subst hit
      rw [upd_same]
      rw [upd_other _ (Ne.symm hij)] at hk
      intro e
      rcases hl k e with e | e
      · exact m.lw i j hi hj hij k hk e
      · have := vlt j hj k hk; omega
    · rw [upd_other _ hit]
      by_cases hjt : j = t
      · subst hjt
        rw [upd_same] at hk
        intro e
        rcases hv k hk with e2 | e2
        · exact m.lw i j hi hj hij k e2.symm e
        · have := llt i hi k e; omega
      · rw [upd_other _ hjt] at hk
        exact m.lw i j hi hj hij k hk

/-- Other memory that is made or read. -/
theorem M3.keep {W w w' : World} {p : Nat → Nat} {v : Nat → Value} {H : Nat → List E} {came : Nat → Nat} {lv : Nat → Value} {l : Nat → List (Int × Int)} (m : M3 W w p v H came lv l) (k : Chg (fun _ => False) w w') : M3 W w' p v H came lv l :=
  ⟨fun i hi => (m.ts i hi).keep k, m.ch.trans k (fun _ h => h.elim), m.lp, m.nv, m.pp, m.vp, m.lq, m.vv, m.lw⟩

end Go.Proofs.Ytljnpgomdohplaa
