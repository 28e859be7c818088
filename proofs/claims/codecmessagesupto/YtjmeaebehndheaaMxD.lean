/-
  The reference reads messages: lists under way.
-/
import Derived.Test.YtjmeaebehndheaaMxC
import Derived.Test.YtjmeaebehndheaaMsM
namespace Go.Proofs.Ytjmeaebehndheaa
open Go.RowKit

/-- What the reference's reading of n changes gives. -/
def manyX (T : List Int) : Nat → Nat → Int → List ChS × Nat × Int
  | 0, a, err => ([], a, err)
  | n + 1, a, err => if err = 0 then ((chX T a err) :: (manyX T n (chX T a err).at_ (chX T a err).err).1, (manyX T n (chX T a err).at_ (chX T a err).err).2) else ([], a, err)
theorem manyX_err {T : List Int} {n a : Nat} {err : Int} (h : ¬ err = 0) : manyX T n a err = ([], a, err) := by
  cases n with
  | zero => rfl
  | succ n => simp [manyX, h]
theorem manyX_step {T : List Int} {n a : Nat} : manyX T (n + 1) a 0 = ((chX T a 0) :: (manyX T n (chX T a 0).at_ (chX T a 0).err).1, (manyX T n (chX T a 0).at_ (chX T a 0).err).2) := by simp [manyX]
theorem manyC_bad {T : List Int} : ∀ (n a : Nat) (e : Int), ¬ e = 0 → (manyC T n a e).2.2 = e := fun n a e h => by rw [manyC_err h]
theorem manyX_same (T : List Int) : ∀ (n a : Nat) (e : Int), (manyX T n a e).2 = (manyC T n a e).2 ∧ ((manyC T n a e).2.2 = 0 → manyX T n a e = manyC T n a e)
  | 0, a, e => ⟨rfl, fun _ => rfl⟩
  | n + 1, a, e => by
    by_cases he : e = 0
    · subst he
      obtain ⟨q1, q2, q3⟩ := chX_same T a 0
      rw [manyX_step, manyC_step]
      obtain ⟨r1, r2⟩ := manyX_same T n (chS T a 0).at_ (chS T a 0).err
      rw [q1, q2]
      refine ⟨r1, fun h => ?_⟩
      have hz : (chS T a 0).err = 0 := by
        by_cases hc : (chS T a 0).err = 0
        · exact hc
        · have h9 : (manyC T n (chS T a 0).at_ (chS T a 0).err).2.2 = 0 := h
          rw [manyC_bad _ _ _ hc] at h9
          exact absurd h9 hc
      rw [q3 hz, r2 h]
    · rw [manyX_err he, manyC_err he]
      exact ⟨rfl, fun _ => rfl⟩
theorem SX.gl {ty sz tt : TypeId} (h : ty ≠ tt) (h2 : tt ≠ 64) (s : Value) (l : List (List Value)) : SX ty (fun w => GL w s tt sz l) := fun w w' g cur t hi hg ht c => hi.kept c (fun k cur' _ e2 e => by
  rw [e, hg] at e2
  injection e2 with e2
  injection e2 with _ e2
  rcases ht with ht | ht
  · exact h2 (e2.symm.trans ht)
  · exact h (ht.symm.trans e2))
theorem SX.cm {ty : TypeId} (h : ty ≠ 112) (h2 : ty ≠ 5) (s : Value) (l : List ChV) : SX ty (fun w => CM w s l) := fun w w' g cur t hi hg ht c => hi.kept c (fun k cur' t2 e e2 => by
  rw [e, hg] at e2
  injection e2 with e2
  injection e2 with _ e2
  rw [← e2]
  rcases ht with ht | ht
  · rw [ht]; decide
  · rw [ht]; exact ⟨h, h2⟩)
/-- One thing more in a list of the record under way. -/
theorem BX.add {w wr w6 w7 : World} {p r q : Nat} {tv v : Value} {T : List Int} {Z cs : List Value} {J J' : World → Prop} {a a1 : Nat} {err e1 : Int} (h : BX w p tv T 95 r q Z J wr a err cs) (c : RP wr w6 p 64 tv T a1 e1) (k : Chg (fun g => some g = v.ownBlock) w6 w7) (hv : ∀ g, v.ownBlock = some g → w.heap.size ≤ g) {tt : TypeId} (ht : ∀ g, v.ownBlock = some g → ∃ cur, w6.heap[g]? = some (.cells cur tt (0, 0))) (hne : tt ≠ 95) (hj : J' w7) (st' : SX 95 J') :
    Blk w6 q cs 95 ∧ Blk w7 q cs 95 ∧ BX w p tv T 95 r q Z J' w7 a1 e1 cs := by
  have b := h.call c
  have no : ∀ {g : Nat} {c2 : List Value}, Blk w6 g c2 95 → ¬ some g = v.ownBlock := fun {g c2} hb e => by
    obtain ⟨cur, e2⟩ := ht g e.symm
    rw [hb.eq] at e2
    injection e2 with e2
    injection e2 with _ e2
    exact hne e2.symm
  have at3 : At w w7 p 64 tv T a1 e1 := by
    have a2 := b.st_
    refine ⟨⟨a2.rp.1.keep2 k (fun e => ?_) (fun g hg => ?_), a2.rp.2.trans k (fun g e => .inr (hv g e.symm))⟩, a2.plt, a2.tlt⟩
    · have := hv p e.symm
      have := a2.plt
      omega
    · rcases a2.tlt g hg with e | e
      · exact .inl (fun e2 => by have := hv g e2.symm; omega)
      · exact .inr e
  exact ⟨b.row, b.row.keep k (no b.row), ⟨at3, b.res.keep k (no b.res), b.row.keep k (no b.row), hj, st', b.ge⟩⟩
end Go.Proofs.Ytjmeaebehndheaa
