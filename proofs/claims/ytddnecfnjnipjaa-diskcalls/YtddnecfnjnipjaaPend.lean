import Derived.Test.YtddnecfnjnipjaaCrashB
/-
  A disk as what it holds: sector t has the writes A t in the cache and F t durable.
-/
namespace Go.Proofs.Ytddnecfnjnipjaa
open Go.RowKit Go.RwLone

def foldA (z : Nat) (kN : Nat → Nat) : List (Nat × List Int) → Option (List Int) → Option (List Int)
  | [], cur => cur
  | y :: l, cur => foldA z kN l (if kN y.1 = 0 then cur else some (over y.2 (cur.getD (zs z)) (kN y.1)))
theorem foldA_snoc (z : Nat) (kN : Nat → Nat) : ∀ (l : List (Nat × List Int)) (y : Nat × List Int) (cur : Option (List Int)), foldA z kN (l ++ [y]) cur = if kN y.1 = 0 then foldA z kN l cur else some (over y.2 ((foldA z kN l cur).getD (zs z)) (kN y.1))
  | [], _, _ => rfl
  | _ :: l, y, _ => foldA_snoc z kN l y _
theorem foldC_A (z : Nat) (kN : Nat → Nat) (C : Nat → List Int) : ∀ (l : List (Nat × Nat)) (cur : Option (List Int)), foldC z kN C l cur = foldA z kN (l.map fun y => (y.1, C y.2)) cur
  | [], _ => rfl
  | _ :: l, _ => foldC_A z kN C l _

/-- What a flush leaves of a sector; what is read of it. -/
def lastA (l : List (Nat × List Int)) (f : Option (List Int)) : Option (List Int) :=
  match l.getLast? with
  | some y => some y.2
  | none => f
theorem lastA_nil (f : Option (List Int)) : lastA [] f = f := rfl
theorem lastA_snoc (l : List (Nat × List Int)) (y : Nat × List Int) (f : Option (List Int)) : lastA (l ++ [y]) f = some y.2 := by simp [lastA]

section
variable {w w' : World} {N p S z b : Nat} {x : Nums} {A : Nat → List (Nat × List Int)} {F : Nat → Option (List Int)}

/-- Only the row has turned. -/
theorem DC.turn {m c kc km b b' : Nat} {x x' : Nums} {L : Nat → List (Nat × Nat)} {V : Nat → Value} {D : DataW Unit} {K : Nat → Option Nat} {E : DataW Unit} {C : Nat → List Int} (h : DC w p m c S z kc km b x L V D K E C) (k : Chg (fun i => i = p) w w') (r : Rw w' p (dkG S z m c x') 86) (hp : x'.pend = x.pend) (hb : b ≤ b') : DC w' p m c S z kc km b' x' L V D K E C :=
  ⟨h.dd.turn k r hp hb, fun t y hy => ⟨Rw.chg1 (h.lr t y hy).1 k (Rw.ne (h.lr t y hy).1 h.dd.row (by decide)), (h.lr t y hy).2⟩, fun t g hg => ⟨Rw.chg1 (h.kr t g hg).1 k (Rw.ne (h.kr t g hg).1 h.dd.row (by decide)), (h.kr t g hg).2⟩, h.ki, h.kl, h.li, h.nd, by rw [hp]; exact h.pk⟩

theorem lat_lastA {z : Nat} {L : List (Nat × Nat)} {K : Option Nat} {C : Nat → List Int} : (latV z L K = .slice none 0 0 ∧ lastA (L.map fun y => (y.1, C y.2)) (K.map C) = none) ∨ ∃ B, latV z L K = .slice (some ⟨B, 0, none⟩) z z ∧ lastA (L.map fun y => (y.1, C y.2)) (K.map C) = some (C B) ∧ ((∃ y ∈ L, y.2 = B) ∨ K = some B) := by
  unfold latV lastA
  rw [List.getLast?_map]
  cases hl : L.getLast? with
  | some y => exact .inr ⟨y.2, rfl, rfl, .inl ⟨y, List.mem_of_getLast? hl, rfl⟩⟩
  | none =>
    cases K with
    | none => exact .inl ⟨rfl, rfl⟩
    | some g => exact .inr ⟨g, rfl, rfl, .inr rfl⟩

theorem lastK_lastA {l : List (Nat × Nat)} {k : Option Nat} {C : Nat → List Int} : (lastK l k).map C = lastA (l.map fun y => (y.1, C y.2)) (k.map C) := by
  unfold lastK lastA
  rw [List.getLast?_map]
  cases l.getLast? <;> rfl
theorem lastK_cases (l : List (Nat × Nat)) (k : Option Nat) {g : Nat} (h : lastK l k = some g) : (∃ y ∈ l, y.2 = g) ∨ (l = [] ∧ k = some g) := by
  by_cases e : l = []
  · subst e
    exact .inr ⟨rfl, h⟩
  · obtain ⟨y, hy, h2, _⟩ := lastK_ne e k
    rw [h2] at h
    injection h with h
    exact .inl ⟨y, hy, h⟩

end
end Go.Proofs.Ytddnecfnjnipjaa

/-
  Pending where nothing is in the cache.
-/
namespace Go.Proofs.Ytddnecfnjnipjaa
open Go.RowKit Go.RwLone

theorem burn_on {x : Nums} (h1 : x.fuse = -1) (h2 : x.off = false) : burnE x = 0 ∧ burnN x = x := by
  have hx : ¬ (x.off = true ∨ x.fuse = 0) := by rw [h1, h2]; simp
  unfold burnE burnN
  rw [if_neg hx, if_neg hx, if_pos h1]
  exact ⟨rfl, rfl⟩

section
variable {w w' : World} {N p S z b pn : Nat} {A : Nat → List (Nat × List Int)} {F : Nat → Option (List Int)}
end
end Go.Proofs.Ytddnecfnjnipjaa
