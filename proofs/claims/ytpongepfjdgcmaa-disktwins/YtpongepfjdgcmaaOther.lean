/-
  A disk while other rows turn; acts in memory, a list of them that grows.
-/
import Derived.Test.YtpongepfjdgcmaaPend
namespace Go.Proofs.Ytpongepfjdgcmaa
open Go.RowKit Go.RwLone

section
variable {w w' : World} {N p S z b pn : Nat} {A : Nat → List (Nat × List Int)} {F : Nat → Option (List Int)} {row : Option Nat}

end

/-- An act. -/
structure Ac where
  on : Int
  kd : Int
  nm : Int
  fill : Int
  less : Int
  at_ : Int
  mask : Int
  ka : Option Addr
  kn : Nat
  kc : Nat
  torn : Int
def Ac.cells (a : Ac) : List Value := actC a.on a.kd a.nm a.fill a.less a.at_ a.mask (.slice a.ka a.kn a.kc) a.torn
theorem Ac.len (a : Ac) : a.cells.length = 9 := rfl
theorem Ac.one (a : Ac) : ∀ u ∈ a.cells, u.oneCell' = true := by
  intro u hu
  simp only [Ac.cells, actC, List.mem_cons, List.not_mem_nil, or_false] at hu
  rcases hu with rfl | rfl | rfl | rfl | rfl | rfl | rfl | rfl | rfl <;> rfl

/-- A list of acts in memory. -/
structure Acs (w : World) (a : Option Addr) (N : Nat) (ac : Nat → Ac) : Prop where
  row : ∀ i, i < N → ∃ g o, a = some ⟨g, o, none⟩ ∧ ∀ j v, (ac i).cells[j]? = some v → w.cell? ⟨g, o + i * 9 + j, none⟩ = some v
  nm : ∀ i, i < N → -9223372036854775808 ≤ (ac i).nm ∧ (ac i).nm ≤ 9223372036854775807
  fl : ∀ i, i < N → 0 ≤ (ac i).fill ∧ (ac i).fill ≤ 255

/-- The cells of the first acts. -/
def dcells (dn : Nat → Ac) (j : Nat) : List Value := (List.range j).flatMap fun k => (dn k).cells
theorem dcells_next (dn : Nat → Ac) (j : Nat) : dcells dn (j + 1) = dcells dn j ++ (dn j).cells := by simp [dcells, List.range_succ]
theorem dcells_len (dn : Nat → Ac) (j : Nat) : (dcells dn j).length = j * 9 := by
  induction j with
  | zero => rfl
  | succ j ih => rw [dcells_next, List.length_append, ih, Ac.len]; omega
theorem dcells_get (dn : Nat → Ac) : ∀ (n j q : Nat) (v : Value), j < n → (dn j).cells[q]? = some v → (dcells dn n)[j * 9 + q]? = some v
  | 0, j, _, _, h, _ => by omega
  | n + 1, j, q, v, h, hv => by
    have hq : q < 9 := (List.getElem?_eq_some_iff.1 hv).1
    rw [dcells_next]
    by_cases e : j = n
    · subst e
      rw [List.getElem?_append_right (by rw [dcells_len]; omega), dcells_len, Nat.add_sub_cancel_left]
      exact hv
    · rw [List.getElem?_append_left (by rw [dcells_len]; omega)]
      exact dcells_get dn n j q v (by omega) hv

theorem info45 : (Try.prog.info? 45).map (fun i => (i.zero, i.size, i.bytes)) = some (some (.agg #[.int .i64 0, .int .i64 0, .int .i64 0, .int .u8 0, .int .i64 0, .int .i64 0, .int .u8 0, .slice none 0 0, .int .i64 0]), 9, 88) := by kernel_rfl

/-- One act more. -/
theorem run_appD (w : World) (ty : TypeId) {v : Value} {n : Nat} {xs : List Value} (hv : w.ownsRow 0 45 9 v n xs) (a : Addr) (c : Nat) (d : Ac) (ha : ∀ j u, d.cells[j]? = some u → w.cell? (a.add j) = some u) (hn : (n + 1) * 88 ≤ 140737488355328) :
    ∃ v' w', (Builtin.append_ #[42, 42] ty #[v, .slice (some a) 1 c]).run Try.prog w = .ok v' w' ∧ w'.ownsRow 0 45 9 v' (n + 1) (xs ++ d.cells) ∧ w.grownBy w' v.ownBlock ∧ (v'.ownBlock = v.ownBlock ∨ v'.ownBlock = some w.heap.size) := by
  obtain ⟨i0, hi, hz0, hz1, hz2⟩ := info_parts info45
  obtain ⟨v', w1, h1, h2, h3, h4, h5⟩ := run_append_own_at (P := Try.prog) w 0 42 ty 45 i0 _ 9 88 Try.underlying42 hi hz0 hz1 hz2 rfl (by decide) v n xs hv a 1 c d.cells rfl ha d.one (by unfold maxLen; omega) (by omega) (Nat.zero_le _)
  exact ⟨v', w1, h1, h2, h3, h5⟩

theorem wpList_appD {ops : Array Oper} {rest : List Oper} {o : Oper} {a : Act} {w : World} {Q : Exit → Act → World → Prop} (hgd : o.guard = none) (s x : Operand)
    (ho : o.op = .call { callee := .builtin .append, args := #[s, x], argTypes := #[42, 42] })
    {v : Value} {n : Nat} {xs : List Value} {ad : Addr} {c : Nat} {d : Ac} (hs : a.eval s = v) (hx : a.eval x = .slice (some ad) 1 c) (hv : w.ownsRow 0 45 9 v n xs) (ha : ∀ j u, d.cells[j]? = some u → w.cell? (ad.add j) = some u) (hn : (n + 1) * 88 ≤ 140737488355328)
    (h : ∀ v' w', w'.ownsRow 0 45 9 v' (n + 1) (xs ++ d.cells) → w.grownBy w' v.ownBlock → (v'.ownBlock = v.ownBlock ∨ v'.ownBlock = some w.heap.size) → wpList Try.prog ops Q rest (a.put o.dst v') w') :
    wpList Try.prog ops Q (o :: rest) a w := by
  refine wpList_plain hgd fun K hK => ?_
  obtain ⟨v', w', hr, h2, h3, h5⟩ := run_appD w o.type hv ad c d ha hn
  unfold Oper.wp execOp
  simp only [ho, resolve, invoke, builtin, Sem.run_bind, Sem.run_pure, Result.andThen_ok, List.map_toArray, List.map_cons, List.map_nil, hs, hx, hr]
  exact hK _ _ (h v' w' h2 h3 h5)

theorem row45 {w : World} {v : Value} {n : Nat} {xs : List Value} (h : w.ownsRow 0 45 9 v n xs) {g : Nat} (hg : v.ownBlock = some g) : ∃ cur, Rw w g cur 45 := by
  rcases h.2 with ⟨e, _⟩ | ⟨b, cap, cur, e, _, hgg, _⟩
  · rw [e] at hg; simp [Value.ownBlock] at hg
  · rw [e] at hg
    simp [Value.ownBlock] at hg
    exact ⟨cur, by rw [← hg]; exact ⟨hgg⟩⟩
end Go.Proofs.Ytpongepfjdgcmaa
