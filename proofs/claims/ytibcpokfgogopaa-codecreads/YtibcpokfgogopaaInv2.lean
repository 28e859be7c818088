/-
  More on the memory of CodecWrites: a round's sums.
-/
import Derived.Test.YtibcpokfgogopaaInv
namespace Go.Proofs.Ytibcpokfgogopaa
open Go.RowKit

/-- What was handed out bears its number. -/
def Reps (con : Nat → List Int) (q : Nat) : Prop := ∀ n, n < q → ∃ r, con (5 + n) = List.replicate r ((n : Int) % 256)
def Fine (con : Nat → List Int) (b : Nat) : Prop := con 2 = con 0 ∧ con 3 = con 1 ∧ (con 0).length + (con 1).length ≤ b

theorem next_of {w wc : World} {P : Nat} {val : Nat → Value} {con : Nat → List Int} {kk q b : Nat} {v4 v6 : Value} {X : List Int} (hkk : kk < 2) (hf : Fine con b) (hr : Reps con q)
    (hi : Inv w wc P (upd (upd val kk v4) (2 + kk) v6) (upd (upd con kk (con kk ++ X)) (2 + kk) (con (2 + kk) ++ X)) q) :
    ∃ val' con', Inv w wc P val' con' q ∧ Fine con' (b + X.length) ∧ Reps con' q ∧ val 4 = val' 4 := by
  obtain ⟨e2, e3, hb⟩ := hf
  refine ⟨_, _, hi, ⟨?_, ?_, ?_⟩, ?_, ?_⟩
  · match kk, hkk with
    | 0, _ => simp [upd, e2]
    | 1, _ => simp [upd, e2]
  · match kk, hkk with
    | 0, _ => simp [upd, e3]
    | 1, _ => simp [upd, e3]
  · match kk, hkk with
    | 0, _ => simp [upd]; omega
    | 1, _ => simp [upd]; omega
  · intro n hn
    rw [upd_other _ _ (by omega), upd_other _ _ (by omega)]
    exact hr n hn
  · rw [upd_other _ _ (by omega), upd_other _ _ (by omega)]

theorem fine_push {con : Nat → List Int} {b q : Nat} {l : List Int} (h : Fine con b) : Fine (upd con (5 + q) l) b := by
  obtain ⟨e2, e3, hb⟩ := h
  refine ⟨?_, ?_, ?_⟩
  · rw [upd_other _ _ (by omega), upd_other _ _ (by omega)]; exact e2
  · rw [upd_other _ _ (by omega), upd_other _ _ (by omega)]; exact e3
  · rw [upd_other _ _ (by omega), upd_other _ _ (by omega)]; exact hb
theorem reps_push {con : Nat → List Int} {q r : Nat} (h : Reps con q) : Reps (upd con (5 + q) (List.replicate r ((q : Int) % 256))) (q + 1) := by
  intro n hn
  by_cases e : n = q
  · subst e; exact ⟨r, by rw [upd_same]⟩
  · rw [upd_other _ _ (by omega)]; exact h n (by omega)

theorem Fine.like {con : Nat → List Int} {b t : Nat} (h : Fine con b) (ht : t < 2) : con (2 + t) = con t ∧ (con t).length ≤ b := by
  obtain ⟨e2, e3, hb⟩ := h
  match t, ht with
  | 0, _ => exact ⟨e2, by omega⟩
  | 1, _ => exact ⟨e3, by omega⟩

theorem Made.store {w w1 : World} {g n c : Nat} {l : List Int} (h : Made w w1 (.slice (some ⟨g, 0, none⟩) n c) l) (j : Nat) (x : Int) : Made w (w1.setCell ⟨g, j, none⟩ (.int .u8 x)) (.slice (some ⟨g, 0, none⟩) n c) (l.set j x) :=
  ⟨Own.store h.1 j x, h.2.1.setCell (h.2.2 g rfl) _, h.2.2⟩

theorem info23 : (Try.prog.info? 23).map (fun i => (i.zero, i.size, i.bytes)) = some (some (.slice none 0 0), 1, 24) := by kernel_rfl

theorem ownsRow_form {w : World} {e : TypeId} {v : Value} {n : Nat} {xs : List Value} (h : w.ownsRow 0 e 1 v n xs) : ∃ a c, v = .slice a n c ∧ (0 < n → ∃ g, a = some ⟨g, 0, none⟩ ∧ ∀ j u, xs[j]? = some u → w.cell? ⟨g, j, none⟩ = some u) := by
  rcases h.2 with ⟨rfl, h0⟩ | ⟨g, cap, cur, rfl, _⟩
  · exact ⟨none, 0, by rw [h0], fun h => by omega⟩
  · refine ⟨_, _, rfl, fun _ => ⟨g, rfl, fun j u hu => ?_⟩⟩
    have := World.ownsRow.cells h (g := g) rfl j u hu
    rwa [addr_add, Nat.zero_add] at this

/-- append of one slice of bytes onto the list of them. -/
theorem wpList_app23 {ops : Array Oper} {rest : List Oper} {o : Oper} {a : Act} {w : World} {Q : Exit → Act → World → Prop} (hgd : o.guard = none) (s x : Operand)
    (ho : o.op = .call { callee := .builtin .append, args := #[s, x], argTypes := #[28, 28] })
    {v : Value} {q : Nat} {xs : List Value} {a0 : Option Addr} {n0 c0 : Nat} (hs : a.eval s = v) (hx : a.eval x = .slice (some ⟨w.heap.size, 0, none⟩) 1 1) (hv : w.ownsRow 0 23 1 v q xs) (hb : q + 1 ≤ 1000000000)
    (h : ∀ v' w', w'.ownsRow 0 23 1 v' (q + 1) (xs ++ [.slice a0 n0 c0]) → Chg (fun k => some k = v.ownBlock) (w.alloc (.cells #[.slice a0 n0 c0] 23)) w' → (v'.ownBlock = v.ownBlock ∨ v'.ownBlock = some (w.alloc (.cells #[.slice a0 n0 c0] 23)).heap.size) → wpList Try.prog ops Q rest (a.put o.dst v') w') :
    wpList Try.prog ops Q (o :: rest) a (w.alloc (.cells #[.slice a0 n0 c0] 23)) := by
  obtain ⟨i0, hi, hz0, hz1, hz2⟩ := info_parts info23
  refine wpList_append_own_at _ hgd s x 28 ho 0 23 i0 (.slice none 0 0) 1 24 Try.underlying28 hi hz0 hz1 hz2 rfl (by decide) v q xs hs (hv.alloc _) ⟨w.heap.size, 0, none⟩ 1 1 [.slice a0 n0 c0] hx rfl (cell_one_new _ _ _) (by simp [Value.oneCell']) (by unfold maxLen; omega) (by omega) (Nat.zero_le _) ?_
  intro v' w' h2 h3 _ h5
  exact h v' w' h2 (Chg.of_grown h3) h5

theorem inv_start (w : World) : Inv w ((w.alloc (.cells #[.slice none 0 0, .slice none 0 0] 26)).alloc (.cells #[.slice none 0 0, .slice none 0 0] 27)) w.heap.size (fun _ => .slice none 0 0) (fun _ => []) 0 where
  bel := ((Below.refl _ _).alloc (Nat.le_refl _) _).alloc (by simp) _
  blkP := by rw [Below.heap_alloc _ _ _ (by simp)]; exact heap_alloc_new _ _
  blkL := by
    have := heap_alloc_new (w.alloc (.cells #[.slice none 0 0, .slice none 0 0] 26)) (.cells #[.slice none 0 0, .slice none 0 0] 27)
    simpa using this
  own := fun _ _ _ => Own.nil _
  oo := World.ownsRow_nil _ _ _ _
  ap := fun _ _ _ _ _ _ h => by simp [Value.ownBlock] at h
  lo := fun _ _ _ h => by simp [Value.ownBlock] at h

theorem Made.drewN {w w1 : World} {v : Value} {l : List Int} (h : Made w w1 v l) (n : Nat) : Made w (w1.drewN n) v l := ⟨Own.drewN h.1 n, below_drewN h.2.1 n, h.2.2⟩
theorem Own.len_le {w : World} {v : Value} {l : List Int} (h : Own w v l) : l.length ≤ 9223372036854775807 := by
  rcases h.2 with ⟨_, h0⟩ | ⟨g, cap, cur, _, _, _, h1, h2, _⟩
  · omega
  · unfold maxLen at h2; omega
theorem fil_end {l : List Int} {x : Int} {L : Nat} (h : L = l.length) : fil l x L = List.replicate L x := by subst h; exact fil_all l x
end Go.Proofs.Ytibcpokfgogopaa
