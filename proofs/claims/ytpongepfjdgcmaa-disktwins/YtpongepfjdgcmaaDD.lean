/-
  A disk between two calls, both maps filled.
-/
import Derived.Test.YtpongepfjdgcmaaReadN
import Derived.Test.YtpongepfjdgcmaaWrite
import Derived.Test.YtpongepfjdgcmaaRow2
namespace Go.Proofs.Ytpongepfjdgcmaa
open Go.RowKit Go.RwLone

theorem Ca.map {w : World} {c k z : Nat} {L : Nat → List (Nat × Nat)} {V : Nat → Value} {D : DataW Unit} (h : Ca w c k z L V D) : ∃ es cl, w.heap[c]? = some (.map es cl) := by
  obtain ⟨es, cl, hm, _⟩ := h.own
  exact ⟨es, cl, hm⟩
theorem Du.map {w : World} {m k z : Nat} {K : Nat → Option Nat} {D : DataW Unit} (h : Du w m k z K D) : ∃ es cl, w.heap[m]? = some (.map es cl) := by
  obtain ⟨es, cl, hm, _⟩ := h.own
  exact ⟨es, cl, hm⟩
theorem Ca.cells {w : World} {c k z : Nat} {L : Nat → List (Nat × Nat)} {V : Nat → Value} {D : DataW Unit} (h : Ca w c k z L V D) {t g : Nat} (hg : (V t).ownBlock = some g) : ∃ cur, w.heap[g]? = some (.cells cur 97 (0, 0)) := by
  rcases (h.row t).2 with ⟨e2, _⟩ | ⟨b, cap, cur, e2, _, hgg, _⟩
  · rw [e2] at hg; simp [Value.ownBlock] at hg
  · rw [e2] at hg
    simp [Value.ownBlock] at hg
    rw [← hg]
    exact ⟨cur, hgg⟩
theorem ne_map {w : World} {p q : Nat} {cs : Array Value} {t : TypeId} (h : Rw w p cs t) (k : ∃ es cl, w.heap[q]? = some (.map es cl)) : q ≠ p := fun e => by
  obtain ⟨es, cl, hk⟩ := k
  rw [e, h.eq] at hk
  cases hk
theorem ne_row {w : World} {p q : Nat} {cs : Array Value} {t : TypeId} (h : Rw w p cs t) (k : ∃ cur, w.heap[q]? = some (.cells cur 97 (0, 0))) (ht : t ≠ 97) : q ≠ p := fun e => by
  obtain ⟨cur, hk⟩ := k
  rw [e, h.eq] at hk
  injection hk with hk
  injection hk with _ h2
  exact ht h2

/-- Bytes of a sector that lie in a block. -/
def Bt (w : World) (z g : Nat) : Prop := ∃ l : List Int, l.length = z ∧ Rw w g (bs l).toArray 5

theorem Bt.chg {w w' : World} {z g : Nat} {S : Nat → Prop} (h : Bt w z g) (k : Chg S w w') (hn : ¬ S g) : Bt w' z g := by
  obtain ⟨l, h1, h2⟩ := h
  exact ⟨l, h1, ⟨k.heap_some h2.eq hn⟩⟩
theorem Bt.ne {w : World} {z g p : Nat} {cs : Array Value} {t : TypeId} (h : Bt w z g) (k : Rw w p cs t) (ht : t ≠ 5) : g ≠ p := by
  obtain ⟨l, _, h2⟩ := h
  exact Rw.ne h2 k (Ne.symm ht)
theorem Bt.nem {w : World} {z g c : Nat} (h : Bt w z g) (k : ∃ es cl, w.heap[c]? = some (.map es cl)) : g ≠ c := by
  obtain ⟨l, _, h2⟩ := h
  exact (ne_map h2 k).symm
theorem Bt.nev {w : World} {z g c : Nat} (h : Bt w z g) (k : ∃ cur, w.heap[c]? = some (.cells cur 97 (0, 0))) : g ≠ c := by
  obtain ⟨l, _, h2⟩ := h
  exact (ne_row h2 k (by decide)).symm

/-- A disk: its row, its two maps, the bytes that they name; b bounds what has grown. -/
structure DD (w : World) (p m c S z kc km b : Nat) (x : Nums) (L : Nat → List (Nat × Nat)) (V : Nat → Value) (D : DataW Unit) (K : Nat → Option Nat) (E : DataW Unit) : Prop where
  row : Rw w p (dkG S z m c x) 91
  ca : Ca w c kc z L V D
  du : Du w m km z K E
  mc : m ≠ c
  lb : ∀ t y, y ∈ L t → Bt w z y.2
  kb : ∀ t g, K t = some g → Bt w z g
  low : ∀ t, L t ≠ [] → t < S
  pn : ∃ n : Nat, x.pend = n ∧ n ≤ b
  ll : ∀ t, (L t).length ≤ b
  kk : kc + km ≤ b
  nm : ∀ t y, y ∈ L t → y.1 ≤ b

section
variable {w w' : World} {p m c S z kc km b : Nat} {x : Nums} {L : Nat → List (Nat × Nat)} {V : Nat → Value} {D : DataW Unit} {K : Nat → Option Nat} {E : DataW Unit}

theorem DD.cp (h : DD w p m c S z kc km b x L V D K E) : c ≠ p := ne_map h.row h.ca.map
theorem DD.mp (h : DD w p m c S z kc km b x L V D K E) : m ≠ p := ne_map h.row h.du.map
theorem DD.vp (h : DD w p m c S z kc km b x L V D K E) : ∀ t, (V t).ownBlock ≠ some p := fun t e => ne_row h.row (h.ca.cells e) (by decide) rfl

/-- Only the row has turned. -/
theorem DD.turn (h : DD w p m c S z kc km b x L V D K E) (k : Chg (fun i => i = p) w w') {x' : Nums} (r : Rw w' p (dkG S z m c x') 91) (hp : x'.pend = x.pend) {b' : Nat} (hb : b ≤ b') : DD w' p m c S z kc km b' x' L V D K E := by
  have hlt := h.row.lt
  refine ⟨r, h.ca.kept (grown_of k) (fun e => h.cp (by injection e)) (fun t g hg e => h.vp t (by rw [hg, e])), h.du.kept (grown_of k) (fun e => h.mp (by injection e)), h.mc, fun t y hy => (h.lb t y hy).chg k ((h.lb t y hy).ne h.row (by decide)), fun t g hg => (h.kb t g hg).chg k ((h.kb t g hg).ne h.row (by decide)), h.low, ?_, fun t => Nat.le_trans (h.ll t) hb, Nat.le_trans h.kk hb, fun t y hy => Nat.le_trans (h.nm t y hy) hb⟩
  obtain ⟨n, h1, h2⟩ := h.pn
  exact ⟨n, hp.trans h1, Nat.le_trans h2 hb⟩

/-- New memory alone. -/
theorem DD.more (h : DD w p m c S z kc km b x L V D K E) (k : Chg (fun _ => False) w w') : DD w' p m c S z kc km b x L V D K E :=
  h.turn (k.mono (fun _ _ h => h.elim)) ⟨k.heap_some h.row.eq (fun h => h)⟩ rfl (Nat.le_refl _)

/-- What Read gives with the power on. -/
theorem DD.lat (h : DD w p m c S z kc km b x L V D K E) (s : Nat) : latV z (L s) (K s) = .slice none 0 0 ∨ ∃ B, latV z (L s) (K s) = .slice (some ⟨B, 0, none⟩) z z ∧ Bt w z B := by
  unfold latV
  split
  · rename_i y hy
    exact .inr ⟨y.2, rfl, h.lb s y (List.mem_of_getLast? hy)⟩
  · cases hK : K s with
    | none => exact .inl rfl
    | some g => exact .inr ⟨g, rfl, h.kb s g hK⟩

theorem DD.write_off (h : DD w p m c S z kc km b x L V D K E) (s : Nat) (ab : Option Addr) (cb : Nat) (hsS : s < S) (hf : -1 ≤ x.fuse) (hf2 : x.fuse ≤ 9223372036854775807) (hbu : burnE x = 32) :
    Calls Try.prog 19 #[.pointer (some ⟨p, 0, none⟩), .int .i64 s, .slice ab z cb] w fun e w' => e = .returned (.int .i64 32) ∧ Chg (fun i => i = p) w w' ∧ DD w' p m c S z kc km b (burnN x) L V D K E := by
  refine (write_power h.row (s : Int) ab z cb ⟨by omega, by omega⟩ rfl hf hf2 hbu).mono ?_
  rintro e w9 ⟨rfl, hr, ch⟩
  refine ⟨rfl, ch, h.turn ch hr ?_ (Nat.le_refl _)⟩
  unfold burnN
  split
  · rfl
  · split <;> rfl

end
end Go.Proofs.Ytpongepfjdgcmaa
