/-
  A disk between two calls, both maps filled.
-/
import Derived.Test.YtjliibiohgcaeaaReadN
import Derived.Test.YtjliibiohgcaeaaWrite
import Derived.Test.YtjliibiohgcaeaaRow2
namespace Go.Proofs.Ytjliibiohgcaeaa
open Go.RowKit Go.RwLone

theorem Ca.map {w : World} {c k z : Nat} {L : Nat → List (Nat × Nat)} {V : Nat → Value} {D : DataW Unit} (h : Ca w c k z L V D) : ∃ es cl, w.heap[c]? = some (.map es cl) := by
  obtain ⟨es, cl, hm, _⟩ := h.own
  exact ⟨es, cl, hm⟩
theorem Du.map {w : World} {m k z : Nat} {K : Nat → Option Nat} {D : DataW Unit} (h : Du w m k z K D) : ∃ es cl, w.heap[m]? = some (.map es cl) := by
  obtain ⟨es, cl, hm, _⟩ := h.own
  exact ⟨es, cl, hm⟩
theorem Ca.cells {w : World} {c k z : Nat} {L : Nat → List (Nat × Nat)} {V : Nat → Value} {D : DataW Unit} (h : Ca w c k z L V D) {t g : Nat} (hg : (V t).ownBlock = some g) : ∃ cur, w.heap[g]? = some (.cells cur 93 (0, 0)) := by
  rcases (h.row t).2 with ⟨e2, _⟩ | ⟨b, cap, cur, e2, _, hgg, _⟩
  · rw [e2] at hg; simp [Value.ownBlock] at hg
  · rw [e2] at hg
    simp [Value.ownBlock] at hg
    rw [← hg]
    exact ⟨cur, hgg⟩
theorem ne_map {w : World} {p q : Nat} {cs : Array Value} {t : TypeId} (h : Rw w p cs t) (k : ∃ es cl, w.heap[q]? = some (.map es cl)) : q ≠ p := fun e => by
  obtain ⟨es, cl, hk⟩ := k
  rw [e, h.eq] at hk
  cases hk
theorem ne_row {w : World} {p q : Nat} {cs : Array Value} {t : TypeId} (h : Rw w p cs t) (k : ∃ cur, w.heap[q]? = some (.cells cur 93 (0, 0))) (ht : t ≠ 93) : q ≠ p := fun e => by
  obtain ⟨cur, hk⟩ := k
  rw [e, h.eq] at hk
  injection hk with hk
  injection hk with _ h2
  exact ht h2

/-- Bytes of a sector that lie in a block. -/
def Bt (w : World) (z g : Nat) : Prop := ∃ l : List Int, l.length = z ∧ Rw w g (bs l).toArray 5

theorem Bt.chg {w w' : World} {z g : Nat} {S : Nat → Prop} (h : Bt w z g) (k : Chg S w w') (hn : ¬ S g) : Bt w' z g := by
  obtain ⟨l, h1, h2⟩ := h
  exact ⟨l, h1, ⟨k.heap_some h2.eq hn⟩⟩
theorem Bt.ne {w : World} {z g p : Nat} {cs : Array Value} {t : TypeId} (h : Bt w z g) (k : Rw w p cs t) (ht : t ≠ 5) : g ≠ p := by
  obtain ⟨l, _, h2⟩ := h
  exact Rw.ne h2 k (Ne.symm ht)
theorem Bt.nem {w : World} {z g c : Nat} (h : Bt w z g) (k : ∃ es cl, w.heap[c]? = some (.map es cl)) : g ≠ c := by
  obtain ⟨l, _, h2⟩ := h
  exact (ne_map h2 k).symm
theorem Bt.nev {w : World} {z g c : Nat} (h : Bt w z g) (k : ∃ cur, w.heap[c]? = some (.cells cur 93 (0, 0))) : g ≠ c := by
  obtain ⟨l, _, h2⟩ := h
  exact (ne_row h2 k (by decide)).symm

/-- A disk: its row, its two maps, the bytes that they name; b bounds what has grown. -/
structure DD (w : World) (p m c S z kc km b : Nat) (x : Nums) (L : Nat → List (Nat × Nat)) (V : Nat → Value) (D : DataW Unit) (K : Nat → Option Nat) (E : DataW Unit) : Prop where
  row : Rw w p (dkG S z m c x) 87
  ca : Ca w c kc z L V D
  du : Du w m km z K E
  mc : m ≠ c
  lb : ∀ t y, y ∈ L t → Bt w z y.2
  kb : ∀ t g, K t = some g → Bt w z g
  low : ∀ t, L t ≠ [] → t < S
  pn : ∃ n : Nat, x.pend = n ∧ n ≤ b
  ll : ∀ t, (L t).length ≤ b
  kk : kc + km ≤ b
  nm : ∀ t y, y ∈ L t → y.1 ≤ b

section
variable {w w' : World} {p m c S z kc km b : Nat} {x : Nums} {L : Nat → List (Nat × Nat)} {V : Nat → Value} {D : DataW Unit} {K : Nat → Option Nat} {E : DataW Unit}

theorem DD.cp (h : DD w p m c S z kc km b x L V D K E) : c ≠ p := ne_map h.row h.ca.map
theorem DD.mp (h : DD w p m c S z kc km b x L V D K E) : m ≠ p := ne_map h.row h.du.map
theorem DD.vp (h : DD w p m c S z kc km b x L V D K E) : ∀ t, (V t).ownBlock ≠ some p := fun t e => ne_row h.row (h.ca.cells e) (by decide) rfl

/-- Only the row has turned. -/
theorem DD.turn (h : DD w p m c S z kc km b x L V D K E) (k : Chg (fun i => i = p) w w') {x' : Nums} (r : Rw w' p (dkG S z m c x') 87) (hp : x'.pend = x.pend) {b' : Nat} (hb : b ≤ b') : DD w' p m c S z kc km b' x' L V D K E := by
  have hlt := h.row.lt
  refine ⟨r, h.ca.kept (grown_of k) (fun e => h.cp (by injection e)) (fun t g hg e => h.vp t (by rw [hg, e])), h.du.kept (grown_of k) (fun e => h.mp (by injection e)), h.mc, fun t y hy => (h.lb t y hy).chg k ((h.lb t y hy).ne h.row (by decide)), fun t g hg => (h.kb t g hg).chg k ((h.kb t g hg).ne h.row (by decide)), h.low, ?_, fun t => Nat.le_trans (h.ll t) hb, Nat.le_trans h.kk hb, fun t y hy => Nat.le_trans (h.nm t y hy) hb⟩
  obtain ⟨n, h1, h2⟩ := h.pn
  exact ⟨n, hp.trans h1, Nat.le_trans h2 hb⟩

/-- New memory alone. -/
theorem DD.more (h : DD w p m c S z kc km b x L V D K E) (k : Chg (fun _ => False) w w') : DD w' p m c S z kc km b x L V D K E :=
  h.turn (k.mono (fun _ _ h => h.elim)) ⟨k.heap_some h.row.eq (fun h => h)⟩ rfl (Nat.le_refl _)

/-- What Read gives with the power on. -/
theorem DD.lat (h : DD w p m c S z kc km b x L V D K E) (s : Nat) : latV z (L s) (K s) = .slice none 0 0 ∨ ∃ B, latV z (L s) (K s) = .slice (some ⟨B, 0, none⟩) z z ∧ Bt w z B := by
  unfold latV
  split
  · rename_i y hy
    exact .inr ⟨y.2, rfl, h.lb s y (List.mem_of_getLast? hy)⟩
  · cases hK : K s with
    | none => exact .inl rfl
    | some g => exact .inr ⟨g, rfl, h.kb s g hK⟩

theorem DD.read_on (h : DD w p m c S z kc km b x L V D K E) (hoff : x.off = false) (s : Nat) (hs : s < S) (hS : S ≤ 65536) (hz : z ≤ 4096) (hb : b ≤ 4398046511104) :
    Calls Try.prog 12 #[.pointer (some ⟨p, 0, none⟩), .int .i64 s] w fun e w' => ∃ g, e = .returned (.tuple #[.slice (some ⟨g, 0, none⟩) z z, .int .i64 0]) ∧ Chg (fun k => k = p) w w' ∧ ∃ q, DD w' p m c S z kc km b { x with rd := q } L V D K E := by
  rcases h.lat s with e | ⟨B, e, l, hl, hB⟩
  · refine (read_zero h.row hoff h.du h.ca h.mp h.cp h.vp s hs hS (Nat.le_trans (h.ll s) hb) e hz).mono ?_
    rintro e w9 ⟨g, rfl, _, _, ⟨q, hr⟩, ch⟩
    exact ⟨g, rfl, ch, q, h.turn ch hr rfl (Nat.le_refl _)⟩
  · refine (read_blk h.row hoff h.du h.ca h.mp h.cp h.vp s hs hS (Nat.le_trans (h.ll s) hb) e hB hl hz).mono ?_
    rintro e w9 ⟨g, rfl, _, _, ⟨q, hr⟩, ch⟩
    exact ⟨g, rfl, ch, q, h.turn ch hr rfl (Nat.le_refl _)⟩

/-- A Write that is done. -/
theorem DD.write_on (h : DD w p m c S z kc km b x L V D K E) {l : List Int} {ab : Option Addr} {cb : Nat} (hs : Src w (.slice ab z cb) l) (hl : l.length = z) (hz0 : 0 < z) (hz : z ≤ 4096) (s : Nat) (hsS : s < S) (hS : S ≤ 65536) (hb : b < 4398046511104) (hf : -1 ≤ x.fuse) (hf2 : x.fuse ≤ 9223372036854775807) (hbu : burnE x = 0) (hsp : (Value.slice ab z cb).ownBlock ≠ some p) :
    Calls Try.prog 19 #[.pointer (some ⟨p, 0, none⟩), .int .i64 s, .slice ab z cb] w fun e w' => e = .returned (.int .i64 0) ∧ Chg (fun i => i = p ∨ i = c ∨ some i = (V s).ownBlock) w w' ∧
      ∃ n q kc' L' V' D', DD w' p m c S z kc' km (b + 1) { burnN x with pend := n, wr := q } L' V' D' K E ∧ ∀ t g, (V' t).ownBlock = some g → (V t).ownBlock = some g ∨ w.heap.size ≤ g := by
  obtain ⟨pn, hp, hpb⟩ := h.pn
  have hkk := h.kk
  have hLs := h.ll s
  refine (write_yes h.row h.ca hs hl hz0 hz s hsS hS hp (by omega) (by omega) (by omega) hf hf2 hbu h.cp h.vp hsp).mono ?_
  rintro e w9 ⟨rfl, ⟨q, hr⟩, ⟨hh, V', D', ca', rh, hhl, hvn⟩, ch⟩
  have nb : ∀ g, Bt w z g → Bt w9 z g := fun g hg => hg.chg ch (fun e => by
    rcases e with e | e | e
    · exact hg.ne h.row (by decide) e
    · exact hg.nem h.ca.map e
    · exact hg.nev (h.ca.cells e.symm) rfl)
  refine ⟨rfl, ch, _, q, kc + 1, _, V', D', ⟨hr, ca', ?_, h.mc, fun t y hy => ?_, fun t g hg => nb g (h.kb t g hg), fun t ht => ?_, ⟨pn + 1, rfl, by omega⟩, fun t => ?_, by omega, fun t y hy => ?_⟩, hvn⟩
  · obtain ⟨es, cl, hm, rest⟩ := h.du.own
    have hm9 : w9.heap[m]? = some (.map es cl) := ch.heap_some hm (fun e => by
      rcases e with e | e | e
      · exact h.mp e
      · exact h.mc e
      · obtain ⟨cur, hcur⟩ := h.ca.cells e.symm
        rw [hm] at hcur
        cases hcur)
    exact ⟨⟨es, cl, hm9, rest⟩, h.du.at_, h.du.has⟩
  · split at hy
    · rcases List.mem_append.1 hy with hy | hy
      · exact nb _ (h.lb s y hy)
      · rw [List.mem_singleton.1 hy]
        exact ⟨l, hl, rh⟩
    · exact nb _ (h.lb t y hy)
  · by_cases e : t = s
    · rw [e]; exact hsS
    · simp only [if_neg e] at ht
      exact h.low t ht
  · by_cases e : t = s
    · simp only [if_pos e, List.length_append, List.length_cons, List.length_nil]; omega
    · simp only [if_neg e]; have := h.ll t; omega
  · split at hy
    · rcases List.mem_append.1 hy with hy | hy
      · exact Nat.le_succ_of_le (h.nm s y hy)
      · rw [List.mem_singleton.1 hy]; exact Nat.le_succ_of_le hpb
    · exact Nat.le_succ_of_le (h.nm t y hy)

theorem DD.write_off (h : DD w p m c S z kc km b x L V D K E) (s : Nat) (ab : Option Addr) (cb : Nat) (hsS : s < S) (hf : -1 ≤ x.fuse) (hf2 : x.fuse ≤ 9223372036854775807) (hbu : burnE x = 32) :
    Calls Try.prog 19 #[.pointer (some ⟨p, 0, none⟩), .int .i64 s, .slice ab z cb] w fun e w' => e = .returned (.int .i64 32) ∧ Chg (fun i => i = p) w w' ∧ DD w' p m c S z kc km b (burnN x) L V D K E := by
  refine (write_power h.row (s : Int) ab z cb ⟨by omega, by omega⟩ rfl hf hf2 hbu).mono ?_
  rintro e w9 ⟨rfl, hr, ch⟩
  refine ⟨rfl, ch, h.turn ch hr ?_ (Nat.le_refl _)⟩
  unfold burnN
  split
  · rfl
  · split <;> rfl

end
end Go.Proofs.Ytjliibiohgcaeaa
