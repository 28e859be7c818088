/-
  The cache: a map from sectors to slices of writes; a write more.
-/
import Derived.Test.YtpongepfjdgcmaaGen
import Derived.Test.YtpongepfjdgcmaaLoadD
namespace Go.Proofs.Ytpongepfjdgcmaa
open Go.RowKit

/-- A slice of writes as a datum. -/
def enc : Value → DataW Unit
  | .slice (some ⟨g, 0, none⟩) n c => .agg [.lit (.int .i64 g), .lit (.int .i64 n), .lit (.int .i64 c)]
  | _ => .nil
def anyElem : Value → Option (DataW Unit × List MemPlace)
  | .slice none 0 0 => some (.nil, [])
  | .slice (some ⟨g, 0, none⟩) n c => some (.agg [.lit (.int .i64 g), .lit (.int .i64 n), .lit (.int .i64 c)], [])
  | _ => none
/-- Nil, or a row of its own from its first place on. -/
def Flat (v : Value) : Prop := v = .slice none 0 0 ∨ ∃ g n c, v = .slice (some ⟨g, 0, none⟩) n c
theorem anyElem_mk {v : Value} (h : Flat v) : anyElem v = some (enc v, []) := by
  rcases h with rfl | ⟨g, n, c, rfl⟩ <;> rfl
theorem anyElem_inv {v u : Value} {ps : List MemPlace} (hu : Flat u) (h : anyElem v = some (enc u, ps)) : v = u := by
  unfold anyElem at h
  rcases hu with rfl | ⟨g, n, c, rfl⟩
  · split at h
    · rfl
    · simp [enc] at h
    · cases h
  · split at h
    · simp [enc] at h
    · simp [enc] at h
      obtain ⟨⟨h1, h2, h3⟩, _⟩ := h
      have e1 := Int.ofNat_inj.1 h1
      have e2 := Int.ofNat_inj.1 h2
      have e3 := Int.ofNat_inj.1 h3
      rw [e1, e2, e3]
    · cases h

/-- The cells of writes: each its number and its bytes, which lie in a block of their own. -/
def wcell (z : Nat) (x : Nat × Nat) : List Value := [.int .i64 x.1, .slice (some ⟨x.2, 0, none⟩) z z]
def wcells (z : Nat) (l : List (Nat × Nat)) : List Value := l.flatMap (wcell z)
theorem wcells_len (z : Nat) (l : List (Nat × Nat)) : (wcells z l).length = l.length * 2 := by
  induction l with
  | nil => rfl
  | cons x l ih => simp only [wcells, List.flatMap_cons, List.length_append, List.length_cons] at ih ⊢; simp only [wcell, List.length_cons, List.length_nil]; omega
theorem wcells_app (z : Nat) (l m : List (Nat × Nat)) : wcells z (l ++ m) = wcells z l ++ wcells z m := by simp [wcells]

/-- The cache: sector s has the writes L s, in the slice V s. -/
structure Ca (w : World) (c k z : Nat) (L : Nat → List (Nat × Nat)) (V : Nat → Value) (D : DataW Unit) : Prop where
  own : w.ownsMap Try.prog 3 anyElem c k D
  at_ : ∀ s, D.atKey (kI s) .nil = enc (V s)
  has : ∀ kl, Maps.has D kl = true ↔ ∃ s, kl = kI s ∧ L s ≠ []
  row : ∀ s, w.ownsRow 0 97 2 (V s) (L s).length (wcells z (L s))
  ne : ∀ s t, s ≠ t → ∀ g, (V s).ownBlock = some g → (V t).ownBlock ≠ some g

theorem Ca.flat {w : World} {c k z : Nat} {L : Nat → List (Nat × Nat)} {V : Nat → Value} {D : DataW Unit} (h : Ca w c k z L V D) (s : Nat) : Flat (V s) := by
  rcases (h.row s).2 with ⟨e, _⟩ | ⟨g, cap, cur, e, _⟩
  · exact .inl e
  · exact .inr ⟨g, _, cap, e⟩
theorem Ca.lookup {w : World} {c k z : Nat} {L : Nat → List (Nat × Nat)} {V : Nat → Value} {D : DataW Unit} (h : Ca w c k z L V D) (s : Nat) (hs : s ≤ 65536) : (Instr.lookup 86 (.map (some c)) (.int .i64 s) false).run Try.prog w = .ok (V s) w := by
  have hwf : (Lit.int .i64 (s : Int)).wf = true := WalkArith.wf_i64 (by omega)
  obtain ⟨v, ps, h1, h2⟩ := h.own.lookup (t := 86) (e := 95) keyed3 Try.underlying86 (z := .slice none 0 0) (by kernel_rfl) (zd := .nil) (zp := []) rfl (Maps.keyOf_int_mk Try.underlying3 hwf)
  have e := h.at_ s
  unfold kI at e
  rw [e] at h2
  rw [h1, anyElem_inv (h.flat s) h2]
theorem Ca.none {w : World} {c z : Nat} (h : w.heap[c]? = some (.map #[] 0)) : Ca w c 0 z (fun _ => []) (fun _ => .slice none 0 0) (.map []) :=
  ⟨⟨#[], 0, h, ⟨by simp, MapKept.stamped_empty 0, by simp⟩, Nat.le_refl _, rfl⟩, fun _ => rfl, fun kl => by simp [Maps.has], fun _ => World.ownsRow_nil w 0 97 2, fun _ _ _ g hg => by simp [Value.ownBlock] at hg⟩

theorem ownsRow_kept {w w' : World} {v : Value} {n : Nat} {xs : List Value} (h : w.ownsRow 0 97 2 v n xs) {row : Option Nat} (g : w.grownBy w' row) (hn : ∀ k, v.ownBlock = some k → some k ≠ row) : w'.ownsRow 0 97 2 v n xs := by
  refine ⟨h.1, ?_⟩
  rcases h.2 with e | ⟨b, cap, cur, rfl, hb, hgg, rest⟩
  · exact .inl e
  · exact .inr ⟨b, cap, cur, rfl, hb, (g.block b (Array.getElem?_eq_some_iff.1 hgg).1 (hn b rfl)).trans hgg, rest⟩
theorem Ca.kept {w w' : World} {c k z : Nat} {L : Nat → List (Nat × Nat)} {V : Nat → Value} {D : DataW Unit} (h : Ca w c k z L V D) {row : Option Nat} (g : w.grownBy w' row) (hc : some c ≠ row) (hn : ∀ s b, (V s).ownBlock = some b → some b ≠ row) : Ca w' c k z L V D :=
  ⟨h.own.kept g hc, h.at_, h.has, fun s => ownsRow_kept (h.row s) g (hn s), h.ne⟩

theorem info93 : (Try.prog.info? 97).map (fun i => (i.zero, i.size, i.bytes)) = some (some (.agg #[.int .i64 0, .slice none 0 0]), 2, 32) := by kernel_rfl

/-- A write more: the append, then the store into the map. -/
theorem Ca.more {w : World} {c k z : Nat} {L : Nat → List (Nat × Nat)} {V : Nat → Value} {D : DataW Unit} (h : Ca w c k z L V D) (s : Nat) (hs : s ≤ 65536) (x : Nat × Nat) (a : Addr) (cp ty : Nat) (ha : ∀ j u, (wcell z x)[j]? = some u → w.cell? (a.add j) = some u) (hlen : (L s).length + 1 ≤ 4398046511104) (hk : k ≤ 4398046511104) :
    ∃ v' w1 w2, (Builtin.append_ #[95, 95] ty #[V s, .slice (some a) 1 cp]).run Try.prog w = .ok v' w1 ∧ (Instr.mapUpdate 86 (.map (some c)) (.int .i64 s) v').run Try.prog w1 = .ok () w2 ∧
      (∃ D', Ca w2 c (k + 1) z (fun t => if t = s then L s ++ [x] else L t) (fun t => if t = s then v' else V t) D') ∧ w.grownBy w1 (V s).ownBlock ∧ w1.grownBy w2 (some c) ∧ (v'.ownBlock = (V s).ownBlock ∨ v'.ownBlock = some w.heap.size) := by
  obtain ⟨i0, hi, hz0, hz1, hz2⟩ := info_parts info93
  obtain ⟨v', w1, h1, h2, h3, h4, h5⟩ := run_append_own_at (P := Try.prog) w 0 95 ty 97 i0 _ 2 32 Try.underlying95 hi hz0 hz1 hz2 rfl (by decide) (V s) (L s).length (wcells z (L s)) (h.row s) a 1 cp (wcell z x) rfl ha (by
    intro u hu
    simp only [wcell, List.mem_cons, List.not_mem_nil, or_false] at hu
    rcases hu with rfl | rfl <;> rfl) (by unfold maxLen; omega) (by omega) (Nat.zero_le _)
  have hcne : some c ≠ (V s).ownBlock := by
    intro e
    obtain ⟨es, cl, hm, _⟩ := h.own
    rcases (h.row s).2 with ⟨e2, _⟩ | ⟨g, cap, cur, e2, _, hgg, _⟩
    · rw [e2] at e; simp [Value.ownBlock] at e
    · rw [e2] at e
      simp [Value.ownBlock] at e
      rw [← e, hm] at hgg
      cases hgg
  have own1 := h.own.kept h3 hcne
  have hwf : (Lit.int .i64 (s : Int)).wf = true := WalkArith.wf_i64 (by omega)
  have hflat : Flat v' := by
    rcases h2.2 with ⟨e, _⟩ | ⟨g, cap, cur, e, _⟩
    · exact .inl e
    · exact .inr ⟨g, _, cap, e⟩
  obtain ⟨w2, g1, g2, g3⟩ := own1.update (t := 86) (e := 95) keyed3 Try.underlying86 (by unfold maxLen; omega) (Maps.keyOf_int_mk Try.underlying3 hwf) (anyElem_mk hflat)
  have hM : Maps.IsMap D := h.own.isMap
  have hkey : WideAt.IsKeyLit (.int .i64 (s : Int)) := trivial
  have clt : c < w.heap.size := h.own.lt
  have hblk : ∀ t, some c ≠ (V t).ownBlock := by
    intro t e
    obtain ⟨es, cl, hm, _⟩ := h.own
    rcases (h.row t).2 with ⟨e2, _⟩ | ⟨g, cap, cur, e2, _, hgg, _⟩
    · rw [e2] at e; simp [Value.ownBlock] at e
    · rw [e2] at e
      simp [Value.ownBlock] at e
      rw [← e, hm] at hgg
      cases hgg
  have hlt : ∀ t g, (V t).ownBlock = some g → g < w.heap.size := by
    intro t g hg
    rcases (h.row t).2 with ⟨e2, _⟩ | ⟨b, cap, cur, e2, _, hgg, _⟩
    · rw [e2] at hg; simp [Value.ownBlock] at hg
    · rw [e2] at hg
      simp [Value.ownBlock] at hg
      rw [← hg]
      exact (Array.getElem?_eq_some_iff.1 hgg).1
  have hv'c : ∀ b, v'.ownBlock = some b → some b ≠ some c := by
    intro b hb e
    injection e with e
    rcases h5 with e5 | e5
    · exact hblk s (by rw [← e5, hb, e])
    · rw [hb] at e5; injection e5 with e5; omega
  refine ⟨v', w1, w2, h1, g1, ⟨_, ⟨g2, fun t => ?_, fun kl => ?_, fun t => ?_, fun t u htu g hg => ?_⟩⟩, h3, g3, h5⟩
  · by_cases e : t = s
    · subst e
      show (D.put (.int .i64 (t : Int)) (enc v')).atKey (.int .i64 (t : Int)) .nil = _
      rw [Maps.atKey_put_same hM hkey, if_pos rfl]
    · rw [Maps.atKey_put_other (by unfold kI; intro e2; injection e2 with _ e2; omega), if_neg e]
      exact h.at_ t
  · by_cases e : kl = .int .i64 (s : Int)
    · subst e
      rw [Maps.has_put_same hM hkey]
      exact ⟨fun _ => ⟨s, rfl, by simp⟩, fun _ => rfl⟩
    · rw [Maps.has_put_other e, h.has kl]
      constructor
      · rintro ⟨t, rfl, ht⟩
        exact ⟨t, rfl, by rw [if_neg (fun e2 => e (by rw [e2]; rfl))]; exact ht⟩
      · rintro ⟨t, rfl, ht⟩
        have hts : ¬ t = s := fun e2 => e (by rw [e2]; rfl)
        rw [if_neg hts] at ht
        exact ⟨t, rfl, ht⟩
  · by_cases e : t = s
    · subst e
      simp only [if_pos]
      have := ownsRow_kept h2 g3 hv'c
      rw [wcells_app, List.length_append]
      simpa [wcells] using this
    · simp only [if_neg e]
      exact ownsRow_kept (ownsRow_kept (h.row t) h3 (fun b hb e2 => h.ne t s e b hb e2.symm)) g3 (fun b hb e2 => hblk t (by rw [hb, e2]))
  · by_cases e : t = s
    · have e' : ¬ u = s := fun e2 => htu (by rw [e, e2])
      simp only [if_pos e, if_neg e'] at hg ⊢
      intro hu
      rcases h5 with e5 | e5
      · exact h.ne s u (fun e2 => e' e2.symm) g (by rw [← e5]; exact hg) hu
      · rw [hg] at e5
        injection e5 with e5
        have := hlt u g hu
        omega
    · simp only [if_neg e] at hg
      by_cases e' : u = s
      · simp only [if_pos e']
        intro hu
        rcases h5 with e5 | e5
        · exact h.ne t s e g hg (by rw [← e5]; exact hu)
        · rw [hu] at e5
          injection e5 with e5
          have := hlt t g hg
          omega
      · simp only [if_neg e']
        exact h.ne t u htu g hg
end Go.Proofs.Ytpongepfjdgcmaa
