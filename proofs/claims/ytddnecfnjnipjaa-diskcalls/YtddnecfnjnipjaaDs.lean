/-
  Several disks in one memory, each with its own blocks.
-/
import Derived.Test.YtddnecfnjnipjaaCopy
import Derived.Test.YtddnecfnjnipjaaActE
import Derived.Test.YtddnecfnjnipjaaRfE
namespace Go.Proofs.Ytddnecfnjnipjaa
open Go.RowKit Go.RwLone

theorem AB.up {w : World} {Bl : Nat → Prop} {p S z b : Nat} {x : Nums} {A : Nat → List (Nat × List Int)} {F : Nat → Option (List Int)} (h : AB w Bl p S z b x A F) {Bl' : Nat → Prop} (hs : ∀ g, Bl g → Bl' g) (hl : ∀ g, Bl' g → g < w.heap.size) : AB w Bl' p S z b x A F := by
  obtain ⟨m, c, kc, km, L, V, D, K, E, C, hd, hm, hc, hV, hK, hL, q⟩ := h.ex
  exact ⟨⟨m, c, kc, km, L, V, D, K, E, C, hd, hs m hm, hs c hc, fun t g hg => hs g (hV t g hg), fun t g hg => hs g (hK t g hg), fun t y hy => hs _ (hL t y hy), q⟩, hs p h.bp, hl, h.nb⟩

theorem AB.copy {w : World} {Bl : Nat → Prop} {p S z b : Nat} {x : Nums} {A : Nat → List (Nat × List Int)} {F : Nat → Option (List Int)} (h : AB w Bl p S z b x A F) (hFS : ∀ t, S ≤ t → F t = none) (hS : S ≤ 65536) (hz0 : 0 < z) (hz : z ≤ 4096) (hb : b ≤ 4398046511104) :
    Calls Try.prog 11 #[.pointer (some ⟨p, 0, none⟩)] w fun e w' => ∃ q Bl', e = .returned (.pointer (some ⟨q, 0, none⟩)) ∧ Chg (fun i => i = p) w w' ∧ AB w' Bl p S z b x A F ∧ (∀ g, Bl' g → w.heap.size ≤ g) ∧ AB w' Bl' q S z b x A F := by
  obtain ⟨m, c, kc, km, L, V, D, K, E, C, hd, hm, hc, hV, hK, hL, hA, hF⟩ := h.ex
  obtain ⟨pn, hpn, _⟩ := hd.dd.pn
  have e1 : (fun t => (L t).map (fun y => (y.1, C y.2))) = A := funext hA
  have e2 : (fun t => (K t).map C) = F := funext hF
  have hnb := h.nb
  rw [hpn] at hnb
  refine (copy_any hd (fun t g hg => ?_) hS hz0 hz hb hpn ?_ (fun t y hy => ?_)).mono ?_
  · refine Classical.byContradiction fun e => ?_
    have h1 := hFS t (by omega)
    rw [← hF t, hg] at h1
    cases h1
  · have h1 := tot_le (A := L) (B := A) (fun t => by rw [← hA t]; simp) S
    have h3 := tot_le (A := A) (B := L) (fun t => by rw [← hA t]; simp) S
    have h2 := hnb.sum
    omega
  · have := hnb.lt t (y.1, C y.2) (by rw [← hA t]; exact List.mem_map.2 ⟨y, hy, rfl⟩)
    exact Int.ofNat_lt.1 this
  · rintro e w9 ⟨q, rfl, ch, hr, m', c', kc', km', ac⟩
    rw [e1, e2] at ac
    obtain ⟨L', V', D', K', E', C', ax⟩ := ac
    refine ⟨q, fun g => w.heap.size ≤ g ∧ g < w9.heap.size, rfl, ch, ⟨⟨m, c, kc, km, L, V, D, K, E, C, hd.turn ch hr rfl (Nat.le_refl _), hm, hc, hV, hK, hL, hA, hF⟩, h.bp, fun g hg => Nat.lt_of_lt_of_le (h.low g hg) ch.size, h.nb⟩, fun g hg => hg.1, ⟨⟨m', c', kc', km', L', V', D', K', E', C', ax.dc, ⟨ax.bm.1, ax.mlt⟩, ⟨ax.bc.1, ax.clt⟩, fun t g hg => ⟨(ax.vb t g hg).1, ax.dc.dd.ca.blt t g hg⟩, fun t g hg => ⟨(ax.kb t g hg).1, (ax.dc.kr t g hg).1.lt⟩, fun t y hy => ⟨(ax.lb t y hy).1, (ax.dc.lr t y hy).1.lt⟩, ax.ea, ax.ef⟩, ⟨ax.bp.1, ax.dc.dd.row.lt⟩, fun g hg => hg.2, h.nb⟩⟩

/-- What a disk is: where its row lies, what bounds it, its numbers, what it holds. -/
structure Sp where
  p : Nat
  b : Nat
  x : Nums
  A : Nat → List (Nat × List Int)
  F : Nat → Option (List Int)

def AS (w : World) (Bl : Nat → Prop) (S z : Nat) (s : Sp) : Prop := AB w Bl s.p S z s.b s.x s.A s.F

/-- Disks that share nothing; the blocks in fr are no disk's. -/
structure Ds (w : World) (B S z : Nat) (d : Nat → Option Sp) (fr : Nat → Prop) : Prop where
  ex : ∃ own : Nat → Option Nat, (∀ i s, d i = some s → AS w (fun g => own g = some i) S z s) ∧ (∀ g i, own g = some i → B ≤ g ∧ g < w.heap.size) ∧ ∀ g, fr g → own g = none ∧ g < w.heap.size
  hB : B ≤ w.heap.size

theorem updT_id {α : Type} {T : Nat → α} {i : Nat} {v : α} (h : T i = v) : updT T i v = T := by
  funext t
  by_cases e : t = i
  · rw [e, updT_same, h]
  · rw [updT_other _ _ e]

section
variable {w w' : World} {B S z : Nat} {d : Nat → Option Sp} {fr : Nat → Prop}

open Classical in
theorem Ds.step (h : Ds w B S z d fr) {i : Nat} {s : Sp} (hi : d i = some s) :
    ∃ Bl, AS w Bl S z s ∧ (∀ g, Bl g → B ≤ g) ∧ (∀ g, fr g → ¬ Bl g) ∧ ∀ w' Bl' s' (fr' : Nat → Prop), Chg Bl w w' → (∀ g, Bl' g → grB Bl w w' g) → AS w' Bl' S z s' → (∀ g, fr' g → g < w'.heap.size ∧ ¬ Bl' g ∧ (fr g ∨ w.heap.size ≤ g)) → Ds w' B S z (updT d i (some s')) fr' := by
  obtain ⟨own, h1, h2, h3⟩ := h.ex
  have hB := h.hB
  refine ⟨fun g => own g = some i, h1 i s hi, fun g hg => (h2 g i hg).1, fun g hg e => (by have e : own g = some i := e; rw [(h3 g hg).1] at e; cases e), fun w' Bl' s' fr' k hBl a hfr => ⟨⟨fun g => if Bl' g then some i else if own g = some i then none else own g, fun j t hj => ?_, fun g j hg => ?_, fun g hg => ?_⟩, Nat.le_trans hB k.size⟩⟩
  · by_cases e : j = i
    · subst e
      rw [updT_same] at hj
      injection hj with hj
      subst hj
      refine AB.up a (fun g hg => if_pos hg) (fun g hg => a.low g ?_)
      try dsimp only at hg
      by_cases e : Bl' g
      · exact e
      · rw [if_neg e] at hg
        split at hg
        · cases hg
        · rename_i e2
          exact absurd hg e2
    · rw [updT_other _ _ e] at hj
      have a1 := AB.frame (h1 j t hj) k (fun g hg e2 => e (by have e2 : own g = some i := e2; have hg : own g = some j := hg; rw [hg] at e2; injection e2))
      refine AB.up a1 (fun g hg => ?_) (fun g hg => ?_)
      · try dsimp only at hg
        try dsimp only
        have n1 : ¬ Bl' g := fun e3 => by
          rcases hBl g e3 with e4 | e4
          · have e4 : own g = some i := e4
            have hg : own g = some j := hg
            rw [hg] at e4
            injection e4 with e4
            exact e e4
          · have := (h2 g j hg).2
            omega
        rw [if_neg n1, if_neg (fun e4 => e (by have hg : own g = some j := hg; rw [hg] at e4; injection e4))]
        exact hg
      · try dsimp only at hg
        split at hg
        · injection hg with hg
          exact absurd hg.symm e
        · split at hg
          · cases hg
          · exact Nat.lt_of_lt_of_le (h2 g j hg).2 k.size
  · try dsimp only at hg
    split at hg
    · rename_i e
      refine ⟨?_, a.low g e⟩
      rcases hBl g e with e | e
      · exact (h2 g i e).1
      · omega
    · split at hg
      · cases hg
      · exact ⟨(h2 g j hg).1, Nat.lt_of_lt_of_le (h2 g j hg).2 k.size⟩
  · obtain ⟨f1, f2, f3⟩ := hfr g hg
    refine ⟨?_, f1⟩
    try dsimp only
    rw [if_neg f2]
    split
    · rfl
    · rcases f3 with f3 | f3
      · exact (h3 g f3).1
      · cases e : own g with
        | none => rfl
        | some k => have := (h2 g k e).2; omega

/-- A copy more. -/
theorem Ds.add (h : Ds w B S z d fr) {i j : Nat} {s : Sp} (hi : d i = some s) (hj : d j = none) :
    ∃ Bl, AS w Bl S z s ∧ (∀ g, Bl g → B ≤ g) ∧ ∀ w' Bl2 s2, Chg Bl w w' → AS w' Bl S z s → (∀ g, Bl2 g → w.heap.size ≤ g) → AS w' Bl2 S z s2 → Ds w' B S z (updT d j (some s2)) fr := by
  obtain ⟨own, h1, h2, h3⟩ := h.ex
  have hB := h.hB
  refine ⟨fun g => own g = some i, h1 i s hi, fun g hg => (h2 g i hg).1, fun w' Bl2 s2 k a0 hB2 a2 => ⟨⟨fun g => if w.heap.size ≤ g ∧ g < w'.heap.size then some j else own g, fun t u ht => ?_, fun g t hg => ?_, fun g hg => ?_⟩, Nat.le_trans hB k.size⟩⟩
  · by_cases e : t = j
    · subst e
      rw [updT_same] at ht
      injection ht with ht
      subst ht
      refine AB.up a2 (fun g hg => if_pos ⟨hB2 g hg, a2.low g hg⟩) (fun g hg => ?_)
      try dsimp only at hg
      split at hg
      · rename_i e2; exact e2.2
      · exact Nat.lt_of_lt_of_le (h2 g t hg).2 k.size
    · rw [updT_other _ _ e] at ht
      have a1 : AS w' (fun g => own g = some t) S z u := by
        by_cases e3 : t = i
        · subst e3
          rw [hi] at ht
          injection ht with ht
          rw [← ht]
          exact a0
        · exact AB.frame (h1 t u ht) k (fun g hg e2 => e3 (by have e2 : own g = some i := e2; have hg : own g = some t := hg; rw [hg] at e2; injection e2))
      refine AB.up a1 (fun g hg => ?_) (fun g hg => ?_)
      · try dsimp only at hg
        try dsimp only
        rw [if_neg (fun e4 => by have := (h2 g t hg).2; omega)]
        exact hg
      · try dsimp only at hg
        split at hg
        · rename_i e2; exact e2.2
        · exact Nat.lt_of_lt_of_le (h2 g t hg).2 k.size
  · try dsimp only at hg
    split at hg
    · rename_i e2; exact ⟨by omega, e2.2⟩
    · exact ⟨(h2 g t hg).1, Nat.lt_of_lt_of_le (h2 g t hg).2 k.size⟩
  · obtain ⟨f1, f2⟩ := h3 g hg
    refine ⟨?_, Nat.lt_of_lt_of_le f2 k.size⟩
    try dsimp only
    rw [if_neg (fun e4 => by omega)]
    exact f1

/-- What is no disk's turns, some is made. -/
theorem Ds.more (h : Ds w B S z d fr) (k : Chg fr w w') {fr' : Nat → Prop} (hfr : ∀ g, fr' g → fr g ∨ (w.heap.size ≤ g ∧ g < w'.heap.size)) : Ds w' B S z d fr' := by
  obtain ⟨own, h1, h2, h3⟩ := h.ex
  refine ⟨⟨own, fun i s hi => AB.frame (h1 i s hi) k (fun g hg e => by have hg : own g = some i := hg; rw [(h3 g e).1] at hg; cases hg), fun g i hg => ⟨(h2 g i hg).1, Nat.lt_of_lt_of_le (h2 g i hg).2 k.size⟩, fun g hg => ?_⟩, Nat.le_trans h.hB k.size⟩
  rcases hfr g hg with e | e
  · exact ⟨(h3 g e).1, Nat.lt_of_lt_of_le (h3 g e).2 k.size⟩
  · refine ⟨?_, e.2⟩
    cases e2 : own g with
    | none => rfl
    | some k => have := (h2 g k e2).2; omega

/-- A call that keeps the disk: what lies in fr stays. -/
theorem Ds.same (h : Ds w B S z d fr) {i : Nat} {s : Sp} (hi : d i = some s) :
    ∃ Bl, AS w Bl S z s ∧ ∀ w' (fr' : Nat → Prop), Chg (fun k => k = s.p) w w' → AS w' Bl S z s → (∀ g, fr' g → fr g ∨ (w.heap.size ≤ g ∧ g < w'.heap.size)) → Below B w w' ∧ (∀ g cs t, fr g → Rw w g cs t → Rw w' g cs t) ∧ Ds w' B S z d fr' := by
  obtain ⟨Bl, a, hBl, hfr, fin⟩ := h.step hi
  obtain ⟨own, h1, h2, h3⟩ := h.ex
  refine ⟨Bl, a, fun w' fr' ch a' hf => ?_⟩
  have ch' : Chg Bl w w' := ch.mono (fun i _ e => by rw [e]; exact a.bp)
  have := fin w' Bl s fr' ch' (fun _ h => .inl h) a' (fun g hg => by
    rcases hf g hg with e | e
    · exact ⟨Nat.lt_of_lt_of_le (h3 g e).2 ch.size, hfr g e, .inl e⟩
    · exact ⟨e.2, fun e2 => by have := a.low g e2; omega, .inr e.1⟩)
  rw [updT_id hi] at this
  exact ⟨ch'.below h.hB hBl, fun k cs t hk r => ⟨ch'.heap_some r.eq (hfr k hk)⟩, this⟩

theorem Ds.copy (h : Ds w B S z d fr) {i j : Nat} {s : Sp} (hi : d i = some s) (hj : d j = none) (hFS : ∀ t, S ≤ t → s.F t = none) (hS : S ≤ 65536) (hz0 : 0 < z) (hz : z ≤ 4096) (hb : s.b ≤ 4398046511104) :
    Calls Try.prog 11 #[.pointer (some ⟨s.p, 0, none⟩)] w fun e w' => ∃ q, e = .returned (.pointer (some ⟨q, 0, none⟩)) ∧ Below B w w' ∧ (∀ g cs t, fr g → Rw w g cs t → Rw w' g cs t) ∧ Ds w' B S z (updT d j (some ⟨q, s.b, s.x, s.A, s.F⟩)) fr := by
  obtain ⟨Bl, a, hBl, fin⟩ := h.add hi hj
  obtain ⟨Bl0, a0, hBl0, hfr, _⟩ := h.step hi
  refine (AB.copy a hFS hS hz0 hz hb).mono ?_
  rintro e w9 ⟨q, Bl', rfl, ch, a1, hl, a2⟩
  have ch' : Chg Bl w w9 := ch.mono (fun i _ e => by rw [e]; exact a.bp)
  exact ⟨q, rfl, ch'.below h.hB hBl, fun k cs t hk r => ⟨ch.heap_some r.eq (fun e => hfr k hk (by rw [e]; exact a0.bp))⟩, fin w9 Bl' ⟨q, s.b, s.x, s.A, s.F⟩ ch' a1 hl a2⟩

theorem Ds.pending (h : Ds w B S z d fr) {i : Nat} {s : Sp} (hi : d i = some s) {n : Nat} (hx : s.x.pend = n) (hb : s.b ≤ 4398046511104) (hnb : n ≤ 4398046511104) :
    Calls Try.prog 46 #[.pointer (some ⟨s.p, 0, none⟩)] w fun e w' => ∃ g P, e = .returned (.slice (some ⟨g, 0, none⟩) n n) ∧ Rw w' g (pcells P).toArray 3 ∧ Pl P n s.A ∧ Below B w w' ∧ (∀ g cs t, fr g → Rw w g cs t → Rw w' g cs t) ∧ Ds w' B S z d (fun k => fr k ∨ k = g) := by
  obtain ⟨Bl, a, fin⟩ := h.same hi
  refine (AB.pending a hb hx hnb).mono ?_
  rintro e w9 ⟨g, P, rfl, hgl, hrg, hP, ch, a1⟩
  exact ⟨g, P, rfl, hrg, hP, fin w9 _ ch a1 (fun k hk => by
    rcases hk with hk | hk
    · exact .inl hk
    · exact .inr (by rw [hk]; exact ⟨hgl, hrg.lt⟩))⟩

theorem Ds.image (h : Ds w B S z d fr) {i : Nat} {s : Sp} (hi : d i = some s) (hFS : ∀ t, S ≤ t → s.F t = none) (hz : z ≤ 4096) (hz0 : 0 < z) (hb : S * z ≤ 16777216) :
    Calls Try.prog 50 #[.pointer (some ⟨s.p, 0, none⟩)] w fun e w' => ∃ g, e = .returned (.slice (some ⟨g, 0, none⟩) (S * z) (S * z)) ∧ Rw w' g (bs (imgT z S s.F)).toArray 5 ∧ Below B w w' ∧ (∀ g cs t, fr g → Rw w g cs t → Rw w' g cs t) ∧ Ds w' B S z d (fun k => fr k ∨ k = g) := by
  obtain ⟨Bl, a, fin⟩ := h.same hi
  refine (AB.image a hFS hz hz0 hb).mono ?_
  rintro e w9 ⟨g, rfl, hg, hgl, ch, a1⟩
  exact ⟨g, rfl, hg, fin w9 _ ch a1 (fun k hk => by
    rcases hk with hk | hk
    · exact .inl hk
    · exact .inr (by rw [hk]; exact ⟨hgl, hg.lt⟩))⟩

theorem Ds.off (h : Ds w B S z d fr) {i : Nat} {s : Sp} (hi : d i = some s) :
    Calls Try.prog 28 #[.pointer (some ⟨s.p, 0, none⟩)] w fun e w' => e = .returned (.bool s.x.off) ∧ Below B w w' ∧ (∀ g cs t, fr g → Rw w g cs t → Rw w' g cs t) ∧ Ds w' B S z d fr := by
  obtain ⟨Bl, a, fin⟩ := h.same hi
  refine (AB.off a).mono ?_
  rintro e w9 ⟨rfl, ch, a1⟩
  exact ⟨rfl, fin w9 fr ch a1 (fun _ h => .inl h)⟩

theorem Ds.stats (h : Ds w B S z d fr) {i : Nat} {s : Sp} (hi : d i = some s) :
    Calls Try.prog 53 #[.pointer (some ⟨s.p, 0, none⟩)] w fun e w' => e = .returned (.agg #[.int .u64 s.x.rd, .int .u64 s.x.wr, .int .u64 s.x.fl]) ∧ Below B w w' ∧ (∀ g cs t, fr g → Rw w g cs t → Rw w' g cs t) ∧ Ds w' B S z d fr := by
  obtain ⟨Bl, a, fin⟩ := h.same hi
  obtain ⟨m, c, kc, km, L, V, D, K, E, C, hd, q⟩ := AB.ex a
  refine (stats_row hd.dd.row).mono ?_
  rintro e w9 ⟨rfl, hr, ch⟩
  exact ⟨rfl, fin w9 fr ch ⟨⟨m, c, kc, km, L, V, D, K, E, C, hd.turn ch hr rfl (Nat.le_refl _), q⟩, a.bp, fun g hg => Nat.lt_of_lt_of_le (a.low g hg) ch.size, a.nb⟩ (fun _ h => .inl h)⟩

theorem Ds.era (h : Ds w B S z d fr) {i : Nat} {s : Sp} (hi : d i = some s) :
    Calls Try.prog 54 #[.pointer (some ⟨s.p, 0, none⟩)] w fun e w' => e = .returned (.int .i64 s.x.era) ∧ Below B w w' ∧ (∀ g cs t, fr g → Rw w g cs t → Rw w' g cs t) ∧ Ds w' B S z d fr := by
  obtain ⟨Bl, a, fin⟩ := h.same hi
  obtain ⟨m, c, kc, km, L, V, D, K, E, C, hd, q⟩ := AB.ex a
  refine (era_row hd.dd.row).mono ?_
  rintro e w9 ⟨rfl, hr, ch⟩
  exact ⟨rfl, fin w9 fr ch ⟨⟨m, c, kc, km, L, V, D, K, E, C, hd.turn ch hr rfl (Nat.le_refl _), q⟩, a.bp, fun g hg => Nat.lt_of_lt_of_le (a.low g hg) ch.size, a.nb⟩ (fun _ h => .inl h)⟩

theorem Ds.low {i : Nat} {s : Sp} (h : Ds w B S z d fr) (hi : d i = some s) (t : Nat) (ht : S ≤ t) : s.A t = [] := by
  obtain ⟨Bl, a, _⟩ := h.step hi
  exact AB.low' a t ht
theorem Ds.pn {i : Nat} {s : Sp} (h : Ds w B S z d fr) (hi : d i = some s) : ∃ n : Nat, s.x.pend = n ∧ n ≤ s.b := by
  obtain ⟨Bl, a, _⟩ := h.step hi
  obtain ⟨m, c, kc, km, L, V, D, K, E, C, hd, _⟩ := AB.ex a
  exact hd.dd.pn
end

end Go.Proofs.Ytddnecfnjnipjaa
