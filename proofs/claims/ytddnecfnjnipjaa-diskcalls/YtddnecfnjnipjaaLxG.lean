/-
  The ledger, exactly: one more list is made longer; a byte of two lists is written.
-/
import Derived.Test.YtddnecfnjnipjaaLxF
namespace Go.Proofs.Ytddnecfnjnipjaa
open Go.RowKit

section
variable {w w3 : World} {lg : Nat} {B : Nat → Prop} {a p c d : Value} {t : Int} {na np n i : Nat} {X Y C D E F : List Value} {v u x y : Value} {l m : List Int}

theorem Le.bk (h : Le w lg B a p c d t na np n i X Y C D E F) {j : Nat} {v u : Value} (hv : C[j]? = some v) (hu : D[j]? = some u) : Bk w B 5 v ∧ Bk w B 5 u := by
  have h1 : (C ++ E)[j]? = some v := by rw [List.getElem?_append_left (List.getElem?_eq_some_iff.1 hv).1]; exact hv
  have h2 : (D ++ F)[j]? = some u := by rw [List.getElem?_append_left (List.getElem?_eq_some_iff.1 hu).1]; exact hu
  exact ⟨(h.s j v u h1 h2).1, (h.s j v u h1 h2).2.1⟩
/-- Rows of other types stay. -/
theorem Le.oth (h : Le w lg B a p c d t na np n i X Y C D E F) (hv : C[i]? = some v) (hu : D[i]? = some u) {g : Nat} {cur : Array Value} {ty : TypeId} (hc : w.heap[g]? = some (.cells cur ty (0, 0))) (hty : ty ≠ 5) : ¬ (some g = v.ownBlock ∨ some g = u.ownBlock) := fun e => by
  obtain ⟨b1, b2⟩ := h.bk hv hu
  rcases e with e | e
  · obtain ⟨_, _, e2⟩ := b1 g e.symm
    exact cells_ne hc e2 hty rfl
  · obtain ⟨_, _, e2⟩ := b2 g e.symm
    exact cells_ne hc e2 hty rfl
theorem Le.rows (h : Le w lg B a p c d t na np n i X Y C D E F) (hv : C[i]? = some v) (hu : D[i]? = some u) (hx : Xp w w3 v u x y l m m) :
    Rw w3 lg (lrow a p c d t) 41 ∧ SX w3 48 a na X ∧ SX w3 99 p np Y ∧ SX w3 48 c (n + i) (C ++ E) ∧ SX w3 48 d (n + i) (D ++ F) := by
  have st : ∀ {ty : TypeId} {z : Value} {q : Nat} {Z : List Value}, SX w ty z q Z → ty ≠ 5 → SX w3 ty z q Z := fun hs hty => hs.chg hx.ch (fun g hg e => by
    obtain ⟨cur, e2⟩ := hs.block hg
    exact h.oth hv hu e2 hty e)
  exact ⟨⟨hx.ch.heap_some h.row.eq (h.oth hv hu h.row.eq (by decide))⟩, st h.ra (by decide), st h.rp (by decide), st h.rc (by decide), st h.rd (by decide)⟩

theorem get_app {L M : List Value} {z y : Value} {j : Nat} (h : (L ++ (M ++ [z]))[j]? = some y) : (L ++ M)[j]? = some y ∨ (j = L.length + M.length ∧ z = y) := by
  rw [← List.append_assoc] at h
  rcases get_one h with h | ⟨h, e⟩
  · exact .inl h
  · exact .inr ⟨by rw [h, List.length_append], e⟩

/-- One more list is longer. -/
theorem Le.next (h : Le w lg B a p c d t na np n i X Y C D E F) (hi : i < n) (hv : C[i]? = some v) (hu : D[i]? = some u) (hl : l.length ≤ 16777217) (hm : m.length = 90) (hx : Xp w w3 v u x y l m m) (hB : ∀ g, w.heap.size ≤ g → B g)
    {c' d' : Value} {w4 w6 : World} (s4 : SX w4 48 c' (n + i + 1) ((C ++ E) ++ [x])) (k4 : Chg (fun k => some k = c.ownBlock) w3 w4) (b4 : c'.ownBlock = c.ownBlock ∨ ∃ k, c'.ownBlock = some k ∧ w3.heap.size ≤ k)
    (s6 : SX w6 48 d' (n + i + 1) ((D ++ F) ++ [y])) (k6 : Chg (fun k => some k = d.ownBlock) (w4.setCell ⟨lg, 2, none⟩ c') w6) (b6 : d'.ownBlock = d.ownBlock ∨ ∃ k, d'.ownBlock = some k ∧ (w4.setCell ⟨lg, 2, none⟩ c').heap.size ≤ k) :
    Le (w6.setCell ⟨lg, 3, none⟩ d') lg B a p c' d' t na np n (i + 1) X Y C D (E ++ [x]) (F ++ [y]) ∧ Chg B w (w6.setCell ⟨lg, 3, none⟩ d') := by
  obtain ⟨r3, a3, p3, c3, d3⟩ := h.rows hv hu hx
  obtain ⟨bv, bu⟩ := h.bk hv hu
  have nl : ∀ {w : World} {ty : TypeId} {x : Value} {m : Nat} {cs : Array Value} {Z : List Value}, SX w ty x m Z → ty ≠ 41 → w.heap[lg]? = some (.cells cs 41 (0, 0)) → ∀ g, x.ownBlock = some g → g ≠ lg := fun hs hty hq g hg e => by
    obtain ⟨cur, e1⟩ := hs.block hg
    exact cells_ne e1 hq hty e
  -- c
  have r4 : Rw w4 lg (lrow a p c d t) 41 := ⟨k4.heap_some r3.eq (fun e => nl c3 (by decide) r3.eq lg e.symm rfl)⟩
  obtain ⟨w5, hw5⟩ : ∃ w5, w5 = w4.setCell ⟨lg, 2, none⟩ c' := ⟨_, rfl⟩
  rw [← hw5] at k6 b6
  have k5 : Chg (fun g => g = lg) w4 w5 := by rw [hw5]; exact (Chg.refl (fun g => g = lg) w4).setCell (.inl rfl) _
  have r5 : Rw w5 lg (lrow a p c' d t) 41 := by rw [hw5]; exact Rw.set r4 2 c'
  have k35 : Chg (fun g => g = lg ∨ some g = c.ownBlock) w3 w5 := (k4.mono (fun _ _ e => .inr e)).trans k5 (fun _ e => .inl (.inl e))
  have d5 : SX w5 48 d (n + i) (D ++ F) := d3.chg k35 (fun g hg e => by
    rcases e with e | e
    · exact nl d3 (by decide) r3.eq g hg e
    · exact h.cd g e.symm hg)
  have r6 : Rw w6 lg (lrow a p c' d t) 41 := ⟨k6.heap_some r5.eq (fun e => nl d5 (by decide) r5.eq lg e.symm rfl)⟩
  obtain ⟨w7, hw7⟩ : ∃ w7, w7 = w6.setCell ⟨lg, 3, none⟩ d' := ⟨_, rfl⟩
  rw [← hw7]
  have k7 : Chg (fun g => g = lg) w6 w7 := by rw [hw7]; exact (Chg.refl (fun g => g = lg) w6).setCell (.inl rfl) _
  have r7 : Rw w7 lg (lrow a p c' d' t) 41 := by rw [hw7]; exact Rw.set r6 3 d'
  have k37 : Chg (fun g => g = lg ∨ some g = c.ownBlock ∨ some g = d.ownBlock) w3 w7 := ((k35.mono (fun g _ e => e.imp id .inl)).trans k6 (fun g e => .inl (.inr (.inr e)))).trans k7 (fun g e => .inl (.inl e))
  have k07 : Chg (fun g => (some g = v.ownBlock ∨ some g = u.ownBlock) ∨ (g = lg ∨ some g = c.ownBlock ∨ some g = d.ownBlock)) w w7 := (hx.ch.mono (fun g _ e => .inl e)).trans k37 (fun g e => .inl (.inr e))
  have s35 := k35.size
  have s03 := hx.ch.size
  have cB : ∀ g, c'.ownBlock = some g → c.ownBlock = some g ∨ (w3.heap.size ≤ g ∧ g < w5.heap.size) := fun g hg => by
    rcases b4 with e | ⟨j, e, hj⟩
    · exact .inl (by rw [← e]; exact hg)
    · rw [hg] at e; injection e with e; subst e; exact .inr ⟨hj, Nat.lt_of_lt_of_le (s4.lt hg) k5.size⟩
  have dB : ∀ g, d'.ownBlock = some g → d.ownBlock = some g ∨ w5.heap.size ≤ g := fun g hg => by
    rcases b6 with e | ⟨j, e, hj⟩
    · exact .inl (by rw [← e]; exact hg)
    · rw [hg] at e; injection e with e; subst e; exact .inr hj
  -- other rows
  have no3 : ∀ {g : Nat} {cur : Array Value} {ty : TypeId}, w3.heap[g]? = some (.cells cur ty (0, 0)) → ty ≠ 41 → ty ≠ 48 → ¬ (g = lg ∨ some g = c.ownBlock ∨ some g = d.ownBlock) := fun hc h1 h2 e => by
    rcases e with e | e | e
    · exact cells_ne hc r3.eq h1 e
    · obtain ⟨_, e2⟩ := c3.block e.symm
      exact cells_ne hc e2 h2 rfl
    · obtain ⟨_, e2⟩ := d3.block e.symm
      exact cells_ne hc e2 h2 rfl
  have no : ∀ {g : Nat} {cur : Array Value} {ty : TypeId}, w.heap[g]? = some (.cells cur ty (0, 0)) → ty ≠ 41 → ty ≠ 48 → ¬ (g = lg ∨ some g = c.ownBlock ∨ some g = d.ownBlock) := fun hc h1 h2 e => by
    rcases e with e | e | e
    · exact cells_ne hc h.row.eq h1 e
    · obtain ⟨_, e2⟩ := h.rc.block e.symm
      exact cells_ne hc e2 h2 rfl
    · obtain ⟨_, e2⟩ := h.rd.block e.symm
      exact cells_ne hc e2 h2 rfl
  have a7 : SX w7 48 a na X := a3.chg k37 (fun g hg e => by
    rcases e with e | e | e
    · exact nl a3 (by decide) r3.eq g hg e
    · exact (h.ac g hg).1 e.symm
    · exact (h.ac g hg).2 e.symm)
  have p7 : SX w7 99 p np Y := p3.chg k37 (fun g hg e => by
    obtain ⟨_, e1⟩ := p3.block hg
    exact no3 e1 (by decide) (by decide) e)
  have c7 : SX w7 48 c' (n + (i + 1)) (C ++ (E ++ [x])) := by
    rw [← List.append_assoc, ← Nat.add_assoc]
    have h5 : SX w5 48 c' (n + i + 1) ((C ++ E) ++ [x]) := s4.chg k5 (nl s4 (by decide) r4.eq)
    have h6 : SX w6 48 c' (n + i + 1) ((C ++ E) ++ [x]) := h5.chg k6 (fun g hg e => by
      rcases cB g hg with e2 | e2
      · exact h.cd g e2 e.symm
      · have := d3.lt e.symm; omega)
    exact h6.chg k7 (nl h6 (by decide) r6.eq)
  have d7 : SX w7 48 d' (n + (i + 1)) (D ++ (F ++ [y])) := by
    rw [← List.append_assoc, ← Nat.add_assoc]
    exact s6.chg k7 (nl s6 (by decide) r6.eq)
  -- what a list outside holds
  have up5 : ∀ {z : Value}, Bk w B 5 z → (∀ g, z.ownBlock = some g → ¬ (some g = v.ownBlock ∨ some g = u.ownBlock)) → ∀ g, z.ownBlock = some g → ¬ ((some g = v.ownBlock ∨ some g = u.ownBlock) ∨ (g = lg ∨ some g = c.ownBlock ∨ some g = d.ownBlock)) := fun hb hn g hg e => by
    rcases e with e | e
    · exact hn g hg e
    · obtain ⟨_, _, e2⟩ := hb g hg
      exact no e2 (by decide) (by decide) e
  have bk7 : ∀ {ty : TypeId} {z : Value}, Bk w B ty z → (∀ g, z.ownBlock = some g → ¬ ((some g = v.ownBlock ∨ some g = u.ownBlock) ∨ (g = lg ∨ some g = c.ownBlock ∨ some g = d.ownBlock))) → Bk w7 B ty z := fun hb hn g hg => by
    obtain ⟨h1, cur, h2⟩ := hb g hg
    exact ⟨h1, cur, k07.heap_some h2 (hn g hg)⟩
  have up3 : ∀ {z : Value} {q : List Int}, Sv w3 z q → Sv w7 z q := fun hs => Sv.kept hs k37 (fun g hg e => by
    obtain ⟨_, e2⟩ := hs.2 g hg
    exact no3 e2 (by decide) (by decide) e)
  have sv7 := up3 hx.sv
  have su7 := up3 hx.su
  have sx7 : Sv w7 x (l ++ m) := up3 ⟨Own.src hx.ox, fun g hg => own_block hx.ox hg⟩
  have sy7 : Sv w7 y (l ++ m) := up3 ⟨Own.src hx.oy, fun g hg => own_block hx.oy hg⟩
  have bxv : ∀ g, x.ownBlock = some g → v.ownBlock = some g ∨ w.heap.size ≤ g := fun g hg => by
    rcases hx.bx with e | ⟨q, e, hq⟩
    · exact .inl (by rw [← e]; exact hg)
    · rw [hg] at e; injection e with e; exact .inr (by omega)
  have byu : ∀ g, y.ownBlock = some g → u.ownBlock = some g ∨ w.heap.size ≤ g := fun g hg => by
    rcases hx.bu with e | ⟨q, e, hq⟩
    · exact .inl (by rw [← e]; exact hg)
    · rw [hg] at e; injection e with e; exact .inr (by omega)
  have mv : v ∈ C := List.mem_of_getElem? hv
  have mu : u ∈ D := List.mem_of_getElem? hu
  have iC : ∀ z, z ∈ C → z ∈ C ++ D := fun z hz => List.mem_append.2 (.inl hz)
  have iD : ∀ z, z ∈ D → z ∈ C ++ D := fun z hz => List.mem_append.2 (.inr hz)
  have otC : ∀ {j : Nat} {z : Value}, C[j]? = some z → j ≠ i → ∀ g, z.ownBlock = some g → ¬ (some g = v.ownBlock ∨ some g = u.ownBlock) := fun hz hj g hg e => by
    rcases e with e | e
    · exact hj (h.cc _ i _ v g hz hv hg e.symm)
    · exact h.xy _ u g (List.mem_of_getElem? hz) mu hg e.symm
  have otD : ∀ {j : Nat} {z : Value}, D[j]? = some z → j ≠ i → ∀ g, z.ownBlock = some g → ¬ (some g = v.ownBlock ∨ some g = u.ownBlock) := fun hz hj g hg e => by
    rcases e with e | e
    · exact h.xy v _ g mv (List.mem_of_getElem? hz) e.symm hg
    · exact hj (h.dd _ i _ u g hz hu hg e.symm)
  have otE : ∀ {z : Value}, z ∈ E ++ F → ∀ g, z.ownBlock = some g → ¬ (some g = v.ownBlock ∨ some g = u.ownBlock) := fun hz g hg e => by
    rcases e with e | e
    · exact h.ne i v _ g (Nat.le_refl _) (.inl hv) hz e.symm hg
    · exact h.ne i u _ g (Nat.le_refl _) (.inr hu) hz e.symm hg
  obtain ⟨hn1, hn2, hn3, hn4⟩ := h.hn
  refine ⟨⟨r7, a7, p7, c7, d7, ⟨hn1, hn2, by simp [hn3], by simp [hn4]⟩, h.sm, fun g hg => ⟨fun e => ?_, fun e => ?_⟩, fun g hg e => ?_, h.bl, fun g hg => ?_, fun j z hz => ?_, fun j z hz => ?_, fun j z z' hz hz' => ?_, fun j z z' hj hz hz' => ?_, h.cc, h.dd, h.xy, h.nx, fun j z z' g hj hz hz' hg e => ?_⟩, k07.mono (fun g _ e => ?_)⟩
  · rcases cB g e with e2 | e2
    · exact (h.ac g hg).1 e2
    · have := a3.lt hg; omega
  · rcases dB g e with e2 | e2
    · exact (h.ac g hg).2 e2
    · have := a3.lt hg; omega
  · rcases cB g hg with e1 | e1 <;> rcases dB g e with e2 | e2
    · exact h.cd g e1 e2
    · have := c3.lt e1; omega
    · have := d3.lt e2; omega
    · omega
  · rcases hg with e | e
    · rcases cB g e with e2 | e2
      · exact h.bo g (.inl e2)
      · exact hB g (by omega)
    · rcases dB g e with e2 | e2
      · exact h.bo g (.inr e2)
      · exact hB g (by omega)
  · obtain ⟨h1, q, hq, h2⟩ := h.x j z hz
    have hno := up5 h1 (fun g hg e => by
      rcases e with e | e
      · exact h.nx z v g (List.mem_of_getElem? hz) (iC v mv) hg e.symm
      · exact h.nx z u g (List.mem_of_getElem? hz) (iD u mu) hg e.symm)
    exact ⟨bk7 h1 hno, q, hq, h2.kept k07 hno⟩
  · obtain ⟨h1, q, hq, h2⟩ := h.y j z hz
    have hno : ∀ g, z.ownBlock = some g → ¬ ((some g = v.ownBlock ∨ some g = u.ownBlock) ∨ (g = lg ∨ some g = c.ownBlock ∨ some g = d.ownBlock)) := fun g hg e => by
      obtain ⟨_, _, e2⟩ := h1 g hg
      rcases e with e | e
      · exact h.oth hv hu e2 (by decide) e
      · exact no e2 (by decide) (by decide) e
    exact ⟨bk7 h1 hno, q, hq, h2.kept k07 hno⟩
  · rcases get_app hz with hz | ⟨hz, rfl⟩ <;> rcases get_app hz' with hz' | ⟨hz', rfl⟩
    · by_cases hji : j = i
      · subst hji
        have e1 : z = v := by
          rw [List.getElem?_append_left (by omega), hv] at hz
          exact (Option.some.inj hz).symm
        have e2 : z' = u := by
          rw [List.getElem?_append_left (by omega), hu] at hz'
          exact (Option.some.inj hz').symm
        subst e1 e2
        exact ⟨fun g hg => ⟨(bv g hg).1, sv7.2 g hg⟩, fun g hg => ⟨(bu g hg).1, su7.2 g hg⟩, l, by omega, sv7.1, su7.1⟩
      · obtain ⟨h1, h2, q, hq, h3, h4⟩ := h.s j z z' hz hz'
        have o1 : ∀ g, z.ownBlock = some g → ¬ (some g = v.ownBlock ∨ some g = u.ownBlock) := by
          rcases Nat.lt_or_ge j n with e | e
          · rw [List.getElem?_append_left (by omega)] at hz
            exact otC hz hji
          · rw [List.getElem?_append_right (by omega)] at hz
            exact otE (List.mem_append.2 (.inl (List.mem_of_getElem? hz)))
        have o2 : ∀ g, z'.ownBlock = some g → ¬ (some g = v.ownBlock ∨ some g = u.ownBlock) := by
          rcases Nat.lt_or_ge j n with e | e
          · rw [List.getElem?_append_left (by omega)] at hz'
            exact otD hz' hji
          · rw [List.getElem?_append_right (by omega)] at hz'
            exact otE (List.mem_append.2 (.inr (List.mem_of_getElem? hz')))
        exact ⟨bk7 h1 (up5 h1 o1), bk7 h2 (up5 h2 o2), q, hq, h3.kept k07 (up5 h1 o1), h4.kept k07 (up5 h2 o2)⟩
    · have := (List.getElem?_eq_some_iff.1 hz).1
      rw [List.length_append] at this
      omega
    · have := (List.getElem?_eq_some_iff.1 hz').1
      rw [List.length_append] at this
      omega
    · refine ⟨fun g hg => ⟨?_, sx7.2 g hg⟩, fun g hg => ⟨?_, sy7.2 g hg⟩, l ++ m, by rw [List.length_append]; omega, sx7.1, sy7.1⟩
      · rcases bxv g hg with e | e
        · exact (bv g e).1
        · exact hB g e
      · rcases byu g hg with e | e
        · exact (bu g e).1
        · exact hB g e
  · obtain ⟨q, hq, o1, o2⟩ := h.own j z z' (by omega) hz hz'
    obtain ⟨b1, b2⟩ := h.bk hz hz'
    exact ⟨q, hq, Own.kept o1 k07 (up5 b1 (otC hz (by omega))), Own.kept o2 k07 (up5 b2 (otD hz' (by omega)))⟩
  · have low : g < w.heap.size := by
      rcases hz with hz | hz
      · have hl2 : j < D.length := by have := (List.getElem?_eq_some_iff.1 hz).1; omega
        obtain ⟨_, _, o1, _⟩ := h.own j z _ (by omega) hz (List.getElem?_eq_getElem hl2)
        exact Own.lt o1 hg
      · have hl2 : j < C.length := by have := (List.getElem?_eq_some_iff.1 hz).1; omega
        obtain ⟨_, _, _, o1⟩ := h.own j _ z (by omega) (List.getElem?_eq_getElem hl2) hz
        exact Own.lt o1 hg
    have ot : ¬ (some g = v.ownBlock ∨ some g = u.ownBlock) := by
      rcases hz with hz | hz
      · exact otC hz (by omega) g hg
      · exact otD hz (by omega) g hg
    rcases List.mem_append.1 hz' with hz' | hz' <;> rcases List.mem_append.1 hz' with hz' | hz'
    · exact h.ne j z z' g (by omega) hz (List.mem_append.2 (.inl hz')) hg e
    · have e9 : z' = x := by simpa using hz'
      subst e9
      rcases bxv g e with e2 | e2
      · exact ot (.inl e2.symm)
      · omega
    · exact h.ne j z z' g (by omega) hz (List.mem_append.2 (.inr hz')) hg e
    · have e9 : z' = y := by simpa using hz'
      subst e9
      rcases byu g e with e2 | e2
      · exact ot (.inr e2.symm)
      · omega
  · rcases e with (e | e) | e | e | e
    · exact (bv g e.symm).1
    · exact (bu g e.symm).1
    · rw [e]; exact h.bl
    · exact h.bo g (.inl e.symm)
    · exact h.bo g (.inr e.symm)
end
end Go.Proofs.Ytddnecfnjnipjaa
