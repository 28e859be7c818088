/-
  Pages: what was written is read back, and a front of it is not taken.
-/
import Derived.Test.YtfkjgfelgiogeaaPgD
import Derived.Test.YtfkjgfelgiogeaaPgT
import Derived.Test.YtfkjgfelgiogeaaTwL
namespace Go.Proofs.Ytfkjgfelgiogeaa
open Go.RowKit

/-- What was written of one record is read back, whatever lies ahead and behind. -/
def Back1 (one : List Int → Nat → Int → List Value × Nat × Int) (c : List Value) (b : List Int) : Prop := ∀ A R : List Int, one (A ++ b ++ R) A.length 0 = (c, A.length + b.length, 0)
/-- What is read without a fault is read so whatever goes on behind. -/
structure Ext1 (one : List Int → Nat → Int → List Value × Nat × Int) : Prop where
  ext : ∀ (P R : List Int) (a : Nat) (e : Int), a ≤ P.length → (one P a e).2.2 = 0 → one (P ++ R) a e = one P a e ∧ (one P a e).2.1 ≤ P.length
  bad : ∀ (P : List Int) (a : Nat) (e : Int), ¬ e = 0 → ¬ (one P a e).2.2 = 0

theorem many_backL {one : List Int → Nat → Int → List Value × Nat × Int} : ∀ (l : List (List Value × List Int)), (∀ e, e ∈ l → Back1 one e.1 e.2) → ∀ A R : List Int, manyE one (A ++ (l.map Prod.snd).flatten ++ R) l.length A.length 0 = (l.map Prod.fst, A.length + ((l.map Prod.snd).flatten).length, 0)
  | [], _, A, R => by simp [manyE]
  | k :: l, h, A, R => by
    have h1 := h k (List.mem_cons_self ..) A ((l.map Prod.snd).flatten ++ R)
    have h2 := many_backL l (fun e he => h e (List.mem_cons_of_mem _ he)) (A ++ k.2) R
    have e1 : A ++ ((k :: l).map Prod.snd).flatten ++ R = A ++ k.2 ++ ((l.map Prod.snd).flatten ++ R) := by simp
    have e2 : A ++ ((k :: l).map Prod.snd).flatten ++ R = (A ++ k.2) ++ (l.map Prod.snd).flatten ++ R := by simp
    rw [List.length_append] at h2
    rw [← e1] at h1
    rw [← e2] at h2
    rw [List.length_cons, manyE_step, h1]
    simp only [h2]
    simp [Nat.add_assoc]
theorem recsB_flat (g : Nat → List Int) : ∀ n, recsB g n = ((List.range n).map g).flatten
  | 0 => rfl
  | n + 1 => by rw [recsB, recsB_flat g n, List.range_succ]; simp
theorem step_m {one : List Int → Nat → Int → List Value × Nat × Int} {f : Nat → List Value} {g : Nat → List Int} {T A B R : List Int} {n : Nat} (hT : T = A ++ recsB g n ++ R) (hB : B = A ++ recsB g n) (h : ∀ i, i < n → Back1 one (f i) (g i)) : manyE one T n A.length 0 = ((List.range n).map f, B.length, 0) := by
  have h1 := many_backL ((List.range n).map (fun i => (f i, g i))) (fun e he => by
    obtain ⟨i, hi, rfl⟩ := List.mem_map.1 he
    exact h i (List.mem_range.1 hi)) A R
  rw [List.map_map, List.map_map, List.length_map, List.length_range] at h1
  have e1 : (Prod.snd ∘ fun i => (f i, g i)) = g := rfl
  have e2 : (Prod.fst ∘ fun i => (f i, g i)) = f := rfl
  rw [e1, e2, ← recsB_flat, ← hT] at h1
  rw [h1, hB, List.length_append]
theorem step_u {T A B R : List Int} {n most : Nat} (hT : T = A ++ numB n ++ R) (hB : B = A ++ numB n) (h : n ≤ most) (hn : n < 9223372036854775808) : uintS T A.length 0 most = (n, B.length, 0) := by
  rw [hT, hB, uint_back n most h hn, List.length_append]
theorem step_p {T A B R x : List Int} {k : Nat} (hk : x.length = k) (hT : T = A ++ x ++ R) (hB : B = A ++ x) : pL T A.length 0 k = x ∧ pA T A.length 0 k = B.length ∧ pE T A.length 0 k = 0 := by
  obtain ⟨h1, h2, h3⟩ := p_back (A := A) (R := R) x
  subst hk
  rw [hT, hB, List.length_append]
  exact ⟨h1, h2, h3⟩

theorem mark_back {m : Mk} (h1 : m.se ≤ 4611686018427387904) (h2 : 0 ≤ m.us) (h3 : m.us ≤ 4194304) : Back1 markE m.cells m.bytes := fun A R => by
  have q1 := step_u (T := A ++ m.bytes ++ R) (A := A) (B := A ++ numB m.se) (R := numB m.us.toNat ++ R) (n := m.se) (most := maxN) (by simp [Mk.bytes]) rfl h1 (by omega)
  have q2 := step_u (T := A ++ m.bytes ++ R) (A := A ++ numB m.se) (B := A ++ m.bytes) (R := R) (n := m.us.toNat) (most := 4194304) (by simp [Mk.bytes]) (by simp [Mk.bytes]) (by omega) (by omega)
  have e : ((m.us.toNat : Nat) : Int) = m.us := by omega
  unfold markE
  simp only [q1, q2]
  rw [mkC, e, List.length_append]
  rfl
theorem vers_back {v : Vs} (h1 : v.n ≤ 4611686018427387904) (h2 : v.c ≤ 4611686018427387904) (hx : v.x.length = 33) (hy : v.y.length = 32) : Back1 versE v.cells v.bytes := fun A R => by
  have q1 := step_u (T := A ++ v.bytes ++ R) (A := A) (B := A ++ numB v.n) (R := v.x ++ numB v.c ++ v.y ++ R) (n := v.n) (most := maxN) (by simp [Vs.bytes]) rfl h1 (by omega)
  obtain ⟨a1, a2, a3⟩ := step_p (T := A ++ v.bytes ++ R) (A := A ++ numB v.n) (B := A ++ numB v.n ++ v.x) (R := numB v.c ++ v.y ++ R) (x := v.x) hx (by simp [Vs.bytes]) rfl
  have q2 := step_u (T := A ++ v.bytes ++ R) (A := A ++ numB v.n ++ v.x) (B := A ++ numB v.n ++ v.x ++ numB v.c) (R := v.y ++ R) (n := v.c) (most := maxN) (by simp [Vs.bytes]) rfl h2 (by omega)
  obtain ⟨b1, b2, b3⟩ := step_p (T := A ++ v.bytes ++ R) (A := A ++ numB v.n ++ v.x ++ numB v.c) (B := A ++ v.bytes) (R := R) (x := v.y) hy (by simp [Vs.bytes]) (by simp [Vs.bytes])
  unfold versE
  have a1 : pL (A ++ v.bytes ++ R) (A ++ numB v.n).length 0 33 = v.x := a1
  have a2 : pA (A ++ v.bytes ++ R) (A ++ numB v.n).length 0 33 = (A ++ numB v.n ++ v.x).length := a2
  have a3 : pE (A ++ v.bytes ++ R) (A ++ numB v.n).length 0 33 = 0 := a3
  have b1 : pL (A ++ v.bytes ++ R) (A ++ numB v.n ++ v.x ++ numB v.c).length 0 32 = v.y := b1
  have b2 : pA (A ++ v.bytes ++ R) (A ++ numB v.n ++ v.x ++ numB v.c).length 0 32 = (A ++ v.bytes).length := b2
  have b3 : pE (A ++ v.bytes ++ R) (A ++ numB v.n ++ v.x ++ numB v.c).length 0 32 = 0 := b3
  simp only [q1, a1, a2, a3, q2, b1, b2, b3, pad_full hx, pad_full hy]
  rw [List.length_append]
  rfl
theorem peak_back {k : Pk} (h1 : k.n ≤ 4611686018427387904) (hx : k.x.length = 33) (hy : k.y.length = 32) : Back1 peakE k.cells k.bytes := fun A R => by
  have q1 := step_u (T := A ++ k.bytes ++ R) (A := A) (B := A ++ numB k.n) (R := k.x ++ k.y ++ R) (n := k.n) (most := maxN) (by simp [Pk.bytes]) rfl h1 (by omega)
  obtain ⟨a1, a2, a3⟩ := step_p (T := A ++ k.bytes ++ R) (A := A ++ numB k.n) (B := A ++ numB k.n ++ k.x) (R := k.y ++ R) (x := k.x) hx (by simp [Pk.bytes]) rfl
  obtain ⟨b1, b2, b3⟩ := step_p (T := A ++ k.bytes ++ R) (A := A ++ numB k.n ++ k.x) (B := A ++ k.bytes) (R := R) (x := k.y) hy (by simp [Pk.bytes]) (by simp [Pk.bytes])
  unfold peakE limbS
  have a1 : pL (A ++ k.bytes ++ R) (A ++ numB k.n).length 0 33 = k.x := a1
  have a2 : pA (A ++ k.bytes ++ R) (A ++ numB k.n).length 0 33 = (A ++ numB k.n ++ k.x).length := a2
  have a3 : pE (A ++ k.bytes ++ R) (A ++ numB k.n).length 0 33 = 0 := a3
  have b1 : pL (A ++ k.bytes ++ R) (A ++ numB k.n ++ k.x).length 0 32 = k.y := b1
  have b2 : pA (A ++ k.bytes ++ R) (A ++ numB k.n ++ k.x).length 0 32 = (A ++ k.bytes).length := b2
  have b3 : pE (A ++ k.bytes ++ R) (A ++ numB k.n ++ k.x).length 0 32 = 0 := b3
  simp only [q1, a1, a2, a3, b1, b2, b3, pad_full hx, pad_full hy]
  rw [List.length_append]
  rfl

theorem mark_ext : Ext1 markE := by
  refine ⟨fun P R a e ha h => ?_, fun P a e he => ?_⟩
  · unfold markE at h ⊢
    simp only at h ⊢
    have h2 := Classical.byContradiction fun x => uint_bad x h
    obtain ⟨a1, b1⟩ := uint_ext R ha h2
    obtain ⟨a2, b2⟩ := uint_ext R b1 h
    rw [a1, a2]
    exact ⟨rfl, b2⟩
  · unfold markE
    exact uint_bad (uint_bad he)
theorem vers_ext : Ext1 versE := by
  refine ⟨fun P R a e ha h => ?_, fun P a e he => ?_⟩
  · unfold versE at h ⊢
    simp only at h ⊢
    have h3 := Classical.byContradiction fun x => p_bad2 x h
    have h2 := Classical.byContradiction fun x => uint_bad x h3
    have h1 := Classical.byContradiction fun x => p_bad2 x h2
    obtain ⟨a1, b1⟩ := uint_ext R ha h1
    obtain ⟨x1, x2, x3, x4⟩ := p_ext R h2
    obtain ⟨a3, b3⟩ := uint_ext R x4 h3
    obtain ⟨y1, y2, y3, y4⟩ := p_ext R h
    rw [a1, x1, x2, x3.trans h2.symm, a3, y1, y2, y3.trans h.symm]
    exact ⟨rfl, y4⟩
  · unfold versE
    exact p_bad2 (uint_bad (p_bad2 (uint_bad he)))
theorem peak_ext : Ext1 peakE := by
  refine ⟨fun P R a e ha h => ?_, fun P a e he => ?_⟩
  · unfold peakE at h ⊢
    simp only at h ⊢
    have h2 : (uintS P a e maxN).2.2 = 0 := Classical.byContradiction fun x => by
      unfold limbS at h
      simp only at h
      exact p_bad2 (p_bad2 x) h
    obtain ⟨a1, b1⟩ := uint_ext R ha h2
    obtain ⟨x1, x2, _⟩ := limb_ext R h
    rw [a1, x1]
    exact ⟨rfl, x2⟩
  · unfold peakE limbS
    exact p_bad2 (p_bad2 (uint_bad he))
theorem manyE_bad {one : List Int → Nat → Int → List Value × Nat × Int} {T : List Int} {n a : Nat} {e : Int} (h : ¬ e = 0) : ¬ (manyE one T n a e).2.2 = 0 := by rw [manyE_err h]; exact h
theorem manyE_ext {one : List Int → Nat → Int → List Value × Nat × Int} (hx : Ext1 one) {P : List Int} (R : List Int) : ∀ (n a : Nat) (e : Int), a ≤ P.length → (manyE one P n a e).2.2 = 0 → manyE one (P ++ R) n a e = manyE one P n a e ∧ (manyE one P n a e).2.1 ≤ P.length
  | 0, a, e, ha, _ => ⟨rfl, ha⟩
  | n + 1, a, e, ha, h => by
    by_cases he : e = 0
    · subst he
      rw [manyE_step] at h
      have hk : (one P a 0).2.2 = 0 := Classical.byContradiction fun x => manyE_bad x h
      obtain ⟨h1, h2⟩ := hx.ext P R a 0 ha hk
      obtain ⟨h3, h4⟩ := manyE_ext hx R n _ _ h2 h
      rw [manyE_step, manyE_step, h1, h3]
      exact ⟨rfl, h4⟩
    · exact absurd h (manyE_bad he)

theorem page_ext {P : List Int} (R : List Int) (h : (pageS P 0 0).err = 0) : pageS (P ++ R) 0 0 = pageS P 0 0 ∧ (pageS P 0 0).at_ ≤ P.length := by
  unfold pageS at h ⊢
  obtain ⟨U0, a1, e1, h0⟩ : ∃ U b c, uintS P 0 0 maxN = (U, b, c) := ⟨_, _, _, rfl⟩
  simp only [h0] at h ⊢
  obtain ⟨U1, a2, e2, h1⟩ : ∃ U b c, uintS P a1 e1 64 = (U, b, c) := ⟨_, _, _, rfl⟩
  simp only [h1] at h ⊢
  obtain ⟨U2, a3, e3, h2⟩ : ∃ U b c, uintS P a2 e2 maxN = (U, b, c) := ⟨_, _, _, rfl⟩
  simp only [h2] at h ⊢
  obtain ⟨U3, a4, e4, h3⟩ : ∃ U b c, uintS P a3 e3 32768 = (U, b, c) := ⟨_, _, _, rfl⟩
  simp only [h3] at h ⊢
  obtain ⟨U4, a5, e5, h4⟩ : ∃ U b c, manyE markE P U3 a4 e4 = (U, b, c) := ⟨_, _, _, rfl⟩
  simp only [h4] at h ⊢
  obtain ⟨U5, a6, e6, h5⟩ : ∃ U b c, uintS P a5 e5 64 = (U, b, c) := ⟨_, _, _, rfl⟩
  simp only [h5] at h ⊢
  obtain ⟨U6, a7, e7, h6⟩ : ∃ U b c, manyE versE P U5 a6 e6 = (U, b, c) := ⟨_, _, _, rfl⟩
  simp only [h6] at h ⊢
  obtain ⟨U7, a8, e8, h7⟩ : ∃ U b c, uintS P a7 e7 4611686018427387905 = (U, b, c) := ⟨_, _, _, rfl⟩
  simp only [h7] at h ⊢
  obtain ⟨U8, a9, e9, h8⟩ : ∃ U b c, uintS P a8 e8 63 = (U, b, c) := ⟨_, _, _, rfl⟩
  simp only [h8] at h ⊢
  obtain ⟨U9, a10, e10, h9⟩ : ∃ U b c, manyE peakE P U8 a9 e9 = (U, b, c) := ⟨_, _, _, rfl⟩
  simp only [h9] at h ⊢
  have z9 : (manyE peakE P U8 a9 e9).2.2 = 0 := by rw [h9]; exact h
  have z8 : e9 = 0 := Classical.byContradiction fun x => manyE_bad x z9
  have y8 : (uintS P a8 e8 63).2.2 = 0 := by rw [h8]; exact z8
  have z7 : e8 = 0 := Classical.byContradiction fun x => uint_bad x y8
  have y7 : (uintS P a7 e7 4611686018427387905).2.2 = 0 := by rw [h7]; exact z7
  have z6 : e7 = 0 := Classical.byContradiction fun x => uint_bad x y7
  have y6 : (manyE versE P U5 a6 e6).2.2 = 0 := by rw [h6]; exact z6
  have z5 : e6 = 0 := Classical.byContradiction fun x => manyE_bad x y6
  have y5 : (uintS P a5 e5 64).2.2 = 0 := by rw [h5]; exact z5
  have z4 : e5 = 0 := Classical.byContradiction fun x => uint_bad x y5
  have y4 : (manyE markE P U3 a4 e4).2.2 = 0 := by rw [h4]; exact z4
  have z3 : e4 = 0 := Classical.byContradiction fun x => manyE_bad x y4
  have y3 : (uintS P a3 e3 32768).2.2 = 0 := by rw [h3]; exact z3
  have z2 : e3 = 0 := Classical.byContradiction fun x => uint_bad x y3
  have y2 : (uintS P a2 e2 maxN).2.2 = 0 := by rw [h2]; exact z2
  have z1 : e2 = 0 := Classical.byContradiction fun x => uint_bad x y2
  have y1 : (uintS P a1 e1 64).2.2 = 0 := by rw [h1]; exact z1
  have z0 : e1 = 0 := Classical.byContradiction fun x => uint_bad x y1
  have y0 : (uintS P 0 0 maxN).2.2 = 0 := by rw [h0]; exact z0
  obtain ⟨p0, l0⟩ := uint_ext R (Nat.zero_le _) y0
  rw [h0] at p0 l0
  obtain ⟨p1, l1⟩ := uint_ext R l0 y1
  rw [h1] at p1 l1
  obtain ⟨p2, l2⟩ := uint_ext R l1 y2
  rw [h2] at p2 l2
  obtain ⟨p3, l3⟩ := uint_ext R l2 y3
  rw [h3] at p3 l3
  obtain ⟨p4, l4⟩ := manyE_ext mark_ext R _ _ _ l3 y4
  rw [h4] at p4 l4
  obtain ⟨p5, l5⟩ := uint_ext R l4 y5
  rw [h5] at p5 l5
  obtain ⟨p6, l6⟩ := manyE_ext vers_ext R _ _ _ l5 y6
  rw [h6] at p6 l6
  obtain ⟨p7, l7⟩ := uint_ext R l6 y7
  rw [h7] at p7 l7
  obtain ⟨p8, l8⟩ := uint_ext R l7 y8
  rw [h8] at p8 l8
  obtain ⟨p9, l9⟩ := manyE_ext peak_ext R _ _ _ l8 z9
  rw [h9] at p9 l9
  simp only [p0, p1, p2, p3, p4, p5, p6, p7, p8, p9]
  exact ⟨trivial, l9⟩

/-- A page's lists, as they are read back. -/
def Pg.mL (P : Pg) : List (List Value) := (List.range P.mn).map fun i => (P.ms i).cells
def Pg.vL (P : Pg) : List (List Value) := (List.range P.vn).map fun i => (P.vs i).cells
def Pg.pL (P : Pg) : List (List Value) := (List.range P.pn).map fun i => (P.ps i).cells
theorem page_back {P : Pg} (hF : PgFit P) (hv : ∀ i, i < P.vn → (P.vs i).x.length = 33 ∧ (P.vs i).y.length = 32) (hp : ∀ i, i < P.pn → (P.ps i).x.length = 33 ∧ (P.ps i).y.length = 32) (R : List Int) :
    pageS (P.bytes ++ R) 0 0 = ⟨P.la, P.wi.toNat, P.se, P.mL, P.vL, P.sz, P.pL, P.bytes.length, 0⟩ := by
  obtain ⟨T, hT⟩ : ∃ T, T = P.bytes ++ R := ⟨_, rfl⟩
  obtain ⟨A1, hA1⟩ : ∃ A, A = [] ++ numB P.la := ⟨_, rfl⟩
  obtain ⟨A2, hA2⟩ : ∃ A, A = A1 ++ numB P.wi.toNat := ⟨_, rfl⟩
  obtain ⟨A3, hA3⟩ : ∃ A, A = A2 ++ numB P.se := ⟨_, rfl⟩
  obtain ⟨A4, hA4⟩ : ∃ A, A = A3 ++ numB P.mn := ⟨_, rfl⟩
  obtain ⟨A5, hA5⟩ : ∃ A, A = A4 ++ recsB P.mB P.mn := ⟨_, rfl⟩
  obtain ⟨A6, hA6⟩ : ∃ A, A = A5 ++ numB P.vn := ⟨_, rfl⟩
  obtain ⟨A7, hA7⟩ : ∃ A, A = A6 ++ recsB P.vB P.vn := ⟨_, rfl⟩
  obtain ⟨A8, hA8⟩ : ∃ A, A = A7 ++ numB P.sz := ⟨_, rfl⟩
  obtain ⟨A9, hA9⟩ : ∃ A, A = A8 ++ numB P.pn := ⟨_, rfl⟩
  obtain ⟨A10, hA10⟩ : ∃ A, A = A9 ++ recsB P.pB P.pn := ⟨_, rfl⟩
  have b9 : P.bytes = A10 := by rw [hA10, hA9, hA8, hA7, hA6, hA5, hA4, hA3, hA2, hA1]; simp [Pg.bytes]
  have t10 : T = A9 ++ recsB P.pB P.pn ++ R := by rw [hT, b9, hA10]
  have t9 : T = A8 ++ numB P.pn ++ (recsB P.pB P.pn ++ R) := by rw [t10, hA9]; simp
  have t8 : T = A7 ++ numB P.sz ++ (numB P.pn ++ (recsB P.pB P.pn ++ R)) := by rw [t9, hA8]; simp
  have t7 : T = A6 ++ recsB P.vB P.vn ++ (numB P.sz ++ (numB P.pn ++ (recsB P.pB P.pn ++ R))) := by rw [t8, hA7]; simp
  have t6 : T = A5 ++ numB P.vn ++ (recsB P.vB P.vn ++ (numB P.sz ++ (numB P.pn ++ (recsB P.pB P.pn ++ R)))) := by rw [t7, hA6]; simp
  have t5 : ∃ R', T = A4 ++ recsB P.mB P.mn ++ R' := ⟨_, by rw [t6, hA5, List.append_assoc]⟩
  obtain ⟨R5, t5⟩ := t5
  have t4 : T = A3 ++ numB P.mn ++ (recsB P.mB P.mn ++ R5) := by rw [t5, hA4]; simp
  have t3 : T = A2 ++ numB P.se ++ (numB P.mn ++ (recsB P.mB P.mn ++ R5)) := by rw [t4, hA3]; simp
  have t2 : T = A1 ++ numB P.wi.toNat ++ (numB P.se ++ (numB P.mn ++ (recsB P.mB P.mn ++ R5))) := by rw [t3, hA2]; simp
  have t1 : T = [] ++ numB P.la ++ (numB P.wi.toNat ++ (numB P.se ++ (numB P.mn ++ (recsB P.mB P.mn ++ R5)))) := by rw [t2, hA1]; simp
  have q0 : uintS T 0 0 maxN = (P.la, A1.length, 0) := step_u t1 hA1 hF.la (by have := hF.la; omega)
  have q1 := step_u (most := 64) t2 hA2 (by have := hF.wi; omega) (by have := hF.wi; omega)
  have q2 := step_u (most := maxN) t3 hA3 hF.se (by have := hF.se; omega)
  have q3 := step_u (most := 32768) t4 hA4 hF.mn (by have := hF.mn; omega)
  have q4 := step_m (one := markE) (f := fun i => (P.ms i).cells) t5 hA5 (fun i hi => mark_back (hF.em i hi).1 (hF.em i hi).2.1 (hF.em i hi).2.2)
  have q5 := step_u (most := 64) t6 hA6 hF.vn (by have := hF.vn; omega)
  have q6 := step_m (one := versE) (f := fun i => (P.vs i).cells) t7 hA7 (fun i hi => vers_back (hF.vk i hi).1 (hF.vk i hi).2 (hv i hi).1 (hv i hi).2)
  have q7 := step_u (most := 4611686018427387905) t8 hA8 hF.sz (by have := hF.sz; omega)
  have q8 := step_u (most := 63) t9 hA9 hF.pn (by have := hF.pn; omega)
  have q9 := step_m (one := peakE) (f := fun i => (P.ps i).cells) t10 hA10 (fun i hi => peak_back (hF.pk i hi) (hp i hi).1 (hp i hi).2)
  rw [← hT]
  unfold pageS
  simp only [q0, q1, q2, q3, q4, q5, q6, q7, q8, q9]
  rw [b9]
  rfl

def pageE (T : List Int) : Int := endE T (pageS T 0 0).at_ (pageS T 0 0).err
section
variable {P : Pg} (hF : PgFit P) (hv : ∀ i, i < P.vn → (P.vs i).x.length = 33 ∧ (P.vs i).y.length = 32) (hp : ∀ i, i < P.pn → (P.ps i).x.length = 33 ∧ (P.ps i).y.length = 32)
include hF hv hp
theorem page_all : pageE P.bytes = 0 := by
  have h3 := page_back hF hv hp []
  rw [List.append_nil] at h3
  unfold pageE
  rw [h3]
  exact endE_no (by simp)
theorem page_cut {m : Nat} (hm : m < P.bytes.length) : ¬ pageE (P.bytes.take m) = 0 := fun e => by
  unfold pageE at e
  have he : (pageS (P.bytes.take m) 0 0).err = 0 := Classical.byContradiction fun x => by
    rw [endE_err x] at e
    exact x e
  obtain ⟨h1, h2⟩ := page_ext (P.bytes.drop m) he
  rw [List.take_append_drop] at h1
  have h3 := page_back hF hv hp []
  rw [List.append_nil] at h3
  rw [h3] at h1
  rw [← h1] at h2
  simp only [List.length_take] at h2
  omega
end
end Go.Proofs.Ytfkjgfelgiogeaa
