import Derived.Test.YtfkjgfelgiogeaaPgX
import Derived.Test.YtfkjgfelgiogeaaPgQ
import Derived.Test.YtfkjgfelgiogeaaTwA
/-
  What two readers make of one text is the same page; lists of records are laid on.
-/
namespace Go.Proofs.Ytfkjgfelgiogeaa
open Go.RowKit

theorem uintS_mostN (T : List Int) (a : Nat) (err : Int) (m : Nat) : (uintS T a err m).1 ≤ m := by
  unfold uintS
  split
  · split
    split
    · split
      · exact Nat.zero_le _
      · simp only; omega
    · exact Nat.zero_le _
  · exact Nat.zero_le _
theorem many_mem {one : List Int → Nat → Int → List Value × Nat × Int} {T : List Int} : ∀ (n a : Nat) (e : Int) (c : List Value), c ∈ (manyE one T n a e).1 → ∃ a' e', c = (one T a' e').1
  | 0, a, e, c, h => by simp [manyE] at h
  | n + 1, a, e, c, h => by
    unfold manyE at h
    split at h
    · rcases List.mem_cons.1 h with h | h
      · exact ⟨_, _, h⟩
      · exact many_mem n _ _ c h
    · simp at h
theorem many_len {one : List Int → Nat → Int → List Value × Nat × Int} {T : List Int} : ∀ (n a : Nat) (e : Int), (manyE one T n a e).1.length ≤ n
  | 0, a, e => by simp [manyE]
  | n + 1, a, e => by
    unfold manyE
    split
    · have := many_len (one := one) (T := T) n (one T a e).2.1 (one T a e).2.2
      simp only [List.length_cons]
      omega
    · simp
theorem list_form {K : Type} (d : K) (cells : K → List Value) (good : K → Prop) (L : List (List Value)) (h : ∀ c, c ∈ L → ∃ k, c = cells k ∧ good k) : ∃ f : Nat → K, L = (List.range L.length).map (fun i => cells (f i)) ∧ ∀ i, i < L.length → good (f i) := by
  refine ⟨fun i => if hi : i < L.length then Classical.choose (h L[i] (List.getElem_mem hi)) else d, ?_, ?_⟩
  · refine List.ext_getElem (by simp) (fun i h1 h2 => ?_)
    simp only [List.getElem_map, List.getElem_range, h1, dif_pos]
    exact (Classical.choose_spec (h L[i] (List.getElem_mem h1))).1
  · intro i hi
    simp only [hi, dif_pos]
    exact (Classical.choose_spec (h L[i] (List.getElem_mem hi))).2
/-- The numbers of a page lie where they may. -/
structure PgNm (P : Pg) : Prop where
  la : P.la < 18446744073709551616
  wi : -9223372036854775808 ≤ P.wi ∧ P.wi ≤ 9223372036854775807
  se : P.se < 18446744073709551616
  sz : P.sz < 18446744073709551616
  mn : P.mn ≤ 9223372036854775807
  vn : P.vn ≤ 9223372036854775807
  pn : P.pn ≤ 9223372036854775807
  em : ∀ i, i < P.mn → (P.ms i).se < 18446744073709551616 ∧ -9223372036854775808 ≤ (P.ms i).us ∧ (P.ms i).us ≤ 9223372036854775807
  vk : ∀ i, i < P.vn → (P.vs i).n < 18446744073709551616 ∧ (P.vs i).x.length = 33 ∧ (P.vs i).c < 18446744073709551616 ∧ (P.vs i).y.length = 32
  pk : ∀ i, i < P.pn → (P.ps i).n < 18446744073709551616 ∧ (P.ps i).x.length = 33 ∧ (P.ps i).y.length = 32
/-- The page with its lists elsewhere. -/
def Pg.at (P : Pg) (A1 A2 A3 : Option Addr) (c1 c2 c3 : Nat) : Pg := { P with ma := A1, mc := c1, va := A2, vc := c2, pa := A3, pc := c3 }
theorem PgIn.nm {w : World} {Av : Nat → Prop} {P : Pg} (h : PgIn w Av P) : PgNm P := ⟨h.la, h.wi, h.se, h.sz, h.mn, h.vn, h.pn, h.em, h.vk, h.pk⟩
theorem PgNm.in_ {w : World} {Av : Nat → Prop} {P : Pg} (h : PgNm P) {A1 A2 A3 : Option Addr} {c1 c2 c3 : Nat} (h1 : RowsIn w Av A1 P.mn 2 (fun i => (P.ms i).cells)) (h2 : RowsIn w Av A2 P.vn 67 (fun i => (P.vs i).cells)) (h3 : RowsIn w Av A3 P.pn 66 (fun i => (P.ps i).cells)) : PgIn w Av (P.at A1 A2 A3 c1 c2 c3) :=
  ⟨h.la, h.wi, h.se, h.sz, h.mn, h.vn, h.pn, h1, h2, h3, h.em, h.vk, h.pk⟩
theorem mark_form (T : List Int) (a : Nat) (e : Int) : ∃ k : Mk, (markE T a e).1 = k.cells ∧ k.se < 18446744073709551616 ∧ -9223372036854775808 ≤ k.us ∧ k.us ≤ 9223372036854775807 := by
  refine ⟨⟨(uintS T a e maxN).1, ((uintS T (uintS T a e maxN).2.1 (uintS T a e maxN).2.2 4194304).1 : Nat)⟩, rfl, ?_, ?_⟩
  · have := uintS_mostN T a e maxN
    simp only [maxN] at this ⊢
    omega
  · have := uintS_mostN T (uintS T a e maxN).2.1 (uintS T a e maxN).2.2 4194304
    simp only
    omega
theorem vers_form (T : List Int) (a : Nat) (e : Int) : ∃ k : Vs, (versE T a e).1 = k.cells ∧ k.n < 18446744073709551616 ∧ k.x.length = 33 ∧ k.c < 18446744073709551616 ∧ k.y.length = 32 := by
  refine ⟨⟨(uintS T a e maxN).1, pad 33 (pL T (uintS T a e maxN).2.1 (uintS T a e maxN).2.2 33), _, _⟩, rfl, ?_, ?_, ?_, ?_⟩
  · have := uintS_mostN T a e maxN
    simp only [maxN] at this ⊢
    omega
  · exact pad_len (pL_len T _ _ 33)
  · exact Nat.lt_of_le_of_lt (uintS_mostN T (pA T (uintS T a e maxN).2.1 (uintS T a e maxN).2.2 33) (pE T (uintS T a e maxN).2.1 (uintS T a e maxN).2.2 33) maxN) (by decide)
  · exact pad_len (pL_len T _ _ 32)
theorem peak_form (T : List Int) (a : Nat) (e : Int) : ∃ k : Pk, (peakE T a e).1 = k.cells ∧ k.n < 18446744073709551616 ∧ k.x.length = 33 ∧ k.y.length = 32 := by
  have h := peakE_len T a e
  obtain ⟨z, hz⟩ : ∃ z, z = (limbS T (uintS T a e maxN).2.1 (uintS T a e maxN).2.2).1 := ⟨_, rfl⟩
  have h2 : (leafC (uintS T a e maxN).1 z).length = 66 := by rw [hz]; exact h
  rw [leafC_len] at h2
  refine ⟨⟨(uintS T a e maxN).1, z.take 33, z.drop 33⟩, ?_, ?_, ?_, ?_⟩
  · show leafC _ _ = leafC _ (z.take 33 ++ z.drop 33)
    rw [List.take_append_drop, hz]
  · have := uintS_mostN T a e maxN
    simp only [maxN] at this ⊢
    omega
  · simp; omega
  · simp; omega
structure PgHas (S : PgS) (P : Pg) : Prop where
  la : S.la = P.la
  wi : (S.wi : Int) = P.wi
  se : S.se = P.se
  ms : S.ms = P.mL
  vs : S.vs = P.vL
  sz : S.sz = P.sz
  ps : S.ps = P.pL
theorem page_form (T : List Int) : ∃ P : Pg, PgNm P ∧ PgHas (pageS T 0 0) P := by
  obtain ⟨n3, a3, e3, h3, hn3⟩ : ∃ n a e, (pageS T 0 0).ms = (manyE markE T n a e).1 ∧ n ≤ 32768 := ⟨_, _, _, rfl, uintS_mostN _ _ _ _⟩
  obtain ⟨n4, a4, e4, h4, hn4⟩ : ∃ n a e, (pageS T 0 0).vs = (manyE versE T n a e).1 ∧ n ≤ 64 := ⟨_, _, _, rfl, uintS_mostN _ _ _ _⟩
  obtain ⟨n6, a6, e6, h6, hn6⟩ : ∃ n a e, (pageS T 0 0).ps = (manyE peakE T n a e).1 ∧ n ≤ 63 := ⟨_, _, _, rfl, uintS_mostN _ _ _ _⟩
  have la : (pageS T 0 0).la ≤ maxN := uintS_mostN _ _ _ _
  have wi : (pageS T 0 0).wi ≤ 64 := uintS_mostN _ _ _ _
  have se : (pageS T 0 0).se ≤ maxN := uintS_mostN _ _ _ _
  have sz : (pageS T 0 0).sz ≤ 4611686018427387905 := uintS_mostN _ _ _ _
  simp only [maxN] at la se
  have l3 := many_len (one := markE) (T := T) n3 a3 e3
  have l4 := many_len (one := versE) (T := T) n4 a4 e4
  have l6 := many_len (one := peakE) (T := T) n6 a6 e6
  rw [← h3] at l3
  rw [← h4] at l4
  rw [← h6] at l6
  obtain ⟨fm, em, gm⟩ := list_form (⟨0, 0⟩ : Mk) Mk.cells (fun k => k.se < 18446744073709551616 ∧ -9223372036854775808 ≤ k.us ∧ k.us ≤ 9223372036854775807) (pageS T 0 0).ms (fun c hc => by
    rw [h3] at hc
    obtain ⟨a, e, hh⟩ := many_mem _ _ _ _ hc
    rw [hh]; exact mark_form T a e)
  obtain ⟨fv, ev, gv⟩ := list_form (⟨0, [], 0, []⟩ : Vs) Vs.cells (fun k => k.n < 18446744073709551616 ∧ k.x.length = 33 ∧ k.c < 18446744073709551616 ∧ k.y.length = 32) (pageS T 0 0).vs (fun c hc => by
    rw [h4] at hc
    obtain ⟨a, e, hh⟩ := many_mem _ _ _ _ hc
    rw [hh]; exact vers_form T a e)
  obtain ⟨fp, ep, gp⟩ := list_form (⟨0, [], []⟩ : Pk) Pk.cells (fun k => k.n < 18446744073709551616 ∧ k.x.length = 33 ∧ k.y.length = 32) (pageS T 0 0).ps (fun c hc => by
    rw [h6] at hc
    obtain ⟨a, e, hh⟩ := many_mem _ _ _ _ hc
    rw [hh]; exact peak_form T a e)
  refine ⟨⟨(pageS T 0 0).la, ((pageS T 0 0).wi : Nat), (pageS T 0 0).se, none, (pageS T 0 0).ms.length, 0, fm, none, (pageS T 0 0).vs.length, 0, fv, (pageS T 0 0).sz, none, (pageS T 0 0).ps.length, 0, fp⟩, ⟨?_, ?_, ?_, ?_, ?_, ?_, ?_, gm, gv, gp⟩, ⟨rfl, rfl, rfl, em, ev, rfl, ep⟩⟩
  · simp only; omega
  · simp only; omega
  · simp only; omega
  · simp only; omega
  · simp only; omega
  · simp only; omega
  · simp only; omega
theorem GL.rowsN {w : World} {v : Value} {ty sz n : Nat} {f : Nat → List Value} (h : GL w v ty sz ((List.range n).map f)) : ∃ A c, v = .slice A n c ∧ RowsIn w (fun _ => True) A n sz f := by
  obtain ⟨A, c, e⟩ := h.form
  have hl : ((List.range n).map f).length = n := by simp
  refine ⟨A, c, by rw [e, hl], fun i hi => ?_⟩
  obtain ⟨g, c', e2, r⟩ := h.at (j := i) (by rw [hl]; exact hi)
  rw [e] at e2
  injection e2 with e2 _ _
  refine ⟨g, 0, e2, True.intro, ?_⟩
  rw [Nat.zero_add]
  have e3 : ((List.range n).map f)[i]'(by rw [hl]; exact hi) = f i := by simp
  rw [e3] at r
  exact r
theorem PgIs.at {w : World} {B : Nat} {S : PgS} {C : List Value} (h : PgIs w B S C) {P : Pg} (hS : PgHas S P) : ∃ A1 A2 A3 c1 c2 c3, C = (P.at A1 A2 A3 c1 c2 c3).cells ∧ RowsIn w (fun _ => True) A1 P.mn 2 (fun i => (P.ms i).cells) ∧ RowsIn w (fun _ => True) A2 P.vn 67 (fun i => (P.vs i).cells) ∧ RowsIn w (fun _ => True) A3 P.pn 66 (fun i => (P.ps i).cells) := by
  obtain ⟨mv, vv, pv, e, pg⟩ := h.ex
  have pm := pg.m
  have pv' := pg.v
  have pp := pg.p
  rw [hS.ms] at pm
  rw [hS.vs] at pv'
  rw [hS.ps] at pp
  obtain ⟨A1, c1, e1, r1⟩ := GL.rowsN pm
  obtain ⟨A2, c2, e2, r2⟩ := GL.rowsN pv'
  obtain ⟨A3, c3, e3, r3⟩ := GL.rowsN pp
  refine ⟨A1, A2, A3, c1, c2, c3, ?_, r1, r2, r3⟩
  rw [e, e1, e2, e3, hS.la, hS.se, hS.sz, pgC, hS.wi]
  rfl
/-- Two readings of one text. -/
theorem two_pages {w : World} {T : List Int} {C D : List Value} (h1 : pageE T = 0 → ∃ B, PgIs w B (pageS T 0 0) C) (h2 : ¬ pageE T = 0 → C = pgZ) (k1 : pageE T = 0 → ∃ B, PgIs w B (pageS T 0 0) D) (k2 : ¬ pageE T = 0 → D = pgZ) :
    ∃ P A1 A2 A3 c1 c2 c3, C = (Pg.at P A1 A2 A3 c1 c2 c3).cells ∧ D = P.cells ∧ PgIn w (fun _ => True) P ∧ RowsIn w (fun _ => True) A1 P.mn 2 (fun i => (P.ms i).cells) ∧ RowsIn w (fun _ => True) A2 P.vn 67 (fun i => (P.vs i).cells) ∧ RowsIn w (fun _ => True) A3 P.pn 66 (fun i => (P.ps i).cells) := by
  by_cases h : pageE T = 0
  · obtain ⟨P, hn, hh⟩ := page_form T
    obtain ⟨_, i1⟩ := h1 h
    obtain ⟨_, i2⟩ := k1 h
    obtain ⟨A1, A2, A3, c1, c2, c3, e1, r1, r2, r3⟩ := i1.at hh
    obtain ⟨B1, B2, B3, d1, d2, d3, e2, s1, s2, s3⟩ := i2.at hh
    exact ⟨P.at B1 B2 B3 d1 d2 d3, A1, A2, A3, c1, c2, c3, e1, e2, hn.in_ s1 s2 s3, r1, r2, r3⟩
  · refine ⟨⟨0, 0, 0, none, 0, 0, fun _ => ⟨0, 0⟩, none, 0, 0, fun _ => ⟨0, [], 0, []⟩, 0, none, 0, 0, fun _ => ⟨0, [], []⟩⟩, none, none, none, 0, 0, 0, h2 h, k2 h, ?_, ?_, ?_, ?_⟩
    · exact ⟨by decide, by decide, by decide, by decide, by decide, by decide, by decide, fun i hi => absurd hi (Nat.not_lt_zero _), fun i hi => absurd hi (Nat.not_lt_zero _), fun i hi => absurd hi (Nat.not_lt_zero _), fun i hi => absurd hi (Nat.not_lt_zero _), fun i hi => absurd hi (Nat.not_lt_zero _), fun i hi => absurd hi (Nat.not_lt_zero _)⟩
    · exact fun i hi => absurd hi (Nat.not_lt_zero _)
    · exact fun i hi => absurd hi (Nat.not_lt_zero _)
    · exact fun i hi => absurd hi (Nat.not_lt_zero _)

set_option maxRecDepth 4000 in
/-- A whole list of records more. -/
theorem GL.addAll {w : World} {v : Value} {ty sz : Nat} {L : List (List Value)} {sl by_ : Nat} {Z : Array Value} (hu : Try.prog.underlying sl = some (.slice ty)) (hi0 : (Try.prog.info? ty).map (fun i => (i.zero, i.size, i.bytes)) = some (some (.agg Z), sz, by_)) (hZ : (Value.agg Z).cells.size = sz) (hp : 0 < sz) (h : GL w v ty sz L) {Av : Nat → Prop} {A : Option Addr} {n c : Nat} {f : Nat → List Value} (hr : RowsIn w Av A n sz f) (hl : ∀ i, i < n → (f i).length = sz) (h1 : ∀ i, i < n → ∀ u ∈ f i, u.oneCell' = true) (hb : (L.length + n) * by_ ≤ 140737488355328) (hb2 : L.length + n ≤ 1000000000) (ty2 : TypeId) :
    ∃ v' w', (Builtin.append_ #[sl, sl] ty2 #[v, .slice A n c]).run Try.prog w = .ok v' w' ∧ GL w' v' ty sz (L ++ (List.range n).map f) ∧ Chg (fun g => some g = v.ownBlock) w w' ∧ (v'.ownBlock = v.ownBlock ∨ ∃ q, v'.ownBlock = some q ∧ w.heap.size ≤ q) := by
  obtain ⟨i0, hi, hz0, hz1, hz2⟩ := info_parts hi0
  have hfl : ∀ q, q ∈ (List.range n).map f → q.length = sz := fun q hq => by
    obtain ⟨i, hi, e⟩ := List.mem_map.1 hq
    rw [← e]; exact hl i (by simpa using hi)
  cases A with
  | none =>
    have hn : n = 0 := by
      rcases Nat.eq_zero_or_pos n with e | e
      · exact e
      · obtain ⟨g, o, e, _⟩ := hr 0 e
        cases e
    subst hn
    refine ⟨v, w, ?_, by simpa using h, Chg.refl _ _, .inl rfl⟩
    rcases h.row.2 with ⟨hv, _⟩ | ⟨g, cap, cur, hv, _, _, hnc, _⟩
    · rw [hv]; simp [Builtin.append_, run_underlying hu, sizeOf, typeInfo, hi, Builtin.lenOf, Builtin.firstCells]
    · rw [hv]; simp [Builtin.append_, run_underlying hu, sizeOf, typeInfo, hi, Builtin.lenOf, Builtin.firstCells, hnc, storeCells]
  | some a =>
    have hlen : ((List.range n).map f).flatten.length = n * sz := by
      have : ∀ (M : List (List Value)), (∀ q, q ∈ M → q.length = sz) → M.flatten.length = M.length * sz := by
        intro M
        induction M with
        | nil => intro _; simp
        | cons k r ih =>
          intro hk
          rw [List.flatten_cons, List.length_append, hk k (List.mem_cons_self ..), ih (fun q hq => hk q (List.mem_cons_of_mem _ hq)), List.length_cons, Nat.succ_mul]
          omega
      rw [this _ hfl]
      simp
    obtain ⟨v', w1, r1, r2, r3, _, r5⟩ := run_append_own_at (P := Try.prog) w 0 sl ty2 ty i0 _ sz by_ hu hi hz0 hz1 hz2 hZ hp v L.length L.flatten h.row a n c ((List.range n).map f).flatten hlen (fun j u hj => by
      have hjl := (List.getElem?_eq_some_iff.1 hj).1
      rw [hlen] at hjl
      have hq : j / sz < n := Nat.div_lt_of_lt_mul (by rw [Nat.mul_comm]; exact hjl)
      obtain ⟨g, o, e, _, rg⟩ := hr (j / sz) hq
      have hrem : j % sz < (f (j / sz)).length := by rw [hl _ hq]; exact Nat.mod_lt _ hp
      have h2 := flatten_at ((List.range n).map f) hfl (j / sz) (by simpa using hq) (j % sz) ((f (j / sz))[j % sz]) (by simp [hrem])
      rw [Nat.div_add_mod', hj] at h2
      injection h2 with h2
      injection e with e
      rw [e, Addr.add_mid, h2]
      have h3 := rg (j % sz) _ (List.getElem?_eq_getElem hrem)
      rw [Nat.add_assoc, Nat.div_add_mod'] at h3
      exact h3) (fun u hu => by
      obtain ⟨q, hq, hu⟩ := List.mem_flatten.1 hu
      obtain ⟨i, hi, e⟩ := List.mem_map.1 hq
      rw [← e] at hu
      exact h1 i (by simpa using hi) u hu) (by unfold maxLen; omega) hb (Nat.zero_le _)
    refine ⟨v', w1, r1, ⟨by rw [List.length_append, List.flatten_append]; simpa using r2, fun q hq => ?_⟩, Chg.of_grown r3, r5.imp id (fun e => ⟨_, e, Nat.le_refl _⟩)⟩
    rcases List.mem_append.1 hq with hq | hq
    · exact h.len q hq
    · exact hfl q hq
end Go.Proofs.Ytfkjgfelgiogeaa

/-
  Numbers of any sign are written as their 64 bits.
-/
namespace Go.Proofs.Ytfkjgfelgiogeaa
open Go.RowKit

/-- A number of any sign, as its 64 bits. -/
def u64 (n : Int) : Nat := (n % 18446744073709551616).toNat
theorem u64_lt (n : Int) : u64 n < 18446744073709551616 := by unfold u64; omega
set_option maxRecDepth 100000 in
set_option maxHeartbeats 1000000 in
theorem wNumberI_any {w : World} {p : Nat} {cs : Array Value} {t : TypeId} {v : Value} {l : List Int} (h : WS w p 0 cs t v l) (n : Int) (hl : l.length + 10 ≤ 140737488355328) :
    Calls Try.prog 141 #[.pointer (some ⟨p, 0, none⟩), .int .i64 n] w fun e w' => e = .returned (.tuple #[]) ∧ PW w w' p 0 cs t v (l ++ numB (u64 n)) := by
  obtain ⟨U, hU⟩ : ∃ U, U = u64 n := ⟨_, rfl⟩
  have H : Hid _ := wUint_any h U (by rw [hU]; exact u64_lt n) hl
  have hu : IntKind.wrap .u64 n = (U : Int) := by rw [hU, IntKind.wrap_u64]; unfold u64; omega
  rw [← hU]
  clear h hU
  go_enter Try.func141, Try.ntmps141
  go_wp2_with fail
  refine Calls.mono H.out ?_
  rintro e w1 ⟨rfl, r⟩
  have R : Hid _ := r
  clear r
  go_wp2_with fail
  go_end0
  exact ⟨rfl, R.out⟩

end Go.Proofs.Ytfkjgfelgiogeaa
