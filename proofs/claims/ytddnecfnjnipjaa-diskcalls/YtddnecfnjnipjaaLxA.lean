import Derived.Test.YtddnecfnjnipjaaRfL
import Derived.Deep.DeepAppendRoom
/-
  The ledger: lists of lists; mark.
-/
namespace Go.Proofs.Ytddnecfnjnipjaa
open Go.RowKit

theorem info48 : (Try.prog.info? 48).map (fun i => (i.zero, i.size, i.bytes)) = some (some (.slice none 0 0), 1, 24) := by kernel_rfl
theorem info99 : (Try.prog.info? 99).map (fun i => (i.zero, i.size, i.bytes)) = some (some (.slice none 0 0), 1, 24) := by kernel_rfl

/-- Slices that lie alone in a row, whatever they are (t: 48 or 99). -/
def Sl (w : World) (t : TypeId) (v : Value) (n : Nat) : Prop := ∃ xs, w.ownsRow 0 t 1 v n xs
theorem Sl.nil (w : World) (t : TypeId) : Sl w t (.slice none 0 0) 0 := ⟨[], World.ownsRow_nil w 0 t 1⟩
theorem Sl.chg {w w' : World} {t : TypeId} {v : Value} {n : Nat} (h : Sl w t v n) {S : Nat → Prop} (c : Chg S w w') (hn : ∀ k, v.ownBlock = some k → ¬ S k) : Sl w' t v n := by
  obtain ⟨xs, h⟩ := h
  refine ⟨xs, h.1, ?_⟩
  rcases h.2 with e | ⟨b, cap, cur, rfl, hb, hgg, rest⟩
  · exact .inl e
  · exact .inr ⟨b, cap, cur, rfl, hb, c.heap_some hgg (hn b rfl), rest⟩
theorem Sl.block {w : World} {t : TypeId} {v : Value} {n : Nat} (h : Sl w t v n) {g : Nat} (hg : v.ownBlock = some g) : ∃ cur, w.heap[g]? = some (.cells cur t (0, 0)) := by
  obtain ⟨xs, h⟩ := h
  rcases h.2 with ⟨e, _⟩ | ⟨b, cap, cur, e, _, hgg, _⟩
  · rw [e] at hg; simp [Value.ownBlock] at hg
  · rw [e] at hg
    simp [Value.ownBlock] at hg
    rw [← hg]
    exact ⟨cur, hgg⟩
theorem Sl.lt {w : World} {t : TypeId} {v : Value} {n : Nat} (h : Sl w t v n) {g : Nat} (hg : v.ownBlock = some g) : g < w.heap.size := by
  obtain ⟨cur, e⟩ := h.block hg
  exact (Array.getElem?_eq_some_iff.1 e).1
theorem Sl.form {w : World} {t : TypeId} {v : Value} {n : Nat} (h : Sl w t v n) : ∃ a c, v = .slice a n c := by
  obtain ⟨xs, h⟩ := h
  rcases owns_form h with ⟨e, h0⟩ | ⟨g, c, e⟩
  · exact ⟨_, _, by rw [e, h0]⟩
  · exact ⟨_, _, e⟩

theorem run_appS (w : World) (ty : TypeId) {v : Value} {n : Nat} (hv : Sl w 48 v n) (a : Addr) (ys : List Value) (cp : Nat) (ha : ∀ j u, ys[j]? = some u → w.cell? (a.add j) = some u) (h1 : ∀ u ∈ ys, u.oneCell' = true) (hb : n + ys.length ≤ 4398046511104) :
    ∃ v' w', (Builtin.append_ #[38, 38] ty #[v, .slice (some a) ys.length cp]).run Try.prog w = .ok v' w' ∧ Sl w' 48 v' (n + ys.length) ∧ Chg (fun k => some k = v.ownBlock) w w' ∧ (v'.ownBlock = v.ownBlock ∨ v'.ownBlock = some w.heap.size) := by
  obtain ⟨i0, hi, hz0, hz1, hz2⟩ := info_parts info48
  obtain ⟨xs, hv⟩ := hv
  obtain ⟨v', w1, r1, r2, r3, r4, r5⟩ := run_append_own_at (P := Try.prog) w 0 38 ty 48 i0 _ 1 24 Try.underlying38 hi hz0 hz1 hz2 rfl (by decide) v n xs hv a ys.length cp ys (by rw [Nat.mul_one]) ha h1 (by unfold maxLen; omega) (by omega) (Nat.zero_le _)
  exact ⟨v', w1, r1, ⟨_, r2⟩, Chg.of_grown r3, r5⟩
theorem run_appI (w : World) (ty : TypeId) {v : Value} {n : Nat} (hv : Sl w 99 v n) (a : Addr) (ys : List Value) (cp : Nat) (ha : ∀ j u, ys[j]? = some u → w.cell? (a.add j) = some u) (h1 : ∀ u ∈ ys, u.oneCell' = true) (hb : n + ys.length ≤ 4398046511104) :
    ∃ v' w', (Builtin.append_ #[39, 39] ty #[v, .slice (some a) ys.length cp]).run Try.prog w = .ok v' w' ∧ Sl w' 99 v' (n + ys.length) ∧ Chg (fun k => some k = v.ownBlock) w w' ∧ (v'.ownBlock = v.ownBlock ∨ v'.ownBlock = some w.heap.size) := by
  obtain ⟨i0, hi, hz0, hz1, hz2⟩ := info_parts info99
  obtain ⟨xs, hv⟩ := hv
  obtain ⟨v', w1, r1, r2, r3, r4, r5⟩ := run_append_own_at (P := Try.prog) w 0 39 ty 99 i0 _ 1 24 Try.underlying39 hi hz0 hz1 hz2 rfl (by decide) v n xs hv a ys.length cp ys (by rw [Nat.mul_one]) ha h1 (by unfold maxLen; omega) (by omega) (Nat.zero_le _)
  exact ⟨v', w1, r1, ⟨_, r2⟩, Chg.of_grown r3, r5⟩

set_option maxRecDepth 100000 in
set_option maxHeartbeats 1000000 in
theorem mark_any {w : World} (i k : Nat) (_hi : i ≤ 4398046511104) (_hk : k ≤ 4398046511104) :
    Calls Try.prog 57 #[.int .i64 i, .int .i64 k] w fun e w' => (∃ x, e = .returned (.int .u8 x)) ∧ w = w' := by
  by_cases h : (k : Int) % 2 = 0
  · go_enter Try.func57, Try.ntmps57
    go_wp2_with fail
    go_ret
    exact ⟨⟨_, rfl⟩, rfl⟩
  · go_enter Try.func57, Try.ntmps57
    go_wp2_with fail
    go_ret
    exact ⟨⟨_, rfl⟩, rfl⟩
end Go.Proofs.Ytddnecfnjnipjaa

/-
  The ledger, exactly: marks; lists with their elements; what the ledger's lists hold.
-/
namespace Go.Proofs.Ytddnecfnjnipjaa
open Go.RowKit

/-- The k-th byte of list i. -/
def mkB (i k : Nat) : Int := if k % 2 = 0 then (i : Int) % 256 else ((i : Int) / 256 % 256 + 100) % 256
def marks (i n : Nat) : List Int := (List.range n).map (mkB i)
theorem marks_len (i n : Nat) : (marks i n).length = n := by simp [marks]
theorem marks_succ (i n : Nat) : marks i (n + 1) = marks i n ++ [mkB i n] := by simp [marks, List.range_succ]
theorem marks_zero (i : Nat) : marks i 0 = [] := rfl
theorem marks_get (i n j : Nat) (h : j < n) : (marks i n)[j]? = some (mkB i j) := by simp [marks, h]

set_option maxRecDepth 100000 in
set_option maxHeartbeats 1000000 in
theorem mark_ex {w : World} (i k : Nat) (_hi : i ≤ 4398046511104) (_hk : k ≤ 4398046511104) :
    Calls Try.prog 57 #[.int .i64 i, .int .i64 k] w fun e w' => e = .returned (.int .u8 (mkB i k)) ∧ w = w' := by
  unfold mkB
  by_cases h : (k : Int) % 2 = 0
  · rw [if_pos (by omega)]
    go_enter Try.func57, Try.ntmps57
    go_wp2_with fail
    go_ret
    exact ⟨rfl, rfl⟩
  · rw [if_neg (by omega)]
    go_enter Try.func57, Try.ntmps57
    go_wp2_with fail
    go_ret
    exact ⟨rfl, rfl⟩

/-- A list alone in its row, with its elements. -/
def SX (w : World) (t : TypeId) (v : Value) (n : Nat) (X : List Value) : Prop := n = X.length ∧ w.ownsRow 0 t 1 v n X
section
variable {w w' : World} {t : TypeId} {v : Value} {n : Nat} {X : List Value}
theorem SX.nil (w : World) (t : TypeId) : SX w t (.slice none 0 0) 0 [] := ⟨rfl, World.ownsRow_nil w 0 t 1⟩
theorem SX.sl (h : SX w t v n X) : Sl w t v n := ⟨X, h.2⟩
theorem SX.chg (h : SX w t v n X) {S : Nat → Prop} (c : Chg S w w') (hn : ∀ k, v.ownBlock = some k → ¬ S k) : SX w' t v n X := by
  refine ⟨h.1, h.2.1, ?_⟩
  rcases h.2.2 with e | ⟨b, cap, cur, rfl, hb, hgg, rest⟩
  · exact .inl e
  · exact .inr ⟨b, cap, cur, rfl, hb, c.heap_some hgg (hn b rfl), rest⟩
theorem SX.block (h : SX w t v n X) {g : Nat} (hg : v.ownBlock = some g) : ∃ cur, w.heap[g]? = some (.cells cur t (0, 0)) := h.sl.block hg
theorem SX.lt (h : SX w t v n X) {g : Nat} (hg : v.ownBlock = some g) : g < w.heap.size := h.sl.lt hg
theorem SX.form (h : SX w t v n X) : ∃ a c, v = .slice a n c := h.sl.form
theorem SX.at (h : SX w t v n X) {i : Nat} (hi : i < n) : ∃ g c u, v = .slice (some ⟨g, 0, none⟩) n c ∧ X[i]? = some u ∧ w.cell? ⟨g, i, none⟩ = some u := by
  have hl : i < X.length := by have := h.1; omega
  have hu : X[i]? = some (X[i]'hl) := List.getElem?_eq_getElem hl
  rcases owns_form h.2 with ⟨e, h0⟩ | ⟨g, c, e⟩
  · omega
  · refine ⟨g, c, _, e, hu, ?_⟩
    have h2 := h.2
    rw [e] at h2
    have h3 := World.ownsRow.cells h2 (g := g) rfl i _ hu
    rw [addr_add, Nat.zero_add] at h3
    exact h3
end

theorem run_appX (w : World) (ty : TypeId) {v : Value} {n : Nat} {X : List Value} (hv : SX w 48 v n X) (a : Addr) (ys : List Value) (cp : Nat) (ha : ∀ j u, ys[j]? = some u → w.cell? (a.add j) = some u) (h1 : ∀ u ∈ ys, u.oneCell' = true) (hb : n + ys.length ≤ 4398046511104) :
    ∃ v' w', (Builtin.append_ #[38, 38] ty #[v, .slice (some a) ys.length cp]).run Try.prog w = .ok v' w' ∧ SX w' 48 v' (n + ys.length) (X ++ ys) ∧ Chg (fun k => some k = v.ownBlock) w w' ∧ (v'.ownBlock = v.ownBlock ∨ v'.ownBlock = some w.heap.size) := by
  obtain ⟨i0, hi, hz0, hz1, hz2⟩ := info_parts info48
  obtain ⟨hn, hv⟩ := hv
  obtain ⟨v', w1, r1, r2, r3, r4, r5⟩ := run_append_own_at (P := Try.prog) w 0 38 ty 48 i0 _ 1 24 Try.underlying38 hi hz0 hz1 hz2 rfl (by decide) v n X hv a ys.length cp ys (by rw [Nat.mul_one]) ha h1 (by unfold maxLen; omega) (by omega) (Nat.zero_le _)
  exact ⟨v', w1, r1, ⟨by rw [List.length_append, hn], r2⟩, Chg.of_grown r3, r5⟩
theorem run_appY (w : World) (ty : TypeId) {v : Value} {n : Nat} {X : List Value} (hv : SX w 99 v n X) (a : Addr) (ys : List Value) (cp : Nat) (ha : ∀ j u, ys[j]? = some u → w.cell? (a.add j) = some u) (h1 : ∀ u ∈ ys, u.oneCell' = true) (hb : n + ys.length ≤ 4398046511104) :
    ∃ v' w', (Builtin.append_ #[39, 39] ty #[v, .slice (some a) ys.length cp]).run Try.prog w = .ok v' w' ∧ SX w' 99 v' (n + ys.length) (X ++ ys) ∧ Chg (fun k => some k = v.ownBlock) w w' ∧ (v'.ownBlock = v.ownBlock ∨ v'.ownBlock = some w.heap.size) := by
  obtain ⟨i0, hi, hz0, hz1, hz2⟩ := info_parts info99
  obtain ⟨hn, hv⟩ := hv
  obtain ⟨v', w1, r1, r2, r3, r4, r5⟩ := run_append_own_at (P := Try.prog) w 0 39 ty 99 i0 _ 1 24 Try.underlying39 hi hz0 hz1 hz2 rfl (by decide) v n X hv a ys.length cp ys (by rw [Nat.mul_one]) ha h1 (by unfold maxLen; omega) (by omega) (Nat.zero_le _)
  exact ⟨v', w1, r1, ⟨by rw [List.length_append, hn], r2⟩, Chg.of_grown r3, r5⟩

/-- A slice of numbers, all of them x. -/
def Sn (w : World) (v : Value) (n : Nat) (x : Int) : Prop := (v = .slice none 0 0 ∧ n = 0) ∨ ∃ g c, v = .slice (some ⟨g, 0, none⟩) n c ∧ ∀ j, j < n → w.cell? ⟨g, j, none⟩ = some (.int .i64 x)
theorem Sn.kept {w w' : World} {v : Value} {n : Nat} {x : Int} (h : Sn w v n x) {S : Nat → Prop} (c : Chg S w w') (hn : ∀ k, v.ownBlock = some k → ¬ S k) : Sn w' v n x := by
  rcases h with e | ⟨g, cp, rfl, hc⟩
  · exact .inl e
  · exact .inr ⟨g, cp, rfl, fun j hj => c.cell_some (hc j hj) (hn g rfl)⟩
/-- A list's block, among Bl, is of cells of type ty. -/
def Bk (w : World) (Bl : Nat → Prop) (ty : TypeId) (v : Value) : Prop := ∀ g, v.ownBlock = some g → Bl g ∧ ∃ cur, w.heap[g]? = some (.cells cur ty (0, 0))

/-- What the lists of the ledger hold. -/
structure Ld (w : World) (Bl : Nat → Prop) (X Y C D : List Value) : Prop where
  x : ∀ (i : Nat) (v : Value), X[i]? = some v → Bk w Bl 5 v ∧ ∃ n, n ≤ 16777307 ∧ Src w v (marks (i / 2) n)
  y : ∀ (i : Nat) (v : Value), Y[i]? = some v → Bk w Bl 3 v ∧ ∃ n, n ≤ 4398046511105 ∧ Sn w v n (-1 - ((i / 2 : Nat) : Int))
  len : C.length = D.length
  cd : ∀ (i : Nat) (v u : Value), C[i]? = some v → D[i]? = some u → Bk w Bl 5 v ∧ Bk w Bl 5 u ∧ ∃ l, l.length ≤ 16777217 ∧ Own w v l ∧ Own w u l
  cc : ∀ (i j : Nat) (v u : Value) (g : Nat), C[i]? = some v → C[j]? = some u → v.ownBlock = some g → u.ownBlock = some g → i = j
  dd : ∀ (i j : Nat) (v u : Value) (g : Nat), D[i]? = some v → D[j]? = some u → v.ownBlock = some g → u.ownBlock = some g → i = j
  xy : ∀ (v u : Value) (g : Nat), v ∈ C → u ∈ D → v.ownBlock = some g → u.ownBlock ≠ some g
  nx : ∀ (v u : Value) (g : Nat), v ∈ X → u ∈ C ++ D → v.ownBlock = some g → u.ownBlock ≠ some g

section
variable {w w' : World} {Bl Bl' : Nat → Prop} {X Y C D : List Value}
theorem Ld.nil (w : World) (Bl : Nat → Prop) : Ld w Bl [] [] [] [] :=
  ⟨fun i v h => by simp at h, fun i v h => by simp at h, rfl, fun i v u h => by simp at h, fun i j v u g h => by simp at h, fun i j v u g h => by simp at h, fun v u g h => by simp at h, fun v u g h => by simp at h⟩
theorem Bk.kept {ty : TypeId} {v : Value} (h : Bk w Bl ty v) {T : Nat → Prop} (ch : Chg T w w') (hT : ∀ g cur, Bl g → w.heap[g]? = some (.cells cur ty (0, 0)) → ¬ T g) (hB : ∀ g, Bl g → Bl' g) : Bk w' Bl' ty v := fun g hg => by
  obtain ⟨h1, cur, h2⟩ := h g hg
  exact ⟨hB g h1, cur, ch.heap_some h2 (hT g cur h1 h2)⟩
theorem Ld.frame (h : Ld w Bl X Y C D) {T : Nat → Prop} (ch : Chg T w w') (h5 : ∀ g cur, Bl g → w.heap[g]? = some (.cells cur 5 (0, 0)) → ¬ T g) (h3 : ∀ g cur, Bl g → w.heap[g]? = some (.cells cur 3 (0, 0)) → ¬ T g) (hB : ∀ g, Bl g → Bl' g) : Ld w' Bl' X Y C D := by
  have st5 : ∀ {v : Value}, Bk w Bl 5 v → ∀ g, v.ownBlock = some g → ¬ T g := fun hb g hg => by
    obtain ⟨h1, cur, h2⟩ := hb g hg
    exact h5 g cur h1 h2
  have st3 : ∀ {v : Value}, Bk w Bl 3 v → ∀ g, v.ownBlock = some g → ¬ T g := fun hb g hg => by
    obtain ⟨h1, cur, h2⟩ := hb g hg
    exact h3 g cur h1 h2
  refine ⟨fun i v hi => ?_, fun i v hi => ?_, h.len, fun i v u hi hj => ?_, h.cc, h.dd, h.xy, h.nx⟩
  · obtain ⟨h1, n, hn, h2⟩ := h.x i v hi
    exact ⟨h1.kept ch h5 hB, n, hn, h2.kept ch (st5 h1)⟩
  · obtain ⟨h1, n, hn, h2⟩ := h.y i v hi
    exact ⟨h1.kept ch h3 hB, n, hn, h2.kept ch (st3 h1)⟩
  · obtain ⟨h1, h1', l, hl, h2, h3⟩ := h.cd i v u hi hj
    exact ⟨h1.kept ch h5 hB, h1'.kept ch h5 hB, l, hl, h2.kept ch (st5 h1), h3.kept ch (st5 h1')⟩
theorem Ld.btC (h : Ld w Bl X Y C D) {u : Value} (hu : u ∈ C ++ D) : Bk w Bl 5 u := by
  rcases List.mem_append.1 hu with hu | hu
  · obtain ⟨i, hi⟩ := List.getElem?_of_mem hu
    have hl : i < D.length := by have := (List.getElem?_eq_some_iff.1 hi).1; have := h.len; omega
    exact (h.cd i u _ hi (List.getElem?_eq_getElem hl)).1
  · obtain ⟨i, hi⟩ := List.getElem?_of_mem hu
    have hl : i < C.length := by have := (List.getElem?_eq_some_iff.1 hi).1; have := h.len; omega
    exact (h.cd i _ u (List.getElem?_eq_getElem hl) hi).2.1
/-- Two lists more. -/
theorem Ld.addX (h : Ld w Bl X Y C D) (hx : X.length % 2 = 0) {v u : Value} {n m : Nat} (hn : n ≤ 16777307) (hm : m ≤ 16777307) (bv : Bk w Bl 5 v) (bu : Bk w Bl 5 u) (hv : Src w v (marks (X.length / 2) n)) (hu : Src w u (marks (X.length / 2) m))
    (nv : ∀ g y, y ∈ C ++ D → v.ownBlock = some g → y.ownBlock ≠ some g) (nu : ∀ g y, y ∈ C ++ D → u.ownBlock = some g → y.ownBlock ≠ some g) : Ld w Bl (X ++ [v, u]) Y C D := by
  refine ⟨fun i y hi => ?_, h.y, h.len, h.cd, h.cc, h.dd, h.xy, fun y z g hy hz => ?_⟩
  · rcases Nat.lt_or_ge i X.length with e | e
    · rw [List.getElem?_append_left e] at hi
      exact h.x i y hi
    · rw [List.getElem?_append_right e] at hi
      obtain ⟨q, hq⟩ : ∃ q, i - X.length = q := ⟨_, rfl⟩
      rw [hq] at hi
      match q, hi, hq with
      | 0, hi, hq =>
        have e2 : i / 2 = X.length / 2 := by omega
        have e3 : v = y := by simpa using hi
        rw [e2, ← e3]
        exact ⟨bv, n, hn, hv⟩
      | 1, hi, hq =>
        have e2 : i / 2 = X.length / 2 := by omega
        have e3 : u = y := by simpa using hi
        rw [e2, ← e3]
        exact ⟨bu, m, hm, hu⟩
      | q + 2, hi, hq => simp at hi
  · rcases List.mem_append.1 hy with e | e
    · exact h.nx y z g e hz
    · simp only [List.mem_cons, List.not_mem_nil, or_false] at e
      rcases e with rfl | rfl
      · exact nv g z hz
      · exact nu g z hz
theorem Ld.addY (h : Ld w Bl X Y C D) (hy : Y.length % 2 = 0) {v u : Value} {n m : Nat} (hn : n ≤ 4398046511105) (hm : m ≤ 4398046511105) (bv : Bk w Bl 3 v) (bu : Bk w Bl 3 u) (hv : Sn w v n (-1 - ((Y.length / 2 : Nat) : Int))) (hu : Sn w u m (-1 - ((Y.length / 2 : Nat) : Int))) : Ld w Bl X (Y ++ [v, u]) C D := by
  refine ⟨h.x, fun i y hi => ?_, h.len, h.cd, h.cc, h.dd, h.xy, h.nx⟩
  rcases Nat.lt_or_ge i Y.length with e | e
  · rw [List.getElem?_append_left e] at hi
    exact h.y i y hi
  · rw [List.getElem?_append_right e] at hi
    obtain ⟨q, hq⟩ : ∃ q, i - Y.length = q := ⟨_, rfl⟩
    rw [hq] at hi
    match q, hi, hq with
    | 0, hi, hq =>
      have e2 : i / 2 = Y.length / 2 := by omega
      have e3 : v = y := by simpa using hi
      rw [e2, ← e3]
      exact ⟨bv, n, hn, hv⟩
    | 1, hi, hq =>
      have e2 : i / 2 = Y.length / 2 := by omega
      have e3 : u = y := by simpa using hi
      rw [e2, ← e3]
      exact ⟨bu, m, hm, hu⟩
    | q + 2, hi, hq => simp at hi
end

theorem get_one {L : List Value} {v y : Value} {i : Nat} (h : (L ++ [v])[i]? = some y) : L[i]? = some y ∨ (i = L.length ∧ v = y) := by
  rcases Nat.lt_or_ge i L.length with e | e
  · rw [List.getElem?_append_left e] at h
    exact .inl h
  · rw [List.getElem?_append_right e] at h
    obtain ⟨q, hq⟩ : ∃ q, i - L.length = q := ⟨_, rfl⟩
    rw [hq] at h
    match q, h, hq with
    | 0, h, hq => exact .inr ⟨by omega, by simpa using h⟩
    | q + 1, h, hq => simp at h
theorem one_dis {L : List Value} {v : Value} (h : ∀ (i j : Nat) (y z : Value) (g : Nat), L[i]? = some y → L[j]? = some z → y.ownBlock = some g → z.ownBlock = some g → i = j) (hv : ∀ g y, y ∈ L → v.ownBlock = some g → y.ownBlock ≠ some g) : ∀ (i j : Nat) (y z : Value) (g : Nat), (L ++ [v])[i]? = some y → (L ++ [v])[j]? = some z → y.ownBlock = some g → z.ownBlock = some g → i = j := fun i j y z g hi hj ey ez => by
  rcases get_one hi with hi | ⟨hi, rfl⟩ <;> rcases get_one hj with hj | ⟨hj, rfl⟩
  · exact h i j y z g hi hj ey ez
  · exact absurd ey (hv g y (List.mem_of_getElem? hi) ez)
  · exact absurd ez (hv g z (List.mem_of_getElem? hj) ey)
  · omega
/-- A pair more. -/
theorem Ld.addC {w : World} {Bl : Nat → Prop} {X Y C D : List Value} (h : Ld w Bl X Y C D) {v u : Value} {l : List Int} (hl : l.length ≤ 16777217) (bv : Bk w Bl 5 v) (bu : Bk w Bl 5 u) (ov : Own w v l) (ou : Own w u l) (vu : ∀ g, v.ownBlock = some g → u.ownBlock ≠ some g)
    (nv : ∀ g y, y ∈ X ∨ y ∈ C ++ D → v.ownBlock = some g → y.ownBlock ≠ some g) (nu : ∀ g y, y ∈ X ∨ y ∈ C ++ D → u.ownBlock = some g → y.ownBlock ≠ some g) : Ld w Bl X Y (C ++ [v]) (D ++ [u]) := by
  have iC : ∀ y, y ∈ C → y ∈ C ++ D := fun y hy => List.mem_append.2 (.inl hy)
  have iD : ∀ y, y ∈ D → y ∈ C ++ D := fun y hy => List.mem_append.2 (.inr hy)
  refine ⟨h.x, h.y, by simp [h.len], fun i y z hi hj => ?_, one_dis h.cc (fun g y hy => nv g y (.inr (iC y hy))), one_dis h.dd (fun g y hy => nu g y (.inr (iD y hy))), fun y z g hy hz ey ez => ?_, fun y z g hy hz ey ez => ?_⟩
  · rcases get_one hi with hi | ⟨hi, rfl⟩ <;> rcases get_one hj with hj | ⟨hj, rfl⟩
    · exact h.cd i y z hi hj
    · have := (List.getElem?_eq_some_iff.1 hi).1; have := h.len; omega
    · have := (List.getElem?_eq_some_iff.1 hj).1; have := h.len; omega
    · exact ⟨bv, bu, l, hl, ov, ou⟩
  · rcases List.mem_append.1 hy with hy | hy <;> rcases List.mem_append.1 hz with hz | hz
    · exact h.xy y z g hy hz ey ez
    · have hz : z = u := by simpa using hz
      subst hz
      exact nu g y (.inr (iC y hy)) ez ey
    · have hy : y = v := by simpa using hy
      subst hy
      exact nv g z (.inr (iD z hz)) ey ez
    · have hz : z = u := by simpa using hz
      have hy : y = v := by simpa using hy
      subst hz hy
      exact vu g ey ez
  · rcases List.mem_append.1 hz with hz | hz <;> rcases List.mem_append.1 hz with hz | hz
    · exact h.nx y z g hy (iC z hz) ey ez
    · have hz : z = v := by simpa using hz
      subst hz
      exact nv g y (.inl hy) ez ey
    · exact h.nx y z g hy (iD z hz) ey ez
    · have hz : z = u := by simpa using hz
      subst hz
      exact nu g y (.inl hy) ez ey
end Go.Proofs.Ytddnecfnjnipjaa
