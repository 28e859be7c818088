import Derived.Test.YtbfbjjfjeiihbaaWlW
import Derived.Test.YtbfbjjfjeiihbaaSo
import Derived.Test.YtbfbjjfjeiihbaaWlE
/-
  HeapWild: what lies in memory, and each call at one blow.
-/
namespace Go.Proofs.Ytbfbjjfjeiihbaa
open Go.RowKit

def fW (q t : Nat) : Value := .func (.func 22) #[] #[.pointer (some ⟨q, 0, none⟩), .pointer (some ⟨t, 0, none⟩)]

structure XW (W w : World) (q t : Nat) (ta : Option Addr) (M mc p : Nat) (v : Value) (H : List E) (came : Nat) (lv : Value) (L : List (Int × Int)) (ov : Value) (O : List (Int × Int)) (c : Nat) : Prop where
  hq : Hq w p (fW q t) v H came
  li : OwnT w lv L
  oi : OwnT w ov O
  ic : IW W q t ta M mc c w
  ch : Chg (SW q t ta M) W w
  col : ∃ κ : Nat → Nat, κ p = 1 ∧ (∀ k, v.ownBlock = some k → κ k = 2) ∧ (∀ k, lv.ownBlock = some k → κ k = 3) ∧ (∀ k, ov.ownBlock = some k → κ k = 4) ∧ κ q = 5 ∧ κ t = 6 ∧ ∀ k, k < W.heap.size → κ k = 0

section
variable {W w w' : World} {q t : Nat} {ta : Option Addr} {M mc p : Nat} {v : Value} {H : List E} {came : Nat} {lv : Value} {L : List (Int × Int)} {ov : Value} {O : List (Int × Int)} {c : Nat}

theorem XW.keep (h : XW W w q t ta M mc p v H came lv L ov O c) (k : Chg (fun _ => False) w w') : XW W w' q t ta M mc p v H came lv L ov O c :=
  ⟨h.hq.keep k (fun h => h) (fun _ _ h => h), h.li.keep k (fun _ _ h => h), h.oi.keep k (fun _ _ h => h), h.ic.keep k (fun _ h => h.elim), h.ch.trans k (fun _ h => h.elim), h.col⟩

/-- The compare's own blocks are none of the others. -/
theorem XW.sw (h : XW W w q t ta M mc p v H came lv L ov O c) : ¬ SW q t ta M p ∧ (∀ k, v.ownBlock = some k → ¬ SW q t ta M k) ∧ (∀ k, lv.ownBlock = some k → ¬ SW q t ta M k) ∧ (∀ k, ov.ownBlock = some k → ¬ SW q t ta M k) := by
  obtain ⟨κ, c1, c2, c3, c4, c5, c6, c0⟩ := h.col
  have no : ∀ k, 0 < κ k → κ k < 5 → ¬ SW q t ta M k := fun k h1 h2 hs => by
    rcases hs with rfl | rfl | hs
    · omega
    · omega
    · have := c0 k (h.ic.lt k hs); omega
  exact ⟨no p (by omega) (by omega), fun k hk => no k (by have := c2 k hk; omega) (by have := c2 k hk; omega), fun k hk => no k (by have := c3 k hk; omega) (by have := c3 k hk; omega), fun k hk => no k (by have := c4 k hk; omega) (by have := c4 k hk; omega)⟩

/-- A call that turns what the compare turns. -/
theorem XW.call (h : XW W w q t ta M mc p v H came lv L ov O c) {c' : Nat} (k : Chg (SW q t ta M) w w') (i : IW W q t ta M mc c' w') : XW W w' q t ta M mc p v H came lv L ov O c' := by
  obtain ⟨s1, s2, s3, s4⟩ := h.sw
  exact ⟨h.hq.keep k s1 s2, h.li.keep k s3, h.oi.keep k s4, i, h.ch.trans k (fun _ h => .inl h), h.col⟩

theorem XW.zero (h : XW W w q t ta M mc p v H came lv L ov O c) : XW W (w.setCell ⟨q, 0, none⟩ (.int .i64 0)) q t ta M mc p v H came lv L ov O 0 := by
  obtain ⟨κ, c1, c2, c3, c4, c5, c6, c0⟩ := h.col
  have hqt : q ≠ t := fun e => by rw [e] at c5; omega
  have hqW : W.heap.size ≤ q := by
    rcases Nat.lt_or_ge q W.heap.size with e | e
    · have := c0 q e; omega
    · exact e
  have kk : Chg (fun k => k = q) w (w.setCell ⟨q, 0, none⟩ (.int .i64 0)) := (Chg.refl (fun k => k = q) w).setCell (p := ⟨q, 0, none⟩) (.inl rfl) _
  refine h.call (kk.mono (fun _ _ e => .inl e)) ⟨h.ic.q.set 0 _, h.ic.t.keep kk (fun e => hqt e.symm), fun k hk => ?_, h.ic.lt, Nat.le_trans h.ic.sz kk.size⟩
  rw [kk.block k (Nat.lt_of_lt_of_le (h.ic.lt k hk) h.ic.sz) (fun e => by have := h.ic.lt k hk; omega)]
  exact h.ic.tb k hk

theorem XW.heap (h : XW W w q t ta M mc p v H came lv L ov O c) {H' : List E} {came' c' : Nat} (s : Stt w w' p (fW q t) v.ownBlock H' came' c' (SW q t ta M) (IW W q t ta M mc)) : ∃ v', XW W w' q t ta M mc p v' H' came' lv L ov O c' := by
  obtain ⟨⟨v', q1, q2⟩, i, k⟩ := s
  obtain ⟨s1, s2, s3, s4⟩ := h.sw
  obtain ⟨κ, c1, c2, c3, c4, c5, c6, c0⟩ := h.col
  have hsz := h.ch.size
  have e : ∀ k, k < w.heap.size → (fun k => if w.heap.size ≤ k then 2 else κ k) k = κ k := fun k hk => if_neg (by omega)
  have no : ∀ i, κ i ≠ 1 → κ i ≠ 2 → ¬ SW q t ta M i → ¬ (i = p ∨ some i = v.ownBlock ∨ SW q t ta M i) := fun i n1 n2 n3 hh => by
    rcases hh with hh | hh | hh
    · rw [hh] at n1; exact n1 c1
    · exact n2 (c2 i hh.symm)
    · exact n3 hh
  refine ⟨v', q1, h.li.keep k (fun i hi => no i (by rw [c3 i hi]; decide) (by rw [c3 i hi]; decide) (s3 i hi)), h.oi.keep k (fun i hi => no i (by rw [c4 i hi]; decide) (by rw [c4 i hi]; decide) (s4 i hi)), i, h.ch.trans k (fun j hj => ?_), fun k => if w.heap.size ≤ k then 2 else κ k, (e _ h.hq.lt).trans c1, fun k hk => ?_, fun k hk => (e _ (h.li.lt hk)).trans (c3 k hk), fun k hk => (e _ (h.oi.lt hk)).trans (c4 k hk), (e _ h.ic.q.lt).trans c5, (e _ h.ic.t.lt).trans c6, fun k hk => (e k (by omega)).trans (c0 k hk)⟩
  · have big : ∀ i, κ i ≠ 0 → W.heap.size ≤ i := fun i hi => by
      rcases Nat.lt_or_ge i W.heap.size with e | e
      · exact absurd (c0 i e) hi
      · exact e
    rcases hj with hj | hj | hj
    · rw [hj]; exact .inr (big p (by omega))
    · exact .inr (big j (by rw [c2 j hj.symm]; decide))
    · exact .inl hj
  · rcases q2 k hk with e' | e'
    · exact (e _ (h.hq.vlt k e'.symm)).trans (c2 k e'.symm)
    · exact if_pos e'

theorem XW.appL (h : XW W w q t ta M mc p v H came lv L ov O c) {lv' : Value} {L' : List (Int × Int)} (o : OwnT w' lv' L') (k : Chg (fun k => some k = lv.ownBlock) w w') (hb : lv'.ownBlock = lv.ownBlock ∨ lv'.ownBlock = some w.heap.size) : XW W w' q t ta M mc p v H came lv' L' ov O c := by
  obtain ⟨s1, s2, s3, s4⟩ := h.sw
  obtain ⟨κ, c1, c2, c3, c4, c5, c6, c0⟩ := h.col
  have hsz := h.ch.size
  have e : ∀ k, k < w.heap.size → (fun k => if w.heap.size ≤ k then 3 else κ k) k = κ k := fun k hk => if_neg (by omega)
  have no : ∀ i, κ i ≠ 3 → ¬ some i = lv.ownBlock := fun i n1 hh => n1 (c3 i hh.symm)
  have hb' : ∀ i, lv'.ownBlock = some i → lv.ownBlock = some i ∨ i = w.heap.size := fun i hi => by
    rcases hb with e | e
    · exact .inl (by rw [← e]; exact hi)
    · rw [e] at hi; exact .inr (Option.some.inj hi).symm
  have big : ∀ i, κ i ≠ 0 → W.heap.size ≤ i := fun i hi => by
    rcases Nat.lt_or_ge i W.heap.size with e | e
    · exact absurd (c0 i e) hi
    · exact e
  refine ⟨h.hq.keep k (no p (by rw [c1]; decide)) (fun i hi => no i (by rw [c2 i hi]; decide)), o, h.oi.keep k (fun i hi => no i (by rw [c4 i hi]; decide)), h.ic.keep k (fun i hi => s3 i hi.symm), h.ch.trans k (fun i hi => .inr (big i (by rw [c3 i hi.symm]; decide))), fun k => if w.heap.size ≤ k then 3 else κ k, (e _ h.hq.lt).trans c1, fun k hk => (e _ (h.hq.vlt k hk)).trans (c2 k hk), fun k hk => ?_, fun k hk => (e _ (h.oi.lt hk)).trans (c4 k hk), (e _ h.ic.q.lt).trans c5, (e _ h.ic.t.lt).trans c6, fun k hk => (e k (by omega)).trans (c0 k hk)⟩
  rcases hb' k hk with e' | e'
  · exact (e _ (h.li.lt e')).trans (c3 k e')
  · exact if_pos (by omega)

theorem XW.appO (h : XW W w q t ta M mc p v H came lv L ov O c) {ov' : Value} {O' : List (Int × Int)} (o : OwnT w' ov' O') (k : Chg (fun k => some k = ov.ownBlock) w w') (hb : ov'.ownBlock = ov.ownBlock ∨ ov'.ownBlock = some w.heap.size) : XW W w' q t ta M mc p v H came lv L ov' O' c := by
  obtain ⟨s1, s2, s3, s4⟩ := h.sw
  obtain ⟨κ, c1, c2, c3, c4, c5, c6, c0⟩ := h.col
  have hsz := h.ch.size
  have e : ∀ k, k < w.heap.size → (fun k => if w.heap.size ≤ k then 4 else κ k) k = κ k := fun k hk => if_neg (by omega)
  have no : ∀ i, κ i ≠ 4 → ¬ some i = ov.ownBlock := fun i n1 hh => n1 (c4 i hh.symm)
  have hb' : ∀ i, ov'.ownBlock = some i → ov.ownBlock = some i ∨ i = w.heap.size := fun i hi => by
    rcases hb with e | e
    · exact .inl (by rw [← e]; exact hi)
    · rw [e] at hi; exact .inr (Option.some.inj hi).symm
  have big : ∀ i, κ i ≠ 0 → W.heap.size ≤ i := fun i hi => by
    rcases Nat.lt_or_ge i W.heap.size with e | e
    · exact absurd (c0 i e) hi
    · exact e
  refine ⟨h.hq.keep k (no p (by rw [c1]; decide)) (fun i hi => no i (by rw [c2 i hi]; decide)), h.li.keep k (fun i hi => no i (by rw [c3 i hi]; decide)), o, h.ic.keep k (fun i hi => s4 i hi.symm), h.ch.trans k (fun i hi => .inr (big i (by rw [c4 i hi.symm]; decide))), fun k => if w.heap.size ≤ k then 4 else κ k, (e _ h.hq.lt).trans c1, fun k hk => (e _ (h.hq.vlt k hk)).trans (c2 k hk), fun k hk => (e _ (h.li.lt hk)).trans (c3 k hk), fun k hk => ?_, (e _ h.ic.q.lt).trans c5, (e _ h.ic.t.lt).trans c6, fun k hk => (e k (by omega)).trans (c0 k hk)⟩
  rcases hb' k hk with e' | e'
  · exact (e _ (h.oi.lt e')).trans (c4 k e')
  · exact if_pos (by omega)

/-- What came in is as it was. -/
theorem XW.below (h : XW W w q t ta M mc p v H came lv L ov O c) : Below W.heap.size W w := by
  obtain ⟨κ, c1, c2, c3, c4, c5, c6, c0⟩ := h.col
  refine ⟨h.ch.os, h.ch.tape, h.ch.output, h.ch.size, fun k hk => ?_⟩
  by_cases hs : SW q t ta M k
  · rcases hs with rfl | rfl | hs
    · have := c0 _ hk; omega
    · have := c0 _ hk; omega
    · exact h.ic.tb k hs
  · exact h.ch.block k hk hs
end

end Go.Proofs.Ytbfbjjfjeiihbaa

/-
  HeapWild: each call at one blow.
-/
namespace Go.Proofs.Ytbfbjjfjeiihbaa
open Go.RowKit

section
variable {W w : World} {q t : Nat} {ta : Option Addr} {M mc p : Nat} {v : Value} {H : List E} {came : Nat} {lv : Value} {L : List (Int × Int)} {ov : Value} {O : List (Int × Int)} {c : Nat} {od : E → E → Int}

theorem ths_one {w : World} {b : Nat} {a : Int × Int} (h : Blk w b [.int .i64 a.1, .int .i64 a.2] 26) : Ths w (.slice (some ⟨b, 0, none⟩) 1 1) [a] := .inr (.inr ⟨b, 0, 1, rfl, fun i z hz => by
    cases i with
    | zero => have h9 : a = z := by simpa using hz
              subst h9; exact ⟨h.cell 0, h.cell 1⟩
    | succ i => simp at hz⟩)

theorem XW.addL (h : XW W w q t ta M mc p v H came lv L ov O c) (a : Int × Int) (hl : L.length ≤ 2097152) :
    ∃ lv' w5, (Builtin.append_ #[28, 28] 28 #[lv, .slice (some ⟨w.heap.size, 0, none⟩) 1 1]).run Try.prog (w.alloc (.cells #[.int .i64 a.1, .int .i64 a.2] 26)) = .ok lv' w5 ∧ XW W w5 q t ta M mc p v H came lv' (L ++ [a]) ov O c := by
  have h4 := h.keep (w' := w.alloc (.cells #[.int .i64 a.1, .int .i64 a.2] 26)) ((Chg.refl _ _).alloc _)
  obtain ⟨lv', w5, r5, o5, c5, b5⟩ := run_app2 _ 28 h4.li (ths_one (Blk.made w [.int .i64 a.1, .int .i64 a.2] 26)) (by simp; omega)
  exact ⟨lv', w5, r5, h4.appL o5 c5 b5⟩

theorem XW.addO (h : XW W w q t ta M mc p v H came lv L ov O c) (a : Int × Int) (hl : O.length ≤ 2097152) :
    ∃ ov' w5, (Builtin.append_ #[28, 28] 28 #[ov, .slice (some ⟨w.heap.size, 0, none⟩) 1 1]).run Try.prog (w.alloc (.cells #[.int .i64 a.1, .int .i64 a.2] 26)) = .ok ov' w5 ∧ XW W w5 q t ta M mc p v H came lv L ov' (O ++ [a]) c := by
  have h4 := h.keep (w' := w.alloc (.cells #[.int .i64 a.1, .int .i64 a.2] 26)) ((Chg.refl _ _).alloc _)
  obtain ⟨ov', w5, r5, o5, c5, b5⟩ := run_app2 _ 28 h4.oi (ths_one (Blk.made w [.int .i64 a.1, .int .i64 a.2] 26)) (by simp; omega)
  exact ⟨ov', w5, r5, h4.appO o5 c5 b5⟩

theorem XW.push (D : Od (fW q t) (SW q t ta M) (IW W q t ta M mc) od 1) (h : XW W w q t ta M mc p v H came lv L ov O c) (h1 : H.length + L.length ≤ 2097152) (h2 : came + L.length ≤ 2097152) (h3 : c ≤ 1125899906842624) :
    Calls Try.prog 14 #[.pointer (some ⟨p, 0, none⟩), lv] w fun e w' => e = .returned (.tuple #[]) ∧ ∃ v' c', c' ≤ c + L.length * (dg (H.length + L.length) + 1) ∧ XW W w' q t ta M mc p v' (pushF od L H came).1 (came + L.length) lv L ov O c' := by
  obtain ⟨s1, s2, s3, s4⟩ := h.sw
  have hm : L.length * 2097152 ≤ 2097152 * 2097152 := Nat.mul_le_mul_right _ (by omega)
  refine (push_any D h.hq s1 s2 c h.li.ths (fun k _ hk => ?_) h1 h2 h.ic (by omega) (Nat.le_refl _)).mono ?_
  · obtain ⟨κ, c1, c2, c3, c4, c5, c6, c0⟩ := h.col
    have e3 := c3 k hk
    refine ⟨fun e => by rw [e] at e3; omega, fun e => by have := c2 k e.symm; omega, s3 k hk, h.li.lt hk⟩
  · rintro e w' ⟨rfl, st⟩
    obtain ⟨v', hv'⟩ := h.heap st
    have h5 := pushF_cost od L H came
    have h6 := most_le (H.length + L.length) L.length H.length (Nat.le_refl _)
    exact ⟨rfl, v', _, by omega, hv'⟩

theorem XW.pop (D : Od (fW q t) (SW q t ta M) (IW W q t ta M mc) od 1) (h : XW W w q t ta M mc p v H came lv L ov O c) (h0 : 0 < H.length) (h1 : H.length ≤ 2097152) (h3 : c ≤ 1125899906842624) :
    Calls Try.prog 16 #[.pointer (some ⟨p, 0, none⟩)] w fun e w' => e = .returned (.tuple #[twoV (nth H 0).th, .bool true]) ∧ ∃ v', XW W w' q t ta M mc p v' (popF od H).1 came lv L ov O (c + (popF od H).2) := by
  obtain ⟨s1, s2, s3, s4⟩ := h.sw
  refine (pop_gen D h.hq s1 s2 c h1 h.ic (by omega) (Nat.le_refl _)).mono ?_
  rintro e w' (⟨m, hm, rfl, st⟩ | ⟨hH, _, _⟩)
  · obtain ⟨v', hv'⟩ := h.heap st
    rw [Nat.one_mul] at hv'
    exact ⟨rfl, v', hv'⟩
  · rw [hH] at h0
    simp at h0

theorem XW.popE (D : Od (fW q t) (SW q t ta M) (IW W q t ta M mc) od 1) (h : XW W w q t ta M mc p v [] came lv L ov O c) (h3 : c ≤ 1125899906842624) :
    Calls Try.prog 16 #[.pointer (some ⟨p, 0, none⟩)] w fun e w' => e = .returned (.tuple #[twoV (0, 0), .bool false]) ∧ XW W w' q t ta M mc p v [] came lv L ov O c := by
  obtain ⟨s1, s2, s3, s4⟩ := h.sw
  refine (pop_gen D h.hq s1 s2 c (by simp) h.ic (by simp; omega) (Nat.le_refl _)).mono ?_
  rintro e w' (⟨m, hm, _, _⟩ | ⟨_, rfl, k⟩)
  · simp at hm
  · exact ⟨rfl, h.keep k⟩

theorem XW.least (D : Od (fW q t) (SW q t ta M) (IW W q t ta M mc) od 1) (h : XW W w q t ta M mc p v H came lv L ov O c) (n : Int) (kk : Nat) (hk : (kk : Int) = max (min n L.length) 0) (hl : L.length ≤ 1048576) (h3 : c ≤ 1125899906842624) :
    Calls Try.prog 21 #[lv, .int .i64 n, fW q t] w fun e w' => ∃ fv c', e = .returned fv ∧ OwnT w' fv (leastL od L kk) ∧ c' ≤ c + (L.length * (2 * dg kk + 1) - min kk L.length * dg kk) + kk * (2 * dg kk) ∧ XW W w' q t ta M mc p v H came lv L ov O c' := by
  obtain ⟨s1, s2, s3, s4⟩ := h.sw
  refine (least_any2 D (Nat.le_refl _) (fun cs e => by unfold fW at e; cases e) h.li.ths (fun k _ hk => s3 k hk) n kk c hk hl h.ic h3).mono ?_
  rintro e w' ⟨fv, rfl, o, _, ⟨c', hc', i⟩, k⟩
  exact ⟨fv, c', rfl, o, hc', h.call k i⟩

theorem XW.sort (D : Od (fW q t) (SW q t ta M) (IW W q t ta M mc) od 1) (h : XW W w q t ta M mc p v H came lv L ov O c) (hl : L.length ≤ 1048576) (h3 : c ≤ 1125899906842624) :
    Calls Try.prog 20 #[lv, fW q t] w fun e w' => ∃ av, e = .returned av ∧ OwnT w' av (drF od L.length (pushF od L [] 0).1).1 ∧ XW W w' q t ta M mc p v H came lv L ov O (c + ((pushF od L [] 0).2 + (drF od L.length (pushF od L [] 0).1).2)) := by
  obtain ⟨s1, s2, s3, s4⟩ := h.sw
  refine (sort_any D (Nat.le_refl _) (.inr ⟨22, _, rfl⟩) h.li.ths (fun k _ hk => s3 k hk) c hl h.ic h3).mono ?_
  rintro e w' ⟨av, rfl, o, _, i, k⟩
  rw [Nat.one_mul] at i
  exact ⟨av, rfl, o, h.call k i⟩
end

/-- The keys with their places. -/
def ths (r : Nat → Int) (n : Nat) : List (Int × Int) := (List.range n).map fun j => (r j, (j : Int))
theorem thsw_len (r : Nat → Int) (n : Nat) : (ths r n).length = n := by simp [ths]
theorem thsw_succ (r : Nat → Int) (n : Nat) : ths r (n + 1) = ths r n ++ [(r n, (n : Int))] := by simp [ths, List.range_succ]
theorem thsw_numd (r : Nat → Int) (n : Nat) : Numd (ths r n) := fun i x hx => by
  unfold ths at hx
  rw [List.getElem?_map] at hx
  rcases hi : (List.range n)[i]? with _ | j
  · rw [hi] at hx; cases hx
  · rw [hi] at hx
    have e : (r j, (j : Int)) = x := by simpa using hx
    rw [List.getElem?_eq_some_iff] at hi
    obtain ⟨h1, h2⟩ := hi
    rw [List.getElem_range] at h2
    rw [← e, h2]

theorem XW.start {W w1 : World} {ta : Option Addr} {M mc : Nat} {s : Nat → Int} (hs : Ins W ta M s) (hq : Hq w1 (W.heap.size + 2) (fW (W.heap.size + 1) W.heap.size) (.slice none 0 0) [] 0)
    (k : Chg (fun _ => False) ((W.alloc (.cells #[.slice ta M mc] 39)).alloc (.cells #[.int .i64 0] 3)) w1) :
    XW W w1 (W.heap.size + 1) W.heap.size ta M mc (W.heap.size + 2) (.slice none 0 0) [] 0 (.slice none 0 0) [] (.slice none 0 0) [] 0 := by
  have bt : Blk ((W.alloc (.cells #[.slice ta M mc] 39)).alloc (.cells #[.int .i64 0] 3)) W.heap.size [.slice ta M mc] 39 := (Blk.made W [.slice ta M mc] 39).alloc _
  have bq : Blk ((W.alloc (.cells #[.slice ta M mc] 39)).alloc (.cells #[.int .i64 0] 3)) (W.heap.size + 1) [.int .i64 0] 3 := by
    have := Blk.made (W.alloc (.cells #[.slice ta M mc] 39)) [.int .i64 0] 3
    rwa [World.size_alloc] at this
  have kW : Chg (fun _ => False) W w1 := (((Chg.refl (fun _ => False) W).alloc _).alloc _).trans k (fun _ h => h.elim)
  have tlt : ∀ j, Tb ta M j → j < W.heap.size := fun j ⟨h0, o, e⟩ => by
    obtain ⟨g, o', e1, e2⟩ := hs.row 0 h0
    rw [e] at e1
    injection e1 with e1
    injection e1 with e1 _ _
    rw [e1]
    exact World.block_lt_of_cell? _ _ e2
  refine ⟨hq, OwnT.nil _, OwnT.nil _, ⟨bq.keep k (fun h => h), bt.keep k (fun h => h), fun j hj => kW.block j (tlt j hj) (fun h => h), tlt, kW.size⟩, kW.mono (fun _ _ h => h.elim), fun j => if j = W.heap.size + 2 then 1 else if j = W.heap.size + 1 then 5 else if j = W.heap.size then 6 else 0, by simp, fun k hk => by simp [Value.ownBlock] at hk, fun k hk => by simp [Value.ownBlock] at hk, fun k hk => by simp [Value.ownBlock] at hk, by simp, by simp, fun k hk => ?_⟩
  show (if k = W.heap.size + 2 then 1 else if k = W.heap.size + 1 then 5 else if k = W.heap.size then 6 else 0) = 0
  rw [if_neg (by omega), if_neg (by omega), if_neg (by omega)]

end Go.Proofs.Ytbfbjjfjeiihbaa
