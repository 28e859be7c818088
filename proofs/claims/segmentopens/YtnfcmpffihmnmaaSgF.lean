/-
  order2Ordered, medianOrdered, medianAdjacentOrdered, choosePivotOrdered.
-/
import Derived.Test.YtnfcmpffihmnmaaSgA
import Derived.Deep.Cut
namespace Go.Proofs.Ytnfcmpffihmnmaa
open Go.RowKit

theorem results_tt {fn : Func} {p q : Tmp} (h : fn.results = #[.tmp p, .tmp q]) (tmps : Array Value) (w : World) : (results fn tmps).run Try.prog w = .ok (.tuple #[tmps.getD p undef, tmps.getD q undef]) w := by
  simp [results, h, go_sem]

/-- The row, and a count beside it. -/
structure MS (w : World) (g s : Nat) (d : Array Int) (k : Nat) : Prop where
  r : RU w g d
  b : Blk w s [.int .i64 k] 3
  ne : s ≠ g

theorem MS.drewN {w : World} {g s : Nat} {d : Array Int} {k : Nat} (h : MS w g s d k) (n : Nat) : MS (w.drewN n) g s d k := ⟨h.r.drewN n, ⟨h.b.eq⟩, h.ne⟩

set_option maxRecDepth 100000 in
set_option maxHeartbeats 4000000 in
theorem order2_any {w : World} {g s n cap k : Nat} {d : Array Int} (h : MS w g s d k) (hn : d.size = n) (_hn2 : n ≤ 1099511627776) (a b : Nat) (ha : a < n) (hb : b < n) (hk : k ≤ 1000) :
    Calls Try.prog 51 #[.slice (some ⟨g, 0, none⟩) n cap, .int .i64 a, .int .i64 b, .pointer (some ⟨s, 0, none⟩)] w fun e w' => e = .returned (.tuple #[.int .i64 (Sort.order2 ltI d a b k).1, .int .i64 (Sort.order2 ltI d a b k).2.1]) ∧ MS w' g s d (Sort.order2 ltI d a b k).2.2 ∧ Chg (fun i => i = s) w w' := by
  have k0 := h.r.cell (i := a) (by omega)
  have k1 := h.r.cell (i := b) (by omega)
  obtain ⟨x0, hx0⟩ : ∃ x, d[a]! = x := ⟨_, rfl⟩
  obtain ⟨x1, hx1⟩ : ∃ x, d[b]! = x := ⟨_, rfl⟩
  rw [hx0] at k0
  rw [hx1] at k1
  have b0 : w.cell? ⟨s, 0, none⟩ = some (.int .i64 k) := h.b.cell 0
  have f0 := h.b.fr 0
  have p0 : (a : Int) < (n : Int) := by omega
  have p1 : (b : Int) < (n : Int) := by omega
  have LT : Hid _ := less_any x1 x0
  have H : Hid _ := h
  by_cases hl : x1 < x0
  · have dl : decide (x1 < x0) = true := decide_eq_true hl
    rw [dl] at LT
    have e : Sort.order2 ltI d a b k = (b, a, k + 1) := by
      unfold Sort.order2
      rw [hx0, hx1, if_pos (show ltI x1 x0 = true from decide_eq_true hl)]
    rw [e]
    have R : Hid (∀ nq, MS ((w.drewN nq).setCell ⟨s, 0, none⟩ (.int .i64 ((k : Int) + 1))) g s d (k + 1) ∧ Chg (fun i => i = s) w ((w.drewN nq).setCell ⟨s, 0, none⟩ (.int .i64 ((k : Int) + 1)))) := fun nq => by
      have kk : Chg (fun i => i = s) (w.drewN nq) ((w.drewN nq).setCell ⟨s, 0, none⟩ (.int .i64 ((k : Int) + 1))) := (Chg.refl (fun i => i = s) _).setCell (p := ⟨s, 0, none⟩) (.inl rfl) _
      have h2 := h.drewN nq
      refine ⟨⟨h2.r.keep kk (fun e => h2.ne e.symm), ?_, h2.ne⟩, ⟨kk.os, kk.tape, kk.output, kk.size, kk.block⟩⟩
      rw [show (((k + 1 : Nat)) : Int) = (k : Int) + 1 by omega]
      exact h2.b.set 0 _
    clear h hx0 hx1 dl e H
    go_enter Try.func51, Try.ntmps51
    go_wp2_with fail
    go_quiet ((go_at_call 40; refine Calls.quiet_of_same (LT.out _)))
    go_wp2_with fail
    refine bodyPost_ret (results_tt rfl _ _) rfl ?_
    exact ⟨rfl, R.out _⟩
  · have dl : decide (x1 < x0) = false := decide_eq_false hl
    rw [dl] at LT
    have e : Sort.order2 ltI d a b k = (a, b, k) := by
      unfold Sort.order2
      rw [hx0, hx1, if_neg (by rw [show ltI x1 x0 = false from decide_eq_false hl]; decide)]
    rw [e]
    have R : Hid (∀ nq, MS (w.drewN nq) g s d k ∧ Chg (fun i => i = s) w (w.drewN nq)) := fun nq => ⟨h.drewN nq, ⟨rfl, rfl, rfl, Nat.le_refl _, fun _ _ _ => rfl⟩⟩
    clear h hx0 hx1 dl e H
    go_enter Try.func51, Try.ntmps51
    go_wp2_with fail
    go_quiet ((go_at_call 40; refine Calls.quiet_of_same (LT.out _)))
    go_wp2_with fail
    refine bodyPost_ret (results_tt rfl _ _) rfl ?_
    exact ⟨rfl, R.out _⟩

theorem order2_in (d : Array Int) (a b k n : Nat) (ha : a < n) (hb : b < n) : (Sort.order2 ltI d a b k).1 < n ∧ (Sort.order2 ltI d a b k).2.1 < n ∧ (Sort.order2 ltI d a b k).2.2 ≤ k + 1 := by
  unfold Sort.order2
  split <;> simp <;> omega

theorem MS.of {w w' : World} {g s : Nat} {d : Array Int} {k : Nat} (h : MS w g s d k) (c : Chg (fun _ => False) w w') : MS w' g s d k := ⟨h.r.keep c (fun h => h), h.b.keep c (fun h => h), h.ne⟩

set_option maxRecDepth 100000 in
set_option maxHeartbeats 4000000 in
theorem median_any {w : World} {g s n cap k : Nat} {d : Array Int} (h : MS w g s d k) (hn : d.size = n) (hn2 : n ≤ 1099511627776) (a b c : Nat) (ha : a < n) (hb : b < n) (hc : c < n) (hk : k ≤ 900) :
    Calls Try.prog 49 #[.slice (some ⟨g, 0, none⟩) n cap, .int .i64 a, .int .i64 b, .int .i64 c, .pointer (some ⟨s, 0, none⟩)] w fun e w' => e = .returned (.int .i64 (Sort.median ltI d a b c k).1) ∧ MS w' g s d (Sort.median ltI d a b c k).2 ∧ Chg (fun i => i = s) w w' ∧ (Sort.median ltI d a b c k).1 < n ∧ (Sort.median ltI d a b c k).2 ≤ k + 3 := by
  obtain ⟨r1, h1⟩ : ∃ r, r = Sort.order2 ltI d a b k := ⟨_, rfl⟩
  obtain ⟨i1, i2, i3⟩ := order2_in d a b k n ha hb
  have O1 := order2_any (cap := cap) h hn hn2 a b ha hb (by omega)
  rw [← h1] at i1 i2 i3 O1
  obtain ⟨r2, h2⟩ : ∃ r, r = Sort.order2 ltI d r1.2.1 c r1.2.2 := ⟨_, rfl⟩
  obtain ⟨j1, j2, j3⟩ := order2_in d r1.2.1 c r1.2.2 n i2 hc
  have O2 : ∀ w, MS w g s d r1.2.2 → _ := fun w h => order2_any (cap := cap) (w := w) h hn hn2 r1.2.1 c i2 hc (by omega)
  rw [← h2] at j1 j2 j3 O2
  obtain ⟨r3, h3⟩ : ∃ r, r = Sort.order2 ltI d r1.1 r2.1 r2.2.2 := ⟨_, rfl⟩
  obtain ⟨l1, l2, l3⟩ := order2_in d r1.1 r2.1 r2.2.2 n i1 j1
  have O3 : ∀ w, MS w g s d r2.2.2 → _ := fun w h => order2_any (cap := cap) (w := w) h hn hn2 r1.1 r2.1 i1 j1 (by omega)
  rw [← h3] at l1 l2 l3 O3
  have hm : Sort.median ltI d a b c k = (r3.2.1, r3.2.2) := by
    unfold Sort.median
    rw [h3, h2, h1]
  rw [hm]
  have P1 : Hid _ := O1
  have P2 : Hid _ := O2
  have P3 : Hid _ := O3
  have B : Hid (r3.2.1 < n ∧ r3.2.2 ≤ k + 3) := ⟨l2, by omega⟩
  clear h hn h1 h2 h3 O1 O2 O3 hm i1 i2 i3 j1 j2 j3 l1 l2 l3
  go_enter Try.func49, Try.ntmps49
  go_upto_region 2 with (go_at_call 51; refine Calls.mono P1.out ?_; rintro e w1 ⟨rfl, m1, k1⟩; have M1 : Hid _ := And.intro m1 k1; clear m1 k1)
  go_upto_region 3 with (go_at_call 51; refine Calls.mono (P2.out _ M1.out.1) ?_; rintro e w2 ⟨rfl, m2, k2⟩; have M2 : Hid _ := And.intro m2 (Chg.trans M1.out.2 k2 (fun _ h => .inl h)); clear m2 k2)
  go_wp2_with (go_at_call 51; refine Calls.mono (P3.out _ M2.out.1) ?_; rintro e w3 ⟨rfl, m3, k3⟩; have M3 : Hid _ := And.intro m3 (Chg.trans M2.out.2 k3 (fun _ h => .inl h)); clear m3 k3)
  go_ret
  exact ⟨rfl, M3.out.1, M3.out.2, B.out⟩

set_option maxRecDepth 100000 in
set_option maxHeartbeats 4000000 in
theorem adj_any {w : World} {g s n cap k : Nat} {d : Array Int} (h : MS w g s d k) (hn : d.size = n) (hn2 : n ≤ 1099511627776) (a : Nat) (ha : 0 < a) (hb : a + 1 < n) (hk : k ≤ 900) :
    Calls Try.prog 48 #[.slice (some ⟨g, 0, none⟩) n cap, .int .i64 a, .pointer (some ⟨s, 0, none⟩)] w fun e w' => e = .returned (.int .i64 (Sort.medianAdjacent ltI d a k).1) ∧ MS w' g s d (Sort.medianAdjacent ltI d a k).2 ∧ Chg (fun i => i = s) w w' ∧ (Sort.medianAdjacent ltI d a k).1 < n ∧ (Sort.medianAdjacent ltI d a k).2 ≤ k + 3 := by
  have MD := median_any (cap := cap) h hn hn2 (a - 1) a (a + 1) (by omega) (by omega) hb hk
  have e1 : ((a - 1 : Nat) : Int) = (a : Int) - 1 := by omega
  have e2 : ((a + 1 : Nat) : Int) = (a : Int) + 1 := by omega
  rw [e1, e2] at MD
  have P : Hid _ := MD
  clear h hn MD e1 e2
  unfold Sort.medianAdjacent
  go_enter Try.func48, Try.ntmps48
  go_wp2_with (go_at_call 49; refine Calls.mono P.out ?_; rintro e w1 ⟨rfl, m1⟩; have M1 : Hid _ := m1; clear m1)
  go_ret
  exact ⟨rfl, M1.out⟩

end Go.Proofs.Ytnfcmpffihmnmaa
