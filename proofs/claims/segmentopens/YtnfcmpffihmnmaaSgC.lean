/-
  siftDownOrdered.
-/
import Derived.Test.YtnfcmpffihmnmaaSgA
import Derived.Deep.Cut
namespace Go.Proofs.Ytnfcmpffihmnmaa
open Go.RowKit

theorem sift_size (hi first : Nat) : ∀ (m root : Nat) (d : Array Int), hi - root ≤ m → (Sort.siftDown ltI hi first root d).size = d.size
  | 0, root, d, h => by
    rw [Sort.siftDown.eq_def, dif_pos (by omega)]
  | m + 1, root, d, h => by
    rw [Sort.siftDown.eq_def]
    split
    · rfl
    · split
      · split
        · rfl
        · split
          · rw [sift_size hi first m _ _ (by omega), swp_size]
          · rfl
      · split
        · rfl
        · rw [sift_size hi first m _ _ (by omega), swp_size]

theorem sift_far {hi first root : Nat} {d : Array Int} (h : 2 * root + 1 ≥ hi) : Sort.siftDown ltI hi first root d = d := by
  rw [Sort.siftDown.eq_def, dif_pos h]
theorem sift_b {hi first root : Nat} {d : Array Int} (h : ¬ 2 * root + 1 ≥ hi) (h2 : 2 * root + 2 < hi) (hl : d[first + (2 * root + 1)]! < d[first + (2 * root + 1) + 1]!) :
    Sort.siftDown ltI hi first root d = if d[first + root]! < d[first + (2 * root + 2)]! then Sort.siftDown ltI hi first (2 * root + 2) (Sort.swp d (first + root) (first + (2 * root + 2))) else d := by
  have hc : (decide (2 * root + 1 + 1 < hi) && ltI d[first + (2 * root + 1)]! d[first + (2 * root + 1) + 1]!) = true := by
    rw [Bool.and_eq_true]
    exact ⟨decide_eq_true (by omega), decide_eq_true hl⟩
  rw [Sort.siftDown.eq_def, dif_neg h, if_pos hc]
  by_cases h3 : d[first + root]! < d[first + (2 * root + 2)]!
  · have h4 : ltI d[first + root]! d[first + (2 * root + 2)]! = true := decide_eq_true h3
    rw [if_pos h3, h4, dif_pos h2]
    rfl
  · have h4 : ltI d[first + root]! d[first + (2 * root + 2)]! = false := decide_eq_false h3
    rw [if_neg h3, h4]
    rfl
theorem sift_a {hi first root : Nat} {d : Array Int} (h : ¬ 2 * root + 1 ≥ hi) (hn : ¬ (2 * root + 2 < hi ∧ d[first + (2 * root + 1)]! < d[first + (2 * root + 1) + 1]!)) :
    Sort.siftDown ltI hi first root d = if d[first + root]! < d[first + (2 * root + 1)]! then Sort.siftDown ltI hi first (2 * root + 1) (Sort.swp d (first + root) (first + (2 * root + 1))) else d := by
  have hc : ¬ (decide (2 * root + 1 + 1 < hi) && ltI d[first + (2 * root + 1)]! d[first + (2 * root + 1) + 1]!) = true := by
    rw [Bool.and_eq_true]
    exact fun hh => hn ⟨of_decide_eq_true hh.1, of_decide_eq_true hh.2⟩
  rw [Sort.siftDown.eq_def, dif_neg h, if_neg hc]
  by_cases h3 : d[first + root]! < d[first + (2 * root + 1)]!
  · have h4 : ltI d[first + root]! d[first + (2 * root + 1)]! = true := decide_eq_true h3
    rw [if_pos h3, h4]
    rfl
  · have h4 : ltI d[first + root]! d[first + (2 * root + 1)]! = false := decide_eq_false h3
    rw [if_neg h3, h4]
    rfl

set_option maxRecDepth 100000 in
set_option maxHeartbeats 8000000 in
theorem sift_any {w : World} {g n cap : Nat} {d : Array Int} (h : RU w g d) (hn : d.size = n) (hn2 : n ≤ 1099511627776) (lo hi first : Nat) (hh : first + hi ≤ n) (hlo : lo ≤ n) :
    Calls Try.prog 45 #[.slice (some ⟨g, 0, none⟩) n cap, .int .i64 lo, .int .i64 hi, .int .i64 first] w fun e w' => e = .returned (.tuple #[]) ∧ RU w' g (Sort.siftDown ltI hi first lo d) ∧ Chg (fun k => k = g) w w' := by
  have H0 : Hid _ := h
  have HN : Hid _ := hn
  clear h hn
  go_enter Try.func45, Try.ntmps45
  go_wp2_with fail
  go_loopw [8] (fun si wr => ∃ (i : Nat) (e : Array Int), si = .int .i64 i ∧ i ≤ n ∧ Hid (RU wr g e ∧ e.size = n ∧ Sort.siftDown ltI hi first i e = Sort.siftDown ltI hi first lo d ∧ Chg (fun k => k = g) w wr)) (fun si _ => hi - (intOf si).toNat)
  case atStart => exact ⟨lo, d, rfl, hlo, H0.out, HN.out, rfl, Chg.refl _ _⟩
  case round =>
    obtain ⟨i, e, rfl, hin, hid⟩ := hrel
    obtain ⟨q1, q2, q3, q4⟩ := hid.out
    clear H0 HN hid
    obtain ⟨c, hc⟩ : ∃ c, c = 2 * i + 1 := ⟨_, rfl⟩
    have HC : Hid (2 * (i : Int) + 1 = (c : Int)) := (by omega : 2 * (i : Int) + 1 = (c : Int))
    by_cases hf : 2 * i + 1 ≥ hi
    · have R : Hid _ := And.intro q1 (And.intro (q3.symm.trans (sift_far hf)) q4)
      have g0 : decide ((hi : Int) ≤ (c : Int)) = true := decide_eq_true (by omega)
      have g1 : (hi : Int) ≤ (c : Int) := by omega
      clear q1 q2 q3 q4 hc hf
      go_upto_region 2 with fail
      rw [HC.out]
      go_wp2_with fail
      exact ⟨rfl, _, results_none rfl _ _ _, rfl, by rw [R.out.2.1]; exact R.out.1, R.out.2.2⟩
    · have g0 : decide ((hi : Int) ≤ (c : Int)) = false := decide_eq_false (by omega)
      have g1 : ¬ ((hi : Int) ≤ (c : Int)) := by omega
      have k0 := q1.cell (i := first + i) (by omega)
      have k1 := q1.cell (i := first + c) (by omega)
      have f0 := q1.fr (first + i)
      have f1 := q1.fr (first + c)
      obtain ⟨x0, hx0⟩ : ∃ x, e[first + i]! = x := ⟨_, rfl⟩
      obtain ⟨x1, hx1⟩ : ∃ x, e[first + c]! = x := ⟨_, rfl⟩
      rw [hx0] at k0
      rw [hx1] at k1
      have k0d : ∀ m, (wr.drewN m).cell? ⟨g, first + i, none⟩ = some (.int .u64 x0) := fun _ => k0
      have k1d : ∀ m, (wr.drewN m).cell? ⟨g, first + c, none⟩ = some (.int .u64 x1) := fun _ => k1
      have QQ : Hid (∀ nq, RU (wr.drewN nq) g e ∧ Chg (fun k => k = g) w (wr.drewN nq)) := fun nq => ⟨q1.drewN nq, ⟨q4.os, q4.tape, q4.output, q4.size, q4.block⟩⟩
      have p0 : (first : Int) + (i : Int) < (n : Int) := by omega
      have n0 : ¬ ((first : Int) + (i : Int) < 0) := by omega
      have n1 : ¬ ((n : Int) ≤ (first : Int) + (i : Int)) := by omega
      have u0 : first + i < n := by omega
      have u1 : first + c < n := by omega
      have u2 : i < hi := by omega
      have e0 : ¬ (i = c) := by omega
      have e4 : i < c := by omega
      have e1 : ¬ (c = i) := by omega
      have t0 : ((first : Int) + (i : Int)).toNat = first + i := by omega
      have t1 : ((first : Int) + (c : Int)).toNat = first + c := by omega
      have v0 : IntKind.i64.wrap ((first : Int) + (i : Int)) = (first : Int) + (i : Int) := by rw [IntKind.wrap_i64]; omega
      have v1 : IntKind.i64.wrap ((first : Int) + (c : Int)) = (first : Int) + (c : Int) := by rw [IntKind.wrap_i64]; omega
      have p1 : (first : Int) + c < (n : Int) := by omega
      by_cases h2 : 2 * i + 2 < hi
      · have k2 := q1.cell (i := first + c + 1) (by omega)
        have f2 := q1.fr (first + c + 1)
        obtain ⟨x2, hx2'⟩ : ∃ x, e[first + c + 1]! = x := ⟨_, rfl⟩
        rw [hx2'] at k2
        have p2 : (first : Int) + c + 1 < (n : Int) := by omega
        have d2 : decide ((c : Int) + 1 < (hi : Int)) = true := decide_eq_true (by omega)
        by_cases hl : x1 < x2
        · have dl : decide (x1 < x2) = true := decide_eq_true hl
          have LS : Hid _ := less_any x1 x2
          rw [dl] at LS
          obtain ⟨ch, hch⟩ : ∃ ch, ch = 2 * i + 2 := ⟨_, rfl⟩
          have HCH : Hid ((c : Int) + 1 = (ch : Int)) := (by omega : (c : Int) + 1 = (ch : Int))
          have ech : first + c + 1 = first + ch := by omega
          have hx2 : e[first + ch]! = x2 := by rw [← ech]; exact hx2'
          have k3 : wr.cell? ⟨g, first + ch, none⟩ = some (.int .u64 x2) := by rw [← ech]; exact k2
          have k3d : ∀ m, (wr.drewN m).cell? ⟨g, first + ch, none⟩ = some (.int .u64 x2) := fun _ => k3
          have f3 := q1.fr (first + ch)
          have p3 : (first : Int) + ch < (n : Int) := by omega
          have u3 : first + ch < n := by omega
          have e2 : ¬ (i = ch) := by omega
          have e5 : i < ch := by omega
          have e3 : ¬ (ch = i) := by omega
          have t3 : ((first : Int) + (ch : Int)).toNat = first + ch := by omega
          have v3 : IntKind.i64.wrap ((first : Int) + (ch : Int)) = (first : Int) + (ch : Int) := by rw [IntKind.wrap_i64]; omega
          have pure := sift_b (first := first) hf h2 (by rw [← hc, hx1, hx2']; exact hl)
          by_cases hs : x0 < x2
          · have ds : decide (x0 < x2) = true := decide_eq_true hs
            have LT : Hid _ := less_any x0 x2
            rw [ds] at LT
            have R : Hid (∀ (w2 : World) (nq : Nat), RU w2 g e → Chg (fun k => k = g) w w2 → RU (((w2.drewN nq).setCell ⟨g, first + i, none⟩ (.int .u64 x2)).setCell ⟨g, first + ch, none⟩ (.int .u64 x0)) g (Sort.swp e (first + i) (first + ch)) ∧ (Sort.swp e (first + i) (first + ch)).size = n ∧ Sort.siftDown ltI hi first ch (Sort.swp e (first + i) (first + ch)) = Sort.siftDown ltI hi first lo d ∧ Chg (fun k => k = g) w (((w2.drewN nq).setCell ⟨g, first + i, none⟩ (.int .u64 x2)).setCell ⟨g, first + ch, none⟩ (.int .u64 x0))) := fun w2 nq q1 q4 => by
              have := (q1.drewN nq).swp (i := first + i) (j := first + ch) (by omega) (by omega)
              rw [hx0, hx2] at this
              refine ⟨this, by rw [swp_size]; exact q2, ?_, ?_⟩
              · rw [← q3, pure]
                rw [if_pos (by rw [hx0, ← hch, hx2]; exact hs), ← hch]
              · have c2 : Chg (fun k => k = g) w (w2.drewN nq) := ⟨q4.os, q4.tape, q4.output, q4.size, q4.block⟩
                exact (c2.setCell (p := ⟨g, first + i, none⟩) (.inl rfl) _).setCell (p := ⟨g, first + ch, none⟩) (.inl rfl) _
            clear q1 q2 q3 q4 hx0 hx1 hx2 hx2' hc hch ech pure ds dl hf
            go_upto_region 2 with fail
            rw [HC.out]
            go_wp2_with fail
            go_quiet ((go_at_call 40; refine Calls.quiet_of_same (LS.out _)))
            go_upto_region 5 with fail
            rw [HCH.out]
            have z0 := k0d nq
            have z1 := k3d nq
            have y0 : (wr.drewN nq).frozen? ⟨g, first + i, none⟩ = false := f0
            have y1 : (wr.drewN nq).frozen? ⟨g, first + ch, none⟩ = false := f3
            have Q5 : Hid _ := QQ.out nq
            clear k0d k1d k0 k1 f0 f1 QQ k3d k3 f3 k2 f2
            generalize wr.drewN nq = w2 at z0 z1 y0 y1 Q5 ⊢
            go_quiet ((go_at_call 40; refine Calls.quiet_of_same (LT.out _)))
            go_wp2_with fail
            go_region
            go_wp2_with fail
            go_roundw
            case rel => exact ⟨ch, _, rfl, by omega, R.out _ _ Q5.out.1 Q5.out.2⟩
            case measure => simp [intOf]; omega
          · have ds : decide (x0 < x2) = false := decide_eq_false hs
            have LT : Hid _ := less_any x0 x2
            rw [ds] at LT
            have R : Hid (∀ (w2 : World) (nq : Nat), RU w2 g e → Chg (fun k => k = g) w w2 → RU (w2.drewN nq) g (Sort.siftDown ltI hi first lo d) ∧ Chg (fun k => k = g) w (w2.drewN nq)) := fun w2 nq q1 q4 => by
              refine ⟨?_, ⟨q4.os, q4.tape, q4.output, q4.size, q4.block⟩⟩
              rw [← q3, pure, if_neg (by rw [hx0, ← hch, hx2]; exact hs)]
              exact q1.drewN nq
            clear q1 q2 q3 q4 hx0 hx1 hx2 hx2' hc hch ech pure ds dl hf
            go_upto_region 2 with fail
            rw [HC.out]
            go_wp2_with fail
            go_quiet ((go_at_call 40; refine Calls.quiet_of_same (LS.out _)))
            go_upto_region 5 with fail
            rw [HCH.out]
            have z0 := k0d nq
            have z1 := k3d nq
            have y0 : (wr.drewN nq).frozen? ⟨g, first + i, none⟩ = false := f0
            have y1 : (wr.drewN nq).frozen? ⟨g, first + ch, none⟩ = false := f3
            have Q5 : Hid _ := QQ.out nq
            clear k0d k1d k0 k1 f0 f1 QQ k3d k3 f3 k2 f2
            generalize wr.drewN nq = w2 at z0 z1 y0 y1 Q5 ⊢
            go_quiet ((go_at_call 40; refine Calls.quiet_of_same (LT.out _)))
            go_wp2_with fail
            exact ⟨rfl, _, results_none rfl _ _ _, rfl, R.out _ _ Q5.out.1 Q5.out.2⟩
        · have dl : decide (x1 < x2) = false := decide_eq_false hl
          have LS : Hid _ := less_any x1 x2
          rw [dl] at LS
          have pure := sift_a (first := first) (d := e) hf (fun hh => hl (by have := hh.2; rw [← hc, hx1, hx2'] at this; exact this))
          by_cases hs : x0 < x1
          · have ds : decide (x0 < x1) = true := decide_eq_true hs
            have LT : Hid _ := less_any x0 x1
            rw [ds] at LT
            have R : Hid (∀ (w2 : World) (nq : Nat), RU w2 g e → Chg (fun k => k = g) w w2 → RU (((w2.drewN nq).setCell ⟨g, first + i, none⟩ (.int .u64 x1)).setCell ⟨g, first + c, none⟩ (.int .u64 x0)) g (Sort.swp e (first + i) (first + c)) ∧ (Sort.swp e (first + i) (first + c)).size = n ∧ Sort.siftDown ltI hi first c (Sort.swp e (first + i) (first + c)) = Sort.siftDown ltI hi first lo d ∧ Chg (fun k => k = g) w (((w2.drewN nq).setCell ⟨g, first + i, none⟩ (.int .u64 x1)).setCell ⟨g, first + c, none⟩ (.int .u64 x0))) := fun w2 nq q1 q4 => by
              have := (q1.drewN nq).swp (i := first + i) (j := first + c) (by omega) (by omega)
              rw [hx0, hx1] at this
              refine ⟨this, by rw [swp_size]; exact q2, ?_, ?_⟩
              · rw [← q3, pure]
                rw [if_pos (by rw [hx0, ← hc, hx1]; exact hs), ← hc]
              · have c2 : Chg (fun k => k = g) w (w2.drewN nq) := ⟨q4.os, q4.tape, q4.output, q4.size, q4.block⟩
                exact (c2.setCell (p := ⟨g, first + i, none⟩) (.inl rfl) _).setCell (p := ⟨g, first + c, none⟩) (.inl rfl) _
            clear q1 q2 q3 q4 hx0 hx1 hx2' hc pure ds dl hf
            go_upto_region 2 with fail
            rw [HC.out]
            go_wp2_with fail
            go_quiet ((go_at_call 40; refine Calls.quiet_of_same (LS.out _)))
            go_wp2_with fail
            have z0 := k0d nq
            have z1 := k1d nq
            have y0 : (wr.drewN nq).frozen? ⟨g, first + i, none⟩ = false := f0
            have y1 : (wr.drewN nq).frozen? ⟨g, first + c, none⟩ = false := f1
            have Q5 : Hid _ := QQ.out nq
            clear k0d k1d k0 k1 f0 f1 QQ k2 f2
            generalize wr.drewN nq = w2 at z0 z1 y0 y1 Q5 ⊢
            go_quiet ((go_at_call 40; refine Calls.quiet_of_same (LT.out _)))
            go_wp2_with fail
            go_region
            go_wp2_with fail
            go_roundw
            case rel => exact ⟨c, _, rfl, by omega, R.out _ _ Q5.out.1 Q5.out.2⟩
            case measure => simp [intOf]; omega
          · have ds : decide (x0 < x1) = false := decide_eq_false hs
            have LT : Hid _ := less_any x0 x1
            rw [ds] at LT
            have R : Hid (∀ (w2 : World) (nq : Nat), RU w2 g e → Chg (fun k => k = g) w w2 → RU (w2.drewN nq) g (Sort.siftDown ltI hi first lo d) ∧ Chg (fun k => k = g) w (w2.drewN nq)) := fun w2 nq q1 q4 => by
              refine ⟨?_, ⟨q4.os, q4.tape, q4.output, q4.size, q4.block⟩⟩
              rw [← q3, pure, if_neg (by rw [hx0, ← hc, hx1]; exact hs)]
              exact q1.drewN nq
            clear q1 q2 q3 q4 hx0 hx1 hx2' hc pure ds dl hf
            go_upto_region 2 with fail
            rw [HC.out]
            go_wp2_with fail
            go_quiet ((go_at_call 40; refine Calls.quiet_of_same (LS.out _)))
            go_wp2_with fail
            have z0 := k0d nq
            have z1 := k1d nq
            have y0 : (wr.drewN nq).frozen? ⟨g, first + i, none⟩ = false := f0
            have y1 : (wr.drewN nq).frozen? ⟨g, first + c, none⟩ = false := f1
            have Q5 : Hid _ := QQ.out nq
            clear k0d k1d k0 k1 f0 f1 QQ k2 f2
            generalize wr.drewN nq = w2 at z0 z1 y0 y1 Q5 ⊢
            go_quiet ((go_at_call 40; refine Calls.quiet_of_same (LT.out _)))
            go_wp2_with fail
            exact ⟨rfl, _, results_none rfl _ _ _, rfl, R.out _ _ Q5.out.1 Q5.out.2⟩
      · have d2 : decide ((c : Int) + 1 < (hi : Int)) = false := decide_eq_false (by omega)
        have pure := sift_a (first := first) (d := e) hf (fun hh => h2 hh.1)
        by_cases hs : x0 < x1
        · have ds : decide (x0 < x1) = true := decide_eq_true hs
          have LT : Hid _ := less_any x0 x1
          rw [ds] at LT
          have R : Hid (∀ (w2 : World) (nq : Nat), RU w2 g e → Chg (fun k => k = g) w w2 → RU (((w2.drewN nq).setCell ⟨g, first + i, none⟩ (.int .u64 x1)).setCell ⟨g, first + c, none⟩ (.int .u64 x0)) g (Sort.swp e (first + i) (first + c)) ∧ (Sort.swp e (first + i) (first + c)).size = n ∧ Sort.siftDown ltI hi first c (Sort.swp e (first + i) (first + c)) = Sort.siftDown ltI hi first lo d ∧ Chg (fun k => k = g) w (((w2.drewN nq).setCell ⟨g, first + i, none⟩ (.int .u64 x1)).setCell ⟨g, first + c, none⟩ (.int .u64 x0))) := fun w2 nq q1 q4 => by
            have := (q1.drewN nq).swp (i := first + i) (j := first + c) (by omega) (by omega)
            rw [hx0, hx1] at this
            refine ⟨this, by rw [swp_size]; exact q2, ?_, ?_⟩
            · rw [← q3, pure]
              rw [if_pos (by rw [hx0, ← hc, hx1]; exact hs), ← hc]
            · have c2 : Chg (fun k => k = g) w (w2.drewN nq) := ⟨q4.os, q4.tape, q4.output, q4.size, q4.block⟩
              exact (c2.setCell (p := ⟨g, first + i, none⟩) (.inl rfl) _).setCell (p := ⟨g, first + c, none⟩) (.inl rfl) _
          clear q1 q2 q3 q4 hx0 hx1 hc pure ds hf
          go_upto_region 2 with fail
          rw [HC.out]
          go_wp2_with fail
          go_quiet (fail)
          go_wp2_with fail
          have z0 := k0d nq
          have z1 := k1d nq
          have y0 : (wr.drewN nq).frozen? ⟨g, first + i, none⟩ = false := f0
          have y1 : (wr.drewN nq).frozen? ⟨g, first + c, none⟩ = false := f1
          have Q5 : Hid _ := QQ.out nq
          clear k0d k1d k0 k1 f0 f1 QQ
          generalize wr.drewN nq = w2 at z0 z1 y0 y1 Q5 ⊢
          go_quiet ((go_at_call 40; refine Calls.quiet_of_same (LT.out _)))
          go_wp2_with fail
          go_region
          go_wp2_with fail
          go_roundw
          case rel => exact ⟨c, _, rfl, by omega, R.out _ _ Q5.out.1 Q5.out.2⟩
          case measure => simp [intOf]; omega
        · have ds : decide (x0 < x1) = false := decide_eq_false hs
          have LT : Hid _ := less_any x0 x1
          rw [ds] at LT
          have R : Hid (∀ (w2 : World) (nq : Nat), RU w2 g e → Chg (fun k => k = g) w w2 → RU (w2.drewN nq) g (Sort.siftDown ltI hi first lo d) ∧ Chg (fun k => k = g) w (w2.drewN nq)) := fun w2 nq q1 q4 => by
            refine ⟨?_, ⟨q4.os, q4.tape, q4.output, q4.size, q4.block⟩⟩
            rw [← q3, pure, if_neg (by rw [hx0, ← hc, hx1]; exact hs)]
            exact q1.drewN nq
          clear q1 q2 q3 q4 hx0 hx1 hc pure ds hf
          go_upto_region 2 with fail
          rw [HC.out]
          go_wp2_with fail
          go_quiet (fail)
          go_wp2_with fail
          have z0 := k0d nq
          have z1 := k1d nq
          have y0 : (wr.drewN nq).frozen? ⟨g, first + i, none⟩ = false := f0
          have y1 : (wr.drewN nq).frozen? ⟨g, first + c, none⟩ = false := f1
          have Q5 : Hid _ := QQ.out nq
          clear k0d k1d k0 k1 f0 f1 QQ
          generalize wr.drewN nq = w2 at z0 z1 y0 y1 Q5 ⊢
          go_quiet ((go_at_call 40; refine Calls.quiet_of_same (LT.out _)))
          go_wp2_with fail
          exact ⟨rfl, _, results_none rfl _ _ _, rfl, R.out _ _ Q5.out.1 Q5.out.2⟩

end Go.Proofs.Ytnfcmpffihmnmaa
