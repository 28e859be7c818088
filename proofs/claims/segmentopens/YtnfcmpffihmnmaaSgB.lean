/-
  insertionSortOrdered.
-/
import Derived.Test.YtnfcmpffihmnmaaSgA
namespace Go.Proofs.Ytnfcmpffihmnmaa
open Go.RowKit

theorem ins_size (a : Nat) : ∀ (j : Nat) (d : Array Int), (Sort.insInner ltI a j d).size = d.size
  | 0, d => rfl
  | j + 1, d => by
    unfold Sort.insInner
    split
    · rw [ins_size a j, swp_size]
    · rfl

set_option maxRecDepth 100000 in
set_option maxHeartbeats 4000000 in
theorem ins_any {w : World} {g n cap : Nat} {d : Array Int} (h : RU w g d) (hn : d.size = n) (hn2 : n ≤ 1099511627776) (a b : Nat) (hbn : b ≤ n) (han : a ≤ n) :
    Calls Try.prog 34 #[.slice (some ⟨g, 0, none⟩) n cap, .int .i64 a, .int .i64 b] w fun e w' => e = .returned (.tuple #[]) ∧ RU w' g (Sort.insertionSort ltI d a b) ∧ (Sort.insertionSort ltI d a b).size = n ∧ Chg (fun k => k = g) w w' := by
  have H0 : Hid _ := h
  have HN : Hid _ := hn
  clear h hn
  go_enter Try.func34, Try.ntmps34
  go_wp2_with fail
  go_loopw [6] (fun si wr => ∃ (i : Nat) (d' : Array Int), si = .int .i64 i ∧ i ≤ n + 1 ∧ Hid (RU wr g d' ∧ d'.size = n ∧ Sort.insOuter ltI a b i d' = Sort.insertionSort ltI d a b ∧ Chg (fun k => k = g) w wr)) (fun si _ => b - (intOf si).toNat)
  case atStart => exact ⟨a + 1, d, by go_num, by omega, H0.out, HN.out, rfl, Chg.refl _ _⟩
  case round =>
    obtain ⟨i, d', rfl, hi, hid⟩ := hrel
    by_cases h0 : i < b
    · have i0 : (i : Int) < (b : Int) := by omega
      go_wp2_with fail
      go_loopw [7] (fun sj wq => ∃ (j : Nat) (e : Array Int), sj = .int .i64 j ∧ j ≤ i ∧ Hid (RU wq g e ∧ e.size = n ∧ Sort.insInner ltI a j e = Sort.insInner ltI a i d' ∧ Chg (fun k => k = g) w wq)) (fun sj _ => (intOf sj).toNat)
      case atStart =>
        obtain ⟨h1, h2, _, h4⟩ := hid.out
        exact ⟨i, d', rfl, Nat.le_refl _, h1, h2, rfl, h4⟩
      case round =>
        obtain ⟨j, e, rfl, hj, hjd⟩ := hrel
        by_cases h1 : a < j
        · obtain ⟨k, hk⟩ : ∃ k, j = k + 1 := ⟨j - 1, by omega⟩
          subst hk
          obtain ⟨q1, q2, q3, q4⟩ := hjd.out
          have c1 := q1.cell (i := k + 1) (by omega)
          have c0 := q1.cell (i := k) (by omega)
          have f1 := q1.fr (k + 1)
          have f0 := q1.fr k
          obtain ⟨x, hx⟩ : ∃ x, e[k + 1]! = x := ⟨_, rfl⟩
          obtain ⟨y, hy⟩ : ∃ y, e[k]! = y := ⟨_, rfl⟩
          rw [hx] at c1
          rw [hy] at c0
          have j0 : decide ((a : Int) < (k : Int) + 1) = true := decide_eq_true (by omega)
          have j2 : (k : Int) + 1 < (n : Int) := by omega
          have j3 : (k : Int) < (n : Int) := by omega
          have LS : Hid _ := less_any x y
          by_cases hlt : x < y
          · have dlt : decide (x < y) = true := decide_eq_true hlt
            rw [dlt] at LS
            have R : Hid (∀ nq, RU (((wr.drewN nq).setCell ⟨g, k + 1, none⟩ (.int .u64 y)).setCell ⟨g, k, none⟩ (.int .u64 x)) g (Sort.swp e (k + 1) k) ∧ (Sort.swp e (k + 1) k).size = n ∧ Sort.insInner ltI a k (Sort.swp e (k + 1) k) = Sort.insInner ltI a i d' ∧ Chg (fun k => k = g) w (((wr.drewN nq).setCell ⟨g, k + 1, none⟩ (.int .u64 y)).setCell ⟨g, k, none⟩ (.int .u64 x))) := fun nq => by
              have q1' : RU (wr.drewN nq) g e := q1.drewN nq
              have := q1'.swp (i := k + 1) (j := k) (by omega) (by omega)
              rw [hx, hy] at this
              refine ⟨this, by rw [swp_size]; exact q2, ?_, ?_⟩
              · rw [← q3]
                have hc : (decide (k + 1 > a) && ltI e[k + 1]! e[k]!) = true := by
                  rw [hx, hy, Bool.and_eq_true]
                  exact ⟨decide_eq_true (by omega), decide_eq_true hlt⟩
                show _ = Sort.insInner ltI a (k + 1) e
                rw [Sort.insInner, if_pos hc]
              · have c2 : Chg (fun k => k = g) w (wr.drewN nq) := ⟨q4.os, q4.tape, q4.output, q4.size, q4.block⟩
                exact (c2.setCell (p := ⟨g, k + 1, none⟩) (.inl rfl) _).setCell (p := ⟨g, k, none⟩) (.inl rfl) _
            clear hjd q1 q2 q3 q4 hx hy dlt H0
            go_wp2_with fail
            go_quiet ((go_at_call 40; refine Calls.quiet_of_same (LS.out _)))
            go_wp2_with fail
            go_region
            go_wp2_with fail
            go_roundw
            case rel => exact ⟨k, Sort.swp e (k + 1) k, by go_num, by omega, R.out _⟩
            case measure => simp [intOf]
          · have dlt : decide (x < y) = false := decide_eq_false hlt
            rw [dlt] at LS
            have hfin : Sort.insInner ltI a i d' = e := by
              rw [← q3]
              have hc : ¬ (decide (k + 1 > a) && ltI e[k + 1]! e[k]!) = true := by
                rw [hx, hy, Bool.and_eq_true]
                exact fun hh => hlt (of_decide_eq_true hh.2)
              rw [Sort.insInner, if_neg hc]
            have R : Hid (∀ nq, RU (wr.drewN nq) g e ∧ e.size = n ∧ Sort.insOuter ltI a b (i + 1) e = Sort.insertionSort ltI d a b ∧ Chg (fun k => k = g) w (wr.drewN nq)) := fun nq => by
              refine ⟨q1.drewN nq, q2, ?_, ⟨q4.os, q4.tape, q4.output, q4.size, q4.block⟩⟩
              rw [← hid.out.2.2.1]
              show _ = Sort.insOuter ltI a b i d'
              rw [Sort.insOuter.eq_def ltI a b i d', if_pos h0, hfin]
            clear hjd q1 q2 q3 q4 hx hy dlt H0 hfin
            go_wp2_with fail
            go_quiet ((go_at_call 40; refine Calls.quiet_of_same (LS.out _)))
            go_wp2_with fail
            go_roundw
            case rel => exact ⟨i + 1, e, by go_num, by omega, R.out _⟩
            case measure => simp [intOf]; omega
        · obtain ⟨q1, q2, q3, q4⟩ := hjd.out
          have hfin : Sort.insInner ltI a i d' = e := by
            rw [← q3]
            cases j with
            | zero => rfl
            | succ k =>
              have hc : ¬ (decide (k + 1 > a) && ltI e[k + 1]! e[k]!) = true := by
                rw [Bool.and_eq_true]
                exact fun hh => h1 (of_decide_eq_true hh.1)
              rw [Sort.insInner, if_neg hc]
          have R : Hid (∀ nq, RU (wr.drewN nq) g e ∧ e.size = n ∧ Sort.insOuter ltI a b (i + 1) e = Sort.insertionSort ltI d a b ∧ Chg (fun k => k = g) w (wr.drewN nq)) := fun nq => by
            refine ⟨q1.drewN nq, q2, ?_, ⟨q4.os, q4.tape, q4.output, q4.size, q4.block⟩⟩
            rw [← hid.out.2.2.1]
            show _ = Sort.insOuter ltI a b i d'
            rw [Sort.insOuter.eq_def ltI a b i d', if_pos h0, hfin]
          have j0 : decide ((a : Int) < (j : Int)) = false := decide_eq_false (by omega)
          clear hjd q1 q2 q3 q4 H0 hfin
          go_wp2_with fail
          go_quiet (fail)
          go_wp2_with fail
          go_roundw
          case rel => exact ⟨i + 1, e, by go_num, by omega, R.out _⟩
          case measure => simp [intOf]; omega
    · obtain ⟨q1, q2, q3, q4⟩ := hid.out
      have i0 : ¬ ((i : Int) < (b : Int)) := by omega
      rw [Sort.insOuter.eq_def, if_neg h0] at q3
      rw [q3] at q1 q2
      have R : Hid _ := And.intro q1 (And.intro q2 q4)
      clear hid q1 q2 q3 q4 H0
      go_wp2_with fail
      exact ⟨rfl, _, results_none rfl _ _ _, rfl, R.out⟩

end Go.Proofs.Ytnfcmpffihmnmaa
