/-
  reverseRangeOrdered.
-/
import Derived.Test.YtnfcmpffihmnmaaSgA
import Derived.Deep.Cut
namespace Go.Proofs.Ytnfcmpffihmnmaa
open Go.RowKit

theorem rev_size : ∀ (m i j : Nat) (d : Array Int), j - i ≤ m → (Sort.reverseLoop i j d).size = d.size
  | 0, i, j, d, h => by rw [Sort.reverseLoop.eq_def, if_neg (by omega)]
  | m + 1, i, j, d, h => by
    rw [Sort.reverseLoop.eq_def]
    split
    · rw [rev_size m _ _ _ (by omega), swp_size]
    · rfl

set_option maxRecDepth 100000 in
set_option maxHeartbeats 4000000 in
theorem rev_any {w : World} {g n cap : Nat} {d : Array Int} (h : RU w g d) (hn : d.size = n) (hn2 : n ≤ 1099511627776) (a b : Nat) (hab : a < b) (hbn : b ≤ n) :
    Calls Try.prog 38 #[.slice (some ⟨g, 0, none⟩) n cap, .int .i64 a, .int .i64 b] w fun e w' => e = .returned (.tuple #[]) ∧ RU w' g (Sort.reverseRange d a b) ∧ (Sort.reverseRange d a b).size = n ∧ Chg (fun k => k = g) w w' := by
  have H0 : Hid _ := h
  have HN : Hid _ := hn
  clear h hn
  go_enter Try.func38, Try.ntmps38
  go_wp2_with fail
  go_loopw [6, 7] (fun si sj wr => ∃ (i j : Nat) (e : Array Int), si = .int .i64 i ∧ sj = .int .i64 j ∧ i ≤ n ∧ j < n ∧ Hid (RU wr g e ∧ e.size = n ∧ Sort.reverseLoop i j e = Sort.reverseRange d a b ∧ Chg (fun k => k = g) w wr)) (fun si sj _ => (intOf sj - intOf si).toNat)
  case atStart => exact ⟨a, b - 1, d, rfl, by go_num, by omega, by omega, H0.out, HN.out, rfl, Chg.refl _ _⟩
  case round =>
    obtain ⟨i, j, e, rfl, rfl, hi, hj, hid⟩ := hrel
    clear H0 HN
    obtain ⟨q1, q2, q3, q4⟩ := hid.out
    by_cases h0 : i < j
    · have g0 : (i : Int) < (j : Int) := by omega
      have k0 := q1.cell (i := i) (by omega)
      have k1 := q1.cell (i := j) (by omega)
      have f0 := q1.fr i
      have f1 := q1.fr j
      obtain ⟨x0, hx0⟩ : ∃ x, e[i]! = x := ⟨_, rfl⟩
      obtain ⟨x1, hx1⟩ : ∃ x, e[j]! = x := ⟨_, rfl⟩
      rw [hx0] at k0
      rw [hx1] at k1
      have p0 : (i : Int) < (n : Int) := by omega
      have p1 : (j : Int) < (n : Int) := by omega
      have e0 : ¬ (i = j) := by omega
      have e1 : ¬ (j = i) := by omega
      have RW : Hid (RU (((wr.setCell ⟨g, i, none⟩ (.int .u64 x1)).setCell ⟨g, j, none⟩ (.int .u64 x0)).drew) g (Sort.swp e i j) ∧ (Sort.swp e i j).size = n ∧ Sort.reverseLoop (i + 1) (j - 1) (Sort.swp e i j) = Sort.reverseRange d a b ∧ Chg (fun k => k = g) w (((wr.setCell ⟨g, i, none⟩ (.int .u64 x1)).setCell ⟨g, j, none⟩ (.int .u64 x0)).drew)) := by
        have := q1.swp (i := i) (j := j) (by omega) (by omega)
        rw [hx0, hx1] at this
        refine ⟨this.drewN 1, by rw [swp_size]; exact q2, ?_, ((q4.setCell (p := ⟨g, i, none⟩) (.inl rfl) _).setCell (p := ⟨g, j, none⟩) (.inl rfl) _).drew⟩
        rw [← q3]
        show _ = Sort.reverseLoop i j e
        rw [Sort.reverseLoop.eq_def i j e, if_pos h0]
      clear hid q1 q2 q3 q4 hx0 hx1
      go_wp2_with fail
      go_region
      go_wp2_with fail
      go_roundw
      case rel => exact ⟨i + 1, j - 1, _, by go_num, by go_num, by omega, by omega, RW.out⟩
      case measure => simp [intOf]; omega
    · have g0 : ¬ ((i : Int) < (j : Int)) := by omega
      have q3' : e = Sort.reverseRange d a b := by
        rw [← q3]
        show e = Sort.reverseLoop i j e
        rw [Sort.reverseLoop.eq_def i j e, if_neg h0]
      rw [q3'] at q1 q2
      have R : Hid _ := And.intro q1 (And.intro q2 q4)
      clear hid q1 q2 q3 q4 q3'
      go_wp2_with fail
      exact ⟨rfl, _, results_none rfl _ _ _, rfl, R.out⟩

end Go.Proofs.Ytnfcmpffihmnmaa
