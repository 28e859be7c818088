/-
  partitionEqualOrdered. Laid by tools/gen/seg/genpeq.py.
-/
import Derived.Test.YtnfcmpffihmnmaaSgA
import Derived.Deep.Cut
namespace Go.Proofs.Ytnfcmpffihmnmaa
open Go.RowKit

set_option maxRecDepth 100000 in
set_option maxHeartbeats 4000000 in
theorem peq_any {w : World} {g n cap : Nat} {d : Array Int} (h : RU w g d) (hn : d.size = n) (hn2 : n ≤ 1099511627776) (a b pivot : Nat) (hab : a < b) (hbn : b ≤ n) (hp : a ≤ pivot) (hp2 : pivot < b) :
    Calls Try.prog 41 #[.slice (some ⟨g, 0, none⟩) n cap, .int .i64 a, .int .i64 b, .int .i64 pivot] w fun e w' => e = .returned (.int .i64 (Sort.partitionEqual ltI d a b pivot).1) ∧ RU w' g (Sort.partitionEqual ltI d a b pivot).2 ∧ (Sort.partitionEqual ltI d a b pivot).2.size = n ∧ Chg (fun k => k = g) w w' := by
  have k0 := h.cell (i := a) (by omega)
  have k1 := h.cell (i := pivot) (by omega)
  have f0 := h.fr a
  have f1 := h.fr pivot
  obtain ⟨x0, hx0⟩ : ∃ x, d[a]! = x := ⟨_, rfl⟩
  obtain ⟨x1, hx1⟩ : ∃ x, d[pivot]! = x := ⟨_, rfl⟩
  rw [hx0] at k0
  rw [hx1] at k1
  have p0 : (a : Int) < (n : Int) := by omega
  have p1 : (pivot : Int) < (n : Int) := by omega
  have rw0 : RU (((w.setCell ⟨g, a, none⟩ (.int .u64 x1)).setCell ⟨g, pivot, none⟩ (.int .u64 x0)).drew) g (Sort.swp d a pivot) ∧ Chg (fun k => k = g) w (((w.setCell ⟨g, a, none⟩ (.int .u64 x1)).setCell ⟨g, pivot, none⟩ (.int .u64 x0)).drew) := by
    have := h.swp (i := a) (j := pivot) (by omega) (by omega)
    rw [hx0, hx1] at this
    exact ⟨this.drewN 1, (((Chg.refl (fun k => k = g) w).setCell (p := ⟨g, a, none⟩) (.inl rfl) _).setCell (p := ⟨g, pivot, none⟩) (.inl rfl) _).drew⟩
  have RW : Hid _ := rw0
  have HS : Hid ((Sort.swp d a pivot).size = n) := (swp_size d a pivot).trans hn
  obtain ⟨R0, hR0⟩ : ∃ R, R = Sort.partitionEqual ltI d a b pivot := ⟨_, rfl⟩
  obtain ⟨D0, hD0⟩ : ∃ D, D = Sort.swp d a pivot := ⟨_, rfl⟩
  have H0 : Hid (Sort.partEqLoop ltI a (a + 1) (b - 1) D0 = R0) := (by rw [hR0, hD0]; rfl : Sort.partEqLoop ltI a (a + 1) (b - 1) D0 = R0)
  rw [← hD0] at RW HS
  rw [← hR0]
  clear h hn rw0 hR0 hD0
  go_enter Try.func41, Try.ntmps41
  go_upto_region 1 with fail
  by_cases ap : a = pivot
  · subst ap
    have hxx : x1 = x0 := by rw [← hx0, ← hx1]
    subst hxx
    clear k1 hx0 hx1 f1 p1
    go_region
    go_wp2_with fail
    go_loopw [9, 10] (fun si sj wr => ∃ (i j : Nat) (e : Array Int), si = .int .i64 i ∧ sj = .int .i64 j ∧ i ≤ n + 1 ∧ j < n ∧ a < i ∧ Hid (RU wr g e ∧ e.size = n ∧ Sort.partEqLoop ltI a i j e = R0 ∧ Chg (fun k => k = g) w wr)) (fun si sj _ => (intOf sj + 1 - intOf si).toNat)
    case atStart => exact ⟨a + 1, b - 1, _, by go_num, by go_num, by omega, by omega, by omega, RW.out.1, HS.out, H0.out, RW.out.2⟩
    case round =>
      obtain ⟨i, j, e, rfl, rfl, hi, hj, hai, hid⟩ := hrel
      clear RW HS H0
      obtain ⟨z1, he, z3, z4⟩ := hid.out
      have PQ : Hid _ := z3
      have S0 : Hid _ := And.intro z1 z4
      clear hid z1 z3 z4
      have HE : Hid _ := he
      clear he
      go_wp2_with fail
      go_loopw [9] (fun si wq => ∃ i2 : Nat, si = .int .i64 i2 ∧ i ≤ i2 ∧ i2 ≤ n + 1 ∧ Hid (RU wq g e ∧ Sort.scanUp (fun x => !ltI e[a]! x) e j i2 = Sort.scanUp (fun x => !ltI e[a]! x) e j i ∧ Chg (fun k => k = g) w wq)) (fun si _ => ((j : Int) + 1 - intOf si).toNat)
      case atStart => exact ⟨i, rfl, Nat.le_refl _, hi, S0.out.1, rfl, S0.out.2⟩
      case round =>
        obtain ⟨i2, rfl, hi2, hi3, hid⟩ := hrel
        have he := HE.out
        clear S0
        obtain ⟨q1, q3, q4⟩ := hid.out
        by_cases c1 : i2 ≤ j
        · have ka := q1.cell (i := a) (by omega)
          obtain ⟨xa, hxa⟩ : ∃ x, e[a]! = x := ⟨_, rfl⟩
          rw [hxa] at ka
          have pa : (a : Int) < (n : Int) := by omega
          have kb := q1.cell (i := i2) (by omega)
          obtain ⟨xb, hxb⟩ : ∃ x, e[i2]! = x := ⟨_, rfl⟩
          rw [hxb] at kb
          have pb : (i2 : Int) < (n : Int) := by omega
          have gd : decide ((i2 : Int) ≤ (j : Int)) = true := decide_eq_true (by omega)
          have LS : Hid _ := less_any xa xb
          by_cases hlt : xa < xb
          · have dlt : decide (xa < xb) = true := decide_eq_true hlt
            rw [dlt] at LS
            have UP : Hid (Sort.scanUp (fun x => !ltI e[a]! x) e j i = i2) := by
              show Sort.scanUp (fun x => !ltI e[a]! x) e j i = i2
              rw [← q3, Sort.scanUp.eq_def, if_neg]
              rw [hxa, hxb, Bool.and_eq_true]
              intro hh
              have h2 := hh.2
              rw [show ltI xa xb = true from dlt] at h2
              exact absurd h2 (by decide)
            have XL : Hid (e[a]! < e[i2]!) := (by rw [hxa, hxb]; exact hlt : e[a]! < e[i2]!)
            have S1 : Hid (∀ nq, RU (wr.drewN nq) g e ∧ Chg (fun k => k = g) w (wr.drewN nq)) := fun nq => ⟨q1.drewN nq, ⟨q4.os, q4.tape, q4.output, q4.size, q4.block⟩⟩
            clear hid q1 q3 q4 hxa hxb dlt
            go_wp2_with fail
            go_quiet ((go_at_call 40; refine Calls.quiet_of_same (LS.out _)))
            go_wp2_with fail
            clear ka kb LS gd
            go_loopw [10] (fun sj wq => ∃ j' : Nat, sj = .int .i64 j' ∧ j' ≤ j ∧ Hid (RU wq g e ∧ Sort.scanDown (fun x => ltI e[a]! x) e i2 j' = Sort.scanDown (fun x => ltI e[a]! x) e i2 j ∧ Chg (fun k => k = g) w wq)) (fun sj _ => (intOf sj).toNat)
            case atStart => exact ⟨j, rfl, Nat.le_refl _, (S1.out _).1, rfl, (S1.out _).2⟩
            case round =>
              obtain ⟨j', rfl, hj', hjd⟩ := hrel
              obtain ⟨q1, q3, q4⟩ := hjd.out
              clear S1
              by_cases c2 : i2 ≤ j'
              · obtain ⟨m, hm⟩ : ∃ m, j' = m + 1 := ⟨j' - 1, by omega⟩
                subst hm
                have la := q1.cell (i := a) (by omega)
                obtain ⟨ya, hya⟩ : ∃ x, e[a]! = x := ⟨_, rfl⟩
                rw [hya] at la
                have oa : (a : Int) < (n : Int) := by omega
                have kb := q1.cell (i := m + 1) (by omega)
                obtain ⟨yb, hyb⟩ : ∃ x, e[m + 1]! = x := ⟨_, rfl⟩
                rw [hyb] at kb
                have pb : ((m + 1 : Nat) : Int) < (n : Int) := by omega
                have pb2 : (m : Int) + 1 < (n : Int) := by omega
                have gd : decide ((i2 : Int) ≤ ((m + 1 : Nat) : Int)) = true := decide_eq_true (by omega)
                have gd2 : decide ((i2 : Int) ≤ (m : Int) + 1) = true := decide_eq_true (by omega)
                have LS : Hid _ := less_any ya yb
                by_cases hlt : ya < yb
                · have dlt : decide (ya < yb) = true := decide_eq_true hlt
                  rw [dlt] at LS
                  have R : Hid (∀ nq, RU (wr.drewN nq) g e ∧ Sort.scanDown (fun x => ltI e[a]! x) e i2 m = Sort.scanDown (fun x => ltI e[a]! x) e i2 j ∧ Chg (fun k => k = g) w (wr.drewN nq)) := fun nq => by
                    refine ⟨q1.drewN nq, ?_, ⟨q4.os, q4.tape, q4.output, q4.size, q4.block⟩⟩
                    rw [← q3]
                    show _ = Sort.scanDown (fun x => ltI e[a]! x) e i2 (m + 1)
                    rw [Sort.scanDown, if_pos]
                    rw [hya, hyb, Bool.and_eq_true]
                    exact ⟨decide_eq_true c2, dlt⟩
                  clear hjd q1 q3 q4 hya hyb dlt
                  go_wp2_with fail
                  go_quiet ((go_at_call 40; refine Calls.quiet_of_same (LS.out _)))
                  go_wp2_with fail
                  go_roundw
                  case rel => exact ⟨m, by go_num, by omega, R.out _⟩
                  case measure => simp [intOf]
                · have dlt : decide (ya < yb) = false := decide_eq_false hlt
                  rw [dlt] at LS
                  have hne : ¬ (i2 = m + 1) := fun h => by
                    have := XL.out
                    rw [h, hyb, hya] at this
                    exact hlt this
                  have hne2 : ¬ (m + 1 = i2) := fun h => hne h.symm
                  have kc := q1.cell (i := i2) (by omega)
                  obtain ⟨yc, hyc⟩ : ∃ x, e[i2]! = x := ⟨_, rfl⟩
                  rw [hyc] at kc
                  have pc : (i2 : Int) < (n : Int) := by omega
                  have fc := q1.fr i2
                  have fb := q1.fr (m + 1)
                  have gt : ¬ (((m + 1 : Nat) : Int) < (i2 : Int)) := by omega
                  have gt2 : ¬ ((m : Int) + 1 < (i2 : Int)) := by omega
                  have hd : Sort.scanDown (fun x => ltI e[a]! x) e i2 j = m + 1 := by
                    rw [← q3, Sort.scanDown, if_neg]
                    rw [hya, hyb, Bool.and_eq_true]
                    exact fun hh => hlt (of_decide_eq_true hh.2)
                  have R : Hid (∀ nq, RU (((wr.drewN nq).setCell ⟨g, i2, none⟩ (.int .u64 yb)).setCell ⟨g, m + 1, none⟩ (.int .u64 yc)) g (Sort.swp e i2 (m + 1)) ∧ (Sort.swp e i2 (m + 1)).size = n ∧ Sort.partEqLoop ltI a (i2 + 1) m (Sort.swp e i2 (m + 1)) = R0 ∧ Chg (fun k => k = g) w (((wr.drewN nq).setCell ⟨g, i2, none⟩ (.int .u64 yb)).setCell ⟨g, m + 1, none⟩ (.int .u64 yc))) := fun nq => by
                    have q1' : RU (wr.drewN nq) g e := q1.drewN nq
                    have := q1'.swp (i := i2) (j := m + 1) (by omega) (by omega)
                    rw [hyb, hyc] at this
                    refine ⟨this, by rw [swp_size]; exact he, ?_, ?_⟩
                    · rw [← PQ.out, Sort.partEqLoop_eq ltI a i j e, UP.out, hd, if_neg (by omega)]
                      rfl
                    · have c2 : Chg (fun k => k = g) w (wr.drewN nq) := ⟨q4.os, q4.tape, q4.output, q4.size, q4.block⟩
                      exact (c2.setCell (p := ⟨g, i2, none⟩) (.inl rfl) _).setCell (p := ⟨g, m + 1, none⟩) (.inl rfl) _
                  clear hjd q1 q3 q4 hya hyb hyc dlt hd
                  go_wp2_with fail
                  go_quiet ((go_at_call 40; refine Calls.quiet_of_same (LS.out _)))
                  go_wp2_with fail
                  go_region
                  go_wp2_with fail
                  go_roundw
                  case rel => exact ⟨i2 + 1, m, Sort.swp e i2 (m + 1), by go_num, by go_num, by omega, by omega, by omega, R.out _⟩
                  case measure => simp [intOf]; omega
              · have gd : decide ((i2 : Int) ≤ (j' : Int)) = false := decide_eq_false (by omega)
                have gt : (j' : Int) < (i2 : Int) := by omega
                have hd : Sort.scanDown (fun x => ltI e[a]! x) e i2 j = j' := by
                  rw [← q3]
                  cases j' with
                  | zero => rfl
                  | succ m =>
                    rw [Sort.scanDown, if_neg]
                    rw [Bool.and_eq_true]
                    exact fun hh => c2 (of_decide_eq_true hh.1)
                have R : Hid (∀ nq, R0.1 = i2 ∧ RU (wr.drewN nq) g R0.2 ∧ R0.2.size = n ∧ Chg (fun k => k = g) w (wr.drewN nq)) := fun nq => by
                  rw [← PQ.out, Sort.partEqLoop_eq ltI a i j e, UP.out, hd, if_pos (by omega)]
                  exact ⟨rfl, q1.drewN nq, he, ⟨q4.os, q4.tape, q4.output, q4.size, q4.block⟩⟩
                clear hjd q1 q3 q4 hd
                go_wp2_with fail
                go_quiet (fail)
                go_wp2_with fail
                go_ret
                exact ⟨by rw [(R.out 0).1]; rfl, (R.out _).2⟩
          · have dlt : decide (xa < xb) = false := decide_eq_false hlt
            rw [dlt] at LS
            have R : Hid (∀ nq, RU (wr.drewN nq) g e ∧ Sort.scanUp (fun x => !ltI e[a]! x) e j (i2 + 1) = Sort.scanUp (fun x => !ltI e[a]! x) e j i ∧ Chg (fun k => k = g) w (wr.drewN nq)) := fun nq => by
              refine ⟨q1.drewN nq, ?_, ⟨q4.os, q4.tape, q4.output, q4.size, q4.block⟩⟩
              rw [← q3]
              show _ = Sort.scanUp (fun x => !ltI e[a]! x) e j i2
              rw [Sort.scanUp.eq_def (fun x => !ltI e[a]! x) e j i2, if_pos]
              rw [hxa, hxb, Bool.and_eq_true]
              exact ⟨decide_eq_true c1, by rw [show ltI xa xb = false from dlt]; rfl⟩
            clear hid q1 q3 q4 hxa hxb dlt he
            go_wp2_with fail
            go_quiet ((go_at_call 40; refine Calls.quiet_of_same (LS.out _)))
            go_wp2_with fail
            go_roundw
            case rel => exact ⟨i2 + 1, by go_num, by omega, by omega, R.out _⟩
            case measure => simp [intOf]; omega
        · have gd : decide ((i2 : Int) ≤ (j : Int)) = false := decide_eq_false (by omega)
          have UP : Hid (Sort.scanUp (fun x => !ltI e[a]! x) e j i = i2) := by
            show Sort.scanUp (fun x => !ltI e[a]! x) e j i = i2
            rw [← q3, Sort.scanUp.eq_def, if_neg]
            rw [Bool.and_eq_true]
            exact fun hh => c1 (of_decide_eq_true hh.1)
          have S1 : Hid (∀ nq, RU (wr.drewN nq) g e ∧ Chg (fun k => k = g) w (wr.drewN nq)) := fun nq => ⟨q1.drewN nq, ⟨q4.os, q4.tape, q4.output, q4.size, q4.block⟩⟩
          clear hid q1 q3 q4
          go_wp2_with fail
          go_quiet (fail)
          go_wp2_with fail
          clear gd
          go_loopw [10] (fun sj wq => ∃ j' : Nat, sj = .int .i64 j' ∧ j' ≤ j ∧ Hid (RU wq g e ∧ Sort.scanDown (fun x => ltI e[a]! x) e i2 j' = Sort.scanDown (fun x => ltI e[a]! x) e i2 j ∧ Chg (fun k => k = g) w wq)) (fun sj _ => (intOf sj).toNat)
          case atStart => exact ⟨j, rfl, Nat.le_refl _, (S1.out _).1, rfl, (S1.out _).2⟩
          case round =>
            obtain ⟨j', rfl, hj', hjd⟩ := hrel
            obtain ⟨q1, q3, q4⟩ := hjd.out
            clear S1
            by_cases c2 : i2 ≤ j'
            · exact absurd c2 (by omega)
            · have gd : decide ((i2 : Int) ≤ (j' : Int)) = false := decide_eq_false (by omega)
              have gt : (j' : Int) < (i2 : Int) := by omega
              have hd : Sort.scanDown (fun x => ltI e[a]! x) e i2 j = j' := by
                rw [← q3]
                cases j' with
                | zero => rfl
                | succ m =>
                  rw [Sort.scanDown, if_neg]
                  rw [Bool.and_eq_true]
                  exact fun hh => c2 (of_decide_eq_true hh.1)
              have R : Hid (∀ nq, R0.1 = i2 ∧ RU (wr.drewN nq) g R0.2 ∧ R0.2.size = n ∧ Chg (fun k => k = g) w (wr.drewN nq)) := fun nq => by
                rw [← PQ.out, Sort.partEqLoop_eq ltI a i j e, UP.out, hd, if_pos (by omega)]
                exact ⟨rfl, q1.drewN nq, he, ⟨q4.os, q4.tape, q4.output, q4.size, q4.block⟩⟩
              clear hjd q1 q3 q4 hd
              go_wp2_with fail
              go_quiet (fail)
              go_wp2_with fail
              go_ret
              exact ⟨by rw [(R.out 0).1]; rfl, (R.out _).2⟩
  · have pa : ¬ (pivot = a) := fun h => ap h.symm
    clear hx0 hx1
    go_region
    go_wp2_with fail
    go_loopw [9, 10] (fun si sj wr => ∃ (i j : Nat) (e : Array Int), si = .int .i64 i ∧ sj = .int .i64 j ∧ i ≤ n + 1 ∧ j < n ∧ a < i ∧ Hid (RU wr g e ∧ e.size = n ∧ Sort.partEqLoop ltI a i j e = R0 ∧ Chg (fun k => k = g) w wr)) (fun si sj _ => (intOf sj + 1 - intOf si).toNat)
    case atStart => exact ⟨a + 1, b - 1, _, by go_num, by go_num, by omega, by omega, by omega, RW.out.1, HS.out, H0.out, RW.out.2⟩
    case round =>
      obtain ⟨i, j, e, rfl, rfl, hi, hj, hai, hid⟩ := hrel
      clear RW HS H0
      obtain ⟨z1, he, z3, z4⟩ := hid.out
      have PQ : Hid _ := z3
      have S0 : Hid _ := And.intro z1 z4
      clear hid z1 z3 z4
      have HE : Hid _ := he
      clear he
      go_wp2_with fail
      go_loopw [9] (fun si wq => ∃ i2 : Nat, si = .int .i64 i2 ∧ i ≤ i2 ∧ i2 ≤ n + 1 ∧ Hid (RU wq g e ∧ Sort.scanUp (fun x => !ltI e[a]! x) e j i2 = Sort.scanUp (fun x => !ltI e[a]! x) e j i ∧ Chg (fun k => k = g) w wq)) (fun si _ => ((j : Int) + 1 - intOf si).toNat)
      case atStart => exact ⟨i, rfl, Nat.le_refl _, hi, S0.out.1, rfl, S0.out.2⟩
      case round =>
        obtain ⟨i2, rfl, hi2, hi3, hid⟩ := hrel
        have he := HE.out
        clear S0
        obtain ⟨q1, q3, q4⟩ := hid.out
        by_cases c1 : i2 ≤ j
        · have ka := q1.cell (i := a) (by omega)
          obtain ⟨xa, hxa⟩ : ∃ x, e[a]! = x := ⟨_, rfl⟩
          rw [hxa] at ka
          have pa : (a : Int) < (n : Int) := by omega
          have kb := q1.cell (i := i2) (by omega)
          obtain ⟨xb, hxb⟩ : ∃ x, e[i2]! = x := ⟨_, rfl⟩
          rw [hxb] at kb
          have pb : (i2 : Int) < (n : Int) := by omega
          have gd : decide ((i2 : Int) ≤ (j : Int)) = true := decide_eq_true (by omega)
          have LS : Hid _ := less_any xa xb
          by_cases hlt : xa < xb
          · have dlt : decide (xa < xb) = true := decide_eq_true hlt
            rw [dlt] at LS
            have UP : Hid (Sort.scanUp (fun x => !ltI e[a]! x) e j i = i2) := by
              show Sort.scanUp (fun x => !ltI e[a]! x) e j i = i2
              rw [← q3, Sort.scanUp.eq_def, if_neg]
              rw [hxa, hxb, Bool.and_eq_true]
              intro hh
              have h2 := hh.2
              rw [show ltI xa xb = true from dlt] at h2
              exact absurd h2 (by decide)
            have XL : Hid (e[a]! < e[i2]!) := (by rw [hxa, hxb]; exact hlt : e[a]! < e[i2]!)
            have S1 : Hid (∀ nq, RU (wr.drewN nq) g e ∧ Chg (fun k => k = g) w (wr.drewN nq)) := fun nq => ⟨q1.drewN nq, ⟨q4.os, q4.tape, q4.output, q4.size, q4.block⟩⟩
            clear hid q1 q3 q4 hxa hxb dlt
            go_wp2_with fail
            go_quiet ((go_at_call 40; refine Calls.quiet_of_same (LS.out _)))
            go_wp2_with fail
            clear ka kb LS gd
            go_loopw [10] (fun sj wq => ∃ j' : Nat, sj = .int .i64 j' ∧ j' ≤ j ∧ Hid (RU wq g e ∧ Sort.scanDown (fun x => ltI e[a]! x) e i2 j' = Sort.scanDown (fun x => ltI e[a]! x) e i2 j ∧ Chg (fun k => k = g) w wq)) (fun sj _ => (intOf sj).toNat)
            case atStart => exact ⟨j, rfl, Nat.le_refl _, (S1.out _).1, rfl, (S1.out _).2⟩
            case round =>
              obtain ⟨j', rfl, hj', hjd⟩ := hrel
              obtain ⟨q1, q3, q4⟩ := hjd.out
              clear S1
              by_cases c2 : i2 ≤ j'
              · obtain ⟨m, hm⟩ : ∃ m, j' = m + 1 := ⟨j' - 1, by omega⟩
                subst hm
                have la := q1.cell (i := a) (by omega)
                obtain ⟨ya, hya⟩ : ∃ x, e[a]! = x := ⟨_, rfl⟩
                rw [hya] at la
                have oa : (a : Int) < (n : Int) := by omega
                have kb := q1.cell (i := m + 1) (by omega)
                obtain ⟨yb, hyb⟩ : ∃ x, e[m + 1]! = x := ⟨_, rfl⟩
                rw [hyb] at kb
                have pb : ((m + 1 : Nat) : Int) < (n : Int) := by omega
                have pb2 : (m : Int) + 1 < (n : Int) := by omega
                have gd : decide ((i2 : Int) ≤ ((m + 1 : Nat) : Int)) = true := decide_eq_true (by omega)
                have gd2 : decide ((i2 : Int) ≤ (m : Int) + 1) = true := decide_eq_true (by omega)
                have LS : Hid _ := less_any ya yb
                by_cases hlt : ya < yb
                · have dlt : decide (ya < yb) = true := decide_eq_true hlt
                  rw [dlt] at LS
                  have R : Hid (∀ nq, RU (wr.drewN nq) g e ∧ Sort.scanDown (fun x => ltI e[a]! x) e i2 m = Sort.scanDown (fun x => ltI e[a]! x) e i2 j ∧ Chg (fun k => k = g) w (wr.drewN nq)) := fun nq => by
                    refine ⟨q1.drewN nq, ?_, ⟨q4.os, q4.tape, q4.output, q4.size, q4.block⟩⟩
                    rw [← q3]
                    show _ = Sort.scanDown (fun x => ltI e[a]! x) e i2 (m + 1)
                    rw [Sort.scanDown, if_pos]
                    rw [hya, hyb, Bool.and_eq_true]
                    exact ⟨decide_eq_true c2, dlt⟩
                  clear hjd q1 q3 q4 hya hyb dlt
                  go_wp2_with fail
                  go_quiet ((go_at_call 40; refine Calls.quiet_of_same (LS.out _)))
                  go_wp2_with fail
                  go_roundw
                  case rel => exact ⟨m, by go_num, by omega, R.out _⟩
                  case measure => simp [intOf]
                · have dlt : decide (ya < yb) = false := decide_eq_false hlt
                  rw [dlt] at LS
                  have hne : ¬ (i2 = m + 1) := fun h => by
                    have := XL.out
                    rw [h, hyb, hya] at this
                    exact hlt this
                  have hne2 : ¬ (m + 1 = i2) := fun h => hne h.symm
                  have kc := q1.cell (i := i2) (by omega)
                  obtain ⟨yc, hyc⟩ : ∃ x, e[i2]! = x := ⟨_, rfl⟩
                  rw [hyc] at kc
                  have pc : (i2 : Int) < (n : Int) := by omega
                  have fc := q1.fr i2
                  have fb := q1.fr (m + 1)
                  have gt : ¬ (((m + 1 : Nat) : Int) < (i2 : Int)) := by omega
                  have gt2 : ¬ ((m : Int) + 1 < (i2 : Int)) := by omega
                  have hd : Sort.scanDown (fun x => ltI e[a]! x) e i2 j = m + 1 := by
                    rw [← q3, Sort.scanDown, if_neg]
                    rw [hya, hyb, Bool.and_eq_true]
                    exact fun hh => hlt (of_decide_eq_true hh.2)
                  have R : Hid (∀ nq, RU (((wr.drewN nq).setCell ⟨g, i2, none⟩ (.int .u64 yb)).setCell ⟨g, m + 1, none⟩ (.int .u64 yc)) g (Sort.swp e i2 (m + 1)) ∧ (Sort.swp e i2 (m + 1)).size = n ∧ Sort.partEqLoop ltI a (i2 + 1) m (Sort.swp e i2 (m + 1)) = R0 ∧ Chg (fun k => k = g) w (((wr.drewN nq).setCell ⟨g, i2, none⟩ (.int .u64 yb)).setCell ⟨g, m + 1, none⟩ (.int .u64 yc))) := fun nq => by
                    have q1' : RU (wr.drewN nq) g e := q1.drewN nq
                    have := q1'.swp (i := i2) (j := m + 1) (by omega) (by omega)
                    rw [hyb, hyc] at this
                    refine ⟨this, by rw [swp_size]; exact he, ?_, ?_⟩
                    · rw [← PQ.out, Sort.partEqLoop_eq ltI a i j e, UP.out, hd, if_neg (by omega)]
                      rfl
                    · have c2 : Chg (fun k => k = g) w (wr.drewN nq) := ⟨q4.os, q4.tape, q4.output, q4.size, q4.block⟩
                      exact (c2.setCell (p := ⟨g, i2, none⟩) (.inl rfl) _).setCell (p := ⟨g, m + 1, none⟩) (.inl rfl) _
                  clear hjd q1 q3 q4 hya hyb hyc dlt hd
                  go_wp2_with fail
                  go_quiet ((go_at_call 40; refine Calls.quiet_of_same (LS.out _)))
                  go_wp2_with fail
                  go_region
                  go_wp2_with fail
                  go_roundw
                  case rel => exact ⟨i2 + 1, m, Sort.swp e i2 (m + 1), by go_num, by go_num, by omega, by omega, by omega, R.out _⟩
                  case measure => simp [intOf]; omega
              · have gd : decide ((i2 : Int) ≤ (j' : Int)) = false := decide_eq_false (by omega)
                have gt : (j' : Int) < (i2 : Int) := by omega
                have hd : Sort.scanDown (fun x => ltI e[a]! x) e i2 j = j' := by
                  rw [← q3]
                  cases j' with
                  | zero => rfl
                  | succ m =>
                    rw [Sort.scanDown, if_neg]
                    rw [Bool.and_eq_true]
                    exact fun hh => c2 (of_decide_eq_true hh.1)
                have R : Hid (∀ nq, R0.1 = i2 ∧ RU (wr.drewN nq) g R0.2 ∧ R0.2.size = n ∧ Chg (fun k => k = g) w (wr.drewN nq)) := fun nq => by
                  rw [← PQ.out, Sort.partEqLoop_eq ltI a i j e, UP.out, hd, if_pos (by omega)]
                  exact ⟨rfl, q1.drewN nq, he, ⟨q4.os, q4.tape, q4.output, q4.size, q4.block⟩⟩
                clear hjd q1 q3 q4 hd
                go_wp2_with fail
                go_quiet (fail)
                go_wp2_with fail
                go_ret
                exact ⟨by rw [(R.out 0).1]; rfl, (R.out _).2⟩
          · have dlt : decide (xa < xb) = false := decide_eq_false hlt
            rw [dlt] at LS
            have R : Hid (∀ nq, RU (wr.drewN nq) g e ∧ Sort.scanUp (fun x => !ltI e[a]! x) e j (i2 + 1) = Sort.scanUp (fun x => !ltI e[a]! x) e j i ∧ Chg (fun k => k = g) w (wr.drewN nq)) := fun nq => by
              refine ⟨q1.drewN nq, ?_, ⟨q4.os, q4.tape, q4.output, q4.size, q4.block⟩⟩
              rw [← q3]
              show _ = Sort.scanUp (fun x => !ltI e[a]! x) e j i2
              rw [Sort.scanUp.eq_def (fun x => !ltI e[a]! x) e j i2, if_pos]
              rw [hxa, hxb, Bool.and_eq_true]
              exact ⟨decide_eq_true c1, by rw [show ltI xa xb = false from dlt]; rfl⟩
            clear hid q1 q3 q4 hxa hxb dlt he
            go_wp2_with fail
            go_quiet ((go_at_call 40; refine Calls.quiet_of_same (LS.out _)))
            go_wp2_with fail
            go_roundw
            case rel => exact ⟨i2 + 1, by go_num, by omega, by omega, R.out _⟩
            case measure => simp [intOf]; omega
        · have gd : decide ((i2 : Int) ≤ (j : Int)) = false := decide_eq_false (by omega)
          have UP : Hid (Sort.scanUp (fun x => !ltI e[a]! x) e j i = i2) := by
            show Sort.scanUp (fun x => !ltI e[a]! x) e j i = i2
            rw [← q3, Sort.scanUp.eq_def, if_neg]
            rw [Bool.and_eq_true]
            exact fun hh => c1 (of_decide_eq_true hh.1)
          have S1 : Hid (∀ nq, RU (wr.drewN nq) g e ∧ Chg (fun k => k = g) w (wr.drewN nq)) := fun nq => ⟨q1.drewN nq, ⟨q4.os, q4.tape, q4.output, q4.size, q4.block⟩⟩
          clear hid q1 q3 q4
          go_wp2_with fail
          go_quiet (fail)
          go_wp2_with fail
          clear gd
          go_loopw [10] (fun sj wq => ∃ j' : Nat, sj = .int .i64 j' ∧ j' ≤ j ∧ Hid (RU wq g e ∧ Sort.scanDown (fun x => ltI e[a]! x) e i2 j' = Sort.scanDown (fun x => ltI e[a]! x) e i2 j ∧ Chg (fun k => k = g) w wq)) (fun sj _ => (intOf sj).toNat)
          case atStart => exact ⟨j, rfl, Nat.le_refl _, (S1.out _).1, rfl, (S1.out _).2⟩
          case round =>
            obtain ⟨j', rfl, hj', hjd⟩ := hrel
            obtain ⟨q1, q3, q4⟩ := hjd.out
            clear S1
            by_cases c2 : i2 ≤ j'
            · exact absurd c2 (by omega)
            · have gd : decide ((i2 : Int) ≤ (j' : Int)) = false := decide_eq_false (by omega)
              have gt : (j' : Int) < (i2 : Int) := by omega
              have hd : Sort.scanDown (fun x => ltI e[a]! x) e i2 j = j' := by
                rw [← q3]
                cases j' with
                | zero => rfl
                | succ m =>
                  rw [Sort.scanDown, if_neg]
                  rw [Bool.and_eq_true]
                  exact fun hh => c2 (of_decide_eq_true hh.1)
              have R : Hid (∀ nq, R0.1 = i2 ∧ RU (wr.drewN nq) g R0.2 ∧ R0.2.size = n ∧ Chg (fun k => k = g) w (wr.drewN nq)) := fun nq => by
                rw [← PQ.out, Sort.partEqLoop_eq ltI a i j e, UP.out, hd, if_pos (by omega)]
                exact ⟨rfl, q1.drewN nq, he, ⟨q4.os, q4.tape, q4.output, q4.size, q4.block⟩⟩
              clear hjd q1 q3 q4 hd
              go_wp2_with fail
              go_quiet (fail)
              go_wp2_with fail
              go_ret
              exact ⟨by rw [(R.out 0).1]; rfl, (R.out _).2⟩

end Go.Proofs.Ytnfcmpffihmnmaa
