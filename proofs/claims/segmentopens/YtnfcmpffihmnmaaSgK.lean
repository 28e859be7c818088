/-
  partitionOrdered. Laid by tools/gen/seg/genpart.py.
-/
import Derived.Test.YtnfcmpffihmnmaaSgF
namespace Go.Proofs.Ytnfcmpffihmnmaa
open Go.RowKit

set_option maxRecDepth 100000 in
set_option maxHeartbeats 8000000 in
theorem part_any {w : World} {g n cap : Nat} {d : Array Int} (h : RU w g d) (hn : d.size = n) (hn2 : n ≤ 1099511627776) (a b pivot : Nat) (hab : a < b) (hbn : b ≤ n) (hp : a ≤ pivot) (hp2 : pivot < b) :
    Calls Try.prog 42 #[.slice (some ⟨g, 0, none⟩) n cap, .int .i64 a, .int .i64 b, .int .i64 pivot] w fun e w' => e = .returned (.tuple #[.int .i64 (Sort.partition ltI d a b pivot).1, .bool (Sort.partition ltI d a b pivot).2.1]) ∧ RU w' g (Sort.partition ltI d a b pivot).2.2 ∧ (Sort.partition ltI d a b pivot).2.2.size = n ∧ Chg (fun k => k = g) w w' := by
  have k0 := h.cell (i := a) (by omega)
  have k1 := h.cell (i := pivot) (by omega)
  have f0 := h.fr a
  have f1 := h.fr pivot
  obtain ⟨x0, hx0⟩ : ∃ x, d[a]! = x := ⟨_, rfl⟩
  obtain ⟨x1, hx1⟩ : ∃ x, d[pivot]! = x := ⟨_, rfl⟩
  rw [hx0] at k0
  rw [hx1] at k1
  have p0 : (a : Int) < (n : Int) := by omega
  have p1 : (pivot : Int) < (n : Int) := by omega
  have rw0 : RU (((w.setCell ⟨g, a, none⟩ (.int .u64 x1)).setCell ⟨g, pivot, none⟩ (.int .u64 x0)).drew) g (Sort.swp d a pivot) ∧ Chg (fun k => k = g) w (((w.setCell ⟨g, a, none⟩ (.int .u64 x1)).setCell ⟨g, pivot, none⟩ (.int .u64 x0)).drew) := by
    have := h.swp (i := a) (j := pivot) (by omega) (by omega)
    rw [hx0, hx1] at this
    exact ⟨this.drewN 1, (((Chg.refl (fun k => k = g) w).setCell (p := ⟨g, a, none⟩) (.inl rfl) _).setCell (p := ⟨g, pivot, none⟩) (.inl rfl) _).drew⟩
  have S0 : Hid _ := rw0
  have HE : Hid ((Sort.swp d a pivot).size = n) := (swp_size d a pivot).trans hn
  obtain ⟨R0, hR0⟩ : ∃ R, R = Sort.partition ltI d a b pivot := ⟨_, rfl⟩
  obtain ⟨i, hia⟩ : ∃ i, i = a + 1 := ⟨_, rfl⟩
  obtain ⟨j, hjb⟩ : ∃ j, j = b - 1 := ⟨_, rfl⟩
  obtain ⟨e, hD0⟩ : ∃ D, D = Sort.swp d a pivot := ⟨_, rfl⟩
  have pt : R0 = if Sort.scanUp (fun x => ltI x e[a]!) e j i > Sort.scanDown (fun x => !ltI x e[a]!) e (Sort.scanUp (fun x => ltI x e[a]!) e j i) j then (Sort.scanDown (fun x => !ltI x e[a]!) e (Sort.scanUp (fun x => ltI x e[a]!) e j i) j, true, Sort.swp e (Sort.scanDown (fun x => !ltI x e[a]!) e (Sort.scanUp (fun x => ltI x e[a]!) e j i) j) a) else ((Sort.partLoop ltI a (Sort.scanUp (fun x => ltI x e[a]!) e j i + 1) (Sort.scanDown (fun x => !ltI x e[a]!) e (Sort.scanUp (fun x => ltI x e[a]!) e j i) j - 1) (Sort.swp e (Sort.scanUp (fun x => ltI x e[a]!) e j i) (Sort.scanDown (fun x => !ltI x e[a]!) e (Sort.scanUp (fun x => ltI x e[a]!) e j i) j))).1, false, Sort.swp (Sort.partLoop ltI a (Sort.scanUp (fun x => ltI x e[a]!) e j i + 1) (Sort.scanDown (fun x => !ltI x e[a]!) e (Sort.scanUp (fun x => ltI x e[a]!) e j i) j - 1) (Sort.swp e (Sort.scanUp (fun x => ltI x e[a]!) e j i) (Sort.scanDown (fun x => !ltI x e[a]!) e (Sort.scanUp (fun x => ltI x e[a]!) e j i) j))).2 (Sort.partLoop ltI a (Sort.scanUp (fun x => ltI x e[a]!) e j i + 1) (Sort.scanDown (fun x => !ltI x e[a]!) e (Sort.scanUp (fun x => ltI x e[a]!) e j i) j - 1) (Sort.swp e (Sort.scanUp (fun x => ltI x e[a]!) e j i) (Sort.scanDown (fun x => !ltI x e[a]!) e (Sort.scanUp (fun x => ltI x e[a]!) e j i) j))).1 a) := by
    rw [hR0, hia, hjb, hD0]
    rfl
  have PT : Hid _ := pt
  rw [← hD0] at S0 HE
  rw [← hR0]
  have hi : i ≤ n + 1 := by omega
  have hj : j < n := by omega
  have hai : a < i := by omega
  have hij : i ≤ j + 1 := by omega
  have EI : Hid ((a : Int) + 1 = (i : Int)) := (by omega : (a : Int) + 1 = (i : Int))
  have EJ : Hid ((b : Int) - 1 = (j : Int)) := (by omega : (b : Int) - 1 = (j : Int))
  clear h hn rw0 hR0 hD0 pt hia hjb
  go_enter Try.func42, Try.ntmps42
  go_upto_region 1 with fail
  by_cases ap : a = pivot
  · subst ap
    have hxx : x1 = x0 := by rw [← hx0, ← hx1]
    subst hxx
    clear k1 hx0 hx1 f1 p1
    go_region
    go_wp2_with fail
    rw [EI.out, EJ.out]
    clear EI EJ
    go_loopw [10] (fun si wq => ∃ i2 : Nat, si = .int .i64 i2 ∧ i ≤ i2 ∧ i2 ≤ n + 1 ∧ Hid (RU wq g e ∧ Sort.scanUp (fun x => ltI x e[a]!) e j i2 = Sort.scanUp (fun x => ltI x e[a]!) e j i ∧ Chg (fun k => k = g) w wq)) (fun si _ => ((j : Int) + 1 - intOf si).toNat)
    case atStart => exact ⟨i, rfl, Nat.le_refl _, by omega, S0.out.1, rfl, S0.out.2⟩
    case round =>
      obtain ⟨i2, rfl, hi2, hi3, hid⟩ := hrel
      have he := HE.out
      clear S0
      obtain ⟨q1, q3, q4⟩ := hid.out
      by_cases c1 : i2 ≤ j
      · have ka := q1.cell (i := a) (by omega)
        obtain ⟨xa, hxa⟩ : ∃ x, e[a]! = x := ⟨_, rfl⟩
        rw [hxa] at ka
        have pa : (a : Int) < (n : Int) := by omega
        have kb := q1.cell (i := i2) (by omega)
        obtain ⟨xb, hxb⟩ : ∃ x, e[i2]! = x := ⟨_, rfl⟩
        rw [hxb] at kb
        have pb : (i2 : Int) < (n : Int) := by omega
        have gd : decide ((i2 : Int) ≤ (j : Int)) = true := decide_eq_true (by omega)
        have LS : Hid _ := less_any xb xa
        by_cases hlt : xb < xa
        · have dlt : decide (xb < xa) = true := decide_eq_true hlt
          rw [dlt] at LS
          have R : Hid (∀ nq, RU (wr.drewN nq) g e ∧ Sort.scanUp (fun x => ltI x e[a]!) e j (i2 + 1) = Sort.scanUp (fun x => ltI x e[a]!) e j i ∧ Chg (fun k => k = g) w (wr.drewN nq)) := fun nq => by
            refine ⟨q1.drewN nq, ?_, ⟨q4.os, q4.tape, q4.output, q4.size, q4.block⟩⟩
            rw [← q3]
            show _ = Sort.scanUp (fun x => ltI x e[a]!) e j i2
            rw [Sort.scanUp.eq_def (fun x => ltI x e[a]!) e j i2, if_pos]
            rw [hxa, hxb, Bool.and_eq_true]
            exact ⟨decide_eq_true c1, dlt⟩
          clear hid q1 q3 q4 hxa hxb dlt he
          go_wp2_with fail
          go_quiet ((go_at_call 40; refine Calls.quiet_of_same (LS.out _)))
          go_wp2_with fail
          go_roundw
          case rel => exact ⟨i2 + 1, by go_num, by omega, by omega, R.out _⟩
          case measure => simp [intOf]; omega
        · have dlt : decide (xb < xa) = false := decide_eq_false hlt
          rw [dlt] at LS
          have UP : Hid (Sort.scanUp (fun x => ltI x e[a]!) e j i = i2) := by
            show Sort.scanUp (fun x => ltI x e[a]!) e j i = i2
            rw [← q3, Sort.scanUp.eq_def, if_neg]
            rw [hxa, hxb, Bool.and_eq_true]
            exact fun hh => hlt (of_decide_eq_true hh.2)
          have XL : Hid (¬ (e[i2]! < e[a]!)) := (by rw [hxa, hxb]; exact hlt : ¬ (e[i2]! < e[a]!))
          have S1 : Hid (∀ nq, RU (wr.drewN nq) g e ∧ Chg (fun k => k = g) w (wr.drewN nq)) := fun nq => ⟨q1.drewN nq, ⟨q4.os, q4.tape, q4.output, q4.size, q4.block⟩⟩
          clear hid q1 q3 q4 hxa hxb dlt
          go_wp2_with fail
          go_quiet ((go_at_call 40; refine Calls.quiet_of_same (LS.out _)))
          go_wp2_with fail
          clear ka kb LS gd
          go_loopw [11] (fun sj wq => ∃ j' : Nat, sj = .int .i64 j' ∧ j' ≤ j ∧ Hid (RU wq g e ∧ Sort.scanDown (fun x => !ltI x e[a]!) e i2 j' = Sort.scanDown (fun x => !ltI x e[a]!) e i2 j ∧ Chg (fun k => k = g) w wq)) (fun sj _ => (intOf sj).toNat)
          case atStart => exact ⟨j, rfl, Nat.le_refl _, (S1.out _).1, rfl, (S1.out _).2⟩
          case round =>
            obtain ⟨j', rfl, hj', hjd⟩ := hrel
            obtain ⟨q1, q3, q4⟩ := hjd.out
            clear S1
            by_cases c2 : i2 ≤ j'
            · obtain ⟨m, hm⟩ : ∃ m, j' = m + 1 := ⟨j' - 1, by omega⟩
              subst hm
              have la := q1.cell (i := a) (by omega)
              obtain ⟨ya, hya⟩ : ∃ x, e[a]! = x := ⟨_, rfl⟩
              rw [hya] at la
              have oa : (a : Int) < (n : Int) := by omega
              have lb := q1.cell (i := m + 1) (by omega)
              obtain ⟨yb, hyb⟩ : ∃ x, e[m + 1]! = x := ⟨_, rfl⟩
              rw [hyb] at lb
              have ob : ((m + 1 : Nat) : Int) < (n : Int) := by omega
              have ob2 : (m : Int) + 1 < (n : Int) := by omega
              have gd : decide ((i2 : Int) ≤ ((m + 1 : Nat) : Int)) = true := decide_eq_true (by omega)
              have gd2 : decide ((i2 : Int) ≤ (m : Int) + 1) = true := decide_eq_true (by omega)
              have LS : Hid _ := less_any yb ya
              by_cases hlt : yb < ya
              · have dlt : decide (yb < ya) = true := decide_eq_true hlt
                rw [dlt] at LS
                have hne : ¬ (i2 = m + 1) := fun h => by
                  have := XL.out
                  rw [h, hyb, hya] at this
                  omega
                have hne2 : ¬ (m + 1 = i2) := fun h => hne h.symm
                have lc := q1.cell (i := i2) (by omega)
                obtain ⟨yc, hyc⟩ : ∃ x, e[i2]! = x := ⟨_, rfl⟩
                rw [hyc] at lc
                have oc : (i2 : Int) < (n : Int) := by omega
                have fc := q1.fr i2
                have fb := q1.fr (m + 1)
                have gt : ¬ (((m + 1 : Nat) : Int) < (i2 : Int)) := by omega
                have gt2 : ¬ ((m : Int) + 1 < (i2 : Int)) := by omega
                have hd : Sort.scanDown (fun x => !ltI x e[a]!) e i2 j = m + 1 := by
                  rw [← q3, Sort.scanDown, if_neg]
                  rw [hya, hyb, Bool.and_eq_true]
                  intro hh
                  have h2 := hh.2
                  rw [show ltI yb ya = true from dlt] at h2
                  exact absurd h2 (by decide)
                have R : Hid (∀ nq, RU (((wr.drewN nq).setCell ⟨g, i2, none⟩ (.int .u64 yb)).setCell ⟨g, m + 1, none⟩ (.int .u64 yc)) g (Sort.swp e i2 (m + 1)) ∧ (Sort.swp e i2 (m + 1)).size = n ∧ R0 = ((Sort.partLoop ltI a (i2 + 1) m (Sort.swp e i2 (m + 1))).1, false, Sort.swp (Sort.partLoop ltI a (i2 + 1) m (Sort.swp e i2 (m + 1))).2 (Sort.partLoop ltI a (i2 + 1) m (Sort.swp e i2 (m + 1))).1 a) ∧ Chg (fun k => k = g) w (((wr.drewN nq).setCell ⟨g, i2, none⟩ (.int .u64 yb)).setCell ⟨g, m + 1, none⟩ (.int .u64 yc))) := fun nq => by
                  have q1' : RU (wr.drewN nq) g e := q1.drewN nq
                  have := q1'.swp (i := i2) (j := m + 1) (by omega) (by omega)
                  rw [hyb, hyc] at this
                  refine ⟨this, by rw [swp_size]; exact he, ?_, ?_⟩
                  · rw [PT.out, UP.out, hd, if_neg (by omega)]
                    rfl
                  · have c2 : Chg (fun k => k = g) w (wr.drewN nq) := ⟨q4.os, q4.tape, q4.output, q4.size, q4.block⟩
                    exact (c2.setCell (p := ⟨g, i2, none⟩) (.inl rfl) _).setCell (p := ⟨g, m + 1, none⟩) (.inl rfl) _
                clear hjd q1 q3 q4 hya hyb hyc dlt hd
                go_wp2_with fail
                go_quiet ((go_at_call 40; refine Calls.quiet_of_same (LS.out _)))
                go_wp2_with fail
                go_region
                go_wp2_with fail
                clear la lb lc fc fb LS gd gd2 gt gt2 XL PT UP HE he
                go_loopw [10, 11] (fun si sj wr => ∃ (i j : Nat) (e : Array Int), si = .int .i64 i ∧ sj = .int .i64 j ∧ i ≤ n + 1 ∧ j < n ∧ a < i ∧ Hid (RU wr g e ∧ e.size = n ∧ R0 = ((Sort.partLoop ltI a i j e).1, false, Sort.swp (Sort.partLoop ltI a i j e).2 (Sort.partLoop ltI a i j e).1 a) ∧ Chg (fun k => k = g) w wr)) (fun si sj _ => (intOf sj + 1 - intOf si).toNat)
                case atStart => exact ⟨i2 + 1, m, Sort.swp e i2 (m + 1), by go_num, by go_num, by omega, by omega, by omega, R.out _⟩
                case round =>
                  clear R hlt hne hne2 oc ob ob2 oa c2 hj' c1 hi2 hi3 hj hi hai hij
                  obtain ⟨i, j, e, rfl, rfl, hi, hj, hai, hid⟩ := hrel
                  obtain ⟨z1, he, z3, z4⟩ := hid.out
                  obtain ⟨Z, hZ⟩ : ∃ Z, Sort.partLoop ltI a i j e = Z := ⟨_, rfl⟩
                  rw [hZ] at z3
                  have PT : Hid _ := z3
                  have PQ : Hid _ := hZ
                  have S0 : Hid _ := And.intro z1 z4
                  have HE : Hid _ := he
                  clear hid z1 z3 z4 he hZ
                  go_wp2_with fail
                  go_loopw [10] (fun si wq => ∃ i2 : Nat, si = .int .i64 i2 ∧ i ≤ i2 ∧ i2 ≤ n + 1 ∧ Hid (RU wq g e ∧ Sort.scanUp (fun x => ltI x e[a]!) e j i2 = Sort.scanUp (fun x => ltI x e[a]!) e j i ∧ Chg (fun k => k = g) w wq)) (fun si _ => ((j : Int) + 1 - intOf si).toNat)
                  case atStart => exact ⟨i, rfl, Nat.le_refl _, by omega, S0.out.1, rfl, S0.out.2⟩
                  case round =>
                    obtain ⟨i2, rfl, hi2, hi3, hid⟩ := hrel
                    have he := HE.out
                    clear S0
                    obtain ⟨q1, q3, q4⟩ := hid.out
                    by_cases c1 : i2 ≤ j
                    · have ka := q1.cell (i := a) (by omega)
                      obtain ⟨xa, hxa⟩ : ∃ x, e[a]! = x := ⟨_, rfl⟩
                      rw [hxa] at ka
                      have pa : (a : Int) < (n : Int) := by omega
                      have kb := q1.cell (i := i2) (by omega)
                      obtain ⟨xb, hxb⟩ : ∃ x, e[i2]! = x := ⟨_, rfl⟩
                      rw [hxb] at kb
                      have pb : (i2 : Int) < (n : Int) := by omega
                      have gd : decide ((i2 : Int) ≤ (j : Int)) = true := decide_eq_true (by omega)
                      have LS : Hid _ := less_any xb xa
                      by_cases hlt : xb < xa
                      · have dlt : decide (xb < xa) = true := decide_eq_true hlt
                        rw [dlt] at LS
                        have R : Hid (∀ nq, RU (wr.drewN nq) g e ∧ Sort.scanUp (fun x => ltI x e[a]!) e j (i2 + 1) = Sort.scanUp (fun x => ltI x e[a]!) e j i ∧ Chg (fun k => k = g) w (wr.drewN nq)) := fun nq => by
                          refine ⟨q1.drewN nq, ?_, ⟨q4.os, q4.tape, q4.output, q4.size, q4.block⟩⟩
                          rw [← q3]
                          show _ = Sort.scanUp (fun x => ltI x e[a]!) e j i2
                          rw [Sort.scanUp.eq_def (fun x => ltI x e[a]!) e j i2, if_pos]
                          rw [hxa, hxb, Bool.and_eq_true]
                          exact ⟨decide_eq_true c1, dlt⟩
                        clear hid q1 q3 q4 hxa hxb dlt he
                        go_wp2_with fail
                        go_quiet ((go_at_call 40; refine Calls.quiet_of_same (LS.out _)))
                        go_wp2_with fail
                        go_roundw
                        case rel => exact ⟨i2 + 1, by go_num, by omega, by omega, R.out _⟩
                        case measure => simp [intOf]; omega
                      · have dlt : decide (xb < xa) = false := decide_eq_false hlt
                        rw [dlt] at LS
                        have UP : Hid (Sort.scanUp (fun x => ltI x e[a]!) e j i = i2) := by
                          show Sort.scanUp (fun x => ltI x e[a]!) e j i = i2
                          rw [← q3, Sort.scanUp.eq_def, if_neg]
                          rw [hxa, hxb, Bool.and_eq_true]
                          exact fun hh => hlt (of_decide_eq_true hh.2)
                        have XL : Hid (¬ (e[i2]! < e[a]!)) := (by rw [hxa, hxb]; exact hlt : ¬ (e[i2]! < e[a]!))
                        have S1 : Hid (∀ nq, RU (wr.drewN nq) g e ∧ Chg (fun k => k = g) w (wr.drewN nq)) := fun nq => ⟨q1.drewN nq, ⟨q4.os, q4.tape, q4.output, q4.size, q4.block⟩⟩
                        clear hid q1 q3 q4 hxa hxb dlt
                        go_wp2_with fail
                        go_quiet ((go_at_call 40; refine Calls.quiet_of_same (LS.out _)))
                        go_wp2_with fail
                        clear ka kb LS gd
                        go_loopw [11] (fun sj wq => ∃ j' : Nat, sj = .int .i64 j' ∧ j' ≤ j ∧ Hid (RU wq g e ∧ Sort.scanDown (fun x => !ltI x e[a]!) e i2 j' = Sort.scanDown (fun x => !ltI x e[a]!) e i2 j ∧ Chg (fun k => k = g) w wq)) (fun sj _ => (intOf sj).toNat)
                        case atStart => exact ⟨j, rfl, Nat.le_refl _, (S1.out _).1, rfl, (S1.out _).2⟩
                        case round =>
                          obtain ⟨j', rfl, hj', hjd⟩ := hrel
                          obtain ⟨q1, q3, q4⟩ := hjd.out
                          clear S1
                          by_cases c2 : i2 ≤ j'
                          · obtain ⟨m, hm⟩ : ∃ m, j' = m + 1 := ⟨j' - 1, by omega⟩
                            subst hm
                            have la := q1.cell (i := a) (by omega)
                            obtain ⟨ya, hya⟩ : ∃ x, e[a]! = x := ⟨_, rfl⟩
                            rw [hya] at la
                            have oa : (a : Int) < (n : Int) := by omega
                            have lb := q1.cell (i := m + 1) (by omega)
                            obtain ⟨yb, hyb⟩ : ∃ x, e[m + 1]! = x := ⟨_, rfl⟩
                            rw [hyb] at lb
                            have ob : ((m + 1 : Nat) : Int) < (n : Int) := by omega
                            have ob2 : (m : Int) + 1 < (n : Int) := by omega
                            have gd : decide ((i2 : Int) ≤ ((m + 1 : Nat) : Int)) = true := decide_eq_true (by omega)
                            have gd2 : decide ((i2 : Int) ≤ (m : Int) + 1) = true := decide_eq_true (by omega)
                            have LS : Hid _ := less_any yb ya
                            by_cases hlt : yb < ya
                            · have dlt : decide (yb < ya) = true := decide_eq_true hlt
                              rw [dlt] at LS
                              have hne : ¬ (i2 = m + 1) := fun h => by
                                have := XL.out
                                rw [h, hyb, hya] at this
                                omega
                              have hne2 : ¬ (m + 1 = i2) := fun h => hne h.symm
                              have lc := q1.cell (i := i2) (by omega)
                              obtain ⟨yc, hyc⟩ : ∃ x, e[i2]! = x := ⟨_, rfl⟩
                              rw [hyc] at lc
                              have oc : (i2 : Int) < (n : Int) := by omega
                              have fc := q1.fr i2
                              have fb := q1.fr (m + 1)
                              have gt : ¬ (((m + 1 : Nat) : Int) < (i2 : Int)) := by omega
                              have gt2 : ¬ ((m : Int) + 1 < (i2 : Int)) := by omega
                              have hd : Sort.scanDown (fun x => !ltI x e[a]!) e i2 j = m + 1 := by
                                rw [← q3, Sort.scanDown, if_neg]
                                rw [hya, hyb, Bool.and_eq_true]
                                intro hh
                                have h2 := hh.2
                                rw [show ltI yb ya = true from dlt] at h2
                                exact absurd h2 (by decide)
                              have R : Hid (∀ nq, RU (((wr.drewN nq).setCell ⟨g, i2, none⟩ (.int .u64 yb)).setCell ⟨g, m + 1, none⟩ (.int .u64 yc)) g (Sort.swp e i2 (m + 1)) ∧ (Sort.swp e i2 (m + 1)).size = n ∧ R0 = ((Sort.partLoop ltI a (i2 + 1) m (Sort.swp e i2 (m + 1))).1, false, Sort.swp (Sort.partLoop ltI a (i2 + 1) m (Sort.swp e i2 (m + 1))).2 (Sort.partLoop ltI a (i2 + 1) m (Sort.swp e i2 (m + 1))).1 a) ∧ Chg (fun k => k = g) w (((wr.drewN nq).setCell ⟨g, i2, none⟩ (.int .u64 yb)).setCell ⟨g, m + 1, none⟩ (.int .u64 yc))) := fun nq => by
                                have q1' : RU (wr.drewN nq) g e := q1.drewN nq
                                have := q1'.swp (i := i2) (j := m + 1) (by omega) (by omega)
                                rw [hyb, hyc] at this
                                refine ⟨this, by rw [swp_size]; exact he, ?_, ?_⟩
                                · rw [PT.out, ← PQ.out, Sort.partLoop_eq ltI a i j e, UP.out, hd, if_neg (by omega)]
                                  rfl
                                · have c2 : Chg (fun k => k = g) w (wr.drewN nq) := ⟨q4.os, q4.tape, q4.output, q4.size, q4.block⟩
                                  exact (c2.setCell (p := ⟨g, i2, none⟩) (.inl rfl) _).setCell (p := ⟨g, m + 1, none⟩) (.inl rfl) _
                              clear hjd q1 q3 q4 hya hyb hyc dlt hd
                              go_wp2_with fail
                              go_quiet ((go_at_call 40; refine Calls.quiet_of_same (LS.out _)))
                              go_wp2_with fail
                              go_region
                              go_wp2_with fail
                              go_roundw
                              case rel => exact ⟨i2 + 1, m, Sort.swp e i2 (m + 1), by go_num, by go_num, by omega, by omega, by omega, R.out _⟩
                              case measure => simp [intOf]; omega
                            · have dlt : decide (yb < ya) = false := decide_eq_false hlt
                              rw [dlt] at LS
                              have R : Hid (∀ nq, RU (wr.drewN nq) g e ∧ Sort.scanDown (fun x => !ltI x e[a]!) e i2 m = Sort.scanDown (fun x => !ltI x e[a]!) e i2 j ∧ Chg (fun k => k = g) w (wr.drewN nq)) := fun nq => by
                                refine ⟨q1.drewN nq, ?_, ⟨q4.os, q4.tape, q4.output, q4.size, q4.block⟩⟩
                                rw [← q3]
                                show _ = Sort.scanDown (fun x => !ltI x e[a]!) e i2 (m + 1)
                                rw [Sort.scanDown, if_pos]
                                rw [hya, hyb, Bool.and_eq_true]
                                exact ⟨decide_eq_true c2, by rw [show ltI yb ya = false from dlt]; rfl⟩
                              clear hjd q1 q3 q4 hya hyb dlt
                              go_wp2_with fail
                              go_quiet ((go_at_call 40; refine Calls.quiet_of_same (LS.out _)))
                              go_wp2_with fail
                              go_roundw
                              case rel => exact ⟨m, by go_num, by omega, R.out _⟩
                              case measure => simp [intOf]
                          · have gd : decide ((i2 : Int) ≤ (j' : Int)) = false := decide_eq_false (by omega)
                            have gt : (j' : Int) < (i2 : Int) := by omega
                            have hd : Sort.scanDown (fun x => !ltI x e[a]!) e i2 j = j' := by
                              rw [← q3]
                              cases j' with
                              | zero => rfl
                              | succ m =>
                                rw [Sort.scanDown, if_neg]
                                rw [Bool.and_eq_true]
                                exact fun hh => c2 (of_decide_eq_true hh.1)
                            have lj' : j' < n := by omega
                            have oj : (j' : Int) < (n : Int) := by omega
                            have oa : (a : Int) < (n : Int) := by omega
                            have lb := q1.cell (i := j') (by omega)
                            have la := q1.cell (i := a) (by omega)
                            have fb := q1.fr j'
                            have fa := q1.fr a
                            obtain ⟨yb, hyb⟩ : ∃ x, e[j']! = x := ⟨_, rfl⟩
                            obtain ⟨ya, hya⟩ : ∃ x, e[a]! = x := ⟨_, rfl⟩
                            rw [hyb] at lb
                            rw [hya] at la
                            have R : Hid (R0.1 = j' ∧ R0.2.1 = false ∧ ∀ nq, RU (((wr.drewN nq).setCell ⟨g, j', none⟩ (.int .u64 ya)).setCell ⟨g, a, none⟩ (.int .u64 yb)) g R0.2.2 ∧ R0.2.2.size = n ∧ Chg (fun k => k = g) w (((wr.drewN nq).setCell ⟨g, j', none⟩ (.int .u64 ya)).setCell ⟨g, a, none⟩ (.int .u64 yb))) := by
                              have hr : R0 = (j', false, Sort.swp e j' a) := by
                                rw [PT.out, ← PQ.out, Sort.partLoop_eq ltI a i j e, UP.out, hd, if_pos (by omega)]
                              rw [hr]
                              refine ⟨rfl, rfl, fun nq => ?_⟩
                              have q1' : RU (wr.drewN nq) g e := q1.drewN nq
                              have := q1'.swp (i := j') (j := a) (by omega) (by omega)
                              rw [hya, hyb] at this
                              refine ⟨this, by rw [swp_size]; exact he, ?_⟩
                              have c2 : Chg (fun k => k = g) w (wr.drewN nq) := ⟨q4.os, q4.tape, q4.output, q4.size, q4.block⟩
                              exact (c2.setCell (p := ⟨g, j', none⟩) (.inl rfl) _).setCell (p := ⟨g, a, none⟩) (.inl rfl) _
                            have YE : Hid (j' = a → yb = ya) := (fun h => by rw [← hya, ← hyb, h] : j' = a → yb = ya)
                            clear hjd q1 q3 q4 hd hya hyb
                            go_wp2_with fail
                            go_quiet (fail)
                            go_wp2_with fail
                            by_cases ja : j' = a
                            · have := YE.out ja
                              subst this
                              subst ja
                              go_region
                              go_wp2_with fail
                              refine bodyPost_ret (results_tt rfl _ _) rfl ?_
                              exact ⟨by rw [R.out.1, R.out.2.1]; rfl, R.out.2.2 _⟩
                            · have aj : ¬ (a = j') := fun h => ja h.symm
                              go_region
                              go_wp2_with fail
                              refine bodyPost_ret (results_tt rfl _ _) rfl ?_
                              exact ⟨by rw [R.out.1, R.out.2.1]; rfl, R.out.2.2 _⟩
                    · have gd : decide ((i2 : Int) ≤ (j : Int)) = false := decide_eq_false (by omega)
                      have UP : Hid (Sort.scanUp (fun x => ltI x e[a]!) e j i = i2) := by
                        show Sort.scanUp (fun x => ltI x e[a]!) e j i = i2
                        rw [← q3, Sort.scanUp.eq_def, if_neg]
                        rw [Bool.and_eq_true]
                        exact fun hh => c1 (of_decide_eq_true hh.1)
                      have S1 : Hid (∀ nq, RU (wr.drewN nq) g e ∧ Chg (fun k => k = g) w (wr.drewN nq)) := fun nq => ⟨q1.drewN nq, ⟨q4.os, q4.tape, q4.output, q4.size, q4.block⟩⟩
                      clear hid q1 q3 q4
                      go_wp2_with fail
                      go_quiet (fail)
                      go_wp2_with fail
                      clear gd
                      go_loopw [11] (fun sj wq => ∃ j' : Nat, sj = .int .i64 j' ∧ j' ≤ j ∧ Hid (RU wq g e ∧ Sort.scanDown (fun x => !ltI x e[a]!) e i2 j' = Sort.scanDown (fun x => !ltI x e[a]!) e i2 j ∧ Chg (fun k => k = g) w wq)) (fun sj _ => (intOf sj).toNat)
                      case atStart => exact ⟨j, rfl, Nat.le_refl _, (S1.out _).1, rfl, (S1.out _).2⟩
                      case round =>
                        obtain ⟨j', rfl, hj', hjd⟩ := hrel
                        obtain ⟨q1, q3, q4⟩ := hjd.out
                        clear S1
                        by_cases c2 : i2 ≤ j'
                        · exact absurd c2 (by omega)
                        · have gd : decide ((i2 : Int) ≤ (j' : Int)) = false := decide_eq_false (by omega)
                          have gt : (j' : Int) < (i2 : Int) := by omega
                          have hd : Sort.scanDown (fun x => !ltI x e[a]!) e i2 j = j' := by
                            rw [← q3]
                            cases j' with
                            | zero => rfl
                            | succ m =>
                              rw [Sort.scanDown, if_neg]
                              rw [Bool.and_eq_true]
                              exact fun hh => c2 (of_decide_eq_true hh.1)
                          have lj' : j' < n := by omega
                          have oj : (j' : Int) < (n : Int) := by omega
                          have oa : (a : Int) < (n : Int) := by omega
                          have lb := q1.cell (i := j') (by omega)
                          have la := q1.cell (i := a) (by omega)
                          have fb := q1.fr j'
                          have fa := q1.fr a
                          obtain ⟨yb, hyb⟩ : ∃ x, e[j']! = x := ⟨_, rfl⟩
                          obtain ⟨ya, hya⟩ : ∃ x, e[a]! = x := ⟨_, rfl⟩
                          rw [hyb] at lb
                          rw [hya] at la
                          have R : Hid (R0.1 = j' ∧ R0.2.1 = false ∧ ∀ nq, RU (((wr.drewN nq).setCell ⟨g, j', none⟩ (.int .u64 ya)).setCell ⟨g, a, none⟩ (.int .u64 yb)) g R0.2.2 ∧ R0.2.2.size = n ∧ Chg (fun k => k = g) w (((wr.drewN nq).setCell ⟨g, j', none⟩ (.int .u64 ya)).setCell ⟨g, a, none⟩ (.int .u64 yb))) := by
                            have hr : R0 = (j', false, Sort.swp e j' a) := by
                              rw [PT.out, ← PQ.out, Sort.partLoop_eq ltI a i j e, UP.out, hd, if_pos (by omega)]
                            rw [hr]
                            refine ⟨rfl, rfl, fun nq => ?_⟩
                            have q1' : RU (wr.drewN nq) g e := q1.drewN nq
                            have := q1'.swp (i := j') (j := a) (by omega) (by omega)
                            rw [hya, hyb] at this
                            refine ⟨this, by rw [swp_size]; exact he, ?_⟩
                            have c2 : Chg (fun k => k = g) w (wr.drewN nq) := ⟨q4.os, q4.tape, q4.output, q4.size, q4.block⟩
                            exact (c2.setCell (p := ⟨g, j', none⟩) (.inl rfl) _).setCell (p := ⟨g, a, none⟩) (.inl rfl) _
                          have YE : Hid (j' = a → yb = ya) := (fun h => by rw [← hya, ← hyb, h] : j' = a → yb = ya)
                          clear hjd q1 q3 q4 hd hya hyb
                          go_wp2_with fail
                          go_quiet (fail)
                          go_wp2_with fail
                          by_cases ja : j' = a
                          · have := YE.out ja
                            subst this
                            subst ja
                            go_region
                            go_wp2_with fail
                            refine bodyPost_ret (results_tt rfl _ _) rfl ?_
                            exact ⟨by rw [R.out.1, R.out.2.1]; rfl, R.out.2.2 _⟩
                          · have aj : ¬ (a = j') := fun h => ja h.symm
                            go_region
                            go_wp2_with fail
                            refine bodyPost_ret (results_tt rfl _ _) rfl ?_
                            exact ⟨by rw [R.out.1, R.out.2.1]; rfl, R.out.2.2 _⟩
              · have dlt : decide (yb < ya) = false := decide_eq_false hlt
                rw [dlt] at LS
                have R : Hid (∀ nq, RU (wr.drewN nq) g e ∧ Sort.scanDown (fun x => !ltI x e[a]!) e i2 m = Sort.scanDown (fun x => !ltI x e[a]!) e i2 j ∧ Chg (fun k => k = g) w (wr.drewN nq)) := fun nq => by
                  refine ⟨q1.drewN nq, ?_, ⟨q4.os, q4.tape, q4.output, q4.size, q4.block⟩⟩
                  rw [← q3]
                  show _ = Sort.scanDown (fun x => !ltI x e[a]!) e i2 (m + 1)
                  rw [Sort.scanDown, if_pos]
                  rw [hya, hyb, Bool.and_eq_true]
                  exact ⟨decide_eq_true c2, by rw [show ltI yb ya = false from dlt]; rfl⟩
                clear hjd q1 q3 q4 hya hyb dlt
                go_wp2_with fail
                go_quiet ((go_at_call 40; refine Calls.quiet_of_same (LS.out _)))
                go_wp2_with fail
                go_roundw
                case rel => exact ⟨m, by go_num, by omega, R.out _⟩
                case measure => simp [intOf]
            · have gd : decide ((i2 : Int) ≤ (j' : Int)) = false := decide_eq_false (by omega)
              have gt : (j' : Int) < (i2 : Int) := by omega
              have hd : Sort.scanDown (fun x => !ltI x e[a]!) e i2 j = j' := by
                rw [← q3]
                cases j' with
                | zero => rfl
                | succ m =>
                  rw [Sort.scanDown, if_neg]
                  rw [Bool.and_eq_true]
                  exact fun hh => c2 (of_decide_eq_true hh.1)
              have lj' : j' < n := by omega
              have oj : (j' : Int) < (n : Int) := by omega
              have oa : (a : Int) < (n : Int) := by omega
              have lb := q1.cell (i := j') (by omega)
              have la := q1.cell (i := a) (by omega)
              have fb := q1.fr j'
              have fa := q1.fr a
              obtain ⟨yb, hyb⟩ : ∃ x, e[j']! = x := ⟨_, rfl⟩
              obtain ⟨ya, hya⟩ : ∃ x, e[a]! = x := ⟨_, rfl⟩
              rw [hyb] at lb
              rw [hya] at la
              have R : Hid (R0.1 = j' ∧ R0.2.1 = true ∧ ∀ nq, RU (((wr.drewN nq).setCell ⟨g, j', none⟩ (.int .u64 ya)).setCell ⟨g, a, none⟩ (.int .u64 yb)) g R0.2.2 ∧ R0.2.2.size = n ∧ Chg (fun k => k = g) w (((wr.drewN nq).setCell ⟨g, j', none⟩ (.int .u64 ya)).setCell ⟨g, a, none⟩ (.int .u64 yb))) := by
                have hr : R0 = (j', true, Sort.swp e j' a) := by
                  rw [PT.out, UP.out, hd, if_pos (by omega)]
                rw [hr]
                refine ⟨rfl, rfl, fun nq => ?_⟩
                have q1' : RU (wr.drewN nq) g e := q1.drewN nq
                have := q1'.swp (i := j') (j := a) (by omega) (by omega)
                rw [hya, hyb] at this
                refine ⟨this, by rw [swp_size]; exact he, ?_⟩
                have c2 : Chg (fun k => k = g) w (wr.drewN nq) := ⟨q4.os, q4.tape, q4.output, q4.size, q4.block⟩
                exact (c2.setCell (p := ⟨g, j', none⟩) (.inl rfl) _).setCell (p := ⟨g, a, none⟩) (.inl rfl) _
              have YE : Hid (j' = a → yb = ya) := (fun h => by rw [← hya, ← hyb, h] : j' = a → yb = ya)
              clear hjd q1 q3 q4 hd hya hyb
              go_wp2_with fail
              go_quiet (fail)
              go_wp2_with fail
              by_cases ja : j' = a
              · have := YE.out ja
                subst this
                subst ja
                go_region
                go_wp2_with fail
                refine bodyPost_ret (results_tt rfl _ _) rfl ?_
                exact ⟨by rw [R.out.1, R.out.2.1]; rfl, R.out.2.2 _⟩
              · have aj : ¬ (a = j') := fun h => ja h.symm
                go_region
                go_wp2_with fail
                refine bodyPost_ret (results_tt rfl _ _) rfl ?_
                exact ⟨by rw [R.out.1, R.out.2.1]; rfl, R.out.2.2 _⟩
      · have gd : decide ((i2 : Int) ≤ (j : Int)) = false := decide_eq_false (by omega)
        have UP : Hid (Sort.scanUp (fun x => ltI x e[a]!) e j i = i2) := by
          show Sort.scanUp (fun x => ltI x e[a]!) e j i = i2
          rw [← q3, Sort.scanUp.eq_def, if_neg]
          rw [Bool.and_eq_true]
          exact fun hh => c1 (of_decide_eq_true hh.1)
        have S1 : Hid (∀ nq, RU (wr.drewN nq) g e ∧ Chg (fun k => k = g) w (wr.drewN nq)) := fun nq => ⟨q1.drewN nq, ⟨q4.os, q4.tape, q4.output, q4.size, q4.block⟩⟩
        clear hid q1 q3 q4
        go_wp2_with fail
        go_quiet (fail)
        go_wp2_with fail
        clear gd
        go_loopw [11] (fun sj wq => ∃ j' : Nat, sj = .int .i64 j' ∧ j' ≤ j ∧ Hid (RU wq g e ∧ Sort.scanDown (fun x => !ltI x e[a]!) e i2 j' = Sort.scanDown (fun x => !ltI x e[a]!) e i2 j ∧ Chg (fun k => k = g) w wq)) (fun sj _ => (intOf sj).toNat)
        case atStart => exact ⟨j, rfl, Nat.le_refl _, (S1.out _).1, rfl, (S1.out _).2⟩
        case round =>
          obtain ⟨j', rfl, hj', hjd⟩ := hrel
          obtain ⟨q1, q3, q4⟩ := hjd.out
          clear S1
          by_cases c2 : i2 ≤ j'
          · exact absurd c2 (by omega)
          · have gd : decide ((i2 : Int) ≤ (j' : Int)) = false := decide_eq_false (by omega)
            have gt : (j' : Int) < (i2 : Int) := by omega
            have hd : Sort.scanDown (fun x => !ltI x e[a]!) e i2 j = j' := by
              rw [← q3]
              cases j' with
              | zero => rfl
              | succ m =>
                rw [Sort.scanDown, if_neg]
                rw [Bool.and_eq_true]
                exact fun hh => c2 (of_decide_eq_true hh.1)
            have lj' : j' < n := by omega
            have oj : (j' : Int) < (n : Int) := by omega
            have oa : (a : Int) < (n : Int) := by omega
            have lb := q1.cell (i := j') (by omega)
            have la := q1.cell (i := a) (by omega)
            have fb := q1.fr j'
            have fa := q1.fr a
            obtain ⟨yb, hyb⟩ : ∃ x, e[j']! = x := ⟨_, rfl⟩
            obtain ⟨ya, hya⟩ : ∃ x, e[a]! = x := ⟨_, rfl⟩
            rw [hyb] at lb
            rw [hya] at la
            have R : Hid (R0.1 = j' ∧ R0.2.1 = true ∧ ∀ nq, RU (((wr.drewN nq).setCell ⟨g, j', none⟩ (.int .u64 ya)).setCell ⟨g, a, none⟩ (.int .u64 yb)) g R0.2.2 ∧ R0.2.2.size = n ∧ Chg (fun k => k = g) w (((wr.drewN nq).setCell ⟨g, j', none⟩ (.int .u64 ya)).setCell ⟨g, a, none⟩ (.int .u64 yb))) := by
              have hr : R0 = (j', true, Sort.swp e j' a) := by
                rw [PT.out, UP.out, hd, if_pos (by omega)]
              rw [hr]
              refine ⟨rfl, rfl, fun nq => ?_⟩
              have q1' : RU (wr.drewN nq) g e := q1.drewN nq
              have := q1'.swp (i := j') (j := a) (by omega) (by omega)
              rw [hya, hyb] at this
              refine ⟨this, by rw [swp_size]; exact he, ?_⟩
              have c2 : Chg (fun k => k = g) w (wr.drewN nq) := ⟨q4.os, q4.tape, q4.output, q4.size, q4.block⟩
              exact (c2.setCell (p := ⟨g, j', none⟩) (.inl rfl) _).setCell (p := ⟨g, a, none⟩) (.inl rfl) _
            have YE : Hid (j' = a → yb = ya) := (fun h => by rw [← hya, ← hyb, h] : j' = a → yb = ya)
            clear hjd q1 q3 q4 hd hya hyb
            go_wp2_with fail
            go_quiet (fail)
            go_wp2_with fail
            by_cases ja : j' = a
            · have := YE.out ja
              subst this
              subst ja
              go_region
              go_wp2_with fail
              refine bodyPost_ret (results_tt rfl _ _) rfl ?_
              exact ⟨by rw [R.out.1, R.out.2.1]; rfl, R.out.2.2 _⟩
            · have aj : ¬ (a = j') := fun h => ja h.symm
              go_region
              go_wp2_with fail
              refine bodyPost_ret (results_tt rfl _ _) rfl ?_
              exact ⟨by rw [R.out.1, R.out.2.1]; rfl, R.out.2.2 _⟩
  · have pa : ¬ (pivot = a) := fun h => ap h.symm
    clear hx0 hx1
    go_region
    go_wp2_with fail
    rw [EI.out, EJ.out]
    clear EI EJ
    go_loopw [10] (fun si wq => ∃ i2 : Nat, si = .int .i64 i2 ∧ i ≤ i2 ∧ i2 ≤ n + 1 ∧ Hid (RU wq g e ∧ Sort.scanUp (fun x => ltI x e[a]!) e j i2 = Sort.scanUp (fun x => ltI x e[a]!) e j i ∧ Chg (fun k => k = g) w wq)) (fun si _ => ((j : Int) + 1 - intOf si).toNat)
    case atStart => exact ⟨i, rfl, Nat.le_refl _, by omega, S0.out.1, rfl, S0.out.2⟩
    case round =>
      obtain ⟨i2, rfl, hi2, hi3, hid⟩ := hrel
      have he := HE.out
      clear S0
      obtain ⟨q1, q3, q4⟩ := hid.out
      by_cases c1 : i2 ≤ j
      · have ka := q1.cell (i := a) (by omega)
        obtain ⟨xa, hxa⟩ : ∃ x, e[a]! = x := ⟨_, rfl⟩
        rw [hxa] at ka
        have pa : (a : Int) < (n : Int) := by omega
        have kb := q1.cell (i := i2) (by omega)
        obtain ⟨xb, hxb⟩ : ∃ x, e[i2]! = x := ⟨_, rfl⟩
        rw [hxb] at kb
        have pb : (i2 : Int) < (n : Int) := by omega
        have gd : decide ((i2 : Int) ≤ (j : Int)) = true := decide_eq_true (by omega)
        have LS : Hid _ := less_any xb xa
        by_cases hlt : xb < xa
        · have dlt : decide (xb < xa) = true := decide_eq_true hlt
          rw [dlt] at LS
          have R : Hid (∀ nq, RU (wr.drewN nq) g e ∧ Sort.scanUp (fun x => ltI x e[a]!) e j (i2 + 1) = Sort.scanUp (fun x => ltI x e[a]!) e j i ∧ Chg (fun k => k = g) w (wr.drewN nq)) := fun nq => by
            refine ⟨q1.drewN nq, ?_, ⟨q4.os, q4.tape, q4.output, q4.size, q4.block⟩⟩
            rw [← q3]
            show _ = Sort.scanUp (fun x => ltI x e[a]!) e j i2
            rw [Sort.scanUp.eq_def (fun x => ltI x e[a]!) e j i2, if_pos]
            rw [hxa, hxb, Bool.and_eq_true]
            exact ⟨decide_eq_true c1, dlt⟩
          clear hid q1 q3 q4 hxa hxb dlt he
          go_wp2_with fail
          go_quiet ((go_at_call 40; refine Calls.quiet_of_same (LS.out _)))
          go_wp2_with fail
          go_roundw
          case rel => exact ⟨i2 + 1, by go_num, by omega, by omega, R.out _⟩
          case measure => simp [intOf]; omega
        · have dlt : decide (xb < xa) = false := decide_eq_false hlt
          rw [dlt] at LS
          have UP : Hid (Sort.scanUp (fun x => ltI x e[a]!) e j i = i2) := by
            show Sort.scanUp (fun x => ltI x e[a]!) e j i = i2
            rw [← q3, Sort.scanUp.eq_def, if_neg]
            rw [hxa, hxb, Bool.and_eq_true]
            exact fun hh => hlt (of_decide_eq_true hh.2)
          have XL : Hid (¬ (e[i2]! < e[a]!)) := (by rw [hxa, hxb]; exact hlt : ¬ (e[i2]! < e[a]!))
          have S1 : Hid (∀ nq, RU (wr.drewN nq) g e ∧ Chg (fun k => k = g) w (wr.drewN nq)) := fun nq => ⟨q1.drewN nq, ⟨q4.os, q4.tape, q4.output, q4.size, q4.block⟩⟩
          clear hid q1 q3 q4 hxa hxb dlt
          go_wp2_with fail
          go_quiet ((go_at_call 40; refine Calls.quiet_of_same (LS.out _)))
          go_wp2_with fail
          clear ka kb LS gd
          go_loopw [11] (fun sj wq => ∃ j' : Nat, sj = .int .i64 j' ∧ j' ≤ j ∧ Hid (RU wq g e ∧ Sort.scanDown (fun x => !ltI x e[a]!) e i2 j' = Sort.scanDown (fun x => !ltI x e[a]!) e i2 j ∧ Chg (fun k => k = g) w wq)) (fun sj _ => (intOf sj).toNat)
          case atStart => exact ⟨j, rfl, Nat.le_refl _, (S1.out _).1, rfl, (S1.out _).2⟩
          case round =>
            obtain ⟨j', rfl, hj', hjd⟩ := hrel
            obtain ⟨q1, q3, q4⟩ := hjd.out
            clear S1
            by_cases c2 : i2 ≤ j'
            · obtain ⟨m, hm⟩ : ∃ m, j' = m + 1 := ⟨j' - 1, by omega⟩
              subst hm
              have la := q1.cell (i := a) (by omega)
              obtain ⟨ya, hya⟩ : ∃ x, e[a]! = x := ⟨_, rfl⟩
              rw [hya] at la
              have oa : (a : Int) < (n : Int) := by omega
              have lb := q1.cell (i := m + 1) (by omega)
              obtain ⟨yb, hyb⟩ : ∃ x, e[m + 1]! = x := ⟨_, rfl⟩
              rw [hyb] at lb
              have ob : ((m + 1 : Nat) : Int) < (n : Int) := by omega
              have ob2 : (m : Int) + 1 < (n : Int) := by omega
              have gd : decide ((i2 : Int) ≤ ((m + 1 : Nat) : Int)) = true := decide_eq_true (by omega)
              have gd2 : decide ((i2 : Int) ≤ (m : Int) + 1) = true := decide_eq_true (by omega)
              have LS : Hid _ := less_any yb ya
              by_cases hlt : yb < ya
              · have dlt : decide (yb < ya) = true := decide_eq_true hlt
                rw [dlt] at LS
                have hne : ¬ (i2 = m + 1) := fun h => by
                  have := XL.out
                  rw [h, hyb, hya] at this
                  omega
                have hne2 : ¬ (m + 1 = i2) := fun h => hne h.symm
                have lc := q1.cell (i := i2) (by omega)
                obtain ⟨yc, hyc⟩ : ∃ x, e[i2]! = x := ⟨_, rfl⟩
                rw [hyc] at lc
                have oc : (i2 : Int) < (n : Int) := by omega
                have fc := q1.fr i2
                have fb := q1.fr (m + 1)
                have gt : ¬ (((m + 1 : Nat) : Int) < (i2 : Int)) := by omega
                have gt2 : ¬ ((m : Int) + 1 < (i2 : Int)) := by omega
                have hd : Sort.scanDown (fun x => !ltI x e[a]!) e i2 j = m + 1 := by
                  rw [← q3, Sort.scanDown, if_neg]
                  rw [hya, hyb, Bool.and_eq_true]
                  intro hh
                  have h2 := hh.2
                  rw [show ltI yb ya = true from dlt] at h2
                  exact absurd h2 (by decide)
                have R : Hid (∀ nq, RU (((wr.drewN nq).setCell ⟨g, i2, none⟩ (.int .u64 yb)).setCell ⟨g, m + 1, none⟩ (.int .u64 yc)) g (Sort.swp e i2 (m + 1)) ∧ (Sort.swp e i2 (m + 1)).size = n ∧ R0 = ((Sort.partLoop ltI a (i2 + 1) m (Sort.swp e i2 (m + 1))).1, false, Sort.swp (Sort.partLoop ltI a (i2 + 1) m (Sort.swp e i2 (m + 1))).2 (Sort.partLoop ltI a (i2 + 1) m (Sort.swp e i2 (m + 1))).1 a) ∧ Chg (fun k => k = g) w (((wr.drewN nq).setCell ⟨g, i2, none⟩ (.int .u64 yb)).setCell ⟨g, m + 1, none⟩ (.int .u64 yc))) := fun nq => by
                  have q1' : RU (wr.drewN nq) g e := q1.drewN nq
                  have := q1'.swp (i := i2) (j := m + 1) (by omega) (by omega)
                  rw [hyb, hyc] at this
                  refine ⟨this, by rw [swp_size]; exact he, ?_, ?_⟩
                  · rw [PT.out, UP.out, hd, if_neg (by omega)]
                    rfl
                  · have c2 : Chg (fun k => k = g) w (wr.drewN nq) := ⟨q4.os, q4.tape, q4.output, q4.size, q4.block⟩
                    exact (c2.setCell (p := ⟨g, i2, none⟩) (.inl rfl) _).setCell (p := ⟨g, m + 1, none⟩) (.inl rfl) _
                clear hjd q1 q3 q4 hya hyb hyc dlt hd
                go_wp2_with fail
                go_quiet ((go_at_call 40; refine Calls.quiet_of_same (LS.out _)))
                go_wp2_with fail
                go_region
                go_wp2_with fail
                clear la lb lc fc fb LS gd gd2 gt gt2 XL PT UP HE he
                go_loopw [10, 11] (fun si sj wr => ∃ (i j : Nat) (e : Array Int), si = .int .i64 i ∧ sj = .int .i64 j ∧ i ≤ n + 1 ∧ j < n ∧ a < i ∧ Hid (RU wr g e ∧ e.size = n ∧ R0 = ((Sort.partLoop ltI a i j e).1, false, Sort.swp (Sort.partLoop ltI a i j e).2 (Sort.partLoop ltI a i j e).1 a) ∧ Chg (fun k => k = g) w wr)) (fun si sj _ => (intOf sj + 1 - intOf si).toNat)
                case atStart => exact ⟨i2 + 1, m, Sort.swp e i2 (m + 1), by go_num, by go_num, by omega, by omega, by omega, R.out _⟩
                case round =>
                  clear R hlt hne hne2 oc ob ob2 oa c2 hj' c1 hi2 hi3 hj hi hai hij
                  obtain ⟨i, j, e, rfl, rfl, hi, hj, hai, hid⟩ := hrel
                  obtain ⟨z1, he, z3, z4⟩ := hid.out
                  obtain ⟨Z, hZ⟩ : ∃ Z, Sort.partLoop ltI a i j e = Z := ⟨_, rfl⟩
                  rw [hZ] at z3
                  have PT : Hid _ := z3
                  have PQ : Hid _ := hZ
                  have S0 : Hid _ := And.intro z1 z4
                  have HE : Hid _ := he
                  clear hid z1 z3 z4 he hZ
                  go_wp2_with fail
                  go_loopw [10] (fun si wq => ∃ i2 : Nat, si = .int .i64 i2 ∧ i ≤ i2 ∧ i2 ≤ n + 1 ∧ Hid (RU wq g e ∧ Sort.scanUp (fun x => ltI x e[a]!) e j i2 = Sort.scanUp (fun x => ltI x e[a]!) e j i ∧ Chg (fun k => k = g) w wq)) (fun si _ => ((j : Int) + 1 - intOf si).toNat)
                  case atStart => exact ⟨i, rfl, Nat.le_refl _, by omega, S0.out.1, rfl, S0.out.2⟩
                  case round =>
                    obtain ⟨i2, rfl, hi2, hi3, hid⟩ := hrel
                    have he := HE.out
                    clear S0
                    obtain ⟨q1, q3, q4⟩ := hid.out
                    by_cases c1 : i2 ≤ j
                    · have ka := q1.cell (i := a) (by omega)
                      obtain ⟨xa, hxa⟩ : ∃ x, e[a]! = x := ⟨_, rfl⟩
                      rw [hxa] at ka
                      have pa : (a : Int) < (n : Int) := by omega
                      have kb := q1.cell (i := i2) (by omega)
                      obtain ⟨xb, hxb⟩ : ∃ x, e[i2]! = x := ⟨_, rfl⟩
                      rw [hxb] at kb
                      have pb : (i2 : Int) < (n : Int) := by omega
                      have gd : decide ((i2 : Int) ≤ (j : Int)) = true := decide_eq_true (by omega)
                      have LS : Hid _ := less_any xb xa
                      by_cases hlt : xb < xa
                      · have dlt : decide (xb < xa) = true := decide_eq_true hlt
                        rw [dlt] at LS
                        have R : Hid (∀ nq, RU (wr.drewN nq) g e ∧ Sort.scanUp (fun x => ltI x e[a]!) e j (i2 + 1) = Sort.scanUp (fun x => ltI x e[a]!) e j i ∧ Chg (fun k => k = g) w (wr.drewN nq)) := fun nq => by
                          refine ⟨q1.drewN nq, ?_, ⟨q4.os, q4.tape, q4.output, q4.size, q4.block⟩⟩
                          rw [← q3]
                          show _ = Sort.scanUp (fun x => ltI x e[a]!) e j i2
                          rw [Sort.scanUp.eq_def (fun x => ltI x e[a]!) e j i2, if_pos]
                          rw [hxa, hxb, Bool.and_eq_true]
                          exact ⟨decide_eq_true c1, dlt⟩
                        clear hid q1 q3 q4 hxa hxb dlt he
                        go_wp2_with fail
                        go_quiet ((go_at_call 40; refine Calls.quiet_of_same (LS.out _)))
                        go_wp2_with fail
                        go_roundw
                        case rel => exact ⟨i2 + 1, by go_num, by omega, by omega, R.out _⟩
                        case measure => simp [intOf]; omega
                      · have dlt : decide (xb < xa) = false := decide_eq_false hlt
                        rw [dlt] at LS
                        have UP : Hid (Sort.scanUp (fun x => ltI x e[a]!) e j i = i2) := by
                          show Sort.scanUp (fun x => ltI x e[a]!) e j i = i2
                          rw [← q3, Sort.scanUp.eq_def, if_neg]
                          rw [hxa, hxb, Bool.and_eq_true]
                          exact fun hh => hlt (of_decide_eq_true hh.2)
                        have XL : Hid (¬ (e[i2]! < e[a]!)) := (by rw [hxa, hxb]; exact hlt : ¬ (e[i2]! < e[a]!))
                        have S1 : Hid (∀ nq, RU (wr.drewN nq) g e ∧ Chg (fun k => k = g) w (wr.drewN nq)) := fun nq => ⟨q1.drewN nq, ⟨q4.os, q4.tape, q4.output, q4.size, q4.block⟩⟩
                        clear hid q1 q3 q4 hxa hxb dlt
                        go_wp2_with fail
                        go_quiet ((go_at_call 40; refine Calls.quiet_of_same (LS.out _)))
                        go_wp2_with fail
                        clear ka kb LS gd
                        go_loopw [11] (fun sj wq => ∃ j' : Nat, sj = .int .i64 j' ∧ j' ≤ j ∧ Hid (RU wq g e ∧ Sort.scanDown (fun x => !ltI x e[a]!) e i2 j' = Sort.scanDown (fun x => !ltI x e[a]!) e i2 j ∧ Chg (fun k => k = g) w wq)) (fun sj _ => (intOf sj).toNat)
                        case atStart => exact ⟨j, rfl, Nat.le_refl _, (S1.out _).1, rfl, (S1.out _).2⟩
                        case round =>
                          obtain ⟨j', rfl, hj', hjd⟩ := hrel
                          obtain ⟨q1, q3, q4⟩ := hjd.out
                          clear S1
                          by_cases c2 : i2 ≤ j'
                          · obtain ⟨m, hm⟩ : ∃ m, j' = m + 1 := ⟨j' - 1, by omega⟩
                            subst hm
                            have la := q1.cell (i := a) (by omega)
                            obtain ⟨ya, hya⟩ : ∃ x, e[a]! = x := ⟨_, rfl⟩
                            rw [hya] at la
                            have oa : (a : Int) < (n : Int) := by omega
                            have lb := q1.cell (i := m + 1) (by omega)
                            obtain ⟨yb, hyb⟩ : ∃ x, e[m + 1]! = x := ⟨_, rfl⟩
                            rw [hyb] at lb
                            have ob : ((m + 1 : Nat) : Int) < (n : Int) := by omega
                            have ob2 : (m : Int) + 1 < (n : Int) := by omega
                            have gd : decide ((i2 : Int) ≤ ((m + 1 : Nat) : Int)) = true := decide_eq_true (by omega)
                            have gd2 : decide ((i2 : Int) ≤ (m : Int) + 1) = true := decide_eq_true (by omega)
                            have LS : Hid _ := less_any yb ya
                            by_cases hlt : yb < ya
                            · have dlt : decide (yb < ya) = true := decide_eq_true hlt
                              rw [dlt] at LS
                              have hne : ¬ (i2 = m + 1) := fun h => by
                                have := XL.out
                                rw [h, hyb, hya] at this
                                omega
                              have hne2 : ¬ (m + 1 = i2) := fun h => hne h.symm
                              have lc := q1.cell (i := i2) (by omega)
                              obtain ⟨yc, hyc⟩ : ∃ x, e[i2]! = x := ⟨_, rfl⟩
                              rw [hyc] at lc
                              have oc : (i2 : Int) < (n : Int) := by omega
                              have fc := q1.fr i2
                              have fb := q1.fr (m + 1)
                              have gt : ¬ (((m + 1 : Nat) : Int) < (i2 : Int)) := by omega
                              have gt2 : ¬ ((m : Int) + 1 < (i2 : Int)) := by omega
                              have hd : Sort.scanDown (fun x => !ltI x e[a]!) e i2 j = m + 1 := by
                                rw [← q3, Sort.scanDown, if_neg]
                                rw [hya, hyb, Bool.and_eq_true]
                                intro hh
                                have h2 := hh.2
                                rw [show ltI yb ya = true from dlt] at h2
                                exact absurd h2 (by decide)
                              have R : Hid (∀ nq, RU (((wr.drewN nq).setCell ⟨g, i2, none⟩ (.int .u64 yb)).setCell ⟨g, m + 1, none⟩ (.int .u64 yc)) g (Sort.swp e i2 (m + 1)) ∧ (Sort.swp e i2 (m + 1)).size = n ∧ R0 = ((Sort.partLoop ltI a (i2 + 1) m (Sort.swp e i2 (m + 1))).1, false, Sort.swp (Sort.partLoop ltI a (i2 + 1) m (Sort.swp e i2 (m + 1))).2 (Sort.partLoop ltI a (i2 + 1) m (Sort.swp e i2 (m + 1))).1 a) ∧ Chg (fun k => k = g) w (((wr.drewN nq).setCell ⟨g, i2, none⟩ (.int .u64 yb)).setCell ⟨g, m + 1, none⟩ (.int .u64 yc))) := fun nq => by
                                have q1' : RU (wr.drewN nq) g e := q1.drewN nq
                                have := q1'.swp (i := i2) (j := m + 1) (by omega) (by omega)
                                rw [hyb, hyc] at this
                                refine ⟨this, by rw [swp_size]; exact he, ?_, ?_⟩
                                · rw [PT.out, ← PQ.out, Sort.partLoop_eq ltI a i j e, UP.out, hd, if_neg (by omega)]
                                  rfl
                                · have c2 : Chg (fun k => k = g) w (wr.drewN nq) := ⟨q4.os, q4.tape, q4.output, q4.size, q4.block⟩
                                  exact (c2.setCell (p := ⟨g, i2, none⟩) (.inl rfl) _).setCell (p := ⟨g, m + 1, none⟩) (.inl rfl) _
                              clear hjd q1 q3 q4 hya hyb hyc dlt hd
                              go_wp2_with fail
                              go_quiet ((go_at_call 40; refine Calls.quiet_of_same (LS.out _)))
                              go_wp2_with fail
                              go_region
                              go_wp2_with fail
                              go_roundw
                              case rel => exact ⟨i2 + 1, m, Sort.swp e i2 (m + 1), by go_num, by go_num, by omega, by omega, by omega, R.out _⟩
                              case measure => simp [intOf]; omega
                            · have dlt : decide (yb < ya) = false := decide_eq_false hlt
                              rw [dlt] at LS
                              have R : Hid (∀ nq, RU (wr.drewN nq) g e ∧ Sort.scanDown (fun x => !ltI x e[a]!) e i2 m = Sort.scanDown (fun x => !ltI x e[a]!) e i2 j ∧ Chg (fun k => k = g) w (wr.drewN nq)) := fun nq => by
                                refine ⟨q1.drewN nq, ?_, ⟨q4.os, q4.tape, q4.output, q4.size, q4.block⟩⟩
                                rw [← q3]
                                show _ = Sort.scanDown (fun x => !ltI x e[a]!) e i2 (m + 1)
                                rw [Sort.scanDown, if_pos]
                                rw [hya, hyb, Bool.and_eq_true]
                                exact ⟨decide_eq_true c2, by rw [show ltI yb ya = false from dlt]; rfl⟩
                              clear hjd q1 q3 q4 hya hyb dlt
                              go_wp2_with fail
                              go_quiet ((go_at_call 40; refine Calls.quiet_of_same (LS.out _)))
                              go_wp2_with fail
                              go_roundw
                              case rel => exact ⟨m, by go_num, by omega, R.out _⟩
                              case measure => simp [intOf]
                          · have gd : decide ((i2 : Int) ≤ (j' : Int)) = false := decide_eq_false (by omega)
                            have gt : (j' : Int) < (i2 : Int) := by omega
                            have hd : Sort.scanDown (fun x => !ltI x e[a]!) e i2 j = j' := by
                              rw [← q3]
                              cases j' with
                              | zero => rfl
                              | succ m =>
                                rw [Sort.scanDown, if_neg]
                                rw [Bool.and_eq_true]
                                exact fun hh => c2 (of_decide_eq_true hh.1)
                            have lj' : j' < n := by omega
                            have oj : (j' : Int) < (n : Int) := by omega
                            have oa : (a : Int) < (n : Int) := by omega
                            have lb := q1.cell (i := j') (by omega)
                            have la := q1.cell (i := a) (by omega)
                            have fb := q1.fr j'
                            have fa := q1.fr a
                            obtain ⟨yb, hyb⟩ : ∃ x, e[j']! = x := ⟨_, rfl⟩
                            obtain ⟨ya, hya⟩ : ∃ x, e[a]! = x := ⟨_, rfl⟩
                            rw [hyb] at lb
                            rw [hya] at la
                            have R : Hid (R0.1 = j' ∧ R0.2.1 = false ∧ ∀ nq, RU (((wr.drewN nq).setCell ⟨g, j', none⟩ (.int .u64 ya)).setCell ⟨g, a, none⟩ (.int .u64 yb)) g R0.2.2 ∧ R0.2.2.size = n ∧ Chg (fun k => k = g) w (((wr.drewN nq).setCell ⟨g, j', none⟩ (.int .u64 ya)).setCell ⟨g, a, none⟩ (.int .u64 yb))) := by
                              have hr : R0 = (j', false, Sort.swp e j' a) := by
                                rw [PT.out, ← PQ.out, Sort.partLoop_eq ltI a i j e, UP.out, hd, if_pos (by omega)]
                              rw [hr]
                              refine ⟨rfl, rfl, fun nq => ?_⟩
                              have q1' : RU (wr.drewN nq) g e := q1.drewN nq
                              have := q1'.swp (i := j') (j := a) (by omega) (by omega)
                              rw [hya, hyb] at this
                              refine ⟨this, by rw [swp_size]; exact he, ?_⟩
                              have c2 : Chg (fun k => k = g) w (wr.drewN nq) := ⟨q4.os, q4.tape, q4.output, q4.size, q4.block⟩
                              exact (c2.setCell (p := ⟨g, j', none⟩) (.inl rfl) _).setCell (p := ⟨g, a, none⟩) (.inl rfl) _
                            have YE : Hid (j' = a → yb = ya) := (fun h => by rw [← hya, ← hyb, h] : j' = a → yb = ya)
                            clear hjd q1 q3 q4 hd hya hyb
                            go_wp2_with fail
                            go_quiet (fail)
                            go_wp2_with fail
                            by_cases ja : j' = a
                            · have := YE.out ja
                              subst this
                              subst ja
                              go_region
                              go_wp2_with fail
                              refine bodyPost_ret (results_tt rfl _ _) rfl ?_
                              exact ⟨by rw [R.out.1, R.out.2.1]; rfl, R.out.2.2 _⟩
                            · have aj : ¬ (a = j') := fun h => ja h.symm
                              go_region
                              go_wp2_with fail
                              refine bodyPost_ret (results_tt rfl _ _) rfl ?_
                              exact ⟨by rw [R.out.1, R.out.2.1]; rfl, R.out.2.2 _⟩
                    · have gd : decide ((i2 : Int) ≤ (j : Int)) = false := decide_eq_false (by omega)
                      have UP : Hid (Sort.scanUp (fun x => ltI x e[a]!) e j i = i2) := by
                        show Sort.scanUp (fun x => ltI x e[a]!) e j i = i2
                        rw [← q3, Sort.scanUp.eq_def, if_neg]
                        rw [Bool.and_eq_true]
                        exact fun hh => c1 (of_decide_eq_true hh.1)
                      have S1 : Hid (∀ nq, RU (wr.drewN nq) g e ∧ Chg (fun k => k = g) w (wr.drewN nq)) := fun nq => ⟨q1.drewN nq, ⟨q4.os, q4.tape, q4.output, q4.size, q4.block⟩⟩
                      clear hid q1 q3 q4
                      go_wp2_with fail
                      go_quiet (fail)
                      go_wp2_with fail
                      clear gd
                      go_loopw [11] (fun sj wq => ∃ j' : Nat, sj = .int .i64 j' ∧ j' ≤ j ∧ Hid (RU wq g e ∧ Sort.scanDown (fun x => !ltI x e[a]!) e i2 j' = Sort.scanDown (fun x => !ltI x e[a]!) e i2 j ∧ Chg (fun k => k = g) w wq)) (fun sj _ => (intOf sj).toNat)
                      case atStart => exact ⟨j, rfl, Nat.le_refl _, (S1.out _).1, rfl, (S1.out _).2⟩
                      case round =>
                        obtain ⟨j', rfl, hj', hjd⟩ := hrel
                        obtain ⟨q1, q3, q4⟩ := hjd.out
                        clear S1
                        by_cases c2 : i2 ≤ j'
                        · exact absurd c2 (by omega)
                        · have gd : decide ((i2 : Int) ≤ (j' : Int)) = false := decide_eq_false (by omega)
                          have gt : (j' : Int) < (i2 : Int) := by omega
                          have hd : Sort.scanDown (fun x => !ltI x e[a]!) e i2 j = j' := by
                            rw [← q3]
                            cases j' with
                            | zero => rfl
                            | succ m =>
                              rw [Sort.scanDown, if_neg]
                              rw [Bool.and_eq_true]
                              exact fun hh => c2 (of_decide_eq_true hh.1)
                          have lj' : j' < n := by omega
                          have oj : (j' : Int) < (n : Int) := by omega
                          have oa : (a : Int) < (n : Int) := by omega
                          have lb := q1.cell (i := j') (by omega)
                          have la := q1.cell (i := a) (by omega)
                          have fb := q1.fr j'
                          have fa := q1.fr a
                          obtain ⟨yb, hyb⟩ : ∃ x, e[j']! = x := ⟨_, rfl⟩
                          obtain ⟨ya, hya⟩ : ∃ x, e[a]! = x := ⟨_, rfl⟩
                          rw [hyb] at lb
                          rw [hya] at la
                          have R : Hid (R0.1 = j' ∧ R0.2.1 = false ∧ ∀ nq, RU (((wr.drewN nq).setCell ⟨g, j', none⟩ (.int .u64 ya)).setCell ⟨g, a, none⟩ (.int .u64 yb)) g R0.2.2 ∧ R0.2.2.size = n ∧ Chg (fun k => k = g) w (((wr.drewN nq).setCell ⟨g, j', none⟩ (.int .u64 ya)).setCell ⟨g, a, none⟩ (.int .u64 yb))) := by
                            have hr : R0 = (j', false, Sort.swp e j' a) := by
                              rw [PT.out, ← PQ.out, Sort.partLoop_eq ltI a i j e, UP.out, hd, if_pos (by omega)]
                            rw [hr]
                            refine ⟨rfl, rfl, fun nq => ?_⟩
                            have q1' : RU (wr.drewN nq) g e := q1.drewN nq
                            have := q1'.swp (i := j') (j := a) (by omega) (by omega)
                            rw [hya, hyb] at this
                            refine ⟨this, by rw [swp_size]; exact he, ?_⟩
                            have c2 : Chg (fun k => k = g) w (wr.drewN nq) := ⟨q4.os, q4.tape, q4.output, q4.size, q4.block⟩
                            exact (c2.setCell (p := ⟨g, j', none⟩) (.inl rfl) _).setCell (p := ⟨g, a, none⟩) (.inl rfl) _
                          have YE : Hid (j' = a → yb = ya) := (fun h => by rw [← hya, ← hyb, h] : j' = a → yb = ya)
                          clear hjd q1 q3 q4 hd hya hyb
                          go_wp2_with fail
                          go_quiet (fail)
                          go_wp2_with fail
                          by_cases ja : j' = a
                          · have := YE.out ja
                            subst this
                            subst ja
                            go_region
                            go_wp2_with fail
                            refine bodyPost_ret (results_tt rfl _ _) rfl ?_
                            exact ⟨by rw [R.out.1, R.out.2.1]; rfl, R.out.2.2 _⟩
                          · have aj : ¬ (a = j') := fun h => ja h.symm
                            go_region
                            go_wp2_with fail
                            refine bodyPost_ret (results_tt rfl _ _) rfl ?_
                            exact ⟨by rw [R.out.1, R.out.2.1]; rfl, R.out.2.2 _⟩
              · have dlt : decide (yb < ya) = false := decide_eq_false hlt
                rw [dlt] at LS
                have R : Hid (∀ nq, RU (wr.drewN nq) g e ∧ Sort.scanDown (fun x => !ltI x e[a]!) e i2 m = Sort.scanDown (fun x => !ltI x e[a]!) e i2 j ∧ Chg (fun k => k = g) w (wr.drewN nq)) := fun nq => by
                  refine ⟨q1.drewN nq, ?_, ⟨q4.os, q4.tape, q4.output, q4.size, q4.block⟩⟩
                  rw [← q3]
                  show _ = Sort.scanDown (fun x => !ltI x e[a]!) e i2 (m + 1)
                  rw [Sort.scanDown, if_pos]
                  rw [hya, hyb, Bool.and_eq_true]
                  exact ⟨decide_eq_true c2, by rw [show ltI yb ya = false from dlt]; rfl⟩
                clear hjd q1 q3 q4 hya hyb dlt
                go_wp2_with fail
                go_quiet ((go_at_call 40; refine Calls.quiet_of_same (LS.out _)))
                go_wp2_with fail
                go_roundw
                case rel => exact ⟨m, by go_num, by omega, R.out _⟩
                case measure => simp [intOf]
            · have gd : decide ((i2 : Int) ≤ (j' : Int)) = false := decide_eq_false (by omega)
              have gt : (j' : Int) < (i2 : Int) := by omega
              have hd : Sort.scanDown (fun x => !ltI x e[a]!) e i2 j = j' := by
                rw [← q3]
                cases j' with
                | zero => rfl
                | succ m =>
                  rw [Sort.scanDown, if_neg]
                  rw [Bool.and_eq_true]
                  exact fun hh => c2 (of_decide_eq_true hh.1)
              have lj' : j' < n := by omega
              have oj : (j' : Int) < (n : Int) := by omega
              have oa : (a : Int) < (n : Int) := by omega
              have lb := q1.cell (i := j') (by omega)
              have la := q1.cell (i := a) (by omega)
              have fb := q1.fr j'
              have fa := q1.fr a
              obtain ⟨yb, hyb⟩ : ∃ x, e[j']! = x := ⟨_, rfl⟩
              obtain ⟨ya, hya⟩ : ∃ x, e[a]! = x := ⟨_, rfl⟩
              rw [hyb] at lb
              rw [hya] at la
              have R : Hid (R0.1 = j' ∧ R0.2.1 = true ∧ ∀ nq, RU (((wr.drewN nq).setCell ⟨g, j', none⟩ (.int .u64 ya)).setCell ⟨g, a, none⟩ (.int .u64 yb)) g R0.2.2 ∧ R0.2.2.size = n ∧ Chg (fun k => k = g) w (((wr.drewN nq).setCell ⟨g, j', none⟩ (.int .u64 ya)).setCell ⟨g, a, none⟩ (.int .u64 yb))) := by
                have hr : R0 = (j', true, Sort.swp e j' a) := by
                  rw [PT.out, UP.out, hd, if_pos (by omega)]
                rw [hr]
                refine ⟨rfl, rfl, fun nq => ?_⟩
                have q1' : RU (wr.drewN nq) g e := q1.drewN nq
                have := q1'.swp (i := j') (j := a) (by omega) (by omega)
                rw [hya, hyb] at this
                refine ⟨this, by rw [swp_size]; exact he, ?_⟩
                have c2 : Chg (fun k => k = g) w (wr.drewN nq) := ⟨q4.os, q4.tape, q4.output, q4.size, q4.block⟩
                exact (c2.setCell (p := ⟨g, j', none⟩) (.inl rfl) _).setCell (p := ⟨g, a, none⟩) (.inl rfl) _
              have YE : Hid (j' = a → yb = ya) := (fun h => by rw [← hya, ← hyb, h] : j' = a → yb = ya)
              clear hjd q1 q3 q4 hd hya hyb
              go_wp2_with fail
              go_quiet (fail)
              go_wp2_with fail
              by_cases ja : j' = a
              · have := YE.out ja
                subst this
                subst ja
                go_region
                go_wp2_with fail
                refine bodyPost_ret (results_tt rfl _ _) rfl ?_
                exact ⟨by rw [R.out.1, R.out.2.1]; rfl, R.out.2.2 _⟩
              · have aj : ¬ (a = j') := fun h => ja h.symm
                go_region
                go_wp2_with fail
                refine bodyPost_ret (results_tt rfl _ _) rfl ?_
                exact ⟨by rw [R.out.1, R.out.2.1]; rfl, R.out.2.2 _⟩
      · have gd : decide ((i2 : Int) ≤ (j : Int)) = false := decide_eq_false (by omega)
        have UP : Hid (Sort.scanUp (fun x => ltI x e[a]!) e j i = i2) := by
          show Sort.scanUp (fun x => ltI x e[a]!) e j i = i2
          rw [← q3, Sort.scanUp.eq_def, if_neg]
          rw [Bool.and_eq_true]
          exact fun hh => c1 (of_decide_eq_true hh.1)
        have S1 : Hid (∀ nq, RU (wr.drewN nq) g e ∧ Chg (fun k => k = g) w (wr.drewN nq)) := fun nq => ⟨q1.drewN nq, ⟨q4.os, q4.tape, q4.output, q4.size, q4.block⟩⟩
        clear hid q1 q3 q4
        go_wp2_with fail
        go_quiet (fail)
        go_wp2_with fail
        clear gd
        go_loopw [11] (fun sj wq => ∃ j' : Nat, sj = .int .i64 j' ∧ j' ≤ j ∧ Hid (RU wq g e ∧ Sort.scanDown (fun x => !ltI x e[a]!) e i2 j' = Sort.scanDown (fun x => !ltI x e[a]!) e i2 j ∧ Chg (fun k => k = g) w wq)) (fun sj _ => (intOf sj).toNat)
        case atStart => exact ⟨j, rfl, Nat.le_refl _, (S1.out _).1, rfl, (S1.out _).2⟩
        case round =>
          obtain ⟨j', rfl, hj', hjd⟩ := hrel
          obtain ⟨q1, q3, q4⟩ := hjd.out
          clear S1
          by_cases c2 : i2 ≤ j'
          · exact absurd c2 (by omega)
          · have gd : decide ((i2 : Int) ≤ (j' : Int)) = false := decide_eq_false (by omega)
            have gt : (j' : Int) < (i2 : Int) := by omega
            have hd : Sort.scanDown (fun x => !ltI x e[a]!) e i2 j = j' := by
              rw [← q3]
              cases j' with
              | zero => rfl
              | succ m =>
                rw [Sort.scanDown, if_neg]
                rw [Bool.and_eq_true]
                exact fun hh => c2 (of_decide_eq_true hh.1)
            have lj' : j' < n := by omega
            have oj : (j' : Int) < (n : Int) := by omega
            have oa : (a : Int) < (n : Int) := by omega
            have lb := q1.cell (i := j') (by omega)
            have la := q1.cell (i := a) (by omega)
            have fb := q1.fr j'
            have fa := q1.fr a
            obtain ⟨yb, hyb⟩ : ∃ x, e[j']! = x := ⟨_, rfl⟩
            obtain ⟨ya, hya⟩ : ∃ x, e[a]! = x := ⟨_, rfl⟩
            rw [hyb] at lb
            rw [hya] at la
            have R : Hid (R0.1 = j' ∧ R0.2.1 = true ∧ ∀ nq, RU (((wr.drewN nq).setCell ⟨g, j', none⟩ (.int .u64 ya)).setCell ⟨g, a, none⟩ (.int .u64 yb)) g R0.2.2 ∧ R0.2.2.size = n ∧ Chg (fun k => k = g) w (((wr.drewN nq).setCell ⟨g, j', none⟩ (.int .u64 ya)).setCell ⟨g, a, none⟩ (.int .u64 yb))) := by
              have hr : R0 = (j', true, Sort.swp e j' a) := by
                rw [PT.out, UP.out, hd, if_pos (by omega)]
              rw [hr]
              refine ⟨rfl, rfl, fun nq => ?_⟩
              have q1' : RU (wr.drewN nq) g e := q1.drewN nq
              have := q1'.swp (i := j') (j := a) (by omega) (by omega)
              rw [hya, hyb] at this
              refine ⟨this, by rw [swp_size]; exact he, ?_⟩
              have c2 : Chg (fun k => k = g) w (wr.drewN nq) := ⟨q4.os, q4.tape, q4.output, q4.size, q4.block⟩
              exact (c2.setCell (p := ⟨g, j', none⟩) (.inl rfl) _).setCell (p := ⟨g, a, none⟩) (.inl rfl) _
            have YE : Hid (j' = a → yb = ya) := (fun h => by rw [← hya, ← hyb, h] : j' = a → yb = ya)
            clear hjd q1 q3 q4 hd hya hyb
            go_wp2_with fail
            go_quiet (fail)
            go_wp2_with fail
            by_cases ja : j' = a
            · have := YE.out ja
              subst this
              subst ja
              go_region
              go_wp2_with fail
              refine bodyPost_ret (results_tt rfl _ _) rfl ?_
              exact ⟨by rw [R.out.1, R.out.2.1]; rfl, R.out.2.2 _⟩
            · have aj : ¬ (a = j') := fun h => ja h.symm
              go_region
              go_wp2_with fail
              refine bodyPost_ret (results_tt rfl _ _) rfl ?_
              exact ⟨by rw [R.out.1, R.out.2.1]; rfl, R.out.2.2 _⟩

end Go.Proofs.Ytnfcmpffihmnmaa
