/-
  partialInsertionSortOrdered. Laid by tools/gen/seg/genpis.py.
-/
import Derived.Test.YtnfcmpffihmnmaaSgA
import Derived.Deep.Cut
namespace Go.Proofs.Ytnfcmpffihmnmaa
open Go.RowKit

theorem pis_step (a b s i : Nat) (d : Array Int) (h1 : ¬ Sort.scanSorted ltI d b i = b) (h2 : ¬ b - a < 50) : Sort.partialIns ltI a b (s + 1) i d = Sort.partialIns ltI a b s (Sort.scanSorted ltI d b i) (if b - Sort.scanSorted ltI d b i ≥ 2 then Sort.shiftUp ltI b (Sort.scanSorted ltI d b i + 1) (if Sort.scanSorted ltI d b i - a ≥ 2 then Sort.shiftDown ltI (Sort.scanSorted ltI d b i - 1) (Sort.swp d (Sort.scanSorted ltI d b i) (Sort.scanSorted ltI d b i - 1)) else Sort.swp d (Sort.scanSorted ltI d b i) (Sort.scanSorted ltI d b i - 1)) else (if Sort.scanSorted ltI d b i - a ≥ 2 then Sort.shiftDown ltI (Sort.scanSorted ltI d b i - 1) (Sort.swp d (Sort.scanSorted ltI d b i) (Sort.scanSorted ltI d b i - 1)) else Sort.swp d (Sort.scanSorted ltI d b i) (Sort.scanSorted ltI d b i - 1))) := by
  rw [Sort.partialIns]
  simp only [if_neg h1, if_neg h2]

theorem pis_all (a b s i : Nat) (d : Array Int) (h1 : Sort.scanSorted ltI d b i = b) : Sort.partialIns ltI a b (s + 1) i d = (d, true) := by
  rw [Sort.partialIns]
  simp only [if_pos h1]

theorem pis_few (a b s i : Nat) (d : Array Int) (h1 : ¬ Sort.scanSorted ltI d b i = b) (h2 : b - a < 50) : Sort.partialIns ltI a b (s + 1) i d = (d, false) := by
  rw [Sort.partialIns]
  simp only [if_neg h1, if_pos h2]

set_option maxRecDepth 100000 in
set_option maxHeartbeats 8000000 in
theorem pis_any {w : World} {g n cap : Nat} {d : Array Int} (h : RU w g d) (hn : d.size = n) (hn2 : n ≤ 1099511627776) (a b : Nat) (hab : a < b) (hbn : b ≤ n) :
    Calls Try.prog 39 #[.slice (some ⟨g, 0, none⟩) n cap, .int .i64 a, .int .i64 b] w fun e w' => e = .returned (.bool (Sort.partialInsertionSort ltI d a b).2) ∧ RU w' g (Sort.partialInsertionSort ltI d a b).1 ∧ (Sort.partialInsertionSort ltI d a b).1.size = n ∧ Chg (fun k => k = g) w w' := by
  obtain ⟨R0, hR0⟩ : ∃ R, R = Sort.partialInsertionSort ltI d a b := ⟨_, rfl⟩
  have P0 : Hid (RU w g d ∧ d.size = n ∧ Sort.partialIns ltI a b (5 - 0) (a + 1) d = R0 ∧ Chg (fun k => k = g) w w) := ⟨h, hn, by rw [hR0]; rfl, Chg.refl _ _⟩
  rw [← hR0]
  clear h hn hR0
  go_enter Try.func39, Try.ntmps39
  go_wp2_with fail
  go_loopw [7, 8] (fun si sj wr => ∃ (i t : Nat) (e : Array Int), si = .int .i64 i ∧ sj = .int .i64 t ∧ t ≤ 5 ∧ a < i ∧ i ≤ b ∧ Hid (RU wr g e ∧ e.size = n ∧ Sort.partialIns ltI a b (5 - t) i e = R0 ∧ Chg (fun k => k = g) w wr)) (fun _ sj _ => (5 - intOf sj).toNat)
  case atStart => exact ⟨a + 1, 0, d, by go_num, by go_num, by omega, by omega, by omega, P0.out⟩
  case round =>
    obtain ⟨i, t, e, rfl, rfl, ht, hai, hib, hid⟩ := hrel
    clear P0
    by_cases t5 : t = 5
    · subst t5
      have R : Hid (R0.2 = false ∧ RU wr g R0.1 ∧ R0.1.size = n ∧ Chg (fun k => k = g) w wr) := by
        have z := hid.out
        have hz : R0 = (e, false) := by rw [← z.2.2.1]; rfl
        rw [hz]
        exact ⟨rfl, z.1, z.2.1, z.2.2.2⟩
      clear hid
      go_wp2_with fail
      go_ret
      exact ⟨by rw [R.out.1]; rfl, R.out.2⟩
    · obtain ⟨z1, z2, z3, z4⟩ := hid.out
      rw [show 5 - t = (4 - t) + 1 by omega] at z3
      have PT0 : Hid _ := z3
      have HE : Hid _ := z2
      have S0 : Hid _ := And.intro z1 z4
      have tlt : decide ((t : Int) < 5) = true := decide_eq_true (by omega)
      clear hid z1 z2 z3 z4
      go_wp2_with fail
      go_loopw [7] (fun si wq => ∃ m : Nat, si = .int .i64 ((m : Int) + 1) ∧ a ≤ m ∧ m + 1 ≤ b ∧ Hid (RU wq g e ∧ Sort.scanSorted ltI e b (m + 1) = Sort.scanSorted ltI e b i ∧ Chg (fun k => k = g) w wq)) (fun si _ => ((b : Int) - intOf si).toNat)
      case atStart => exact ⟨i - 1, by go_num, by omega, by omega, S0.out.1, by rw [show i - 1 + 1 = i by omega], S0.out.2⟩
      case round =>
        obtain ⟨m, rfl, ham, hmb, hjd⟩ := hrel
        clear S0
        obtain ⟨q1, q3, q4⟩ := hjd.out
        have q2 := HE.out
        by_cases c1 : m + 1 < b
        · have e3 : (m : Int) + 1 - 1 = (m : Int) := by omega
          have gd : decide ((m : Int) + 1 < (b : Int)) = true := decide_eq_true (by omega)
          have la := q1.cell (i := m + 1) (by omega)
          have lb := q1.cell (i := m) (by omega)
          have fa := q1.fr (m + 1)
          have fb := q1.fr (m)
          obtain ⟨ya, hya⟩ : ∃ x, e[m + 1]! = x := ⟨_, rfl⟩
          obtain ⟨yb, hyb⟩ : ∃ x, e[m]! = x := ⟨_, rfl⟩
          rw [hya] at la
          rw [hyb] at lb
          have oa : ((m + 1 : Nat) : Int) < (n : Int) := by omega
          have ob : ((m : Nat) : Int) < (n : Int) := by omega
          have oa2 : (m : Int) + 1 < (n : Int) := by omega
          have mm0 : ¬ (m + 1 = m) := by omega
          have LS : Hid _ := less_any ya yb
          by_cases hlt : ya < yb
          · have dlt : decide (ya < yb) = true := decide_eq_true hlt
            rw [dlt] at LS
            have SC : Hid (Sort.scanSorted ltI e b i = m + 1) := by
              show Sort.scanSorted ltI e b i = m + 1
              rw [← q3, Sort.scanSorted.eq_def, if_neg]
              show ¬ (decide (m + 1 < b) && !ltI e[m + 1]! e[m]!) = true
              rw [hya, hyb, show ltI ya yb = true from dlt]
              simp
            have ne : ¬ (m + 1 = b) := by omega
            by_cases few : b - a < 50
            · have R : Hid (∀ nq, R0.2 = false ∧ RU (wr.drewN nq) g R0.1 ∧ R0.1.size = n ∧ Chg (fun k => k = g) w (wr.drewN nq)) := fun nq => by
                have hz : R0 = (e, false) := by rw [← PT0.out, pis_few _ _ _ _ _ (by rw [SC.out]; exact ne) few]
                rw [hz]
                exact ⟨rfl, q1.drewN nq, q2, ⟨q4.os, q4.tape, q4.output, q4.size, q4.block⟩⟩
              have fw : (b : Int) - (a : Int) < 50 := by omega
              have ne2 : ¬ ((m : Int) + 1 = (b : Int)) := by omega
              clear hjd q1 q2 q3 q4 hya hyb dlt
              go_wp2_with fail
              go_quiet ((go_at_call 40; refine Calls.quiet_of_same (LS.out _)))
              go_wp2_with fail
              go_ret
              exact ⟨by rw [(R.out 0).1]; rfl, (R.out _).2⟩
            · have fw : ¬ ((b : Int) - (a : Int) < 50) := by omega
              have ne2 : ¬ ((m : Int) + 1 = (b : Int)) := by omega
              obtain ⟨G1, hG1⟩ : ∃ G, G = Sort.swp e (m + 1) m := ⟨_, rfl⟩
              have R : Hid (∀ nq, RU (((wr.drewN nq).setCell ⟨g, m + 1, none⟩ (.int .u64 yb)).setCell ⟨g, m, none⟩ (.int .u64 ya)) g (Sort.swp e (m + 1) (m)) ∧ (Sort.swp e (m + 1) (m)).size = n ∧ True ∧ Chg (fun k => k = g) w (((wr.drewN nq).setCell ⟨g, m + 1, none⟩ (.int .u64 yb)).setCell ⟨g, m, none⟩ (.int .u64 ya))) := fun nq => by
                have q1' : RU (wr.drewN nq) g e := q1.drewN nq
                have := q1'.swp (i := m + 1) (j := m) (by omega) (by omega)
                rw [hya, hyb] at this
                refine ⟨this, by rw [swp_size]; exact q2, ?_, ?_⟩
                · trivial
                · have c2 : Chg (fun k => k = g) w (wr.drewN nq) := ⟨q4.os, q4.tape, q4.output, q4.size, q4.block⟩
                  exact (c2.setCell (p := ⟨g, m + 1, none⟩) (.inl rfl) _).setCell (p := ⟨g, m, none⟩) (.inl rfl) _
              rw [← hG1] at R
              obtain ⟨G2, hG2⟩ : ∃ G, G = if m + 1 - a ≥ 2 then Sort.shiftDown ltI m G1 else G1 := ⟨_, rfl⟩
              have PT : Hid (Sort.partialIns ltI a b (4 - t) (m + 1) (if b - (m + 1) ≥ 2 then Sort.shiftUp ltI b (m + 1 + 1) G2 else G2) = R0) := by
                show _ = _
                rw [← PT0.out, pis_step _ _ _ _ _ (by rw [SC.out]; exact ne) few, SC.out, hG2, hG1]
                rfl
              clear hjd q1 q2 q3 q4 hya hyb dlt
              go_wp2_with fail
              go_quiet ((go_at_call 40; refine Calls.quiet_of_same (LS.out _)))
              go_upto_region 11 with fail
              go_region
              clear la lb fa fb LS gd PT0 SC HE
              by_cases c2 : m + 1 - a ≥ 2
              · rw [if_pos c2] at hG2
                have HG : Hid _ := hG2
                clear hG2 hG1
                go_wp2_with fail
                go_loopw [9] (fun sj wq => ∃ (k : Nat) (f : Array Int), sj = .int .i64 k ∧ k ≤ m ∧ Hid (RU wq g f ∧ f.size = n ∧ Sort.shiftDown ltI k f = G2 ∧ Chg (fun k => k = g) w wq)) (fun sj _ => (intOf sj).toNat)
                case atStart => exact ⟨m, G1, by go_num, Nat.le_refl _, (R.out _).1, (R.out 0).2.1, HG.out.symm, (R.out _).2.2.2⟩
                case round =>
                  clear R HG
                  obtain ⟨k, f, rfl, hkm, hjd⟩ := hrel
                  obtain ⟨q1, q2, q3, q4⟩ := hjd.out
                  cases k with
                  | zero =>
                    have q5 : f = G2 := q3
                    rw [q5] at q1 q2
                    have U1 : Hid _ := And.intro q1 q4
                    have US : Hid _ := q2
                    clear hjd q1 q2 q3 q4 q5
                    by_cases c3 : b - (m + 1) ≥ 2
                    · have G3 : Hid (∀ f, f = Sort.shiftUp ltI b (m + 1 + 1) G2 → Sort.partialIns ltI a b (4 - t) (m + 1) f = R0) := fun f hf => by
                        rw [← PT.out, hf]
                        show Sort.partialIns ltI a b (4 - t) (m + 1) (Sort.shiftUp ltI b (m + 1 + 1) G2) = Sort.partialIns ltI a b (4 - t) (m + 1) (if b - (m + 1) ≥ 2 then Sort.shiftUp ltI b (m + 1 + 1) G2 else G2)
                        rw [if_pos c3]
                      go_wp2_with fail
                      go_loopw [10] (fun sj wq => ∃ (k : Nat) (f : Array Int), sj = .int .i64 ((k : Int) + 1) ∧ k + 1 ≤ b ∧ m < k ∧ Hid (RU wq g f ∧ f.size = n ∧ Sort.shiftUp ltI b (k + 1) f = Sort.shiftUp ltI b (m + 1 + 1) G2 ∧ Chg (fun k => k = g) w wq)) (fun sj _ => ((b : Int) - intOf sj).toNat)
                      case atStart => exact ⟨m + 1, G2, by go_num, by omega, by omega, U1.out.1, US.out, rfl, U1.out.2⟩
                      case round =>
                        obtain ⟨k, f, rfl, hkb, hmk, hjd⟩ := hrel
                        obtain ⟨q1, q2, q3, q4⟩ := hjd.out
                        by_cases c4 : k + 1 < b
                        · have gk : (k : Int) + 1 < (b : Int) := by omega
                          have e3 : (k : Int) + 1 - 1 = (k : Int) := by omega
                          have la := q1.cell (i := k + 1) (by omega)
                          have lb := q1.cell (i := k) (by omega)
                          have fa := q1.fr (k + 1)
                          have fb := q1.fr (k)
                          obtain ⟨ya, hya⟩ : ∃ x, f[k + 1]! = x := ⟨_, rfl⟩
                          obtain ⟨yb, hyb⟩ : ∃ x, f[k]! = x := ⟨_, rfl⟩
                          rw [hya] at la
                          rw [hyb] at lb
                          have oa : ((k + 1 : Nat) : Int) < (n : Int) := by omega
                          have ob : ((k : Nat) : Int) < (n : Int) := by omega
                          have oa2 : (k : Int) + 1 < (n : Int) := by omega
                          have LS : Hid _ := less_any ya yb
                          have kk0 : ¬ (k + 1 = k) := by omega
                          by_cases hlt : ya < yb
                          · have dlt : decide (ya < yb) = true := decide_eq_true hlt
                            rw [dlt] at LS
                            have R : Hid (∀ nq, RU (((wr.drewN nq).setCell ⟨g, k + 1, none⟩ (.int .u64 yb)).setCell ⟨g, k, none⟩ (.int .u64 ya)) g (Sort.swp f (k + 1) (k)) ∧ (Sort.swp f (k + 1) (k)).size = n ∧ Sort.shiftUp ltI b (k + 1 + 1) (Sort.swp f (k + 1) k) = Sort.shiftUp ltI b (m + 1 + 1) G2 ∧ Chg (fun k => k = g) w (((wr.drewN nq).setCell ⟨g, k + 1, none⟩ (.int .u64 yb)).setCell ⟨g, k, none⟩ (.int .u64 ya))) := fun nq => by
                              have q1' : RU (wr.drewN nq) g f := q1.drewN nq
                              have := q1'.swp (i := k + 1) (j := k) (by omega) (by omega)
                              rw [hya, hyb] at this
                              refine ⟨this, by rw [swp_size]; exact q2, ?_, ?_⟩
                              · rw [← q3, Sort.shiftUp.eq_def ltI b (k + 1) f, if_pos c4, if_neg]
                                · rfl
                                · show ¬ (!ltI f[k + 1]! f[k]!) = true
                                  rw [hya, hyb, show ltI ya yb = true from dlt]
                                  decide
                              · have c2 : Chg (fun k => k = g) w (wr.drewN nq) := ⟨q4.os, q4.tape, q4.output, q4.size, q4.block⟩
                                exact (c2.setCell (p := ⟨g, k + 1, none⟩) (.inl rfl) _).setCell (p := ⟨g, k, none⟩) (.inl rfl) _
                            clear hjd q1 q2 q3 q4 hya hyb dlt
                            go_wp2_with fail
                            go_quiet ((go_at_call 40; refine Calls.quiet_of_same (LS.out _)))
                            go_wp2_with fail
                            go_region
                            go_wp2_with fail
                            go_roundw
                            case rel => exact ⟨k + 1, _, by go_num, by omega, by omega, R.out _⟩
                            case measure => simp [intOf]; omega
                          · have dlt : decide (ya < yb) = false := decide_eq_false hlt
                            rw [dlt] at LS
                            have R : Hid (∀ nq, RU (wr.drewN nq) g f ∧ f.size = n ∧ Sort.partialIns ltI a b (4 - t) (m + 1) f = R0 ∧ Chg (fun k => k = g) w (wr.drewN nq)) := fun nq => by
                              refine ⟨q1.drewN nq, q2, G3.out f ?_, ⟨q4.os, q4.tape, q4.output, q4.size, q4.block⟩⟩
                              rw [← q3, Sort.shiftUp.eq_def ltI b (k + 1) f, if_pos c4, if_pos]
                              show (!ltI f[k + 1]! f[k]!) = true
                              rw [hya, hyb, show ltI ya yb = false from dlt]
                              rfl
                            clear hjd q1 q2 q3 q4 hya hyb dlt
                            go_wp2_with fail
                            go_quiet ((go_at_call 40; refine Calls.quiet_of_same (LS.out _)))
                            go_wp2_with fail
                            go_roundw
                            case rel => exact ⟨m + 1, t + 1, _, by go_num, by go_num, by omega, by omega, by omega, (by rw [show 5 - (t + 1) = 4 - t by omega]; exact R.out _)⟩
                            case measure => simp [intOf]; omega
                        · have gk : ¬ ((k : Int) + 1 < (b : Int)) := by omega
                          have R : Hid (∀ nq, RU (wr.drewN nq) g f ∧ f.size = n ∧ Sort.partialIns ltI a b (4 - t) (m + 1) f = R0 ∧ Chg (fun k => k = g) w (wr.drewN nq)) := fun nq => by
                            refine ⟨q1.drewN nq, q2, G3.out f ?_, ⟨q4.os, q4.tape, q4.output, q4.size, q4.block⟩⟩
                            rw [← q3, Sort.shiftUp.eq_def ltI b (k + 1) f, if_neg c4]
                          clear hjd q1 q2 q3 q4
                          go_wp2_with fail
                          go_roundw
                          case rel => exact ⟨m + 1, t + 1, _, by go_num, by go_num, by omega, by omega, by omega, (by rw [show 5 - (t + 1) = 4 - t by omega]; exact R.out 0)⟩
                          case measure => simp [intOf]; omega
                    · have G3 : Hid (Sort.partialIns ltI a b (4 - t) (m + 1) G2 = R0) := by
                        show Sort.partialIns ltI a b (4 - t) (m + 1) G2 = R0
                        rw [← PT.out]
                        show _ = Sort.partialIns ltI a b (4 - t) (m + 1) (if b - (m + 1) ≥ 2 then Sort.shiftUp ltI b (m + 1 + 1) G2 else G2)
                        rw [if_neg c3]
                      go_wp2_with fail
                      go_roundw
                      case rel => exact ⟨m + 1, t + 1, _, by go_num, by go_num, by omega, by omega, by omega, (by rw [show 5 - (t + 1) = 4 - t by omega]; exact ⟨U1.out.1, US.out, G3.out, U1.out.2⟩)⟩
                      case measure => simp [intOf]; omega
                  | succ k =>
                    have e5 : ((k + 1 : Nat) : Int) - 1 = (k : Int) := by omega
                    have e6 : (k : Int) + 1 - 1 = (k : Int) := by omega
                    have e7 : (1 : Int) ≤ ((k + 1 : Nat) : Int) := by omega
                    have e8 : (1 : Int) ≤ (k : Int) + 1 := by omega
                    have la := q1.cell (i := k + 1) (by omega)
                    have lb := q1.cell (i := k) (by omega)
                    have fa := q1.fr (k + 1)
                    have fb := q1.fr (k)
                    obtain ⟨ya, hya⟩ : ∃ x, f[k + 1]! = x := ⟨_, rfl⟩
                    obtain ⟨yb, hyb⟩ : ∃ x, f[k]! = x := ⟨_, rfl⟩
                    rw [hya] at la
                    rw [hyb] at lb
                    have oa : ((k + 1 : Nat) : Int) < (n : Int) := by omega
                    have ob : ((k : Nat) : Int) < (n : Int) := by omega
                    have oa2 : (k : Int) + 1 < (n : Int) := by omega
                    have kk0 : ¬ (k + 1 = k) := by omega
                    have LS : Hid _ := less_any ya yb
                    by_cases hlt : ya < yb
                    · have dlt : decide (ya < yb) = true := decide_eq_true hlt
                      rw [dlt] at LS
                      have R : Hid (∀ nq, RU (((wr.drewN nq).setCell ⟨g, k + 1, none⟩ (.int .u64 yb)).setCell ⟨g, k, none⟩ (.int .u64 ya)) g (Sort.swp f (k + 1) (k)) ∧ (Sort.swp f (k + 1) (k)).size = n ∧ Sort.shiftDown ltI k (Sort.swp f (k + 1) k) = G2 ∧ Chg (fun k => k = g) w (((wr.drewN nq).setCell ⟨g, k + 1, none⟩ (.int .u64 yb)).setCell ⟨g, k, none⟩ (.int .u64 ya))) := fun nq => by
                        have q1' : RU (wr.drewN nq) g f := q1.drewN nq
                        have := q1'.swp (i := k + 1) (j := k) (by omega) (by omega)
                        rw [hya, hyb] at this
                        refine ⟨this, by rw [swp_size]; exact q2, ?_, ?_⟩
                        · rw [← q3, Sort.shiftDown, if_neg]
                          show ¬ (!ltI f[k + 1]! f[k]!) = true
                          rw [hya, hyb, show ltI ya yb = true from dlt]
                          decide
                        · have c2 : Chg (fun k => k = g) w (wr.drewN nq) := ⟨q4.os, q4.tape, q4.output, q4.size, q4.block⟩
                          exact (c2.setCell (p := ⟨g, k + 1, none⟩) (.inl rfl) _).setCell (p := ⟨g, k, none⟩) (.inl rfl) _
                      clear hjd q1 q2 q3 q4 hya hyb dlt
                      go_wp2_with fail
                      go_quiet ((go_at_call 40; refine Calls.quiet_of_same (LS.out _)))
                      go_wp2_with fail
                      go_region
                      go_wp2_with fail
                      go_roundw
                      case rel => exact ⟨k, _, by go_num, by omega, R.out _⟩
                      case measure => simp [intOf]
                    · have dlt : decide (ya < yb) = false := decide_eq_false hlt
                      rw [dlt] at LS
                      have q5 : f = G2 := by
                        rw [← q3, Sort.shiftDown, if_pos]
                        show (!ltI f[k + 1]! f[k]!) = true
                        rw [hya, hyb, show ltI ya yb = false from dlt]
                        rfl
                      rw [q5] at q1 q2
                      have U1 : Hid (∀ nq, RU (wr.drewN nq) g G2 ∧ Chg (fun k => k = g) w (wr.drewN nq)) := fun nq => ⟨q1.drewN nq, ⟨q4.os, q4.tape, q4.output, q4.size, q4.block⟩⟩
                      have US : Hid _ := q2
                      clear hjd q1 q2 q3 q4 q5 hya hyb dlt
                      go_wp2_with fail
                      go_quiet ((go_at_call 40; refine Calls.quiet_of_same (LS.out _)))
                      go_upto_region 18 with fail
                      clear la lb fa fb LS
                      by_cases c3 : b - (m + 1) ≥ 2
                      · have G3 : Hid (∀ f, f = Sort.shiftUp ltI b (m + 1 + 1) G2 → Sort.partialIns ltI a b (4 - t) (m + 1) f = R0) := fun f hf => by
                          rw [← PT.out, hf]
                          show Sort.partialIns ltI a b (4 - t) (m + 1) (Sort.shiftUp ltI b (m + 1 + 1) G2) = Sort.partialIns ltI a b (4 - t) (m + 1) (if b - (m + 1) ≥ 2 then Sort.shiftUp ltI b (m + 1 + 1) G2 else G2)
                          rw [if_pos c3]
                        go_wp2_with fail
                        go_loopw [10] (fun sj wq => ∃ (k : Nat) (f : Array Int), sj = .int .i64 ((k : Int) + 1) ∧ k + 1 ≤ b ∧ m < k ∧ Hid (RU wq g f ∧ f.size = n ∧ Sort.shiftUp ltI b (k + 1) f = Sort.shiftUp ltI b (m + 1 + 1) G2 ∧ Chg (fun k => k = g) w wq)) (fun sj _ => ((b : Int) - intOf sj).toNat)
                        case atStart => exact ⟨m + 1, G2, by go_num, by omega, by omega, (U1.out _).1, US.out, rfl, (U1.out _).2⟩
                        case round =>
                          obtain ⟨k, f, rfl, hkb, hmk, hjd⟩ := hrel
                          obtain ⟨q1, q2, q3, q4⟩ := hjd.out
                          by_cases c4 : k + 1 < b
                          · have gk : (k : Int) + 1 < (b : Int) := by omega
                            have e3 : (k : Int) + 1 - 1 = (k : Int) := by omega
                            have la := q1.cell (i := k + 1) (by omega)
                            have lb := q1.cell (i := k) (by omega)
                            have fa := q1.fr (k + 1)
                            have fb := q1.fr (k)
                            obtain ⟨ya, hya⟩ : ∃ x, f[k + 1]! = x := ⟨_, rfl⟩
                            obtain ⟨yb, hyb⟩ : ∃ x, f[k]! = x := ⟨_, rfl⟩
                            rw [hya] at la
                            rw [hyb] at lb
                            have oa : ((k + 1 : Nat) : Int) < (n : Int) := by omega
                            have ob : ((k : Nat) : Int) < (n : Int) := by omega
                            have oa2 : (k : Int) + 1 < (n : Int) := by omega
                            have LS : Hid _ := less_any ya yb
                            have kk0 : ¬ (k + 1 = k) := by omega
                            by_cases hlt : ya < yb
                            · have dlt : decide (ya < yb) = true := decide_eq_true hlt
                              rw [dlt] at LS
                              have R : Hid (∀ nq, RU (((wr.drewN nq).setCell ⟨g, k + 1, none⟩ (.int .u64 yb)).setCell ⟨g, k, none⟩ (.int .u64 ya)) g (Sort.swp f (k + 1) (k)) ∧ (Sort.swp f (k + 1) (k)).size = n ∧ Sort.shiftUp ltI b (k + 1 + 1) (Sort.swp f (k + 1) k) = Sort.shiftUp ltI b (m + 1 + 1) G2 ∧ Chg (fun k => k = g) w (((wr.drewN nq).setCell ⟨g, k + 1, none⟩ (.int .u64 yb)).setCell ⟨g, k, none⟩ (.int .u64 ya))) := fun nq => by
                                have q1' : RU (wr.drewN nq) g f := q1.drewN nq
                                have := q1'.swp (i := k + 1) (j := k) (by omega) (by omega)
                                rw [hya, hyb] at this
                                refine ⟨this, by rw [swp_size]; exact q2, ?_, ?_⟩
                                · rw [← q3, Sort.shiftUp.eq_def ltI b (k + 1) f, if_pos c4, if_neg]
                                  · rfl
                                  · show ¬ (!ltI f[k + 1]! f[k]!) = true
                                    rw [hya, hyb, show ltI ya yb = true from dlt]
                                    decide
                                · have c2 : Chg (fun k => k = g) w (wr.drewN nq) := ⟨q4.os, q4.tape, q4.output, q4.size, q4.block⟩
                                  exact (c2.setCell (p := ⟨g, k + 1, none⟩) (.inl rfl) _).setCell (p := ⟨g, k, none⟩) (.inl rfl) _
                              clear hjd q1 q2 q3 q4 hya hyb dlt
                              go_wp2_with fail
                              go_quiet ((go_at_call 40; refine Calls.quiet_of_same (LS.out _)))
                              go_wp2_with fail
                              go_region
                              go_wp2_with fail
                              go_roundw
                              case rel => exact ⟨k + 1, _, by go_num, by omega, by omega, R.out _⟩
                              case measure => simp [intOf]; omega
                            · have dlt : decide (ya < yb) = false := decide_eq_false hlt
                              rw [dlt] at LS
                              have R : Hid (∀ nq, RU (wr.drewN nq) g f ∧ f.size = n ∧ Sort.partialIns ltI a b (4 - t) (m + 1) f = R0 ∧ Chg (fun k => k = g) w (wr.drewN nq)) := fun nq => by
                                refine ⟨q1.drewN nq, q2, G3.out f ?_, ⟨q4.os, q4.tape, q4.output, q4.size, q4.block⟩⟩
                                rw [← q3, Sort.shiftUp.eq_def ltI b (k + 1) f, if_pos c4, if_pos]
                                show (!ltI f[k + 1]! f[k]!) = true
                                rw [hya, hyb, show ltI ya yb = false from dlt]
                                rfl
                              clear hjd q1 q2 q3 q4 hya hyb dlt
                              go_wp2_with fail
                              go_quiet ((go_at_call 40; refine Calls.quiet_of_same (LS.out _)))
                              go_wp2_with fail
                              go_roundw
                              case rel => exact ⟨m + 1, t + 1, _, by go_num, by go_num, by omega, by omega, by omega, (by rw [show 5 - (t + 1) = 4 - t by omega]; exact R.out _)⟩
                              case measure => simp [intOf]; omega
                          · have gk : ¬ ((k : Int) + 1 < (b : Int)) := by omega
                            have R : Hid (∀ nq, RU (wr.drewN nq) g f ∧ f.size = n ∧ Sort.partialIns ltI a b (4 - t) (m + 1) f = R0 ∧ Chg (fun k => k = g) w (wr.drewN nq)) := fun nq => by
                              refine ⟨q1.drewN nq, q2, G3.out f ?_, ⟨q4.os, q4.tape, q4.output, q4.size, q4.block⟩⟩
                              rw [← q3, Sort.shiftUp.eq_def ltI b (k + 1) f, if_neg c4]
                            clear hjd q1 q2 q3 q4
                            go_wp2_with fail
                            go_roundw
                            case rel => exact ⟨m + 1, t + 1, _, by go_num, by go_num, by omega, by omega, by omega, (by rw [show 5 - (t + 1) = 4 - t by omega]; exact R.out 0)⟩
                            case measure => simp [intOf]; omega
                      · have G3 : Hid (Sort.partialIns ltI a b (4 - t) (m + 1) G2 = R0) := by
                          show Sort.partialIns ltI a b (4 - t) (m + 1) G2 = R0
                          rw [← PT.out]
                          show _ = Sort.partialIns ltI a b (4 - t) (m + 1) (if b - (m + 1) ≥ 2 then Sort.shiftUp ltI b (m + 1 + 1) G2 else G2)
                          rw [if_neg c3]
                        go_wp2_with fail
                        go_roundw
                        case rel => exact ⟨m + 1, t + 1, _, by go_num, by go_num, by omega, by omega, by omega, (by rw [show 5 - (t + 1) = 4 - t by omega]; exact ⟨(U1.out _).1, US.out, G3.out, (U1.out _).2⟩)⟩
                        case measure => simp [intOf]; omega
              · rw [if_neg c2] at hG2
                rw [← hG2] at R
                clear hG2 hG1
                have US : Hid _ := (R.out 0).2.1
                have U1 : Hid _ := R
                clear R
                by_cases c3 : b - (m + 1) ≥ 2
                · have G3 : Hid (∀ f, f = Sort.shiftUp ltI b (m + 1 + 1) G2 → Sort.partialIns ltI a b (4 - t) (m + 1) f = R0) := fun f hf => by
                    rw [← PT.out, hf]
                    show Sort.partialIns ltI a b (4 - t) (m + 1) (Sort.shiftUp ltI b (m + 1 + 1) G2) = Sort.partialIns ltI a b (4 - t) (m + 1) (if b - (m + 1) ≥ 2 then Sort.shiftUp ltI b (m + 1 + 1) G2 else G2)
                    rw [if_pos c3]
                  go_wp2_with fail
                  go_loopw [10] (fun sj wq => ∃ (k : Nat) (f : Array Int), sj = .int .i64 ((k : Int) + 1) ∧ k + 1 ≤ b ∧ m < k ∧ Hid (RU wq g f ∧ f.size = n ∧ Sort.shiftUp ltI b (k + 1) f = Sort.shiftUp ltI b (m + 1 + 1) G2 ∧ Chg (fun k => k = g) w wq)) (fun sj _ => ((b : Int) - intOf sj).toNat)
                  case atStart => exact ⟨m + 1, G2, by go_num, by omega, by omega, (U1.out _).1, US.out, rfl, (U1.out _).2.2.2⟩
                  case round =>
                    obtain ⟨k, f, rfl, hkb, hmk, hjd⟩ := hrel
                    obtain ⟨q1, q2, q3, q4⟩ := hjd.out
                    by_cases c4 : k + 1 < b
                    · have gk : (k : Int) + 1 < (b : Int) := by omega
                      have e3 : (k : Int) + 1 - 1 = (k : Int) := by omega
                      have la := q1.cell (i := k + 1) (by omega)
                      have lb := q1.cell (i := k) (by omega)
                      have fa := q1.fr (k + 1)
                      have fb := q1.fr (k)
                      obtain ⟨ya, hya⟩ : ∃ x, f[k + 1]! = x := ⟨_, rfl⟩
                      obtain ⟨yb, hyb⟩ : ∃ x, f[k]! = x := ⟨_, rfl⟩
                      rw [hya] at la
                      rw [hyb] at lb
                      have oa : ((k + 1 : Nat) : Int) < (n : Int) := by omega
                      have ob : ((k : Nat) : Int) < (n : Int) := by omega
                      have oa2 : (k : Int) + 1 < (n : Int) := by omega
                      have LS : Hid _ := less_any ya yb
                      have kk0 : ¬ (k + 1 = k) := by omega
                      by_cases hlt : ya < yb
                      · have dlt : decide (ya < yb) = true := decide_eq_true hlt
                        rw [dlt] at LS
                        have R : Hid (∀ nq, RU (((wr.drewN nq).setCell ⟨g, k + 1, none⟩ (.int .u64 yb)).setCell ⟨g, k, none⟩ (.int .u64 ya)) g (Sort.swp f (k + 1) (k)) ∧ (Sort.swp f (k + 1) (k)).size = n ∧ Sort.shiftUp ltI b (k + 1 + 1) (Sort.swp f (k + 1) k) = Sort.shiftUp ltI b (m + 1 + 1) G2 ∧ Chg (fun k => k = g) w (((wr.drewN nq).setCell ⟨g, k + 1, none⟩ (.int .u64 yb)).setCell ⟨g, k, none⟩ (.int .u64 ya))) := fun nq => by
                          have q1' : RU (wr.drewN nq) g f := q1.drewN nq
                          have := q1'.swp (i := k + 1) (j := k) (by omega) (by omega)
                          rw [hya, hyb] at this
                          refine ⟨this, by rw [swp_size]; exact q2, ?_, ?_⟩
                          · rw [← q3, Sort.shiftUp.eq_def ltI b (k + 1) f, if_pos c4, if_neg]
                            · rfl
                            · show ¬ (!ltI f[k + 1]! f[k]!) = true
                              rw [hya, hyb, show ltI ya yb = true from dlt]
                              decide
                          · have c2 : Chg (fun k => k = g) w (wr.drewN nq) := ⟨q4.os, q4.tape, q4.output, q4.size, q4.block⟩
                            exact (c2.setCell (p := ⟨g, k + 1, none⟩) (.inl rfl) _).setCell (p := ⟨g, k, none⟩) (.inl rfl) _
                        clear hjd q1 q2 q3 q4 hya hyb dlt
                        go_wp2_with fail
                        go_quiet ((go_at_call 40; refine Calls.quiet_of_same (LS.out _)))
                        go_wp2_with fail
                        go_region
                        go_wp2_with fail
                        go_roundw
                        case rel => exact ⟨k + 1, _, by go_num, by omega, by omega, R.out _⟩
                        case measure => simp [intOf]; omega
                      · have dlt : decide (ya < yb) = false := decide_eq_false hlt
                        rw [dlt] at LS
                        have R : Hid (∀ nq, RU (wr.drewN nq) g f ∧ f.size = n ∧ Sort.partialIns ltI a b (4 - t) (m + 1) f = R0 ∧ Chg (fun k => k = g) w (wr.drewN nq)) := fun nq => by
                          refine ⟨q1.drewN nq, q2, G3.out f ?_, ⟨q4.os, q4.tape, q4.output, q4.size, q4.block⟩⟩
                          rw [← q3, Sort.shiftUp.eq_def ltI b (k + 1) f, if_pos c4, if_pos]
                          show (!ltI f[k + 1]! f[k]!) = true
                          rw [hya, hyb, show ltI ya yb = false from dlt]
                          rfl
                        clear hjd q1 q2 q3 q4 hya hyb dlt
                        go_wp2_with fail
                        go_quiet ((go_at_call 40; refine Calls.quiet_of_same (LS.out _)))
                        go_wp2_with fail
                        go_roundw
                        case rel => exact ⟨m + 1, t + 1, _, by go_num, by go_num, by omega, by omega, by omega, (by rw [show 5 - (t + 1) = 4 - t by omega]; exact R.out _)⟩
                        case measure => simp [intOf]; omega
                    · have gk : ¬ ((k : Int) + 1 < (b : Int)) := by omega
                      have R : Hid (∀ nq, RU (wr.drewN nq) g f ∧ f.size = n ∧ Sort.partialIns ltI a b (4 - t) (m + 1) f = R0 ∧ Chg (fun k => k = g) w (wr.drewN nq)) := fun nq => by
                        refine ⟨q1.drewN nq, q2, G3.out f ?_, ⟨q4.os, q4.tape, q4.output, q4.size, q4.block⟩⟩
                        rw [← q3, Sort.shiftUp.eq_def ltI b (k + 1) f, if_neg c4]
                      clear hjd q1 q2 q3 q4
                      go_wp2_with fail
                      go_roundw
                      case rel => exact ⟨m + 1, t + 1, _, by go_num, by go_num, by omega, by omega, by omega, (by rw [show 5 - (t + 1) = 4 - t by omega]; exact R.out 0)⟩
                      case measure => simp [intOf]; omega
                · exact absurd c3 (by omega)
          · have dlt : decide (ya < yb) = false := decide_eq_false hlt
            rw [dlt] at LS
            have R : Hid (∀ nq, RU (wr.drewN nq) g e ∧ Sort.scanSorted ltI e b (m + 1 + 1) = Sort.scanSorted ltI e b i ∧ Chg (fun k => k = g) w (wr.drewN nq)) := fun nq => by
              refine ⟨q1.drewN nq, ?_, ⟨q4.os, q4.tape, q4.output, q4.size, q4.block⟩⟩
              rw [← q3, Sort.scanSorted.eq_def ltI e b (m + 1), if_pos]
              show (decide (m + 1 < b) && !ltI e[m + 1]! e[m]!) = true
              rw [hya, hyb, show ltI ya yb = false from dlt]
              simp [c1]
            clear hjd q1 q2 q3 q4 hya hyb dlt
            go_wp2_with fail
            go_quiet ((go_at_call 40; refine Calls.quiet_of_same (LS.out _)))
            go_wp2_with fail
            go_roundw
            case rel => exact ⟨m + 1, by go_num, by omega, by omega, R.out _⟩
            case measure => simp [intOf]; omega
        · have gd : decide ((m : Int) + 1 < (b : Int)) = false := decide_eq_false (by omega)
          have eb : (m : Int) + 1 = (b : Int) := by omega
          have R : Hid (∀ nq, R0.2 = true ∧ RU (wr.drewN nq) g R0.1 ∧ R0.1.size = n ∧ Chg (fun k => k = g) w (wr.drewN nq)) := fun nq => by
            have hz : R0 = (e, true) := by
              rw [← PT0.out, pis_all]
              rw [← q3, Sort.scanSorted.eq_def, if_neg]
              · omega
              · rw [Bool.and_eq_true]
                exact fun hh => c1 (of_decide_eq_true hh.1)
            rw [hz]
            exact ⟨rfl, q1.drewN nq, q2, ⟨q4.os, q4.tape, q4.output, q4.size, q4.block⟩⟩
          clear hjd q1 q2 q3 q4
          go_wp2_with fail
          go_quiet (fail)
          go_wp2_with fail
          go_ret
          exact ⟨by rw [(R.out 0).1]; rfl, (R.out _).2⟩

end Go.Proofs.Ytnfcmpffihmnmaa
