/-
  pdqsort itself.
-/
import Derived.Test.YtnfcmpffihmnmaaSgM
import Derived.Deep.Cut
namespace Go.Proofs.Ytnfcmpffihmnmaa
open Go.RowKit

theorem hint_two (h : Sort.Hint) : h = .decreasing ↔ Sort.hintCode h = 2 := by cases h <;> simp [Sort.hintCode]
theorem hint_one (h : Sort.Hint) : h = .increasing ↔ Sort.hintCode h = 1 := by cases h <;> simp [Sort.hintCode]

set_option maxRecDepth 100000 in
set_option maxHeartbeats 8000000 in
theorem pdq_any : ∀ (N : Nat) {w : World} {g n cap : Nat} {d : Array Int} {a b limit : Nat}, b - a < N → RU w g d → d.size = n → n < 65536 → a ≤ b → b ≤ n → limit ≤ 64 → Sort.Below ltI a b d →
    Calls Try.prog 32 #[.slice (some ⟨g, 0, none⟩) n cap, .int .i64 a, .int .i64 b, .int .i64 limit] w fun r w' => r = .returned (.tuple #[]) ∧ PS w g n (Sort.pdq ltI d a b limit true true) w' := by
  intro N
  induction N with
  | zero => intro _ _ _ _ _ _ _ _ h; exact absurd h (Nat.not_lt_zero _)
  | succ N ih =>
    intro w g n cap d a b limit hN h hn hn2 hab hb hl hB
    have IH : Hid _ := @ih
    clear ih
    obtain ⟨R0, hR⟩ : ∃ R, R = Sort.pdq ltI d a b limit true true := ⟨_, rfl⟩
    have P0 : Hid (PS w g n d w ∧ Sort.Below ltI a b d ∧ Sort.pdq ltI d a b limit true true = R0) := ⟨⟨h, hn, Chg.refl _ _⟩, hB, hR.symm⟩
    rw [← hR]
    clear h hn hB hR
    go_enter Try.func32, Try.ntmps32
    go_wp2_with fail
    go_loopw [1, 2, 3, 8, 9] (fun s1 s2 s3 s8 s9 wr => ∃ (a' b' lim : Nat) (wb wp : Bool) (e : Array Int), s1 = .int .i64 a' ∧ s2 = .int .i64 b' ∧ s3 = .int .i64 lim ∧ s8 = .bool wb ∧ s9 = .bool wp ∧ a' ≤ b' ∧ b' ≤ n ∧ b' - a' ≤ b - a ∧ lim ≤ 64 ∧ Hid (PS w g n e wr ∧ Sort.Below ltI a' b' e ∧ Sort.pdq ltI e a' b' lim wb wp = R0)) (fun s1 s2 _ _ _ _ => (intOf s2 - intOf s1).toNat)
    case atStart => exact ⟨a, b, limit, true, true, d, rfl, rfl, rfl, rfl, rfl, hab, hb, Nat.le_refl _, hl, P0.out⟩
    case round =>
      obtain ⟨x, y, lim, wb, wp, e, rfl, rfl, rfl, rfl, rfl, hxy, hyn, hLL, hlim, hid⟩ := hrel
      clear P0
      by_cases c12 : y - x ≤ 12
      · have C : Hid _ := PS.ins (cap := cap) (e' := R0) hid.out.1 hn2 hxy hyn (by rw [← hid.out.2.2, Sort.pdq_small c12])
        clear hid IH
        go_wp2_with (go_at_call 34; refine Calls.mono C.out ?_; rintro r w1 ⟨rfl, hw1⟩)
        exact ⟨rfl, _, results_none rfl _ _ _, rfl, hw1⟩
      · by_cases h0 : lim = 0
        · have C : Hid _ := PS.heap (cap := cap) (e' := R0) hid.out.1 hn2 (by omega : x < y) hyn (by rw [← hid.out.2.2, Sort.pdq_heap c12 h0])
          clear hid IH
          go_wp2_with (go_at_call 35; refine Calls.mono C.out ?_; rintro r w1 ⟨rfl, hw1⟩)
          exact ⟨rfl, _, results_none rfl _ _ _, rfl, hw1⟩
        · obtain ⟨z1, z2, z3⟩ := hid.out
          obtain ⟨D1, D2, D3, lm, c, pv, hc, h2, pi, rn⟩ := rnd_of e x y lim wb wp c12 h0 (by rw [z1.2.1]; exact hyn) z2
          rw [z3] at rn
          have RN : Hid _ := rn
          have Z1 : Hid (PS w g n e wr) := z1
          have lml := rn.lml
          obtain ⟨cr1, cr2⟩ := rn.cr
          obtain ⟨pr1, pr2⟩ := rn.pr
          clear rn z1 z2 z3 hid
          go_upto_if 35 with fail
          go_cut [3] from 19 (fun s3 wc => s3 = .int .i64 lm ∧ PS w g n D1 wc)
          case first =>
            cases wb
            · have C : Hid _ := PS.brk (cap := cap) Z1.out hn2 (by omega : x + 8 ≤ y) hyn (RN.out.ub rfl).1
              have hlm : (lim : Int) = (lm : Int) + 1 := by have := (RN.out.ub rfl).2; omega
              go_wp2_with (go_at_call 36; refine Calls.mono C.out ?_; rintro r w1 ⟨rfl, hw1⟩)
              go_meet
              case rel => exact ⟨by congr 1, hw1⟩
            · obtain ⟨q1, q2⟩ := RN.out.bal rfl
              subst q1
              subst q2
              go_wp2_with fail
              go_meet
              case rel => exact ⟨rfl, Z1.out⟩
          case rest =>
            obtain ⟨rfl, hps⟩ := hcut
            have Z2 : Hid (PS w g n D1 wc) := hps
            clear hps Z1
            obtain ⟨K1, hK1⟩ : ∃ K, K = Sort.hintCode hc := ⟨_, rfl⟩
            obtain ⟨K2, hK2⟩ : ∃ K, K = Sort.hintCode h2 := ⟨_, rfl⟩
            have C : Hid _ := PS.piv (cap := cap) Z2.out hn2 (by omega : x + 8 ≤ y) hyn RN.out.piv
            rw [← hK1] at C
            have HK1 : Hid _ := hK1
            have HK : Hid _ := hK2
            clear hK1 hK2
            go_upto_if 50 with (go_at_call 37; refine Calls.mono C.out ?_; rintro r w1 ⟨rfl, hw1⟩)
            go_cut [11, 12] from 19 (fun s11 s12 wc => s11 = .int .i64 pv ∧ s12 = .int .i64 K2 ∧ PS w g n D2 wc)
            case first =>
              by_cases hk : hc = .decreasing
              · obtain ⟨q1, q2, q3⟩ := RN.out.dec hk
                have k2 : K1 = 2 := by rw [HK1.out, hk]; rfl
                have k1 : K2 = 1 := by rw [HK.out, q3]; rfl
                have C : Hid _ := PS.rev (cap := cap) hw1 hn2 (by omega : x < y) hyn q1
                have Q2 : Hid _ := q2
                clear hw1 HK1 HK q1 q2 q3 hk
                go_wp2_with (go_at_call 38; refine Calls.mono C.out ?_; rintro r w1 ⟨rfl, hw1⟩)
                go_meet
                case rel => exact ⟨by rw [← Q2.out], by rw [k1], hw1⟩
              · obtain ⟨q1, q2, q3⟩ := RN.out.nd hk
                have k2 : ¬ K1 = 2 := by rw [HK1.out, ← hint_two]; exact hk
                have k1 : K2 = K1 := by rw [HK.out, q3, HK1.out]
                subst q1
                subst q2
                subst k1
                clear HK1 HK q3 hk
                go_wp2_with fail
                go_meet
                case rel => exact ⟨rfl, rfl, hw1⟩
            case rest =>
              obtain ⟨rfl, rfl, hps⟩ := hcut
              have Z3 : Hid (PS w g n D2 wc) := hps
              clear hps Z2 hw1 C
              obtain ⟨B, hBB⟩ : ∃ B, B = (wb && wp && decide (h2 = .increasing)) := ⟨_, rfl⟩
              have HB : Hid _ := hBB
              clear hBB HK1
              go_upto_region 15 with fail
              go_cut [12, 68] from 19 (fun s12 s68 wx => s12 = .int .i64 K2 ∧ s68 = .bool B ∧ wx = wc)
              case first =>
                by_cases hk : h2 = .increasing
                · have k1 : K2 = 1 := by rw [HK.out, hk]; rfl
                  have b1 : B = (wb && wp) := by rw [HB.out, hk]; simp
                  clear HB HK hk
                  cases wb <;> cases wp <;> (simp at b1; subst b1; go_wp2_with fail; go_meet; exact ⟨by rw [k1], by rfl, rfl⟩)
                · have k1 : ¬ K2 = 1 := by rw [HK.out, ← hint_one]; exact hk
                  have b1 : B = false := by rw [HB.out]; simp [hk]
                  subst b1
                  clear HB HK hk
                  cases wb <;> cases wp <;> (go_wp2_with fail; go_meet; exact ⟨rfl, by simp [k1], rfl⟩)
              case rest =>
                obtain ⟨rfl, rfl, rfl⟩ := hcut
                go_upto_if 68 with fail
                go_cut [] from 19 (fun wx => pi = false ∧ PS w g n D3 wx)
                case first =>
                  cases hBv : B
                  · obtain ⟨q1, q2⟩ := RN.out.no (by rw [← HB.out]; exact hBv)
                    subst q1
                    subst hBv
                    clear RN HB HK
                    go_wp2_with fail
                    go_meet
                    case rel => exact ⟨q2, Z3.out⟩
                  · have C : Hid _ := PS.pis (cap := cap) Z3.out hn2 (by omega : x < y) hyn (RN.out.yes (by rw [← HB.out]; exact hBv))
                    subst hBv
                    cases pi
                    · clear RN HB HK
                      go_wp2_with (go_at_call 39; refine Calls.mono C.out ?_; rintro r w1 ⟨rfl, hw1⟩)
                      go_meet
                      case rel => exact ⟨trivial, hw1⟩
                    · have q := RN.out.done rfl
                      subst q
                      clear RN HB HK
                      go_wp2_with (go_at_call 39; refine Calls.mono C.out ?_; rintro r w1 ⟨rfl, hw1⟩)
                      exact ⟨rfl, _, results_none rfl _ _ _, rfl, hw1⟩
                case rest =>
                  obtain ⟨hpi, hps⟩ := hcut
                  subst hpi
                  have Z4 : Hid (PS w g n D3 wc) := hps
                  clear hps Z3 HB HK
                  obtain ⟨T, hT⟩ : ∃ T, T = (decide (x > 0) && !ltI D3[x - 1]! D3[pv]!) := ⟨_, rfl⟩
                  have HT : Hid _ := hT
                  clear hT
                  go_upto_region 17 with fail
                  go_cut [87] from 19 (fun s87 wx => s87 = .bool T ∧ PS w g n D3 wx)
                  case first =>
                    have q1 := Z4.out.1
                    have q2 := Z4.out.2.1
                    have cb := q1.cell (i := pv) (by omega)
                    have fb := q1.fr pv
                    obtain ⟨vb, hvb⟩ : ∃ v, D3[pv]! = v := ⟨_, rfl⟩
                    rw [hvb] at cb
                    have HT' := HT.out
                    rw [hvb] at HT'
                    by_cases x0 : x = 0
                    · have gd : decide ((x : Int) > 0) = false := decide_eq_false (by omega)
                      have t1 : T = false := by rw [HT', show decide (x > 0) = false from decide_eq_false (by omega)]; rfl
                      subst t1
                      clear HT HT' q1 q2 hvb RN
                      go_quiet ((go_at_call 40; refine Calls.quiet_of_same (less_any _ _ _)))
                      go_wp2_with fail
                      go_meet
                      case rel => exact ⟨by rfl, Z4.out.drewN _⟩
                    · obtain ⟨m, hm⟩ : ∃ m, m = x - 1 := ⟨_, rfl⟩
                      have e3 : (x : Int) - 1 = (m : Int) := by omega
                      have gd : decide (0 < x) = true := decide_eq_true (by omega)
                      have ca := q1.cell (i := m) (by omega)
                      have fa := q1.fr m
                      obtain ⟨va, hva⟩ : ∃ v, D3[m]! = v := ⟨_, rfl⟩
                      rw [hva] at ca
                      rw [← hm, hva, show decide (x > 0) = true from decide_eq_true (by omega)] at HT'
                      have oa : (m : Int) < (n : Int) := by omega
                      have ob : (pv : Int) < (n : Int) := by omega
                      have LS : Hid _ := less_any va vb
                      have t1 : T = !decide (va < vb) := by rw [HT']; rfl
                      by_cases hlt : va < vb
                      · have dlt : decide (va < vb) = true := decide_eq_true hlt
                        rw [dlt] at LS t1
                        simp only [Bool.not_true] at t1
                        subst t1
                        clear HT HT' q1 q2 hvb hva RN hm dlt
                        go_quiet ((go_at_call 40; refine Calls.quiet_of_same (LS.out _)))
                        go_wp2_with fail
                        go_meet
                        case rel => exact ⟨by rfl, Z4.out.drewN _⟩
                      · have dlt : decide (va < vb) = false := decide_eq_false hlt
                        rw [dlt] at LS t1
                        simp only [Bool.not_false] at t1
                        subst t1
                        clear HT HT' q1 q2 hvb hva RN hm dlt
                        go_quiet ((go_at_call 40; refine Calls.quiet_of_same (LS.out _)))
                        go_wp2_with fail
                        go_meet
                        case rel => exact ⟨by rfl, Z4.out.drewN _⟩
                  case rest =>
                    obtain ⟨rfl, hps⟩ := hcut
                    have Z5 : Hid (PS w g n D3 wc) := hps
                    clear hps Z4
                    cases T
                    · obtain ⟨mid, ap, d4, hx⟩ : ∃ mid ap d4, Sort.partition ltI D3 x y pv = (mid, ap, d4) := ⟨_, _, _, rfl⟩
                      obtain ⟨p1, p2, p3, p4, p5, p6⟩ := RN.out.part rfl HT.out.symm mid ap d4 hx
                      have C : Hid _ := PS.part (cap := cap) Z5.out hn2 (by omega : x < y) hyn pr1 pr2 hx
                      by_cases sm : mid - x < y - mid
                      · obtain ⟨v1, v2⟩ := p5 sm
                        have V : Hid _ := And.intro v1 v2
                        have IHc : Hid (∀ w1, PS w g n d4 w1 → Calls Try.prog 32 #[.slice (some ⟨g, 0, none⟩) n cap, .int .i64 x, .int .i64 mid, .int .i64 lm] w1 fun r w' => r = .returned (.tuple #[]) ∧ PS w g n (Sort.pdq ltI d4 x mid lm true true) w') :=
                          fun w1 k => Calls.mono (IH.out (by omega) k.1 k.2.1 hn2 p1 (by omega) (by omega) p3) (fun _ _ q => ⟨q.1, k.of q.2⟩)
                        have sm' : (mid : Int) - (x : Int) < (y : Int) - (mid : Int) := by omega
                        clear p3 p4 p5 p6 v1 v2 IH RN HT Z5 hx
                        go_wp2_with (first | (go_at_call 42; refine Calls.mono C.out ?_; rintro r w1 ⟨rfl, hw1⟩) | (go_at_call 32; refine Calls.mono (IHc.out _ hw1) ?_; rintro r w2 ⟨rfl, hw2⟩))
                        go_roundw
                        case rel => exact ⟨mid + 1, y, lm, decide (mid - x ≥ (y - x) / 8), ap, _, by go_num, rfl, rfl, by congr 1; exact decide_eq_decide.2 ⟨fun h => by omega, fun h => by omega⟩, rfl, by omega, hyn, by omega, by omega, hw2, V.out.1, V.out.2⟩
                        case measure => simp [intOf]; omega
                      · obtain ⟨v1, v2⟩ := p6 sm
                        have V : Hid _ := And.intro v1 v2
                        have IHc : Hid (∀ w1, PS w g n d4 w1 → Calls Try.prog 32 #[.slice (some ⟨g, 0, none⟩) n cap, .int .i64 ((mid : Int) + 1), .int .i64 y, .int .i64 lm] w1 fun r w' => r = .returned (.tuple #[]) ∧ PS w g n (Sort.pdq ltI d4 (mid + 1) y lm true true) w') :=
                          fun w1 k => Calls.mono (IH.out (a := mid + 1) (by omega) k.1 k.2.1 hn2 (by omega) (by omega) (by omega) p4) (fun _ _ q => ⟨q.1, k.of q.2⟩)
                        have sm' : ¬ ((mid : Int) - (x : Int) < (y : Int) - (mid : Int)) := by omega
                        clear p3 p4 p5 p6 v1 v2 IH RN HT Z5 hx
                        go_wp2_with (first | (go_at_call 42; refine Calls.mono C.out ?_; rintro r w1 ⟨rfl, hw1⟩) | (go_at_call 32; refine Calls.mono (IHc.out _ hw1) ?_; rintro r w2 ⟨rfl, hw2⟩))
                        go_roundw
                        case rel => exact ⟨x, mid, lm, decide (y - mid ≥ (y - x) / 8), ap, _, rfl, rfl, rfl, by congr 1; exact decide_eq_decide.2 ⟨fun h => by omega, fun h => by omega⟩, rfl, by omega, by omega, by omega, by omega, hw2, V.out.1, V.out.2⟩
                        case measure => simp [intOf]; omega
                    · obtain ⟨mid, d4, hx⟩ : ∃ mid d4, Sort.partitionEqual ltI D3 x y pv = (mid, d4) := ⟨_, _, rfl⟩
                      obtain ⟨p1, p2, p3, p4⟩ := RN.out.eq rfl HT.out.symm mid d4 hx
                      have C : Hid _ := PS.peq (cap := cap) Z5.out hn2 (by omega : x < y) hyn pr1 pr2 hx
                      have V : Hid _ := And.intro p3 p4
                      clear p3 p4 IH RN HT Z5 hx
                      go_wp2_with (go_at_call 41; refine Calls.mono C.out ?_; rintro r w1 ⟨rfl, hw1⟩)
                      go_roundw
                      case rel => exact ⟨mid, y, lm, wb, wp, _, rfl, rfl, rfl, rfl, rfl, p2, hyn, by omega, by omega, hw1, V.out.1, V.out.2⟩
                      case measure => simp [intOf]; omega
end Go.Proofs.Ytnfcmpffihmnmaa
