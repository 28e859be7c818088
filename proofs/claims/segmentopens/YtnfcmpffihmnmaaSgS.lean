/-
  The reference's Fit.
-/
import Derived.Test.YtnfcmpffihmnmaaSgR
namespace Go.Proofs.Ytnfcmpffihmnmaa
open Go.RowKit

def Mk.zero (m : Mk) : Prop := m.se = 0 ∧ m.us = 0
def Mk.ok (S Z : Int) (m : Mk) : Prop := 1 ≤ m.se ∧ m.se ≤ S ∧ 16 ≤ m.us ∧ m.us ≤ Z
/-- Marks that may be. -/
def Good (S Z : Int) (ms : Nat → Mk) (n : Nat) : Prop := ∀ i, i < n → (ms i).zero ∨ ((ms i).ok S Z ∧ ∀ k, k < i → ¬ (ms k).se = (ms i).se)

/-- What Fit answers. -/
structure FitA (w w' : World) (e : Ending) (P : Prop) : Prop where
  ex : ∃ b, e = .returned (.bool b) ∧ (b = true ↔ P) ∧ Chg (fun _ => False) w w'

set_option maxRecDepth 100000 in
set_option maxHeartbeats 8000000 in
theorem fit_any {w : World} {Av : Nat → Prop} {A : Option Addr} {n c : Nat} {ms : Nat → Mk} (hr : RowsIn w Av A n 2 (fun i => (ms i).cells)) (hn : n ≤ 9223372036854775806) (hm : ∀ i, i < n → 0 ≤ (ms i).se) (N Z S : Int) :
    Calls Try.prog 24 #[.int .i64 N, .int .i64 Z, .int .u64 S, .slice A n c] w fun e w' => FitA w w' e ((n : Int) = N ∧ S ≤ 4611686018427387904 ∧ Good S Z ms n) := by
  have HR : Hid _ := hr
  have HM : Hid _ := hm
  clear hr hm
  obtain ⟨P, hP⟩ : ∃ P : Prop, P = ((n : Int) = N ∧ S ≤ 4611686018427387904 ∧ Good S Z ms n) := ⟨_, rfl⟩
  rw [← hP]
  have HP : Hid _ := hP
  clear hP
  by_cases c0 : (n : Int) = N
  · by_cases c1 : 4611686018427387904 < S
    · have NP : Hid (¬ P) := fun h => by rw [HP.out] at h; have := h.2.1; omega
      go_enter Try.func24, Try.ntmps24
      go_wp2_with fail
      go_ret
      exact ⟨false, rfl, ⟨fun e => absurd e Bool.false_ne_true, fun e => absurd e NP.out⟩, Chg.refl _ _⟩
    · have PP : P = Good S Z ms n := by rw [HP.out]; exact propext ⟨fun h => h.2.2, fun h => ⟨c0, by omega, h⟩⟩
      rw [PP]
      clear PP HP
      subst c0
      go_enter Try.func24, Try.ntmps24
      go_wp2_with fail
      go_loopw [22] (fun i wr => ∃ j : Nat, j ≤ n ∧ i = .int .i64 j ∧ Hid (Chg (fun _ => False) w wr ∧ Good S Z ms j)) (fun i _ => n - (intOf i).toNat)
      case atStart => exact ⟨0, Nat.zero_le _, rfl, Chg.refl _ _, fun i hi => by omega⟩
      case round =>
        obtain ⟨j, hj, rfl, hid⟩ := hrel
        obtain ⟨ch, gd⟩ := hid.out
        have CH : Hid _ := ch
        have GD : Hid _ := gd
        clear hid ch gd
        by_cases hlt : j < n
        · obtain ⟨k, hk⟩ : ∃ k, k = ms j := ⟨_, rfl⟩
          obtain ⟨g, o, hsa, hav, hrg⟩ := HR.out j hlt
          have hrg : w.rangeAt g (o + j * 2) k.cells := by rw [hk]; exact hrg
          have hix := ix_at Try.underlying23 Try.elem23 Try.so45 (c := c) hsa hlt
          have RG : Hid (wr.rangeAt g (o + j * 2) k.cells) := rangeAt_kept hrg CH.out (fun e => e)
          have HKK : Hid _ := hk
          have k0 : 0 ≤ k.se := by rw [hk]; exact HM.out j hlt
          clear hrg hk hsa hav
          go_upto_region 6 with (first
            | refine wpList_load_mid rfl 45 (.tmp 25) rfl g (o + j * 2) rfl k.cells _ RG.out Try.underlying45 rfl (Try.mkSz k) ?_
            | (refine wpList_store_part rfl 45 (.tmp 10) (.tmp 26) rfl wr.heap.size 0 k.cells rfl rfl (t := 45) ⟨heap_alloc_new _ _⟩ (by simp [Mk.cells]) (Try.mkSz k) (k.one) ?_; intro wB hw8 hc8; rw [splice_all _ _ (by simp [Mk.cells])] at hw8; have c8 : Chg (fun _ => False) wr wB := ((Chg.refl (fun _ => False) wr).alloc _).trans hc8 (fun i e => .inr (by omega)); have BK : Hid _ := hw8; have CB : Hid _ := c8; clear hw8 hc8 c8))
          have C9 : Hid (Chg (fun _ => False) w wB) := CH.out.trans CB.out (fun _ e => e.elim)
          have q0 : wB.cell? ⟨wr.heap.size, 0, none⟩ = some (.int .u64 k.se) := BK.out.cell 0
          have q1 : wB.cell? ⟨wr.heap.size, 1, none⟩ = some (.int .i64 k.us) := BK.out.cell 1
          have Q0 : Hid _ := q0
          clear hix CB BK CH RG
          have NX : Hid (k.zero ∨ (k.ok S Z ∧ ∀ i, i < j → ¬ (ms i).se = k.se) → Good S Z ms (j + 1)) := fun h i hi => by
            rcases Nat.lt_or_ge i j with e | e
            · exact GD.out i e
            · have e : i = j := by omega
              rw [e, ← HKK.out]
              exact h
          have NG : Hid (¬ (k.zero ∨ (k.ok S Z ∧ ∀ i, i < j → ¬ (ms i).se = k.se)) → ¬ Good S Z ms n) := fun h h2 => h (by rw [HKK.out]; exact h2 j hlt)
          by_cases z0 : k.se = 0
          · by_cases z1 : k.us = 0
            · have G : Hid (Good S Z ms (j + 1)) := NX.out (.inl ⟨z0, z1⟩)
              go_wp2_with fail
              go_roundw
              case rel => exact ⟨j + 1, by omega, by go_num, C9.out, G.out⟩
              case measure => simp [intOf]; omega
            · have G : Hid (¬ Good S Z ms n) := NG.out (fun h => by rcases h with h | h; exact z1 h.2; have := h.1.1; omega)
              go_wp2_with fail
              go_ret
              exact ⟨false, rfl, ⟨fun e => absurd e Bool.false_ne_true, fun e => absurd e G.out⟩, C9.out⟩
          · by_cases z2 : S < k.se
            · have G : Hid (¬ Good S Z ms n) := NG.out (fun h => by rcases h with h | h; exact z0 h.1; have := h.1.2.1; omega)
              go_wp2_with fail
              go_ret
              exact ⟨false, rfl, ⟨fun e => absurd e Bool.false_ne_true, fun e => absurd e G.out⟩, C9.out⟩
            · by_cases z3 : k.us < 16
              · have G : Hid (¬ Good S Z ms n) := NG.out (fun h => by rcases h with h | h; exact z0 h.1; have := h.1.2.2.1; omega)
                go_wp2_with fail
                go_ret
                exact ⟨false, rfl, ⟨fun e => absurd e Bool.false_ne_true, fun e => absurd e G.out⟩, C9.out⟩
              · by_cases z4 : Z < k.us
                · have G : Hid (¬ Good S Z ms n) := NG.out (fun h => by rcases h with h | h; exact z0 h.1; have := h.1.2.2.2; omega)
                  go_wp2_with fail
                  go_ret
                  exact ⟨false, rfl, ⟨fun e => absurd e Bool.false_ne_true, fun e => absurd e G.out⟩, C9.out⟩
                · have OK : Hid (k.ok S Z) := ⟨by omega, by omega, by omega, by omega⟩
                  go_wp2_with fail
                  clear q0 q1
                  go_loopw [11] (fun s wq => ∃ m : Nat, s = .int .i64 m ∧ m ≤ j ∧ Hid (Chg (fun _ => False) wB wq ∧ ∀ i, i < m → ¬ (ms i).se = k.se)) (fun s _ => j - (intOf s).toNat)
                  case atStart => exact ⟨0, rfl, Nat.zero_le _, Chg.refl _ _, fun i hi => by omega⟩
                  case round =>
                    obtain ⟨m, rfl, hmj, hjd⟩ := hrel
                    obtain ⟨cq, fo⟩ := hjd.out
                    clear hjd
                    by_cases hml : m < j
                    · obtain ⟨y, hy⟩ : ∃ y, y = (ms m).se := ⟨_, rfl⟩
                      obtain ⟨g2, o2, hsa, hav, hrg⟩ := HR.out m (by omega)
                      have hix := ix_at Try.underlying23 Try.elem23 Try.so45 (c := c) hsa (show m < n by omega)
                      have p0 := cq.cell_some (C9.out.cell_some (hrg 0 (.int .u64 y) (by rw [hy]; rfl)) (fun e => e)) (fun e => e)
                      have p1 := cq.cell_some Q0.out (fun e => e)
                      rw [Nat.add_zero] at p0
                      have CQ : Hid (∀ nq, Chg (fun _ => False) wB (wr.drewN nq)) := fun nq => ⟨cq.os, cq.tape, cq.output, cq.size, cq.block⟩
                      clear hsa hav hrg
                      by_cases ye : y = k.se
                      · have G : Hid (¬ Good S Z ms n) := NG.out (fun h => by rcases h with h | h; exact z0 h.1; exact h.2 m hml (by rw [← hy]; exact ye))
                        have C8 : Hid (∀ nq, Chg (fun _ => False) w (wr.drewN nq)) := fun nq => C9.out.trans (CQ.out nq) (fun _ e => e.elim)
                        clear hy fo cq
                        go_wp2_with fail
                        go_quiet (fail)
                        go_wp2_with fail
                        go_ret
                        exact ⟨false, rfl, ⟨fun e => absurd e Bool.false_ne_true, fun e => absurd e G.out⟩, C8.out _⟩
                      · have F : Hid (∀ i, i < m + 1 → ¬ (ms i).se = k.se) := fun i hi => by
                          rcases Nat.lt_or_ge i m with e | e
                          · exact fo i e
                          · have e : i = m := by omega
                            rw [e, ← hy]
                            exact ye
                        clear hy fo cq
                        go_wp2_with fail
                        go_quiet (fail)
                        go_wp2_with fail
                        go_roundw
                        case rel => exact ⟨m + 1, by go_num, by omega, CQ.out _, F.out⟩
                        case measure => simp [intOf]; omega
                    · have e : m = j := by omega
                      have G : Hid (Good S Z ms (j + 1)) := NX.out (.inr ⟨OK.out, fun i hi => fo i (by omega)⟩)
                      have C8 : Hid (Chg (fun _ => False) w wr) := C9.out.trans cq (fun _ e => e.elim)
                      clear fo cq
                      go_wp2_with fail
                      go_roundw
                      case rel => exact ⟨j + 1, by omega, by go_num, C8.out, G.out⟩
                      case measure => simp [intOf]; omega
        · have e : j = n := by omega
          have G : Hid (Good S Z ms n) := by rw [← e]; exact GD.out
          go_wp2_with fail
          go_ret
          exact ⟨true, rfl, ⟨fun _ => G.out, fun _ => rfl⟩, CH.out⟩
  · have NP : Hid (¬ P) := fun h => by rw [HP.out] at h; exact c0 h.1
    go_enter Try.func24, Try.ntmps24
    go_wp2_with fail
    go_ret
    exact ⟨false, rfl, ⟨fun e => absurd e Bool.false_ne_true, fun e => absurd e NP.out⟩, Chg.refl _ _⟩
end Go.Proofs.Ytnfcmpffihmnmaa
