/-
  The walk of Untouched.
-/
import Derived.Test.YtkchmoapcmageaaPlain
namespace Go.Proofs.Ytkchmoapcmageaa
open Go.RowKit

theorem at_front (m : List Int) (x y : Int) : (m ++ [x, y])[m.length]'(by simp) = x := by simp
theorem at_back (m : List Int) (x y : Int) : (m ++ [x, y])[m.length + 1]'(by simp) = y := by simp

set_option maxRecDepth 100000 in
set_option maxHeartbeats 1000000 in
theorem untouched_any {w : World} {a : Option Addr} {s : Value} {c : Nat} {m : List Int} (hs : Src w s m) (ho : Own w (.slice a (m.length + 2) c) (m ++ [165, 90])) (hl : m.length + 2 ≤ 140737488355328) :
    Calls Try.prog 11 #[.slice a (m.length + 2) c, s] w fun e w' => e = .returned (.bool true) ∧ ∃ n, w' = w.drewN n := by
  have HA : Hid _ := hs
  obtain ⟨a0, c0, hs2⟩ := hs.form
  subst hs2
  obtain ⟨g, cap, e, hcap1, hcap2⟩ := Own.form2 ho (by simp)
  injection e with e1 e2 e3
  subst e1 e3
  simp only [List.length_append, List.length_cons, List.length_nil] at hcap1
  have HO : Hid _ := ho
  have HF : Hid _ := Own.front ho c (by simp)
  have hc1 : ∀ n, (w.drewN n).cell? ⟨g, m.length, none⟩ = some (.int .u8 165) := fun n => by
    obtain ⟨g2, o2, e, h⟩ := Src.at ho.src m.length (by simp)
    rw [at_front] at h
    injection e with e
    injection e with e1 e2
    subst e1 e2
    rwa [Nat.zero_add] at h
  have hc2 : ∀ n, (w.drewN n).cell? ⟨g, m.length + 1, none⟩ = some (.int .u8 90) := fun n => by
    obtain ⟨g2, o2, e, h⟩ := Src.at ho.src (m.length + 1) (by simp)
    rw [at_back] at h
    injection e with e
    injection e with e1 e2
    subst e1 e2
    rwa [Nat.zero_add] at h
  clear hs ho
  obtain ⟨N, hN⟩ : ∃ N, N = m.length + 2 := ⟨_, rfl⟩
  rw [← hN] at hcap1 hl
  rw [← hN]
  have hNI : (N : Int) = (m.length : Int) + 2 := by omega
  clear hN
  go_enter Try.func11, Try.ntmps11
  go_wp2_with fail
  refine (same_any HF.out HA.out (by omega) (by omega)).mono ?_
  rintro e w1 ⟨rfl, n, rfl⟩
  rw [decide_eq_true (rfl : m = m)]
  go_wp2_with fail
  go_ret
  exact ⟨rfl, n, rfl⟩
end Go.Proofs.Ytkchmoapcmageaa
