/-
  The reading of towers: flags, keys, levels, kids.
-/
import Derived.Test.YtkchmoapcmageaaTwA
import Derived.Test.YtkchmoapcmageaaLeafR
namespace Go.Proofs.Ytkchmoapcmageaa
open Go.RowKit

/-- A flag, a level: what it is, how far, what went wrong. -/
def flagS (T : List Int) (a : Nat) (err : Int) : Bool × Nat × Int :=
  (decide (lowN (pL T a err 1) = 1), pA T a err 1, if 1 < lowN (pL T a err 1) then failE (pE T a err 1) 22 else pE T a err 1)
def levelS (T : List Int) (a : Nat) (err : Int) : Nat × Nat × Int :=
  (lowN (pL T a err 1), pA T a err 1, if 23 < lowN (pL T a err 1) then failE (pE T a err 1) 21 else pE T a err 1)
theorem low1 {w : World} {p : Nat} {t : TypeId} {tv : Value} {T : List Int} {a : Nat} {err : Int} (h : RS w p t tv T a err) : lowN (pL T a err 1) < 256 := by
  have hb : Byts (pL T a err 1) := by
    unfold pL
    split
    · intro y hy
      exact h.byt y (List.mem_of_mem_drop (List.mem_of_mem_take hy))
    · intro y hy
      cases hy
  have h1 := lowN_lt hb
  have h2 : (pL T a err 1).length ≤ 1 := by have := pL_len T a err 1; simpa using this
  have h3 : 256 ^ (pL T a err 1).length ≤ 256 ^ 1 := Nat.pow_le_pow_right (by decide) h2
  omega

set_option maxRecDepth 100000 in
set_option maxHeartbeats 1000000 in
theorem rFlag_any {w : World} {p : Nat} {t : TypeId} {tv : Value} {T : List Int} {a : Nat} {err : Int} (h : RS w p t tv T a err) :
    Calls Try.prog 112 #[.pointer (some ⟨p, 0, none⟩)] w fun e w' => e = .returned (.bool (flagS T a err).1) ∧ RP w w' p t tv T (flagS T a err).2.1 (flagS T a err).2.2 := by
  have hb := low1 h
  unfold flagS
  have H : Hid _ := rByte_any h
  clear h
  obtain ⟨b, hbb⟩ : ∃ b, b = lowN (pL T a err 1) := ⟨_, rfl⟩
  rw [← hbb] at H hb ⊢
  clear hbb
  have hbe : ((b : Int) == 1) = decide (b = 1) := by
    by_cases h : b = 1
    · subst h; rfl
    · rw [decide_eq_false h]; exact beq_false_of_ne (by omega)
  have HBE : Hid _ := hbe
  clear hbe
  by_cases h1 : 1 < b
  · go_enter Try.func112, Try.ntmps112
    go_wp2_with fail
    refine Calls.mono H.out ?_
    rintro e w1 ⟨rfl, r⟩
    have R : Hid _ := r
    have FF : Hid _ := rFail_any r.1 22
    clear r
    go_wp2_with fail
    refine Calls.mono FF.out ?_
    rintro e w2 ⟨rfl, r2⟩
    have R2 : Hid _ := RP.trans R.out r2
    clear r2
    go_wp2_with fail
    go_ret
    refine ⟨?_, ?_⟩
    · show Ending.returned (.bool ((b : Int) == 1)) = _
      rw [HBE.out]
    · try rw [if_pos h1]
      exact R2.out
  · go_enter Try.func112, Try.ntmps112
    go_wp2_with fail
    refine Calls.mono H.out ?_
    rintro e w1 ⟨rfl, r⟩
    have R : Hid _ := r
    clear r
    go_wp2_with fail
    go_ret
    refine ⟨?_, ?_⟩
    · show Ending.returned (.bool ((b : Int) == 1)) = _
      rw [HBE.out]
    · try rw [if_neg h1]
      exact R.out

set_option maxRecDepth 100000 in
set_option maxHeartbeats 1000000 in
theorem rLevel_any {w : World} {p : Nat} {t : TypeId} {tv : Value} {T : List Int} {a : Nat} {err : Int} (h : RS w p t tv T a err) :
    Calls Try.prog 123 #[.pointer (some ⟨p, 0, none⟩)] w fun e w' => e = .returned (.int .i64 (levelS T a err).1) ∧ RP w w' p t tv T (levelS T a err).2.1 (levelS T a err).2.2 := by
  have hb := low1 h
  unfold levelS
  have H : Hid _ := rByte_any h
  clear h
  obtain ⟨b, hbb⟩ : ∃ b, b = lowN (pL T a err 1) := ⟨_, rfl⟩
  rw [← hbb] at H hb ⊢
  clear hbb
  by_cases h1 : 23 < b
  · go_enter Try.func123, Try.ntmps123
    go_wp2_with fail
    refine Calls.mono H.out ?_
    rintro e w1 ⟨rfl, r⟩
    have R : Hid _ := r
    have FF : Hid _ := rFail_any r.1 21
    clear r
    go_wp2_with fail
    refine Calls.mono FF.out ?_
    rintro e w2 ⟨rfl, r2⟩
    have R2 : Hid _ := RP.trans R.out r2
    clear r2
    go_wp2_with fail
    go_ret
    refine ⟨?_, ?_⟩
    · rfl
    · try rw [if_pos h1]
      exact R2.out
  · go_enter Try.func123, Try.ntmps123
    go_wp2_with fail
    refine Calls.mono H.out ?_
    rintro e w1 ⟨rfl, r⟩
    have R : Hid _ := r
    clear r
    go_wp2_with fail
    go_ret
    refine ⟨?_, ?_⟩
    · rfl
    · try rw [if_neg h1]
      exact R.out

set_option maxRecDepth 100000 in
set_option maxHeartbeats 1000000 in
theorem rKey_any {w : World} {p : Nat} {t : TypeId} {tv : Value} {T : List Int} {a : Nat} {err : Int} (h : RS w p t tv T a err) :
    Calls Try.prog 113 #[.pointer (some ⟨p, 0, none⟩)] w fun e w' => ∃ s, e = .returned s ∧ Own w' s (textS T a err 1024).1 ∧ RP w w' p t tv T (textS T a err 1024).2.1 (textS T a err 1024).2.2 ∧ ∀ k, s.ownBlock = some k → w.heap.size ≤ k := by
  have H : Hid _ := rText_any h 1024 (by decide) (by decide)
  clear h
  go_enter Try.func113, Try.ntmps113
  go_wp2_with fail
  refine Calls.mono H.out ?_
  rintro e w1 ⟨s, rfl, o, r, hs⟩
  have O : Hid _ := o
  have R : Hid _ := r
  have HS : Hid _ := hs
  obtain ⟨sa, sc, hf⟩ := Own.form o
  clear o r hs
  subst hf
  go_wp2_with fail
  go_ret
  exact ⟨_, rfl, O.out, R.out, HS.out⟩
end Go.Proofs.Ytkchmoapcmageaa
