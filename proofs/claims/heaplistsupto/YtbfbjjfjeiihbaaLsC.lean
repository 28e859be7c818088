/-
  The document's Least; listed.
-/
import Derived.Test.YtbfbjjfjeiihbaaLsB
import Derived.Test.YtbfbjjfjeiihbaaLe
import Derived.Test.YtbfbjjfjeiihbaaSmall
namespace Go.Proofs.Ytbfbjjfjeiihbaa
open Go.RowKit

theorem Ths.take0 {w : World} {b c : Nat} {L : List (Int × Int)} (hc : ∀ i, i < L.length → w.cell? ⟨b, 0 + i * 2, none⟩ = some (.int .i64 (tnth L i).1) ∧ w.cell? ⟨b, 0 + i * 2 + 1, none⟩ = some (.int .i64 (tnth L i).2)) (k : Nat) (hk : k ≤ L.length) : Ths w (.slice (some ⟨b, 0, none⟩) k c) (L.take k) := by
  have := Ths.cut (n := k) (c := c) hc 0 k (by omega) rfl
  simpa using this

set_option maxRecDepth 100000 in
set_option maxHeartbeats 2000000 in
theorem refleast_any {W : World} {s : Value} {L : List (Int × Int)} (h : Tc W s L) (hl : L.length ≤ 2097152) (n : Int) (kk : Nat) (hk : (kk : Int) = max (min n L.length) 0) (all : Bool) :
    Calls Try.prog 32 #[s, .int .i64 n, .bool all] W fun e w' => ∃ v, e = .returned v ∧ Ths w' v ((srt all L.length L).take kk) ∧ Chg (fun _ => False) W w' := by
  have RS : Hid _ := refsort_any h hl all
  obtain ⟨sa, sc, rfl⟩ := h.ths.form
  clear h
  go_enter Try.func32, Try.ntmps32
  go_wp2_with fail
  refine Calls.mono RS.out ?_
  rintro e w1 ⟨v, rfl, ho, ch, _⟩
  have hsl := srt_len all L.length L
  have hf := ho.form
  rw [hsl] at hf
  obtain ⟨va, vc, rfl⟩ := hf
  have OW : Hid (OwnT _ _ _) := ho
  have CH : Hid _ := ch
  have SL : Hid _ := hsl
  clear ho ch RS hsl
  by_cases h1 : n < 0
  · have hk0 : kk = 0 := by omega
    subst hk0
    by_cases h2 : 0 < L.length
    · have h2' : (0 : Int) < (L.length : Int) := by omega
      obtain ⟨b, c, hv, hcc, _, hcel⟩ := OW.out.at (i := 0) (by rw [SL.out]; exact h2)
      rw [SL.out] at hv hcc
      injection hv with hva _ hvc
      subst hva hvc
      have HC : Hid _ := hcel
      clear hcel
      go_wp2_with fail
      go_ret
      exact ⟨_, rfl, .inr (.inl ⟨_, _, rfl, by simp⟩), CH.out⟩
    · have h2' : (L.length : Int) = 0 := by omega
      go_wp2_with fail
      go_ret
      refine ⟨_, rfl, ?_, CH.out⟩
      have := OW.out.ths
      have e : srt all L.length L = [] := List.eq_nil_of_length_eq_zero (by rw [SL.out]; omega)
      rw [e] at this ⊢
      simpa using this
  · by_cases h2 : n < L.length
    · obtain rfl : n = (kk : Int) := by omega
      have hkl : kk < L.length := by omega
      clear hk
      obtain ⟨b, c, hv, hcc, _, hcel⟩ := OW.out.at (i := 0) (by rw [SL.out]; omega)
      rw [SL.out] at hv hcc
      injection hv with hva _ hvc
      subst hva hvc
      have HC : Hid _ := hcel
      have hkc : (kk : Int) ≤ (vc : Int) := by omega
      clear hcel
      go_wp2_with fail
      go_ret
      exact ⟨_, rfl, Ths.take0 HC.out kk (by rw [SL.out]; omega), CH.out⟩
    · obtain rfl : kk = L.length := by omega
      clear hk
      go_wp2_with fail
      go_ret
      refine ⟨_, rfl, ?_, CH.out⟩
      rw [List.take_of_length_le (by rw [SL.out]; exact Nat.le_refl _)]
      exact OW.out.ths

end Go.Proofs.Ytbfbjjfjeiihbaa
