/-
  Load: where it says no; the reference's.
-/
import Derived.Test.YtibcpokfgogopabLoadA
namespace Go.Proofs.Ytibcpokfgogopab
open Go.RowKit

/-- The lengths and sizes that a disk can be loaded of. -/
def okLoad (N : Nat) (z : Int) (S : Nat) (zn : Nat) : Prop := z = zn ∧ N = S * zn ∧ okDisk S zn

theorem no_cases {N : Nat} {z : Int} (h : ¬ ∃ S zn, okLoad N z S zn) : ¬ fits z ∨ ∃ zn : Nat, z = zn ∧ fits z ∧ 0 < zn ∧ (¬ (N : Int) % (zn : Int) = 0 ∨ ((N : Int) % (zn : Int) = 0 ∧ ∃ S : Nat, N = S * zn ∧ (N : Int) / (zn : Int) = (S : Int) ∧ ¬ okDisk S zn)) := by
  by_cases hf : fits z
  · right
    have hb := fits_b hf
    refine ⟨z.toNat, by omega, hf, by omega, ?_⟩
    obtain ⟨zn, hzn⟩ : ∃ zn : Nat, zn = z.toNat := ⟨_, rfl⟩
    rw [← hzn]
    have hz : z = (zn : Int) := by omega
    by_cases hm : N % zn = 0
    · right
      have hS : N = N / zn * zn := by have := Nat.div_add_mod N zn; rw [hm, Nat.mul_comm] at this; omega
      refine ⟨by rw [← Int.natCast_emod, hm]; rfl, N / zn, hS, by rw [← Int.natCast_ediv], fun hk => h ⟨N / zn, zn, hz, hS, hk⟩⟩
    · left
      rw [← Int.natCast_emod]
      omega
  · exact .inl hf

set_option maxRecDepth 100000 in
set_option maxHeartbeats 2000000 in
theorem load_no {w : World} (a : Option Addr) (N cap : Nat) (z : Int) (hN : N ≤ 9223372036854775807) (h : ¬ ∃ S zn, okLoad N z S zn) :
    Calls Try.prog 9 #[.slice a N cap, .int .i64 z] w fun e w' => e = .returned (.tuple #[.pointer none, .int .i64 30]) ∧ w = w' := by
  rcases no_cases h with hf | ⟨zn, hz, hf, h0, hm | ⟨hm, S, hS, hq, hk⟩⟩
  · have HF : Hid _ := fit_no (w := w) z hf
    clear hf h
    go_enter Try.func9, Try.ntmps9
    go_wp2_with (go_at_call 29; refine Calls.mono HF.out ?_; rintro e w9 ⟨rfl, h9⟩; subst h9)
    go_ret2
    exact ⟨rfl, rfl⟩
  · have HF : Hid _ := fit_yes (w := w) z hf
    have hz0 : ¬ (zn : Int) = 0 := by omega
    subst hz
    clear hf h
    go_enter Try.func9, Try.ntmps9
    go_wp2_with (go_at_call 29; refine Calls.mono HF.out ?_; rintro e w9 ⟨rfl, h9⟩; subst h9)
    go_ret2
    exact ⟨rfl, rfl⟩
  · have HF : Hid _ := fit_yes (w := w) z hf
    have hz0 : ¬ (zn : Int) = 0 := by omega
    subst hz
    have HN : Hid _ := new_no (w := w) S zn hk
    have hSN : S ≤ N := by rw [hS]; exact Nat.le_mul_of_pos_right S h0
    clear hf h hS hk
    go_enter Try.func9, Try.ntmps9
    go_wp2_with (first | (go_at_call 29; refine Calls.mono HF.out ?_; rintro e w9 ⟨rfl, h9⟩; subst h9) | (go_at_call 18; refine Calls.mono HN.out ?_; rintro e w9 ⟨rfl, h9⟩; subst h9))
    go_ret2
    exact ⟨rfl, rfl⟩

set_option maxRecDepth 100000 in
set_option maxHeartbeats 2000000 in
theorem xload_no {w : World} (a : Option Addr) (N cap : Nat) (z : Int) (hN : N ≤ 9223372036854775807) (h : ¬ ∃ S zn, okLoad N z S zn) :
    Calls Try.prog 10 #[.slice a N cap, .int .i64 z] w fun e w' => e = .returned (.tuple #[.pointer none, .int .i64 30]) ∧ w = w' := by
  rcases no_cases h with hf | ⟨zn, hz, hf, h0, hm | ⟨hm, S, hS, hq, hk⟩⟩
  · have HF : Hid _ := sized_no (w := w) z hf
    clear hf h
    go_enter Try.func10, Try.ntmps10
    go_wp2_with (go_at_call 31; refine Calls.mono HF.out ?_; rintro e w9 ⟨rfl, h9⟩; subst h9)
    go_ret2
    exact ⟨rfl, rfl⟩
  · have HF : Hid _ := sized_yes (w := w) z hf
    have hz0 : ¬ (zn : Int) = 0 := by omega
    subst hz
    clear hf h
    go_enter Try.func10, Try.ntmps10
    go_wp2_with (go_at_call 31; refine Calls.mono HF.out ?_; rintro e w9 ⟨rfl, h9⟩; subst h9)
    go_ret2
    exact ⟨rfl, rfl⟩
  · have HF : Hid _ := sized_yes (w := w) z hf
    have hz0 : ¬ (zn : Int) = 0 := by omega
    subst hz
    have hSN : S ≤ N := by rw [hS]; exact Nat.le_mul_of_pos_right S h0
    have hc : N = 0 ∨ 16777216 < N ∨ 65536 < S := by
      by_cases e1 : N = 0
      · exact .inl e1
      · by_cases e2 : 16777216 < N
        · exact .inr (.inl e2)
        · by_cases e3 : 65536 < S
          · exact .inr (.inr e3)
          · exfalso
            refine hk ⟨hf, ?_, by omega, ?_⟩
            · have : S ≠ 0 := fun e => e1 (by rw [hS, e]; simp)
              omega
            · rw [← Int.natCast_mul, ← hS]; omega
    have HCC : Hid _ := hc
    clear hf h hS hk hc
    by_cases e1 : N = 0
    · subst e1
      go_enter Try.func10, Try.ntmps10
      go_wp2_with (go_at_call 31; refine Calls.mono HF.out ?_; rintro e w9 ⟨rfl, h9⟩; subst h9)
      go_ret2
      exact ⟨rfl, rfl⟩
    · by_cases e2 : 16777216 < N
      · go_enter Try.func10, Try.ntmps10
        go_wp2_with (go_at_call 31; refine Calls.mono HF.out ?_; rintro e w9 ⟨rfl, h9⟩; subst h9)
        go_ret2
        exact ⟨rfl, rfl⟩
      · have e3 : 65536 < S := by have := HCC.out; omega
        go_enter Try.func10, Try.ntmps10
        go_wp2_with (go_at_call 31; refine Calls.mono HF.out ?_; rintro e w9 ⟨rfl, h9⟩; subst h9)
        go_ret2
        exact ⟨rfl, rfl⟩

set_option maxRecDepth 100000 in
set_option maxHeartbeats 2000000 in
theorem xload_yes {w : World} {a : Option Addr} {N cap S zn : Nat} {T : List Int} (hs : Src w (.slice a N cap) T) (hN : T.length = N) (hT : N = S * zn) (h : okDisk S zn) :
    Calls Try.prog 10 #[.slice a N cap, .int .i64 zn] w fun e w' => e = .returned (.tuple #[.pointer (some ⟨w.heap.size, 0, none⟩), .int .i64 0]) ∧ (∃ cs, Rw w' w.heap.size cs 34 ∧ cs[0]? = some (.int .i64 S)) ∧ Below w.heap.size w w' := by
  have hz := fits_b h.1
  have hS1 := h.2.1
  have hS2 := h.2.2.1
  have hN2 : N ≤ 16777216 := by have := h.2.2.2; rw [← Int.natCast_mul, ← hT] at this; omega
  have hN1 : ¬ N = 0 := by
    have := Nat.le_mul_of_pos_right S (show 0 < zn by omega)
    rw [← hT] at this
    omega
  have HF : Hid _ := sized_yes (w := w) zn h.1
  have q1 : ((N : Int) == 0) = false := by simp; omega
  have q2 : decide (16777216 < (N : Int)) = false := by simp; omega
  have q3 : decide (65536 < (S : Int)) = false := by simp; omega
  have hq : (N : Int).tdiv (zn : Int) = (S : Int) := by
    rw [hT, Int.natCast_mul]
    exact Int.mul_tdiv_cancel _ (by omega)
  have hr : (N : Int).tmod (zn : Int) = 0 := by
    rw [hT, Int.natCast_mul]
    exact Int.mul_tmod_left _ _
  have hz0 : ¬ (zn : Int) = 0 := by omega
  have HS : Hid _ := hs
  have HNN : Hid _ := hN
  have hb0 : Below w.heap.size w (w.alloc (.cells (rdk S zn 0) 34)) := (Below.refl _ _).alloc (Nat.le_refl _) _
  have R0 : Hid (Rw (w.alloc (.cells (rdk S zn 0) 34)) w.heap.size (rdk S zn 0) 34) := ⟨heap_alloc_new _ _⟩
  have c2 : (w.alloc (.cells (rdk S zn 0) 34)).cell? ⟨w.heap.size, 2, none⟩ = some (.slice none 0 0) := Rw.cell R0.out 2
  have HB : Hid _ := hb0
  clear h hs hT hN hb0
  go_enter Try.func10, Try.ntmps10
  go_wp2_with (first | (go_at_call 31; refine Calls.mono HF.out ?_; rintro e w9 ⟨rfl, h9⟩; subst h9) | (refine wpList_app rfl (.tmp 47) (.tmp 48) rfl (v := .slice none 0 0) rfl rfl (Own.nil _) (Src.kept0 HS.out HB.out) (show ([] : List Int).length + T.length ≤ 140737488355328 from (by have h5 := HNN.out; rw [List.length_nil]; omega)) ?_; intro v' w1 hv hch hat; have R1 : Hid (Rw w1 w.heap.size (rdk S zn 0) 34) := ⟨hch.heap_some R0.out.eq (by simp [Value.ownBlock])⟩; have f2 := Rw.fr R1.out 2; have k2 : w1.cell? ⟨w.heap.size, 2, none⟩ = some (.slice none 0 0) := Rw.cell R1.out 2; have B1 : Hid (Below w.heap.size w w1) := Below.trans HB.out (Chg.below hch HB.out.size (fun k e => by simp [Value.ownBlock] at e)); obtain ⟨va, vc, hv2⟩ := Own.form hv; obtain ⟨vn, hvn⟩ : ∃ vn : Nat, vn = ([] ++ T).length := ⟨_, rfl⟩; rw [← hvn] at hv2; clear hvn; subst hv2; clear hv hch hat))
  go_ret2
  refine ⟨rfl, ⟨_, Rw.set R1.out 2 _, rfl⟩, ?_⟩
  exact B1.out.trans (((Chg.refl (fun k => k = w.heap.size) w1).setCell (p := ⟨w.heap.size, 2, none⟩) (.inl rfl) _).below B1.out.size (fun k e => by omega))
end Go.Proofs.Ytibcpokfgogopab
