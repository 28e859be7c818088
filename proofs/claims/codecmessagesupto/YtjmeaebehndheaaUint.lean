/-
  The walk of a Reader's Uint.
-/
import Derived.Test.YtjmeaebehndheaaNum2
import Derived.ScopeJumps
import Derived.WalkMore
namespace Go.Proofs.Ytjmeaebehndheaa
open Go.RowKit

theorem l73 (l : List Value) (h : l.length = 73) : l = (List.range 73).map fun i => l.getD i undef := by
  apply List.ext_getElem?
  intro i
  by_cases hi : i < 73
  · simp [hi, List.getElem?_eq_getElem (show i < l.length by omega)]
  · rw [List.getElem?_eq_none (by omega), List.getElem?_eq_none (by simp; omega)]
theorem frame73 {a' : Act} (hd : a'.defers = []) (hs : a'.tmps.size = 73) : ∃ x : Nat → Value, a' = { tmps := #[x 0, x 1, x 2, x 3, x 4, x 5, x 6, x 7, x 8, x 9, x 10, x 11, x 12, x 13, x 14, x 15, x 16, x 17, x 18, x 19, x 20, x 21, x 22, x 23, x 24, x 25, x 26, x 27, x 28, x 29, x 30, x 31, x 32, x 33, x 34, x 35, x 36, x 37, x 38, x 39, x 40, x 41, x 42, x 43, x 44, x 45, x 46, x 47, x 48, x 49, x 50, x 51, x 52, x 53, x 54, x 55, x 56, x 57, x 58, x 59, x 60, x 61, x 62, x 63, x 64, x 65, x 66, x 67, x 68, x 69, x 70, x 71, x 72], defers := [] } ∧ ∀ i, x i = a'.tmps.getD i undef := by
  obtain ⟨⟨l⟩, df⟩ := a'
  have hd : df = [] := hd
  subst hd
  have hs : l.length = 73 := hs
  refine ⟨fun i => l.getD i undef, ?_, fun i => by simp⟩
  have e := l73 l hs
  congr 1
  congr 1

set_option maxRecDepth 100000 in
set_option maxHeartbeats 4000000 in
theorem rUint_any {w : World} {p : Nat} {t : TypeId} {tv : Value} {T : List Int} {a : Nat} {err : Int} (h : RS w p t tv T a err) (most : Nat) (_hm : most < 18446744073709551616) :
    Calls Try.prog 64 #[.pointer (some ⟨p, 0, none⟩), .int .u64 most] w fun e w' => e = .returned (.int .u64 (uintS T a err most).1) ∧ RP w w' p t tv T (uintS T a err most).2.1 (uintS T a err most).2.2 := by
  have H : Hid _ := h
  have hle := h.le
  have hbig := h.big
  have k0 := h.c0
  have k1 := h.c1
  have k2 := h.c2
  have f1 := h.fr 1
  have HB : Hid _ := h.byt
  have HS : Hid _ := h.src
  obtain ⟨b0, d0, hv⟩ := h.src.form
  subst hv
  clear h
  obtain ⟨A, hA⟩ : ∃ A, A = uintS T a err most := ⟨_, rfl⟩
  rw [← hA]
  have HA : Hid _ := hA
  clear hA
  go_enter Try.func64, Try.ntmps64
  go_wp2_with fail
  refine wp_scope_jumps 0 (fun a' w' => w' = w ∧ ∃ f : Int, ¬ f = 0 ∧ failE err f = f ∧ A = (0, a, f) ∧ a'.defers = [] ∧ a'.tmps.size = 73 ∧ a'.tmps[0]? = some (.pointer (some ⟨p, 0, none⟩)) ∧ a'.tmps[6]? = some (.int .i64 f)) (fun _ _ => 0) rfl ?_ ?_
  · by_cases he : err = 0
    · subst he
      go_wp2_with fail
      go_loop [5, 6, 7, 8] (fun n f at_ i => ∃ k acc : Nat, k ≤ 9 ∧ i = .int .i64 k ∧ n = .int .u64 acc ∧ f = .int .i64 0 ∧ at_ = .int .i64 ((a : Int) + k) ∧ a + k ≤ T.length ∧ acc < 128 ^ k ∧ numG (T.drop (a + k)) k acc = numG (T.drop a) 0 0) (fun _ _ _ i => 10 - (intOf i).toNat)
      case atStart => exact ⟨0, 0, by omega, rfl, rfl, rfl, by simp, by omega, by omega, rfl⟩
      case round =>
        obtain ⟨k, acc, hk, rfl, rfl, rfl, rfl, hkl, hacc, hg⟩ := hrel
        have HG : Hid _ := hg
        clear hg
        by_cases hlt : a + k < T.length
        · obtain ⟨g, o, rfl, hc⟩ := Src.at HS.out (a + k) hlt
          have hcb := Byts.at HB.out hlt
          have hd := List.drop_eq_getElem_cons hlt
          obtain ⟨c, hcc⟩ : ∃ c, c = T[a + k] := ⟨_, rfl⟩
          rw [← hcc] at hc hcb hd
          rw [hd] at HG
          have hand := and127 hcb.1 hcb.2
          clear hd hcc
          obtain rfl | rfl | rfl | rfl | rfl | rfl | rfl | rfl | rfl | rfl : k = 0 ∨ k = 1 ∨ k = 2 ∨ k = 3 ∨ k = 4 ∨ k = 5 ∨ k = 6 ∨ k = 7 ∨ k = 8 ∨ k = 9 := by omega
          · have hcell : w.cell? ⟨g, o + a, none⟩ = some (.int .u8 c) := hc
            obtain ⟨acc2, hacc2⟩ : ∃ x, x = acc + (c % 128).toNat * 128 ^ 0 := ⟨_, rfl⟩
            have hacc3 : acc < 1 := hacc
            have hb2 : acc2 < 18446744073709551616 := by rw [hacc2]; omega
            have hor : bits .or .u64 (acc : Int) (c % 128) = (acc2 : Int) := by
              have := or_num (acc := acc) (K := 0) hcb.1 hacc (by rw [← hacc2]; exact hb2)
              rw [← hacc2] at this
              rw [← this]
              simp
            have HLT : Hid _ := num_lt (c := c) (K := 0) hacc
            rw [← hacc2] at HLT
            by_cases h128 : c < 128
            · rw [numG_last (by omega) (by omega) h128, ← hacc2] at HG
              clear hacc2 hacc hacc3
              by_cases hmn : most < acc2
              · have E : Hid _ := HA.out.trans (uintS_long HG.out.symm hmn)
                go_wp2_with fail
                go_step3
                go_wp2_with fail
                refine (rFail_any H.out 21).mono ?_
                rintro e w1 ⟨rfl, P1⟩
                rw [failE_yes] at P1
                have R1 : Hid _ := P1
                clear P1
                go_wp2_with fail
                simp only [Exit.jump]
                go_ret
                refine ⟨by rw [E.out]; rfl, ?_⟩
                rw [E.out]
                exact R1.out
              · have E : Hid _ := HA.out.trans (uintS_ok HG.out.symm hmn)
                go_wp2_with fail
                go_step3
                go_wp2_with fail
                simp only [Exit.jump]
                go_ret
                refine ⟨by rw [E.out]; rfl, ?_⟩
                rw [E.out]
                refine ⟨?_, (Chg.refl (fun k => k = p) w).setCell (.inl rfl) _⟩
                have R := RS.setAt H.out (a + (0 + 1)) (by omega)
                have e1 : ((a + (0 + 1) : Nat) : Int) = (a : Int) + 1 := by omega
                rw [e1] at R
                exact R
            · rw [numG_more (by omega) (by omega) h128, ← hacc2] at HG
              clear hacc2 hacc hacc3
              go_wp2_with fail
              go_round
              case rel => exact ⟨1, acc2, by omega, by go_num, rfl, rfl, by go_num, by omega, HLT.out, HG.out⟩
              case measure => simp [intOf]
          · have hcell : w.cell? ⟨g, o + (a + 1), none⟩ = some (.int .u8 c) := hc
            obtain ⟨acc2, hacc2⟩ : ∃ x, x = acc + (c % 128).toNat * 128 ^ 1 := ⟨_, rfl⟩
            have hacc3 : acc < 128 := hacc
            by_cases h0 : c = 0
            · rw [numG_form (by omega) (by omega) h0] at HG
              have E : Hid _ := HA.out.trans (uintS_bad HG.out.symm (by decide))
              clear hacc2 hacc
              subst h0
              go_wp2_with fail
              go_step3
              exact ⟨rfl, rfl, 22, by decide, rfl, E.out, rfl, rfl, rfl, rfl⟩
            have hb2 : acc2 < 18446744073709551616 := by rw [hacc2]; omega
            have hor : bits .or .u64 (acc : Int) (c % 128 * 128) = (acc2 : Int) := by
              have := or_num (acc := acc) (K := 1) hcb.1 hacc (by rw [← hacc2]; exact hb2)
              rw [← hacc2] at this
              rw [← this]
              rfl
            have HLT : Hid _ := num_lt (c := c) (K := 1) hacc
            rw [← hacc2] at HLT
            by_cases h128 : c < 128
            · rw [numG_last (by omega) (by omega) h128, ← hacc2] at HG
              clear hacc2 hacc hacc3
              by_cases hmn : most < acc2
              · have E : Hid _ := HA.out.trans (uintS_long HG.out.symm hmn)
                go_wp2_with fail
                go_step3
                go_wp2_with fail
                refine (rFail_any H.out 21).mono ?_
                rintro e w1 ⟨rfl, P1⟩
                rw [failE_yes] at P1
                have R1 : Hid _ := P1
                clear P1
                go_wp2_with fail
                simp only [Exit.jump]
                go_ret
                refine ⟨by rw [E.out]; rfl, ?_⟩
                rw [E.out]
                exact R1.out
              · have E : Hid _ := HA.out.trans (uintS_ok HG.out.symm hmn)
                go_wp2_with fail
                go_step3
                go_wp2_with fail
                simp only [Exit.jump]
                go_ret
                refine ⟨by rw [E.out]; rfl, ?_⟩
                rw [E.out]
                refine ⟨?_, (Chg.refl (fun k => k = p) w).setCell (.inl rfl) _⟩
                have R := RS.setAt H.out (a + (1 + 1)) (by omega)
                have e1 : ((a + (1 + 1) : Nat) : Int) = (a : Int) + 1 + 1 := by omega
                rw [e1] at R
                exact R
            · rw [numG_more (by omega) (by omega) h128, ← hacc2] at HG
              clear hacc2 hacc hacc3
              go_wp2_with fail
              go_round
              case rel => exact ⟨2, acc2, by omega, by go_num, rfl, rfl, by go_num, by omega, HLT.out, HG.out⟩
              case measure => simp [intOf]
          · have hcell : w.cell? ⟨g, o + (a + 2), none⟩ = some (.int .u8 c) := hc
            obtain ⟨acc2, hacc2⟩ : ∃ x, x = acc + (c % 128).toNat * 128 ^ 2 := ⟨_, rfl⟩
            have hacc3 : acc < 16384 := hacc
            by_cases h0 : c = 0
            · rw [numG_form (by omega) (by omega) h0] at HG
              have E : Hid _ := HA.out.trans (uintS_bad HG.out.symm (by decide))
              clear hacc2 hacc
              subst h0
              go_wp2_with fail
              go_step3
              exact ⟨rfl, rfl, 22, by decide, rfl, E.out, rfl, rfl, rfl, rfl⟩
            have hb2 : acc2 < 18446744073709551616 := by rw [hacc2]; omega
            have hor : bits .or .u64 (acc : Int) (c % 128 * 16384) = (acc2 : Int) := by
              have := or_num (acc := acc) (K := 2) hcb.1 hacc (by rw [← hacc2]; exact hb2)
              rw [← hacc2] at this
              rw [← this]
              rfl
            have HLT : Hid _ := num_lt (c := c) (K := 2) hacc
            rw [← hacc2] at HLT
            by_cases h128 : c < 128
            · rw [numG_last (by omega) (by omega) h128, ← hacc2] at HG
              clear hacc2 hacc hacc3
              by_cases hmn : most < acc2
              · have E : Hid _ := HA.out.trans (uintS_long HG.out.symm hmn)
                go_wp2_with fail
                go_step3
                go_wp2_with fail
                refine (rFail_any H.out 21).mono ?_
                rintro e w1 ⟨rfl, P1⟩
                rw [failE_yes] at P1
                have R1 : Hid _ := P1
                clear P1
                go_wp2_with fail
                simp only [Exit.jump]
                go_ret
                refine ⟨by rw [E.out]; rfl, ?_⟩
                rw [E.out]
                exact R1.out
              · have E : Hid _ := HA.out.trans (uintS_ok HG.out.symm hmn)
                go_wp2_with fail
                go_step3
                go_wp2_with fail
                simp only [Exit.jump]
                go_ret
                refine ⟨by rw [E.out]; rfl, ?_⟩
                rw [E.out]
                refine ⟨?_, (Chg.refl (fun k => k = p) w).setCell (.inl rfl) _⟩
                have R := RS.setAt H.out (a + (2 + 1)) (by omega)
                have e1 : ((a + (2 + 1) : Nat) : Int) = (a : Int) + 2 + 1 := by omega
                rw [e1] at R
                exact R
            · rw [numG_more (by omega) (by omega) h128, ← hacc2] at HG
              clear hacc2 hacc hacc3
              go_wp2_with fail
              go_round
              case rel => exact ⟨3, acc2, by omega, by go_num, rfl, rfl, by go_num, by omega, HLT.out, HG.out⟩
              case measure => simp [intOf]
          · have hcell : w.cell? ⟨g, o + (a + 3), none⟩ = some (.int .u8 c) := hc
            obtain ⟨acc2, hacc2⟩ : ∃ x, x = acc + (c % 128).toNat * 128 ^ 3 := ⟨_, rfl⟩
            have hacc3 : acc < 2097152 := hacc
            by_cases h0 : c = 0
            · rw [numG_form (by omega) (by omega) h0] at HG
              have E : Hid _ := HA.out.trans (uintS_bad HG.out.symm (by decide))
              clear hacc2 hacc
              subst h0
              go_wp2_with fail
              go_step3
              exact ⟨rfl, rfl, 22, by decide, rfl, E.out, rfl, rfl, rfl, rfl⟩
            have hb2 : acc2 < 18446744073709551616 := by rw [hacc2]; omega
            have hor : bits .or .u64 (acc : Int) (c % 128 * 2097152) = (acc2 : Int) := by
              have := or_num (acc := acc) (K := 3) hcb.1 hacc (by rw [← hacc2]; exact hb2)
              rw [← hacc2] at this
              rw [← this]
              rfl
            have HLT : Hid _ := num_lt (c := c) (K := 3) hacc
            rw [← hacc2] at HLT
            by_cases h128 : c < 128
            · rw [numG_last (by omega) (by omega) h128, ← hacc2] at HG
              clear hacc2 hacc hacc3
              by_cases hmn : most < acc2
              · have E : Hid _ := HA.out.trans (uintS_long HG.out.symm hmn)
                go_wp2_with fail
                go_step3
                go_wp2_with fail
                refine (rFail_any H.out 21).mono ?_
                rintro e w1 ⟨rfl, P1⟩
                rw [failE_yes] at P1
                have R1 : Hid _ := P1
                clear P1
                go_wp2_with fail
                simp only [Exit.jump]
                go_ret
                refine ⟨by rw [E.out]; rfl, ?_⟩
                rw [E.out]
                exact R1.out
              · have E : Hid _ := HA.out.trans (uintS_ok HG.out.symm hmn)
                go_wp2_with fail
                go_step3
                go_wp2_with fail
                simp only [Exit.jump]
                go_ret
                refine ⟨by rw [E.out]; rfl, ?_⟩
                rw [E.out]
                refine ⟨?_, (Chg.refl (fun k => k = p) w).setCell (.inl rfl) _⟩
                have R := RS.setAt H.out (a + (3 + 1)) (by omega)
                have e1 : ((a + (3 + 1) : Nat) : Int) = (a : Int) + 3 + 1 := by omega
                rw [e1] at R
                exact R
            · rw [numG_more (by omega) (by omega) h128, ← hacc2] at HG
              clear hacc2 hacc hacc3
              go_wp2_with fail
              go_round
              case rel => exact ⟨4, acc2, by omega, by go_num, rfl, rfl, by go_num, by omega, HLT.out, HG.out⟩
              case measure => simp [intOf]
          · have hcell : w.cell? ⟨g, o + (a + 4), none⟩ = some (.int .u8 c) := hc
            obtain ⟨acc2, hacc2⟩ : ∃ x, x = acc + (c % 128).toNat * 128 ^ 4 := ⟨_, rfl⟩
            have hacc3 : acc < 268435456 := hacc
            by_cases h0 : c = 0
            · rw [numG_form (by omega) (by omega) h0] at HG
              have E : Hid _ := HA.out.trans (uintS_bad HG.out.symm (by decide))
              clear hacc2 hacc
              subst h0
              go_wp2_with fail
              go_step3
              exact ⟨rfl, rfl, 22, by decide, rfl, E.out, rfl, rfl, rfl, rfl⟩
            have hb2 : acc2 < 18446744073709551616 := by rw [hacc2]; omega
            have hor : bits .or .u64 (acc : Int) (c % 128 * 268435456) = (acc2 : Int) := by
              have := or_num (acc := acc) (K := 4) hcb.1 hacc (by rw [← hacc2]; exact hb2)
              rw [← hacc2] at this
              rw [← this]
              rfl
            have HLT : Hid _ := num_lt (c := c) (K := 4) hacc
            rw [← hacc2] at HLT
            by_cases h128 : c < 128
            · rw [numG_last (by omega) (by omega) h128, ← hacc2] at HG
              clear hacc2 hacc hacc3
              by_cases hmn : most < acc2
              · have E : Hid _ := HA.out.trans (uintS_long HG.out.symm hmn)
                go_wp2_with fail
                go_step3
                go_wp2_with fail
                refine (rFail_any H.out 21).mono ?_
                rintro e w1 ⟨rfl, P1⟩
                rw [failE_yes] at P1
                have R1 : Hid _ := P1
                clear P1
                go_wp2_with fail
                simp only [Exit.jump]
                go_ret
                refine ⟨by rw [E.out]; rfl, ?_⟩
                rw [E.out]
                exact R1.out
              · have E : Hid _ := HA.out.trans (uintS_ok HG.out.symm hmn)
                go_wp2_with fail
                go_step3
                go_wp2_with fail
                simp only [Exit.jump]
                go_ret
                refine ⟨by rw [E.out]; rfl, ?_⟩
                rw [E.out]
                refine ⟨?_, (Chg.refl (fun k => k = p) w).setCell (.inl rfl) _⟩
                have R := RS.setAt H.out (a + (4 + 1)) (by omega)
                have e1 : ((a + (4 + 1) : Nat) : Int) = (a : Int) + 4 + 1 := by omega
                rw [e1] at R
                exact R
            · rw [numG_more (by omega) (by omega) h128, ← hacc2] at HG
              clear hacc2 hacc hacc3
              go_wp2_with fail
              go_round
              case rel => exact ⟨5, acc2, by omega, by go_num, rfl, rfl, by go_num, by omega, HLT.out, HG.out⟩
              case measure => simp [intOf]
          · have hcell : w.cell? ⟨g, o + (a + 5), none⟩ = some (.int .u8 c) := hc
            obtain ⟨acc2, hacc2⟩ : ∃ x, x = acc + (c % 128).toNat * 128 ^ 5 := ⟨_, rfl⟩
            have hacc3 : acc < 34359738368 := hacc
            by_cases h0 : c = 0
            · rw [numG_form (by omega) (by omega) h0] at HG
              have E : Hid _ := HA.out.trans (uintS_bad HG.out.symm (by decide))
              clear hacc2 hacc
              subst h0
              go_wp2_with fail
              go_step3
              exact ⟨rfl, rfl, 22, by decide, rfl, E.out, rfl, rfl, rfl, rfl⟩
            have hb2 : acc2 < 18446744073709551616 := by rw [hacc2]; omega
            have hor : bits .or .u64 (acc : Int) (c % 128 * 34359738368) = (acc2 : Int) := by
              have := or_num (acc := acc) (K := 5) hcb.1 hacc (by rw [← hacc2]; exact hb2)
              rw [← hacc2] at this
              rw [← this]
              rfl
            have HLT : Hid _ := num_lt (c := c) (K := 5) hacc
            rw [← hacc2] at HLT
            by_cases h128 : c < 128
            · rw [numG_last (by omega) (by omega) h128, ← hacc2] at HG
              clear hacc2 hacc hacc3
              by_cases hmn : most < acc2
              · have E : Hid _ := HA.out.trans (uintS_long HG.out.symm hmn)
                go_wp2_with fail
                go_step3
                go_wp2_with fail
                refine (rFail_any H.out 21).mono ?_
                rintro e w1 ⟨rfl, P1⟩
                rw [failE_yes] at P1
                have R1 : Hid _ := P1
                clear P1
                go_wp2_with fail
                simp only [Exit.jump]
                go_ret
                refine ⟨by rw [E.out]; rfl, ?_⟩
                rw [E.out]
                exact R1.out
              · have E : Hid _ := HA.out.trans (uintS_ok HG.out.symm hmn)
                go_wp2_with fail
                go_step3
                go_wp2_with fail
                simp only [Exit.jump]
                go_ret
                refine ⟨by rw [E.out]; rfl, ?_⟩
                rw [E.out]
                refine ⟨?_, (Chg.refl (fun k => k = p) w).setCell (.inl rfl) _⟩
                have R := RS.setAt H.out (a + (5 + 1)) (by omega)
                have e1 : ((a + (5 + 1) : Nat) : Int) = (a : Int) + 5 + 1 := by omega
                rw [e1] at R
                exact R
            · rw [numG_more (by omega) (by omega) h128, ← hacc2] at HG
              clear hacc2 hacc hacc3
              go_wp2_with fail
              go_round
              case rel => exact ⟨6, acc2, by omega, by go_num, rfl, rfl, by go_num, by omega, HLT.out, HG.out⟩
              case measure => simp [intOf]
          · have hcell : w.cell? ⟨g, o + (a + 6), none⟩ = some (.int .u8 c) := hc
            obtain ⟨acc2, hacc2⟩ : ∃ x, x = acc + (c % 128).toNat * 128 ^ 6 := ⟨_, rfl⟩
            have hacc3 : acc < 4398046511104 := hacc
            by_cases h0 : c = 0
            · rw [numG_form (by omega) (by omega) h0] at HG
              have E : Hid _ := HA.out.trans (uintS_bad HG.out.symm (by decide))
              clear hacc2 hacc
              subst h0
              go_wp2_with fail
              go_step3
              exact ⟨rfl, rfl, 22, by decide, rfl, E.out, rfl, rfl, rfl, rfl⟩
            have hb2 : acc2 < 18446744073709551616 := by rw [hacc2]; omega
            have hor : bits .or .u64 (acc : Int) (c % 128 * 4398046511104) = (acc2 : Int) := by
              have := or_num (acc := acc) (K := 6) hcb.1 hacc (by rw [← hacc2]; exact hb2)
              rw [← hacc2] at this
              rw [← this]
              rfl
            have HLT : Hid _ := num_lt (c := c) (K := 6) hacc
            rw [← hacc2] at HLT
            by_cases h128 : c < 128
            · rw [numG_last (by omega) (by omega) h128, ← hacc2] at HG
              clear hacc2 hacc hacc3
              by_cases hmn : most < acc2
              · have E : Hid _ := HA.out.trans (uintS_long HG.out.symm hmn)
                go_wp2_with fail
                go_step3
                go_wp2_with fail
                refine (rFail_any H.out 21).mono ?_
                rintro e w1 ⟨rfl, P1⟩
                rw [failE_yes] at P1
                have R1 : Hid _ := P1
                clear P1
                go_wp2_with fail
                simp only [Exit.jump]
                go_ret
                refine ⟨by rw [E.out]; rfl, ?_⟩
                rw [E.out]
                exact R1.out
              · have E : Hid _ := HA.out.trans (uintS_ok HG.out.symm hmn)
                go_wp2_with fail
                go_step3
                go_wp2_with fail
                simp only [Exit.jump]
                go_ret
                refine ⟨by rw [E.out]; rfl, ?_⟩
                rw [E.out]
                refine ⟨?_, (Chg.refl (fun k => k = p) w).setCell (.inl rfl) _⟩
                have R := RS.setAt H.out (a + (6 + 1)) (by omega)
                have e1 : ((a + (6 + 1) : Nat) : Int) = (a : Int) + 6 + 1 := by omega
                rw [e1] at R
                exact R
            · rw [numG_more (by omega) (by omega) h128, ← hacc2] at HG
              clear hacc2 hacc hacc3
              go_wp2_with fail
              go_round
              case rel => exact ⟨7, acc2, by omega, by go_num, rfl, rfl, by go_num, by omega, HLT.out, HG.out⟩
              case measure => simp [intOf]
          · have hcell : w.cell? ⟨g, o + (a + 7), none⟩ = some (.int .u8 c) := hc
            obtain ⟨acc2, hacc2⟩ : ∃ x, x = acc + (c % 128).toNat * 128 ^ 7 := ⟨_, rfl⟩
            have hacc3 : acc < 562949953421312 := hacc
            by_cases h0 : c = 0
            · rw [numG_form (by omega) (by omega) h0] at HG
              have E : Hid _ := HA.out.trans (uintS_bad HG.out.symm (by decide))
              clear hacc2 hacc
              subst h0
              go_wp2_with fail
              go_step3
              exact ⟨rfl, rfl, 22, by decide, rfl, E.out, rfl, rfl, rfl, rfl⟩
            have hb2 : acc2 < 18446744073709551616 := by rw [hacc2]; omega
            have hor : bits .or .u64 (acc : Int) (c % 128 * 562949953421312) = (acc2 : Int) := by
              have := or_num (acc := acc) (K := 7) hcb.1 hacc (by rw [← hacc2]; exact hb2)
              rw [← hacc2] at this
              rw [← this]
              rfl
            have HLT : Hid _ := num_lt (c := c) (K := 7) hacc
            rw [← hacc2] at HLT
            by_cases h128 : c < 128
            · rw [numG_last (by omega) (by omega) h128, ← hacc2] at HG
              clear hacc2 hacc hacc3
              by_cases hmn : most < acc2
              · have E : Hid _ := HA.out.trans (uintS_long HG.out.symm hmn)
                go_wp2_with fail
                go_step3
                go_wp2_with fail
                refine (rFail_any H.out 21).mono ?_
                rintro e w1 ⟨rfl, P1⟩
                rw [failE_yes] at P1
                have R1 : Hid _ := P1
                clear P1
                go_wp2_with fail
                simp only [Exit.jump]
                go_ret
                refine ⟨by rw [E.out]; rfl, ?_⟩
                rw [E.out]
                exact R1.out
              · have E : Hid _ := HA.out.trans (uintS_ok HG.out.symm hmn)
                go_wp2_with fail
                go_step3
                go_wp2_with fail
                simp only [Exit.jump]
                go_ret
                refine ⟨by rw [E.out]; rfl, ?_⟩
                rw [E.out]
                refine ⟨?_, (Chg.refl (fun k => k = p) w).setCell (.inl rfl) _⟩
                have R := RS.setAt H.out (a + (7 + 1)) (by omega)
                have e1 : ((a + (7 + 1) : Nat) : Int) = (a : Int) + 7 + 1 := by omega
                rw [e1] at R
                exact R
            · rw [numG_more (by omega) (by omega) h128, ← hacc2] at HG
              clear hacc2 hacc hacc3
              go_wp2_with fail
              go_round
              case rel => exact ⟨8, acc2, by omega, by go_num, rfl, rfl, by go_num, by omega, HLT.out, HG.out⟩
              case measure => simp [intOf]
          · have hcell : w.cell? ⟨g, o + (a + 8), none⟩ = some (.int .u8 c) := hc
            obtain ⟨acc2, hacc2⟩ : ∃ x, x = acc + (c % 128).toNat * 128 ^ 8 := ⟨_, rfl⟩
            have hacc3 : acc < 72057594037927936 := hacc
            by_cases h0 : c = 0
            · rw [numG_form (by omega) (by omega) h0] at HG
              have E : Hid _ := HA.out.trans (uintS_bad HG.out.symm (by decide))
              clear hacc2 hacc
              subst h0
              go_wp2_with fail
              go_step3
              exact ⟨rfl, rfl, 22, by decide, rfl, E.out, rfl, rfl, rfl, rfl⟩
            have hb2 : acc2 < 18446744073709551616 := by rw [hacc2]; omega
            have hor : bits .or .u64 (acc : Int) (c % 128 * 72057594037927936) = (acc2 : Int) := by
              have := or_num (acc := acc) (K := 8) hcb.1 hacc (by rw [← hacc2]; exact hb2)
              rw [← hacc2] at this
              rw [← this]
              rfl
            have HLT : Hid _ := num_lt (c := c) (K := 8) hacc
            rw [← hacc2] at HLT
            by_cases h128 : c < 128
            · rw [numG_last (by omega) (by omega) h128, ← hacc2] at HG
              clear hacc2 hacc hacc3
              by_cases hmn : most < acc2
              · have E : Hid _ := HA.out.trans (uintS_long HG.out.symm hmn)
                go_wp2_with fail
                go_step3
                go_wp2_with fail
                refine (rFail_any H.out 21).mono ?_
                rintro e w1 ⟨rfl, P1⟩
                rw [failE_yes] at P1
                have R1 : Hid _ := P1
                clear P1
                go_wp2_with fail
                simp only [Exit.jump]
                go_ret
                refine ⟨by rw [E.out]; rfl, ?_⟩
                rw [E.out]
                exact R1.out
              · have E : Hid _ := HA.out.trans (uintS_ok HG.out.symm hmn)
                go_wp2_with fail
                go_step3
                go_wp2_with fail
                simp only [Exit.jump]
                go_ret
                refine ⟨by rw [E.out]; rfl, ?_⟩
                rw [E.out]
                refine ⟨?_, (Chg.refl (fun k => k = p) w).setCell (.inl rfl) _⟩
                have R := RS.setAt H.out (a + (8 + 1)) (by omega)
                have e1 : ((a + (8 + 1) : Nat) : Int) = (a : Int) + 8 + 1 := by omega
                rw [e1] at R
                exact R
            · rw [numG_more (by omega) (by omega) h128, ← hacc2] at HG
              clear hacc2 hacc hacc3
              go_wp2_with fail
              go_round
              case rel => exact ⟨9, acc2, by omega, by go_num, rfl, rfl, by go_num, by omega, HLT.out, HG.out⟩
              case measure => simp [intOf]
          · have hcell : w.cell? ⟨g, o + (a + 9), none⟩ = some (.int .u8 c) := hc
            obtain ⟨acc2, hacc2⟩ : ∃ x, x = acc + (c % 128).toNat * 128 ^ 9 := ⟨_, rfl⟩
            have hacc3 : acc < 9223372036854775808 := hacc
            by_cases h1 : 1 < c
            · rw [numG_long rfl h1] at HG
              have E : Hid _ := HA.out.trans (uintS_bad HG.out.symm (by decide))
              clear hacc2 hacc
              go_wp2_with fail
              go_step3
              exact ⟨rfl, rfl, 21, by decide, rfl, E.out, rfl, rfl, rfl, rfl⟩
            by_cases h0 : c = 0
            · rw [numG_form (by omega) (by omega) h0] at HG
              have E : Hid _ := HA.out.trans (uintS_bad HG.out.symm (by decide))
              clear hacc2 hacc
              subst h0
              go_wp2_with fail
              go_step3
              exact ⟨rfl, rfl, 22, by decide, rfl, E.out, rfl, rfl, rfl, rfl⟩
            have hb2 : acc2 < 18446744073709551616 := by rw [hacc2]; omega
            have hor : bits .or .u64 (acc : Int) (c % 128 * 9223372036854775808) = (acc2 : Int) := by
              have := or_num (acc := acc) (K := 9) hcb.1 hacc (by rw [← hacc2]; exact hb2)
              rw [← hacc2] at this
              rw [← this]
              rfl
            have HLT : Hid _ := num_lt (c := c) (K := 9) hacc
            rw [← hacc2] at HLT
            have h128 : c < 128 := by omega
            rw [numG_last (by omega) (by omega) h128, ← hacc2] at HG
            clear hacc2 hacc hacc3
            by_cases hmn : most < acc2
            · have E : Hid _ := HA.out.trans (uintS_long HG.out.symm hmn)
              go_wp2_with fail
              go_step3
              go_wp2_with fail
              refine (rFail_any H.out 21).mono ?_
              rintro e w1 ⟨rfl, P1⟩
              rw [failE_yes] at P1
              have R1 : Hid _ := P1
              clear P1
              go_wp2_with fail
              simp only [Exit.jump]
              go_ret
              refine ⟨by rw [E.out]; rfl, ?_⟩
              rw [E.out]
              exact R1.out
            · have E : Hid _ := HA.out.trans (uintS_ok HG.out.symm hmn)
              go_wp2_with fail
              go_step3
              go_wp2_with fail
              simp only [Exit.jump]
              go_ret
              refine ⟨by rw [E.out]; rfl, ?_⟩
              rw [E.out]
              refine ⟨?_, (Chg.refl (fun k => k = p) w).setCell (.inl rfl) _⟩
              have R := RS.setAt H.out (a + (9 + 1)) (by omega)
              have e1 : ((a + (9 + 1) : Nat) : Int) = (a : Int) + 9 + 1 := by omega
              rw [e1] at R
              exact R
        · have e : T.drop (a + k) = [] := List.drop_of_length_le (by omega)
          rw [e, numG_nil] at HG
          have E : Hid _ := HA.out.trans (uintS_bad HG.out.symm (by decide))
          go_wp2_with fail
          go_step3
          exact ⟨rfl, rfl, 20, by decide, rfl, E.out, rfl, rfl, rfl, rfl⟩
    · have E : Hid _ := HA.out.trans (uintS_err he)
      go_wp2_with fail
      go_step3
      exact ⟨rfl, rfl, err, he, failE_no _ he, E.out, rfl, rfl, rfl, rfl⟩
  · rintro a' w' ⟨rfl, f, hf, hfe, hA, hdf, hsz, hx0, hx6⟩
    obtain ⟨x, hx, hxi⟩ := frame73 hdf hsz
    have y0 : x 0 = .pointer (some ⟨p, 0, none⟩) := by rw [hxi, Array.getD_eq_getD_getElem?, hx0]; rfl
    have y6 : x 6 = .int .i64 f := by rw [hxi, Array.getD_eq_getD_getElem?, hx6]; rfl
    clear hxi hx0 hx6 hdf hsz
    rw [y0, y6] at hx
    subst hx
    clear y0 y6
    have E : Hid _ := hA
    have FE : Hid _ := hfe
    clear hA hfe
    go_wp2_with fail
    refine (rFail_any H.out f).mono ?_
    rintro e w1 ⟨rfl, P1⟩
    rw [FE.out] at P1
    have R1 : Hid _ := P1
    clear P1
    go_wp2_with fail
    simp only [Exit.jump]
    go_ret
    refine ⟨by rw [E.out]; rfl, ?_⟩
    rw [E.out]
    exact R1.out
end Go.Proofs.Ytjmeaebehndheaa
