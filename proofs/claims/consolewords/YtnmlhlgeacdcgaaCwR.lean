/-
  The reference: what stands behind a stroke.
-/
import Derived.Test.YtnmlhlgeacdcgaaCwI
namespace Go.Proofs.Ytnmlhlgeacdcgaa
open Go.RowKit

theorem ix_at (s : ByteArray) {i : Nat} (h : i < s.size) (w : World) : (Instr.index 9 (.string s) (.int .i64 i)).run Try.prog w = .ok (.int .u8 ((s[i]'h).toNat : Int)) w := by
  rw [run_index_string w 9 s .i64 i Try.underlying9, dif_pos ⟨by omega, by omega⟩]
  rfl
theorem sl_from (s : ByteArray) {i : Nat} (h : i ≤ s.size) (w : World) : (Instr.slice 9 (.string s) (some (.int .i64 i)) none none).run Try.prog w = .ok (.string (s.extract i s.size)) w := by
  rw [run_slice_string_from_if w 9 s .i64 i Try.underlying9, if_pos ⟨by omega, by omega⟩]
  rfl
theorem bs_from (s : ByteArray) (i : Nat) : bs (s.extract i s.size) = (bs s).drop i := by
  rw [cut_extract, bs_mk, cut, List.take_of_length_le (by rw [List.length_drop, bs_length]; exact Nat.le_refl _)]

/-- Two digits. -/
def dig2' : Option Nat → Option Nat → UInt8 × Nat
  | some d, some g => (UInt8.ofNat (16 * d + g), 3)
  | _, _ => (0, 0)
def strkX : List UInt8 → UInt8 × Nat
  | x :: y :: _ => dig2' (digN x.toNat) (digN y.toNat)
  | _ => (0, 0)
/-- What stands behind a stroke: a byte, and how many bytes it takes. -/
def strk : List UInt8 → UInt8 × Nat
  | [] => (0, 0)
  | b :: l =>
    if b.toNat = 92 ∨ b.toNat = 34 then (b, 1) else if b.toNat = 110 then (10, 1) else if b.toNat = 116 then (9, 1)
    else if b.toNat = 120 then strkX l else (0, 0)
theorem strk_cons (b : UInt8) (l : List UInt8) : strk (b :: l) = if b.toNat = 92 ∨ b.toNat = 34 then (b, 1) else if b.toNat = 110 then (10, 1) else if b.toNat = 116 then (9, 1)
    else if b.toNat = 120 then strkX l else (0, 0) := rfl

theorem run_st (a : List UInt8) (ws : List (List UInt8)) (b : UInt8) (l : List UInt8) : run (.st a) ws (b :: l) = goOn (stp (.st a) ws b.toNat [b]) l := by
  rw [run_cons, if_neg (by simp [mayEnd])]
theorem run_hi (a : List UInt8) (ws : List (List UInt8)) (b : UInt8) (l : List UInt8) : run (.hi a) ws (b :: l) = goOn (stp (.hi a) ws b.toNat [b]) l := by
  rw [run_cons, if_neg (by simp [mayEnd])]
theorem run_lo (a : List UInt8) (d : Nat) (ws : List (List UInt8)) (b : UInt8) (l : List UInt8) : run (.lo a d) ws (b :: l) = goOn (stp (.lo a d) ws b.toNat [b]) l := by
  rw [run_cons, if_neg (by simp [mayEnd])]
theorem run_qu (a : List UInt8) (ws : List (List UInt8)) (b : UInt8) (l : List UInt8) : run (.qu a) ws (b :: l) = goOn (stp (.qu a) ws b.toNat [b]) l := by
  rw [run_cons, if_neg (by simp [mayEnd])]

theorem strk_spec : ∀ (l : List UInt8), ((strk l).2 = 0 ∧ ∀ a ws, run (.st a) ws l = none) ∨ (1 ≤ (strk l).2 ∧ (strk l).2 ≤ l.length ∧ ∀ a ws, run (.st a) ws l = run (.qu (a ++ [(strk l).1])) ws (l.drop (strk l).2))
  | [] => .inl ⟨rfl, fun a ws => by rw [run_nil]; rfl⟩
  | b :: l => by
    by_cases h1 : b.toNat = 92 ∨ b.toNat = 34
    · refine .inr ?_
      have e : strk (b :: l) = (b, 1) := by rw [strk_cons, if_pos h1]
      rw [e]
      refine ⟨Nat.le_refl _, by simp, fun a ws => ?_⟩
      rw [run_st]
      simp only [stp]
      rw [if_pos h1, UInt8.ofNat_toNat]
      rfl
    · by_cases h2 : b.toNat = 110
      · refine .inr ?_
        have e : strk (b :: l) = (10, 1) := by rw [strk_cons, if_neg h1, if_pos h2]
        rw [e]
        refine ⟨Nat.le_refl _, by simp, fun a ws => ?_⟩
        rw [run_st]
        simp only [stp]
        rw [if_neg h1, if_pos h2]
        rfl
      · by_cases h3 : b.toNat = 116
        · refine .inr ?_
          have e : strk (b :: l) = (9, 1) := by rw [strk_cons, if_neg h1, if_neg h2, if_pos h3]
          rw [e]
          refine ⟨Nat.le_refl _, by simp, fun a ws => ?_⟩
          rw [run_st]
          simp only [stp]
          rw [if_neg h1, if_neg h2, if_pos h3]
          rfl
        · by_cases h4 : b.toNat = 120
          · have r0 : ∀ a ws, run (.st a) ws (b :: l) = run (.hi a) ws l := fun a ws => by
              rw [run_st]
              simp only [stp]
              rw [if_neg h1, if_neg h2, if_neg h3, if_pos h4]
              rfl
            have e : strk (b :: l) = strkX l := by rw [strk_cons, if_neg h1, if_neg h2, if_neg h3, if_pos h4]
            rw [e]
            cases l with
            | nil => exact .inl ⟨rfl, fun a ws => by rw [r0, run_nil]; rfl⟩
            | cons x l =>
              have r1 : ∀ a ws, run (.st a) ws (b :: x :: l) = goOn ((digN x.toNat).map fun d => (St.lo a d, ws)) l := fun a ws => by rw [r0, run_hi]; rfl
              cases l with
              | nil =>
                refine .inl ⟨rfl, fun a ws => ?_⟩
                rw [r1]
                cases digN x.toNat with
                | none => rfl
                | some d => simp only [Option.map_some, goOn, run_nil]; rfl
              | cons y l =>
                cases hx : digN x.toNat with
                | none => exact .inl ⟨by simp only [strkX, hx]; rfl, fun a ws => by rw [r1, hx]; rfl⟩
                | some d =>
                  have r2 : ∀ a ws, run (.st a) ws (b :: x :: y :: l) = goOn ((digN y.toNat).map fun g => (St.qu (a ++ [UInt8.ofNat (16 * d + g)]), ws)) l := fun a ws => by
                    rw [r1, hx]
                    simp only [Option.map_some, goOn]
                    rw [run_lo]
                    rfl
                  cases hy : digN y.toNat with
                  | none => exact .inl ⟨by simp only [strkX, hx, hy]; rfl, fun a ws => by rw [r2, hy]; rfl⟩
                  | some g =>
                    have e2 : strkX (x :: y :: l) = (UInt8.ofNat (16 * d + g), 3) := by simp only [strkX, hx, hy]; rfl
                    rw [e2]
                    exact .inr ⟨by show 1 ≤ 3; omega, by simp, fun a ws => by rw [r2, hy]; rfl⟩
          · have e : strk (b :: l) = (0, 0) := by
              rw [strk_cons, if_neg h1, if_neg h2, if_neg h3, if_neg h4]
            rw [e]
            refine .inl ⟨rfl, fun a ws => ?_⟩
            rw [run_st]
            simp only [stp]
            rw [if_neg h1, if_neg h2, if_neg h3, if_neg h4]
            rfl

def StQ (w : World) (o : UInt8 × Nat) (e : Ending) (w' : World) : Prop := e = .returned (.tuple #[.int .u8 (o.1.toNat : Int), .int .i64 o.2]) ∧ ∃ n, w' = w.drewN n

set_option maxRecDepth 100000 in
set_option maxHeartbeats 2000000 in
theorem stroked_any (s : ByteArray) (w : World) : Calls Try.prog 23 #[.string s] w (StQ w (strk (bs s))) := by
  by_cases h0 : 0 < s.size
  · have hd := bs_drop s h0
    rw [List.drop_zero] at hd
    obtain ⟨b, hb⟩ : ∃ b, b = s[0] := ⟨_, rfl⟩
    rw [← hb] at hd
    have z0 : ((s.size : Int) == 0) = false := by rw [beq_eq_false_iff_ne]; omega
    have i0 : ∀ w, (Instr.index 9 (.string s) (.int .i64 0)).run Try.prog w = .ok (.int .u8 (b.toNat : Int)) w := fun w => by rw [hb]; exact ix_at s h0 w
    clear hb
    rw [hd]
    by_cases h1 : b.toNat = 92 ∨ b.toNat = 34
    · have e : strk (b :: (bs s).drop (0 + 1)) = (b, 1) := by rw [strk_cons, if_pos h1]
      rw [e]
      rcases h1 with h1 | h1
      all_goals
        rw [h1] at i0
        have H : Hid (b.toNat = _) := h1
        clear h1 e hd
        go_enter Try.func23, Try.ntmps23
        go_wp2_with fail
        go_ret2
        exact ⟨by rw [H.out]; rfl, 0, rfl⟩
    · have n1 : ((b.toNat : Int) == 92) = false := by simp; omega
      have n2 : ((b.toNat : Int) == 34) = false := by simp; omega
      by_cases h2 : b.toNat = 110
      · have e : strk (b :: (bs s).drop (0 + 1)) = (10, 1) := by rw [strk_cons, if_neg h1, if_pos h2]
        rw [e]
        rw [h2] at i0
        clear h1 e hd n1 n2 h2
        go_enter Try.func23, Try.ntmps23
        go_wp2_with fail
        go_ret2
        exact ⟨rfl, 0, rfl⟩
      · by_cases h3 : b.toNat = 116
        · have e : strk (b :: (bs s).drop (0 + 1)) = (9, 1) := by rw [strk_cons, if_neg h1, if_neg h2, if_pos h3]
          rw [e]
          rw [h3] at i0
          clear h1 e hd n1 n2 h2 h3
          go_enter Try.func23, Try.ntmps23
          go_wp2_with fail
          go_ret2
          exact ⟨rfl, 0, rfl⟩
        · have n3 : ((b.toNat : Int) == 110) = false := by simp; omega
          have n4 : ((b.toNat : Int) == 116) = false := by simp; omega
          by_cases h4 : b.toNat = 120
          · have e : strk (b :: (bs s).drop (0 + 1)) = strkX ((bs s).drop 1) := by rw [strk_cons, if_neg h1, if_neg h2, if_neg h3, if_pos h4]
            rw [e]
            rw [h4] at i0
            clear h1 h2 h3 h4 n1 n2 n3 n4 e hd
            by_cases h5 : 3 ≤ s.size
            · have d1 := bs_drop s (i := 1) (by omega)
              have d2 := bs_drop s (i := 2) (by omega)
              obtain ⟨x, hx⟩ : ∃ x, x = s[1] := ⟨_, rfl⟩
              obtain ⟨y, hy⟩ : ∃ y, y = s[2] := ⟨_, rfl⟩
              have i1 : ∀ w, (Instr.index 9 (.string s) (.int .i64 1)).run Try.prog w = .ok (.int .u8 (x.toNat : Int)) w := fun w => by rw [hx]; exact ix_at s (i := 1) (by omega) w
              have i2 : ∀ w, (Instr.index 9 (.string s) (.int .i64 2)).run Try.prog w = .ok (.int .u8 (y.toNat : Int)) w := fun w => by rw [hy]; exact ix_at s (i := 2) (by omega) w
              rw [← hx, d2, ← hy] at d1
              rw [d1]
              have z3 : (decide ((s.size : Int) < 3)) = false := by simp; omega
              have z4 : (decide (3 ≤ (s.size : Int))) = true := by simp; omega
              have D1 := fun w => digit_any x.toNat w x.toNat_lt
              have D2 := fun w => digit_any y.toNat w y.toNat_lt
              have e3 : strkX (x :: y :: (bs s).drop (2 + 1)) = dig2' (digN x.toNat) (digN y.toNat) := rfl
              rw [e3]
              clear d1 d2 hx hy e3
              cases gx : digN x.toNat with
              | none =>
                rw [gx] at D1
                have E1 : Hid (∀ w, Calls Try.prog 27 #[.int .u8 (x.toNat : Int)] w fun e w' => e = .returned (.int .i64 (-1)) ∧ w = w') := D1
                clear D1 D2 gx
                go_enter Try.func23, Try.ntmps23
                go_wp2_with (go_at_call 27; refine Calls.mono (E1.out _) ?_; rintro e w1 ⟨rfl, rfl⟩)
                go_ret2
                exact ⟨rfl, 0, rfl⟩
              | some d =>
                rw [gx] at D1
                have E1 : Hid (∀ w, Calls Try.prog 27 #[.int .u8 (x.toNat : Int)] w fun e w' => e = .returned (.int .i64 (d : Int)) ∧ w = w') := D1
                have hd16 := digN_lt gx
                cases gy : digN y.toNat with
                | none =>
                  rw [gy] at D2
                  have E2 : Hid (∀ w, Calls Try.prog 27 #[.int .u8 (y.toNat : Int)] w fun e w' => e = .returned (.int .i64 (-1)) ∧ w = w') := D2
                  clear D1 D2 gx gy
                  go_enter Try.func23, Try.ntmps23
                  go_wp2_with (first | (go_at_call 27; refine Calls.mono (E1.out _) ?_; rintro e w1 ⟨rfl, rfl⟩; clear E1) | (go_at_call 27; refine Calls.mono (E2.out _) ?_; rintro e w1 ⟨rfl, rfl⟩))
                  go_ret2
                  exact ⟨rfl, 0, rfl⟩
                | some g =>
                  rw [gy] at D2
                  have E2 : Hid (∀ w, Calls Try.prog 27 #[.int .u8 (y.toNat : Int)] w fun e w' => e = .returned (.int .i64 (g : Int)) ∧ w = w') := D2
                  have hg16 := digN_lt gy
                  have F1 : Hid _ := E1.out
                  have F2 : Hid _ := E2.out
                  clear D1 D2 gx gy
                  go_enter Try.func23, Try.ntmps23
                  go_upto_region 13 with (first | (go_at_call 27; refine Calls.mono (E1.out _) ?_; rintro e w1 ⟨rfl, rfl⟩; clear E1) | (go_at_call 27; refine Calls.mono (E2.out _) ?_; rintro e w1 ⟨rfl, rfl⟩))
                  refine wp_region_held_drew (S := fun _ => True) (by kernel_rfl) trivial (fun hS => ?_)
                  refine wpAnyH_take (i := 0) (v := .string s) rfl (by kernel_rfl) (by kernel_rfl) (by kernel_rfl) (fun _ _ _ h => h) (Or.inl ⟨by rfl, fun w' _ => by go_simp⟩) trivial ?_
                  refine wpAnyH_take (i := 1) (v := .int .u8 (x.toNat : Int)) rfl (by kernel_rfl) (by kernel_rfl) (by kernel_rfl) (fun _ _ _ h => h) (Or.inl ⟨by rfl, fun w' _ => by go_simp⟩) trivial ?_
                  refine wpAnyH_take (i := 4) (v := .string s) rfl (by kernel_rfl) (by kernel_rfl) (by kernel_rfl) (fun _ _ _ h => h) (Or.inl ⟨by rfl, fun w' _ => by go_simp⟩) trivial ?_
                  refine wpAnyH_take (i := 5) (v := .int .u8 (y.toNat : Int)) rfl (by kernel_rfl) (by kernel_rfl) (by kernel_rfl) (fun _ _ _ h => h) (Or.inl ⟨by rfl, fun w' _ => by go_simp⟩) trivial ?_
                  refine wpAnyH_ready (rs := [2]) (by kernel_rfl) (by simp) ?_
                  refine AllReadyH.cons rfl (fun K hK => ?_) AllReadyH.nil
                  go_simp
                  refine Calls.mono (F1.out _) ?_
                  rintro e w1 ⟨rfl, rfl⟩
                  refine hK.out _ _ trivial (fun _ => ?_)
                  clear hK K
                  refine wpAnyH_take (i := 3) (v := .int .i64 (16 * (d : Int))) rfl (by kernel_rfl) (by kernel_rfl) (by kernel_rfl) (fun _ _ _ h => h) (Or.inl ⟨by rfl, fun w' _ => by go_simp; exact IntWalk.i64_in _ (by omega)⟩) trivial ?_
                  refine wpAnyH_ready (rs := [6]) (by kernel_rfl) (by simp) ?_
                  refine AllReadyH.cons rfl (fun K hK => ?_) AllReadyH.nil
                  go_simp
                  refine Calls.mono (F2.out _) ?_
                  rintro e w1 ⟨rfl, rfl⟩
                  refine hK.out _ _ trivial (fun _ => ?_)
                  clear hK K
                  refine wpAnyH_take (i := 7) (v := .int .i64 (16 * (d : Int) + (g : Int))) rfl (by kernel_rfl) (by kernel_rfl) (by kernel_rfl) (fun _ _ _ h => h) (Or.inl ⟨by rfl, fun w' _ => by go_simp; exact IntWalk.i64_in _ (by omega)⟩) trivial ?_
                  refine wpAnyH_take (i := 8) (v := .int .u8 (16 * (d : Int) + (g : Int))) rfl (by kernel_rfl) (by kernel_rfl) (by kernel_rfl) (fun _ _ _ h => h) (Or.inl ⟨by rfl, fun w' _ => by go_simp; exact IntWalk.u8_in _ (by omega)⟩) trivial ?_
                  refine wpAnyH_ready (rs := [9]) (by kernel_rfl) (by simp) ?_
                  refine AllReadyH.cons rfl (fun K hK => ?_) AllReadyH.nil
                  go_simp
                  refine hK.out _ _ trivial (fun _ => ?_)
                  clear hK K
                  refine wpAnyH_ready (rs := [10]) (by kernel_rfl) (by simp) ?_
                  refine AllReadyH.cons rfl (fun K hK => ?_) AllReadyH.nil
                  go_simp
                  refine hK.out _ _ trivial (fun _ => ?_)
                  clear hK K
                  refine wpAnyH_done (by kernel_rfl) ?_ _
                  clear F1 F2 i0 i1 i2
                  go_wp2_with fail
                  go_ret2
                  refine ⟨?_, 1, rfl⟩
                  have q : (16 * (d : Int) + (g : Int)) = ((UInt8.ofNat (16 * d + g)).toNat : Int) := by
                    rw [UInt8.toNat_ofNat', Nat.mod_eq_of_lt (by omega)]
                    omega
                  show Ending.returned (.tuple #[.int .u8 (16 * (d : Int) + (g : Int)), .int .i64 3]) = .returned (.tuple #[.int .u8 ((UInt8.ofNat (16 * d + g)).toNat : Int), .int .i64 3])
                  rw [q]
            · have z3 : (decide (3 ≤ (s.size : Int))) = false := by simp; omega
              have e3 : strkX ((bs s).drop 1) = (0, 0) := by
                have hl : ((bs s).drop 1).length < 2 := by rw [List.length_drop, bs_length]; omega
                generalize (bs s).drop 1 = q at hl
                match q, hl with
                | [], _ => rfl
                | [_], _ => rfl
                | _ :: _ :: _, hl => simp at hl; omega
              rw [e3]
              clear e3
              go_enter Try.func23, Try.ntmps23
              go_wp2_with fail
              go_ret2
              exact ⟨rfl, 0, rfl⟩
          · have n5 : ((b.toNat : Int) == 120) = false := by simp; omega
            have e : strk (b :: (bs s).drop (0 + 1)) = (0, 0) := by
              rw [strk_cons, if_neg h1, if_neg h2, if_neg h3, if_neg h4]
            rw [e]
            clear h1 e hd h2 h3 h4
            go_enter Try.func23, Try.ntmps23
            go_wp2_with fail
            go_ret2
            exact ⟨rfl, 0, rfl⟩
  · have hz : bs s = [] := List.eq_nil_of_length_eq_zero (by rw [bs_length]; omega)
    have z0 : ((s.size : Int) == 0) = true := by rw [beq_iff_eq]; omega
    rw [hz]
    clear hz
    go_enter Try.func23, Try.ntmps23
    go_wp2_with fail
    go_ret2
    exact ⟨rfl, 0, rfl⟩
end Go.Proofs.Ytnmlhlgeacdcgaa
