/-
  The reference: Words.
-/
import Derived.Test.YtnmlhlgeacdcgaaCwS
namespace Go.Proofs.Ytnmlhlgeacdcgaa
open Go.RowKit

/-- One word more. -/
theorem app_moreS {w V : World} {A : Option Addr} {n c : Nat} {t : List (List UInt8)} (h : SL V w.heap.size (.slice A n c) t) (hc : Chg (fun _ => False) w V) (hl : t.length ≤ 65536) (x : List UInt8) :
    ∃ A' n' c' w2, (Builtin.append_ #[24, 24] 24 #[.slice A n c, .slice (some ⟨V.heap.size, 0, none⟩) 1 1]).run Try.prog (V.alloc (.cells #[.string ⟨x.toArray⟩] 9)) = .ok (.slice A' n' c') w2 ∧ SL w2 w.heap.size (.slice A' n' c') (t ++ [x]) ∧ Chg (fun _ => False) w w2 := by
  have c1 : Chg (fun _ => False) V (V.alloc (.cells #[.string ⟨x.toArray⟩] 9)) := (Chg.refl _ _).alloc _
  have x1 : (V.alloc (.cells #[.string ⟨x.toArray⟩] 9)).cell? ⟨V.heap.size, 0, none⟩ = some (.string ⟨x.toArray⟩) := (Blk.made V [.string ⟨x.toArray⟩] 9).cell 0
  obtain ⟨v', w2, r1, r2, r3, _⟩ := app_str (h.kept c1 (fun _ _ e => e)) (Nat.le_trans hc.size c1.size) x (c := 1) x1 (by omega) 24
  obtain ⟨A', c', rfl⟩ := own_form r2
  exact ⟨A', _, c', w2, r1, r2, (hc.trans c1 (fun _ e => e.elim)).trans r3 (fun i e => .inr (own_block h e.symm).1)⟩

/-- The loop's state. -/
structure LR (w wr : World) (s : ByteArray) (R : Option (List (List UInt8))) (v : Value) (ws : List (List UInt8)) (i : Nat) : Prop where
  sl : SL wr w.heap.size v ws
  lt : ws.length ≤ i
  le : i ≤ s.size
  eq : run .bt ws ((bs s).drop i) = R
  ch : Chg (fun _ => False) w wr

theorem run_blank (ws : List (List UInt8)) (b : UInt8) (l : List UInt8) (h : blankN b.toNat = true) : run .bt ws (b :: l) = run .bt ws l := by
  have h35 : ¬ b.toNat = 35 := fun e => by rw [e] at h; cases h
  rw [run_cons, if_neg (fun e => h35 e.1)]
  simp only [stp, h, if_true, goOn]
theorem run_en_bt (ws : List (List UInt8)) (b : UInt8) (l : List UInt8) (h : blankN b.toNat = true ∨ b.toNat = 35) : run .en ws (b :: l) = run .bt ws (b :: l) := by
  rcases h with h | h
  · have h35 : ¬ b.toNat = 35 := fun e => by rw [e] at h; cases h
    rw [run_cons, run_cons, if_neg (fun e => h35 e.1), if_neg (fun e => h35 e.1)]
    simp only [stp, h, if_true]
  · rw [run_cons, run_cons, if_pos ⟨h, rfl⟩, if_pos ⟨h, rfl⟩]
theorem run_en_no (ws : List (List UInt8)) (b : UInt8) (l : List UInt8) (h : blankN b.toNat = false) (h35 : ¬ b.toNat = 35) : run .en ws (b :: l) = none := by
  rw [run_cons, if_neg (fun e => h35 e.1)]
  simp only [stp, h, goOn, Bool.false_eq_true, if_false]
theorem run_wd_blank (a : List UInt8) (ws : List (List UInt8)) (b : UInt8) (l : List UInt8) (h : blankN b.toNat = true) : run (.wd a) ws (b :: l) = run .bt (ws ++ [a]) (b :: l) := by
  rw [run_blank _ _ _ h, run_cons, if_neg (by simp [mayEnd])]
  simp only [stp, h, if_true, goOn]
theorem run_wd_quote (a : List UInt8) (ws : List (List UInt8)) (b : UInt8) (l : List UInt8) (h : b.toNat = 34) : run (.wd a) ws (b :: l) = none := by
  have hb : blankN 34 = false := rfl
  rw [run_cons, if_neg (by simp [mayEnd])]
  simp only [stp, hb, h, if_true, goOn, Bool.false_eq_true, if_false]
theorem run_wd_more (a : List UInt8) (ws : List (List UInt8)) (b : UInt8) (l : List UInt8) (h : blankN b.toNat = false) (h2 : ¬ b.toNat = 34) : run (.wd a) ws (b :: l) = run (.wd (a ++ [b])) ws l := by
  rw [run_cons, if_neg (by simp [mayEnd])]
  simp only [stp, h, h2, goOn, Bool.false_eq_true, if_false]
theorem run_bt_quote (ws : List (List UInt8)) (b : UInt8) (l : List UInt8) (h : b.toNat = 34) : run .bt ws (b :: l) = run (.qu []) ws l := by
  have hb : blankN 34 = false := rfl
  rw [run_cons, if_neg (by omega)]
  simp only [stp, hb, h, if_true, goOn, Bool.false_eq_true, if_false]
theorem cut_one (s : ByteArray) {i j : Nat} (h : i ≤ j) (hj : j < s.size) : cut s i (j + 1) = cut s i j ++ [s[j]] := by
  have e : cut s j (j + 1) = [s[j]] := by
    unfold cut
    rw [bs_drop s hj]
    simp
  rw [← cut_cut s h (Nat.le_succ j), e]

set_option maxRecDepth 100000 in
set_option maxHeartbeats 8000000 in
theorem refWords_any (s : ByteArray) (w : World) : Calls Try.prog 7 #[.string s] w (WdQ w (wds s)) := by
  by_cases hsz : s.size ≤ 65536
  · obtain ⟨R, hR⟩ : ∃ R, R = run .bt [] (bs s) := ⟨_, rfl⟩
    have hw : wds s = wdsO R := by unfold wds; rw [if_pos hsz, hR]
    rw [hw]
    have L0 : Hid (LR w w s R (.slice none 0 0) [] 0) := ⟨SL.nil _ _, Nat.le_refl _, Nat.zero_le _, by rw [List.drop_zero, hR], Chg.refl _ _⟩
    have hs8 : (decide (65536 < (s.size : Int))) = false := by simp; omega
    clear hw hR
    go_enter Try.func7, Try.ntmps7
    go_wp2_with fail
    go_loopw [4, 5] (fun v x wr => ∃ ws i, x = .int .i64 (i : Nat) ∧ LR w wr s R v ws i) (fun _ x _ => s.size - (intOf x).toNat)
    case atStart => exact ⟨[], 0, rfl, L0.out⟩
    case round =>
      clear L0
      obtain ⟨ws, i, rfl, L⟩ := hrel
      obtain ⟨A, c, rfl⟩ := own_form L.sl
      obtain ⟨n, hn⟩ : ∃ n, n = ws.length := ⟨_, rfl⟩
      rw [← hn] at L ⊢
      clear hn
      have HL : Hid _ := L
      have lle := L.le
      have llt := L.lt
      clear L
      by_cases hp : i < s.size
      · have hd := bs_drop s hp
        obtain ⟨b, hb⟩ : ∃ b, b = s[i] := ⟨_, rfl⟩
        have ix : ∀ w, (Instr.index 9 (.string s) (.int .i64 i)).run Try.prog w = .ok (.int .u8 (b.toNat : Int)) w := fun w => by rw [hb]; exact ix_at s hp w
        have HBI : Hid _ := hb
        rw [← hb] at hd
        have HD : Hid _ := hd
        have zi : (decide ((i : Int) < (s.size : Int))) = true := by simp; omega
        have zj : (decide ((s.size : Int) ≤ (i : Int))) = false := by simp; omega
        clear hb hd
        by_cases q1 : b.toNat = 35
        · rw [q1] at ix
          have RN : Hid (R = some ws) := by
            have := HL.out.eq
            rw [HD.out, run_cons, if_pos ⟨q1, rfl⟩] at this
            exact this.symm
          clear q1
          go_wp2_with fail
          go_ret2
          rw [RN.out]
          exact ⟨A, n, c, rfl, HL.out.sl, HL.out.ch⟩
        · have n1 : ((b.toNat : Int) != 35) = true := by simp; omega
          have BC := blank_any b.toNat
          cases q2 : blankN b.toNat with
          | true =>
            rw [q2] at BC
            have BL1 : Hid _ := BC
            have NX : Hid (LR w wr s R (.slice A n c) ws (i + 1)) := ⟨HL.out.sl, by omega, by omega, by rw [← HL.out.eq, HD.out, run_blank _ _ _ q2], HL.out.ch⟩
            clear q1 q2 BC
            go_wp2_with (go_at_call 13; refine Calls.mono (BL1.out _) ?_; rintro e w1 ⟨rfl, rfl⟩)
            go_roundw
            case rel => exact ⟨_, i + 1, by go_num, NX.out⟩
            case measure => simp [intOf]; omega
          | false =>
            rw [q2] at BC
            have BL1 : Hid _ := BC
            clear BC
            by_cases q3 : b.toNat = 34
            · rw [q3] at ix n1 BL1
              have sl : ∀ w, (Instr.slice 9 (.string s) (some (.int .i64 (i : Int))) none none).run Try.prog w = .ok (.string (s.extract i s.size)) w := fun w => sl_from s lle w
              have es : (s.extract i s.size).size = s.size - i := by rw [← bs_length, bs_from, List.length_drop, bs_length]
              have QC : Hid (∀ w, Calls Try.prog 14 #[.string (s.extract i s.size)] w (QtP w (s.extract i s.size))) := fun w => quoted_any _ w (by omega) (by omega)
              have R34 : Hid (R = run (.qu []) ws ((bs (s.extract i s.size)).drop 1)) := by
                show R = _
                rw [← HL.out.eq, HD.out, run_bt_quote _ _ _ q3, bs_from, List.drop_drop]
              clear q1 q2
              go_upto_region 10 with (first | (go_at_call 13; refine Calls.mono (BL1.out _) ?_; rintro e w1 ⟨rfl, rfl⟩; clear BL1) | (go_at_call 14; refine Calls.mono (QC.out _) ?_; rintro e w1 ⟨x, m, rfl, hch, hm, hor⟩))
              have CH1 : Hid (Chg (fun _ => False) w w1) := HL.out.ch.trans hch (fun _ e => e.elim)
              have SL1 : Hid (SL w1 w.heap.size (.slice A n c) ws) := SL.kept HL.out.sl hch (fun _ _ e => e)
              rw [es] at hm
              rcases hor with ⟨rfl, hr⟩ | ⟨h2, hr⟩
              · have RN : Hid (R = none) := by show R = none; rw [R34.out, hr]
                clear hr hch hm QC R34 es
                go_wp2_with fail
                go_ret2
                rw [RN.out]
                exact ⟨none, 0, 0, rfl, SL.nil _ _, CH1.out⟩
              · have RE : Hid (R = run .en (ws ++ [x]) ((bs s).drop (i + m))) := by
                  show R = _
                  rw [R34.out, hr, bs_from, List.drop_drop]
                obtain ⟨A', n', c', w2, r1, r2, r3⟩ := app_moreS SL1.out CH1.out (by omega) x
                have R1 : Hid _ := r1
                have S1 : Hid _ := And.intro r2 r3
                obtain ⟨j, hj⟩ : ∃ j, j = i + m := ⟨_, rfl⟩
                have JJ : Hid ((i : Int) + (m : Int) = (j : Int)) := by show (i : Int) + (m : Int) = (j : Int); omega
                have hji : i + 2 ≤ j := by omega
                have hjs : j ≤ s.size := by omega
                have him : i + m ≤ 65536 := by omega
                have m0 : ((m : Int) == 0) = false := by rw [beq_eq_false_iff_ne]; omega
                rw [← hj] at RE
                clear hr hch hm QC R34 es r1 r2 r3 hj h2
                go_upto_region 11 with fail
                rw [JJ.out]
                clear JJ him
                by_cases hp2 : j < s.size
                · have hd2 := bs_drop s hp2
                  obtain ⟨b2, hb2⟩ : ∃ b2, b2 = s[j] := ⟨_, rfl⟩
                  have ix2 : ∀ w, (Instr.index 9 (.string s) (.int .i64 j)).run Try.prog w = .ok (.int .u8 (b2.toNat : Int)) w := fun w => by rw [hb2]; exact ix_at s hp2 w
                  rw [← hb2] at hd2
                  have zi2 : (decide ((j : Int) < (s.size : Int))) = true := by simp; omega
                  have BC2 := blank_any b2.toNat
                  cases q4 : blankN b2.toNat with
                  | true =>
                    rw [q4] at BC2
                    have BL2 : Hid _ := BC2
                    have NX : Hid (LR w w2 s R (.slice A' n' c') (ws ++ [x]) j) := ⟨S1.out.1, by simp; omega, hjs, by rw [RE.out, hd2, run_en_bt _ _ _ (.inl q4)], S1.out.2⟩
                    clear BC2 hb2 hd2 q4
                    go_wp2_with (first | (go_at_call 13; refine Calls.mono (BL2.out _) ?_; rintro e w3 ⟨rfl, rfl⟩) | (refine wpList_appG (sl := 24) (su := 24) rfl (.tmp 63) (.tmp 65) rfl (v := .slice A n c) (u := .slice (some ⟨w1.heap.size, 0, none⟩) 1 1) (v' := .slice A' n' c') (w' := w2) rfl rfl R1.out ?_))
                    go_roundw
                    case rel => exact ⟨_, j, rfl, NX.out⟩
                    case measure => simp [intOf]; omega
                  | false =>
                    rw [q4] at BC2
                    have BL2 : Hid _ := BC2
                    by_cases q5 : b2.toNat = 35
                    · have NX : Hid (LR w w2 s R (.slice A' n' c') (ws ++ [x]) j) := ⟨S1.out.1, by simp; omega, hjs, by rw [RE.out, hd2, run_en_bt _ _ _ (.inr q5)], S1.out.2⟩
                      rw [q5] at ix2 BL2
                      clear BC2 hb2 hd2 q4 q5
                      go_wp2_with (first | (go_at_call 13; refine Calls.mono (BL2.out _) ?_; rintro e w3 ⟨rfl, rfl⟩) | (refine wpList_appG (sl := 24) (su := 24) rfl (.tmp 63) (.tmp 65) rfl (v := .slice A n c) (u := .slice (some ⟨w1.heap.size, 0, none⟩) 1 1) (v' := .slice A' n' c') (w' := w2) rfl rfl R1.out ?_))
                      go_roundw
                      case rel => exact ⟨_, j, rfl, NX.out⟩
                      case measure => simp [intOf]; omega
                    · have n5 : ((b2.toNat : Int) != 35) = true := by simp; omega
                      have RN : Hid (R = none) := by show R = none; rw [RE.out, hd2, run_en_no _ _ _ q4 q5]
                      clear BC2 hb2 hd2 q4 q5 RE R1 S1
                      go_wp2_with (go_at_call 13; refine Calls.mono (BL2.out _) ?_; rintro e w3 ⟨rfl, rfl⟩)
                      go_ret2
                      rw [RN.out]
                      exact ⟨none, 0, 0, rfl, SL.nil _ _, CH1.out⟩
                · have zi2 : (decide ((j : Int) < (s.size : Int))) = false := by simp; omega
                  have NX : Hid (LR w w2 s R (.slice A' n' c') (ws ++ [x]) j) := ⟨S1.out.1, by simp; omega, hjs, by
                    rw [RE.out, List.drop_of_length_le (by rw [bs_length]; omega), run_nil, run_nil]
                    rfl, S1.out.2⟩
                  go_wp2_with (refine wpList_appG (sl := 24) (su := 24) rfl (.tmp 63) (.tmp 65) rfl (v := .slice A n c) (u := .slice (some ⟨w1.heap.size, 0, none⟩) 1 1) (v' := .slice A' n' c') (w' := w2) rfl rfl R1.out ?_)
                  go_roundw
                  case rel => exact ⟨_, j, rfl, NX.out⟩
                  case measure => simp [intOf]; omega
            · have n3 : ((b.toNat : Int) == 34) = false := by rw [beq_eq_false_iff_ne]; omega
              have RW : Hid (R = run (.wd []) ws ((bs s).drop i)) := by
                show R = _
                rw [← HL.out.eq, HD.out, run_bt_wd _ _ _ q2 q3 q1]
              have QQ : Hid (blankN b.toNat = false ∧ ¬ b.toNat = 34) := ⟨q2, q3⟩
              clear q1 q2 q3
              go_upto_region 14 with (go_at_call 13; refine Calls.mono (BL1.out _) ?_; rintro e w1 ⟨rfl, rfl⟩)
              go_wp2_with fail
              clear BL1 ix zi zj
              go_loopw [5] (fun x wr2 => ∃ j : Nat, x = .int .i64 (j : Int) ∧ wr2 = wr ∧ i ≤ j ∧ j ≤ s.size ∧ R = run (.wd (cut s i j)) ws ((bs s).drop j)) (fun x _ => s.size - (intOf x).toNat)
              case atStart => exact ⟨i, rfl, rfl, Nat.le_refl _, lle, by rw [cut_same]; exact RW.out⟩
              case round =>
                clear RW
                obtain ⟨j, rfl, rfl, hij, hjs, hre⟩ := hrel
                have RE : Hid _ := hre
                clear hre
                by_cases hp2 : j < s.size
                · have hd2 := bs_drop s hp2
                  obtain ⟨b2, hb2⟩ : ∃ b2, b2 = s[j] := ⟨_, rfl⟩
                  have ix2 : ∀ w, (Instr.index 9 (.string s) (.int .i64 j)).run Try.prog w = .ok (.int .u8 (b2.toNat : Int)) w := fun w => by rw [hb2]; exact ix_at s hp2 w
                  have same : i = j → b = b2 := fun e => by subst e; rw [HBI.out, hb2]
                  have c1 := cut_one s hij hp2
                  rw [← hb2] at hd2 c1
                  have zi2 : (decide ((j : Int) < (s.size : Int))) = true := by simp; omega
                  have BC2 := blank_any b2.toNat
                  cases q4 : blankN b2.toNat with
                  | true =>
                    rw [q4] at BC2
                    have BL2 : Hid _ := BC2
                    have hlt : i < j := by
                      rcases Nat.lt_or_ge i j with h | h
                      · exact h
                      · have e := same (by omega); subst e; rw [QQ.out.1] at q4; cases q4
                    have n5 : ((b2.toNat : Int) == 34) = false := by
                      rw [beq_eq_false_iff_ne]
                      intro e
                      have e2 : b2.toNat = 34 := by omega
                      rw [e2] at q4
                      cases q4
                    have sc : ∀ w, (Instr.slice 9 (.string s) (some (.int .i64 (i : Int))) (some (.int .i64 (j : Int))) none).run Try.prog w = .ok (.string ⟨(cut s i j).toArray⟩) w := fun w => slice_cut w hij hjs
                    obtain ⟨A', n', c', w2, r1, r2, r3⟩ := app_moreS HL.out.sl HL.out.ch (by omega) (cut s i j)
                    have R1 : Hid _ := r1
                    have NX : Hid (LR w w2 s R (.slice A' n' c') (ws ++ [cut s i j]) j) := ⟨r2, by simp; omega, hjs, by rw [RE.out, hd2, run_wd_blank _ _ _ _ q4], r3⟩
                    clear BC2 hb2 hd2 q4 same c1 r1 r2 r3 RE
                    go_wp2_with (first | (go_at_call 13; refine Calls.mono (BL2.out _) ?_; rintro e w3 ⟨rfl, rfl⟩) | (refine wpList_appG (sl := 24) (su := 24) rfl (.tmp 97) (.tmp 102) rfl (v := .slice A n c) (u := .slice (some ⟨wr.heap.size, 0, none⟩) 1 1) (v' := .slice A' n' c') (w' := w2) rfl rfl R1.out ?_))
                    go_roundw
                    case rel => exact ⟨_, j, rfl, NX.out⟩
                    case measure => simp [intOf]; omega
                  | false =>
                    rw [q4] at BC2
                    have BL2 : Hid _ := BC2
                    by_cases q5 : b2.toNat = 34
                    · have RN : Hid (R = none) := by show R = none; rw [RE.out, hd2, run_wd_quote _ _ _ _ q5]
                      rw [q5] at ix2 BL2
                      clear BC2 hb2 hd2 q4 q5 same c1 RE
                      go_wp2_with (go_at_call 13; refine Calls.mono (BL2.out _) ?_; rintro e w3 ⟨rfl, rfl⟩)
                      go_ret2
                      rw [RN.out]
                      exact ⟨none, 0, 0, rfl, SL.nil _ _, HL.out.ch⟩
                    · have n5 : ((b2.toNat : Int) != 34) = true := by simp; omega
                      have NW : Hid (R = run (.wd (cut s i (j + 1))) ws ((bs s).drop (j + 1))) := by
                        show R = _
                        rw [RE.out, hd2, run_wd_more _ _ _ _ q4 q5, c1]
                      clear BC2 hb2 hd2 q4 q5 same c1 RE
                      go_wp2_with (go_at_call 13; refine Calls.mono (BL2.out _) ?_; rintro e w3 ⟨rfl, rfl⟩)
                      go_roundw
                      case rel => exact ⟨j + 1, by go_num, by trivial, by omega, by omega, NW.out⟩
                      case measure => simp [intOf]; omega
                · have zi2 : (decide ((j : Int) < (s.size : Int))) = false := by simp; omega
                  have hlt : i < j := by omega
                  have sc : ∀ w, (Instr.slice 9 (.string s) (some (.int .i64 (i : Int))) (some (.int .i64 (j : Int))) none).run Try.prog w = .ok (.string ⟨(cut s i j).toArray⟩) w := fun w => slice_cut w hij hjs
                  obtain ⟨A', n', c', w2, r1, r2, r3⟩ := app_moreS HL.out.sl HL.out.ch (by omega) (cut s i j)
                  have R1 : Hid _ := r1
                  have NX : Hid (LR w w2 s R (.slice A' n' c') (ws ++ [cut s i j]) j) := ⟨r2, by simp; omega, hjs, by
                    rw [RE.out, List.drop_of_length_le (by rw [bs_length]; omega), run_nil, run_nil]
                    rfl, r3⟩
                  clear r1 r2 r3 RE
                  go_wp2_with (refine wpList_appG (sl := 24) (su := 24) rfl (.tmp 97) (.tmp 102) rfl (v := .slice A n c) (u := .slice (some ⟨wr.heap.size, 0, none⟩) 1 1) (v' := .slice A' n' c') (w' := w2) rfl rfl R1.out ?_)
                  go_roundw
                  case rel => exact ⟨_, j, rfl, NX.out⟩
                  case measure => simp [intOf]; omega
      · have zi : (decide ((i : Int) < (s.size : Int))) = false := by simp; omega
        have RN : Hid (R = some ws) := by
          have := HL.out.eq
          rw [List.drop_of_length_le (by rw [bs_length]; omega), run_nil] at this
          exact this.symm
        go_wp2_with fail
        go_ret2
        rw [RN.out]
        exact ⟨A, n, c, rfl, HL.out.sl, HL.out.ch⟩
  · have hw : wds s = ([], 192) := by unfold wds; rw [if_neg hsz]
    rw [hw]
    have hs8 : (decide (65536 < (s.size : Int))) = true := by simp; omega
    clear hw
    go_enter Try.func7, Try.ntmps7
    go_wp2_with fail
    go_ret2
    exact ⟨none, 0, 0, rfl, SL.nil _ _, Chg.refl _ _⟩
end Go.Proofs.Ytnmlhlgeacdcgaa
