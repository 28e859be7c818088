/-
  console.Words.
-/
import Derived.Test.YtnmlhlgeacdcgaaCwH
namespace Go.Proofs.Ytnmlhlgeacdcgaa
open Go.RowKit

/-- What is answered: the words, and the error's number. -/
def wdsO : Option (List (List UInt8)) → List (List UInt8) × Int
  | none => ([], 191)
  | some l => (l, 0)
def wds (line : ByteArray) : List (List UInt8) × Int := if line.size ≤ 65536 then wdsO (run .bt [] (bs line)) else ([], 192)

/-- An answer of Words, in memory made since w. -/
def WdQ (w : World) (o : List (List UInt8) × Int) (e : Ending) (w' : World) : Prop := ∃ A n c, e = .returned (.tuple #[.slice A n c, .int .i64 o.2]) ∧ SL w' w.heap.size (.slice A n c) o.1 ∧ Chg (fun _ => False) w w'

theorem decode_one (s : ByteArray) (pos : Nat) (h : pos < s.size) (hc : (Utf8.decode s pos).1 < 128) : (Utf8.decode s pos).2 = 1 := by
  by_cases ha : (s[pos]'h).toNat < 128
  · rw [decode_ascii s pos h ha]
  · have := (decode_high s pos h (by omega)).1
    omega

/-- The loop's state. -/
structure LW (w : World) (X : Nat) (wr : World) (line : ByteArray) (R : Option (List (List UInt8))) (σ : St) (ws : List (List UInt8)) (pos : Nat) : Prop where
  it : wr.heap[X + 1]? = some (.stringIter line pos)
  cu : CU wr X X (X + 1) line σ ws pos
  le : pos ≤ line.size
  eq : run σ ws ((bs line).drop pos) = R
  ch : Chg (fun _ => False) w wr

theorem LW.pos {w wr : World} {X : Nat} {line : ByteArray} {R : Option (List (List UInt8))} {σ : St} {ws : List (List UInt8)} {pos : Nat} (h : LW w X wr line R σ ws pos) : wr.iterPos (X + 1) = pos := by
  simp [World.iterPos, h.it]

theorem At.kept {w w' : World} {B I : Nat} {line : ByteArray} {pos q : Nat} {wh fr : Int} {T : Value} {h : Int} {σ : St} (ha : At w B line pos wh fr T h σ) (hi : w.heap[I]? = some (.stringIter line q)) (c : Chg (fun k => k = I) w w') : At w' B line pos wh fr T h σ := by
  cases σ using St.cases with
  | bt => exact ha
  | en => exact ha
  | wd a => exact ha
  | qu a =>
    obtain ⟨h1, f, t, h2, h3, h4, h5⟩ := ha
    exact ⟨h1, f, t, h2, h3, h4.kept c (fun k hk => (own_ne h4 hi hk).2), h5⟩
  | st a => exact ⟨ha.1, ha.2.1.kept c (fun k hk => (own_ne ha.2.1 hi hk).2), ha.2.2⟩
  | hi a => exact ⟨ha.1, ha.2.1.kept c (fun k hk => (own_ne ha.2.1 hi hk).2), ha.2.2⟩
  | lo a d => exact ⟨ha.1, ha.2.1.kept c (fun k hk => (own_ne ha.2.1 hi hk).2), ha.2.2⟩
theorem CU.setIt {w : World} {B C I : Nat} {line : ByteArray} {σ : St} {ws : List (List UInt8)} {pos q q' : Nat} (h : CU w B C I line σ ws pos) (hi : w.heap[I]? = some (.stringIter line q)) : CU (setIt w I line q') B C I line σ ws pos := by
  obtain ⟨⟨W, wh, fr, T, g, hb, hW, hA⟩, lb, lw, _⟩ := h
  have c := setIt_chg w I line q'
  exact ⟨⟨W, wh, fr, T, g, hb.keep c (blk_ne hb hi), hW.kept c (fun k hk => (own_ne hW hi hk).2), hA.kept hi c⟩, lb, lw, q', setIt_at (Array.getElem?_eq_some_iff.1 hi).1⟩
theorem CU.mayEnd {w : World} {B C I : Nat} {line : ByteArray} {σ : St} {ws : List (List UInt8)} {pos : Nat} (h : CU w B C I line σ ws pos) :
    Calls Try.prog 10 #[.pointer (some ⟨C, 0, none⟩)] w fun e w' => e = .returned (.bool (mayEnd σ)) ∧ w = w' := by
  obtain ⟨⟨W, wh, fr, T, g, hb, hW, hA⟩, _⟩ := h
  have e : decide (wh = 0 ∨ wh = 6) = Go.Proofs.Ytnmlhlgeacdcgaa.mayEnd σ := by
    cases σ using St.cases with
    | bt => obtain rfl : wh = 0 := hA; rfl
    | en => obtain rfl : wh = 6 := hA; rfl
    | wd a => obtain ⟨rfl, _⟩ := hA; rfl
    | qu a => obtain ⟨rfl, _⟩ := hA; rfl
    | st a => obtain ⟨rfl, _⟩ := hA; rfl
    | hi a => obtain ⟨rfl, _⟩ := hA; rfl
    | lo a d => obtain ⟨rfl, _⟩ := hA; rfl
  rw [← e]
  exact mayEnd_any hb

set_option maxRecDepth 100000 in
set_option maxHeartbeats 4000000 in
theorem words_any (line : ByteArray) (w : World) : Calls Try.prog 6 #[.string line] w (WdQ w (wds line)) := by
  by_cases hsz : line.size ≤ 65536
  · obtain ⟨R, hR⟩ : ∃ R, R = run .bt [] (bs line) := ⟨_, rfl⟩
    have hw : wds line = wdsO R := by unfold wds; rw [if_pos hsz, hR]
    rw [hw]
    clear hw
    obtain ⟨X, hX⟩ : ∃ X, X = w.heap.size := ⟨_, rfl⟩
    obtain ⟨W0, hW0⟩ : ∃ W0, W0 = (w.alloc (.cells #[.string line, .slice none 0 0, .int .i64 0, .int .i64 0, .slice none 0 0, .int .u8 0] 35)).iter line 0 := ⟨_, rfl⟩
    have L0 : Hid (LW w X W0 line R .bt [] 0) := by
      have b0 : Blk W0 X (cuC line (.slice none 0 0) 0 0 (.slice none 0 0) 0) 35 := by rw [hW0, hX]; exact (Blk.made w _ 35).alloc _
      have i0 : W0.heap[X + 1]? = some (.stringIter line 0) := by
        have := heap_alloc_new (w.alloc (.cells #[.string line, .slice none 0 0, .int .i64 0, .int .i64 0, .slice none 0 0, .int .u8 0] 35)) (.stringIter line 0)
        rw [World.size_alloc] at this
        rw [hW0, hX]
        exact this
      refine ⟨i0, ⟨⟨_, 0, 0, _, 0, b0, SL.nil _ _, rfl⟩, Nat.le_refl _, Nat.le_refl _, 0, i0⟩, Nat.zero_le _, by rw [List.drop_zero, hR], by rw [hW0]; exact ((Chg.refl _ _).alloc _).alloc _⟩
    have HX : Hid (X = w.heap.size) := hX
    clear hR
    have hs8 : (decide (65536 < (line.size : Int))) = false := by simp; omega
    go_enter Try.func6, Try.ntmps6
    go_wp2_with fail
    rw [← hW0, ← hX]
    clear hW0 hX
    go_loopw [] (fun wr => ∃ σ ws pos, LW w X wr line R σ ws pos) (fun wr => line.size - wr.iterPos (X + 1))
    case atStart => exact ⟨_, _, _, L0.out⟩
    case round =>
      clear L0
      obtain ⟨σ, ws, pos, L⟩ := hrel
      have ZW : Hid (X ≤ wr.heap.size) := by have := L.ch.size; have := HX.out; show X ≤ wr.heap.size; omega
      by_cases hp : pos < line.size
      · obtain ⟨c, hc⟩ : ∃ c, c = (Utf8.decode line pos).1 := ⟨_, rfl⟩
        obtain ⟨k, hk⟩ : ∃ k, k = (Utf8.decode line pos).2 := ⟨_, rfl⟩
        obtain ⟨W1, hW1⟩ : ∃ W1, W1 = setIt wr (X + 1) line (pos + k) := ⟨_, rfl⟩
        have nx : ∀ ty, (Instr.next (.pointer (some ⟨X + 1, 0, none⟩)) true ty).run Try.prog wr = .ok (.tuple #[.bool true, .int .i64 pos, .int .i32 c]) W1 := fun ty => by rw [hW1, hc, hk]; exact next_at L.it hp ty
        obtain ⟨k1, k2⟩ := rune_width line pos hp
        have kc : c < 128 → k = 1 := fun h => by rw [hk]; exact decode_one line pos hp (by rw [← hc]; exact h)
        have c31 : c ≤ 2147483647 := by rw [hc]; exact decode_le line pos
        have re := run_rune σ ws line pos hp
        rw [← hc, ← hk, L.eq] at re
        rw [← hk] at k1 k2
        have u1 : CU W1 X X (X + 1) line σ ws pos := by rw [hW1]; exact L.cu.setIt L.it
        have ch1 : Chg (fun _ => False) w W1 := by rw [hW1]; exact L.ch.trans (setIt_chg _ _ _ _) (fun i e => by have := HX.out; omega)
        have it1 : W1.heap[X + 1]? = some (.stringIter line (pos + k)) := by rw [hW1]; exact setIt_at (Array.getElem?_eq_some_iff.1 L.it).1
        have zw1 : X ≤ W1.heap.size := by rw [hW1]; have := ZW.out; simpa [setIt] using this
        have lp := L.pos
        have TK0 := take_any c k u1 kc k1 k2 hsz c31 zw1
        have CHI : Hid (∀ w2, CI X (X + 1) W1 w2 → Chg (fun _ => False) w w2) := fun w2 q => ch1.trans q (fun i e => by have := HX.out; omega)
        have U1 : Hid _ := u1
        have CH1 : Hid _ := ch1
        have LP : Hid _ := lp
        have ME0 := u1.mayEnd
        clear hW1 hc hk L u1 lp zw1
        by_cases qe : c = 35 ∧ mayEnd σ = true
        · obtain ⟨rfl, hm⟩ := qe
          rw [if_pos ⟨rfl, hm⟩] at re
          rw [hm] at ME0
          have ME : Hid _ := ME0
          have RN : Hid (R = some ws) := re
          obtain ⟨⟨Wv, wh, fr, T, g, hb, hW, _⟩, _⟩ := U1.out
          obtain ⟨A, cc, rfl⟩ := own_form hW
          have k1' : W1.cell? ⟨X, 1, none⟩ = some (.slice A ws.length cc) := hb.cell 1
          obtain ⟨n, hn⟩ : ∃ n, n = ws.length := ⟨_, rfl⟩
          have HW : Hid (SL W1 X (.slice A n cc) ws) := by rw [hn]; exact hW
          rw [← hn] at k1'
          clear hn hb hW ME0 TK0 re k1 k2 kc c31 it1 hm
          go_wp2_with (go_at_call 10; refine Calls.mono ME.out ?_; rintro e w2 ⟨rfl, rfl⟩)
          go_ret2
          rw [RN.out]
          exact ⟨A, n, cc, rfl, by rw [← HX.out]; exact HW.out, CH1.out⟩
        · rw [if_neg qe] at re
          cases ho : stp σ ws c (cut line pos (pos + k)) with
          | none =>
            rw [ho] at TK0 re
            have TK : Hid (Calls Try.prog 11 #[.pointer (some ⟨X, 0, none⟩), .int .i64 pos, .int .i32 c] W1 fun e w' => e = .returned (.bool false) ∧ CI X (X + 1) W1 w') := TK0
            have RN : Hid (R = none) := re
            clear TK0 re ho k1 k2 it1
            by_cases q : c = 35
            · subst q
              have hm : mayEnd σ = false := by simpa using qe
              rw [hm] at ME0
              have ME : Hid _ := ME0
              clear ME0 hm qe kc c31
              go_wp2_with (first | (go_at_call 10; refine Calls.mono ME.out ?_; rintro e w2 ⟨rfl, rfl⟩) | (go_at_call 11; refine Calls.mono TK.out ?_; rintro e w2 ⟨rfl, h5⟩; have H5 : Hid _ := h5; clear h5))
              go_ret2
              rw [RN.out]
              exact ⟨none, 0, 0, rfl, SL.nil _ _, CHI.out _ H5.out⟩
            · have q1 : ((c : Int) == 35) = false := by simp; omega
              clear ME0 qe kc c31 q
              go_wp2_with ((go_at_call 11; refine Calls.mono TK.out ?_; rintro e w2 ⟨rfl, h5⟩; have H5 : Hid _ := h5; clear h5))
              go_ret2
              rw [RN.out]
              exact ⟨none, 0, 0, rfl, SL.nil _ _, CHI.out _ H5.out⟩
          | some x =>
            rw [ho] at TK0 re
            have TK : Hid (Calls Try.prog 11 #[.pointer (some ⟨X, 0, none⟩), .int .i64 pos, .int .i32 c] W1 fun e w' => e = .returned (.bool true) ∧ CU w' X X (X + 1) line x.1 x.2 (pos + k) ∧ CI X (X + 1) W1 w') := TK0
            have NEXT : Hid (∀ w2, (CU w2 X X (X + 1) line x.1 x.2 (pos + k) ∧ CI X (X + 1) W1 w2) → LW w X w2 line R x.1 x.2 (pos + k)) := fun w2 q => ⟨q.2.iter it1, q.1, k2, re.symm, CHI.out _ q.2⟩
            have MEAS : Hid (∀ w2, (CU w2 X X (X + 1) line x.1 x.2 (pos + k) ∧ CI X (X + 1) W1 w2) → line.size - w2.iterPos (X + 1) < line.size - wr.iterPos (X + 1)) := fun w2 q => by
              rw [LP.out, (NEXT.out w2 q).pos]
              omega
            clear TK0 re ho k1 k2 it1
            by_cases q : c = 35
            · subst q
              have hm : mayEnd σ = false := by simpa using qe
              rw [hm] at ME0
              have ME : Hid _ := ME0
              clear ME0 hm qe kc c31
              go_wp2_with (first | (go_at_call 10; refine Calls.mono ME.out ?_; rintro e w2 ⟨rfl, rfl⟩) | (go_at_call 11; refine Calls.mono TK.out ?_; rintro e w2 ⟨rfl, h5⟩; have H5 : Hid _ := h5; clear h5))
              go_roundw
              case rel => exact ⟨_, _, _, NEXT.out _ H5.out⟩
              case measure => exact MEAS.out _ H5.out
            · have q1 : ((c : Int) == 35) = false := by simp; omega
              clear ME0 qe kc c31 q
              go_wp2_with ((go_at_call 11; refine Calls.mono TK.out ?_; rintro e w2 ⟨rfl, h5⟩; have H5 : Hid _ := h5; clear h5))
              go_roundw
              case rel => exact ⟨_, _, _, NEXT.out _ H5.out⟩
              case measure => exact MEAS.out _ H5.out
      · have nx : ∀ ty, (Instr.next (.pointer (some ⟨X + 1, 0, none⟩)) true ty).run Try.prog wr = .ok (.tuple #[.bool false]) wr := fun ty => next_done L.it hp ty
        have re : R = fin σ ws := by
          rw [← L.eq, List.drop_of_length_le (by rw [bs_length]; omega), run_nil]
        have RE : Hid _ := re
        have CH1 : Hid _ := L.ch
        have hpe : pos = line.size := by have := L.le; omega
        have ME : Hid _ := L.cu.mayEnd
        obtain ⟨⟨Wv, wh, fr, T, g, hb, hW, hA⟩, _, lw, _⟩ := L.cu
        have HW0 := hW
        obtain ⟨A, cc, rfl⟩ := own_form hW
        obtain ⟨n, hn⟩ : ∃ n, n = ws.length := ⟨_, rfl⟩
        rw [← hn] at hb hW HW0
        have HN : Hid _ := hn
        have HW : Hid (SL wr X (.slice A n cc) ws) := hW
        have k1' : wr.cell? ⟨X, 1, none⟩ = some (.slice A n cc) := hb.cell 1
        have k2' : wr.cell? ⟨X, 2, none⟩ = some (.int .i64 wh) := hb.cell 2
        clear re hp L hn HW0
        cases σ using St.cases with
        | bt =>
          obtain rfl : wh = 0 := hA
          clear hb hW lw hpe
          go_wp2_with (go_at_call 10; refine Calls.mono ME.out ?_; rintro e w2 ⟨rfl, rfl⟩)
          go_ret2
          rw [RE.out]
          exact ⟨A, n, cc, rfl, by rw [← HX.out]; exact HW.out, CH1.out⟩
        | en =>
          obtain rfl : wh = 6 := hA
          clear hb hW lw hpe
          go_wp2_with (go_at_call 10; refine Calls.mono ME.out ?_; rintro e w2 ⟨rfl, rfl⟩)
          go_ret2
          rw [RE.out]
          exact ⟨A, n, cc, rfl, by rw [← HX.out]; exact HW.out, CH1.out⟩
        | qu a =>
          obtain ⟨rfl, _⟩ := hA
          clear hb hW lw hpe
          go_wp2_with (go_at_call 10; refine Calls.mono ME.out ?_; rintro e w2 ⟨rfl, rfl⟩)
          go_ret2
          rw [RE.out]
          exact ⟨none, 0, 0, rfl, SL.nil _ _, CH1.out⟩
        | st a =>
          obtain ⟨rfl, _⟩ := hA
          clear hb hW lw hpe
          go_wp2_with (go_at_call 10; refine Calls.mono ME.out ?_; rintro e w2 ⟨rfl, rfl⟩)
          go_ret2
          rw [RE.out]
          exact ⟨none, 0, 0, rfl, SL.nil _ _, CH1.out⟩
        | hi a =>
          obtain ⟨rfl, _⟩ := hA
          clear hb hW lw hpe
          go_wp2_with (go_at_call 10; refine Calls.mono ME.out ?_; rintro e w2 ⟨rfl, rfl⟩)
          go_ret2
          rw [RE.out]
          exact ⟨none, 0, 0, rfl, SL.nil _ _, CH1.out⟩
        | lo a d =>
          obtain ⟨rfl, _⟩ := hA
          clear hb hW lw hpe
          go_wp2_with (go_at_call 10; refine Calls.mono ME.out ?_; rintro e w2 ⟨rfl, rfl⟩)
          go_ret2
          rw [RE.out]
          exact ⟨none, 0, 0, rfl, SL.nil _ _, CH1.out⟩
        | wd a =>
          obtain ⟨rfl, f, rfl, hf, rfl⟩ := hA
          have EW : Hid _ := endWord_any hb hW ZW.out (by omega) (show f ≤ line.size by omega) (Nat.le_refl _) hsz
          clear hb hW lw hf ME
          subst hpe
          go_upto_region 13 with (go_at_call 12; refine Calls.mono EW.out ?_; rintro e w2 ⟨⟨v, rfl⟩, h5⟩; have H5 : Hid _ := h5; clear h5)
          obtain ⟨W', b1, s1, c1⟩ := H5.out
          have ME : Hid _ := mayEnd_any b1
          obtain ⟨A', c', rfl⟩ := own_form s1
          obtain ⟨n', hn'⟩ : ∃ n', n' = (ws ++ [cut line f line.size]).length := ⟨_, rfl⟩
          rw [← hn'] at b1 s1
          have kk : w2.cell? ⟨X, 1, none⟩ = some (.slice A' n' c') := b1.cell 1
          have H6 : Hid (SL w2 X (.slice A' n' c') (ws ++ [cut line f line.size]) ∧ Chg (fun _ => False) w w2) := ⟨s1, CH1.out.trans c1 (fun i e => by
            have := HX.out
            rcases e with e | e
            · omega
            · have := (own_block HW.out e.symm).1; omega)⟩
          clear H5 EW b1 s1 c1 hn' k1' k2'
          go_wp2_with (go_at_call 10; refine Calls.mono ME.out ?_; rintro e w3 ⟨rfl, rfl⟩)
          go_ret2
          rw [RE.out]
          exact ⟨A', n', c', rfl, by rw [← HX.out]; exact H6.out.1, H6.out.2⟩
  · have hw : wds line = ([], 192) := by unfold wds; rw [if_neg hsz]
    rw [hw]
    have hs8 : (decide (65536 < (line.size : Int))) = true := by simp; omega
    clear hw
    go_enter Try.func6, Try.ntmps6
    go_wp2_with fail
    go_ret2
    exact ⟨none, 0, 0, rfl, SL.nil _ _, Chg.refl _ _⟩
end Go.Proofs.Ytnmlhlgeacdcgaa
