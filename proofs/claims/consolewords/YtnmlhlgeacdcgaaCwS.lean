/-
  The reference: a quoted word.
-/
import Derived.Test.YtnmlhlgeacdcgaaCwR
namespace Go.Proofs.Ytnmlhlgeacdcgaa
open Go.RowKit

/-- What quoted answers. -/
def QtP (w : World) (s : ByteArray) (e : Ending) (w' : World) : Prop :=
  ∃ (x : List UInt8) (n : Nat), e = .returned (.tuple #[.string ⟨x.toArray⟩, .int .i64 n]) ∧ Chg (fun _ => False) w w' ∧ n ≤ s.size ∧
    ((n = 0 ∧ ∀ ws, run (.qu []) ws ((bs s).drop 1) = none) ∨ (2 ≤ n ∧ ∀ ws, run (.qu []) ws ((bs s).drop 1) = run .en (ws ++ [x]) ((bs s).drop n)))

/-- The loop's state. -/
structure LQ (w wr : World) (s : ByteArray) (v : Value) (t : List UInt8) (i : Nat) : Prop where
  bl : BL wr w.heap.size v t
  lt : t.length ≤ i
  one : 1 ≤ i
  le : i ≤ s.size
  eq : ∀ ws, run (.qu []) ws ((bs s).drop 1) = run (.qu t) ws ((bs s).drop i)
  ch : Chg (fun _ => False) w wr

/-- One byte more. -/
theorem app_more {w V : World} {A : Option Addr} {n c : Nat} {t : List UInt8} (h : BL V w.heap.size (.slice A n c) t) (hc : Chg (fun _ => False) w V) (hl : t.length ≤ 65536) (x : UInt8) :
    ∃ A' n' c' w2, (Builtin.append_ #[22, 22] 22 #[.slice A n c, .slice (some ⟨V.heap.size, 0, none⟩) 1 1]).run Try.prog (V.alloc (.cells #[.int .u8 (x.toNat : Int)] 5)) = .ok (.slice A' n' c') w2 ∧ BL w2 w.heap.size (.slice A' n' c') (t ++ [x]) ∧ Chg (fun _ => False) w w2 := by
  have c1 : Chg (fun _ => False) V (V.alloc (.cells #[.int .u8 (x.toNat : Int)] 5)) := (Chg.refl _ _).alloc _
  have x1 : (V.alloc (.cells #[.int .u8 (x.toNat : Int)] 5)).cell? ⟨V.heap.size, 0, none⟩ = some (.int .u8 (x.toNat : Int)) := (Blk.made V [.int .u8 (x.toNat : Int)] 5).cell 0
  obtain ⟨v', w2, r1, r2, r3, _⟩ := app_byte (h.kept c1 (fun _ _ e => e)) (Nat.le_trans hc.size c1.size) x (c := 1) x1 (by omega) 22
  obtain ⟨A', c', rfl⟩ := own_form r2
  exact ⟨A', _, c', w2, r1, r2, (hc.trans c1 (fun _ e => e.elim)).trans r3 (fun i e => .inr (own_block h e.symm).1)⟩
theorem drewN_chg {w wr : World} (h : Chg (fun _ => False) w wr) (k : Nat) : Chg (fun _ => False) w (wr.drewN k) := h.trans (T := fun _ => False) ⟨rfl, rfl, rfl, Nat.le_refl _, fun _ _ _ => rfl⟩ (fun _ e => e.elim)

set_option maxRecDepth 100000 in
set_option maxHeartbeats 4000000 in
theorem quoted_any (s : ByteArray) (w : World) (h1 : 1 ≤ s.size) (hsz : s.size ≤ 65536) : Calls Try.prog 14 #[.string s] w (QtP w s) := by
  have L0 : Hid (LQ w w s (.slice none 0 0) [] 1) := ⟨BL.nil _ _, by simp, Nat.le_refl _, h1, fun ws => rfl, Chg.refl _ _⟩
  go_enter Try.func14, Try.ntmps14
  go_wp2_with fail
  go_loopw [4, 5] (fun v x wr => ∃ t i, x = .int .i64 (i : Nat) ∧ LQ w wr s v t i) (fun _ x _ => s.size - (intOf x).toNat)
  case atStart => exact ⟨[], 1, rfl, L0.out⟩
  case round =>
    clear L0
    obtain ⟨t, i, rfl, L⟩ := hrel
    obtain ⟨A, c, rfl⟩ := own_form L.bl
    obtain ⟨n, hn⟩ : ∃ n, n = t.length := ⟨_, rfl⟩
    rw [← hn] at L ⊢
    have hnt : n ≤ i := by rw [hn]; exact L.lt
    have HNN : Hid _ := hn
    clear hn
    have HL : Hid _ := L
    have lle := L.le
    have lone := L.one
    have ls : Hid (w.heap.size ≤ wr.heap.size) := L.ch.size
    by_cases hp : i < s.size
    · have hd := bs_drop s hp
      obtain ⟨b, hb⟩ : ∃ b, b = s[i] := ⟨_, rfl⟩
      have ix : ∀ w, (Instr.index 9 (.string s) (.int .i64 i)).run Try.prog w = .ok (.int .u8 (b.toNat : Int)) w := fun w => by rw [hb]; exact ix_at s hp w
      rw [← hb] at hd
      have zi : (decide ((i : Int) < (s.size : Int))) = true := by simp; omega
      have zj : (decide ((s.size : Int) ≤ (i : Int))) = false := by simp; omega
      clear hb L
      by_cases q1 : b.toNat = 34
      · rw [q1] at ix
        have Q : Hid _ := q1
        have ST : Hid ((convert 22 9 (.slice A n c)).run Try.prog wr = .ok (.string ⟨t.toArray⟩) wr) := BL.str HL.out.bl
        have st : (convert 22 9 (.slice A n c)).run Try.prog wr = .ok (.string ⟨t.toArray⟩) wr := ST.out
        have HD : Hid _ := hd
        clear q1 hd
        go_wp2_with fail
        go_ret2
        refine ⟨t, i + 1, by go_num, HL.out.ch, by omega, .inr ⟨by omega, fun ws => ?_⟩⟩
        rw [HL.out.eq, HD.out, run_qu]
        simp only [stp]
        rw [if_pos Q.out]
        rfl
      · have n1 : ((b.toNat : Int) != 34) = true := by simp; omega
        by_cases q2 : b.toNat = 92
        · rw [q2] at ix n1
          have sl : ∀ w, (Instr.slice 9 (.string s) (some (.int .i64 ((i : Int) + 1))) none none).run Try.prog w = .ok (.string (s.extract (i + 1) s.size)) w := fun w => sl_from s (i := i + 1) (by omega) w
          have ST := strk_spec (bs (s.extract (i + 1) s.size))
          rw [bs_from] at ST
          have SC : Hid (∀ w, Calls Try.prog 23 #[.string (s.extract (i + 1) s.size)] w (StQ w (strk ((bs s).drop (i + 1))))) := fun w => by
            have := stroked_any (s.extract (i + 1) s.size) w
            rwa [bs_from] at this
          have R92 : Hid (∀ ws, run (.qu []) ws ((bs s).drop 1) = run (.st t) ws ((bs s).drop (i + 1))) := fun ws => by
            rw [HL.out.eq, hd, run_qu]
            simp only [stp]
            rw [if_neg q1, if_pos q2]
            rfl
          obtain ⟨o, ho⟩ : ∃ o, o = strk ((bs s).drop (i + 1)) := ⟨_, rfl⟩
          rw [← ho] at ST SC
          obtain ⟨b1, m⟩ := o
          have dl : ((bs s).drop (i + 1)).length = s.size - (i + 1) := by rw [List.length_drop, bs_length]
          rw [dl] at ST
          clear hd ho q1 q2 dl
          rcases ST with ⟨hm, hr⟩ | ⟨hm1, hm2, hr⟩
          · obtain rfl : m = 0 := hm
            have HR : Hid _ := hr
            clear hr
            go_wp2_with (go_at_call 23; refine Calls.mono (SC.out _) ?_; rintro e w1 ⟨rfl, k, rfl⟩)
            go_ret2
            exact ⟨[], 0, rfl, drewN_chg HL.out.ch k, Nat.zero_le _, .inl ⟨rfl, fun ws => by rw [R92.out, HR.out]⟩⟩
          · have hm1' : 1 ≤ m := hm1
            have hm2' : m ≤ s.size - (i + 1) := hm2
            have hr' : ∀ a ws, run (.st a) ws ((bs s).drop (i + 1)) = run (.qu (a ++ [b1])) ws (((bs s).drop (i + 1)).drop m) := hr
            have HR : Hid _ := hr'
            have m0 : ((m : Int) == 0) = false := by rw [beq_eq_false_iff_ne]; omega
            clear hr hr' hm1 hm2
            go_upto_region 10 with (go_at_call 23; refine Calls.mono (SC.out _) ?_; rintro e w1 ⟨rfl, k, rfl⟩)
            obtain ⟨V, hV⟩ : ∃ V, V = wr.drewN k := ⟨_, rfl⟩
            have bV : BL V w.heap.size (.slice A n c) t := by rw [hV]; exact HL.out.bl
            have cV : Chg (fun _ => False) w V := by rw [hV]; exact drewN_chg HL.out.ch k
            obtain ⟨A', n', c', w2, r1, r2, r3⟩ := app_more bV cV (by have := HL.out.lt; omega) b1
            rw [← hV]
            have R1 : Hid _ := r1
            have NX : Hid (LQ w w2 s (.slice A' n' c') (t ++ [b1]) (i + 1 + m)) := ⟨r2, by have := HL.out.lt; simp; omega, by omega, by omega, fun ws => by rw [R92.out, HR.out, List.drop_drop], r3⟩
            clear hV bV cV r1 r2 r3 SC HR R92
            go_wp2_with (refine wpList_appG (sl := 22) (su := 22) rfl (.tmp 40) (.tmp 42) rfl (v := .slice A n c) (u := .slice (some ⟨V.heap.size, 0, none⟩) 1 1) (v' := .slice A' n' c') (w' := w2) rfl rfl R1.out ?_)
            go_roundw
            case rel => exact ⟨_, i + 1 + m, by go_num, NX.out⟩
            case measure => simp [intOf]; omega
        · have n2 : ((b.toNat : Int) != 92) = true := by simp; omega
          obtain ⟨A', n', c', w2, r1, r2, r3⟩ := app_more HL.out.bl HL.out.ch (by have := HL.out.lt; omega) b
          have R1 : Hid _ := r1
          have NX : Hid (LQ w w2 s (.slice A' n' c') (t ++ [b]) (i + 1)) := ⟨r2, by have := HL.out.lt; simp; omega, by omega, by omega, fun ws => by
            rw [HL.out.eq, hd, run_qu]
            simp only [stp]
            rw [if_neg q1, if_neg q2]
            rfl, r3⟩
          clear r1 r2 r3 q1 q2 hd
          go_wp2_with (refine wpList_appG (sl := 22) (su := 22) rfl (.tmp 22) (.tmp 26) rfl (v := .slice A n c) (u := .slice (some ⟨wr.heap.size, 0, none⟩) 1 1) (v' := .slice A' n' c') (w' := w2) rfl rfl R1.out ?_)
          go_roundw
          case rel => exact ⟨_, i + 1, by go_num, NX.out⟩
          case measure => simp [intOf]; omega
    · have zi : (decide ((i : Int) < (s.size : Int))) = false := by simp; omega
      have zj : (decide ((s.size : Int) ≤ (i : Int))) = true := by simp; omega
      clear L
      go_wp2_with fail
      go_ret2
      exact ⟨[], 0, rfl, HL.out.ch, Nat.zero_le _, .inl ⟨rfl, fun ws => by
        rw [HL.out.eq, List.drop_of_length_le (by rw [bs_length]; omega), run_nil]
        rfl⟩⟩
end Go.Proofs.Ytnmlhlgeacdcgaa
