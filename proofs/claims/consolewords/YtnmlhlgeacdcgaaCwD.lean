/-
  The cutter's methods.
-/
import Derived.Test.YtnmlhlgeacdcgaaCwC
namespace Go.Proofs.Ytnmlhlgeacdcgaa
open Go.RowKit

/-- A cutter's cells. -/
def cuC (line : ByteArray) (W : Value) (wh fr : Int) (T : Value) (h : Int) : List Value := [.string line, W, .int .i64 wh, .int .i64 fr, T, .int .u8 h]

section
variable {w : World} {C : Nat} {line : ByteArray} {W T : Value} {wh fr h : Int}

set_option maxRecDepth 100000 in
theorem mayEnd_any (hb : Blk w C (cuC line W wh fr T h) 35) : Calls Try.prog 10 #[.pointer (some ⟨C, 0, none⟩)] w fun e w' => e = .returned (.bool (decide (wh = 0 ∨ wh = 6))) ∧ w = w' := by
  have k20 : w.cell? ⟨C, 2, none⟩ = some (.int .i64 wh) := hb.cell 2
  clear hb
  go_enter Try.func10, Try.ntmps10
  go_wp2
  all_goals
    go_ret
    refine ⟨congrArg Ending.returned (congrArg Value.bool ?_), rfl⟩
    first | exact (decide_eq_true (by omega)).symm | (rw [Bool.eq_iff_iff, decide_eq_true_iff]; simp)

set_option maxRecDepth 100000 in
theorem begin_blank (c pos : Nat) (hc : blankN c = true) :
    Calls Try.prog 15 #[.pointer (some ⟨C, 0, none⟩), .int .i64 pos, .int .i32 c] w fun e w' => (∃ v, e = .returned v) ∧ w = w' := by
  have H : Hid _ := isBlank_any c
  go_enter Try.func15, Try.ntmps15
  go_wp2_with (go_at_call 21; refine Calls.mono (H.out _) ?_; rintro e w1 ⟨rfl, rfl⟩)
  all_goals
    go_end0
    exact ⟨⟨_, rfl⟩, rfl⟩

set_option maxRecDepth 100000 in
theorem begin_quote (pos : Nat) (hb : Blk w C (cuC line W wh fr T h) 35) (hp : pos ≤ 65536) :
    Calls Try.prog 15 #[.pointer (some ⟨C, 0, none⟩), .int .i64 pos, .int .i32 34] w fun e w' => (∃ v, e = .returned v) ∧ Blk w' C (cuC line W 2 (pos + 1 : Nat) (.slice none 0 0) h) 35 ∧ Chg (fun k => k = C) w w' := by
  have H : Hid _ := isBlank_any 34
  have HB : Hid _ := hb
  have k2 : w.cell? ⟨C, 2, none⟩ = some (.int .i64 wh) := hb.cell 2
  have k3 : w.cell? ⟨C, 3, none⟩ = some (.int .i64 fr) := hb.cell 3
  have k4 : w.cell? ⟨C, 4, none⟩ = some T := hb.cell 4
  have f2 : w.frozen? ⟨C, 2, none⟩ = false := hb.fr 2
  have f3 : w.frozen? ⟨C, 3, none⟩ = false := hb.fr 3
  have f4 : w.frozen? ⟨C, 4, none⟩ = false := hb.fr 4
  clear hb
  go_enter Try.func15, Try.ntmps15
  go_wp2_with (go_at_call 21; refine Calls.mono (H.out _) ?_; rintro e w1 ⟨rfl, rfl⟩)
  all_goals
    go_end0
    refine ⟨⟨_, rfl⟩, ?_, ?_⟩
    · exact ((HB.out.set 2 _).set 3 _).set 4 _
    · exact (((Chg.refl (fun k => k = C) _).setCell (p := ⟨C, 2, none⟩) (.inl rfl) _).setCell (p := ⟨C, 3, none⟩) (.inl rfl) _).setCell (p := ⟨C, 4, none⟩) (.inl rfl) _

set_option maxRecDepth 100000 in
theorem begin_word (c pos : Nat) (hb : Blk w C (cuC line W wh fr T h) 35) (hc : blankN c = false) (hq : ¬ c = 34) :
    Calls Try.prog 15 #[.pointer (some ⟨C, 0, none⟩), .int .i64 pos, .int .i32 c] w fun e w' => (∃ v, e = .returned v) ∧ Blk w' C (cuC line W 1 pos T h) 35 ∧ Chg (fun k => k = C) w w' := by
  have H : Hid _ := isBlank_any c
  have HB : Hid _ := hb
  have hq' : ((c : Int) == 34) = false := by simp; omega
  have k2 : w.cell? ⟨C, 2, none⟩ = some (.int .i64 wh) := hb.cell 2
  have k3 : w.cell? ⟨C, 3, none⟩ = some (.int .i64 fr) := hb.cell 3
  have f2 : w.frozen? ⟨C, 2, none⟩ = false := hb.fr 2
  have f3 : w.frozen? ⟨C, 3, none⟩ = false := hb.fr 3
  clear hb hq
  go_enter Try.func15, Try.ntmps15
  go_wp2_with (go_at_call 21; refine Calls.mono (H.out _) ?_; rintro e w1 ⟨rfl, rfl⟩)
  all_goals
    go_end0
    refine ⟨⟨_, rfl⟩, ?_, ?_⟩
    · exact (HB.out.set 2 _).set 3 _
    · exact ((Chg.refl (fun k => k = C) _).setCell (p := ⟨C, 2, none⟩) (.inl rfl) _).setCell (p := ⟨C, 3, none⟩) (.inl rfl) _

set_option maxRecDepth 100000 in
set_option maxHeartbeats 1000000 in
theorem stands_any {B : Nat} {t : List UInt8} (x : UInt8) (pos : Nat) (hb : Blk w C (cuC line W wh fr T h) 35) (hT : BL w B T t) (hB : B ≤ w.heap.size) (ht : t.length ≤ 65536) (hp : pos ≤ 65536) :
    Calls Try.prog 24 #[.pointer (some ⟨C, 0, none⟩), .int .u8 (x.toNat : Int), .int .i64 pos] w fun e w' => e = .returned (.bool true) ∧ ∃ T', Blk w' C (cuC line W 2 (pos + 1 : Nat) T' h) 35 ∧ BL w' B T' (t ++ [x]) ∧ Chg (fun k => k = C ∨ some k = T.ownBlock) w w' := by
  obtain ⟨W1, hW1⟩ : ∃ W1, W1 = w.alloc (.cells #[.int .u8 (x.toNat : Int)] 5) := ⟨_, rfl⟩
  have c1 : Chg (fun _ => False) w W1 := by rw [hW1]; exact (Chg.refl _ _).alloc _
  have x1 : W1.cell? ⟨w.heap.size, 0, none⟩ = some (.int .u8 (x.toNat : Int)) := by rw [hW1, cell_of_row _ _ _ _ 5 _ (heap_alloc_new _ _)]; rfl
  obtain ⟨v', w', r1, r2, r3, _⟩ := app_byte (hT.kept c1 (fun _ _ e => e)) (Nat.le_trans hB c1.size) x (c := 1) x1 (by omega) 22
  have hne : ∀ k, T.ownBlock = some k → k ≠ C := fun k hk => own_one hT hb (by decide) hk
  have b' := (hb.keep c1 (fun e => e)).keep r3 (fun e => hne C e.symm rfl)
  obtain ⟨A, c, rfl⟩ := own_form hT
  obtain ⟨A', c', rfl⟩ := own_form r2
  obtain ⟨n, hn⟩ : ∃ n, n = t.length := ⟨_, rfl⟩
  obtain ⟨n', hn'⟩ : ∃ n', n' = (t ++ [x]).length := ⟨_, rfl⟩
  rw [← hn] at r1 r3 hb b' hne hT ⊢
  rw [← hn'] at r1 r2
  clear hn hn'
  have HB : Hid _ := b'
  have R1 : Hid _ := r1
  have R2 : Hid (BL w' B (.slice A' n' c') (t ++ [x]) ∧ Chg (fun k => k = C ∨ some k = (Value.slice A n c).ownBlock) w w' ∧ ∀ k, (Value.slice A' n' c').ownBlock = some k → k ≠ C) :=
    ⟨r2, (c1.mono (fun _ _ e => e.elim)).trans r3 (fun _ e => .inl (.inr e)), fun k hk => own_one r2 b' (by decide) hk⟩
  have k40 : w.cell? ⟨C, 4, none⟩ = some (.slice A n c) := hb.cell 4
  have k2 : w'.cell? ⟨C, 2, none⟩ = some (.int .i64 wh) := b'.cell 2
  have k3 : w'.cell? ⟨C, 3, none⟩ = some (.int .i64 fr) := b'.cell 3
  have k4 : w'.cell? ⟨C, 4, none⟩ = some (.slice A n c) := b'.cell 4
  have f2 : w'.frozen? ⟨C, 2, none⟩ = false := b'.fr 2
  have f3 : w'.frozen? ⟨C, 3, none⟩ = false := b'.fr 3
  have f4 : w'.frozen? ⟨C, 4, none⟩ = false := b'.fr 4
  rw [hW1] at R1
  clear hb hT b' r1 r2 r3 c1 x1 hW1 hne
  go_enter Try.func24, Try.ntmps24
  go_wp2_with (refine wpList_appG (sl := 22) (su := 22) rfl (.tmp 11) (.tmp 13) rfl (v := .slice A n c) (u := .slice (some ⟨w.heap.size, 0, none⟩) 1 1) (v' := .slice A' n' c') (w' := w') rfl rfl R1.out ?_)
  go_ret
  obtain ⟨q1, q2, q3⟩ := R2.out
  have cc : Chg (fun k => k = C) w' (((w'.setCell ⟨C, 4, none⟩ (.slice A' n' c')).setCell ⟨C, 2, none⟩ (.int .i64 2)).setCell ⟨C, 3, none⟩ (.int .i64 (pos + 1))) :=
    (((Chg.refl (fun k => k = C) _).setCell (p := ⟨C, 4, none⟩) (.inl rfl) _).setCell (p := ⟨C, 2, none⟩) (.inl rfl) _).setCell (p := ⟨C, 3, none⟩) (.inl rfl) _
  refine ⟨rfl, _, ((HB.out.set 4 (.slice A' n' c')).set 2 _).set 3 _, q1.kept cc (fun k hk => q3 k hk), q2.trans cc (fun _ e => .inl (.inl e))⟩

set_option maxRecDepth 100000 in
theorem atHigh_any (c : Nat) (hc : c ≤ 2147483647) (hb : Blk w C (cuC line W wh fr T h) 35) :
    Calls Try.prog 19 #[.pointer (some ⟨C, 0, none⟩), .int .i32 c] w fun e w' => e = .returned (.bool (digN c).isSome) ∧ Blk w' C (cuC line W 5 fr T ((digN c).getD 0 : Nat)) 35 ∧ Chg (fun k => k = C) w w' := by
  have H : Hid _ := fun w => digitOf_any c w hc
  have HB : Hid _ := hb
  have k2 : w.cell? ⟨C, 2, none⟩ = some (.int .i64 wh) := hb.cell 2
  have k5 : w.cell? ⟨C, 5, none⟩ = some (.int .u8 h) := hb.cell 5
  have f2 : w.frozen? ⟨C, 2, none⟩ = false := hb.fr 2
  have f5 : w.frozen? ⟨C, 5, none⟩ = false := hb.fr 5
  clear hb
  go_enter Try.func19, Try.ntmps19
  go_wp2_with (go_at_call 25; refine Calls.mono (H.out _) ?_; rintro e w1 ⟨rfl, rfl⟩)
  go_ret
  exact ⟨rfl, (HB.out.set 2 _).set 5 _, ((Chg.refl (fun k => k = C) _).setCell (p := ⟨C, 2, none⟩) (.inl rfl) _).setCell (p := ⟨C, 5, none⟩) (.inl rfl) _⟩
end
end Go.Proofs.Ytnmlhlgeacdcgaa
