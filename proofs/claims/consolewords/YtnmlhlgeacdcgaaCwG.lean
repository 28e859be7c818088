/-
  The cutter's methods: in a word; in quotes.
-/
import Derived.Test.YtnmlhlgeacdcgaaCwF
namespace Go.Proofs.Ytnmlhlgeacdcgaa
open Go.RowKit

section
variable {w : World} {C : Nat} {line : ByteArray} {W T : Value} {wh fr h : Int}

set_option maxRecDepth 100000 in
theorem inWord_blank {B f pos : Nat} {ws : List (List UInt8)} (c : Nat) (hc : blankN c = true) (hb : Blk w C (cuC line W wh f T h) 35) (hW : SL w B W ws) (hB : B ≤ w.heap.size) (hl : ws.length ≤ 65536) (h1 : f ≤ pos) (h2 : pos ≤ line.size) (h3 : line.size ≤ 65536) :
    Calls Try.prog 16 #[.pointer (some ⟨C, 0, none⟩), .int .i64 pos, .int .i32 c] w fun e w' => e = .returned (.bool true) ∧ ∃ W', Blk w' C (cuC line W' 0 f T h) 35 ∧ SL w' B W' (ws ++ [cut line f pos]) ∧ Chg (fun k => k = C ∨ some k = W.ownBlock) w w' := by
  have H : Hid _ := isBlank_any c
  have E : Hid _ := endWord_any hb hW hB hl h1 h2 h3
  have hq : ((c : Int) != 34) = true := by
    have : ¬ c = 34 := fun e => by rw [e] at hc; cases hc
    simp; omega
  clear hb hW
  go_enter Try.func16, Try.ntmps16
  go_wp2_with (first | (go_at_call 21; refine Calls.mono (H.out _) ?_; rintro e w1 ⟨rfl, rfl⟩) | (go_at_call 12; refine Calls.mono E.out ?_; rintro e w1 ⟨⟨v, rfl⟩, h5⟩; have H5 : Hid _ := h5; clear h5))
  go_ret
  exact ⟨rfl, H5.out⟩

set_option maxRecDepth 100000 in
theorem inWord_other {pos : Nat} (c : Nat) (hc : blankN c = false) :
    Calls Try.prog 16 #[.pointer (some ⟨C, 0, none⟩), .int .i64 pos, .int .i32 c] w fun e w' => e = .returned (.bool (!(c == 34))) ∧ w = w' := by
  have H : Hid _ := isBlank_any c
  go_enter Try.func16, Try.ntmps16
  go_wp2_with (go_at_call 21; refine Calls.mono (H.out _) ?_; rintro e w1 ⟨rfl, rfl⟩)
  go_ret
  refine ⟨congrArg Ending.returned (congrArg Value.bool ?_), rfl⟩
  rw [Bool.eq_iff_iff]
  simp
  omega

set_option maxRecDepth 100000 in
theorem inQ_other {pos : Nat} (c : Nat) (h1 : ¬ c = 34) (h2 : ¬ c = 92) :
    Calls Try.prog 17 #[.pointer (some ⟨C, 0, none⟩), .int .i64 pos, .int .i32 c] w fun e w' => (∃ v, e = .returned v) ∧ w = w' := by
  have q1 : ((c : Int) != 34) = true := by simp; omega
  have q2 : ((c : Int) != 92) = true := by simp; omega
  clear h1 h2
  go_enter Try.func17, Try.ntmps17
  go_wp2_with fail
  refine bodyPost_ret (results_none rfl _ _ _) rfl ?_
  exact ⟨⟨_, rfl⟩, rfl⟩

set_option maxRecDepth 100000 in
set_option maxHeartbeats 4000000 in
theorem inQ_stroke {B f pos : Nat} {t : List UInt8} (hb : Blk w C (cuC line W wh f T h) 35) (hT : BL w B T t) (hB : B ≤ w.heap.size) (hl : t.length ≤ 65536) (h1 : f ≤ pos) (h2 : pos ≤ line.size) (h3 : line.size ≤ 65536) :
    Calls Try.prog 17 #[.pointer (some ⟨C, 0, none⟩), .int .i64 pos, .int .i32 92] w fun e w' => (∃ v, e = .returned v) ∧ ∃ T', Blk w' C (cuC line W 3 f T' h) 35 ∧ BL w' B T' (t ++ cut line f pos) ∧ Chg (fun k => k = C ∨ some k = T.ownBlock) w w' := by
  obtain ⟨x, hx⟩ : ∃ x, x = cut line f pos := ⟨_, rfl⟩
  have xs : x.length ≤ 65536 := by rw [hx, cut_length line h2]; omega
  have SC : ∀ w, (Instr.slice 9 (.string line) (some (.int .i64 f)) (some (.int .i64 pos)) none).run Try.prog w = .ok (.string ⟨x.toArray⟩) w := fun w => by rw [hx]; exact slice_cut w h1 h2
  rw [← hx]
  clear hx h1 h2
  have hne : ∀ k, T.ownBlock = some k → k ≠ C := fun k hk => own_one hT hb (by decide) hk
  obtain ⟨A, c, rfl⟩ := own_form hT
  obtain ⟨n, hn⟩ : ∃ n, n = t.length := ⟨_, rfl⟩
  rw [← hn] at hb hT hne ⊢
  clear hn
  have FIN : Hid (∃ A' n' c' w3, (Builtin.append_ #[22, 9] 22 #[.slice A n c, .string ⟨x.toArray⟩]).run Try.prog w.drew = .ok (.slice A' n' c') w3 ∧ BL w3 B (.slice A' n' c') (t ++ x) ∧ Blk w3 C (cuC line W wh f (.slice A n c) h) 35 ∧ Chg (fun k => some k = (Value.slice A n c).ownBlock) w w3) := by
    have c1 : Chg (fun _ => False) w w.drew := (Chg.refl _ _).drew
    obtain ⟨v', w3, r1, r2, r3⟩ := app_text (w := w.drew) (hT.kept c1 (fun _ _ e => e)) hB x (by omega) 22
    obtain ⟨A', c', rfl⟩ := own_form r2
    exact ⟨A', _, c', w3, r1, r2, (hb.keep c1 (fun e => e)).keep r3 (fun e => hne C e.symm rfl), (c1.mono (fun _ _ e => e.elim)).trans r3 (fun _ e => .inl e)⟩
  obtain ⟨A', n', c', w3, r1, r2, r3, r4⟩ := FIN.out
  have q3 : ∀ k, (Value.slice A' n' c').ownBlock = some k → k ≠ C := fun k hk => own_one r2 r3 (by decide) hk
  have HB : Hid _ := hb
  have S0 : Hid (w.drew.cell? ⟨C, 0, none⟩ = some (.string line) ∧ w.drew.cell? ⟨C, 3, none⟩ = some (.int .i64 f)) := ⟨hb.cell 0, hb.cell 3⟩
  obtain ⟨W4, hW4⟩ : ∃ W4, W4 = w3.setCell ⟨C, 4, none⟩ (.slice A' n' c') := ⟨_, rfl⟩
  have c4 : Chg (fun k => k = C) w3 W4 := by rw [hW4]; exact (Chg.refl (fun k => k = C) _).setCell (p := ⟨C, 4, none⟩) (.inl rfl) _
  have b4 : Blk W4 C (cuC line W wh f (.slice A' n' c') h) 35 := by rw [hW4]; exact r3.set 4 _
  have t4 : BL W4 B (.slice A' n' c') (t ++ x) := r2.kept c4 (fun k hk => q3 k hk)
  have ch4 : Chg (fun k => k = C ∨ some k = (Value.slice A n c).ownBlock) w W4 := (r4.mono (fun _ _ e => .inr e)).trans c4 (fun _ e => .inl (.inl e))
  have B3 : Hid _ := r3
  have R1 : Hid _ := r1
  have B4 : Hid _ := b4
  have T4 : Hid _ := t4
  have CH4 : Hid _ := ch4
  have HW4 : Hid _ := hW4
  have k4 : w.drew.cell? ⟨C, 4, none⟩ = some (.slice A n c) := hb.cell 4
  have j4 : w3.cell? ⟨C, 4, none⟩ = some (.slice A n c) := r3.cell 4
  have g4 : w3.frozen? ⟨C, 4, none⟩ = false := r3.fr 4
  have k2 : W4.cell? ⟨C, 2, none⟩ = some (.int .i64 wh) := b4.cell 2
  have f2 : W4.frozen? ⟨C, 2, none⟩ = false := b4.fr 2
  clear hb hT hne FIN r1 r2 r3 r4 q3 c4 b4 t4 ch4 hW4
  go_enter Try.func17, Try.ntmps17
  go_upto_region 1 with fail
  refine wp_region_held_drew (S := fun w' => w'.cell? ⟨C, 0, none⟩ = some (.string line) ∧ w'.cell? ⟨C, 3, none⟩ = some (.int .i64 f)) (by kernel_rfl) S0.out (fun hS => ?_)
  refine wpAnyH_take (i := 0) (v := .pointer (some ⟨C, 0, none⟩)) rfl (by kernel_rfl) (by kernel_rfl) (by kernel_rfl) (fun _ _ _ h => h) (Or.inl ⟨by rfl, fun w' _ => by go_simp⟩) hS ?_
  refine wpAnyH_take (i := 1) (v := .pointer (some ⟨C, 0, none⟩)) rfl (by kernel_rfl) (by kernel_rfl) (by kernel_rfl) (fun _ _ _ h => h) (Or.inl ⟨by rfl, fun w' _ => by go_simp⟩) hS ?_
  refine wpAnyH_take (i := 2) (v := .pointer (some ⟨C, 0, none⟩)) rfl (by kernel_rfl) (by kernel_rfl) (by kernel_rfl) (fun _ _ _ h => h) (Or.inl ⟨by rfl, fun w' _ => by go_simp⟩) hS ?_
  refine wpAnyH_take (i := 3) (v := .pointer (some ⟨C, 4, none⟩)) rfl (by kernel_rfl) (by kernel_rfl) (by kernel_rfl) (fun _ _ _ h => h) (Or.inl ⟨by rfl, fun w' _ => by go_simp⟩) hS ?_
  refine wpAnyH_take (i := 5) (v := .pointer (some ⟨C, 0, none⟩)) rfl (by kernel_rfl) (by kernel_rfl) (by kernel_rfl) (fun _ _ _ h => h) (Or.inl ⟨by rfl, fun w' _ => by go_simp⟩) hS ?_
  refine wpAnyH_take (i := 6) (v := .pointer (some ⟨C, 0, none⟩)) rfl (by kernel_rfl) (by kernel_rfl) (by kernel_rfl) (fun _ _ _ h => h) (Or.inl ⟨by rfl, fun w' _ => by go_simp⟩) hS ?_
  refine wpAnyH_take (i := 7) (v := .pointer (some ⟨C, 0, none⟩)) rfl (by kernel_rfl) (by kernel_rfl) (by kernel_rfl) (fun _ _ _ h => h) (Or.inl ⟨by rfl, fun w' _ => by go_simp⟩) hS ?_
  refine wpAnyH_take (i := 8) (v := .string line) rfl (by kernel_rfl) (by kernel_rfl) (by kernel_rfl) (fun _ _ _ h => h) (Or.inl ⟨by rfl, fun w' hw' => by have q := hw'.1; go_simp⟩) hS ?_
  refine wpAnyH_take (i := 9) (v := .pointer (some ⟨C, 0, none⟩)) rfl (by kernel_rfl) (by kernel_rfl) (by kernel_rfl) (fun _ _ _ h => h) (Or.inl ⟨by rfl, fun w' _ => by go_simp⟩) hS ?_
  refine wpAnyH_take (i := 10) (v := .pointer (some ⟨C, 0, none⟩)) rfl (by kernel_rfl) (by kernel_rfl) (by kernel_rfl) (fun _ _ _ h => h) (Or.inl ⟨by rfl, fun w' _ => by go_simp⟩) hS ?_
  refine wpAnyH_take (i := 11) (v := .pointer (some ⟨C, 3, none⟩)) rfl (by kernel_rfl) (by kernel_rfl) (by kernel_rfl) (fun _ _ _ h => h) (Or.inl ⟨by rfl, fun w' _ => by go_simp⟩) hS ?_
  refine wpAnyH_take (i := 12) (v := .int .i64 f) rfl (by kernel_rfl) (by kernel_rfl) (by kernel_rfl) (fun _ _ _ h => h) (Or.inl ⟨by rfl, fun w' hw' => by have q := hw'.2; go_simp⟩) hS ?_
  refine wpAnyH_take (i := 13) (v := .int .i64 pos) rfl (by kernel_rfl) (by kernel_rfl) (by kernel_rfl) (fun _ _ _ h => h) (Or.inl ⟨by rfl, fun w' _ => by go_simp⟩) hS ?_
  refine wpAnyH_take (i := 14) (v := .string ⟨x.toArray⟩) rfl (by kernel_rfl) (by kernel_rfl) (by kernel_rfl) (fun _ _ _ h => h) (Or.inl ⟨by rfl, fun w' _ => by go_simp⟩) hS ?_
  refine wpAnyH_ready (rs := [4]) (by kernel_rfl) (by simp) ?_
  refine AllReadyH.cons rfl (fun K hK => ?_) AllReadyH.nil
  go_simp
  refine hK.out _ _ hS (fun _ => ?_)
  clear hK K
  refine wpAnyH_ready (rs := [15]) (by kernel_rfl) (by simp) ?_
  refine AllReadyH.cons rfl (fun K hK => ?_) AllReadyH.nil
  rw [if_pos (by rfl)]
  refine wp_appG (sl := 22) (su := 9) (.tmp 16) (.tmp 26) rfl (v := .slice A n c) (u := .string ⟨x.toArray⟩) (v' := .slice A' n' c') (w' := w3) rfl rfl R1.out ?_
  have hS3 : w3.cell? ⟨C, 0, none⟩ = some (.string line) ∧ w3.cell? ⟨C, 3, none⟩ = some (.int .i64 f) := ⟨Blk.cell B3.out 0, Blk.cell B3.out 3⟩
  refine hK.out _ _ hS3 (fun _ => ?_)
  clear hK K
  refine wpAnyH_take (i := 16) (v := .pointer (some ⟨C, 0, none⟩)) rfl (by kernel_rfl) (by kernel_rfl) (by kernel_rfl) (fun _ _ _ h => h) (Or.inl ⟨by rfl, fun w' _ => by go_simp⟩) hS3 ?_
  refine wpAnyH_take (i := 17) (v := .pointer (some ⟨C, 4, none⟩)) rfl (by kernel_rfl) (by kernel_rfl) (by kernel_rfl) (fun _ _ _ h => h) (Or.inl ⟨by rfl, fun w' _ => by go_simp⟩) hS3 ?_
  refine wpAnyH_ready (rs := [18]) (by kernel_rfl) (by simp) ?_
  refine AllReadyH.cons rfl (fun K hK => ?_) AllReadyH.nil
  go_simp
  rw [← HW4.out]
  refine hK.out _ _ ⟨Blk.cell B4.out 0, Blk.cell B4.out 3⟩ (fun _ => ?_)
  refine wpAnyH_done (by kernel_rfl) ?_ _
  clear hK K hS hS3 SC S0 k4 j4 g4 HW4 B3 R1 HB
  go_wp2_with fail
  refine bodyPost_ret (results_none rfl _ _ _) rfl ?_
  have c5 : Chg (fun k => k = C) W4 (W4.setCell ⟨C, 2, none⟩ (.int .i64 3)) := (Chg.refl (fun k => k = C) _).setCell (p := ⟨C, 2, none⟩) (.inl rfl) _
  exact ⟨⟨_, rfl⟩, _, Blk.set B4.out 2 _, BL.kept T4.out c5 (fun k hk => own_one T4.out B4.out (by decide) hk), Chg.trans CH4.out c5 (fun _ e => .inl (.inl e))⟩

set_option maxRecDepth 100000 in
set_option maxHeartbeats 4000000 in
theorem inQ_end {B f pos : Nat} {t : List UInt8} {ws : List (List UInt8)} (hb : Blk w C (cuC line W wh f T h) 35) (hT : BL w B T t) (hW : SL w B W ws) (hws : ws.length ≤ 65536) (hB : B ≤ w.heap.size) (hl : t.length ≤ 65536) (h1 : f ≤ pos) (h2 : pos ≤ line.size) (h3 : line.size ≤ 65536) :
    Calls Try.prog 17 #[.pointer (some ⟨C, 0, none⟩), .int .i64 pos, .int .i32 34] w fun e w' => (∃ v, e = .returned v) ∧ ∃ W' T', Blk w' C (cuC line W' 6 f T' h) 35 ∧ SL w' B W' (ws ++ [t ++ cut line f pos]) ∧ Chg (fun k => k = C ∨ some k = T.ownBlock ∨ some k = W.ownBlock) w w' := by
  obtain ⟨x, hx⟩ : ∃ x, x = cut line f pos := ⟨_, rfl⟩
  have xs : x.length ≤ 65536 := by rw [hx, cut_length line h2]; omega
  have SC : ∀ w, (Instr.slice 9 (.string line) (some (.int .i64 f)) (some (.int .i64 pos)) none).run Try.prog w = .ok (.string ⟨x.toArray⟩) w := fun w => by rw [hx]; exact slice_cut w h1 h2
  rw [← hx]
  clear hx h1 h2
  have hne : ∀ k, T.ownBlock = some k → k ≠ C := fun k hk => own_one hT hb (by decide) hk
  have hnw : ∀ k, W.ownBlock = some k → k ≠ C := fun k hk => own_one hW hb (by decide) hk
  have hnt : ∀ k, W.ownBlock = some k → ¬ some k = T.ownBlock := fun k hk e => by
    obtain ⟨_, _, c1, e1⟩ := own_block hW hk
    obtain ⟨_, _, c2, e2⟩ := own_block hT e.symm
    rw [e1] at e2
    cases e2
  obtain ⟨AW, cW, rfl⟩ := own_form hW
  obtain ⟨m, hm⟩ : ∃ m, m = ws.length := ⟨_, rfl⟩
  rw [← hm] at hb hW hnw hnt ⊢
  clear hm
  obtain ⟨A, c, rfl⟩ := own_form hT
  obtain ⟨n, hn⟩ : ∃ n, n = t.length := ⟨_, rfl⟩
  rw [← hn] at hb hT hne hnt ⊢
  clear hn
  have FIN : Hid (∃ A' n' c' w3, (Builtin.append_ #[22, 9] 22 #[.slice A n c, .string ⟨x.toArray⟩]).run Try.prog w.drew = .ok (.slice A' n' c') w3 ∧ BL w3 B (.slice A' n' c') (t ++ x) ∧ Blk w3 C (cuC line (.slice AW m cW) wh f (.slice A n c) h) 35 ∧ Chg (fun k => some k = (Value.slice A n c).ownBlock) w w3) := by
    have c1 : Chg (fun _ => False) w w.drew := (Chg.refl _ _).drew
    obtain ⟨v', w3, r1, r2, r3⟩ := app_text (w := w.drew) (hT.kept c1 (fun _ _ e => e)) hB x (by omega) 22
    obtain ⟨A', c', rfl⟩ := own_form r2
    exact ⟨A', _, c', w3, r1, r2, (hb.keep c1 (fun e => e)).keep r3 (fun e => hne C e.symm rfl), (c1.mono (fun _ _ e => e.elim)).trans r3 (fun _ e => .inl e)⟩
  obtain ⟨A', n', c', w3, r1, r2, r3, r4⟩ := FIN.out
  have q3 : ∀ k, (Value.slice A' n' c').ownBlock = some k → k ≠ C := fun k hk => own_one r2 r3 (by decide) hk
  have HB : Hid _ := hb
  have S0 : Hid (w.drew.cell? ⟨C, 0, none⟩ = some (.string line) ∧ w.drew.cell? ⟨C, 3, none⟩ = some (.int .i64 f)) := ⟨hb.cell 0, hb.cell 3⟩
  obtain ⟨W4, hW4⟩ : ∃ W4, W4 = w3.setCell ⟨C, 4, none⟩ (.slice A' n' c') := ⟨_, rfl⟩
  have c4 : Chg (fun k => k = C) w3 W4 := by rw [hW4]; exact (Chg.refl (fun k => k = C) _).setCell (p := ⟨C, 4, none⟩) (.inl rfl) _
  have b4 : Blk W4 C (cuC line (.slice AW m cW) wh f (.slice A' n' c') h) 35 := by rw [hW4]; exact r3.set 4 _
  have t4 : BL W4 B (.slice A' n' c') (t ++ x) := r2.kept c4 (fun k hk => q3 k hk)
  have ch4 : Chg (fun k => k = C ∨ some k = (Value.slice A n c).ownBlock) w W4 := (r4.mono (fun _ _ e => .inr e)).trans c4 (fun _ e => .inl (.inl e))
  have B3 : Hid _ := r3
  have R1 : Hid _ := r1
  have B4 : Hid _ := b4
  have T4 : Hid _ := t4
  have CH4 : Hid _ := ch4
  have HW4 : Hid _ := hW4
  have k4 : w.drew.cell? ⟨C, 4, none⟩ = some (.slice A n c) := hb.cell 4
  have j4 : w3.cell? ⟨C, 4, none⟩ = some (.slice A n c) := r3.cell 4
  have g4 : w3.frozen? ⟨C, 4, none⟩ = false := r3.fr 4
  obtain ⟨y, hy⟩ : ∃ y, y = t ++ x := ⟨_, rfl⟩
  rw [← hy] at t4 T4 ⊢
  have ys : y.length ≤ 131072 := by rw [hy, List.length_append]; omega
  have w4 : SL W4 B (.slice AW m cW) ws := (hW.kept r4 (fun k hk => hnt k hk)).kept c4 (fun k hk => hnw k hk)
  have z4 : B ≤ W4.heap.size := Nat.le_trans hB ch4.size
  have NW : Hid (∀ (w3 : World) (k : Nat), Blk w3 C (cuC line (.slice AW m cW) wh f (.slice A' n' c') h) 35 → BL w3 B (.slice A' n' c') y → SL w3 B (.slice AW m cW) ws → (Value.slice AW m cW).ownBlock = some k → k ≠ C ∧ ¬ (Value.slice A' n' c').ownBlock = some k) := fun w3 k q1 q2 q3 hk => ⟨own_one q3 q1 (by decide) hk, fun e => by
    obtain ⟨_, _, c1, e1⟩ := own_block q3 hk
    obtain ⟨_, _, c2, e2⟩ := own_block q2 e
    rw [e1] at e2
    cases e2⟩
  have FIN2 : Hid (∃ A2 n2 c2 w5, (Builtin.append_ #[24, 24] 24 #[.slice AW m cW, .slice (some ⟨W4.heap.size, 0, none⟩) 1 1]).run Try.prog (W4.drew.alloc (.cells #[.string ⟨y.toArray⟩] 9)) = .ok (.slice A2 n2 c2) w5 ∧ SL w5 B (.slice A2 n2 c2) (ws ++ [y]) ∧ Blk w5 C (cuC line (.slice AW m cW) wh f (.slice A' n' c') h) 35 ∧ BL w5 B (.slice A' n' c') y ∧ Chg (fun k => some k = (Value.slice AW m cW).ownBlock) W4 w5) := by
    have c1 : Chg (fun _ => False) W4 (W4.drew.alloc (.cells #[.string ⟨y.toArray⟩] 9)) := (Chg.refl _ _).drew.alloc _
    have x1 : (W4.drew.alloc (.cells #[.string ⟨y.toArray⟩] 9)).cell? ⟨W4.heap.size, 0, none⟩ = some (.string ⟨y.toArray⟩) := by
      have := (Blk.made W4.drew [.string ⟨y.toArray⟩] 9).cell 0
      exact this
    obtain ⟨v2, w5, r1, r2, r3, _⟩ := app_str (w4.kept c1 (fun _ _ e => e)) (Nat.le_trans z4 c1.size) y (c := 1) x1 (by omega) 24
    obtain ⟨A2, c2, rfl⟩ := own_form r2
    refine ⟨A2, _, c2, w5, r1, r2, (b4.keep c1 (fun e => e)).keep r3 (fun e => (NW.out _ _ b4 t4 w4 e.symm).1 rfl), (t4.kept c1 (fun _ _ e => e)).kept r3 (fun k hk e => (NW.out _ _ b4 t4 w4 e.symm).2 hk), (c1.mono (fun _ _ e => e.elim)).trans r3 (fun _ e => .inl e)⟩
  obtain ⟨A2, n2, c2, w5, s1, s2, s3, s4, s5⟩ := FIN2.out
  have S1 : Hid _ := s1
  have S2 : Hid (SL w5 B (.slice A2 n2 c2) (ws ++ [y]) ∧ Blk w5 C (cuC line (.slice AW m cW) wh f (.slice A' n' c') h) 35 ∧ BL w5 B (.slice A' n' c') y ∧ Chg (fun k => k = C ∨ some k = (Value.slice A n c).ownBlock ∨ some k = (Value.slice AW m cW).ownBlock) w w5) :=
    ⟨s2, s3, s4, (ch4.mono (fun _ _ e => e.elim .inl (fun e => .inr (.inl e)))).trans s5 (fun _ e => .inl (.inr (.inr e)))⟩
  have kW : W4.drew.cell? ⟨C, 1, none⟩ = some (.slice AW m cW) := b4.cell 1
  have kW2 : (W4.drew.alloc (.cells #[.string ⟨y.toArray⟩] 9)).cell? ⟨C, 1, none⟩ = some (.slice AW m cW) := (b4.drew.alloc _).cell 1
  have kW3 : (W4.alloc (.cells #[.string ⟨y.toArray⟩] 9)).cell? ⟨C, 1, none⟩ = some (.slice AW m cW) := (b4.alloc _).cell 1
  have kW5 : w5.cell? ⟨C, 1, none⟩ = some (.slice AW m cW) := s3.cell 1
  have fW5 : w5.frozen? ⟨C, 1, none⟩ = false := s3.fr 1
  have HS0 : Hid (W4.drew.cell? ⟨C, 4, none⟩ = some (.slice A' n' c') ∧ BL W4.drew B (.slice A' n' c') y) := ⟨b4.cell 4, t4⟩
  have HS2 : Hid ((W4.drew.alloc (.cells #[.string ⟨y.toArray⟩] 9)).cell? ⟨C, 4, none⟩ = some (.slice A' n' c') ∧ BL (W4.drew.alloc (.cells #[.string ⟨y.toArray⟩] 9)) B (.slice A' n' c') y) := ⟨(b4.drew.alloc _).cell 4, BL.kept (w := W4) t4 ((Chg.refl (fun _ => False) _).drew.alloc _) (fun _ _ e => e)⟩
  clear hnw hnt hW w4 z4 FIN2 s1 s2 s3 s4 s5 hy NW
  clear hb hT hne FIN r1 r2 r3 r4 q3 c4 b4 t4 ch4 hW4
  go_enter Try.func17, Try.ntmps17
  go_upto_region 1 with fail
  refine wp_region_held_drew (S := fun w' => w'.cell? ⟨C, 0, none⟩ = some (.string line) ∧ w'.cell? ⟨C, 3, none⟩ = some (.int .i64 f)) (by kernel_rfl) S0.out (fun hS => ?_)
  refine wpAnyH_take (i := 0) (v := .pointer (some ⟨C, 0, none⟩)) rfl (by kernel_rfl) (by kernel_rfl) (by kernel_rfl) (fun _ _ _ h => h) (Or.inl ⟨by rfl, fun w' _ => by go_simp⟩) hS ?_
  refine wpAnyH_take (i := 1) (v := .pointer (some ⟨C, 0, none⟩)) rfl (by kernel_rfl) (by kernel_rfl) (by kernel_rfl) (fun _ _ _ h => h) (Or.inl ⟨by rfl, fun w' _ => by go_simp⟩) hS ?_
  refine wpAnyH_take (i := 2) (v := .pointer (some ⟨C, 0, none⟩)) rfl (by kernel_rfl) (by kernel_rfl) (by kernel_rfl) (fun _ _ _ h => h) (Or.inl ⟨by rfl, fun w' _ => by go_simp⟩) hS ?_
  refine wpAnyH_take (i := 3) (v := .pointer (some ⟨C, 4, none⟩)) rfl (by kernel_rfl) (by kernel_rfl) (by kernel_rfl) (fun _ _ _ h => h) (Or.inl ⟨by rfl, fun w' _ => by go_simp⟩) hS ?_
  refine wpAnyH_take (i := 5) (v := .pointer (some ⟨C, 0, none⟩)) rfl (by kernel_rfl) (by kernel_rfl) (by kernel_rfl) (fun _ _ _ h => h) (Or.inl ⟨by rfl, fun w' _ => by go_simp⟩) hS ?_
  refine wpAnyH_take (i := 6) (v := .pointer (some ⟨C, 0, none⟩)) rfl (by kernel_rfl) (by kernel_rfl) (by kernel_rfl) (fun _ _ _ h => h) (Or.inl ⟨by rfl, fun w' _ => by go_simp⟩) hS ?_
  refine wpAnyH_take (i := 7) (v := .pointer (some ⟨C, 0, none⟩)) rfl (by kernel_rfl) (by kernel_rfl) (by kernel_rfl) (fun _ _ _ h => h) (Or.inl ⟨by rfl, fun w' _ => by go_simp⟩) hS ?_
  refine wpAnyH_take (i := 8) (v := .string line) rfl (by kernel_rfl) (by kernel_rfl) (by kernel_rfl) (fun _ _ _ h => h) (Or.inl ⟨by rfl, fun w' hw' => by have q := hw'.1; go_simp⟩) hS ?_
  refine wpAnyH_take (i := 9) (v := .pointer (some ⟨C, 0, none⟩)) rfl (by kernel_rfl) (by kernel_rfl) (by kernel_rfl) (fun _ _ _ h => h) (Or.inl ⟨by rfl, fun w' _ => by go_simp⟩) hS ?_
  refine wpAnyH_take (i := 10) (v := .pointer (some ⟨C, 0, none⟩)) rfl (by kernel_rfl) (by kernel_rfl) (by kernel_rfl) (fun _ _ _ h => h) (Or.inl ⟨by rfl, fun w' _ => by go_simp⟩) hS ?_
  refine wpAnyH_take (i := 11) (v := .pointer (some ⟨C, 3, none⟩)) rfl (by kernel_rfl) (by kernel_rfl) (by kernel_rfl) (fun _ _ _ h => h) (Or.inl ⟨by rfl, fun w' _ => by go_simp⟩) hS ?_
  refine wpAnyH_take (i := 12) (v := .int .i64 f) rfl (by kernel_rfl) (by kernel_rfl) (by kernel_rfl) (fun _ _ _ h => h) (Or.inl ⟨by rfl, fun w' hw' => by have q := hw'.2; go_simp⟩) hS ?_
  refine wpAnyH_take (i := 13) (v := .int .i64 pos) rfl (by kernel_rfl) (by kernel_rfl) (by kernel_rfl) (fun _ _ _ h => h) (Or.inl ⟨by rfl, fun w' _ => by go_simp⟩) hS ?_
  refine wpAnyH_take (i := 14) (v := .string ⟨x.toArray⟩) rfl (by kernel_rfl) (by kernel_rfl) (by kernel_rfl) (fun _ _ _ h => h) (Or.inl ⟨by rfl, fun w' _ => by go_simp⟩) hS ?_
  refine wpAnyH_ready (rs := [4]) (by kernel_rfl) (by simp) ?_
  refine AllReadyH.cons rfl (fun K hK => ?_) AllReadyH.nil
  go_simp
  refine hK.out _ _ hS (fun _ => ?_)
  clear hK K
  refine wpAnyH_ready (rs := [15]) (by kernel_rfl) (by simp) ?_
  refine AllReadyH.cons rfl (fun K hK => ?_) AllReadyH.nil
  rw [if_pos (by rfl)]
  refine wp_appG (sl := 22) (su := 9) (.tmp 16) (.tmp 26) rfl (v := .slice A n c) (u := .string ⟨x.toArray⟩) (v' := .slice A' n' c') (w' := w3) rfl rfl R1.out ?_
  have hS3 : w3.cell? ⟨C, 0, none⟩ = some (.string line) ∧ w3.cell? ⟨C, 3, none⟩ = some (.int .i64 f) := ⟨Blk.cell B3.out 0, Blk.cell B3.out 3⟩
  refine hK.out _ _ hS3 (fun _ => ?_)
  clear hK K
  refine wpAnyH_take (i := 16) (v := .pointer (some ⟨C, 0, none⟩)) rfl (by kernel_rfl) (by kernel_rfl) (by kernel_rfl) (fun _ _ _ h => h) (Or.inl ⟨by rfl, fun w' _ => by go_simp⟩) hS3 ?_
  refine wpAnyH_take (i := 17) (v := .pointer (some ⟨C, 4, none⟩)) rfl (by kernel_rfl) (by kernel_rfl) (by kernel_rfl) (fun _ _ _ h => h) (Or.inl ⟨by rfl, fun w' _ => by go_simp⟩) hS3 ?_
  refine wpAnyH_ready (rs := [18]) (by kernel_rfl) (by simp) ?_
  refine AllReadyH.cons rfl (fun K hK => ?_) AllReadyH.nil
  go_simp
  rw [← HW4.out]
  refine hK.out _ _ ⟨Blk.cell B4.out 0, Blk.cell B4.out 3⟩ (fun _ => ?_)
  refine wpAnyH_done (by kernel_rfl) ?_ _
  clear hK K hS hS3 SC S0 k4 j4 g4 HW4 B3 R1 HB
  go_upto_region 4 with fail
  refine wp_region_held_drew (S := fun w' => w'.cell? ⟨C, 4, none⟩ = some (.slice A' n' c') ∧ BL w' B (.slice A' n' c') y) (by kernel_rfl) HS0.out (fun hS => ?_)
  refine wpAnyH_take (i := 0) (v := .pointer (some ⟨C, 0, none⟩)) rfl (by kernel_rfl) (by kernel_rfl) (by kernel_rfl) (fun _ _ _ h => h) (Or.inl ⟨by rfl, fun w' _ => by go_simp⟩) hS ?_
  refine wpAnyH_take (i := 1) (v := .pointer (some ⟨C, 0, none⟩)) rfl (by kernel_rfl) (by kernel_rfl) (by kernel_rfl) (fun _ _ _ h => h) (Or.inl ⟨by rfl, fun w' _ => by go_simp⟩) hS ?_
  refine wpAnyH_take (i := 2) (v := .pointer (some ⟨C, 0, none⟩)) rfl (by kernel_rfl) (by kernel_rfl) (by kernel_rfl) (fun _ _ _ h => h) (Or.inl ⟨by rfl, fun w' _ => by go_simp⟩) hS ?_
  refine wpAnyH_take (i := 3) (v := .pointer (some ⟨C, 1, none⟩)) rfl (by kernel_rfl) (by kernel_rfl) (by kernel_rfl) (fun _ _ _ h => h) (Or.inl ⟨by rfl, fun w' _ => by go_simp⟩) hS ?_
  refine wpAnyH_take (i := 5) (v := .pointer (some ⟨C, 0, none⟩)) rfl (by kernel_rfl) (by kernel_rfl) (by kernel_rfl) (fun _ _ _ h => h) (Or.inl ⟨by rfl, fun w' _ => by go_simp⟩) hS ?_
  refine wpAnyH_take (i := 6) (v := .pointer (some ⟨C, 0, none⟩)) rfl (by kernel_rfl) (by kernel_rfl) (by kernel_rfl) (fun _ _ _ h => h) (Or.inl ⟨by rfl, fun w' _ => by go_simp⟩) hS ?_
  refine wpAnyH_take (i := 7) (v := .pointer (some ⟨C, 4, none⟩)) rfl (by kernel_rfl) (by kernel_rfl) (by kernel_rfl) (fun _ _ _ h => h) (Or.inl ⟨by rfl, fun w' _ => by go_simp⟩) hS ?_
  refine wpAnyH_take (i := 8) (v := .slice A' n' c') rfl (by kernel_rfl) (by kernel_rfl) (by kernel_rfl) (fun _ _ _ h => h) (Or.inl ⟨by rfl, fun w' hw' => by have q := hw'.1; go_simp⟩) hS ?_
  refine wpAnyH_take (i := 9) (v := .string ⟨y.toArray⟩) rfl (by kernel_rfl) (by kernel_rfl) (by kernel_rfl) (fun _ _ _ h => h) (Or.inl ⟨by rfl, fun w' hw' => by have q := hw'.2.str; go_simp⟩) hS ?_
  refine wpAnyH_ready (rs := [4, 10]) (by kernel_rfl) (by simp) ?_
  refine AllReadyH.cons rfl (fun K hK => ?_) (AllReadyH.cons rfl (fun K hK => ?_) AllReadyH.nil)
  · go_simp
    refine hK.out _ _ hS (fun _ => ?_)
    clear hK K
    refine wpAnyH_ready (rs := [10]) (by kernel_rfl) (by simp) ?_
    refine AllReadyH.cons rfl (fun K hK => ?_) AllReadyH.nil
    go_simp
    refine hK.out _ _ HS2.out (fun _ => ?_)
    clear hK K
    refine wpAnyH_ready (rs := [11]) (by kernel_rfl) (by simp) ?_
    refine AllReadyH.cons rfl (fun K hK => ?_) AllReadyH.nil
    rw [if_pos (by rfl)]
    refine wp_appG (sl := 24) (su := 24) (.tmp 39) (.tmp 45) rfl (v := .slice AW m cW) (u := .slice (some ⟨W4.heap.size, 0, none⟩) 1 1) (v' := .slice A2 n2 c2) (w' := w5) rfl rfl S1.out ?_
    have hS5 : w5.cell? ⟨C, 4, none⟩ = some (.slice A' n' c') ∧ BL w5 B (.slice A' n' c') y := ⟨Blk.cell S2.out.2.1 4, S2.out.2.2.1⟩
    refine hK.out _ _ hS5 (fun _ => ?_)
    clear hK K
    refine wpAnyH_take (i := 12) (v := .pointer (some ⟨C, 0, none⟩)) rfl (by kernel_rfl) (by kernel_rfl) (by kernel_rfl) (fun _ _ _ h => h) (Or.inl ⟨by rfl, fun w' _ => by go_simp⟩) hS5 ?_
    refine wpAnyH_take (i := 13) (v := .pointer (some ⟨C, 1, none⟩)) rfl (by kernel_rfl) (by kernel_rfl) (by kernel_rfl) (fun _ _ _ h => h) (Or.inl ⟨by rfl, fun w' _ => by go_simp⟩) hS5 ?_
    refine wpAnyH_ready (rs := [14]) (by kernel_rfl) (by simp) ?_
    refine AllReadyH.cons rfl (fun K hK => ?_) AllReadyH.nil
    go_simp
    have c6 : Chg (fun k => k = C) w5 (w5.setCell ⟨C, 1, none⟩ (.slice A2 n2 c2)) := (Chg.refl (fun k => k = C) _).setCell (p := ⟨C, 1, none⟩) (.inl rfl) _
    have B6 : Hid _ := Blk.set S2.out.2.1 1 (.slice A2 n2 c2)
    have T6 := BL.kept S2.out.2.2.1 c6 (fun k hk => own_one S2.out.2.2.1 S2.out.2.1 (by decide) hk)
    refine hK.out _ _ ⟨Blk.cell B6.out 4, T6⟩ (fun _ => ?_)
    refine wpAnyH_done (by kernel_rfl) ?_ _
    have SL6 : Hid _ := SL.kept S2.out.1 c6 (fun k hk => own_one S2.out.1 S2.out.2.1 (by decide) hk)
    have CH6 : Hid _ := Chg.trans S2.out.2.2.2 c6 (fun _ e => .inl (.inl e))
    obtain ⟨W6, hW6⟩ : ∃ W6, W6 = w5.setCell ⟨C, 1, none⟩ (.slice A2 n2 c2) := ⟨_, rfl⟩
    rw [← hW6] at B6 SL6 CH6 ⊢
    have k2 : W6.cell? ⟨C, 2, none⟩ = some (.int .i64 wh) := Blk.cell B6.out 2
    have f2 : W6.frozen? ⟨C, 2, none⟩ = false := Blk.fr B6.out 2
    clear hW6 c6 T6 kW kW2 kW3 kW5 fW5 hS5 hS hK K S1 S2 HS0 HS2
    go_wp2_with fail
    go_end0
    have c5 : Chg (fun k => k = C) W6 (W6.setCell ⟨C, 2, none⟩ (.int .i64 6)) := (Chg.refl (fun k => k = C) _).setCell (p := ⟨C, 2, none⟩) (.inl rfl) _
    exact ⟨⟨_, rfl⟩, _, _, Blk.set B6.out 2 _, SL.kept SL6.out c5 (fun k hk => own_one SL6.out B6.out (by decide) hk), Chg.trans CH6.out c5 (fun _ e => .inl (.inl e))⟩
  · go_simp
    refine hK.out _ _ HS2.out (fun _ => ?_)
    clear hK K
    refine wpAnyH_ready (rs := [4]) (by kernel_rfl) (by simp) ?_
    refine AllReadyH.cons rfl (fun K hK => ?_) AllReadyH.nil
    go_simp
    refine hK.out _ _ HS2.out (fun _ => ?_)
    clear hK K
    refine wpAnyH_ready (rs := [11]) (by kernel_rfl) (by simp) ?_
    refine AllReadyH.cons rfl (fun K hK => ?_) AllReadyH.nil
    rw [if_pos (by rfl)]
    refine wp_appG (sl := 24) (su := 24) (.tmp 39) (.tmp 45) rfl (v := .slice AW m cW) (u := .slice (some ⟨W4.heap.size, 0, none⟩) 1 1) (v' := .slice A2 n2 c2) (w' := w5) rfl rfl S1.out ?_
    have hS5 : w5.cell? ⟨C, 4, none⟩ = some (.slice A' n' c') ∧ BL w5 B (.slice A' n' c') y := ⟨Blk.cell S2.out.2.1 4, S2.out.2.2.1⟩
    refine hK.out _ _ hS5 (fun _ => ?_)
    clear hK K
    refine wpAnyH_take (i := 12) (v := .pointer (some ⟨C, 0, none⟩)) rfl (by kernel_rfl) (by kernel_rfl) (by kernel_rfl) (fun _ _ _ h => h) (Or.inl ⟨by rfl, fun w' _ => by go_simp⟩) hS5 ?_
    refine wpAnyH_take (i := 13) (v := .pointer (some ⟨C, 1, none⟩)) rfl (by kernel_rfl) (by kernel_rfl) (by kernel_rfl) (fun _ _ _ h => h) (Or.inl ⟨by rfl, fun w' _ => by go_simp⟩) hS5 ?_
    refine wpAnyH_ready (rs := [14]) (by kernel_rfl) (by simp) ?_
    refine AllReadyH.cons rfl (fun K hK => ?_) AllReadyH.nil
    go_simp
    have c6 : Chg (fun k => k = C) w5 (w5.setCell ⟨C, 1, none⟩ (.slice A2 n2 c2)) := (Chg.refl (fun k => k = C) _).setCell (p := ⟨C, 1, none⟩) (.inl rfl) _
    have B6 : Hid _ := Blk.set S2.out.2.1 1 (.slice A2 n2 c2)
    have T6 := BL.kept S2.out.2.2.1 c6 (fun k hk => own_one S2.out.2.2.1 S2.out.2.1 (by decide) hk)
    refine hK.out _ _ ⟨Blk.cell B6.out 4, T6⟩ (fun _ => ?_)
    refine wpAnyH_done (by kernel_rfl) ?_ _
    have SL6 : Hid _ := SL.kept S2.out.1 c6 (fun k hk => own_one S2.out.1 S2.out.2.1 (by decide) hk)
    have CH6 : Hid _ := Chg.trans S2.out.2.2.2 c6 (fun _ e => .inl (.inl e))
    obtain ⟨W6, hW6⟩ : ∃ W6, W6 = w5.setCell ⟨C, 1, none⟩ (.slice A2 n2 c2) := ⟨_, rfl⟩
    rw [← hW6] at B6 SL6 CH6 ⊢
    have k2 : W6.cell? ⟨C, 2, none⟩ = some (.int .i64 wh) := Blk.cell B6.out 2
    have f2 : W6.frozen? ⟨C, 2, none⟩ = false := Blk.fr B6.out 2
    clear hW6 c6 T6 kW kW2 kW3 kW5 fW5 hS5 hS hK K S1 S2 HS0 HS2
    go_wp2_with fail
    go_end0
    have c5 : Chg (fun k => k = C) W6 (W6.setCell ⟨C, 2, none⟩ (.int .i64 6)) := (Chg.refl (fun k => k = C) _).setCell (p := ⟨C, 2, none⟩) (.inl rfl) _
    exact ⟨⟨_, rfl⟩, _, _, Blk.set B6.out 2 _, SL.kept SL6.out c5 (fun k hk => own_one SL6.out B6.out (by decide) hk), Chg.trans CH6.out c5 (fun _ e => .inl (.inl e))⟩
end
end Go.Proofs.Ytnmlhlgeacdcgaa
