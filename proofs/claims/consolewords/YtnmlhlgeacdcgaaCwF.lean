/-
  The cutter's methods: a word ends; in quotes.
-/
import Derived.Test.YtnmlhlgeacdcgaaCwE
import Derived.Deep.Cut
namespace Go.Proofs.Ytnmlhlgeacdcgaa
open Go.RowKit

section
variable {w : World} {C : Nat} {line : ByteArray} {W T : Value} {wh fr h : Int}

theorem slice_cut (w : World) {f pos : Nat} (h1 : f ≤ pos) (h2 : pos ≤ line.size) : (Instr.slice 9 (.string line) (some (.int .i64 f)) (some (.int .i64 pos)) none).run Try.prog w = .ok (.string ⟨(cut line f pos).toArray⟩) w := by
  rw [run_slice_string w 9 line .i64 .i64 f pos Try.underlying9 (by omega) (by omega) (by omega), Int.toNat_natCast, Int.toNat_natCast, cut_extract]

set_option maxRecDepth 100000 in
set_option maxHeartbeats 4000000 in
theorem endWord_any {B f pos : Nat} {ws : List (List UInt8)} (hb : Blk w C (cuC line W wh f T h) 35) (hW : SL w B W ws) (hB : B ≤ w.heap.size) (hl : ws.length ≤ 65536) (h1 : f ≤ pos) (h2 : pos ≤ line.size) (h3 : line.size ≤ 65536) :
    Calls Try.prog 12 #[.pointer (some ⟨C, 0, none⟩), .int .i64 pos] w fun e w' => (∃ v, e = .returned v) ∧ ∃ W', Blk w' C (cuC line W' 0 f T h) 35 ∧ SL w' B W' (ws ++ [cut line f pos]) ∧ Chg (fun k => k = C ∨ some k = W.ownBlock) w w' := by
  obtain ⟨x, hx⟩ : ∃ x, x = cut line f pos := ⟨_, rfl⟩
  have xs : x.length ≤ 65536 := by rw [hx, cut_length line h2]; omega
  have SC : ∀ w, (Instr.slice 9 (.string line) (some (.int .i64 f)) (some (.int .i64 pos)) none).run Try.prog w = .ok (.string ⟨x.toArray⟩) w := fun w => by rw [hx]; exact slice_cut w h1 h2
  rw [← hx]
  clear hx h1 h2
  have hne : ∀ k, W.ownBlock = some k → k ≠ C := fun k hk => own_one hW hb (by decide) hk
  obtain ⟨A, c, rfl⟩ := own_form hW
  obtain ⟨n, hn⟩ : ∃ n, n = ws.length := ⟨_, rfl⟩
  rw [← hn] at hb hW hne ⊢
  clear hn
  have FIN : Hid (∀ w1, Chg (fun _ => False) w w1 → ∃ A' n' c' w3, (Builtin.append_ #[24, 24] 24 #[.slice A n c, .slice (some ⟨w1.heap.size, 0, none⟩) 1 1]).run Try.prog (w1.alloc (.cells #[.string ⟨x.toArray⟩] 9)) = .ok (.slice A' n' c') w3 ∧ SL w3 B (.slice A' n' c') (ws ++ [x]) ∧ Blk w3 C (cuC line (.slice A n c) wh f T h) 35 ∧ Chg (fun k => k = C ∨ some k = (Value.slice A n c).ownBlock) w w3) := fun w1 c0 => by
    have c1 : Chg (fun _ => False) w (w1.alloc (.cells #[.string ⟨x.toArray⟩] 9)) := c0.alloc _
    have x1 : (w1.alloc (.cells #[.string ⟨x.toArray⟩] 9)).cell? ⟨w1.heap.size, 0, none⟩ = some (.string ⟨x.toArray⟩) := by rw [cell_of_row _ _ _ _ 9 _ (heap_alloc_new _ _)]; rfl
    obtain ⟨v', w3, r1, r2, r3, _⟩ := app_str (hW.kept c1 (fun _ _ e => e)) (Nat.le_trans hB c1.size) x (c := 1) x1 (by omega) 24
    obtain ⟨A', c', rfl⟩ := own_form r2
    exact ⟨A', _, c', w3, r1, r2, (hb.keep c1 (fun e => e)).keep r3 (fun e => hne C e.symm rfl), (c1.mono (fun _ _ e => e.elim)).trans r3 (fun _ e => .inl (.inr e))⟩
  have OWN : Hid (∀ (w3 : World) A' n' c', SL w3 B (.slice A' n' c') (ws ++ [x]) → Blk w3 C (cuC line (.slice A n c) wh f T h) 35 → ∀ k, (Value.slice A' n' c').ownBlock = some k → k ≠ C) := fun w3 A' n' c' q1 q2 k hk => own_one q1 q2 (by decide) hk
  have CL : Hid (∀ w, Calls Try.prog 22 #[.string ⟨x.toArray⟩] w fun e w' => e = .returned (.string ⟨x.toArray⟩) ∧ Chg (fun _ => False) w w') := fun w => clone_any _ w (by rw [← bs_length, bs_mk]; omega)
  have HB : Hid _ := hb
  have S0 : (w.drew.cell? ⟨C, 0, none⟩ = some (.string line) ∧ w.drew.cell? ⟨C, 3, none⟩ = some (.int .i64 f)) := ⟨hb.cell 0, hb.cell 3⟩
  have KS : Hid (∀ w1, Blk w1 C (cuC line (.slice A n c) wh f T h) 35 → (w1.cell? ⟨C, 0, none⟩ = some (.string line) ∧ w1.cell? ⟨C, 3, none⟩ = some (.int .i64 f))) := fun w1 b => ⟨b.cell 0, b.cell 3⟩
  have H0 : Hid _ := S0
  clear hb hW hne S0
  go_enter Try.func12, Try.ntmps12
  go_wp2_with fail
  refine wp_region_held_drew (S := fun w' => w'.cell? ⟨C, 0, none⟩ = some (.string line) ∧ w'.cell? ⟨C, 3, none⟩ = some (.int .i64 f)) (by kernel_rfl) H0.out (fun hS => ?_)
  refine wpAnyH_take (i := 0) (v := .pointer (some ⟨C, 0, none⟩)) rfl (by kernel_rfl) (by kernel_rfl) (by kernel_rfl) (fun _ _ _ h => h) (Or.inl ⟨by rfl, fun w' _ => by go_simp⟩) hS ?_
  refine wpAnyH_take (i := 1) (v := .pointer (some ⟨C, 0, none⟩)) rfl (by kernel_rfl) (by kernel_rfl) (by kernel_rfl) (fun _ _ _ h => h) (Or.inl ⟨by rfl, fun w' _ => by go_simp⟩) hS ?_
  refine wpAnyH_take (i := 2) (v := .pointer (some ⟨C, 0, none⟩)) rfl (by kernel_rfl) (by kernel_rfl) (by kernel_rfl) (fun _ _ _ h => h) (Or.inl ⟨by rfl, fun w' _ => by go_simp⟩) hS ?_
  refine wpAnyH_take (i := 3) (v := .pointer (some ⟨C, 1, none⟩)) rfl (by kernel_rfl) (by kernel_rfl) (by kernel_rfl) (fun _ _ _ h => h) (Or.inl ⟨by rfl, fun w' _ => by go_simp⟩) hS ?_
  refine wpAnyH_take (i := 5) (v := .pointer (some ⟨C, 0, none⟩)) rfl (by kernel_rfl) (by kernel_rfl) (by kernel_rfl) (fun _ _ _ h => h) (Or.inl ⟨by rfl, fun w' _ => by go_simp⟩) hS ?_
  refine wpAnyH_take (i := 6) (v := .pointer (some ⟨C, 0, none⟩)) rfl (by kernel_rfl) (by kernel_rfl) (by kernel_rfl) (fun _ _ _ h => h) (Or.inl ⟨by rfl, fun w' _ => by go_simp⟩) hS ?_
  refine wpAnyH_take (i := 7) (v := .pointer (some ⟨C, 0, none⟩)) rfl (by kernel_rfl) (by kernel_rfl) (by kernel_rfl) (fun _ _ _ h => h) (Or.inl ⟨by rfl, fun w' _ => by go_simp⟩) hS ?_
  refine wpAnyH_take (i := 8) (v := .string line) rfl (by kernel_rfl) (by kernel_rfl) (by kernel_rfl) (fun _ _ _ h => h) (Or.inl ⟨by rfl, fun w' hw' => by have q := hw'.1; go_simp⟩) hS ?_
  refine wpAnyH_take (i := 9) (v := .pointer (some ⟨C, 0, none⟩)) rfl (by kernel_rfl) (by kernel_rfl) (by kernel_rfl) (fun _ _ _ h => h) (Or.inl ⟨by rfl, fun w' _ => by go_simp⟩) hS ?_
  refine wpAnyH_take (i := 10) (v := .pointer (some ⟨C, 0, none⟩)) rfl (by kernel_rfl) (by kernel_rfl) (by kernel_rfl) (fun _ _ _ h => h) (Or.inl ⟨by rfl, fun w' _ => by go_simp⟩) hS ?_
  refine wpAnyH_take (i := 11) (v := .pointer (some ⟨C, 3, none⟩)) rfl (by kernel_rfl) (by kernel_rfl) (by kernel_rfl) (fun _ _ _ h => h) (Or.inl ⟨by rfl, fun w' _ => by go_simp⟩) hS ?_
  refine wpAnyH_take (i := 12) (v := .int .i64 f) rfl (by kernel_rfl) (by kernel_rfl) (by kernel_rfl) (fun _ _ _ h => h) (Or.inl ⟨by rfl, fun w' hw' => by have q := hw'.2; go_simp⟩) hS ?_
  refine wpAnyH_take (i := 13) (v := .int .i64 pos) rfl (by kernel_rfl) (by kernel_rfl) (by kernel_rfl) (fun _ _ _ h => h) (Or.inl ⟨by rfl, fun w' _ => by go_simp⟩) hS ?_
  refine wpAnyH_take (i := 14) (v := .string ⟨x.toArray⟩) rfl (by kernel_rfl) (by kernel_rfl) (by kernel_rfl) (fun _ _ _ h => h) (Or.inl ⟨by rfl, fun w' _ => by go_simp⟩) hS ?_
  refine wpAnyH_ready (rs := [4, 15]) (by kernel_rfl) (by simp) ?_
  refine AllReadyH.cons rfl (fun K hK => ?_) (AllReadyH.cons rfl (fun K hK => ?_) AllReadyH.nil)
  · have k1 : (w.drew).cell? ⟨C, 1, none⟩ = some (.slice A n c) := (HB.out.drew).cell 1
    go_simp
    refine hK.out _ _ hS (fun _ => ?_)
    clear hK K k1
    refine wpAnyH_ready (rs := [15]) (by kernel_rfl) (by simp) ?_
    refine AllReadyH.cons rfl (fun K hK => ?_) AllReadyH.nil
    go_simp
    refine Calls.mono (CL.out _) ?_
    rintro e w1 ⟨rfl, hc⟩
    have hc1 : Chg (fun _ => False) w w1 := (Chg.refl _ _).drew.trans hc (fun _ e => e.elim)
    obtain ⟨A', n', c', w3, r1, r2, r3, r4⟩ := FIN.out w1 hc1
    have B1 : Hid _ := HB.out.keep hc1 (fun e => e)
    have R1 : Hid _ := r1
    have R2 : Hid _ := And.intro r2 (And.intro r3 r4)
    clear r1 r2 r3 r4 hc hc1
    have hS1 := KS.out _ B1.out
    refine hK.out _ _ hS1 (fun _ => ?_)
    clear hK K
    refine wpAnyH_ready (rs := [16]) (by kernel_rfl) (by simp) ?_
    refine AllReadyH.cons rfl (fun K hK => ?_) AllReadyH.nil
    go_simp
    have B2 : Hid _ := B1.out.alloc (.cells #[.string ⟨x.toArray⟩] 9)
    have hS2 := KS.out _ B2.out
    refine hK.out _ _ hS2 (fun _ => ?_)
    clear hK K
    refine wpAnyH_ready (rs := [17]) (by kernel_rfl) (by simp) ?_
    refine AllReadyH.cons rfl (fun K hK => ?_) AllReadyH.nil
    rw [if_pos (by rfl)]
    refine wp_appG (sl := 24) (su := 24) (.tmp 8) (.tmp 20) rfl (v := .slice A n c) (u := .slice (some ⟨w1.heap.size, 0, none⟩) 1 1) (v' := .slice A' n' c') (w' := w3) rfl rfl R1.out ?_
    have hS3 := KS.out _ R2.out.2.1
    refine hK.out _ _ hS3 (fun _ => ?_)
    clear hK K
    refine wpAnyH_take (i := 18) (v := .pointer (some ⟨C, 0, none⟩)) rfl (by kernel_rfl) (by kernel_rfl) (by kernel_rfl) (fun _ _ _ h => h) (Or.inl ⟨by rfl, fun w' _ => by go_simp⟩) hS3 ?_
    refine wpAnyH_take (i := 19) (v := .pointer (some ⟨C, 1, none⟩)) rfl (by kernel_rfl) (by kernel_rfl) (by kernel_rfl) (fun _ _ _ h => h) (Or.inl ⟨by rfl, fun w' _ => by go_simp⟩) hS3 ?_
    refine wpAnyH_ready (rs := [20]) (by kernel_rfl) (by simp) ?_
    refine AllReadyH.cons rfl (fun K hK => ?_) AllReadyH.nil
    have k1 : w3.cell? ⟨C, 1, none⟩ = some (.slice A n c) := Blk.cell R2.out.2.1 1
    have f1 : w3.frozen? ⟨C, 1, none⟩ = false := Blk.fr R2.out.2.1 1
    go_simp
    have B4 : Hid _ := Blk.set R2.out.2.1 1 (.slice A' n' c')
    refine hK.out _ _ ⟨Blk.cell B4.out 0, Blk.cell B4.out 3⟩ (fun _ => ?_)
    refine wpAnyH_done (by kernel_rfl) ?_ _
    have c4 : Chg (fun k => k = C) w3 (w3.setCell ⟨C, 1, none⟩ (.slice A' n' c')) := (Chg.refl (fun k => k = C) _).setCell (p := ⟨C, 1, none⟩) (.inl rfl) _
    have SL4 : Hid _ := SL.kept R2.out.1 c4 (OWN.out _ _ _ _ R2.out.1 R2.out.2.1)
    have CH4 : Hid _ := Chg.trans R2.out.2.2 c4 (fun _ e => .inl (.inl e))
    obtain ⟨W4, hW4⟩ : ∃ W4, W4 = w3.setCell ⟨C, 1, none⟩ (.slice A' n' c') := ⟨_, rfl⟩
    rw [← hW4] at B4 SL4 CH4 ⊢
    have k2 : W4.cell? ⟨C, 2, none⟩ = some (.int .i64 wh) := Blk.cell B4.out 2
    have f2 : W4.frozen? ⟨C, 2, none⟩ = false := Blk.fr B4.out 2
    clear hW4 c4 k1 f1 hS hS3 hK K FIN OWN KS SC CL H0 HB R1 R2 B1
    go_wp2_with fail
    go_end0
    have c5 : Chg (fun k => k = C) W4 (W4.setCell ⟨C, 2, none⟩ (.int .i64 0)) := (Chg.refl (fun k => k = C) _).setCell (p := ⟨C, 2, none⟩) (.inl rfl) _
    exact ⟨⟨_, rfl⟩, _, Blk.set B4.out 2 _, SL.kept SL4.out c5 (fun k hk => own_one SL4.out B4.out (by decide) hk), Chg.trans CH4.out c5 (fun _ e => .inl (.inl e))⟩
  · go_simp
    refine Calls.mono (CL.out _) ?_
    rintro e w1 ⟨rfl, hc⟩
    have hc1 : Chg (fun _ => False) w w1 := (Chg.refl _ _).drew.trans hc (fun _ e => e.elim)
    obtain ⟨A', n', c', w3, r1, r2, r3, r4⟩ := FIN.out w1 hc1
    have B1 : Hid _ := HB.out.keep hc1 (fun e => e)
    have R1 : Hid _ := r1
    have R2 : Hid _ := And.intro r2 (And.intro r3 r4)
    clear r1 r2 r3 r4 hc hc1
    have hS1 := KS.out _ B1.out
    refine hK.out _ _ hS1 (fun _ => ?_)
    clear hK K
    refine wpAnyH_ready (rs := [4, 16]) (by kernel_rfl) (by simp) ?_
    refine AllReadyH.cons rfl (fun K hK => ?_) (AllReadyH.cons rfl (fun K hK => ?_) AllReadyH.nil)
    · have k1 : (w1).cell? ⟨C, 1, none⟩ = some (.slice A n c) := (Blk.keep B1.out (Chg.refl (fun _ => False) _) (fun e => e)).cell 1
      go_simp
      refine hK.out _ _ hS1 (fun _ => ?_)
      clear hK K k1
      refine wpAnyH_ready (rs := [16]) (by kernel_rfl) (by simp) ?_
      refine AllReadyH.cons rfl (fun K hK => ?_) AllReadyH.nil
      go_simp
      have B2 : Hid _ := B1.out.alloc (.cells #[.string ⟨x.toArray⟩] 9)
      have hS2 := KS.out _ B2.out
      refine hK.out _ _ hS2 (fun _ => ?_)
      clear hK K
      refine wpAnyH_ready (rs := [17]) (by kernel_rfl) (by simp) ?_
      refine AllReadyH.cons rfl (fun K hK => ?_) AllReadyH.nil
      rw [if_pos (by rfl)]
      refine wp_appG (sl := 24) (su := 24) (.tmp 8) (.tmp 20) rfl (v := .slice A n c) (u := .slice (some ⟨w1.heap.size, 0, none⟩) 1 1) (v' := .slice A' n' c') (w' := w3) rfl rfl R1.out ?_
      have hS3 := KS.out _ R2.out.2.1
      refine hK.out _ _ hS3 (fun _ => ?_)
      clear hK K
      refine wpAnyH_take (i := 18) (v := .pointer (some ⟨C, 0, none⟩)) rfl (by kernel_rfl) (by kernel_rfl) (by kernel_rfl) (fun _ _ _ h => h) (Or.inl ⟨by rfl, fun w' _ => by go_simp⟩) hS3 ?_
      refine wpAnyH_take (i := 19) (v := .pointer (some ⟨C, 1, none⟩)) rfl (by kernel_rfl) (by kernel_rfl) (by kernel_rfl) (fun _ _ _ h => h) (Or.inl ⟨by rfl, fun w' _ => by go_simp⟩) hS3 ?_
      refine wpAnyH_ready (rs := [20]) (by kernel_rfl) (by simp) ?_
      refine AllReadyH.cons rfl (fun K hK => ?_) AllReadyH.nil
      have k1 : w3.cell? ⟨C, 1, none⟩ = some (.slice A n c) := Blk.cell R2.out.2.1 1
      have f1 : w3.frozen? ⟨C, 1, none⟩ = false := Blk.fr R2.out.2.1 1
      go_simp
      have B4 : Hid _ := Blk.set R2.out.2.1 1 (.slice A' n' c')
      refine hK.out _ _ ⟨Blk.cell B4.out 0, Blk.cell B4.out 3⟩ (fun _ => ?_)
      refine wpAnyH_done (by kernel_rfl) ?_ _
      have c4 : Chg (fun k => k = C) w3 (w3.setCell ⟨C, 1, none⟩ (.slice A' n' c')) := (Chg.refl (fun k => k = C) _).setCell (p := ⟨C, 1, none⟩) (.inl rfl) _
      have SL4 : Hid _ := SL.kept R2.out.1 c4 (OWN.out _ _ _ _ R2.out.1 R2.out.2.1)
      have CH4 : Hid _ := Chg.trans R2.out.2.2 c4 (fun _ e => .inl (.inl e))
      obtain ⟨W4, hW4⟩ : ∃ W4, W4 = w3.setCell ⟨C, 1, none⟩ (.slice A' n' c') := ⟨_, rfl⟩
      rw [← hW4] at B4 SL4 CH4 ⊢
      have k2 : W4.cell? ⟨C, 2, none⟩ = some (.int .i64 wh) := Blk.cell B4.out 2
      have f2 : W4.frozen? ⟨C, 2, none⟩ = false := Blk.fr B4.out 2
      clear hW4 c4 k1 f1 hS hS3 hK K FIN OWN KS SC CL H0 HB R1 R2 B1
      go_wp2_with fail
      go_end0
      have c5 : Chg (fun k => k = C) W4 (W4.setCell ⟨C, 2, none⟩ (.int .i64 0)) := (Chg.refl (fun k => k = C) _).setCell (p := ⟨C, 2, none⟩) (.inl rfl) _
      exact ⟨⟨_, rfl⟩, _, Blk.set B4.out 2 _, SL.kept SL4.out c5 (fun k hk => own_one SL4.out B4.out (by decide) hk), Chg.trans CH4.out c5 (fun _ e => .inl (.inl e))⟩
    · go_simp
      have B2 : Hid _ := B1.out.alloc (.cells #[.string ⟨x.toArray⟩] 9)
      have hS2 := KS.out _ B2.out
      refine hK.out _ _ hS2 (fun _ => ?_)
      clear hK K
      refine wpAnyH_ready (rs := [4]) (by kernel_rfl) (by simp) ?_
      refine AllReadyH.cons rfl (fun K hK => ?_) AllReadyH.nil
      have k1 : (w1.alloc (.cells #[.string ⟨x.toArray⟩] 9)).cell? ⟨C, 1, none⟩ = some (.slice A n c) := (Blk.keep B2.out (Chg.refl (fun _ => False) _) (fun e => e)).cell 1
      go_simp
      refine hK.out _ _ hS2 (fun _ => ?_)
      clear hK K k1
      refine wpAnyH_ready (rs := [17]) (by kernel_rfl) (by simp) ?_
      refine AllReadyH.cons rfl (fun K hK => ?_) AllReadyH.nil
      rw [if_pos (by rfl)]
      refine wp_appG (sl := 24) (su := 24) (.tmp 8) (.tmp 20) rfl (v := .slice A n c) (u := .slice (some ⟨w1.heap.size, 0, none⟩) 1 1) (v' := .slice A' n' c') (w' := w3) rfl rfl R1.out ?_
      have hS3 := KS.out _ R2.out.2.1
      refine hK.out _ _ hS3 (fun _ => ?_)
      clear hK K
      refine wpAnyH_take (i := 18) (v := .pointer (some ⟨C, 0, none⟩)) rfl (by kernel_rfl) (by kernel_rfl) (by kernel_rfl) (fun _ _ _ h => h) (Or.inl ⟨by rfl, fun w' _ => by go_simp⟩) hS3 ?_
      refine wpAnyH_take (i := 19) (v := .pointer (some ⟨C, 1, none⟩)) rfl (by kernel_rfl) (by kernel_rfl) (by kernel_rfl) (fun _ _ _ h => h) (Or.inl ⟨by rfl, fun w' _ => by go_simp⟩) hS3 ?_
      refine wpAnyH_ready (rs := [20]) (by kernel_rfl) (by simp) ?_
      refine AllReadyH.cons rfl (fun K hK => ?_) AllReadyH.nil
      have k1 : w3.cell? ⟨C, 1, none⟩ = some (.slice A n c) := Blk.cell R2.out.2.1 1
      have f1 : w3.frozen? ⟨C, 1, none⟩ = false := Blk.fr R2.out.2.1 1
      go_simp
      have B4 : Hid _ := Blk.set R2.out.2.1 1 (.slice A' n' c')
      refine hK.out _ _ ⟨Blk.cell B4.out 0, Blk.cell B4.out 3⟩ (fun _ => ?_)
      refine wpAnyH_done (by kernel_rfl) ?_ _
      have c4 : Chg (fun k => k = C) w3 (w3.setCell ⟨C, 1, none⟩ (.slice A' n' c')) := (Chg.refl (fun k => k = C) _).setCell (p := ⟨C, 1, none⟩) (.inl rfl) _
      have SL4 : Hid _ := SL.kept R2.out.1 c4 (OWN.out _ _ _ _ R2.out.1 R2.out.2.1)
      have CH4 : Hid _ := Chg.trans R2.out.2.2 c4 (fun _ e => .inl (.inl e))
      obtain ⟨W4, hW4⟩ : ∃ W4, W4 = w3.setCell ⟨C, 1, none⟩ (.slice A' n' c') := ⟨_, rfl⟩
      rw [← hW4] at B4 SL4 CH4 ⊢
      have k2 : W4.cell? ⟨C, 2, none⟩ = some (.int .i64 wh) := Blk.cell B4.out 2
      have f2 : W4.frozen? ⟨C, 2, none⟩ = false := Blk.fr B4.out 2
      clear hW4 c4 k1 f1 hS hS3 hK K FIN OWN KS SC CL H0 HB R1 R2 B1
      go_wp2_with fail
      go_end0
      have c5 : Chg (fun k => k = C) W4 (W4.setCell ⟨C, 2, none⟩ (.int .i64 0)) := (Chg.refl (fun k => k = C) _).setCell (p := ⟨C, 2, none⟩) (.inl rfl) _
      exact ⟨⟨_, rfl⟩, _, Blk.set B4.out 2 _, SL.kept SL4.out c5 (fun k hk => own_one SL4.out B4.out (by decide) hk), Chg.trans CH4.out c5 (fun _ e => .inl (.inl e))⟩
end
end Go.Proofs.Ytnmlhlgeacdcgaa
