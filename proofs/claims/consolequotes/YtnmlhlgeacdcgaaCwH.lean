/-
  The cutter takes a rune.
-/
import Derived.Test.YtnmlhlgeacdcgaaCwG
namespace Go.Proofs.Ytnmlhlgeacdcgaa
open Go.RowKit

section
variable {w : World} {C : Nat} {line : ByteArray} {W T : Value} {fr h : Int} {c pos : Nat}

set_option maxRecDepth 100000 in
theorem take0 {R : World → Prop} (hb : Blk w C (cuC line W 0 fr T h) 35) (H : Calls Try.prog 15 #[.pointer (some ⟨C, 0, none⟩), .int .i64 pos, .int .i32 c] w fun e w' => (∃ v, e = .returned v) ∧ R w') :
    Calls Try.prog 11 #[.pointer (some ⟨C, 0, none⟩), .int .i64 pos, .int .i32 c] w fun e w' => e = .returned (.bool true) ∧ R w' := by
  have k2 : w.cell? ⟨C, 2, none⟩ = some (.int .i64 0) := hb.cell 2
  have HH : Hid _ := H
  clear hb H
  go_enter Try.func11, Try.ntmps11
  go_wp2_with (go_at_call 15; refine Calls.mono HH.out ?_; rintro e w1 ⟨⟨v, rfl⟩, h5⟩; have H5 : Hid _ := h5; clear h5)
  go_ret
  exact ⟨rfl, H5.out⟩
set_option maxRecDepth 100000 in
theorem take1 {R : Ending → World → Prop} (hb : Blk w C (cuC line W 1 fr T h) 35) (H : Calls Try.prog 16 #[.pointer (some ⟨C, 0, none⟩), .int .i64 pos, .int .i32 c] w fun e w' => (∃ b, e = .returned (.bool b)) ∧ R e w') :
    Calls Try.prog 11 #[.pointer (some ⟨C, 0, none⟩), .int .i64 pos, .int .i32 c] w fun e w' => (∃ b, e = .returned (.bool b)) ∧ R e w' := by
  have k2 : w.cell? ⟨C, 2, none⟩ = some (.int .i64 1) := hb.cell 2
  have HH : Hid _ := H
  clear hb H
  go_enter Try.func11, Try.ntmps11
  go_wp2_with (go_at_call 16; refine Calls.mono HH.out ?_; rintro e w1 ⟨⟨b, rfl⟩, h5⟩; have H5 : Hid _ := h5; clear h5)
  go_ret
  exact ⟨⟨_, rfl⟩, H5.out⟩
set_option maxRecDepth 100000 in
theorem take2 {R : World → Prop} (hb : Blk w C (cuC line W 2 fr T h) 35) (H : Calls Try.prog 17 #[.pointer (some ⟨C, 0, none⟩), .int .i64 pos, .int .i32 c] w fun e w' => (∃ v, e = .returned v) ∧ R w') :
    Calls Try.prog 11 #[.pointer (some ⟨C, 0, none⟩), .int .i64 pos, .int .i32 c] w fun e w' => e = .returned (.bool true) ∧ R w' := by
  have k2 : w.cell? ⟨C, 2, none⟩ = some (.int .i64 2) := hb.cell 2
  have HH : Hid _ := H
  clear hb H
  go_enter Try.func11, Try.ntmps11
  go_wp2_with (go_at_call 17; refine Calls.mono HH.out ?_; rintro e w1 ⟨⟨v, rfl⟩, h5⟩; have H5 : Hid _ := h5; clear h5)
  go_ret
  exact ⟨rfl, H5.out⟩
set_option maxRecDepth 100000 in
theorem take3 {R : Ending → World → Prop} (hb : Blk w C (cuC line W 3 fr T h) 35) (H : Calls Try.prog 18 #[.pointer (some ⟨C, 0, none⟩), .int .i64 pos, .int .i32 c] w fun e w' => (∃ b, e = .returned (.bool b)) ∧ R e w') :
    Calls Try.prog 11 #[.pointer (some ⟨C, 0, none⟩), .int .i64 pos, .int .i32 c] w fun e w' => (∃ b, e = .returned (.bool b)) ∧ R e w' := by
  have k2 : w.cell? ⟨C, 2, none⟩ = some (.int .i64 3) := hb.cell 2
  have HH : Hid _ := H
  clear hb H
  go_enter Try.func11, Try.ntmps11
  go_wp2_with (go_at_call 18; refine Calls.mono HH.out ?_; rintro e w1 ⟨⟨b, rfl⟩, h5⟩; have H5 : Hid _ := h5; clear h5)
  go_ret
  exact ⟨⟨_, rfl⟩, H5.out⟩
set_option maxRecDepth 100000 in
theorem take4 {R : Ending → World → Prop} (hb : Blk w C (cuC line W 4 fr T h) 35) (H : Calls Try.prog 19 #[.pointer (some ⟨C, 0, none⟩), .int .i32 c] w fun e w' => (∃ b, e = .returned (.bool b)) ∧ R e w') :
    Calls Try.prog 11 #[.pointer (some ⟨C, 0, none⟩), .int .i64 pos, .int .i32 c] w fun e w' => (∃ b, e = .returned (.bool b)) ∧ R e w' := by
  have k2 : w.cell? ⟨C, 2, none⟩ = some (.int .i64 4) := hb.cell 2
  have HH : Hid _ := H
  clear hb H
  go_enter Try.func11, Try.ntmps11
  go_wp2_with (go_at_call 19; refine Calls.mono HH.out ?_; rintro e w1 ⟨⟨b, rfl⟩, h5⟩; have H5 : Hid _ := h5; clear h5)
  go_ret
  exact ⟨⟨_, rfl⟩, H5.out⟩
set_option maxRecDepth 100000 in
theorem take5 {R : Ending → World → Prop} (hb : Blk w C (cuC line W 5 fr T h) 35) (H : Calls Try.prog 20 #[.pointer (some ⟨C, 0, none⟩), .int .i64 pos, .int .i32 c] w fun e w' => (∃ b, e = .returned (.bool b)) ∧ R e w') :
    Calls Try.prog 11 #[.pointer (some ⟨C, 0, none⟩), .int .i64 pos, .int .i32 c] w fun e w' => (∃ b, e = .returned (.bool b)) ∧ R e w' := by
  have k2 : w.cell? ⟨C, 2, none⟩ = some (.int .i64 5) := hb.cell 2
  have HH : Hid _ := H
  clear hb H
  go_enter Try.func11, Try.ntmps11
  go_wp2_with (go_at_call 20; refine Calls.mono HH.out ?_; rintro e w1 ⟨⟨b, rfl⟩, h5⟩; have H5 : Hid _ := h5; clear h5)
  go_ret
  exact ⟨⟨_, rfl⟩, H5.out⟩
set_option maxRecDepth 100000 in
theorem take6 (hb : Blk w C (cuC line W 6 fr T h) 35) :
    Calls Try.prog 11 #[.pointer (some ⟨C, 0, none⟩), .int .i64 pos, .int .i32 c] w fun e w' => e = .returned (.bool (blankN c)) ∧ Blk w' C (cuC line W 0 fr T h) 35 ∧ Chg (fun k => k = C) w w' := by
  have k2 : w.cell? ⟨C, 2, none⟩ = some (.int .i64 6) := hb.cell 2
  have f2 : w.frozen? ⟨C, 2, none⟩ = false := hb.fr 2
  have H : Hid _ := isBlank_any c
  have HB : Hid _ := hb
  clear hb
  go_enter Try.func11, Try.ntmps11
  go_wp2_with (go_at_call 21; refine Calls.mono (H.out _) ?_; rintro e w1 ⟨rfl, rfl⟩)
  go_ret
  exact ⟨rfl, HB.out.set 2 _, (Chg.refl (fun k => k = C) _).setCell (p := ⟨C, 2, none⟩) (.inl rfl) _⟩
end

/-- What a cutter's fields say of the place. -/
def At (w : World) (B : Nat) (line : ByteArray) (pos : Nat) (wh fr : Int) (T : Value) (h : Int) : St → Prop
  | .inl false => wh = 0
  | .inl true => wh = 6
  | .inr (.inl a) => wh = 1 ∧ ∃ f : Nat, fr = f ∧ f ≤ pos ∧ a = cut line f pos
  | .inr (.inr (.inl a)) => wh = 2 ∧ ∃ (f : Nat) (t : List UInt8), fr = f ∧ f ≤ pos ∧ BL w B T t ∧ t.length ≤ f ∧ a = t ++ cut line f pos
  | .inr (.inr (.inr (.inl a))) => wh = 3 ∧ BL w B T a ∧ a.length ≤ pos
  | .inr (.inr (.inr (.inr (.inl a)))) => wh = 4 ∧ BL w B T a ∧ a.length ≤ pos
  | .inr (.inr (.inr (.inr (.inr (a, d))))) => wh = 5 ∧ BL w B T a ∧ a.length ≤ pos ∧ h = d ∧ d < 16

/-- A cutter at work. -/
structure CU (w : World) (B C I : Nat) (line : ByteArray) (σ : St) (ws : List (List UInt8)) (pos : Nat) : Prop where
  ex : ∃ W wh fr T h, Blk w C (cuC line W wh fr T h) 35 ∧ SL w B W ws ∧ At w B line pos wh fr T h σ
  lb : B ≤ C
  lw : ws.length ≤ pos
  it : ∃ p, w.heap[I]? = some (.stringIter line p)

/-- Only blocks from B on, and not the iterator, have turned. -/
def CI (B I : Nat) (w w' : World) : Prop := Chg (fun k => B ≤ k ∧ k ≠ I) w w'

def TkP (w : World) (B C I : Nat) (line : ByteArray) (pos : Nat) (o : Option (St × List (List UInt8))) (e : Ending) (w' : World) : Prop :=
  match o with
  | none => e = .returned (.bool false) ∧ CI B I w w'
  | some x => e = .returned (.bool true) ∧ CU w' B C I line x.1 x.2 pos ∧ CI B I w w'

theorem blk_ne {w : World} {C I : Nat} {cs : List Value} {t : TypeId} {line : ByteArray} {p : Nat} (hb : Blk w C cs t) (hi : w.heap[I]? = some (.stringIter line p)) : C ≠ I := by
  intro e
  subst e
  rw [hb.eq] at hi
  cases hi
theorem own_ne {w : World} {B I sz n k : Nat} {e : TypeId} {v : Value} {xs : List Value} {line : ByteArray} {p : Nat} (h : w.ownsRow B e sz v n xs) (hi : w.heap[I]? = some (.stringIter line p)) (hk : v.ownBlock = some k) : B ≤ k ∧ k ≠ I := by
  obtain ⟨h1, _, cur, hc⟩ := own_block h hk
  refine ⟨h1, fun e => ?_⟩
  subst e
  rw [hc] at hi
  cases hi
theorem CI.iter {B I : Nat} {w w' : World} {o : Obj} (h : CI B I w w') (hi : w.heap[I]? = some o) : w'.heap[I]? = some o := Chg.heap_some h hi (fun e => e.2 rfl)

theorem TkP.of {w w' : World} {B C I : Nat} {line : ByteArray} {pos : Nat} {x : St × List (List UInt8)} {e : Ending} (h : e = .returned (.bool true) ∧ CU w' B C I line x.1 x.2 pos ∧ CI B I w w') : TkP w B C I line pos (some x) e w' := h
theorem TkP.off {w w' : World} {B C I : Nat} {line : ByteArray} {pos : Nat} {e : Ending} (h : e = .returned (.bool false) ∧ CI B I w w') : TkP w B C I line pos none e w' := h

set_option maxRecDepth 100000 in
theorem take_any {w : World} {B C I : Nat} {line : ByteArray} {σ : St} {ws : List (List UInt8)} {pos : Nat} (c k : Nat) (hu : CU w B C I line σ ws pos) (hk : c < 128 → k = 1) (h1 : 1 ≤ k) (h2 : pos + k ≤ line.size) (h3 : line.size ≤ 65536) (hc : c ≤ 2147483647) (hB : B ≤ w.heap.size) :
    Calls Try.prog 11 #[.pointer (some ⟨C, 0, none⟩), .int .i64 pos, .int .i32 c] w fun e w' => TkP w B C I line (pos + k) (stp σ ws c (cut line pos (pos + k))) e w' := by
  obtain ⟨⟨W, wh, fr, T, h, hb, hW, hA⟩, lb, lw, p, it⟩ := hu
  have lwk : ws.length ≤ pos + k := by omega
  have cne : C ≠ I := blk_ne hb it
  have toC : ∀ {w'}, Chg (fun k => k = C) w w' → CI B I w w' := fun q => q.mono (fun i _ e => by subst e; exact ⟨lb, cne⟩)
  have wne : ∀ k, W.ownBlock = some k → k ≠ C := fun k hk => own_one hW hb (by decide) hk
  have wI : ∀ k, W.ownBlock = some k → B ≤ k ∧ k ≠ I := fun k hk => own_ne hW it hk
  cases σ using St.cases with
  | bt =>
    obtain rfl : wh = 0 := hA
    by_cases q1 : blankN c = true
    · refine (take0 hb (begin_blank c pos q1)).mono ?_
      rintro e w' ⟨rfl, rfl⟩
      simp only [stp, q1, if_true]
      exact TkP.of ⟨rfl, ⟨⟨W, 0, fr, T, h, hb, hW, rfl⟩, lb, lwk, p, it⟩, Chg.refl _ _⟩
    · have q1' : blankN c = false := by simpa using q1
      by_cases q2 : c = 34
      · subst q2
        obtain rfl := hk (by decide)
        refine (take0 (pos := pos) hb (begin_quote pos hb (by omega))).mono ?_
        rintro e w' ⟨rfl, b1, c1⟩
        have q3 : blankN 34 = false := by decide
        simp only [stp, q3, if_false, if_true, Bool.false_eq_true]
        exact TkP.of ⟨rfl, ⟨⟨W, 2, _, _, h, b1, hW.kept c1 wne, rfl, pos + 1, [], rfl, Nat.le_refl _, BL.nil _ _, Nat.zero_le _, by rw [cut_same]; rfl⟩, lb, lwk, p, (toC c1).iter it⟩, toC c1⟩
      · refine (take0 (pos := pos) hb (begin_word c pos hb q1' q2)).mono ?_
        rintro e w' ⟨rfl, b1, c1⟩
        simp only [stp, q1', q2, if_false, Bool.false_eq_true]
        exact TkP.of ⟨rfl, ⟨⟨W, 1, _, _, h, b1, hW.kept c1 wne, rfl, pos, rfl, by omega, rfl⟩, lb, lwk, p, (toC c1).iter it⟩, toC c1⟩
  | wd a =>
    obtain ⟨rfl, f, rfl, hf, rfl⟩ := hA
    by_cases q1 : blankN c = true
    · refine (take1 hb ((inWord_blank c q1 hb hW hB (by omega) hf (by omega) h3).mono (fun e w' q => ⟨⟨_, q.1⟩, q⟩))).mono ?_
      rintro e w' ⟨-, rfl, W', b1, s1, c1⟩
      have c2 : CI B I w w' := c1.mono (fun i _ e => by
        rcases e with e | e
        · subst e; exact ⟨lb, cne⟩
        · exact wI i e.symm)
      simp only [stp, q1, if_true]
      exact TkP.of ⟨rfl, ⟨⟨W', 0, _, T, h, b1, s1, rfl⟩, lb, by simp; omega, p, c2.iter it⟩, c2⟩
    · have q1' : blankN c = false := by simpa using q1
      refine (take1 hb ((inWord_other c q1').mono (fun e w' q => ⟨⟨_, q.1⟩, q⟩))).mono ?_
      rintro e w' ⟨-, rfl, rfl⟩
      by_cases q2 : c = 34
      · subst q2
        simp only [stp, q1', if_false, if_true, Bool.false_eq_true]
        exact TkP.off ⟨rfl, Chg.refl _ _⟩
      · have q3 : (!(c == 34)) = true := by simp [q2]
        rw [q3]
        simp only [stp, q1', q2, if_false, Bool.false_eq_true]
        exact TkP.of ⟨rfl, ⟨⟨W, 1, _, T, h, hb, hW, rfl, f, rfl, by omega, cut_cut line hf (by omega)⟩, lb, lwk, p, it⟩, Chg.refl _ _⟩
  | qu a =>
    obtain ⟨rfl, f, t, rfl, hf, hT, ht, rfl⟩ := hA
    have tI : ∀ k, T.ownBlock = some k → B ≤ k ∧ k ≠ I := fun k hk => own_ne hT it hk
    by_cases q1 : c = 34
    · subst q1
      obtain rfl := hk (by decide)
      refine (take2 hb (inQ_end hb hT hW (by omega) hB (by omega) hf (by omega) h3)).mono ?_
      rintro e w' ⟨rfl, W', T', b1, s1, c1⟩
      have c2 : CI B I w w' := c1.mono (fun i _ e => by
        rcases e with e | e | e
        · subst e; exact ⟨lb, cne⟩
        · exact tI i e.symm
        · exact wI i e.symm)
      simp only [stp, if_true]
      exact TkP.of ⟨rfl, ⟨⟨W', 6, _, T', h, b1, s1, rfl⟩, lb, by simp; omega, p, c2.iter it⟩, c2⟩
    · by_cases q2 : c = 92
      · subst q2
        obtain rfl := hk (by decide)
        refine (take2 hb (inQ_stroke hb hT hB (by omega) hf (by omega) h3)).mono ?_
        rintro e w' ⟨rfl, T', b1, s1, c1⟩
        have c2 : CI B I w w' := c1.mono (fun i _ e => by
          rcases e with e | e
          · subst e; exact ⟨lb, cne⟩
          · exact tI i e.symm)
        have wT : ∀ k, W.ownBlock = some k → ¬ (k = C ∨ some k = T.ownBlock) := fun k hk e => by
          rcases e with e | e
          · exact wne k hk e
          · obtain ⟨_, _, c1, e1⟩ := own_block hW hk
            obtain ⟨_, _, c2, e2⟩ := own_block hT e.symm
            rw [e1] at e2
            cases e2
        have hl := cut_length line (i := f) (j := pos) (by omega)
        simp only [stp, q1, if_false, if_true]
        exact TkP.of ⟨rfl, ⟨⟨W, 3, _, T', h, b1, hW.kept c1 wT, rfl, s1, by simp; omega⟩, lb, lwk, p, c2.iter it⟩, c2⟩
      · refine (take2 hb (inQ_other c q1 q2)).mono ?_
        rintro e w' ⟨rfl, rfl⟩
        simp only [stp, q1, q2, if_false]
        exact TkP.of ⟨rfl, ⟨⟨W, 2, _, T, h, hb, hW, rfl, f, t, rfl, by omega, hT, ht, by rw [List.append_assoc, cut_cut line hf (by omega)]⟩, lb, lwk, p, it⟩, Chg.refl _ _⟩
  | st a =>
    obtain ⟨rfl, hT, ht⟩ := hA
    have tI : ∀ k, T.ownBlock = some k → B ≤ k ∧ k ≠ I := fun k hk => own_ne hT it hk
    have wT : ∀ k, W.ownBlock = some k → ¬ (k = C ∨ some k = T.ownBlock) := fun k hk e => by
      rcases e with e | e
      · exact wne k hk e
      · obtain ⟨_, _, c1, e1⟩ := own_block hW hk
        obtain ⟨_, _, c2, e2⟩ := own_block hT e.symm
        rw [e1] at e2
        cases e2
    have c2 : ∀ {w'}, Chg (fun k => k = C ∨ some k = T.ownBlock) w w' → CI B I w w' := fun q => q.mono (fun i _ e => by
      rcases e with e | e
      · subst e; exact ⟨lb, cne⟩
      · exact tI i e.symm)
    by_cases q1 : c = 92 ∨ c = 34 ∨ c = 110 ∨ c = 116
    · obtain rfl := hk (by omega)
      refine (take3 hb ((behind_let c pos q1 hb hT hB (by omega) (by omega)).mono (fun e w' q => ⟨⟨_, q.1⟩, q⟩))).mono ?_
      rintro e w' ⟨-, rfl, T', b1, s1, c1⟩
      have e1 : stp (.st a) ws c (cut line pos (pos + 1)) = some (.qu (a ++ [letN c]), ws) := by
        rcases q1 with rfl | rfl | rfl | rfl <;> rfl
      rw [e1]
      exact TkP.of ⟨rfl, ⟨⟨W, 2, _, T', h, b1, hW.kept c1 wT, rfl, pos + 1, _, rfl, Nat.le_refl _, s1, by simp; omega, by rw [cut_same, List.append_nil]⟩, lb, lwk, p, (c2 c1).iter it⟩, c2 c1⟩
    · by_cases q2 : c = 120
      · subst q2
        obtain rfl := hk (by decide)
        refine (take3 hb ((behind_x pos hb).mono (fun e w' q => ⟨⟨_, q.1⟩, q⟩))).mono ?_
        rintro e w' ⟨-, rfl, b1, c1⟩
        refine TkP.of (x := (.hi a, ws)) ⟨rfl, ⟨⟨W, 4, _, T, h, b1, hW.kept c1 wne, rfl, hT.kept c1 (fun k hk => own_one hT hb (by decide) hk), by omega⟩, lb, ?_, p, (toC c1).iter it⟩, toC c1⟩
        show ws.length ≤ pos + 1
        omega
      · refine (take3 hb ((behind_no c pos (by omega) (by omega) (by omega) (by omega) q2).mono (fun e w' q => ⟨⟨_, q.1⟩, q⟩))).mono ?_
        rintro e w' ⟨-, rfl, rfl⟩
        have e1 : stp (.st a) ws c (cut line pos (pos + k)) = none := by
          simp only [stp]
          rw [if_neg (by omega), if_neg (by omega), if_neg (by omega), if_neg q2]
        rw [e1]
        exact TkP.off ⟨rfl, Chg.refl _ _⟩
  | hi a =>
    obtain ⟨rfl, hT, ht⟩ := hA
    refine (take4 hb ((atHigh_any c hc hb).mono (fun e w' q => ⟨⟨_, q.1⟩, q⟩))).mono ?_
    rintro e w' ⟨-, rfl, b1, c1⟩
    cases hd : digN c with
    | none =>
      simp only [stp, hd, Option.map_none]
      exact TkP.off ⟨rfl, toC c1⟩
    | some d =>
      rw [hd] at b1
      simp only [stp, hd, Option.map_some]
      exact TkP.of ⟨rfl, ⟨⟨W, 5, fr, T, _, b1, hW.kept c1 wne, rfl, hT.kept c1 (fun k hk => own_one hT hb (by decide) hk), by omega, rfl, digN_lt hd⟩, lb, lwk, p, (toC c1).iter it⟩, toC c1⟩
  | lo a g =>
    obtain ⟨rfl, hT, ht, rfl, hg⟩ := hA
    have tI : ∀ k, T.ownBlock = some k → B ≤ k ∧ k ≠ I := fun k hk => own_ne hT it hk
    cases hd : digN c with
    | none =>
      refine (take5 hb ((atLow_no c pos hc hd).mono (fun e w' q => ⟨⟨_, q.1⟩, q⟩))).mono ?_
      rintro e w' ⟨-, rfl, rfl⟩
      simp only [stp, hd, Option.map_none]
      exact TkP.off ⟨rfl, Chg.refl _ _⟩
    | some d =>
      have hc128 : c < 128 := by
        unfold digN at hd
        repeat' split at hd
        all_goals first | omega | cases hd
      obtain rfl := hk hc128
      refine (take5 hb ((atLow_yes c pos hc hd hg hb hT hB (by omega) (by omega)).mono (fun e w' q => ⟨⟨_, q.1⟩, q⟩))).mono ?_
      rintro e w' ⟨-, rfl, T', b1, s1, c1⟩
      have wT : ∀ k, W.ownBlock = some k → ¬ (k = C ∨ some k = T.ownBlock) := fun k hk e => by
        rcases e with e | e
        · exact wne k hk e
        · obtain ⟨_, _, c1, e1⟩ := own_block hW hk
          obtain ⟨_, _, c2, e2⟩ := own_block hT e.symm
          rw [e1] at e2
          cases e2
      have c2 : CI B I w w' := c1.mono (fun i _ e => by
        rcases e with e | e
        · subst e; exact ⟨lb, cne⟩
        · exact tI i e.symm)
      simp only [stp, hd, Option.map_some]
      exact TkP.of ⟨rfl, ⟨⟨W, 2, _, T', _, b1, hW.kept c1 wT, rfl, pos + 1, _, rfl, Nat.le_refl _, s1, by simp; omega, by rw [cut_same, List.append_nil]⟩, lb, lwk, p, c2.iter it⟩, c2⟩
  | en =>
    obtain rfl : wh = 6 := hA
    refine (take6 (pos := pos) (c := c) hb).mono ?_
    rintro e w' ⟨rfl, b1, c1⟩
    by_cases q1 : blankN c = true
    · simp only [stp, q1, if_true]
      exact TkP.of ⟨rfl, ⟨⟨W, 0, fr, T, h, b1, hW.kept c1 wne, rfl⟩, lb, lwk, p, (toC c1).iter it⟩, toC c1⟩
    · have q1' : blankN c = false := by simpa using q1
      simp only [stp, q1', if_false, Bool.false_eq_true]
      exact TkP.off ⟨rfl, toC c1⟩
end Go.Proofs.Ytnmlhlgeacdcgaa
