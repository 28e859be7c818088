/-
  The cutter's methods: behind a stroke.
-/
import Derived.Test.YtnmlhlgeacdcgaaCwD
import Derived.Laws.BitsAllLaws
namespace Go.Proofs.Ytnmlhlgeacdcgaa
open Go.RowKit

theorem or16 : ∀ g, g < 16 → ∀ d, d < 16 → g * 16 ||| d = 16 * g + d := by decide
theorem or_byte {g d : Nat} (hg : g < 16) (hd : d < 16) : bits .or .u8 ((g : Int) * 16) (d : Int) = ((UInt8.ofNat (16 * g + d)).toNat : Int) := by
  have := u8_or_nat (g * 16) d (by omega) (by omega)
  rw [show ((g * 16 : Nat) : Int) = (g : Int) * 16 by omega] at this
  rw [this, or16 g hg d hd, UInt8.toNat_ofNat']
  have : 16 * g + d < 2 ^ 8 := by omega
  rw [Nat.mod_eq_of_lt this]

section
variable {w : World} {C : Nat} {line : ByteArray} {W T : Value} {wh fr h : Int}

set_option maxRecDepth 100000 in
theorem atLow_no (c pos : Nat) (hc : c ≤ 2147483647) (hn : digN c = none) :
    Calls Try.prog 20 #[.pointer (some ⟨C, 0, none⟩), .int .i64 pos, .int .i32 c] w fun e w' => e = .returned (.bool false) ∧ w = w' := by
  have H : Hid (∀ w, Calls Try.prog 25 #[.int .i32 c] w fun e w' => e = .returned (.tuple #[.int .u8 0, .bool false]) ∧ w = w') := fun w => by
    have := digitOf_any c w hc
    rw [hn] at this
    exact this
  clear hn
  go_enter Try.func20, Try.ntmps20
  go_wp2_with (go_at_call 25; refine Calls.mono (H.out _) ?_; rintro e w1 ⟨rfl, rfl⟩)
  go_ret
  exact ⟨rfl, rfl⟩

set_option maxRecDepth 100000 in
set_option maxHeartbeats 1000000 in
theorem atLow_yes {B g d : Nat} {t : List UInt8} (c pos : Nat) (hc : c ≤ 2147483647) (hn : digN c = some d) (hg : g < 16) (hb : Blk w C (cuC line W wh fr T g) 35) (hT : BL w B T t) (hB : B ≤ w.heap.size) (ht : t.length ≤ 65536) (hp : pos ≤ 65536) :
    Calls Try.prog 20 #[.pointer (some ⟨C, 0, none⟩), .int .i64 pos, .int .i32 c] w fun e w' => e = .returned (.bool true) ∧ ∃ T', Blk w' C (cuC line W 2 (pos + 1 : Nat) T' g) 35 ∧ BL w' B T' (t ++ [UInt8.ofNat (16 * g + d)]) ∧ Chg (fun k => k = C ∨ some k = T.ownBlock) w w' := by
  have hd := digN_lt hn
  have H : Hid (∀ w, Calls Try.prog 25 #[.int .i32 c] w fun e w' => e = .returned (.tuple #[.int .u8 d, .bool true]) ∧ w = w') := fun w => by
    have := digitOf_any c w hc
    rw [hn] at this
    exact this
  have k5 : w.cell? ⟨C, 5, none⟩ = some (.int .u8 g) := hb.cell 5
  have S := stands_any (UInt8.ofNat (16 * g + d)) pos hb hT hB ht hp
  have SS : Hid _ := S
  clear hn S hb hT
  go_enter Try.func20, Try.ntmps20
  go_wp2_with (go_at_call 25; refine Calls.mono (H.out _) ?_; rintro e w1 ⟨rfl, rfl⟩)
  rw [or_byte hg hd]
  refine Calls.mono SS.out ?_
  rintro e w1 ⟨rfl, h2⟩
  have HH : Hid _ := h2
  clear h2 SS
  go_wp2_with fail
  go_ret
  exact ⟨rfl, HH.out⟩

set_option maxRecDepth 100000 in
theorem behind_no (c pos : Nat) (h1 : ¬ c = 92) (h2 : ¬ c = 34) (h3 : ¬ c = 110) (h4 : ¬ c = 116) (h5 : ¬ c = 120) :
    Calls Try.prog 18 #[.pointer (some ⟨C, 0, none⟩), .int .i64 pos, .int .i32 c] w fun e w' => e = .returned (.bool false) ∧ w = w' := by
  have q1 : ((c : Int) == 92) = false := by simp; omega
  have q2 : ((c : Int) == 34) = false := by simp; omega
  have q3 : ((c : Int) == 110) = false := by simp; omega
  have q4 : ((c : Int) == 116) = false := by simp; omega
  have q5 : ((c : Int) == 120) = false := by simp; omega
  clear h1 h2 h3 h4 h5
  go_enter Try.func18, Try.ntmps18
  go_wp2
  go_ret
  exact ⟨rfl, rfl⟩

set_option maxRecDepth 100000 in
theorem behind_x (pos : Nat) (hb : Blk w C (cuC line W wh fr T h) 35) :
    Calls Try.prog 18 #[.pointer (some ⟨C, 0, none⟩), .int .i64 pos, .int .i32 120] w fun e w' => e = .returned (.bool true) ∧ Blk w' C (cuC line W 4 fr T h) 35 ∧ Chg (fun k => k = C) w w' := by
  have HB : Hid _ := hb
  have k2 : w.cell? ⟨C, 2, none⟩ = some (.int .i64 wh) := hb.cell 2
  have f2 : w.frozen? ⟨C, 2, none⟩ = false := hb.fr 2
  clear hb
  go_enter Try.func18, Try.ntmps18
  go_wp2
  go_ret
  exact ⟨rfl, HB.out.set 2 _, (Chg.refl (fun k => k = C) _).setCell (p := ⟨C, 2, none⟩) (.inl rfl) _⟩

/-- The byte that a letter behind a stroke stands for. -/
def letN (c : Nat) : UInt8 := if c = 110 then 10 else if c = 116 then 9 else UInt8.ofNat c

set_option maxRecDepth 100000 in
set_option maxHeartbeats 1000000 in
theorem behind_let {B : Nat} {t : List UInt8} (c pos : Nat) (hc : c = 92 ∨ c = 34 ∨ c = 110 ∨ c = 116) (hb : Blk w C (cuC line W wh fr T h) 35) (hT : BL w B T t) (hB : B ≤ w.heap.size) (ht : t.length ≤ 65536) (hp : pos ≤ 65536) :
    Calls Try.prog 18 #[.pointer (some ⟨C, 0, none⟩), .int .i64 pos, .int .i32 c] w fun e w' => e = .returned (.bool true) ∧ ∃ T', Blk w' C (cuC line W 2 (pos + 1 : Nat) T' h) 35 ∧ BL w' B T' (t ++ [letN c]) ∧ Chg (fun k => k = C ∨ some k = T.ownBlock) w w' := by
  have SS : Hid _ := stands_any (letN c) pos hb hT hB ht hp
  clear hb hT
  rcases hc with rfl | rfl | rfl | rfl
  all_goals
    go_enter Try.func18, Try.ntmps18
    go_wp2_with (go_at_call 24; refine Calls.mono SS.out ?_; rintro e w1 ⟨rfl, h2⟩; have HH : Hid _ := h2; clear h2)
    go_ret
    exact ⟨rfl, HH.out⟩
end
end Go.Proofs.Ytnmlhlgeacdcgaa
