/-
  bits.Len, nextPowerOfTwo, xorshift.Next.
-/
import Derived.Test.YtnfcmpffihmnmaaSgA
import Derived.Sort.LotD5
import Derived.Deep.Cut
import Derived.Lib.Strings
import Derived.Lib.Small
import Derived.Lib.Walk
import Derived.Laws.Bits64
import Derived.Laws.Bits64b
namespace Go.Proofs.Ytnfcmpffihmnmaa
open Go.RowKit

theorem len_plain : ∀ x : Nat, x < 18446744073709551616 → Lib.bitLen x = Sort.bitsLen x := by
  intro x
  induction x using Nat.strongRecOn with
  | _ x ih =>
    intro h
    rcases Nat.lt_or_ge x 2 with s | s
    · have : x = 0 ∨ x = 1 := by omega
      rcases this with rfl | rfl <;> decide
    · have k := ih (x / 2) (by omega) (by omega)
      have e := Lib.bitLen_half x (by omega) h
      have e2 : Sort.bitsLen x = 1 + Sort.bitsLen (x / 2) := by
        unfold Sort.bitsLen
        rw [if_neg (by omega), if_neg (by omega), Nat.log2_def x, if_pos s]
        omega
      omega

theorem tab_at (i : Nat) (h : i < Lib.len8tab.size) : ((Lib.len8tab[i]'h).toNat : Int) = (Lib.bitLen i : Int) := by
  have hs : i < 256 := by rw [Lib.len8tab_size] at h; exact h
  have l := Lib.len8_of (i : Int) (by omega) (by omega)
  rw [Int.toNat_natCast] at l
  rw [← l]
  simp only [Lib.len8, Int.toNat_natCast, ByteArray.getElem?_lt' _ _ h, Option.getD_some]

set_option maxRecDepth 100000 in
set_option maxHeartbeats 4000000 in
theorem len64_int (x : Int) (h0 : 0 ≤ x) (hx : x < 65536) (w : World) : Calls Try.prog 44 #[.int .u64 x] w fun e w' => e = .returned (.int .i64 (Lib.bitLen x.toNat)) ∧ w' = w := by
  have sz := Lib.len8tab_size
  by_cases c : x < 256
  · go_enter Try.func44, Try.ntmps44
    go_wp2
    go_ret
    refine ⟨congrArg Ending.returned (congrArg (Value.int IntKind.i64) ?_), rfl⟩
    rw [tab_at]
    have l2 := Lib.bitLen_le x.toNat 8 (by omega) (by omega)
    unfold wrap64
    omega
  · go_enter Try.func44, Try.ntmps44
    go_wp2
    go_ret
    refine ⟨congrArg Ending.returned (congrArg (Value.int IntKind.i64) ?_), rfl⟩
    rw [tab_at]
    have l2 := Lib.bitLen_le (x / 256).toNat 8 (by omega) (by omega)
    have s := Lib.bitLen_shift8 x.toNat (by omega) (by omega)
    rw [show x.toNat / 256 = (x / 256).toNat by omega] at s
    unfold wrap64
    omega

theorem len64_any (x : Nat) (hx : x < 65536) (w : World) : Calls Try.prog 44 #[.int .u64 x] w fun e w' => e = .returned (.int .i64 (Sort.bitsLen x)) ∧ w' = w := by
  have h := len64_int (x : Int) (by omega) (by omega) w
  rwa [Int.toNat_natCast, len_plain x (by omega)] at h

set_option maxRecDepth 100000 in
theorem len_any (x : Nat) (hx : x < 65536) (w : World) : Calls Try.prog 33 #[.int .u64 x] w fun e w' => e = .returned (.int .i64 (Sort.bitsLen x)) ∧ w' = w := by
  have P : Hid _ := len64_any x hx
  go_enter Try.func33, Try.ntmps33
  go_wp2_with (go_at_call 44; refine Calls.mono (P.out _) ?_; rintro e w1 ⟨rfl, rfl⟩)
  go_ret
  exact ⟨rfl, rfl⟩

theorem bitsLen_small (x : Nat) (hx : x < 65536) : Sort.bitsLen x ≤ 16 := by
  rw [← len_plain x (by omega)]
  exact Lib.bitLen_le x 16 (by omega) (by omega)

set_option maxRecDepth 100000 in
theorem pow_any (x : Nat) (hx : x < 65536) (w : World) : Calls Try.prog 46 #[.int .i64 x] w fun e w' => e = .returned (.int .u64 ((1 <<< Sort.bitsLen x : Nat))) ∧ w' = w := by
  have P : Hid _ := len_any x hx
  have b := bitsLen_small x hx
  obtain ⟨k, hk⟩ : ∃ k, k = Sort.bitsLen x := ⟨_, rfl⟩
  rw [← hk] at P b ⊢
  have v : IntKind.u64.wrap ((2 : Int) ^ k) = ((1 <<< k : Nat) : Int) := by
    have h : (2 : Nat) ^ k ≤ 2 ^ 16 := Nat.pow_le_pow_right (by decide) b
    rw [IntKind.wrap_u64, Nat.one_shiftLeft, show ((2 : Int) ^ k) = ((2 ^ k : Nat) : Int) by push_cast; rfl]
    generalize (2 : Nat) ^ k = p at h
    omega
  clear hk
  go_enter Try.func46, Try.ntmps46
  go_wp2_with (go_at_call 33; refine Calls.mono (P.out _) ?_; rintro e w1 ⟨rfl, rfl⟩)
  go_ret
  exact ⟨rfl, rfl⟩

set_option maxRecDepth 100000 in
set_option maxHeartbeats 4000000 in
theorem next_any {w : World} {r X : Nat} (h : Blk w r [.int .u64 X] 113) (hX : X < 18446744073709551616) :
    Calls Try.prog 47 #[.pointer (some ⟨r, 0, none⟩)] w fun e w' => e = .returned (.int .u64 (Sort.xorNextN X : Nat)) ∧ Blk w' r [.int .u64 (Sort.xorNextN X : Nat)] 113 ∧ Chg (fun k => k = r) w w' := by
  obtain ⟨A, hA⟩ : ∃ A : Nat, A = X ^^^ (X * 8192 % 18446744073709551616) := ⟨_, rfl⟩
  obtain ⟨B, hB⟩ : ∃ B : Nat, B = A ^^^ (A / 128) := ⟨_, rfl⟩
  obtain ⟨C, hC⟩ : ∃ C : Nat, C = B ^^^ (B * 131072 % 18446744073709551616) := ⟨_, rfl⟩
  have lA : A < 18446744073709551616 := by rw [hA]; exact Nat.xor_lt_two_pow (n := 64) (by omega) (by omega)
  have lB : B < 18446744073709551616 := by rw [hB]; exact Nat.xor_lt_two_pow (n := 64) (by omega) (by omega)
  have e1 : bits .xor .u64 (X : Int) (IntKind.u64.wrap ((X : Int) * 8192)) = (A : Int) := by
    rw [IntKind.wrap_u64, show ((X : Int) * 8192 % 18446744073709551616) = ((X * 8192 % 18446744073709551616 : Nat) : Int) by omega, bits_xor_u64_nat _ _ hX (by omega), hA]
  have e2 : bits .xor .u64 (A : Int) ((A : Int) / 128) = (B : Int) := by
    rw [show ((A : Int) / 128) = ((A / 128 : Nat) : Int) by omega, bits_xor_u64_nat _ _ lA (by omega), hB]
  have e3 : bits .xor .u64 (B : Int) (IntKind.u64.wrap ((B : Int) * 131072)) = (C : Int) := by
    rw [IntKind.wrap_u64, show ((B : Int) * 131072 % 18446744073709551616) = ((B * 131072 % 18446744073709551616 : Nat) : Int) by omega, bits_xor_u64_nat _ _ lB (by omega), hC]
  have hv : Sort.xorNextN X = C := by unfold Sort.xorNextN; simp only []; rw [← hA, ← hB, ← hC]
  rw [hv]
  clear hA hB hC hv
  have st : ∀ (v : World) (x y : Nat), Blk v r [.int .u64 x] 113 → Blk ((v.setCell ⟨r, 0, none⟩ (.int .u64 y)).drew) r [.int .u64 y] 113 ∧ Chg (fun k => k = r) v ((v.setCell ⟨r, 0, none⟩ (.int .u64 y)).drew) := fun v x y b => ⟨(b.set 0 _).drew, ((Chg.refl (fun k => k = r) v).setCell (p := ⟨r, 0, none⟩) (.inl rfl) _).drew⟩
  have ST : Hid _ := st
  have c0 : w.cell? ⟨r, 0, none⟩ = some (.int .u64 X) := h.cell 0
  have f0 := h.fr 0
  have H : Hid _ := h
  clear h st
  go_enter Try.func47, Try.ntmps47
  go_upto_region 1 with fail
  go_region
  obtain ⟨b1, k1⟩ := ST.out w X A H.out
  generalize (w.setCell ⟨r, 0, none⟩ (.int .u64 (A : Nat))).drew = w1 at b1 k1 ⊢
  have c1 : w1.cell? ⟨r, 0, none⟩ = some (.int .u64 A) := b1.cell 0
  have f1 := b1.fr 0
  have H1 : Hid _ := And.intro b1 k1
  clear b1 k1 c0 f0
  go_upto_region 2 with fail
  go_region
  obtain ⟨b2, k2⟩ := ST.out w1 A B H1.out.1
  generalize (w1.setCell ⟨r, 0, none⟩ (.int .u64 (B : Nat))).drew = w2 at b2 k2 ⊢
  have c2 : w2.cell? ⟨r, 0, none⟩ = some (.int .u64 B) := b2.cell 0
  have f2 := b2.fr 0
  have H2 : Hid _ := And.intro b2 k2
  clear b2 k2 c1 f1
  go_upto_region 3 with fail
  go_region
  obtain ⟨b3, k3⟩ := ST.out w2 B C H2.out.1
  generalize (w2.setCell ⟨r, 0, none⟩ (.int .u64 (C : Nat))).drew = w3 at b3 k3 ⊢
  have c3 : w3.cell? ⟨r, 0, none⟩ = some (.int .u64 C) := b3.cell 0
  have f3 := b3.fr 0
  have H3 : Hid _ := And.intro b3 k3
  clear b3 k3 c2 f2
  go_wp2_with fail
  go_ret
  exact ⟨rfl, H3.out.1, (H1.out.2.trans H2.out.2 (fun _ h => .inl h)).trans H3.out.2 (fun _ h => .inl h)⟩

end Go.Proofs.Ytnfcmpffihmnmaa
