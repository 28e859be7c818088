/-
  The walks of the reference's number and Uint, and of a Reader's Uint.
-/
import Derived.Test.YtjmeaebehndheaaSum
namespace Go.Proofs.Ytjmeaebehndheaa
open Go.RowKit

/-- A number at the front of bytes: an error, the number, how many bytes it has. -/
def numG : List Int → Nat → Nat → Int × Nat × Nat
  | [], _, _ => (20, 0, 0)
  | c :: r, k, acc =>
    if k = 9 ∧ 1 < c then (21, 0, 0) else if 0 < k ∧ c = 0 then (22, 0, 0)
    else if c < 128 then (0, acc + (c % 128).toNat * 128 ^ k, k + 1) else numG r (k + 1) (acc + (c % 128).toNat * 128 ^ k)
theorem numG_nil (k acc : Nat) : numG [] k acc = (20, 0, 0) := rfl
theorem numG_long {c : Int} {r : List Int} {k acc : Nat} (h1 : k = 9) (h2 : 1 < c) : numG (c :: r) k acc = (21, 0, 0) := by rw [numG, if_pos ⟨h1, h2⟩]
theorem numG_form {c : Int} {r : List Int} {k acc : Nat} (h : ¬ (k = 9 ∧ 1 < c)) (h1 : 0 < k) (h2 : c = 0) : numG (c :: r) k acc = (22, 0, 0) := by rw [numG, if_neg h, if_pos ⟨h1, h2⟩]
theorem numG_last {c : Int} {r : List Int} {k acc : Nat} (h : ¬ (k = 9 ∧ 1 < c)) (h1 : ¬ (0 < k ∧ c = 0)) (h2 : c < 128) : numG (c :: r) k acc = (0, acc + (c % 128).toNat * 128 ^ k, k + 1) := by rw [numG, if_neg h, if_neg h1, if_pos h2]
theorem numG_more {c : Int} {r : List Int} {k acc : Nat} (h : ¬ (k = 9 ∧ 1 < c)) (h1 : ¬ (0 < k ∧ c = 0)) (h2 : ¬ c < 128) : numG (c :: r) k acc = numG r (k + 1) (acc + (c % 128).toNat * 128 ^ k) := by rw [numG, if_neg h, if_neg h1, if_neg h2]

/-- The three results of the reference's number. -/
def numR (T : List Int) (a : Nat) : List Value := match numG (T.drop a) 0 0 with
  | (e, n, u) => if e = 0 then [.int .u64 n, .int .i64 ((a : Int) + u), .int .i64 0] else [.int .u64 0, .int .i64 0, .int .i64 e]
theorem numR_err {T : List Int} {a : Nat} {e : Int} {n u : Nat} (h : numG (T.drop a) 0 0 = (e, n, u)) (he : ¬ e = 0) : numR T a = [.int .u64 0, .int .i64 0, .int .i64 e] := by simp [numR, h, he]
theorem numR_ok {T : List Int} {a n u : Nat} (h : numG (T.drop a) 0 0 = (0, n, u)) : numR T a = [.int .u64 n, .int .i64 ((a : Int) + u), .int .i64 0] := by simp [numR, h]

theorem num_val (acc K : Nat) {c : Int} (_hc : 0 ≤ c) : ((acc + (c % 128).toNat * 128 ^ K : Nat) : Int) = acc + (c % 128) * ((128 ^ K : Nat) : Int) := by
  rw [Int.natCast_add, Int.natCast_mul, Int.toNat_of_nonneg (by omega)]
theorem num_lt {acc K : Nat} {c : Int} (h : acc < 128 ^ K) : acc + (c % 128).toNat * 128 ^ K < 128 ^ (K + 1) := by
  have h2 : (c % 128).toNat ≤ 127 := by omega
  have h3 : (c % 128).toNat * 128 ^ K ≤ 127 * 128 ^ K := Nat.mul_le_mul_right _ h2
  rw [Nat.pow_succ]
  omega
theorem drop_next {T : List Int} {i : Nat} (h : i < T.length) : T.drop i = T[i] :: T.drop (i + 1) := List.drop_eq_getElem_cons h

set_option maxRecDepth 100000 in
set_option maxHeartbeats 4000000 in
theorem number_any {w : World} {s : Value} {T : List Int} (hs : Src w s T) (hb : Byts T) (a : Nat) (ha : a ≤ T.length) (hbig : T.length ≤ 140737488355328) :
    Calls Try.prog 111 #[s, .int .i64 a] w fun e w' => e = .returned (.tuple (numR T a).toArray) ∧ w' = w := by
  obtain ⟨a0, c0, hs2⟩ := hs.form
  subst hs2
  have HS : Hid _ := hs
  have HB : Hid _ := hb
  obtain ⟨R, hR⟩ : ∃ R, R = (numR T a).toArray := ⟨_, rfl⟩
  rw [← hR]
  have HR : Hid _ := hR
  clear hs hb hR
  go_enter Try.func111, Try.ntmps111
  go_wp2_with fail
  go_loop [7, 8, 9] (fun n u i => ∃ k acc : Nat, k ≤ 9 ∧ i = .int .i64 k ∧ n = .int .u64 acc ∧ u = .int .u64 ((128 ^ k : Nat) : Int) ∧ a + k ≤ T.length ∧ acc < 128 ^ k ∧ numG (T.drop (a + k)) k acc = numG (T.drop a) 0 0) (fun _ _ i => 10 - (intOf i).toNat)
  case atStart => exact ⟨0, 0, by omega, rfl, rfl, rfl, by omega, by omega, rfl⟩
  case round =>
    obtain ⟨k, acc, hk, rfl, rfl, rfl, hkl, hacc, hg⟩ := hrel
    have HG : Hid _ := hg
    clear hg
    by_cases hlt : a + k < T.length
    · obtain ⟨g, o, rfl, hc⟩ := Src.at HS.out (a + k) hlt
      have hcb := Byts.at HB.out hlt
      have hd := List.drop_eq_getElem_cons hlt
      obtain ⟨c, hcc⟩ : ∃ c, c = T[a + k] := ⟨_, rfl⟩
      rw [← hcc] at hc hcb hd
      rw [hd] at HG
      clear hd hcc
      have hc' : w.cell? ⟨g, o + a + k, none⟩ = some (.int .u8 c) := by rw [Nat.add_assoc]; exact hc
      obtain rfl | rfl | rfl | rfl | rfl | rfl | rfl | rfl | rfl | rfl : k = 0 ∨ k = 1 ∨ k = 2 ∨ k = 3 ∨ k = 4 ∨ k = 5 ∨ k = 6 ∨ k = 7 ∨ k = 8 ∨ k = 9 := by omega
      · have hcell : w.cell? ⟨g, o + a, none⟩ = some (.int .u8 c) := hc
        have hacc2 : acc < 1 := hacc
        have hv : Hid _ := num_val acc 0 hcb.1
        clear hc hc' hacc
        by_cases h128 : c < 128
        · rw [numG_last (by omega) (by omega) h128] at HG
          have HE : Hid _ := numR_ok HG.out.symm
          go_wp2_with fail
          refine bodyPost_ret (v := .tuple #[.int .u64 ((acc : Int) + c % 128 * 1), .int .i64 ((a : Int) + 1), .int .i64 0]) (by simp [results, go_sem]) rfl ⟨?_, rfl⟩
          rw [HR.out, HE.out, hv.out]
          have e1 : (a : Int) + ((0 + 1 : Nat) : Int) = (a : Int) + 1 := by omega
          rw [e1]
          rfl
        · rw [numG_more (by omega) (by omega) h128] at HG
          have HLT : Hid _ := num_lt (c := c) (K := 0) hacc2
          go_wp2_with fail
          go_round
          case rel => exact ⟨1, acc + (c % 128).toNat * 128 ^ 0, by omega, by go_num, by rw [hv.out, Nat.pow_zero]; simp, by rfl, by omega, HLT.out, HG.out⟩
          case measure => simp [intOf]
      · have hcell : w.cell? ⟨g, o + (a + 1), none⟩ = some (.int .u8 c) := hc
        have hacc2 : acc < 128 := hacc
        have hv : Hid _ := num_val acc 1 hcb.1
        clear hc hc' hacc
        by_cases h0 : c = 0
        · rw [numG_form (by omega) (by omega) h0] at HG
          have HE : Hid _ := numR_err HG.out.symm (by decide)
          subst h0
          go_wp2_with fail
          exact bodyPost_ret (v := .tuple #[.int .u64 0, .int .i64 0, .int .i64 22]) (by simp [results, go_sem]) rfl ⟨by rw [HR.out, HE.out], rfl⟩
        by_cases h128 : c < 128
        · rw [numG_last (by omega) (by omega) h128] at HG
          have HE : Hid _ := numR_ok HG.out.symm
          go_wp2_with fail
          refine bodyPost_ret (v := .tuple #[.int .u64 ((acc : Int) + c % 128 * 128), .int .i64 ((a : Int) + 1 + 1), .int .i64 0]) (by simp [results, go_sem]) rfl ⟨?_, rfl⟩
          rw [HR.out, HE.out, hv.out]
          have e1 : (a : Int) + ((1 + 1 : Nat) : Int) = (a : Int) + 1 + 1 := by omega
          rw [e1]
          rfl
        · rw [numG_more (by omega) (by omega) h128] at HG
          have HLT : Hid _ := num_lt (c := c) (K := 1) hacc2
          go_wp2_with fail
          go_round
          case rel => exact ⟨2, acc + (c % 128).toNat * 128 ^ 1, by omega, by go_num, by rw [hv.out]; rfl, by rfl, by omega, HLT.out, HG.out⟩
          case measure => simp [intOf]
      · have hcell : w.cell? ⟨g, o + (a + 2), none⟩ = some (.int .u8 c) := hc
        have hacc2 : acc < 16384 := hacc
        have hv : Hid _ := num_val acc 2 hcb.1
        clear hc hc' hacc
        by_cases h0 : c = 0
        · rw [numG_form (by omega) (by omega) h0] at HG
          have HE : Hid _ := numR_err HG.out.symm (by decide)
          subst h0
          go_wp2_with fail
          exact bodyPost_ret (v := .tuple #[.int .u64 0, .int .i64 0, .int .i64 22]) (by simp [results, go_sem]) rfl ⟨by rw [HR.out, HE.out], rfl⟩
        by_cases h128 : c < 128
        · rw [numG_last (by omega) (by omega) h128] at HG
          have HE : Hid _ := numR_ok HG.out.symm
          go_wp2_with fail
          refine bodyPost_ret (v := .tuple #[.int .u64 ((acc : Int) + c % 128 * 16384), .int .i64 ((a : Int) + 2 + 1), .int .i64 0]) (by simp [results, go_sem]) rfl ⟨?_, rfl⟩
          rw [HR.out, HE.out, hv.out]
          have e1 : (a : Int) + ((2 + 1 : Nat) : Int) = (a : Int) + 2 + 1 := by omega
          rw [e1]
          rfl
        · rw [numG_more (by omega) (by omega) h128] at HG
          have HLT : Hid _ := num_lt (c := c) (K := 2) hacc2
          go_wp2_with fail
          go_round
          case rel => exact ⟨3, acc + (c % 128).toNat * 128 ^ 2, by omega, by go_num, by rw [hv.out]; rfl, by rfl, by omega, HLT.out, HG.out⟩
          case measure => simp [intOf]
      · have hcell : w.cell? ⟨g, o + (a + 3), none⟩ = some (.int .u8 c) := hc
        have hacc2 : acc < 2097152 := hacc
        have hv : Hid _ := num_val acc 3 hcb.1
        clear hc hc' hacc
        by_cases h0 : c = 0
        · rw [numG_form (by omega) (by omega) h0] at HG
          have HE : Hid _ := numR_err HG.out.symm (by decide)
          subst h0
          go_wp2_with fail
          exact bodyPost_ret (v := .tuple #[.int .u64 0, .int .i64 0, .int .i64 22]) (by simp [results, go_sem]) rfl ⟨by rw [HR.out, HE.out], rfl⟩
        by_cases h128 : c < 128
        · rw [numG_last (by omega) (by omega) h128] at HG
          have HE : Hid _ := numR_ok HG.out.symm
          go_wp2_with fail
          refine bodyPost_ret (v := .tuple #[.int .u64 ((acc : Int) + c % 128 * 2097152), .int .i64 ((a : Int) + 3 + 1), .int .i64 0]) (by simp [results, go_sem]) rfl ⟨?_, rfl⟩
          rw [HR.out, HE.out, hv.out]
          have e1 : (a : Int) + ((3 + 1 : Nat) : Int) = (a : Int) + 3 + 1 := by omega
          rw [e1]
          rfl
        · rw [numG_more (by omega) (by omega) h128] at HG
          have HLT : Hid _ := num_lt (c := c) (K := 3) hacc2
          go_wp2_with fail
          go_round
          case rel => exact ⟨4, acc + (c % 128).toNat * 128 ^ 3, by omega, by go_num, by rw [hv.out]; rfl, by rfl, by omega, HLT.out, HG.out⟩
          case measure => simp [intOf]
      · have hcell : w.cell? ⟨g, o + (a + 4), none⟩ = some (.int .u8 c) := hc
        have hacc2 : acc < 268435456 := hacc
        have hv : Hid _ := num_val acc 4 hcb.1
        clear hc hc' hacc
        by_cases h0 : c = 0
        · rw [numG_form (by omega) (by omega) h0] at HG
          have HE : Hid _ := numR_err HG.out.symm (by decide)
          subst h0
          go_wp2_with fail
          exact bodyPost_ret (v := .tuple #[.int .u64 0, .int .i64 0, .int .i64 22]) (by simp [results, go_sem]) rfl ⟨by rw [HR.out, HE.out], rfl⟩
        by_cases h128 : c < 128
        · rw [numG_last (by omega) (by omega) h128] at HG
          have HE : Hid _ := numR_ok HG.out.symm
          go_wp2_with fail
          refine bodyPost_ret (v := .tuple #[.int .u64 ((acc : Int) + c % 128 * 268435456), .int .i64 ((a : Int) + 4 + 1), .int .i64 0]) (by simp [results, go_sem]) rfl ⟨?_, rfl⟩
          rw [HR.out, HE.out, hv.out]
          have e1 : (a : Int) + ((4 + 1 : Nat) : Int) = (a : Int) + 4 + 1 := by omega
          rw [e1]
          rfl
        · rw [numG_more (by omega) (by omega) h128] at HG
          have HLT : Hid _ := num_lt (c := c) (K := 4) hacc2
          go_wp2_with fail
          go_round
          case rel => exact ⟨5, acc + (c % 128).toNat * 128 ^ 4, by omega, by go_num, by rw [hv.out]; rfl, by rfl, by omega, HLT.out, HG.out⟩
          case measure => simp [intOf]
      · have hcell : w.cell? ⟨g, o + (a + 5), none⟩ = some (.int .u8 c) := hc
        have hacc2 : acc < 34359738368 := hacc
        have hv : Hid _ := num_val acc 5 hcb.1
        clear hc hc' hacc
        by_cases h0 : c = 0
        · rw [numG_form (by omega) (by omega) h0] at HG
          have HE : Hid _ := numR_err HG.out.symm (by decide)
          subst h0
          go_wp2_with fail
          exact bodyPost_ret (v := .tuple #[.int .u64 0, .int .i64 0, .int .i64 22]) (by simp [results, go_sem]) rfl ⟨by rw [HR.out, HE.out], rfl⟩
        by_cases h128 : c < 128
        · rw [numG_last (by omega) (by omega) h128] at HG
          have HE : Hid _ := numR_ok HG.out.symm
          go_wp2_with fail
          refine bodyPost_ret (v := .tuple #[.int .u64 ((acc : Int) + c % 128 * 34359738368), .int .i64 ((a : Int) + 5 + 1), .int .i64 0]) (by simp [results, go_sem]) rfl ⟨?_, rfl⟩
          rw [HR.out, HE.out, hv.out]
          have e1 : (a : Int) + ((5 + 1 : Nat) : Int) = (a : Int) + 5 + 1 := by omega
          rw [e1]
          rfl
        · rw [numG_more (by omega) (by omega) h128] at HG
          have HLT : Hid _ := num_lt (c := c) (K := 5) hacc2
          go_wp2_with fail
          go_round
          case rel => exact ⟨6, acc + (c % 128).toNat * 128 ^ 5, by omega, by go_num, by rw [hv.out]; rfl, by rfl, by omega, HLT.out, HG.out⟩
          case measure => simp [intOf]
      · have hcell : w.cell? ⟨g, o + (a + 6), none⟩ = some (.int .u8 c) := hc
        have hacc2 : acc < 4398046511104 := hacc
        have hv : Hid _ := num_val acc 6 hcb.1
        clear hc hc' hacc
        by_cases h0 : c = 0
        · rw [numG_form (by omega) (by omega) h0] at HG
          have HE : Hid _ := numR_err HG.out.symm (by decide)
          subst h0
          go_wp2_with fail
          exact bodyPost_ret (v := .tuple #[.int .u64 0, .int .i64 0, .int .i64 22]) (by simp [results, go_sem]) rfl ⟨by rw [HR.out, HE.out], rfl⟩
        by_cases h128 : c < 128
        · rw [numG_last (by omega) (by omega) h128] at HG
          have HE : Hid _ := numR_ok HG.out.symm
          go_wp2_with fail
          refine bodyPost_ret (v := .tuple #[.int .u64 ((acc : Int) + c % 128 * 4398046511104), .int .i64 ((a : Int) + 6 + 1), .int .i64 0]) (by simp [results, go_sem]) rfl ⟨?_, rfl⟩
          rw [HR.out, HE.out, hv.out]
          have e1 : (a : Int) + ((6 + 1 : Nat) : Int) = (a : Int) + 6 + 1 := by omega
          rw [e1]
          rfl
        · rw [numG_more (by omega) (by omega) h128] at HG
          have HLT : Hid _ := num_lt (c := c) (K := 6) hacc2
          go_wp2_with fail
          go_round
          case rel => exact ⟨7, acc + (c % 128).toNat * 128 ^ 6, by omega, by go_num, by rw [hv.out]; rfl, by rfl, by omega, HLT.out, HG.out⟩
          case measure => simp [intOf]
      · have hcell : w.cell? ⟨g, o + (a + 7), none⟩ = some (.int .u8 c) := hc
        have hacc2 : acc < 562949953421312 := hacc
        have hv : Hid _ := num_val acc 7 hcb.1
        clear hc hc' hacc
        by_cases h0 : c = 0
        · rw [numG_form (by omega) (by omega) h0] at HG
          have HE : Hid _ := numR_err HG.out.symm (by decide)
          subst h0
          go_wp2_with fail
          exact bodyPost_ret (v := .tuple #[.int .u64 0, .int .i64 0, .int .i64 22]) (by simp [results, go_sem]) rfl ⟨by rw [HR.out, HE.out], rfl⟩
        by_cases h128 : c < 128
        · rw [numG_last (by omega) (by omega) h128] at HG
          have HE : Hid _ := numR_ok HG.out.symm
          go_wp2_with fail
          refine bodyPost_ret (v := .tuple #[.int .u64 ((acc : Int) + c % 128 * 562949953421312), .int .i64 ((a : Int) + 7 + 1), .int .i64 0]) (by simp [results, go_sem]) rfl ⟨?_, rfl⟩
          rw [HR.out, HE.out, hv.out]
          have e1 : (a : Int) + ((7 + 1 : Nat) : Int) = (a : Int) + 7 + 1 := by omega
          rw [e1]
          rfl
        · rw [numG_more (by omega) (by omega) h128] at HG
          have HLT : Hid _ := num_lt (c := c) (K := 7) hacc2
          go_wp2_with fail
          go_round
          case rel => exact ⟨8, acc + (c % 128).toNat * 128 ^ 7, by omega, by go_num, by rw [hv.out]; rfl, by rfl, by omega, HLT.out, HG.out⟩
          case measure => simp [intOf]
      · have hcell : w.cell? ⟨g, o + (a + 8), none⟩ = some (.int .u8 c) := hc
        have hacc2 : acc < 72057594037927936 := hacc
        have hv : Hid _ := num_val acc 8 hcb.1
        clear hc hc' hacc
        by_cases h0 : c = 0
        · rw [numG_form (by omega) (by omega) h0] at HG
          have HE : Hid _ := numR_err HG.out.symm (by decide)
          subst h0
          go_wp2_with fail
          exact bodyPost_ret (v := .tuple #[.int .u64 0, .int .i64 0, .int .i64 22]) (by simp [results, go_sem]) rfl ⟨by rw [HR.out, HE.out], rfl⟩
        by_cases h128 : c < 128
        · rw [numG_last (by omega) (by omega) h128] at HG
          have HE : Hid _ := numR_ok HG.out.symm
          go_wp2_with fail
          refine bodyPost_ret (v := .tuple #[.int .u64 ((acc : Int) + c % 128 * 72057594037927936), .int .i64 ((a : Int) + 8 + 1), .int .i64 0]) (by simp [results, go_sem]) rfl ⟨?_, rfl⟩
          rw [HR.out, HE.out, hv.out]
          have e1 : (a : Int) + ((8 + 1 : Nat) : Int) = (a : Int) + 8 + 1 := by omega
          rw [e1]
          rfl
        · rw [numG_more (by omega) (by omega) h128] at HG
          have HLT : Hid _ := num_lt (c := c) (K := 8) hacc2
          go_wp2_with fail
          go_round
          case rel => exact ⟨9, acc + (c % 128).toNat * 128 ^ 8, by omega, by go_num, by rw [hv.out]; rfl, by rfl, by omega, HLT.out, HG.out⟩
          case measure => simp [intOf]
      · have hcell : w.cell? ⟨g, o + (a + 9), none⟩ = some (.int .u8 c) := hc
        have hacc2 : acc < 9223372036854775808 := hacc
        have hv : Hid _ := num_val acc 9 hcb.1
        clear hc hc' hacc
        by_cases h1 : 1 < c
        · rw [numG_long rfl h1] at HG
          have HE : Hid _ := numR_err HG.out.symm (by decide)
          go_wp2_with fail
          exact bodyPost_ret (v := .tuple #[.int .u64 0, .int .i64 0, .int .i64 21]) (by simp [results, go_sem]) rfl ⟨by rw [HR.out, HE.out], rfl⟩
        by_cases h0 : c = 0
        · rw [numG_form (by omega) (by omega) h0] at HG
          have HE : Hid _ := numR_err HG.out.symm (by decide)
          subst h0
          go_wp2_with fail
          exact bodyPost_ret (v := .tuple #[.int .u64 0, .int .i64 0, .int .i64 22]) (by simp [results, go_sem]) rfl ⟨by rw [HR.out, HE.out], rfl⟩
        have h128 : c < 128 := by omega
        rw [numG_last (by omega) (by omega) h128] at HG
        have HE : Hid _ := numR_ok HG.out.symm
        go_wp2_with fail
        refine bodyPost_ret (v := .tuple #[.int .u64 ((acc : Int) + c % 128 * 9223372036854775808), .int .i64 ((a : Int) + 9 + 1), .int .i64 0]) (by simp [results, go_sem]) rfl ⟨?_, rfl⟩
        rw [HR.out, HE.out, hv.out]
        have e1 : (a : Int) + ((9 + 1 : Nat) : Int) = (a : Int) + 9 + 1 := by omega
        rw [e1]
        rfl
    · have e : T.drop (a + k) = [] := List.drop_of_length_le (by omega)
      rw [e, numG_nil] at HG
      have HE : Hid _ := numR_err HG.out.symm (by decide)
      go_wp2_with fail
      exact bodyPost_ret (v := .tuple #[.int .u64 0, .int .i64 0, .int .i64 20]) (by simp [results, go_sem]) rfl ⟨by rw [HR.out, HE.out], rfl⟩

theorem numG_fits (l : List Int) : ∀ (k acc : Nat) (n u : Nat), Byts l → k ≤ 9 → acc < 128 ^ k → numG l k acc = (0, n, u) → u ≤ k + l.length ∧ n < 18446744073709551616 := by
  induction l with
  | nil => intro k acc n u _ _ _ h; rw [numG_nil] at h; cases h
  | cons c r ih =>
    intro k acc n u hb hk hacc h
    have hc := hb c (by simp)
    by_cases h1 : k = 9 ∧ 1 < c
    · rw [numG_long h1.1 h1.2] at h; cases h
    · by_cases h2 : 0 < k ∧ c = 0
      · rw [numG_form h1 h2.1 h2.2] at h; cases h
      · by_cases h3 : c < 128
        · rw [numG_last h1 h2 h3] at h
          injection h with _ h
          injection h with h4 h5
          subst h4 h5
          refine ⟨by simp only [List.length_cons]; omega, ?_⟩
          by_cases h9 : k = 9
          · subst h9
            have : (c % 128).toNat ≤ 1 := by omega
            have := Nat.mul_le_mul_right (128 ^ 9) this
            omega
          · have hlt := num_lt (c := c) hacc
            have hp : 128 ^ (k + 1) ≤ 128 ^ 9 := Nat.pow_le_pow_right (by omega) (by omega)
            omega
        · rw [numG_more h1 h2 h3] at h
          have h9 : k ≠ 9 := by intro e; omega
          have := ih (k + 1) _ n u (fun y hy => hb y (by simp [hy])) (by omega) (num_lt hacc) h
          simp only [List.length_cons]
          omega

end Go.Proofs.Ytjmeaebehndheaa
