/-
  Digits, one; a script of turns in memory.
-/
import Derived.Test.YtpkcabbfblhekaaPure
import Derived.Deep.CutRange
namespace Go.Proofs.Ytpkcabbfblhekaa
open Go.RowKit

set_option maxRecDepth 100000 in
set_option maxHeartbeats 1000000 in
theorem digits_any (n : Nat) (hn : n < 1099511627776) (w : World) : Calls Try.prog 13 #[.int .i64 n] w fun e w' => e = .returned (.int .i64 (dg n)) ∧ w = w' := by
  have hd : dg n ≤ n := by
    induction n using Nat.strongRecOn with
    | ind n ih =>
      rcases Nat.eq_zero_or_pos n with h0 | h0
      · subst h0; rw [dg_zero]; exact Nat.le_refl _
      · rw [dg_pos h0]
        have := ih (n / 2) (by omega) (by omega)
        omega
  go_enter Try.func13, Try.ntmps13
  go_wp2_with fail
  go_loopg [0, 3] (n + 1) (fun gk x i wr => ∃ a k : Nat, x = .int .i64 a ∧ i = .int .i64 k ∧ a < gk ∧ a ≤ n ∧ k ≤ n ∧ wr = w ∧ Hid (k + dg a = dg n))
  case atStart => exact ⟨n, 0, rfl, rfl, by omega, by omega, by omega, rfl, (Nat.zero_add (dg n) : 0 + dg n = dg n)⟩
  case round =>
    obtain ⟨a, k, rfl, rfl, ha, han, hk, rfl, hid⟩ := hrel
    by_cases h0 : a = 0
    · subst h0
      go_wp2_with fail
      go_ret
      have := hid.out
      rw [dg_zero, Nat.add_zero] at this
      rw [← this]
      exact ⟨rfl, rfl⟩
    · have hpos : (0 : Int) < (a : Int) := by omega
      obtain ⟨b, hb⟩ : ∃ b, a / 2 = b := ⟨_, rfl⟩
      have hq : (a : Int).tdiv 2 = (b : Int) := by rw [Int.tdiv_eq_ediv_of_nonneg (by omega)]; omega
      have hba : b < a := by omega
      have hid2 : Hid (k + 1 + dg b = dg n) := by
        have := hid.out
        rw [dg_pos (by omega : 0 < a), hb] at this
        show k + 1 + dg b = dg n
        omega
      have hkn : k + 1 ≤ n := by have := hid2.out; omega
      clear hid hb
      go_wp2_with fail
      go_roundg (b + 1)
      case measure => omega
      case rel => exact ⟨b, k + 1, rfl, by go_num, by omega, by omega, hkn, rfl, hid2⟩

def headT (L : List (Int × Int)) : Int × Int := L.headD (0, 0)

set_option maxRecDepth 100000 in
theorem one_any {w : World} {s : Value} {L : List (Int × Int)} (h : Ths w s L) : Calls Try.prog 18 #[s] w fun e w' => e = .returned (two (headT L)) ∧ Chg (fun _ => False) w w' := by
  rcases h with ⟨rfl, rfl⟩ | ⟨a9, c, rfl, rfl⟩ | ⟨b, o, c, rfl, hc⟩
  · go_enter Try.func18, Try.ntmps18
    go_wp2_with fail
    refine bodyPost_ret (results_two (t := 26) rfl _ _ w.heap.size [.int .i64 0, .int .i64 0] _ rfl ?_ Try.underlying26 rfl sz26) rfl ?_
    · exact Blk.made w [.int .i64 0, .int .i64 0] 26
    · exact ⟨rfl, (Chg.refl _ _).alloc _⟩
  · go_enter Try.func18, Try.ntmps18
    go_wp2_with fail
    refine bodyPost_ret (results_two (t := 26) rfl _ _ w.heap.size [.int .i64 0, .int .i64 0] _ rfl ?_ Try.underlying26 rfl sz26) rfl ?_
    · exact Blk.made w [.int .i64 0, .int .i64 0] 26
    · exact ⟨rfl, (Chg.refl _ _).alloc _⟩
  · cases L with
    | nil =>
      go_enter Try.func18, Try.ntmps18
      go_wp2_with fail
      refine bodyPost_ret (results_two (t := 26) rfl _ _ w.heap.size [.int .i64 0, .int .i64 0] _ rfl ?_ Try.underlying26 rfl sz26) rfl ?_
      · exact Blk.made w [.int .i64 0, .int .i64 0] 26
      · exact ⟨rfl, (Chg.refl _ _).alloc _⟩
    | cons a L =>
      obtain ⟨ak, an⟩ := a
      obtain ⟨e0, e1⟩ := hc 0 (ak, an) rfl
      rw [Nat.zero_mul, Nat.add_zero] at e0 e1
      have hb : b < w.heap.size := World.block_lt_of_cell? _ _ e0
      obtain ⟨N, hN⟩ : ∃ N, N = ((ak, an) :: L).length := ⟨_, rfl⟩
      have hN0 : ((N : Int) == 0) = false := by rw [hN]; simp <;> omega
      have hN1 : (0 : Int) < (N : Int) := by rw [hN]; simp <;> omega
      rw [← hN]
      clear hN hc
      go_enter Try.func18, Try.ntmps18
      go_wp2_with fail
      refine bodyPost_ret (results_two (t := 26) rfl _ _ w.heap.size [.int .i64 ak, .int .i64 an] _ rfl ?_ Try.underlying26 rfl sz26) rfl ?_
      · exact Blk.made w [.int .i64 ak, .int .i64 an] 26
      · exact ⟨rfl, (Chg.refl _ _).alloc _⟩

/-- One turn of a script. -/
structure Tn where
  kind : Int
  which : Int
  s : Value
  l : List (Int × Int)
/-- A script that lies in memory. -/
structure Scr (w : World) (a : Option Addr) (N : Nat) (st : Nat → Tn) (bud : Nat → Nat) : Prop where
  row : ∀ i, i < N → ∃ g o, a = some ⟨g, o, none⟩ ∧ w.cell? ⟨g, o + i * 3, none⟩ = some (.int .i64 (st i).kind) ∧ w.cell? ⟨g, o + i * 3 + 1, none⟩ = some (.int .i64 (st i).which) ∧ w.cell? ⟨g, o + i * 3 + 2, none⟩ = some (st i).s
  ths : ∀ i, i < N → Ths w (st i).s (st i).l
  add : ∀ i, i < N → bud (i + 1) = bud i + (st i).l.length + 1
  zero : bud 0 = 0
  tot : ∀ i, i ≤ N → bud i ≤ 1048576
  len : N ≤ 1048576

theorem Ths.low {w : World} {s : Value} {L : List (Int × Int)} (h : Ths w s L) (hne : L ≠ []) : ∀ k, s.ownBlock = some k → k < w.heap.size := by
  intro k hk
  rcases h with ⟨_, h9⟩ | ⟨_, _, _, h9⟩ | ⟨b, o, c, rfl, hc⟩
  · exact absurd h9 hne
  · exact absurd h9 hne
  · cases L with
    | nil => exact absurd rfl hne
    | cons a L =>
      have h8 := World.block_lt_of_cell? _ _ (hc 0 a rfl).1
      have : b = k := by simpa [Value.ownBlock] using hk
      rw [← this]; exact h8

end Go.Proofs.Ytpkcabbfblhekaa
