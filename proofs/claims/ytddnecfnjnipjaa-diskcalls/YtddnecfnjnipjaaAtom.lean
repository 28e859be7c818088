/-
  Load and Store of the disk's counters; Off and Fuse; crashes that keep nothing, or all.
-/
import Derived.Test.YtddnecfnjnipjaaFoot
namespace Go.Proofs.Ytddnecfnjnipjaa
open Go.RowKit Go.RwLone

set_option maxRecDepth 100000 in
set_option maxHeartbeats 1000000 in
theorem u64load_any (a : Addr) (x : Int) (w : World) (hc : w.cell? a = some (.int .u64 x)) :
    Calls Try.prog 35 #[.pointer (some a)] w fun e w' => e = .returned (.int .u64 x) ∧ w = w' := by
  have hld := run_call_load (P := Try.prog) Try.func71 (by kernel_rfl) (by kernel_rfl) (by kernel_rfl) .u64 (by kernel_rfl) hc
  go_enter Try.func35, Try.ntmps35
  go_wp2
  go_ret
  exact ⟨rfl, rfl⟩

set_option maxRecDepth 100000 in
set_option maxHeartbeats 1000000 in
theorem u64store_any (a : Addr) (x y : Int) (w : World) (hc : w.cell? a = some (.int .u64 x)) (hz : w.frozen? a = false) :
    Calls Try.prog 34 #[.pointer (some a), .int .u64 y] w fun e w' => e = .returned (.tuple #[]) ∧ w' = w.setCell a (.int .u64 y) := by
  have hst := run_call_store (P := Try.prog) Try.func70 (by kernel_rfl) (by kernel_rfl) (by kernel_rfl) (by kernel_rfl) (k := .u64) (y := y) hc hz
  go_enter Try.func34, Try.ntmps34
  go_wp2
  go_end0
  exact ⟨rfl, rfl⟩

section
variable {w w' : World} {Bl : Nat → Prop} {p S z b : Nat} {x : Nums} {A : Nat → List (Nat × List Int)} {F : Nat → Option (List Int)}

theorem AB.off (h : AB w Bl p S z b x A F) :
    Calls Try.prog 28 #[.pointer (some ⟨p, 0, none⟩)] w fun e w' => e = .returned (.bool x.off) ∧ Chg (fun i => i = p) w w' ∧ AB w' Bl p S z b x A F := by
  obtain ⟨m, c, kc, km, L, V, D, K, E, C, hd, q⟩ := h.ex
  refine (off_row hd.dd.row).mono ?_
  rintro e w9 ⟨rfl, hr, ch⟩
  exact ⟨rfl, ch, ⟨⟨m, c, kc, km, L, V, D, K, E, C, hd.turn ch hr rfl (Nat.le_refl _), q⟩, h.bp, fun g hg => Nat.lt_of_lt_of_le (h.low g hg) ch.size, h.nb⟩⟩
theorem AB.fuse (h : AB w Bl p S z b x A F) (n : Int) (hn1 : -9223372036854775808 ≤ n) (hn2 : n ≤ 9223372036854775807) :
    Calls Try.prog 14 #[.pointer (some ⟨p, 0, none⟩), .int .i64 n] w fun e w' => e = .returned (.tuple #[]) ∧ Chg (fun i => i = p) w w' ∧ AB w' Bl p S z b (if x.off then x else { x with fuse := max n (-1) }) A F := by
  obtain ⟨m, c, kc, km, L, V, D, K, E, C, hd, q⟩ := h.ex
  refine (fuse_any hd.dd.row n hn1 hn2).mono ?_
  rintro e w9 ⟨rfl, hr, ch⟩
  refine ⟨rfl, ch, ⟨⟨m, c, kc, km, L, V, D, K, E, C, hd.turn ch hr ?_ (Nat.le_refl _), q⟩, h.bp, fun g hg => Nat.lt_of_lt_of_le (h.low g hg) ch.size, h.nb.of_eq (by split <;> rfl)⟩⟩
  split <;> rfl
theorem AB.flush_no (h : AB w Bl p S z b x A F) (hf : -1 ≤ x.fuse) (hf2 : x.fuse ≤ 9223372036854775807) (hbu : burnE x = 32) :
    Calls Try.prog 15 #[.pointer (some ⟨p, 0, none⟩)] w fun e w' => e = .returned (.int .i64 32) ∧ Chg (fun i => i = p) w w' ∧ AB w' Bl p S z b (burnN x) A F := by
  obtain ⟨m, c, kc, km, L, V, D, K, E, C, hd, q⟩ := h.ex
  refine (hd.dd.flush_off hf hf2 hbu).mono ?_
  rintro e w9 ⟨rfl, ch, h9⟩
  exact ⟨rfl, ch, ⟨⟨m, c, kc, km, L, V, D, K, E, C, hd.turn ch h9.row (burnN_pend x) (Nat.le_refl _), q⟩, h.bp, fun g hg => Nat.lt_of_lt_of_le (h.low g hg) ch.size, h.nb.of_eq (burnN_pend x)⟩⟩
/-- The lengths of what a disk holds. -/
theorem AB.lens (h : AB w Bl p S z b x A F) : (∀ t y, y ∈ A t → y.2.length = z) ∧ ∀ t, ((F t).getD (zs z)).length = z := by
  obtain ⟨m, c, kc, km, L, V, D, K, E, C, hd, hm, hc, hV, hK, hL, hA, hF⟩ := h.ex
  refine ⟨fun t y hy => ?_, fun t => ?_⟩
  · rw [← hA t] at hy
    obtain ⟨y', hy', rfl⟩ := List.mem_map.1 hy
    exact (hd.lr t y' hy').2
  · rw [← hF t]
    cases hKt : K t with
    | none => simp [zs]
    | some g => exact (hd.kr t g hKt).2
end

theorem foldA_keep (z : Nat) (kN : Nat → Nat) : ∀ (l : List (Nat × List Int)) (cur : Option (List Int)), (∀ y ∈ l, kN y.1 = 0) → foldA z kN l cur = cur
  | [], _, _ => rfl
  | y :: l, cur, h => by
    show foldA z kN l (if kN y.1 = 0 then cur else _) = cur
    rw [if_pos (h y (by simp))]
    exact foldA_keep z kN l cur (fun y hy => h y (by simp [hy]))
theorem over_all {l m : List Int} {z : Nat} (hl : l.length = z) (hm : m.length = z) : over l m z = l := by
  unfold over
  rw [List.take_of_length_le (by omega), List.drop_of_length_le (by omega), List.append_nil]
theorem foldA_all {z : Nat} (hz : 0 < z) (kN : Nat → Nat) : ∀ (l : List (Nat × List Int)) (cur : Option (List Int)), (cur.getD (zs z)).length = z → (∀ y ∈ l, kN y.1 = z ∧ y.2.length = z) → foldA z kN l cur = lastA l cur
  | [], _, _, _ => rfl
  | y :: l, cur, hc, h => by
    obtain ⟨h1, h2⟩ := h y (by simp)
    show foldA z kN l (if kN y.1 = 0 then cur else some (over y.2 (cur.getD (zs z)) (kN y.1))) = lastA (y :: l) cur
    rw [if_neg (by omega), h1, over_all h2 hc, foldA_all hz kN l (some y.2) h2 (fun y hy => h y (by simp [hy]))]
    unfold lastA
    cases l with
    | nil => rfl
    | cons x l =>
      have e : (x :: l).getLast? = some ((x :: l).getLast (by simp)) := List.getLast?_eq_some_getLast (by simp)
      rw [List.getLast?_cons_cons, e]
end Go.Proofs.Ytddnecfnjnipjaa
