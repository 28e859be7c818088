/-
  Lists of strings: compared, written into, sixty-four more.
-/
import Derived.Test.YtnmlhlgeacdcgaaCwV
import Derived.Lib.AppendZeros
namespace Go.Proofs.Ytnmlhlgeacdcgaa
open Go.RowKit

/-- A slice of strings, as it is read: in a block of which P holds. -/
def RD (w : World) (P : Nat → Prop) (A : Option Addr) (l : List (List UInt8)) : Prop := ∀ j (hj : j < l.length), ∃ g, A = some ⟨g, 0, none⟩ ∧ P g ∧ w.cell? ⟨g, j, none⟩ = some (.string ⟨l[j].toArray⟩)
theorem RD.kept {w w' : World} {P S : Nat → Prop} {A : Option Addr} {l : List (List UInt8)} (h : RD w P A l) (c : Chg S w w') (hS : ∀ g, P g → ¬ S g) : RD w' P A l := fun j hj => by
  obtain ⟨g, e, hp, hc⟩ := h j hj
  exact ⟨g, e, hp, by rw [World.cell?_of_block (c.block g (World.block_lt_of_cell? _ _ hc) (hS g hp))]; exact hc⟩
theorem RD.mono {w : World} {P Q : Nat → Prop} {A : Option Addr} {l : List (List UInt8)} (h : RD w P A l) (hQ : ∀ g, P g → Q g) : RD w Q A l := fun j hj => by
  obtain ⟨g, e, hp, hc⟩ := h j hj
  exact ⟨g, e, hQ g hp, hc⟩

/-- A list that lies alone, in a block of which P holds. -/
structure OW (w : World) (P : Nat → Prop) (A : Option Addr) (n c : Nat) (l : List (List UInt8)) : Prop where
  sl : SL w 0 (.slice A n c) l
  pr : ∀ g, (Value.slice A n c).ownBlock = some g → P g
theorem OW.n {w : World} {P : Nat → Prop} {A : Option Addr} {n c : Nat} {l : List (List UInt8)} (h : OW w P A n c l) : n = l.length := by
  obtain ⟨A', c', e⟩ := own_form h.sl
  injection e
theorem OW.rd {w : World} {P : Nat → Prop} {A : Option Addr} {n c : Nat} {l : List (List UInt8)} (h : OW w P A n c l) : RD w P A l := fun j hj => by
  obtain ⟨g, e, hc⟩ := SL.at h.sl j hj
  exact ⟨g, e, h.pr g (by rw [e]; rfl), hc⟩
theorem OW.kept {w w' : World} {P S : Nat → Prop} {A : Option Addr} {n c : Nat} {l : List (List UInt8)} (h : OW w P A n c l) (k : Chg S w w') (hS : ∀ g, P g → ¬ S g) : OW w' P A n c l := ⟨h.sl.kept k (fun g hg => hS g (h.pr g hg)), h.pr⟩
theorem OW.mono {w : World} {P Q : Nat → Prop} {A : Option Addr} {n c : Nat} {l : List (List UInt8)} (h : OW w P A n c l) (hQ : ∀ g, P g → Q g) : OW w Q A n c l := ⟨h.sl, fun g hg => hQ g (h.pr g hg)⟩
theorem OW.of {w : World} {B E : Nat} {A : Option Addr} {n c : Nat} {l : List (List UInt8)} (h : SL w B (.slice A n c) l) (hE : w.heap.size = E) : OW w (fun g => B ≤ g ∧ g < E) A n c l := ⟨own_mono h (Nat.zero_le _), fun g hg => by
  obtain ⟨h1, h2, _⟩ := own_block h hg
  omega⟩

/-- A place of it is written. -/
theorem OW.set {w : World} {P : Nat → Prop} {g n c : Nat} {l : List (List UInt8)} (h : OW w P (some ⟨g, 0, none⟩) n c l) (i : Nat) (x : List UInt8) :
    OW (w.setCell ⟨g, i, none⟩ (.string ⟨x.toArray⟩)) P (some ⟨g, 0, none⟩) n c (l.set i x) ∧ Chg P w (w.setCell ⟨g, i, none⟩ (.string ⟨x.toArray⟩)) := by
  have hp := h.pr g rfl
  refine ⟨⟨?_, h.pr⟩, (Chg.refl P w).setCell (p := ⟨g, i, none⟩) (.inl hp) _⟩
  rcases h.sl.2 with ⟨e, _⟩ | ⟨g', cap, cur, e, hb, hg, h1, h2, h3, h4⟩
  · cases e
  · injection e with e1 e2 e3
    injection e1 with e1
    injection e1 with e1
    subst e1
    subst e3
    refine ⟨by simp [stC], .inr ⟨g, c, _, by rw [List.length_set, ← e2], hb, heap_setCell_same w g i cur 9 _ hg, by rw [List.length_set]; exact h1, h2, by simpa using h3, ?_⟩⟩
    rw [List.length_set, Nat.mul_one, Array.toList_setIfInBounds, List.take_set]
    rw [Nat.mul_one] at h4
    rw [h4]
    simp [stC, List.map_set]
theorem OW.fr {w : World} {P : Nat → Prop} {g n c : Nat} {l : List (List UInt8)} (h : OW w P (some ⟨g, 0, none⟩) n c l) (i : Nat) : w.frozen? ⟨g, i, none⟩ = false := by
  obtain ⟨_, _, cur, hc⟩ := own_block h.sl (g := g) rfl
  exact frozen_of_row w g i cur 9 hc
/-- What is read ahead of the place that is written stays. -/
theorem RD.set {w : World} {P : Nat → Prop} {A : Option Addr} {l : List (List UInt8)} (h : RD w P A l) (g i : Nat) (hi : l.length ≤ i) (v : Value) : RD (w.setCell ⟨g, i, none⟩ v) P A l := fun j hj => by
  obtain ⟨g', e, hp, hc⟩ := h j hj
  refine ⟨g', e, hp, ?_⟩
  rw [World.cell?_setCell_other w ⟨g, i, none⟩ ⟨g', j, none⟩ v (fun e => by injection e with _ e2 _; omega)]
  exact hc

/-- Sixty-four empty strings. -/
def zer : List Value := List.replicate 64 (.string ⟨#[]⟩)
theorem zer_is : (Builtin.zeroCells (Value.string ⟨#[]⟩).cells 64) = zer.toArray := by kernel_rfl
theorem zer_one : ∀ u ∈ zer, u.oneCell' = true := fun u hu => by rw [List.eq_of_mem_replicate hu]; rfl
theorem zer_app (l : List (List UInt8)) : stC (l ++ List.replicate 64 []) = stC l ++ zer := by simp [stC, zer]

theorem run_room (w : World) (ty : TypeId) {g n cap : Nat} {cur : Array Value} (hg : w.heap[g]? = some (.cells cur 9 (0, 0))) (hroom : n + 64 ≤ cap) (hfit : n + 64 ≤ cur.size) :
    (Builtin.append_ #[24, 3] ty #[.slice (some ⟨g, 0, none⟩) n cap, .int .i64 64]).run Try.prog w = .ok (.slice (some ⟨g, 0, none⟩) (n + 64) cap) (w.setRow g (cur.toList.take n ++ zer ++ cur.toList.drop (n + 64)).toArray) := by
  obtain ⟨i0, hi, hz0, hz1, hz2⟩ := info_parts info9
  have hst := run_storeCells_at Try.prog g n 9 zer 0 cur w hg (by simpa [zer] using hfit) zer_one
  have hw : IntKind.i64.wrap 64 = 64 := by decide
  have hzl : zer.length = 64 := by simp [zer]
  simp only [Nat.add_zero, hzl] at hst
  simp [Builtin.append_, run_underlying Try.underlying24, run_underlying Try.underlying3, sizeOf, typeInfo, zeroValue, hi, hz0, hz1, hz2, asInt, asIntOf, hw, hroom, zer_is, Addr.add_lit, hst]
theorem run_grow (w : World) (ty : TypeId) {b : Addr} {n cap : Nat} (olds : List Value) (hlo : olds.length = n) (holds : ∀ j v, olds[j]? = some v → w.cell? (b.add j) = some v) (hroom : cap < n + 64) (hn : n ≤ 1000000) :
    (Builtin.append_ #[24, 3] ty #[.slice (some b) n cap, .int .i64 64]).run Try.prog w =
      .ok (.slice (some ⟨w.heap.size, 0, none⟩) (n + 64) (grownCap w (n + 64) cap 9)) (w.drew.alloc (.cells (olds.toArray ++ zer.toArray ++ Builtin.zeroCells (Value.string ⟨#[]⟩).cells (grownCap w (n + 64) cap 9 - (n + 64))) 9)) := by
  obtain ⟨i0, hi, hz0, hz1, hz2⟩ := info_parts info9
  have hw : IntKind.i64.wrap 64 = 64 := by decide
  have hnr : ¬ (n + 64 ≤ cap) := by omega
  have h63 : ¬ (9223372036854775807 < ((n : Int) + max 64 0)) := by omega
  have h48 : ¬ (281474976710656 < Builtin.nextslicecap (n + 64) cap * 16) := by
    have := growslice_fits (need := n + 64) (old := cap) (bytes := 16) hroom (by omega)
    omega
  have hfo := run_firstCells_some (P := Try.prog) w.drew i0.size n b n cap olds (by rw [hz1, hlo, Nat.mul_one]) (by simpa using holds)
  rw [hz1] at hfo
  simp [Builtin.append_, run_underlying Try.underlying24, run_underlying Try.underlying3, sizeOf, typeInfo, zeroValue, hi, hz0, hz1, hz2, asInt, asIntOf, hw, hnr, h63, h48, zer_is, Question.forced, hfo, newRow, grownCap]
  congr 2
  apply Array.ext'
  simp [List.append_assoc]

/-- append of sixty-four: the list stands where it stood, or in a new block; what was read is read. -/
theorem OW.app {w : World} {P : Nat → Prop} {A : Option Addr} {n c : Nat} {l : List (List UInt8)} (h : OW w P A n c l) (hl : l.length ≤ 1000000) (ty : TypeId) :
    ∃ g c' w', (Builtin.append_ #[24, 3] ty #[.slice A n c, .int .i64 64]).run Try.prog w = .ok (.slice (some ⟨g, 0, none⟩) (n + 64) c') w' ∧
      OW w' (fun k => P k ∨ (w.heap.size ≤ k ∧ k < w'.heap.size)) (some ⟨g, 0, none⟩) (n + 64) c' (l ++ List.replicate 64 []) ∧ Chg P w w' ∧ RD w' P A l := by
  have hn := h.n
  obtain ⟨i0, hi, hz0, hz1, hz2⟩ := info_parts info9
  rcases h.sl.2 with ⟨e, e0⟩ | ⟨g, cap, cur, e, hb, hg, h1, h2, h3, h4⟩
  · injection e with e1 e2 e3
    subst e1 e2 e3
    have hl0 : l = [] := List.eq_nil_of_length_eq_zero e0
    subst hl0
    have hr := Lib.run_append_nil_zeros (P := Try.prog) w 24 3 ty 9 i0 (.string ⟨#[]⟩) .i64 .i64 Try.underlying24 Try.underlying3 hi hz0 64 (by decide) (by omega) (by decide) (by rw [hz2]; decide)
    have hge := grownCap_ge w 64 0 9
    refine ⟨w.heap.size, grownCap w 64 0 9, _, hr, ⟨⟨by simp [stC], .inr ⟨w.heap.size, grownCap w 64 0 9, _, rfl, Nat.zero_le _, heap_alloc_new w.drew _, by simpa using hge, grownCap_le_maxLen _ _ _ _ (by decide), ?_, ?_⟩⟩, fun g hg => ?_⟩, (Chg.refl P w).drew.alloc _, fun j hj => by simp at hj⟩
    · rw [zer_is]
      simp only [Array.size_append, List.size_toArray, size_zeroCells, Value.cells, zer, List.length_replicate]
      simp
      omega
    · rw [zer_is, zer_app]
      simp [stC, zer]
    · cases hg
      exact .inr ⟨Nat.le_refl _, by simp⟩
  · injection e with e1 e2 e3
    subst e1
    subst e3
    rw [← hn] at h1 h4
    rw [Nat.mul_one] at h3 h4
    by_cases hroom : n + 64 ≤ c
    · have hr := run_room (cap := c) w ty hg hroom (by omega)
      have hg' := setRow_heap w g cur (cur.toList.take n ++ zer ++ cur.toList.drop (n + 64)).toArray 9 _ hg
      have hzl : zer.length = 64 := by simp [zer]
      refine ⟨g, c, _, hr, ⟨⟨by simp [stC], .inr ⟨g, c, _, by simp [hn], Nat.zero_le _, hg', by simp [← hn]; omega, h2, ?_, ?_⟩⟩, fun k hk => .inl (h.pr k hk)⟩, ⟨rfl, rfl, rfl, by simp, fun k _ hk => setRow_other w g k _ (fun e => hk (by subst e; exact h.pr _ rfl))⟩, fun j hj => ?_⟩
      · simp only [List.size_toArray, List.length_append, List.length_take, List.length_drop, Array.length_toList, hzl]
        omega
      · rw [h4, zer_app, Nat.mul_one]
        have : (l ++ List.replicate 64 ([] : List UInt8)).length = (stC l ++ zer).length := by simp [stC, hzl]
        rw [this, List.toList_toArray]
        exact List.take_left
      · refine ⟨g, rfl, h.pr g rfl, ?_⟩
        rw [cell_of_row _ g j _ 9 _ hg']
        rw [h4]
        have hj' : j < (stC l).length := by rw [stC_len]; exact hj
        rw [List.getElem?_toArray, List.append_assoc, List.getElem?_append_left hj', stC_at hj]
    · have holds : ∀ j v, (stC l)[j]? = some v → w.cell? ((⟨g, 0, none⟩ : Addr).add j) = some v := World.ownsRow.cells h.sl (g := g) rfl
      have hr := run_grow (cap := c) (n := n) w ty (stC l) (by rw [stC_len, hn]) holds (by omega) (by omega)
      have hge := grownCap_ge w (n + 64) c 9
      have hzl : zer.length = 64 := by simp [zer]
      refine ⟨w.heap.size, grownCap w (n + 64) c 9, _, hr, ⟨⟨by simp [stC], .inr ⟨w.heap.size, grownCap w (n + 64) c 9, _, by rw [List.length_append, List.length_replicate, ← hn], Nat.zero_le _, heap_alloc_new w.drew _, by rw [List.length_append, List.length_replicate, ← hn]; exact hge, grownCap_le_maxLen _ _ _ _ (by unfold maxLen; omega), ?_, ?_⟩⟩, fun k hk => ?_⟩, (Chg.refl P w).drew.alloc _, ?_⟩
      · simp only [Array.size_append, List.size_toArray, size_zeroCells, stC_len, hzl, Value.cells]
        simp
        omega
      · rw [zer_app, Nat.mul_one]
        have : (l ++ List.replicate 64 ([] : List UInt8)).length = (stC l ++ zer).length := by simp [stC, hzl]
        rw [this]
        simp only [Array.toList_append]
        exact List.take_left
      · cases hk
        exact .inr ⟨Nat.le_refl _, by simp⟩
      · exact h.rd.kept (S := fun _ => False) ((Chg.refl _ w).drew.alloc _) (fun _ _ e => e)

/-- A string is itself. -/
theorem ne_same (x : List UInt8) (w : World) : (binOp .neq 9 (.string ⟨x.toArray⟩) (.string ⟨x.toArray⟩)).run Try.prog w = .ok (.bool false) w := by
  rw [binOp_string_neq]
  simp

set_option maxRecDepth 100000 in
set_option maxHeartbeats 2000000 in
theorem same_any {w : World} {P Q : Nat → Prop} {A A2 : Option Addr} {n n2 c c2 : Nat} {l : List (List UInt8)} (hn : n = l.length) (hn2 : n2 = l.length) (hl : l.length ≤ 1000000) (h1 : RD w P A l) (h2 : RD w Q A2 l) :
    Calls Try.prog 8 #[.slice A n c, .slice A2 n2 c2] w fun e w' => e = .returned (.bool true) ∧ ∃ k, w' = w.drewN k := by
  have R1 : Hid _ := h1
  have R2 : Hid _ := h2
  obtain rfl : n2 = n := by omega
  have HN : Hid _ := hn
  have hn6 : n2 ≤ 1000000 := by omega
  clear h1 h2 hn hn2
  go_enter Try.func8, Try.ntmps8
  go_wp2_with fail
  go_loopw [13] (fun x wr => ∃ i k : Nat, x = .int .i64 (i : Int) ∧ wr = w.drewN k ∧ i ≤ n2) (fun x _ => n2 - (intOf x).toNat)
  case atStart => exact ⟨0, 0, rfl, rfl, Nat.zero_le _⟩
  case round =>
    obtain ⟨i, k, rfl, rfl, hi⟩ := hrel
    by_cases hlt : i < n2
    · have hlt2 : i < l.length := by have := HN.out; omega
      obtain ⟨g, rfl, _, k1⟩ := R1.out i hlt2
      obtain ⟨g2, rfl, _, k2⟩ := R2.out i hlt2
      obtain ⟨x, hx⟩ : ∃ x, x = l[i] := ⟨_, rfl⟩
      rw [← hx] at k1 k2
      have k1' : ∀ k, (w.drewN k).cell? ⟨g, i, none⟩ = some (.string ⟨x.toArray⟩) := fun k => k1
      have k2' : ∀ k, (w.drewN k).cell? ⟨g2, i, none⟩ = some (.string ⟨x.toArray⟩) := fun k => k2
      have ne := ne_same x
      clear hx k1 k2
      go_wp2_with fail
      go_quiet (fail)
      go_wp2_with fail
      go_roundw
      case rel => exact ⟨i + 1, _, by go_num, by first | rfl | (rw [World.drewN_drewN]), by omega⟩
      case measure => simp [intOf]; omega
    · have z : (decide ((i : Int) < (n2 : Int))) = false := by simp; omega
      go_wp2_with fail
      go_ret
      exact ⟨rfl, k, rfl⟩
end Go.Proofs.Ytnmlhlgeacdcgaa
