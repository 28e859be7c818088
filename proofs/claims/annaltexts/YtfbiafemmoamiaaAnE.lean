/-
  AnnalTexts, walked.
-/
import Derived.Test.YtfbiafemmoamiaaAnF
namespace Go.Proofs.Ytfbiafemmoamiaa
open Go.RowKit

noncomputable def opsE : Array Oper := (Try.f3.body.bind (regIn 1)).getD #[]
def sE (i : Nat) : Nat := if i = 14 then 6 else 7 + i

theorem sE_ne {i j : Nat} (hi : i < 15) (hj : j < 15) (h : j ≠ i) : sE j ≠ sE i := by
  unfold sE
  split <;> split <;> omega

def cE (n : Nat) (z x y : List Int) : List Value := [.agg (leafC n z).toArray, undef, .agg (leafC n z).toArray, undef, .bool true, .bool true, .agg (bs x).toArray, .agg (bs y).toArray, undef, .agg (bs x).toArray, .agg (bs y).toArray, undef, .bool true, .bool true, .bool true]

/-- What stands in each slot. -/
def VE (W : World) (n : Nat) (z x y : List Int) (i : Nat) (w : World) (v : Value) : Prop :=
  match i with
  | 1 => Made W w v (leafT n z)
  | 3 => Made W w v (leafT n z)
  | 8 => Made W w v (forkT x y)
  | 11 => Made W w v (forkT x y)
  | i => v = (cE n z x y).getD i undef

theorem VE.keep {W : World} {n : Nat} {z x y : List Int} {i : Nat} {w w' : World} {v : Value} (h : VE W n z x y i w v) (k : Below w.heap.size w w') : VE W n z x y i w' v := by
  unfold VE at h ⊢
  split
  · exact Made.then h k
  · exact Made.then h k
  · exact Made.then h k
  · exact Made.then h k
  · rename_i h0 h1 h2 h3
    split at h
    · exact absurd rfl h0
    · exact absurd rfl h1
    · exact absurd rfl h2
    · exact absurd rfl h3
    · exact h

def JE (W : World) (b : Nat) (n : Nat) (z x y : List Int) : (Nat → Bool) → Act → World → Prop :=
  RJ 21 sE 15 [(3, .pointer (some ⟨b, 0, none⟩)), (4, .pointer (some ⟨b + 1, 0, none⟩)), (5, .pointer (some ⟨b + 2, 0, none⟩))] (VE W n z x y) (fun w => Below W.heap.size W w)

theorem putE {W : World} {b n : Nat} {z x y : List Int} {d : Nat → Bool} {T : Array Value} {df : List Deferred} {w w' : World} (h : JE W b n z x y d ⟨T, df⟩ w) (i : Nat) {s : Nat} {v : Value} (hi : i < 15) (hs : s = sE i) (hv : VE W n z x y i w' v) (k : Below w.heap.size w w') :
    JE W b n z x y (fun j => if j = i then true else d j) ⟨T.setIfInBounds s v, df⟩ w' :=
  RJ.put h i hs (by unfold sE; split <;> omega) (fun j hj h => sE_ne hi hj h) (fun x hx => by
    simp only [List.mem_cons, List.not_mem_nil, or_false] at hx
    unfold sE
    rcases hx with rfl | rfl | rfl <;> (split <;> simp; try omega)) hv (h.ch.trans (k.mono h.ch.size)) (fun _ _ h => h.keep k)

theorem drewN_below (w : World) (n : Nat) : Below w.heap.size w (w.drewN n) := ⟨rfl, rfl, rfl, Nat.le_refl _, fun _ _ => rfl⟩

set_option maxRecDepth 100000 in
set_option maxHeartbeats 4000000 in
theorem regE {W w0 : World} {b n : Nat} {z x y : List Int} {Q : Exit → Act → World → Prop} {a : Act} (hn : n < 18446744073709551616) (hz : z.length = 32) (hx : x.length = 32) (hy : y.length = 32) (BL : Blk W b (leafC n z) 26) (BX : Blk W (b + 1) (bs x) 24) (BY : Blk W (b + 2) (bs y) 24)
    (sz : a.tmps.size = 21) (df : a.defers = []) (h3 : a.tmps.getD 3 undef = .pointer (some ⟨b, 0, none⟩)) (h4 : a.tmps.getD 4 undef = .pointer (some ⟨b + 1, 0, none⟩)) (h5 : a.tmps.getD 5 undef = .pointer (some ⟨b + 2, 0, none⟩)) (hw : Below W.heap.size W w0)
    (hQ : ∀ b w', b.tmps.size = 21 → b.defers = [] → b.tmps.getD 6 undef = .bool true → Below W.heap.size W w' → Q .normal b w') : (Code.region 1 opsE true).wp Try.prog Q a w0 := by
  have sz26 : (Try.prog.info? 26).map (·.size) = some (leafC n z).length := by
    have h33 : (Try.prog.info? 26).map (·.size) = some 33 := by kernel_rfl
    have : (leafC n z).length = 33 := by simp [leafC, bs_len, hz]
    rw [h33, this]
  have lf : (leafT n z).length ≤ 9223372036854775807 := by simp [leafT, fx_len, hz]
  have lk : (forkT x y).length ≤ 9223372036854775807 := by simp [forkT, hx, hy]
  have LF : Hid _ := lf
  have LK : Hid _ := lk
  clear lf lk
  refine region_plain (by kernel_rfl) (JE W b n z x y) ?_ (after_of (by kernel_rfl)) ?_ ?_
  · refine ⟨sz, df, fun x hx => ?_, fun i _ (h : false = true) => (by cases h), ⟨hw.os, hw.tape, hw.output, hw.size, hw.block⟩⟩
    simp only [List.mem_cons, List.not_mem_nil, or_false] at hx
    rcases hx with rfl | rfl | rfl
    · exact h3
    · exact h4
    · exact h5
  · intro d b w h hall
    exact hQ b w h.sz h.df (h.val 14 (by decide) (hall 14 (by decide))) h.ch
  · rintro d ⟨T, df⟩ w i o hJ hdi ho hdeps K hK
    have hi : i < 15 := (Array.getElem?_eq_some_iff.1 ho).1
    have e3 : T.getD 3 undef = .pointer (some ⟨b, 0, none⟩) := hJ.fix (3, .pointer (some ⟨b, 0, none⟩)) (by simp)
    have e4 : T.getD 4 undef = .pointer (some ⟨b + 1, 0, none⟩) := hJ.fix (4, .pointer (some ⟨b + 1, 0, none⟩)) (by simp)
    have e5 : T.getD 5 undef = .pointer (some ⟨b + 2, 0, none⟩) := hJ.fix (5, .pointer (some ⟨b + 2, 0, none⟩)) (by simp)
    clear hdi
    obtain rfl | rfl | rfl | rfl | rfl | rfl | rfl | rfl | rfl | rfl | rfl | rfl | rfl | rfl | rfl : i = 0 ∨ i = 1 ∨ i = 2 ∨ i = 3 ∨ i = 4 ∨ i = 5 ∨ i = 6 ∨ i = 7 ∨ i = 8 ∨ i = 9 ∨ i = 10 ∨ i = 11 ∨ i = 12 ∨ i = 13 ∨ i = 14 := by omega
    · obtain rfl : o = { dst := some 7, op := Op.load 26 (Operand.tmp 3), type := 26, pos := "exact.go:88", after := #[], guard := none } := (Option.some.inj ho).symm
      rw [if_pos (want_all rfl)]
      clear ho hdeps hi 
      refine wp_load_mid 26 (.tmp 3) rfl b 0 e3 (leafC n z) _ (Blk.range (BL.keep0 hJ.ch) (by simp)) Try.underlying26 rfl sz26 ?_
      exact hK _ _ (putE hJ 0 (by decide) rfl rfl (Below.refl _ _))
    · obtain rfl : o = { dst := some 8, op := Op.call { callee := Callee.value (Operand.func 5), args := #[Operand.tmp 7], argTypes := #[26] }, type := 28, pos := "exact.go:88", after := #[{ on := 0, ground := Ground.data }], guard := none } := (Option.some.inj ho).symm
      have c0 := hJ.val 0 (by decide) (hdeps ⟨0, .data⟩ (by simp) rfl)
      have e7 : T.getD 7 undef = .agg (leafC n z).toArray := c0
      rw [if_pos (want_all rfl)]
      clear ho hdeps hi c0
      go_simp
      refine Calls.mono (leafText_any n hn z hz) ?_
      rintro e w2 ⟨v, rfl, m⟩
      exact hK _ _ (putE hJ 1 (by decide) rfl (Made.outer m hJ.ch) m.2.1)
    · obtain rfl : o = { dst := some 9, op := Op.load 26 (Operand.tmp 3), type := 26, pos := "exact.go:88", after := #[], guard := none } := (Option.some.inj ho).symm
      rw [if_pos (want_all rfl)]
      clear ho hdeps hi 
      refine wp_load_mid 26 (.tmp 3) rfl b 0 e3 (leafC n z) _ (Blk.range (BL.keep0 hJ.ch) (by simp)) Try.underlying26 rfl sz26 ?_
      exact hK _ _ (putE hJ 2 (by decide) rfl rfl (Below.refl _ _))
    · obtain rfl : o = { dst := some 10, op := Op.call { callee := Callee.value (Operand.func 6), args := #[Operand.tmp 9], argTypes := #[26] }, type := 28, pos := "exact.go:88", after := #[{ on := 2, ground := Ground.data }, { on := 1, ground := Ground.chain }], guard := none } := (Option.some.inj ho).symm
      have c2 := hJ.val 2 (by decide) (hdeps ⟨2, .data⟩ (by simp) rfl)
      have e9 : T.getD 9 undef = .agg (leafC n z).toArray := c2
      rw [if_pos (want_all rfl)]
      clear ho hdeps hi c2
      go_simp
      refine Calls.mono (rLeaf_any n hn z hz) ?_
      rintro e w2 ⟨v, rfl, m⟩
      exact hK _ _ (putE hJ 3 (by decide) rfl (Made.outer m hJ.ch) m.2.1)
    · obtain rfl : o = { dst := some 11, op := Op.call { callee := Callee.value (Operand.func 4), args := #[Operand.tmp 8, Operand.tmp 10], argTypes := #[28, 28] }, type := 4, pos := "exact.go:88", after := #[{ on := 1, ground := Ground.data }, { on := 3, ground := Ground.data }, { on := 3, ground := Ground.chain }], guard := none } := (Option.some.inj ho).symm
      have c1 := hJ.val 1 (by decide) (hdeps ⟨1, .data⟩ (by simp) rfl)
      obtain ⟨v1, hv1⟩ : ∃ v, T.getD 8 undef = v := ⟨_, rfl⟩
      have m1 : Made W w v1 (leafT n z) := by rw [← hv1]; exact c1
      have M1 : Hid _ := m1
      clear m1
      have c3 := hJ.val 3 (by decide) (hdeps ⟨3, .data⟩ (by simp) rfl)
      obtain ⟨v3, hv3⟩ : ∃ v, T.getD 10 undef = v := ⟨_, rfl⟩
      have m3 : Made W w v3 (leafT n z) := by rw [← hv3]; exact c3
      have M3 : Hid _ := m3
      clear m3
      rw [if_pos (want_all rfl)]
      clear ho hdeps hi c1 c3
      go_simp
      refine Calls.mono (same_any (Own.src M1.out.1) (Own.src M3.out.1) LF.out LF.out) ?_
      rintro e w2 ⟨rfl, m, rfl⟩
      rw [decide_eq_true rfl]
      exact hK _ _ (putE hJ 4 (by decide) rfl rfl (drewN_below _ _))
    · obtain rfl : o = { dst := some 12, op := Op.move (Operand.tmp 11), type := 4, pos := "exact.go:88", after := #[{ on := 4, ground := Ground.data }, { on := 4, ground := Ground.chain }], guard := none } := (Option.some.inj ho).symm
      have c4 := hJ.val 4 (by decide) (hdeps ⟨4, .data⟩ (by simp) rfl)
      have e11 : T.getD 11 undef = .bool true := c4
      rw [if_pos (want_all rfl)]
      clear ho hdeps hi c4
      go_simp
      exact hK _ _ (putE hJ 5 (by decide) rfl rfl (Below.refl _ _))
    · obtain rfl : o = { dst := some 13, op := Op.load 24 (Operand.tmp 4), type := 24, pos := "exact.go:88", after := #[{ on := 5, ground := Ground.guard }], guard := some (5, true) } := (Option.some.inj ho).symm
      have c5 := hJ.val 5 (by decide) (hdeps ⟨5, .guard⟩ (by simp) rfl)
      have e12 : T.getD 12 undef = .bool true := c5
      rw [if_pos (want_of rfl (yield_of (s := 12) rfl (by rw [hJ.sz]; decide) e12))]
      clear ho hdeps hi c5
      refine wp_load_mid 24 (.tmp 4) rfl (b + 1) 0 e4 (bs x) _ (Blk.range (BX.keep0 hJ.ch) (by simp)) Try.underlying24 rfl (sz24 x hx) ?_
      exact hK _ _ (putE hJ 6 (by decide) rfl rfl (Below.refl _ _))
    · obtain rfl : o = { dst := some 14, op := Op.load 24 (Operand.tmp 5), type := 24, pos := "exact.go:88", after := #[{ on := 5, ground := Ground.guard }], guard := some (5, true) } := (Option.some.inj ho).symm
      have c5 := hJ.val 5 (by decide) (hdeps ⟨5, .guard⟩ (by simp) rfl)
      have e12 : T.getD 12 undef = .bool true := c5
      rw [if_pos (want_of rfl (yield_of (s := 12) rfl (by rw [hJ.sz]; decide) e12))]
      clear ho hdeps hi c5
      refine wp_load_mid 24 (.tmp 5) rfl (b + 2) 0 e5 (bs y) _ (Blk.range (BY.keep0 hJ.ch) (by simp)) Try.underlying24 rfl (sz24 y hy) ?_
      exact hK _ _ (putE hJ 7 (by decide) rfl rfl (Below.refl _ _))
    · obtain rfl : o = { dst := some 15, op := Op.call { callee := Callee.value (Operand.func 7), args := #[Operand.tmp 13, Operand.tmp 14], argTypes := #[24, 24] }, type := 28, pos := "exact.go:88", after := #[{ on := 6, ground := Ground.data }, { on := 7, ground := Ground.data }, { on := 5, ground := Ground.chain }, { on := 5, ground := Ground.guard }], guard := some (5, true) } := (Option.some.inj ho).symm
      have c6 := hJ.val 6 (by decide) (hdeps ⟨6, .data⟩ (by simp) rfl)
      have e13 : T.getD 13 undef = .agg (bs x).toArray := c6
      have c7 := hJ.val 7 (by decide) (hdeps ⟨7, .data⟩ (by simp) rfl)
      have e14 : T.getD 14 undef = .agg (bs y).toArray := c7
      have c5 := hJ.val 5 (by decide) (hdeps ⟨5, .guard⟩ (by simp) rfl)
      have e12 : T.getD 12 undef = .bool true := c5
      rw [if_pos (want_of rfl (yield_of (s := 12) rfl (by rw [hJ.sz]; decide) e12))]
      clear ho hdeps hi c5 c6 c7
      go_simp
      refine Calls.mono (forkText_any x y hx hy) ?_
      rintro e w2 ⟨v, rfl, m⟩
      exact hK _ _ (putE hJ 8 (by decide) rfl (Made.outer m hJ.ch) m.2.1)
    · obtain rfl : o = { dst := some 16, op := Op.load 24 (Operand.tmp 4), type := 24, pos := "exact.go:88", after := #[{ on := 5, ground := Ground.guard }], guard := some (5, true) } := (Option.some.inj ho).symm
      have c5 := hJ.val 5 (by decide) (hdeps ⟨5, .guard⟩ (by simp) rfl)
      have e12 : T.getD 12 undef = .bool true := c5
      rw [if_pos (want_of rfl (yield_of (s := 12) rfl (by rw [hJ.sz]; decide) e12))]
      clear ho hdeps hi c5
      refine wp_load_mid 24 (.tmp 4) rfl (b + 1) 0 e4 (bs x) _ (Blk.range (BX.keep0 hJ.ch) (by simp)) Try.underlying24 rfl (sz24 x hx) ?_
      exact hK _ _ (putE hJ 9 (by decide) rfl rfl (Below.refl _ _))
    · obtain rfl : o = { dst := some 17, op := Op.load 24 (Operand.tmp 5), type := 24, pos := "exact.go:88", after := #[{ on := 5, ground := Ground.guard }], guard := some (5, true) } := (Option.some.inj ho).symm
      have c5 := hJ.val 5 (by decide) (hdeps ⟨5, .guard⟩ (by simp) rfl)
      have e12 : T.getD 12 undef = .bool true := c5
      rw [if_pos (want_of rfl (yield_of (s := 12) rfl (by rw [hJ.sz]; decide) e12))]
      clear ho hdeps hi c5
      refine wp_load_mid 24 (.tmp 5) rfl (b + 2) 0 e5 (bs y) _ (Blk.range (BY.keep0 hJ.ch) (by simp)) Try.underlying24 rfl (sz24 y hy) ?_
      exact hK _ _ (putE hJ 10 (by decide) rfl rfl (Below.refl _ _))
    · obtain rfl : o = { dst := some 18, op := Op.call { callee := Callee.value (Operand.func 8), args := #[Operand.tmp 16, Operand.tmp 17], argTypes := #[24, 24] }, type := 28, pos := "exact.go:88", after := #[{ on := 9, ground := Ground.data }, { on := 10, ground := Ground.data }, { on := 8, ground := Ground.chain }, { on := 5, ground := Ground.guard }], guard := some (5, true) } := (Option.some.inj ho).symm
      have c9 := hJ.val 9 (by decide) (hdeps ⟨9, .data⟩ (by simp) rfl)
      have e16 : T.getD 16 undef = .agg (bs x).toArray := c9
      have c10 := hJ.val 10 (by decide) (hdeps ⟨10, .data⟩ (by simp) rfl)
      have e17 : T.getD 17 undef = .agg (bs y).toArray := c10
      have c5 := hJ.val 5 (by decide) (hdeps ⟨5, .guard⟩ (by simp) rfl)
      have e12 : T.getD 12 undef = .bool true := c5
      rw [if_pos (want_of rfl (yield_of (s := 12) rfl (by rw [hJ.sz]; decide) e12))]
      clear ho hdeps hi c5 c9 c10
      go_simp
      refine Calls.mono (rFork_any x y hx hy) ?_
      rintro e w2 ⟨v, rfl, m⟩
      exact hK _ _ (putE hJ 11 (by decide) rfl (Made.outer m hJ.ch) m.2.1)
    · obtain rfl : o = { dst := some 19, op := Op.call { callee := Callee.value (Operand.func 4), args := #[Operand.tmp 15, Operand.tmp 18], argTypes := #[28, 28] }, type := 4, pos := "exact.go:88", after := #[{ on := 8, ground := Ground.data }, { on := 11, ground := Ground.data }, { on := 11, ground := Ground.chain }, { on := 5, ground := Ground.guard }], guard := some (5, true) } := (Option.some.inj ho).symm
      have c8 := hJ.val 8 (by decide) (hdeps ⟨8, .data⟩ (by simp) rfl)
      obtain ⟨v8, hv8⟩ : ∃ v, T.getD 15 undef = v := ⟨_, rfl⟩
      have m8 : Made W w v8 (forkT x y) := by rw [← hv8]; exact c8
      have M8 : Hid _ := m8
      clear m8
      have c11 := hJ.val 11 (by decide) (hdeps ⟨11, .data⟩ (by simp) rfl)
      obtain ⟨v11, hv11⟩ : ∃ v, T.getD 18 undef = v := ⟨_, rfl⟩
      have m11 : Made W w v11 (forkT x y) := by rw [← hv11]; exact c11
      have M11 : Hid _ := m11
      clear m11
      have c5 := hJ.val 5 (by decide) (hdeps ⟨5, .guard⟩ (by simp) rfl)
      have e12 : T.getD 12 undef = .bool true := c5
      rw [if_pos (want_of rfl (yield_of (s := 12) rfl (by rw [hJ.sz]; decide) e12))]
      clear ho hdeps hi c5 c8 c11
      go_simp
      refine Calls.mono (same_any (Own.src M8.out.1) (Own.src M11.out.1) LK.out LK.out) ?_
      rintro e w2 ⟨rfl, m, rfl⟩
      rw [decide_eq_true rfl]
      exact hK _ _ (putE hJ 12 (by decide) rfl rfl (drewN_below _ _))
    · obtain rfl : o = { dst := some 20, op := Op.pick (Operand.tmp 12) (Operand.tmp 19) (Operand.const (Value.bool false)), type := 4, pos := "exact.go:88", after := #[{ on := 5, ground := Ground.data }, { on := 12, ground := Ground.data }], guard := none } := (Option.some.inj ho).symm
      have c5 := hJ.val 5 (by decide) (hdeps ⟨5, .data⟩ (by simp) rfl)
      have e12 : T.getD 12 undef = .bool true := c5
      have c12 := hJ.val 12 (by decide) (hdeps ⟨12, .data⟩ (by simp) rfl)
      have e19 : T.getD 19 undef = .bool true := c12
      rw [if_pos (want_all rfl)]
      clear ho hdeps hi c5 c12
      go_simp
      exact hK _ _ (putE hJ 13 (by decide) rfl rfl (Below.refl _ _))
    · obtain rfl : o = { dst := some 6, op := Op.assign (Operand.tmp 20), type := 4, pos := "exact.go:88", after := #[{ on := 13, ground := Ground.data }, { on := 12, ground := Ground.chain }, { on := 0, ground := Ground.phase }, { on := 1, ground := Ground.phase }, { on := 2, ground := Ground.phase }, { on := 3, ground := Ground.phase }, { on := 4, ground := Ground.phase }, { on := 5, ground := Ground.phase }, { on := 6, ground := Ground.phase }, { on := 7, ground := Ground.phase }, { on := 8, ground := Ground.phase }, { on := 9, ground := Ground.phase }, { on := 10, ground := Ground.phase }, { on := 11, ground := Ground.phase }, { on := 12, ground := Ground.phase }, { on := 13, ground := Ground.phase }], guard := none } := (Option.some.inj ho).symm
      have c13 := hJ.val 13 (by decide) (hdeps ⟨13, .data⟩ (by simp) rfl)
      have e20 : T.getD 20 undef = .bool true := c13
      rw [if_pos (want_all rfl)]
      clear ho hdeps hi c13
      go_simp
      exact hK _ _ (putE hJ 14 (by decide) rfl rfl (Below.refl _ _))

set_option maxRecDepth 100000 in
set_option maxHeartbeats 4000000 in
theorem texts_any {w : World} (n : Nat) (z x y : List Int) (hn : n < 18446744073709551616) (hz : z.length = 32) (hx : x.length = 32) (hy : y.length = 32) :
    Calls Try.prog 3 #[.agg (leafC n z).toArray, .agg (bs x).toArray, .agg (bs y).toArray] w fun e w' => e = .returned (.bool true) ∧ Below w.heap.size w w' := by
  obtain ⟨W, hW⟩ : ∃ W, W = ((w.alloc (.cells (leafC n z).toArray 26)).alloc (.cells (bs x).toArray 24)).alloc (.cells (bs y).toArray 24) := ⟨_, rfl⟩
  have bb : Below w.heap.size w W := by rw [hW]; exact (((Below.refl _ _).alloc (Nat.le_refl _) _).alloc (by simp) _).alloc (by simp; omega) _
  have bl : Blk W w.heap.size (leafC n z) 26 := by rw [hW]; exact ((Blk.made _ _ _).alloc _).alloc _
  have bx : Blk W (w.heap.size + 1) (bs x) 24 := by rw [hW]; have := (Blk.made (w.alloc (.cells (leafC n z).toArray 26)) (bs x) 24).alloc (.cells (bs y).toArray 24); rwa [World.size_alloc] at this
  have bY : Blk W (w.heap.size + 2) (bs y) 24 := by rw [hW]; have := Blk.made ((w.alloc (.cells (leafC n z).toArray 26)).alloc (.cells (bs x).toArray 24)) (bs y) 24; rwa [World.size_alloc, World.size_alloc] at this
  have BW : Hid _ := bb
  have RF : Hid (∀ (Q : Exit → Act → World → Prop) (A : Act), A.tmps.size = 21 → A.defers = [] → A.tmps.getD 3 undef = .pointer (some ⟨w.heap.size, 0, none⟩) → A.tmps.getD 4 undef = .pointer (some ⟨w.heap.size + 1, 0, none⟩) → A.tmps.getD 5 undef = .pointer (some ⟨w.heap.size + 2, 0, none⟩) → (∀ b w', b.tmps.size = 21 → b.defers = [] → b.tmps.getD 6 undef = .bool true → Below W.heap.size W w' → Q .normal b w') → (Code.region 1 opsE true).wp Try.prog Q A W) :=
    fun Q A h1 h2 h3 h4 h5 h6 => regE hn hz hx hy bl bx bY h1 h2 h3 h4 h5 (Below.refl _ _) h6
  clear bb bl bx bY
  go_enter Try.func3, Try.ntmps3
  go_upto_region 1 with fail
  rw [← hW]
  clear hW
  refine RF.out _ _ rfl rfl rfl rfl rfl ?_
  rename_i KK hKK
  intro b w' _ b2 b3 b4
  refine hKK b w' ?_
  refine wp_ret ?_
  show bodyPost Try.prog Try.f3 (fun e w' => e = .returned (.bool true) ∧ Below w.heap.size w w') .ret b w'
  refine bodyPost_ret (results_tmp rfl _ _ _) b2 ?_
  exact ⟨by rw [b3], BW.out.trans (b4.mono BW.out.size)⟩

end Go.Proofs.Ytfbiafemmoamiaa
