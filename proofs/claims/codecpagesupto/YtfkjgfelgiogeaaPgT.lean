/-
  The reading of pages.
-/
import Derived.Test.YtfkjgfelgiogeaaPgM
import Derived.Test.YtfkjgfelgiogeaaTwW
namespace Go.Proofs.Ytfkjgfelgiogeaa
open Go.RowKit

def pgC (la wi se : Nat) (mv vv : Value) (sz : Nat) (pv : Value) : List Value := [.int .u64 la, .int .i64 wi, .int .u64 se, mv, vv, .int .u64 sz, pv]
theorem pgC_one (la wi se : Nat) {mv vv pv : Value} (sz : Nat) (h1 : mv.oneCell' = true) (h2 : vv.oneCell' = true) (h3 : pv.oneCell' = true) : ∀ u ∈ pgC la wi se mv vv sz pv, u.oneCell' = true := by
  intro u hu
  simp only [pgC, List.mem_cons, List.not_mem_nil, or_false] at hu
  rcases hu with rfl | rfl | rfl | rfl | rfl | rfl | rfl
  · rfl
  · rfl
  · rfl
  · exact h1
  · exact h2
  · rfl
  · exact h3
theorem Try.size51 : (Try.prog.info? 51).map (·.size) = some 7 := by kernel_rfl
theorem Try.pgSz (la wi se : Nat) (mv vv : Value) (sz : Nat) (pv : Value) : (Try.prog.info? 51).map (·.size) = some (pgC la wi se mv vv sz pv).length := Try.size51
/-- What reading a page gives. -/
structure PgS where
  la : Nat
  wi : Nat
  se : Nat
  ms : List (List Value)
  vs : List (List Value)
  sz : Nat
  ps : List (List Value)
  at_ : Nat
  err : Int
def pageS (T : List Int) (a : Nat) (err : Int) : PgS :=
  let U0 := uintS T a err maxN
  let U1 := uintS T U0.2.1 U0.2.2 64
  let U2 := uintS T U1.2.1 U1.2.2 maxN
  let N3 := uintS T U2.2.1 U2.2.2 32768
  let M3 := manyE markE T N3.1 N3.2.1 N3.2.2
  let N4 := uintS T M3.2.1 M3.2.2 64
  let M4 := manyE versE T N4.1 N4.2.1 N4.2.2
  let U5 := uintS T M4.2.1 M4.2.2 4611686018427387905
  let N6 := uintS T U5.2.1 U5.2.2 63
  let M6 := manyE peakE T N6.1 N6.2.1 N6.2.2
  ⟨U0.1, U1.1, U2.1, M3.1, M4.1, U5.1, M6.1, M6.2.1, M6.2.2⟩

/-- The three lists of a page. -/
structure PG (w : World) (B : Nat) (mv vv pv : Value) (ms vs ps : List (List Value)) : Prop where
  m : GL w mv 112 2 ms
  v : GL w vv 116 67 vs
  p : GL w pv 129 66 ps
  nb : ∀ g, (mv.ownBlock = some g ∨ vv.ownBlock = some g ∨ pv.ownBlock = some g) → B ≤ g
def NotEl (w : World) (g : Nat) : Prop := w.heap.size ≤ g ∨ ∃ cur t, w.heap[g]? = some (.cells cur t (0, 0)) ∧ t ≠ 112 ∧ t ≠ 116 ∧ t ≠ 129
theorem NotEl.no {w : World} {g : Nat} (h : NotEl w g) {cur : Array Value} {t : TypeId} (hg : w.heap[g]? = some (.cells cur t (0, 0))) : t ≠ 112 ∧ t ≠ 116 ∧ t ≠ 129 := by
  rcases h with h | ⟨c, t2, h1, h2⟩
  · rw [Array.getElem?_eq_none h] at hg; cases hg
  · rw [h1] at hg
    injection hg with hg
    injection hg with _ hg
    rw [← hg]; exact h2
theorem PG.kept {w w' : World} {B : Nat} {mv vv pv : Value} {ms vs ps : List (List Value)} (h : PG w B mv vv pv ms vs ps) {S : Nat → Prop} (c : Chg S w w') (hS : ∀ g, S g → NotEl w g) : PG w' B mv vv pv ms vs ps :=
  ⟨h.m.kept c (fun _ _ _ hg e => ((hS _ e).no hg).1 rfl), h.v.kept c (fun _ _ _ hg e => ((hS _ e).no hg).2.1 rfl), h.p.kept c (fun _ _ _ hg e => ((hS _ e).no hg).2.2 rfl), h.nb⟩
theorem PG.fresh {w w' : World} {B : Nat} {mv vv pv : Value} {ms vs ps : List (List Value)} (h : PG w B mv vv pv ms vs ps) (c : Chg (fun _ => False) w w') : PG w' B mv vv pv ms vs ps := h.kept c (fun _ e => e.elim)
theorem GL.none (w : World) (ty sz : Nat) : GL w (.slice none 0 0) ty sz [] := ⟨World.ownsRow_nil w 0 ty sz, fun c hc => by cases hc⟩
theorem PG.none (w : World) (B : Nat) : PG w B (.slice none 0 0) (.slice none 0 0) (.slice none 0 0) [] [] [] := ⟨GL.none _ _ _, GL.none _ _ _, GL.none _ _ _, fun g hg => by simp [Value.ownBlock] at hg⟩
theorem RS.notEl {w : World} {p : Nat} {tv : Value} {T : List Int} {a : Nat} {err : Int} (h : RS w p 192 tv T a err) : NotEl w p := .inr ⟨_, _, h.blk, by decide, by decide, by decide⟩
theorem Blk.notEl {w : World} {g : Nat} {cs : List Value} (h : Blk w g cs 51) : NotEl w g := .inr ⟨_, _, h.eq, by decide, by decide, by decide⟩

set_option maxRecDepth 100000 in
set_option maxHeartbeats 8000000 in
theorem page_any {w : World} {p : Nat} {tv : Value} {T : List Int} {a : Nat} {err : Int} (h : RS w p 192 tv T a err) :
    Calls Try.prog 55 #[.pointer (some ⟨p, 0, none⟩)] w fun e w' => ∃ mv vv pv, e = .returned (.agg (pgC (pageS T a err).la (pageS T a err).wi (pageS T a err).se mv vv (pageS T a err).sz pv).toArray) ∧ PG w' w.heap.size mv vv pv (pageS T a err).ms (pageS T a err).vs (pageS T a err).ps ∧ RP w w' p 192 tv T (pageS T a err).at_ (pageS T a err).err := by
  unfold pageS
  have A0 := At.start h
  clear h
  obtain ⟨U0, a1, e1, h0⟩ : ∃ U b c, uintS T a err maxN = (U, b, c) := ⟨_, _, _, rfl⟩
  have C0 : ∀ w', RS w' p 192 tv T a err → _ := fun w' h => rNumber_any h
  simp only [h0] at C0 ⊢
  have M1 := uintS_most T a1 e1 64
  obtain ⟨U1, a2, e2, h1⟩ : ∃ U b c, uintS T a1 e1 64 = (U, b, c) := ⟨_, _, _, rfl⟩
  have C1 : ∀ w', RS w' p 192 tv T a1 e1 → _ := fun w' h => rUint_any h 64 (by decide)
  simp only [h1] at C1 M1 ⊢
  obtain ⟨U2, a3, e3, h2⟩ : ∃ U b c, uintS T a2 e2 maxN = (U, b, c) := ⟨_, _, _, rfl⟩
  have C2 : ∀ w', RS w' p 192 tv T a2 e2 → _ := fun w' h => rNumber_any h
  simp only [h2] at C2 ⊢
  have M3 := uintS_most T a3 e3 32768
  obtain ⟨n3, a4, e4, h3⟩ : ∃ U b c, uintS T a3 e3 32768 = (U, b, c) := ⟨_, _, _, rfl⟩
  have C3 : ∀ w', RS w' p 192 tv T a3 e3 → _ := fun w' h => rUint_any h 32768 (by decide)
  simp only [h3] at C3 M3 ⊢
  obtain ⟨ms, a5, e5, h4⟩ : ∃ U b c, manyE markE T n3 a4 e4 = (U, b, c) := ⟨_, _, _, rfl⟩
  have C4 : ∀ w', RS w' p 192 tv T a4 e4 → _ := fun w' h => manyMark_any h n3 (by omega)
  simp only [h4] at C4 ⊢
  have M5 := uintS_most T a5 e5 64
  obtain ⟨n5, a6, e6, h5⟩ : ∃ U b c, uintS T a5 e5 64 = (U, b, c) := ⟨_, _, _, rfl⟩
  have C5 : ∀ w', RS w' p 192 tv T a5 e5 → _ := fun w' h => rUint_any h 64 (by decide)
  simp only [h5] at C5 M5 ⊢
  obtain ⟨vs, a7, e7, h6⟩ : ∃ U b c, manyE versE T n5 a6 e6 = (U, b, c) := ⟨_, _, _, rfl⟩
  have C6 : ∀ w', RS w' p 192 tv T a6 e6 → _ := fun w' h => manyVers_any h n5 (by omega)
  simp only [h6] at C6 ⊢
  obtain ⟨U7, a8, e8, h7⟩ : ∃ U b c, uintS T a7 e7 4611686018427387905 = (U, b, c) := ⟨_, _, _, rfl⟩
  have C7 : ∀ w', RS w' p 192 tv T a7 e7 → _ := fun w' h => rUint_any h 4611686018427387905 (by decide)
  simp only [h7] at C7 ⊢
  have M8 := uintS_most T a8 e8 63
  obtain ⟨n8, a9, e9, h8⟩ : ∃ U b c, uintS T a8 e8 63 = (U, b, c) := ⟨_, _, _, rfl⟩
  have C8 : ∀ w', RS w' p 192 tv T a8 e8 → _ := fun w' h => rUint_any h 63 (by decide)
  simp only [h8] at C8 M8 ⊢
  obtain ⟨ps, a10, e10, h9⟩ : ∃ U b c, manyE peakE T n8 a9 e9 = (U, b, c) := ⟨_, _, _, rfl⟩
  have C9 : ∀ w', RS w' p 192 tv T a9 e9 → _ := fun w' h => manyPeak_any h n8 (by omega)
  simp only [h9] at C9 ⊢
  clear h0 h1 h2 h3 h4 h5 h6 h7 h8 h9
  obtain ⟨W0, hW0⟩ : ∃ W0, W0 = (w.alloc (.cells (pgC 0 0 0 (.slice none 0 0) (.slice none 0 0) 0 (.slice none 0 0)).toArray 51)).alloc (.cells (pgC 0 0 0 (.slice none 0 0) (.slice none 0 0) 0 (.slice none 0 0)).toArray 51) := ⟨_, rfl⟩
  have P0 : Hid (At w W0 p 192 tv T a err) := by rw [hW0]; exact (A0.alloc _).alloc _
  have R0 : Hid (Blk W0 w.heap.size (pgC 0 0 0 (.slice none 0 0) (.slice none 0 0) 0 (.slice none 0 0)) 51) := by rw [hW0]; exact (Blk.made w _ 51).alloc _
  have L0 : Hid (Blk W0 (w.heap.size + 1) (pgC 0 0 0 (.slice none 0 0) (.slice none 0 0) 0 (.slice none 0 0)) 51) := by
    rw [hW0]
    have := Blk.made (w.alloc (.cells (pgC 0 0 0 (.slice none 0 0) (.slice none 0 0) 0 (.slice none 0 0)).toArray 51)) (pgC 0 0 0 (.slice none 0 0) (.slice none 0 0) 0 (.slice none 0 0)) 51
    rwa [World.size_alloc] at this
  have G0 : Hid (PG W0 w.heap.size (.slice none 0 0) (.slice none 0 0) (.slice none 0 0) [] [] []) := PG.none _ _
  have HC : Hid _ := C0 W0 P0.out.rp.1
  have H1 : Hid _ := C1
  have H2 : Hid _ := C2
  have H3 : Hid _ := C3
  have H4 : Hid _ := C4
  have H5 : Hid _ := C5
  have H6 : Hid _ := C6
  have H7 : Hid _ := C7
  have H8 : Hid _ := C8
  have H9 : Hid _ := C9
  rw [hW0] at HC
  have HW : Hid _ := hW0
  clear A0 hW0 C0 C1 C2 C3 C4 C5 C6 C7 C8 C9
  go_enter Try.func55, Try.ntmps55
  go_wp2_with fail
  refine Calls.mono HC.out ?_
  rintro e w1 ⟨rfl, r1⟩
  rw [← HW.out] at r1
  have P1 : Hid _ := P0.out.call r1
  have R1 : Hid _ := P0.out.blk R0.out (Nat.le_refl _) r1
  have L1 : Hid _ := P0.out.blk L0.out (Nat.le_succ _) r1
  have G1 : Hid (PG w1 w.heap.size (.slice none 0 0) (.slice none 0 0) (.slice none 0 0) [] [] []) := G0.out.kept r1.2 (fun g e => by rw [e]; exact P0.out.rp.1.notEl)
  clear r1 P0 R0 L0 G0 HC HW
  have hc1 : w1.cell? ⟨w.heap.size + 1, 0, none⟩ = some (.int .u64 0) := L1.out.cell 0
  have hf1 : w1.frozen? ⟨w.heap.size + 1, 0, none⟩ = false := L1.out.fr 0
  go_wp2_with fail
  have ch : Chg (fun k => k = w.heap.size + 1) w1 (w1.setCell ⟨w.heap.size + 1, 0, none⟩ (.int .u64 U0)) := (Chg.refl (fun k => k = w.heap.size + 1) w1).setCell (p := ⟨w.heap.size + 1, 0, none⟩) (.inl rfl) (.int .u64 U0)
  have P2 : Hid _ := P1.out.set (g := w.heap.size + 1) (Nat.le_succ _) 0 (.int .u64 U0)
  have L2 : Hid (Blk (w1.setCell ⟨w.heap.size + 1, 0, none⟩ (.int .u64 U0)) (w.heap.size + 1) (pgC U0 0 0 (.slice none 0 0) (.slice none 0 0) 0 (.slice none 0 0)) 51) := L1.out.set 0 (.int .u64 U0)
  have R2 : Hid _ := R1.out.keep ch (by omega)
  have G2 : Hid (PG (w1.setCell ⟨w.heap.size + 1, 0, none⟩ (.int .u64 U0)) w.heap.size (.slice none 0 0) (.slice none 0 0) (.slice none 0 0) [] [] []) := G1.out.kept ch (fun g e => by rw [e]; exact L1.out.notEl)
  clear ch P1 L1 R1 G1
  clear hc1 hf1
  refine Calls.mono (H1.out _ P2.out.rp.1) ?_
  rintro e w2 ⟨rfl, r1⟩
  have P3 : Hid _ := P2.out.call r1
  have R3 : Hid _ := P2.out.blk R2.out (Nat.le_refl _) r1
  have L3 : Hid _ := P2.out.blk L2.out (Nat.le_succ _) r1
  have G3 : Hid (PG w2 w.heap.size (.slice none 0 0) (.slice none 0 0) (.slice none 0 0) [] [] []) := G2.out.kept r1.2 (fun g e => by rw [e]; exact P2.out.rp.1.notEl)
  clear r1 P2 R2 L2 G2 H1
  have hc3 : w2.cell? ⟨w.heap.size + 1, 1, none⟩ = some (.int .i64 0) := L3.out.cell 1
  have hf3 : w2.frozen? ⟨w.heap.size + 1, 1, none⟩ = false := L3.out.fr 1
  go_wp2_with fail
  have ch : Chg (fun k => k = w.heap.size + 1) w2 (w2.setCell ⟨w.heap.size + 1, 1, none⟩ (.int .i64 U1)) := (Chg.refl (fun k => k = w.heap.size + 1) w2).setCell (p := ⟨w.heap.size + 1, 1, none⟩) (.inl rfl) (.int .i64 U1)
  have P4 : Hid _ := P3.out.set (g := w.heap.size + 1) (Nat.le_succ _) 1 (.int .i64 U1)
  have L4 : Hid (Blk (w2.setCell ⟨w.heap.size + 1, 1, none⟩ (.int .i64 U1)) (w.heap.size + 1) (pgC U0 U1 0 (.slice none 0 0) (.slice none 0 0) 0 (.slice none 0 0)) 51) := L3.out.set 1 (.int .i64 U1)
  have R4 : Hid _ := R3.out.keep ch (by omega)
  have G4 : Hid (PG (w2.setCell ⟨w.heap.size + 1, 1, none⟩ (.int .i64 U1)) w.heap.size (.slice none 0 0) (.slice none 0 0) (.slice none 0 0) [] [] []) := G3.out.kept ch (fun g e => by rw [e]; exact L3.out.notEl)
  clear ch P3 L3 R3 G3
  clear hc3 hf3
  refine Calls.mono (H2.out _ P4.out.rp.1) ?_
  rintro e w3 ⟨rfl, r1⟩
  have P5 : Hid _ := P4.out.call r1
  have R5 : Hid _ := P4.out.blk R4.out (Nat.le_refl _) r1
  have L5 : Hid _ := P4.out.blk L4.out (Nat.le_succ _) r1
  have G5 : Hid (PG w3 w.heap.size (.slice none 0 0) (.slice none 0 0) (.slice none 0 0) [] [] []) := G4.out.kept r1.2 (fun g e => by rw [e]; exact P4.out.rp.1.notEl)
  clear r1 P4 R4 L4 G4 H2
  have hc5 : w3.cell? ⟨w.heap.size + 1, 2, none⟩ = some (.int .u64 0) := L5.out.cell 2
  have hf5 : w3.frozen? ⟨w.heap.size + 1, 2, none⟩ = false := L5.out.fr 2
  go_wp2_with fail
  have ch : Chg (fun k => k = w.heap.size + 1) w3 (w3.setCell ⟨w.heap.size + 1, 2, none⟩ (.int .u64 U2)) := (Chg.refl (fun k => k = w.heap.size + 1) w3).setCell (p := ⟨w.heap.size + 1, 2, none⟩) (.inl rfl) (.int .u64 U2)
  have P6 : Hid _ := P5.out.set (g := w.heap.size + 1) (Nat.le_succ _) 2 (.int .u64 U2)
  have L6 : Hid (Blk (w3.setCell ⟨w.heap.size + 1, 2, none⟩ (.int .u64 U2)) (w.heap.size + 1) (pgC U0 U1 U2 (.slice none 0 0) (.slice none 0 0) 0 (.slice none 0 0)) 51) := L5.out.set 2 (.int .u64 U2)
  have R6 : Hid _ := R5.out.keep ch (by omega)
  have G6 : Hid (PG (w3.setCell ⟨w.heap.size + 1, 2, none⟩ (.int .u64 U2)) w.heap.size (.slice none 0 0) (.slice none 0 0) (.slice none 0 0) [] [] []) := G5.out.kept ch (fun g e => by rw [e]; exact L5.out.notEl)
  clear ch P5 L5 R5 G5
  clear hc5 hf5
  refine Calls.mono (H3.out _ P6.out.rp.1) ?_
  rintro e w4 ⟨rfl, r1⟩
  have P7 : Hid _ := P6.out.call r1
  have R7 : Hid _ := P6.out.blk R6.out (Nat.le_refl _) r1
  have L7 : Hid _ := P6.out.blk L6.out (Nat.le_succ _) r1
  have G7 : Hid (PG w4 w.heap.size (.slice none 0 0) (.slice none 0 0) (.slice none 0 0) [] [] []) := G6.out.kept r1.2 (fun g e => by rw [e]; exact P6.out.rp.1.notEl)
  clear r1 P6 R6 L6 G6 H3
  go_wp2_with fail
  refine Calls.mono (H4.out _ P7.out.rp.1) ?_
  rintro e w5 ⟨v4, rfl, gl, r1, nb⟩
  have P8 : Hid _ := P7.out.call r1
  have R8 : Hid _ := P7.out.blk R7.out (Nat.le_refl _) r1
  have L8 : Hid _ := P7.out.blk L7.out (Nat.le_succ _) r1
  have k0 : PG w5 w.heap.size (.slice none 0 0) (.slice none 0 0) (.slice none 0 0) [] [] [] := G7.out.kept r1.2 (fun g e => by rw [e]; exact P7.out.rp.1.notEl)
  obtain ⟨ya4, yc4, hy⟩ := gl.form
  obtain ⟨ln4, hl⟩ : ∃ k, k = (ms).length := ⟨_, rfl⟩
  rw [← hl] at hy
  subst hy
  clear hl
  have szz := P7.out.rp.2.size
  have G8 : Hid (PG w5 w.heap.size (.slice ya4 ln4 yc4) (.slice none 0 0) (.slice none 0 0) ms [] []) := ⟨gl, k0.v, k0.p, fun g hg => by
    rcases hg with hg | hg | hg
    · exact (fun e => Nat.le_trans szz (nb g e)) hg
    · exact (fun e => k0.nb g (.inr (.inl e))) hg
    · exact (fun e => k0.nb g (.inr (.inr e))) hg⟩
  clear gl nb k0 szz
  clear r1 P7 R7 L7 G7 H4
  have hc8 : w5.cell? ⟨w.heap.size + 1, 3, none⟩ = some (.slice none 0 0) := L8.out.cell 3
  have hf8 : w5.frozen? ⟨w.heap.size + 1, 3, none⟩ = false := L8.out.fr 3
  go_wp2_with fail
  have ch : Chg (fun k => k = w.heap.size + 1) w5 (w5.setCell ⟨w.heap.size + 1, 3, none⟩ (.slice ya4 ln4 yc4)) := (Chg.refl (fun k => k = w.heap.size + 1) w5).setCell (p := ⟨w.heap.size + 1, 3, none⟩) (.inl rfl) (.slice ya4 ln4 yc4)
  have P9 : Hid _ := P8.out.set (g := w.heap.size + 1) (Nat.le_succ _) 3 (.slice ya4 ln4 yc4)
  have L9 : Hid (Blk (w5.setCell ⟨w.heap.size + 1, 3, none⟩ (.slice ya4 ln4 yc4)) (w.heap.size + 1) (pgC U0 U1 U2 (.slice ya4 ln4 yc4) (.slice none 0 0) 0 (.slice none 0 0)) 51) := L8.out.set 3 (.slice ya4 ln4 yc4)
  have R9 : Hid _ := R8.out.keep ch (by omega)
  have G9 : Hid (PG (w5.setCell ⟨w.heap.size + 1, 3, none⟩ (.slice ya4 ln4 yc4)) w.heap.size (.slice ya4 ln4 yc4) (.slice none 0 0) (.slice none 0 0) ms [] []) := G8.out.kept ch (fun g e => by rw [e]; exact L8.out.notEl)
  clear ch P8 L8 R8 G8
  clear hc8 hf8
  refine Calls.mono (H5.out _ P9.out.rp.1) ?_
  rintro e w6 ⟨rfl, r1⟩
  have P10 : Hid _ := P9.out.call r1
  have R10 : Hid _ := P9.out.blk R9.out (Nat.le_refl _) r1
  have L10 : Hid _ := P9.out.blk L9.out (Nat.le_succ _) r1
  have G10 : Hid (PG w6 w.heap.size (.slice ya4 ln4 yc4) (.slice none 0 0) (.slice none 0 0) ms [] []) := G9.out.kept r1.2 (fun g e => by rw [e]; exact P9.out.rp.1.notEl)
  clear r1 P9 R9 L9 G9 H5
  go_wp2_with fail
  refine Calls.mono (H6.out _ P10.out.rp.1) ?_
  rintro e w7 ⟨v6, rfl, gl, r1, nb⟩
  have P11 : Hid _ := P10.out.call r1
  have R11 : Hid _ := P10.out.blk R10.out (Nat.le_refl _) r1
  have L11 : Hid _ := P10.out.blk L10.out (Nat.le_succ _) r1
  have k0 : PG w7 w.heap.size (.slice ya4 ln4 yc4) (.slice none 0 0) (.slice none 0 0) ms [] [] := G10.out.kept r1.2 (fun g e => by rw [e]; exact P10.out.rp.1.notEl)
  obtain ⟨ya6, yc6, hy⟩ := gl.form
  obtain ⟨ln6, hl⟩ : ∃ k, k = (vs).length := ⟨_, rfl⟩
  rw [← hl] at hy
  subst hy
  clear hl
  have szz := P10.out.rp.2.size
  have G11 : Hid (PG w7 w.heap.size (.slice ya4 ln4 yc4) (.slice ya6 ln6 yc6) (.slice none 0 0) ms vs []) := ⟨k0.m, gl, k0.p, fun g hg => by
    rcases hg with hg | hg | hg
    · exact (fun e => k0.nb g (.inl e)) hg
    · exact (fun e => Nat.le_trans szz (nb g e)) hg
    · exact (fun e => k0.nb g (.inr (.inr e))) hg⟩
  clear gl nb k0 szz
  clear r1 P10 R10 L10 G10 H6
  have hc11 : w7.cell? ⟨w.heap.size + 1, 4, none⟩ = some (.slice none 0 0) := L11.out.cell 4
  have hf11 : w7.frozen? ⟨w.heap.size + 1, 4, none⟩ = false := L11.out.fr 4
  go_wp2_with fail
  have ch : Chg (fun k => k = w.heap.size + 1) w7 (w7.setCell ⟨w.heap.size + 1, 4, none⟩ (.slice ya6 ln6 yc6)) := (Chg.refl (fun k => k = w.heap.size + 1) w7).setCell (p := ⟨w.heap.size + 1, 4, none⟩) (.inl rfl) (.slice ya6 ln6 yc6)
  have P12 : Hid _ := P11.out.set (g := w.heap.size + 1) (Nat.le_succ _) 4 (.slice ya6 ln6 yc6)
  have L12 : Hid (Blk (w7.setCell ⟨w.heap.size + 1, 4, none⟩ (.slice ya6 ln6 yc6)) (w.heap.size + 1) (pgC U0 U1 U2 (.slice ya4 ln4 yc4) (.slice ya6 ln6 yc6) 0 (.slice none 0 0)) 51) := L11.out.set 4 (.slice ya6 ln6 yc6)
  have R12 : Hid _ := R11.out.keep ch (by omega)
  have G12 : Hid (PG (w7.setCell ⟨w.heap.size + 1, 4, none⟩ (.slice ya6 ln6 yc6)) w.heap.size (.slice ya4 ln4 yc4) (.slice ya6 ln6 yc6) (.slice none 0 0) ms vs []) := G11.out.kept ch (fun g e => by rw [e]; exact L11.out.notEl)
  clear ch P11 L11 R11 G11
  clear hc11 hf11
  refine Calls.mono (H7.out _ P12.out.rp.1) ?_
  rintro e w8 ⟨rfl, r1⟩
  have P13 : Hid _ := P12.out.call r1
  have R13 : Hid _ := P12.out.blk R12.out (Nat.le_refl _) r1
  have L13 : Hid _ := P12.out.blk L12.out (Nat.le_succ _) r1
  have G13 : Hid (PG w8 w.heap.size (.slice ya4 ln4 yc4) (.slice ya6 ln6 yc6) (.slice none 0 0) ms vs []) := G12.out.kept r1.2 (fun g e => by rw [e]; exact P12.out.rp.1.notEl)
  clear r1 P12 R12 L12 G12 H7
  have hc13 : w8.cell? ⟨w.heap.size + 1, 5, none⟩ = some (.int .u64 0) := L13.out.cell 5
  have hf13 : w8.frozen? ⟨w.heap.size + 1, 5, none⟩ = false := L13.out.fr 5
  go_wp2_with fail
  have ch : Chg (fun k => k = w.heap.size + 1) w8 (w8.setCell ⟨w.heap.size + 1, 5, none⟩ (.int .u64 U7)) := (Chg.refl (fun k => k = w.heap.size + 1) w8).setCell (p := ⟨w.heap.size + 1, 5, none⟩) (.inl rfl) (.int .u64 U7)
  have P14 : Hid _ := P13.out.set (g := w.heap.size + 1) (Nat.le_succ _) 5 (.int .u64 U7)
  have L14 : Hid (Blk (w8.setCell ⟨w.heap.size + 1, 5, none⟩ (.int .u64 U7)) (w.heap.size + 1) (pgC U0 U1 U2 (.slice ya4 ln4 yc4) (.slice ya6 ln6 yc6) U7 (.slice none 0 0)) 51) := L13.out.set 5 (.int .u64 U7)
  have R14 : Hid _ := R13.out.keep ch (by omega)
  have G14 : Hid (PG (w8.setCell ⟨w.heap.size + 1, 5, none⟩ (.int .u64 U7)) w.heap.size (.slice ya4 ln4 yc4) (.slice ya6 ln6 yc6) (.slice none 0 0) ms vs []) := G13.out.kept ch (fun g e => by rw [e]; exact L13.out.notEl)
  clear ch P13 L13 R13 G13
  clear hc13 hf13
  refine Calls.mono (H8.out _ P14.out.rp.1) ?_
  rintro e w9 ⟨rfl, r1⟩
  have P15 : Hid _ := P14.out.call r1
  have R15 : Hid _ := P14.out.blk R14.out (Nat.le_refl _) r1
  have L15 : Hid _ := P14.out.blk L14.out (Nat.le_succ _) r1
  have G15 : Hid (PG w9 w.heap.size (.slice ya4 ln4 yc4) (.slice ya6 ln6 yc6) (.slice none 0 0) ms vs []) := G14.out.kept r1.2 (fun g e => by rw [e]; exact P14.out.rp.1.notEl)
  clear r1 P14 R14 L14 G14 H8
  go_wp2_with fail
  refine Calls.mono (H9.out _ P15.out.rp.1) ?_
  rintro e w10 ⟨v9, rfl, gl, r1, nb⟩
  have P16 : Hid _ := P15.out.call r1
  have R16 : Hid _ := P15.out.blk R15.out (Nat.le_refl _) r1
  have L16 : Hid _ := P15.out.blk L15.out (Nat.le_succ _) r1
  have k0 : PG w10 w.heap.size (.slice ya4 ln4 yc4) (.slice ya6 ln6 yc6) (.slice none 0 0) ms vs [] := G15.out.kept r1.2 (fun g e => by rw [e]; exact P15.out.rp.1.notEl)
  obtain ⟨ya9, yc9, hy⟩ := gl.form
  obtain ⟨ln9, hl⟩ : ∃ k, k = (ps).length := ⟨_, rfl⟩
  rw [← hl] at hy
  subst hy
  clear hl
  have szz := P15.out.rp.2.size
  have G16 : Hid (PG w10 w.heap.size (.slice ya4 ln4 yc4) (.slice ya6 ln6 yc6) (.slice ya9 ln9 yc9) ms vs ps) := ⟨k0.m, k0.v, gl, fun g hg => by
    rcases hg with hg | hg | hg
    · exact (fun e => k0.nb g (.inl e)) hg
    · exact (fun e => k0.nb g (.inr (.inl e))) hg
    · exact (fun e => Nat.le_trans szz (nb g e)) hg⟩
  clear gl nb k0 szz
  clear r1 P15 R15 L15 G15 H9
  have hc16 : w10.cell? ⟨w.heap.size + 1, 6, none⟩ = some (.slice none 0 0) := L16.out.cell 6
  have hf16 : w10.frozen? ⟨w.heap.size + 1, 6, none⟩ = false := L16.out.fr 6
  have ch : Chg (fun k => k = w.heap.size + 1) w10 (w10.setCell ⟨w.heap.size + 1, 6, none⟩ (.slice ya9 ln9 yc9)) := (Chg.refl (fun k => k = w.heap.size + 1) w10).setCell (p := ⟨w.heap.size + 1, 6, none⟩) (.inl rfl) (.slice ya9 ln9 yc9)
  have P17 : Hid _ := P16.out.set (g := w.heap.size + 1) (Nat.le_succ _) 6 (.slice ya9 ln9 yc9)
  have L17 : Hid (Blk (w10.setCell ⟨w.heap.size + 1, 6, none⟩ (.slice ya9 ln9 yc9)) (w.heap.size + 1) (pgC U0 U1 U2 (.slice ya4 ln4 yc4) (.slice ya6 ln6 yc6) U7 (.slice ya9 ln9 yc9)) 51) := L16.out.set 6 (.slice ya9 ln9 yc9)
  have R17 : Hid _ := R16.out.keep ch (by omega)
  have G17 : Hid (PG (w10.setCell ⟨w.heap.size + 1, 6, none⟩ (.slice ya9 ln9 yc9)) w.heap.size (.slice ya4 ln4 yc4) (.slice ya6 ln6 yc6) (.slice ya9 ln9 yc9) ms vs ps) := G16.out.kept ch (fun g e => by rw [e]; exact L16.out.notEl)
  clear ch P16 L16 R16 G16
  go_wp2_with (first
    | (refine wpList_load_part rfl 51 (.tmp 3) rfl (w.heap.size + 1) 0 (pgC U0 U1 U2 (.slice ya4 ln4 yc4) (.slice ya6 ln6 yc6) U7 (.slice ya9 ln9 yc9)) rfl L17.out (by simp) Try.underlying51 rfl (Try.pgSz _ _ _ _ _ _ _) ?_)
    | (refine wpList_store_part rfl 51 (.tmp 2) (.tmp 44) rfl w.heap.size 0 (pgC U0 U1 U2 (.slice ya4 ln4 yc4) (.slice ya6 ln6 yc6) U7 (.slice ya9 ln9 yc9)) rfl rfl R17.out (by simp [pgC]) (Try.pgSz _ _ _ _ _ _ _) (pgC_one _ _ _ _ rfl rfl rfl) ?_; intro w8 b8 c8; rw [splice_all _ _ (by simp [pgC])] at b8; have RR : Hid _ := b8; have GG : Hid _ := G17.out.kept c8 (fun g e => by rw [e]; exact R17.out.notEl); have PP : Hid _ := P17.out.chg c8 (Nat.le_refl _); clear b8 c8))
  exact bodyPost_ret (v := .agg (pgC U0 U1 U2 (.slice ya4 ln4 yc4) (.slice ya6 ln6 yc6) U7 (.slice ya9 ln9 yc9)).toArray) (results_row1 rfl _ _ w.heap.size 51 _ _ _ rfl RR.out.eq Try.underlying51 rfl (Try.pgSz _ _ _ _ _ _ _)) rfl ⟨_, _, _, rfl, GG.out, PP.out.rp⟩
end Go.Proofs.Ytfkjgfelgiogeaa
