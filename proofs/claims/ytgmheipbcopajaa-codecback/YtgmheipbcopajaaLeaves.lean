/-
  CodecLeaves, whole.
-/
import Derived.Test.YtgmheipbcopajaaWholeX
import Derived.Test.YtgmheipbcopajaaRefW
import Derived.Test.YtgmheipbcopajaaEq2
namespace Go.Proofs.Ytgmheipbcopajaa
open Go.RowKit

theorem wpList_load_if {ops : Array Oper} {rest : List Oper} {op : Oper} {a : Act} {w : World} {Q : Exit → Act → World → Prop} (hw : Region.wanted op (yielded ops a.tmps) = true) (ty : TypeId) (x : Operand) (ho : op.op = .load ty x)
    (b o : Nat) (hx : a.eval x = .pointer (some ⟨b, o, none⟩)) (cs : List Value) (d : TypeDesc) (hc : w.rangeAt b o cs)
    (hu : Try.prog.underlying ty = some d) (hd : d.isRow = true) (hi : (Try.prog.info? ty).map (·.size) = some cs.length)
    (h : wpList Try.prog ops Q rest (a.put op.dst (.agg cs.toArray)) w) : wpList Try.prog ops Q (op :: rest) a w :=
  BigFrame.wpList_want hw fun _ hK => wp_load_mid ty x ho b o hx cs d hc hu hd hi (hK _ _ h)

set_option maxRecDepth 100000 in
set_option maxHeartbeats 4000000 in
theorem leaves_any {w : World} (n : Nat) (y : List Int) (hn : n < 18446744073709551616) (hy : y.length = 32) (f x1 y1 x2 y2 : List Int) (hf : f = (x1 ++ y1) ++ (x2 ++ y2)) (hx1 : x1.length = 33) (hy1 : y1.length = 32) (hx2 : x2.length = 33) (hy2 : y2.length = 32) {s : Value} {T : List Int} (h : In w s T) :
    Calls Try.prog 8 #[.agg (leafC n y).toArray, .agg (bs f).toArray, s] w fun e w' => e = .returned (.bool true) ∧ Below w.heap.size w w' := by
  have hl : f.length = 130 := by rw [hf]; simp [hx1, hy1, hx2, hy2]
  obtain ⟨W0, hW0⟩ : ∃ W0, W0 = (w.alloc (.cells (leafC n y).toArray 71)).alloc (.cells (bs f).toArray 75) := ⟨_, rfl⟩
  have hb0 : Below w.heap.size w W0 := by rw [hW0]; exact ((Below.refl _ _).alloc (Nat.le_refl _) _).alloc (by simp) _
  have HB0 : Hid _ := hb0
  have P0 : Hid (Blk W0 w.heap.size (leafC n y) 71) := by rw [hW0]; exact (Blk.made w _ 71).alloc _
  have Q0 : Hid (Blk W0 (w.heap.size + 1) (bs f) 75) := by
    rw [hW0]
    have := Blk.made (w.alloc (.cells (leafC n y).toArray 71)) (bs f) 75
    rwa [World.size_alloc] at this
  have I0 : Hid (In W0 s T) := h.keep hb0
  have KC := copy_any I0.out.src I0.out.big
  rw [hW0] at KC
  have HC : Hid _ := KC
  have HW : Hid _ := hW0
  have HF : Hid _ := hf
  obtain ⟨X, hX⟩ : ∃ X, X = leafA T := ⟨_, rfl⟩
  obtain ⟨E, hE⟩ : ∃ E, E = leafE T := ⟨_, rfl⟩
  obtain ⟨U, hU⟩ : ∃ U, U = forkA T := ⟨_, rfl⟩
  obtain ⟨G, hG⟩ : ∃ G, G = forkE T := ⟨_, rfl⟩
  have LX : X.length = leafZ.length := by rw [hX]; exact leafA_len T
  have OX : Hid (∀ u ∈ X, u.oneCell' = true) := by rw [hX]; exact leafA_one T
  have EX : ∀ w, (Op.equalIn 10000 71 (.agg X.toArray) (.agg X.toArray)).run Try.prog w = .ok true w := by rw [hX]; exact eqLeafA T
  have LU : U.length = forkZ.length := by rw [hU]; exact forkA_len T
  have OU : Hid (∀ u ∈ U, u.oneCell' = true) := by rw [hU]; exact forkA_one T
  have EU : ∀ w, (Op.equalIn 10000 75 (.agg U.toArray) (.agg U.toArray)).run Try.prog w = .ok true w := by rw [hU]; exact eqForkA T
  have LCode : Hid (∀ w v, In w v T → Calls Try.prog 27 #[v] w fun e w' => e = .returned (.tuple #[.agg X.toArray, .int .i64 E]) ∧ Below w.heap.size w w') := fun w v h => by rw [hX, hE]; exact leafCode_any h
  have LRef : Hid (∀ w v, In w v T → Calls Try.prog 37 #[v] w fun e w' => e = .returned (.tuple #[.agg X.toArray, .int .i64 E]) ∧ Below w.heap.size w w') := fun w v h => by rw [hX, hE]; exact leafRef_any h
  have FCode : Hid (∀ w v, In w v T → Calls Try.prog 29 #[v] w fun e w' => e = .returned (.tuple #[.agg U.toArray, .int .i64 G]) ∧ Below w.heap.size w w') := fun w v h => by rw [hU, hG]; exact forkCode_any h
  have FRef : Hid (∀ w v, In w v T → Calls Try.prog 38 #[v] w fun e w' => e = .returned (.tuple #[.agg U.toArray, .int .i64 G]) ∧ Below w.heap.size w w') := fun w v h => by rw [hU, hG]; exact forkRef_any h
  obtain ⟨a0, c0, hs, _⟩ := h.cap
  clear h hb0 hW0 KC hf hX hE hU hG
  subst hs
  go_enter Try.func8, Try.ntmps8
  go_wp2_with fail
  refine Calls.mono HC.out ?_
  rintro e w1 ⟨v1, rfl, m1⟩
  rw [← HW.out] at m1
  have J1 : Hid (In w1 v1 T) := Own.in_ m1.1 I0.out.byt I0.out.big
  have B1 : Hid (Below W0.heap.size W0 w1) := m1.2.1
  obtain ⟨b1, d1, hv1⟩ := m1.1.form
  clear m1 HC HW
  subst hv1
  go_wp2_with fail
  refine Calls.mono (LCode.out _ _ J1.out) ?_
  rintro e w2 ⟨rfl, b2⟩
  have B2 : Hid (Below W0.heap.size W0 w2) := B1.out.trans (b2.mono B1.out.size)
  clear b2 B1 J1 LCode
  go_wp2_with (refine wpList_store_part rfl 71 (.tmp 7) (.tmp 19) rfl w2.heap.size 0 X rfl rfl (Blk.made w2 leafZ 71) (by rw [LX, Nat.zero_add]; exact Nat.le_refl _) (Try.leafZsz X LX) OX.out ?_; intro w3 b3 c3; rw [splice_all _ _ LX] at b3; have X3 : Hid _ := b3; have B3 : Hid (Below W0.heap.size W0 w3) := below_chg1 (B2.out.alloc B2.out.size _) c3 (Nat.le_trans B2.out.size (by simp)) B2.out.size; clear b3 c3)
  refine Calls.mono (LRef.out _ _ (I0.out.keep B3.out)) ?_
  rintro e w4 ⟨rfl, b4⟩
  have X4 : Hid (Blk w4 w2.heap.size X 71) := X3.out.keep0 b4
  have N24 : w2.heap.size < w4.heap.size := X4.out.lt
  have B4 : Hid (Below W0.heap.size W0 w4) := B3.out.trans (b4.mono B3.out.size)
  clear b4 B3 X3 LRef B2
  go_wp2_with (first | (refine wpList_store_part rfl 71 (.tmp 9) (.tmp 24) rfl w4.heap.size 0 X rfl rfl (Blk.made w4 leafZ 71) (by rw [LX, Nat.zero_add]; exact Nat.le_refl _) (Try.leafZsz X LX) OX.out ?_; intro w5 b5 c5; rw [splice_all _ _ LX] at b5; have Y5 : Hid _ := b5; have X5 : Hid (Blk w5 w2.heap.size X 71) := (X4.out.alloc _).keep c5 (by omega); have B5 : Hid (Below W0.heap.size W0 w5) := below_chg1 (B4.out.alloc B4.out.size _) c5 (Nat.le_trans B4.out.size (by simp)) B4.out.size; clear b5 c5))
  refine Calls.mono (copy_any (I0.out.keep B5.out).src I0.out.big) ?_
  rintro e w6 ⟨v6, rfl, m6⟩
  have J6 : Hid (In w6 v6 T) := Own.in_ m6.1 I0.out.byt I0.out.big
  have B6 : Hid (Below W0.heap.size W0 w6) := B5.out.trans (m6.2.1.mono B5.out.size)
  have X6 : Hid (Blk w6 w2.heap.size X 71) := X5.out.keep0 m6.2.1
  have Y6 : Hid (Blk w6 w4.heap.size X 71) := Y5.out.keep0 m6.2.1
  obtain ⟨b6, d6, hv6⟩ := m6.1.form
  clear m6 B4 X4 X5 Y5 B5
  subst hv6
  go_wp2_with fail
  refine Calls.mono (FCode.out _ _ J6.out) ?_
  rintro e w7 ⟨rfl, b7⟩
  have B7 : Hid (Below W0.heap.size W0 w7) := B6.out.trans (b7.mono B6.out.size)
  have X7 : Hid (Blk w7 w2.heap.size X 71) := X6.out.keep0 b7
  have Y7 : Hid (Blk w7 w4.heap.size X 71) := Y6.out.keep0 b7
  have N47 : w4.heap.size < w7.heap.size := Y7.out.lt
  clear b7 B6 X6 Y6 J6 FCode
  go_wp2_with (refine wpList_store_part rfl 75 (.tmp 11) (.tmp 30) rfl w7.heap.size 0 U rfl rfl (Blk.made w7 forkZ 75) (by rw [LU, Nat.zero_add]; exact Nat.le_refl _) (Try.forkZsz U LU) OU.out ?_; intro w8 b8 c8; rw [splice_all _ _ LU] at b8; have U8 : Hid _ := b8; have X8 : Hid (Blk w8 w2.heap.size X 71) := (X7.out.alloc _).keep c8 (by omega); have Y8 : Hid (Blk w8 w4.heap.size X 71) := (Y7.out.alloc _).keep c8 (by omega); have B8 : Hid (Below W0.heap.size W0 w8) := below_chg1 (B7.out.alloc B7.out.size _) c8 (Nat.le_trans B7.out.size (by simp)) B7.out.size; clear b8 c8)
  refine Calls.mono (FRef.out _ _ (I0.out.keep B8.out)) ?_
  rintro e w9 ⟨rfl, b9⟩
  have X9 : Hid (Blk w9 w2.heap.size X 71) := X8.out.keep0 b9
  have Y9 : Hid (Blk w9 w4.heap.size X 71) := Y8.out.keep0 b9
  have U9 : Hid (Blk w9 w7.heap.size U 75) := U8.out.keep0 b9
  have N79 : w7.heap.size < w9.heap.size := U9.out.lt
  have B9 : Hid (Below W0.heap.size W0 w9) := B8.out.trans (b9.mono B8.out.size)
  clear b9 B8 X8 Y8 U8 FRef X7 Y7 B7
  go_upto_region 5 with (refine wpList_store_part rfl 75 (.tmp 13) (.tmp 35) rfl w9.heap.size 0 U rfl rfl (Blk.made w9 forkZ 75) (by rw [LU, Nat.zero_add]; exact Nat.le_refl _) (Try.forkZsz U LU) OU.out ?_; intro wa b5 c5; rw [splice_all _ _ LU] at b5; have Va : Hid _ := b5; have Xa : Hid (Blk wa w2.heap.size X 71) := (X9.out.alloc _).keep c5 (by omega); have Ya : Hid (Blk wa w4.heap.size X 71) := (Y9.out.alloc _).keep c5 (by omega); have Ua : Hid (Blk wa w7.heap.size U 75) := (U9.out.alloc _).keep c5 (by omega); have Ba : Hid (Below W0.heap.size W0 wa) := below_chg1 (B9.out.alloc B9.out.size _) c5 (Nat.le_trans B9.out.size (by simp)) B9.out.size; clear b5 c5)
  clear X9 Y9 U9 B9
  go_wp2_with (first | (refine wpList_load_if (by rfl) 71 (.tmp 7) rfl w2.heap.size 0 rfl X _ (Xa.out.range (by simp)) Try.underlying71 rfl (Try.leafZsz X LX) ?_) | (refine wpList_load_if (by rfl) 71 (.tmp 9) rfl w4.heap.size 0 rfl X _ (Ya.out.range (by simp)) Try.underlying71 rfl (Try.leafZsz X LX) ?_) | (refine wpList_load_if (by rfl) 75 (.tmp 11) rfl w7.heap.size 0 rfl U _ (Ua.out.range (by simp)) Try.underlying75 rfl (Try.forkZsz U LU) ?_) | (refine wpList_load_if (by rfl) 75 (.tmp 13) rfl w9.heap.size 0 rfl U _ (Va.out.range (by simp)) Try.underlying75 rfl (Try.forkZsz U LU) ?_))
  have Pa : Hid (Blk wa w.heap.size (leafC n y) 71) := P0.out.keep0 Ba.out
  have Qa : Hid (Blk wa (w.heap.size + 1) (bs f) 75) := Q0.out.keep0 Ba.out
  have LN : (numB n ++ y).length ≤ 9223372036854775807 := by have := numB_ten hn; simp [hy]; omega
  clear EX EU LX LU OX OU Xa Ya Ua Va P0 Q0 I0
  refine wp_region_held_drew (S := fun w' => Below wa.heap.size wa w') (by kernel_rfl) (Below.refl _ _).drew (fun hH => ?_)
  refine wpAnyH_take (i := 0) (v := .agg (leafC n y).toArray) rfl (by kernel_rfl) (by kernel_rfl) (by kernel_rfl) (fun _ _ _ h => h) (yieldsIf_load_mid (by rfl) _ _ rfl w.heap.size 0 (by kernel_rfl) _ _ (fun w' h => Blk.range (Blk.keep0 Pa.out h) (by simp)) Try.underlying71 rfl (Try.leafSz n y hy)) hH ?_
  refine wpAnyH_take (i := 2) (v := .agg (leafC n y).toArray) rfl (by kernel_rfl) (by kernel_rfl) (by kernel_rfl) (fun _ _ _ h => h) (yieldsIf_load_mid (by rfl) _ _ rfl w.heap.size 0 (by kernel_rfl) _ _ (fun w' h => Blk.range (Blk.keep0 Pa.out h) (by simp)) Try.underlying71 rfl (Try.leafSz n y hy)) hH ?_
  refine wpAnyH_ready (rs := [1]) (by kernel_rfl) (by simp) ?_
  refine AllReadyH.cons rfl (fun K hK => ?_) AllReadyH.nil
  go_simp
  refine Calls.mono (cLeaf_any n y hn hy) ?_
  rintro e u1 ⟨v1, rfl, m1⟩
  refine hK.out _ _ (Made.then hH m1) (fun h1 => ?_)
  clear hK K
  obtain ⟨p1, q1, hv1⟩ := m1.1.form
  have S1 := m1.1.src
  have K1 := m1.2.1
  clear m1
  obtain ⟨n1, hn1⟩ : ∃ nn : Nat, nn = (numB n ++ y).length := ⟨_, rfl⟩
  rw [← hn1] at hv1
  subst hv1
  clear hn1
  refine wpAnyH_ready (rs := [3]) (by kernel_rfl) (by simp) ?_
  refine AllReadyH.cons rfl (fun K hK => ?_) AllReadyH.nil
  go_simp
  refine Calls.mono (xLeafW_any n y hn hy) ?_
  rintro e u2 ⟨v2, rfl, m2⟩
  refine hK.out _ _ (Made.then h1 m2) (fun h2 => ?_)
  clear hK K
  obtain ⟨p2, q2, hv2⟩ := m2.1.form
  have S2 := m2.1.src
  have K2 := m2.2.1
  clear m2
  obtain ⟨n2, hn2⟩ : ∃ nn : Nat, nn = (numB n ++ y).length := ⟨_, rfl⟩
  rw [← hn2] at hv2
  subst hv2
  clear hn2
  refine wpAnyH_ready (rs := [4]) (by kernel_rfl) (by simp) ?_
  refine AllReadyH.cons rfl (fun K hK => ?_) AllReadyH.nil
  go_simp
  refine Calls.mono (same_any (S1.kept0 K2) S2 LN LN) ?_
  rintro e u3 ⟨rfl, j3, rfl⟩
  refine hK.out _ _ (below_drewN h2 j3) (fun h3 => ?_)
  clear hK K S1 S2
  rw [decide_eq_true rfl]
  refine wpAnyH_take (i := 5) (v := .bool true) rfl (by kernel_rfl) (by kernel_rfl) (by kernel_rfl) (fun _ _ _ h => h) (Or.inl ⟨by rfl, fun w' _ => by go_simp⟩) h3 ?_
  refine wpAnyH_take (i := 6) (v := .agg (bs f).toArray) rfl (by kernel_rfl) (by kernel_rfl) (by kernel_rfl) (fun _ _ _ h => h) (yieldsIf_load_mid (by rfl) _ _ rfl (w.heap.size + 1) 0 (by kernel_rfl) _ _ (fun w' h => Blk.range (Blk.keep0 Qa.out h) (by simp)) Try.underlying75 rfl (Try.forkSz f hl)) h3 ?_
  refine wpAnyH_take (i := 8) (v := .agg (bs f).toArray) rfl (by kernel_rfl) (by kernel_rfl) (by kernel_rfl) (fun _ _ _ h => h) (yieldsIf_load_mid (by rfl) _ _ rfl (w.heap.size + 1) 0 (by kernel_rfl) _ _ (fun w' h => Blk.range (Blk.keep0 Qa.out h) (by simp)) Try.underlying75 rfl (Try.forkSz f hl)) h3 ?_
  refine wpAnyH_ready (rs := [7]) (by kernel_rfl) (by simp) ?_
  refine AllReadyH.cons rfl (fun K hK => ?_) AllReadyH.nil
  go_simp
  refine Calls.mono (cFork_any f x1 y1 x2 y2 HF.out hx1 hy1 hx2 hy2) ?_
  rintro e u4 ⟨v4, rfl, m4⟩
  refine hK.out _ _ (Made.then h3 m4) (fun h4 => ?_)
  clear hK K
  obtain ⟨p4, q4, hv4⟩ := m4.1.form
  have S4 := m4.1.src
  have K4 := m4.2.1
  clear m4
  obtain ⟨n4, hn4⟩ : ∃ nn : Nat, nn = (f).length := ⟨_, rfl⟩
  rw [← hn4] at hv4
  subst hv4
  clear hn4
  refine wpAnyH_ready (rs := [9]) (by kernel_rfl) (by simp) ?_
  refine AllReadyH.cons rfl (fun K hK => ?_) AllReadyH.nil
  go_simp
  refine Calls.mono (xForkW_any f x1 y1 x2 y2 HF.out hx1 hy1 hx2 hy2) ?_
  rintro e u5 ⟨v5, rfl, m5⟩
  refine hK.out _ _ (Made.then h4 m5) (fun h5 => ?_)
  clear hK K
  obtain ⟨p5, q5, hv5⟩ := m5.1.form
  have S5 := m5.1.src
  have K5 := m5.2.1
  clear m5
  obtain ⟨n5, hn5⟩ : ∃ nn : Nat, nn = (f).length := ⟨_, rfl⟩
  rw [← hn5] at hv5
  subst hv5
  clear hn5
  refine wpAnyH_ready (rs := [10]) (by kernel_rfl) (by simp) ?_
  refine AllReadyH.cons rfl (fun K hK => ?_) AllReadyH.nil
  go_simp
  refine Calls.mono (same_any (S4.kept0 K5) S5 (by omega) (by omega)) ?_
  rintro e u6 ⟨rfl, j6, rfl⟩
  refine hK.out _ _ (below_drewN h5 j6) (fun h6 => ?_)
  clear hK K S4 S5
  rw [decide_eq_true rfl]
  refine wpAnyH_take (i := 11) (v := .bool true) rfl (by kernel_rfl) (by kernel_rfl) (by kernel_rfl) (fun _ _ _ h => h) (Or.inl ⟨by rfl, fun w' _ => by go_simp⟩) h6 ?_
  refine wpAnyH_take (i := 12) (v := .bool true) rfl (by kernel_rfl) (by kernel_rfl) (by kernel_rfl) (fun _ _ _ h => h) (Or.inl ⟨by rfl, fun w' _ => by go_simp⟩) h6 ?_
  refine wpAnyH_done (by kernel_rfl) ?_ _
  have FIN : Hid (Below w.heap.size w (u5.drewN j6)) := HB0.out.trans ((Ba.out.trans (h6.mono Ba.out.size)).mono HB0.out.size)
  clear h1 h2 h3 h4 h5 h6 hH K1 K2 K4 K5
  go_wp2_with fail
  go_ret
  exact ⟨rfl, FIN.out⟩
end Go.Proofs.Ytgmheipbcopajaa
