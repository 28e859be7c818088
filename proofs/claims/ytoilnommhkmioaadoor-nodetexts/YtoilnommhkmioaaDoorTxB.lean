/-
  The reference's texts: LeafText, HeadText, RootText.
-/
import Derived.Test.YtoilnommhkmioaaDoorTxA
namespace Go.Proofs.YtoilnommhkmioaaDoor
open Go.RowKit

theorem own_new (w : World) (l : List Int) (hl : l.length ≤ 140737488355328) : Own (w.alloc (.cells (bs l).toArray 5)) (.slice (some ⟨w.heap.size, 0, none⟩) l.length l.length) l := own_full hl (heap_alloc_new _ _)
theorem made_new {w0 w : World} (b : Below w0.heap.size w0 w) (l : List Int) (hl : l.length ≤ 140737488355328) : Made w0 (w.alloc (.cells (bs l).toArray 5)) (.slice (some ⟨w.heap.size, 0, none⟩) l.length l.length) l :=
  ⟨own_new w l hl, b.alloc b.size _, fun k hk => by simp [Value.ownBlock] at hk; have := b.size; omega⟩
theorem fx4 (n : Nat) : fx n 4 = word ((n : Int) % 4294967296) := by
  simp only [fx, word, List.nil_append, List.cons_append, List.cons.injEq, and_true]
  omega
theorem fx8 (n : Nat) (h : n < 18446744073709551616) : fx n 8 = long n := by
  simp only [fx, long, word, List.nil_append, List.cons_append, List.cons.injEq, and_true]
  omega
theorem src_box {w1 : World} {z : List Int} (hz : z.length = 32) {g : Nat} (h : Blk w1 g (bs z) 25) : Src w1 (.slice (some ⟨g, 0, none⟩) 32 32) z :=
  .inr ⟨_, _, by rw [hz], fun j u hu => ⟨rfl, by rw [h.cell]; simpa using hu⟩⟩

set_option maxRecDepth 100000 in
set_option maxHeartbeats 1000000 in
theorem rLeaf_any {w : World} {s : Value} {m : List Int} (hs : Src w s m) (z : List Int) (hz : z.length = 32) (hl : m.length + 37 ≤ 140737488355328) :
    Calls Tryd.prog 13 #[s, .agg (bs z).toArray] w fun e w' => ∃ v, e = .returned v ∧ Made w w' v (leafT m z) := by
  obtain ⟨a0, c0, hs2⟩ := hs.form
  subst hs2
  obtain ⟨W, hW⟩ : ∃ W, W = w.alloc (.cells (bs z).toArray 25) := ⟨_, rfl⟩
  have bb : Below w.heap.size w W := by rw [hW]; exact (Below.refl _ _).alloc (Nat.le_refl _) _
  have BW : Hid _ := bb
  have BL : Hid (Blk W w.heap.size (bs z) 25) := by rw [hW]; exact Blk.made _ _ _
  have HS : Hid _ := hs.kept0 bb
  obtain ⟨W1, hW1⟩ : ∃ W1, W1 = W.alloc (.cells (bs [17]).toArray 5) := ⟨_, rfl⟩
  have M1 : Hid (Made W W1 (.slice (some ⟨W.heap.size, 0, none⟩) 1 1) [17]) := by rw [hW1]; exact made_new (Below.refl _ _) [17] (by simp)
  clear hs bb
  go_enter Tryd.func13, Tryd.ntmps13
  go_upto_region 1 with fail
  rw [← hW]
  clear hW
  go_upto_region 2 with fail
  have hW1' : W.alloc (.cells #[.int .u8 17] 5) = W1 := hW1.symm
  rw [hW1']
  clear hW1 hW1'
  go_wp2_with (first
    | (go_at_call 25; refine Calls.mono (fixed_any (w := W1) m.length 4 (by omega) (by omega)) ?_; rintro e w2 ⟨v2, rfl, m2⟩; have M2 : Hid _ := m2; have N2 : Hid _ := Made.then M1.out m2.2.1; clear m2)
    | (refine wpList_app rfl (.tmp 7) (.tmp 11) rfl (l := [17]) (m := fx m.length 4) rfl rfl N2.out.1 (Own.src M2.out.1) (by simp [fx_len]) ?_; intro v3 w3 o3 c3 a3; have M3 : Hid _ := Made.app N2.out o3 c3 a3; clear o3 c3 a3)
    | (refine wpList_app rfl (.tmp 13) (.tmp 14) rfl (l := [17] ++ fx m.length 4) (m := m) rfl rfl M3.out.1 (Src.kept0 HS.out M3.out.2.1) (by simp [fx_len]; omega) ?_; intro v4 w4 o4 c4 a4; have M4 : Hid _ := Made.app M3.out o4 c4 a4; clear o4 c4 a4)
    | (refine wpList_app rfl (.tmp 16) (.tmp 17) rfl (l := [17] ++ fx m.length 4 ++ m) (m := z) rfl rfl M4.out.1 (src_box hz (Blk.keep0 BL.out M4.out.2.1)) (by simp [fx_len]; omega) ?_; intro v5 w5 o5 c5 a5; have M5 : Hid _ := Made.app M4.out o5 c5 a5; clear o5 c5 a5))
  go_ret
  refine ⟨_, rfl, ?_⟩
  have := Made.outer M5.out BW.out
  rwa [fx4] at this

set_option maxRecDepth 100000 in
set_option maxHeartbeats 1000000 in
theorem rHead_any {w : World} : Calls Tryd.prog 15 #[] w fun e w' => ∃ v, e = .returned v ∧ Made w w' v headT := by
  have M1 : Hid (Made w (w.alloc (.cells (bs [18]).toArray 5)) (.slice (some ⟨w.heap.size, 0, none⟩) 1 1) [18]) := made_new (Below.refl _ _) [18] (by simp)
  go_enter Tryd.func15, Tryd.ntmps15
  go_wp2_with fail
  go_ret
  exact ⟨_, rfl, M1.out⟩

set_option maxRecDepth 100000 in
set_option maxHeartbeats 1000000 in
theorem rRoot_any {w : World} (n : Nat) (hn : n < 18446744073709551616) (z : List Int) (hz : z.length = 32) :
    Calls Tryd.prog 16 #[.int .u64 n, .agg (bs z).toArray] w fun e w' => ∃ v, e = .returned v ∧ Made w w' v (rootT n z) := by
  obtain ⟨W, hW⟩ : ∃ W, W = w.alloc (.cells (bs z).toArray 25) := ⟨_, rfl⟩
  have bb : Below w.heap.size w W := by rw [hW]; exact (Below.refl _ _).alloc (Nat.le_refl _) _
  have BW : Hid _ := bb
  have BL : Hid (Blk W w.heap.size (bs z) 25) := by rw [hW]; exact Blk.made _ _ _
  obtain ⟨W1, hW1⟩ : ∃ W1, W1 = W.alloc (.cells (bs [20]).toArray 5) := ⟨_, rfl⟩
  have M1 : Hid (Made W W1 (.slice (some ⟨W.heap.size, 0, none⟩) 1 1) [20]) := by rw [hW1]; exact made_new (Below.refl _ _) [20] (by simp)
  clear bb
  go_enter Tryd.func16, Tryd.ntmps16
  go_upto_region 1 with fail
  rw [← hW]
  clear hW
  go_upto_region 2 with fail
  have hW1' : W.alloc (.cells #[.int .u8 20] 5) = W1 := hW1.symm
  rw [hW1']
  clear hW1 hW1'
  go_wp2_with (first
    | (go_at_call 25; refine Calls.mono (fixed_any (w := W1) n 8 hn (by omega)) ?_; rintro e w2 ⟨v2, rfl, m2⟩; have M2 : Hid _ := m2; have N2 : Hid _ := Made.then M1.out m2.2.1; clear m2)
    | (refine wpList_app rfl (.tmp 7) (.tmp 9) rfl (l := [20]) (m := fx n 8) rfl rfl N2.out.1 (Own.src M2.out.1) (by simp [fx_len]) ?_; intro v3 w3 o3 c3 a3; have M3 : Hid _ := Made.app N2.out o3 c3 a3; clear o3 c3 a3)
    | (refine wpList_app rfl (.tmp 11) (.tmp 12) rfl (l := [20] ++ fx n 8) (m := z) rfl rfl M3.out.1 (src_box hz (Blk.keep0 BL.out M3.out.2.1)) (by simp [fx_len]; omega) ?_; intro v5 w5 o5 c5 a5; have M5 : Hid _ := Made.app M3.out o5 c5 a5; clear o5 c5 a5))
  go_ret
  refine ⟨_, rfl, ?_⟩
  have := Made.outer M5.out BW.out
  rwa [fx8 n hn] at this

set_option maxRecDepth 100000 in
set_option maxHeartbeats 2000000 in
theorem rPair_any {w : World} {kv : Value} {m : List Int} (hs : Src w kv m) (lv : Int) (cn : Nat) (_hlv : -9223372036854775808 ≤ lv ∧ lv ≤ 9223372036854775807) (h1 : cn < 18446744073709551616) (ad y x : List Int) (ha : ad.length = 33) (hy : y.length = 32) (hx : x.length = 32) (hl : m.length + 78 ≤ 140737488355328) :
    Calls Tryd.prog 14 #[.agg (kidC lv cn kv ad y).toArray, .agg (bs x).toArray] w fun e w' => ∃ v, e = .returned v ∧ Made w w' v (pairT lv cn m x y) := by
  obtain ⟨W, hW⟩ : ∃ W, W = (w.alloc (.cells (kidC lv cn kv ad y).toArray 29)).alloc (.cells (bs x).toArray 25) := ⟨_, rfl⟩
  have bb : Below w.heap.size w W := by rw [hW]; exact ((Below.refl _ _).alloc (Nat.le_refl _) _).alloc (by simp) _
  have BW : Hid _ := bb
  have BL : Hid (KB W w.heap.size lv cn kv ad y x) := by
    rw [hW]
    refine ⟨(Blk.made _ _ _).alloc _, ?_⟩
    have := Blk.made (w.alloc (.cells (kidC lv cn kv ad y).toArray 29)) (bs x) 25
    simpa using this
  have HS : Hid _ := hs.kept0 bb
  obtain ⟨a0, c0, hs2⟩ := hs.form
  have HF : Hid _ := hs2
  clear hs bb hs2
  go_enter Tryd.func14, Tryd.ntmps14
  go_upto_region 1 with fail
  rw [← hW]
  clear hW
  go_upto_region 2 with (first
    | refine wpList_load_mid rfl 25 (.tmp 7) rfl w.heap.size 36 rfl (bs y) _ (Blk.range (KB.k BL.out) (kidC_label lv cn kv ad y ha)) Tryd.underlying25 rfl (Tryd.sumSz y hy) ?_
    | (refine wpList_store_part rfl 25 (.tmp 5) (.tmp 8) rfl W.heap.size 0 (bs y) rfl rfl (t := 25) ⟨heap_alloc_new _ _⟩ (by rw [bs_len, hy]; simp) (Tryd.sumSz y hy) (bs_one y) ?_; intro w8 hw8 hc8; rw [splice_all _ _ (by rw [bs_len, hy]; simp)] at hw8; have c8 : Chg (fun _ => False) W w8 := ((Chg.refl (fun _ => False) W).alloc _).trans hc8 (fun i e => .inr (by omega)); have b8 : Below W.heap.size W w8 := c8.below (Nat.le_refl _) (fun _ h => h.elim); have KB8 : Hid _ := KB.keep BL.out b8; have N8 : Hid _ := hw8; have BW8 : Hid (Below w.heap.size w w8) := BW.out.trans (b8.mono BW.out.size); have HS8 : Hid _ := Src.kept0 HS.out b8; clear hw8 hc8 c8 b8))
  have hwr := wrap8 lv
  have k0 : w8.cell? ⟨w.heap.size, 0, none⟩ = some (.int .i64 lv) := Blk.cell (KB.k KB8.out) 0
  have k2 : ∀ o, (w8.alloc o).cell? ⟨w.heap.size, 2, none⟩ = some (.int .u64 cn) := fun o => Blk.cell (Blk.alloc (KB.k KB8.out) o) 2
  obtain ⟨W1, hW1⟩ : ∃ W1, W1 = w8.alloc (.cells (bs [19, lv % 256]).toArray 5) := ⟨_, rfl⟩
  have M1 : Hid (Made w8 W1 (.slice (some ⟨w8.heap.size, 0, none⟩) 2 2) [19, lv % 256]) := by rw [hW1]; exact made_new (Below.refl _ _) [19, lv % 256] (by simp)
  go_upto_region 3 with fail
  have hW1' : w8.alloc (.cells #[.int .u8 19, .int .u8 (lv % 256)] 5) = W1 := hW1.symm
  first | rw [hW1'] | (rw [hwr, hW1'])
  have k2' : W1.cell? ⟨w.heap.size, 2, none⟩ = some (.int .u64 cn) := by rw [hW1]; exact k2 _
  clear hW1 hW1' k0 k2 hwr
  go_upto_region 4 with (first
    | (go_at_call 25; refine Calls.mono (fixed_any (w := W1) cn 8 h1 (by omega)) ?_; rintro e w2 ⟨v2, rfl, m2⟩; have M2 : Hid _ := m2; have N2 : Hid _ := Made.then M1.out m2.2.1; clear m2)
    | (refine wpList_app rfl (.tmp 13) (.tmp 16) rfl (l := [19, lv % 256]) (m := fx cn 8) rfl rfl N2.out.1 (Own.src M2.out.1) (by simp [fx_len]) ?_; intro v3 w3 o3 c3 a3; have M3 : Hid _ := Made.app N2.out o3 c3 a3; clear o3 c3 a3))
  have k3 : w3.cell? ⟨w.heap.size, 1, none⟩ = some (.slice a0 m.length c0) := by rw [← HF.out]; exact Blk.cell (Blk.keep0 (KB.k KB8.out) M3.out.2.1) 1
  clear k2'
  go_upto_region 5 with (first
    | (go_at_call 25; refine Calls.mono (fixed_any (w := w3) m.length 4 (by omega) (by omega)) ?_; rintro e w4 ⟨v4, rfl, m4⟩; have M4 : Hid _ := m4; have N4 : Hid _ := Made.then M3.out m4.2.1; clear m4)
    | (refine wpList_app rfl (.tmp 18) (.tmp 23) rfl (l := [19, lv % 256] ++ fx cn 8) (m := fx m.length 4) rfl rfl N4.out.1 (Own.src M4.out.1) (by simp [fx_len]) ?_; intro v5 w5 o5 c5 a5; have M5 : Hid _ := Made.app N4.out o5 c5 a5; clear o5 c5 a5))
  have k5 : w5.cell? ⟨w.heap.size, 1, none⟩ = some (.slice a0 m.length c0) := by rw [← HF.out]; exact Blk.cell (Blk.keep0 (KB.k KB8.out) M5.out.2.1) 1
  clear k3
  go_wp2_with (first
    | (refine wpList_app rfl (.tmp 25) (.tmp 27) rfl (l := [19, lv % 256] ++ fx cn 8 ++ fx m.length 4) (m := m) rfl rfl M5.out.1 (by have := Src.kept0 HS8.out M5.out.2.1; rw [HF.out] at this; exact this) (by simp [fx_len]; omega) ?_; intro v6 w6 o6 c6 a6; have M6 : Hid _ := Made.app M5.out o6 c6 a6; clear o6 c6 a6)
    | (refine wpList_app rfl (.tmp 29) (.tmp 30) rfl (l := [19, lv % 256] ++ fx cn 8 ++ fx m.length 4 ++ m) (m := x) rfl rfl M6.out.1 (src_box hx (Blk.keep0 (KB.s KB8.out) M6.out.2.1)) (by simp [fx_len]; omega) ?_; intro v7 w7 o7 c7 a7; have M7 : Hid _ := Made.app M6.out o7 c7 a7; clear o7 c7 a7)
    | (refine wpList_app rfl (.tmp 32) (.tmp 33) rfl (l := [19, lv % 256] ++ fx cn 8 ++ fx m.length 4 ++ m ++ x) (m := y) rfl rfl M7.out.1 (src_box hy (Blk.keep0 N8.out M7.out.2.1)) (by simp [fx_len]; omega) ?_; intro v9 w9 o9 c9 a9; have M9 : Hid _ := Made.app M7.out o9 c9 a9; clear o9 c9 a9))
  go_ret
  refine ⟨_, rfl, ?_⟩
  have := Made.outer M9.out BW8.out
  rwa [fx8 cn h1, fx4] at this
end Go.Proofs.YtoilnommhkmioaaDoor
