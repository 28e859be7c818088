/-
  The texts of package node: PairText.
-/
import Derived.Test.YtoilnommhkmioaaDoorNdB
namespace Go.Proofs.YtoilnommhkmioaaDoor
open Go.RowKit

theorem wrap8 (x : Int) : IntKind.u8.wrap x = x % 256 := by
  unfold IntKind.wrap
  simp [IntKind.signed, IntKind.bits]

/-- A kid's cells. -/
def kidC (lv cn : Int) (kv : Value) (ad y : List Int) : List Value := .int .i64 lv :: kv :: .int .u64 cn :: bs (ad ++ y)
theorem kidC_len (lv cn : Int) (kv : Value) (ad y : List Int) (ha : ad.length = 33) (hy : y.length = 32) : (kidC lv cn kv ad y).length = 68 := by simp [kidC, bs, ha, hy]
theorem kidC_label (lv cn : Int) (kv : Value) (ad y : List Int) (ha : ad.length = 33) : ((kidC lv cn kv ad y).drop 36).take (bs y).length = bs y := by
  have e : (kidC lv cn kv ad y).drop 36 = bs y := by
    unfold kidC
    rw [show 36 = 33 + 1 + 1 + 1 by rfl, List.drop_succ_cons, List.drop_succ_cons, List.drop_succ_cons, bs_app, ← ha, ← bs_len ad, List.drop_left]
  rw [e, List.take_length]

/-- A kid and a sum in two blocks. -/
structure KB (w : World) (g : Nat) (lv cn : Int) (kv : Value) (ad y x : List Int) : Prop where
  k : Blk w g (kidC lv cn kv ad y) 29
  s : Blk w (g + 1) (bs x) 25
theorem KB.keep {w w' : World} {g : Nat} {lv cn : Int} {kv : Value} {ad y x : List Int} (h : KB w g lv cn kv ad y x) (b : Below w.heap.size w w') : KB w' g lv cn kv ad y x := ⟨h.k.keep0 b, h.s.keep0 b⟩
theorem KB.drew {w : World} {g : Nat} {lv cn : Int} {kv : Value} {ad y x : List Int} (h : KB w g lv cn kv ad y x) : KB w.drew g lv cn kv ad y x := ⟨h.k.drew, h.s.drew⟩

set_option maxRecDepth 100000 in
set_option maxHeartbeats 2000000 in
theorem pairText_any {w : World} (hT : Tags w) {kv : Value} {m : List Int} (hs : Src w kv m) (lv cn : Int) (_hlv : -9223372036854775808 ≤ lv ∧ lv ≤ 9223372036854775807) (h0 : 0 ≤ cn) (h1 : cn < 18446744073709551616) (ad y x : List Int) (ha : ad.length = 33) (hy : y.length = 32) (hx : x.length = 32) (hl : m.length + 78 ≤ 140737488355328) :
    Calls Tryd.prog 7 #[.agg (kidC lv cn kv ad y).toArray, .agg (bs x).toArray] w fun e w' => ∃ v, e = .returned v ∧ Made w w' v (pairT lv cn m x y) := by
  obtain ⟨W, hW⟩ : ∃ W, W = (w.alloc (.cells (kidC lv cn kv ad y).toArray 29)).alloc (.cells (bs x).toArray 25) := ⟨_, rfl⟩
  have bb : Below w.heap.size w W := by rw [hW]; exact ((Below.refl _ _).alloc (Nat.le_refl _) _).alloc (by simp) _
  have BW : Hid _ := bb
  have BL : Hid (KB W w.heap.size lv cn kv ad y x) := by
    rw [hW]
    refine ⟨(Blk.made _ _ _).alloc _, ?_⟩
    have := Blk.made (w.alloc (.cells (kidC lv cn kv ad y).toArray 29)) (bs x) 25
    simpa using this
  have HT : Hid (Tags W) := hT.keep bb
  have HS : Hid _ := hs.kept0 bb
  clear hT hs bb
  go_enter Tryd.func7, Tryd.ntmps7
  go_upto_region 1 with fail
  rw [← hW]
  clear hW
  go_wp2_with (go_at_call 18; refine Calls.mono (begun_any HT.out 2 19 rfl (by decide)) ?_; rintro e w1 ⟨p, rfl, p1⟩; have T1 : Hid _ := TX.drew p1; have B1 : Hid _ := KB.drew (KB.keep BL.out (TX.below p1)); clear p1)
  go_upto_region 2 with fail
  refine wp_region_held_drew (S := fun w' => KB w' w.heap.size lv cn kv ad y x) (by kernel_rfl) B1.out (fun hH => ?_)
  refine wpAnyH_take (i := 0) (v := .pointer (some ⟨p, 0, none⟩)) rfl (by kernel_rfl) (by kernel_rfl) (by kernel_rfl) (fun _ _ _ h => h) (Or.inl ⟨by rfl, fun w' _ => by go_simp⟩) hH ?_
  refine wpAnyH_take (i := 1) (v := .pointer (some ⟨p, 0, none⟩)) rfl (by kernel_rfl) (by kernel_rfl) (by kernel_rfl) (fun _ _ _ h => h) (Or.inl ⟨by rfl, fun w' _ => by go_simp⟩) hH ?_
  refine wpAnyH_take (i := 2) (v := .pointer (some ⟨p, 0, none⟩)) rfl (by kernel_rfl) (by kernel_rfl) (by kernel_rfl) (fun _ _ _ h => h) (Or.inl ⟨by rfl, fun w' _ => by go_simp⟩) hH ?_
  refine wpAnyH_take (i := 3) (v := .pointer (some ⟨w.heap.size, 0, none⟩)) rfl (by kernel_rfl) (by kernel_rfl) (by kernel_rfl) (fun _ _ _ h => h) (Or.inl ⟨by rfl, fun w' _ => by go_simp⟩) hH ?_
  refine wpAnyH_take (i := 4) (v := .int .i64 lv) rfl (by kernel_rfl) (by kernel_rfl) (by kernel_rfl) (fun _ _ _ h => h) (Or.inl ⟨by rfl, fun w' hw' => by have q1 : w'.cell? ⟨w.heap.size, 0, none⟩ = some (.int .i64 lv) := Blk.cell hw'.k 0; go_simp⟩) hH ?_
  refine wpAnyH_take (i := 5) (v := .int .u8 (lv % 256)) rfl (by kernel_rfl) (by kernel_rfl) (by kernel_rfl) (fun _ _ _ h => h) (Or.inl ⟨by rfl, fun w' _ => by go_simp; exact wrap8 lv⟩) hH ?_
  refine wpAnyH_ready (rs := [6]) (by kernel_rfl) (by simp) ?_
  refine AllReadyH.cons rfl (fun K hK => ?_) AllReadyH.nil
  go_simp
  refine Calls.mono (TX.go T1.out (fun cs1 v1 s1 => wByte_any s1 (lv % 256) (by simp))) ?_
  rintro e w2 ⟨rfl, p2⟩
  have b2 := BL.out.keep (TX.below p2)
  refine hK.out _ _ b2 (fun _ => ?_)
  clear hK K hH
  refine wpAnyH_done (by kernel_rfl) ?_ _
  have T2 : Hid _ := TX.drew p2
  have B2 : Hid _ := KB.drew b2
  clear p2 b2
  go_upto_region 3 with fail
  refine wp_region_held_drew (S := fun w' => KB w' w.heap.size lv cn kv ad y x) (by kernel_rfl) B2.out (fun hH => ?_)
  refine wpAnyH_take (i := 0) (v := .pointer (some ⟨p, 0, none⟩)) rfl (by kernel_rfl) (by kernel_rfl) (by kernel_rfl) (fun _ _ _ h => h) (Or.inl ⟨by rfl, fun w' _ => by go_simp⟩) hH ?_
  refine wpAnyH_take (i := 1) (v := .pointer (some ⟨p, 0, none⟩)) rfl (by kernel_rfl) (by kernel_rfl) (by kernel_rfl) (fun _ _ _ h => h) (Or.inl ⟨by rfl, fun w' _ => by go_simp⟩) hH ?_
  refine wpAnyH_take (i := 2) (v := .pointer (some ⟨p, 0, none⟩)) rfl (by kernel_rfl) (by kernel_rfl) (by kernel_rfl) (fun _ _ _ h => h) (Or.inl ⟨by rfl, fun w' _ => by go_simp⟩) hH ?_
  refine wpAnyH_take (i := 3) (v := .pointer (some ⟨w.heap.size, 2, none⟩)) rfl (by kernel_rfl) (by kernel_rfl) (by kernel_rfl) (fun _ _ _ h => h) (Or.inl ⟨by rfl, fun w' _ => by go_simp⟩) hH ?_
  refine wpAnyH_take (i := 4) (v := .int .u64 cn) rfl (by kernel_rfl) (by kernel_rfl) (by kernel_rfl) (fun _ _ _ h => h) (Or.inl ⟨by rfl, fun w' hw' => by have q1 : w'.cell? ⟨w.heap.size, 2, none⟩ = some (.int .u64 cn) := Blk.cell hw'.k 2; go_simp⟩) hH ?_
  refine wpAnyH_ready (rs := [5]) (by kernel_rfl) (by simp) ?_
  refine AllReadyH.cons rfl (fun K hK => ?_) AllReadyH.nil
  go_simp
  refine Calls.mono (TX.go T2.out (fun cs1 v1 s1 => wLong_any s1 cn h0 h1 (by simp))) ?_
  rintro e w3 ⟨rfl, p3⟩
  have b3 := BL.out.keep (TX.below p3)
  refine hK.out _ _ b3 (fun _ => ?_)
  clear hK K hH
  refine wpAnyH_done (by kernel_rfl) ?_ _
  have T3 : Hid _ := p3
  have B3 : Hid _ := b3
  clear p3 b3
  have ck : w3.cell? ⟨w.heap.size, 1, none⟩ = some kv := Blk.cell (KB.k B3.out) 1
  obtain ⟨a0, c0, hs2⟩ := Src.form HS.out
  rw [hs2] at ck
  go_wp2_with fail
  rw [← hs2]
  refine Calls.mono (key_any T3.out HS.out (by simp [long, word]; omega)) ?_
  rintro e w4 ⟨rfl, p4⟩
  have T4 : Hid _ := TX.drew p4
  have B4 : Hid _ := KB.drew (KB.keep BL.out (TX.below p4))
  clear p4 ck hs2
  go_upto_region 5 with fail
  refine wp_region_held_drew (S := fun w' => KB w' w.heap.size lv cn kv ad y x) (by kernel_rfl) B4.out (fun hH => ?_)
  refine wpAnyH_take (i := 0) (v := .pointer (some ⟨p, 0, none⟩)) rfl (by kernel_rfl) (by kernel_rfl) (by kernel_rfl) (fun _ _ _ h => h) (Or.inl ⟨by rfl, fun w' _ => by go_simp⟩) hH ?_
  refine wpAnyH_take (i := 1) (v := .pointer (some ⟨p, 0, none⟩)) rfl (by kernel_rfl) (by kernel_rfl) (by kernel_rfl) (fun _ _ _ h => h) (Or.inl ⟨by rfl, fun w' _ => by go_simp⟩) hH ?_
  refine wpAnyH_take (i := 2) (v := .pointer (some ⟨p, 0, none⟩)) rfl (by kernel_rfl) (by kernel_rfl) (by kernel_rfl) (fun _ _ _ h => h) (Or.inl ⟨by rfl, fun w' _ => by go_simp⟩) hH ?_
  refine wpAnyH_take (i := 3) (v := .agg (bs x).toArray) rfl (by kernel_rfl) (by kernel_rfl) (by kernel_rfl) (fun _ _ _ h => h) (yieldsIf_load_mid (by rfl) _ _ rfl (w.heap.size + 1) 0 rfl _ _ (fun w' h => Blk.range h.s (by simp)) Tryd.underlying25 rfl (Tryd.sumSz x hx)) hH ?_
  refine wpAnyH_ready (rs := [4]) (by kernel_rfl) (by simp) ?_
  refine AllReadyH.cons rfl (fun K hK => ?_) AllReadyH.nil
  go_simp
  refine Calls.mono (TX.go T4.out (fun cs1 v1 s1 => wSum_any s1 x hx (by simp [long, word]; omega))) ?_
  rintro e w5 ⟨rfl, p5⟩
  have b5 := BL.out.keep (TX.below p5)
  refine hK.out _ _ b5 (fun _ => ?_)
  clear hK K hH
  refine wpAnyH_done (by kernel_rfl) ?_ _
  have T5 : Hid _ := TX.drew p5
  have B5 : Hid _ := KB.drew b5
  clear p5 b5
  go_upto_region 6 with fail
  refine wp_region_held_drew (S := fun w' => KB w' w.heap.size lv cn kv ad y x) (by kernel_rfl) B5.out (fun hH => ?_)
  refine wpAnyH_take (i := 0) (v := .pointer (some ⟨p, 0, none⟩)) rfl (by kernel_rfl) (by kernel_rfl) (by kernel_rfl) (fun _ _ _ h => h) (Or.inl ⟨by rfl, fun w' _ => by go_simp⟩) hH ?_
  refine wpAnyH_take (i := 1) (v := .pointer (some ⟨p, 0, none⟩)) rfl (by kernel_rfl) (by kernel_rfl) (by kernel_rfl) (fun _ _ _ h => h) (Or.inl ⟨by rfl, fun w' _ => by go_simp⟩) hH ?_
  refine wpAnyH_take (i := 2) (v := .pointer (some ⟨p, 0, none⟩)) rfl (by kernel_rfl) (by kernel_rfl) (by kernel_rfl) (fun _ _ _ h => h) (Or.inl ⟨by rfl, fun w' _ => by go_simp⟩) hH ?_
  refine wpAnyH_take (i := 3) (v := .pointer (some ⟨w.heap.size, 36, none⟩)) rfl (by kernel_rfl) (by kernel_rfl) (by kernel_rfl) (fun _ _ _ h => h) (Or.inl ⟨by rfl, fun w' _ => by go_simp⟩) hH ?_
  refine wpAnyH_take (i := 4) (v := .agg (bs y).toArray) rfl (by kernel_rfl) (by kernel_rfl) (by kernel_rfl) (fun _ _ _ h => h) (yieldsIf_load_mid (by rfl) _ _ rfl w.heap.size 36 rfl _ _ (fun w' h => Blk.range h.k (kidC_label lv cn kv ad y ha)) Tryd.underlying25 rfl (Tryd.sumSz y hy)) hH ?_
  refine wpAnyH_ready (rs := [5]) (by kernel_rfl) (by simp) ?_
  refine AllReadyH.cons rfl (fun K hK => ?_) AllReadyH.nil
  go_simp
  refine Calls.mono (TX.go T5.out (fun cs1 v1 s1 => wSum_any s1 y hy (by simp [long, word, hx]; omega))) ?_
  rintro e w6 ⟨rfl, p6⟩
  have b6 := BL.out.keep (TX.below p6)
  refine hK.out _ _ b6 (fun _ => ?_)
  clear hK K hH
  refine wpAnyH_done (by kernel_rfl) ?_ _
  have T6 : Hid _ := p6
  have B6 : Hid _ := b6
  clear p6 b6
  go_wp2_with fail
  refine Calls.mono (TX.bytes T6.out (by simp [long, word, hx, hy]; omega)) ?_
  rintro e w7 ⟨u, rfl, mm⟩
  have MM : Hid _ := Made.outer mm BW.out
  clear mm
  go_wp2_with fail
  go_ret
  exact ⟨_, rfl, MM.out⟩
end Go.Proofs.YtoilnommhkmioaaDoor
