/-
  The texts of package node: LeafText, HeadText, RootText, PairText.
-/
import Derived.Test.YtoilnommhkmioaaDoorNdA
namespace Go.Proofs.YtoilnommhkmioaaDoor
open Go.RowKit

def leafT (m z : List Int) : List Int := [17] ++ word ((m.length : Int) % 4294967296) ++ m ++ z
def headT : List Int := [18]
def rootT (n : Int) (z : List Int) : List Int := [20] ++ long n ++ z
def pairT (lv cn : Int) (m x y : List Int) : List Int := [19] ++ [lv % 256] ++ long cn ++ word ((m.length : Int) % 4294967296) ++ m ++ x ++ y

theorem Made.outer {w0 w w1 : World} {v : Value} {l : List Int} (h : Made w w1 v l) (b0 : Below w0.heap.size w0 w) : Made w0 w1 v l := by
  have := b0.size
  exact ⟨h.1, b0.trans (h.2.1.mono this), fun k hk => by have := h.2.2 k hk; omega⟩
theorem Tryd.sumSz (z : List Int) (h : z.length = 32) : (Tryd.prog.info? 25).map (·.size) = some (bs z).length := by rw [Tryd.sz25, bs_len, h]

set_option maxRecDepth 100000 in
set_option maxHeartbeats 1000000 in
theorem leafText_any {w : World} (hT : Tags w) {s : Value} {m : List Int} (hs : Src w s m) (z : List Int) (hz : z.length = 32) (hl : m.length + 37 ≤ 140737488355328) :
    Calls Tryd.prog 5 #[s, .agg (bs z).toArray] w fun e w' => ∃ v, e = .returned v ∧ Made w w' v (leafT m z) := by
  obtain ⟨a0, c0, hs2⟩ := hs.form
  subst hs2
  obtain ⟨W, hW⟩ : ∃ W, W = w.alloc (.cells (bs z).toArray 25) := ⟨_, rfl⟩
  have bb : Below w.heap.size w W := by rw [hW]; exact (Below.refl _ _).alloc (Nat.le_refl _) _
  have BW : Hid _ := bb
  have BL : Hid (Blk W w.heap.size (bs z) 25) := by rw [hW]; exact Blk.made _ _ _
  have HT : Hid (Tags W) := hT.keep bb
  have HS : Hid _ := hs.kept0 bb
  clear hT hs bb
  go_enter Tryd.func5, Tryd.ntmps5
  go_upto_region 1 with fail
  rw [← hW]
  clear hW
  go_wp2_with (go_at_call 18; refine Calls.mono (begun_any HT.out 0 17 rfl (by decide)) ?_; rintro e w1 ⟨p, rfl, p1⟩; have T1 : Hid _ := p1; clear p1)
  refine Calls.mono (key_any T1.out HS.out (by simp; omega)) ?_
  rintro e w2 ⟨rfl, p2⟩
  have T2 : Hid _ := TX.drew p2
  have BD : Hid _ := (Blk.keep0 BL.out (TX.below p2)).drew
  clear p2
  go_upto_region 3 with fail
  refine wp_region_held_drew (S := fun w' => Blk w' w.heap.size (bs z) 25) (by kernel_rfl) BD.out (fun hH => ?_)
  refine wpAnyH_take (i := 0) (v := .pointer (some ⟨p, 0, none⟩)) rfl (by kernel_rfl) (by kernel_rfl) (by kernel_rfl) (fun _ _ _ h => h) (Or.inl ⟨by rfl, fun w' _ => by go_simp⟩) hH ?_
  refine wpAnyH_take (i := 1) (v := .pointer (some ⟨p, 0, none⟩)) rfl (by kernel_rfl) (by kernel_rfl) (by kernel_rfl) (fun _ _ _ h => h) (Or.inl ⟨by rfl, fun w' _ => by go_simp⟩) hH ?_
  refine wpAnyH_take (i := 2) (v := .pointer (some ⟨p, 0, none⟩)) rfl (by kernel_rfl) (by kernel_rfl) (by kernel_rfl) (fun _ _ _ h => h) (Or.inl ⟨by rfl, fun w' _ => by go_simp⟩) hH ?_
  refine wpAnyH_take (i := 3) (v := .agg (bs z).toArray) rfl (by kernel_rfl) (by kernel_rfl) (by kernel_rfl) (fun _ _ _ h => h) (yieldsIf_load_mid (by rfl) _ _ rfl w.heap.size 0 rfl _ _ (fun w' h => Blk.range h (by simp)) Tryd.underlying25 rfl (Tryd.sumSz z hz)) hH ?_
  refine wpAnyH_ready (rs := [4]) (by kernel_rfl) (by simp) ?_
  refine AllReadyH.cons rfl (fun K hK => ?_) AllReadyH.nil
  go_simp
  refine Calls.mono (TX.go T2.out (fun cs1 v1 s1 => wSum_any s1 z hz (by simp [word]; omega))) ?_
  rintro e w3 ⟨rfl, p3⟩
  have b3 := Blk.keep0 BL.out (TX.below p3)
  refine hK.out _ _ b3 (fun _ => ?_)
  clear hK K hH b3
  refine wpAnyH_done (by kernel_rfl) ?_ _
  have T3 : Hid _ := p3
  clear p3
  go_wp2_with fail
  refine Calls.mono (TX.bytes T3.out (by simp [word]; omega)) ?_
  rintro e w4 ⟨u, rfl, mm⟩
  have MM : Hid _ := Made.outer mm BW.out
  clear mm
  go_wp2_with fail
  go_ret
  exact ⟨_, rfl, MM.out⟩

set_option maxRecDepth 100000 in
set_option maxHeartbeats 1000000 in
theorem headText_any {w : World} (hT : Tags w) : Calls Tryd.prog 9 #[] w fun e w' => ∃ v, e = .returned v ∧ Made w w' v headT := by
  have HT : Hid _ := hT
  clear hT
  go_enter Tryd.func9, Tryd.ntmps9
  go_wp2_with (go_at_call 18; refine Calls.mono (begun_any HT.out 1 18 rfl (by decide)) ?_; rintro e w1 ⟨p, rfl, p1⟩; have T1 : Hid _ := p1; clear p1)
  refine Calls.mono (TX.bytes T1.out (by simp)) ?_
  rintro e w4 ⟨u, rfl, mm⟩
  have MM : Hid _ := mm
  clear mm
  go_wp2_with fail
  go_ret
  exact ⟨_, rfl, MM.out⟩

set_option maxRecDepth 100000 in
set_option maxHeartbeats 1000000 in
theorem rootText_any {w : World} (hT : Tags w) (n : Int) (h0 : 0 ≤ n) (h1 : n < 18446744073709551616) (z : List Int) (hz : z.length = 32) :
    Calls Tryd.prog 8 #[.int .u64 n, .agg (bs z).toArray] w fun e w' => ∃ v, e = .returned v ∧ Made w w' v (rootT n z) := by
  obtain ⟨W, hW⟩ : ∃ W, W = w.alloc (.cells (bs z).toArray 25) := ⟨_, rfl⟩
  have bb : Below w.heap.size w W := by rw [hW]; exact (Below.refl _ _).alloc (Nat.le_refl _) _
  have BW : Hid _ := bb
  have BL : Hid (Blk W w.heap.size (bs z) 25) := by rw [hW]; exact Blk.made _ _ _
  have HT : Hid (Tags W) := hT.keep bb
  clear hT bb
  go_enter Tryd.func8, Tryd.ntmps8
  go_upto_region 1 with fail
  rw [← hW]
  clear hW
  go_wp2_with (go_at_call 18; refine Calls.mono (begun_any HT.out 3 20 rfl (by decide)) ?_; rintro e w1 ⟨p, rfl, p1⟩; have T1 : Hid _ := p1; clear p1)
  refine Calls.mono (TX.go T1.out (fun cs1 v1 s1 => wLong_any s1 n h0 h1 (by simp))) ?_
  rintro e w2 ⟨rfl, p2⟩
  have T2 : Hid _ := TX.drew p2
  have BD : Hid _ := (Blk.keep0 BL.out (TX.below p2)).drew
  clear p2
  go_upto_region 3 with fail
  refine wp_region_held_drew (S := fun w' => Blk w' w.heap.size (bs z) 25) (by kernel_rfl) BD.out (fun hH => ?_)
  refine wpAnyH_take (i := 0) (v := .pointer (some ⟨p, 0, none⟩)) rfl (by kernel_rfl) (by kernel_rfl) (by kernel_rfl) (fun _ _ _ h => h) (Or.inl ⟨by rfl, fun w' _ => by go_simp⟩) hH ?_
  refine wpAnyH_take (i := 1) (v := .pointer (some ⟨p, 0, none⟩)) rfl (by kernel_rfl) (by kernel_rfl) (by kernel_rfl) (fun _ _ _ h => h) (Or.inl ⟨by rfl, fun w' _ => by go_simp⟩) hH ?_
  refine wpAnyH_take (i := 2) (v := .pointer (some ⟨p, 0, none⟩)) rfl (by kernel_rfl) (by kernel_rfl) (by kernel_rfl) (fun _ _ _ h => h) (Or.inl ⟨by rfl, fun w' _ => by go_simp⟩) hH ?_
  refine wpAnyH_take (i := 3) (v := .agg (bs z).toArray) rfl (by kernel_rfl) (by kernel_rfl) (by kernel_rfl) (fun _ _ _ h => h) (yieldsIf_load_mid (by rfl) _ _ rfl w.heap.size 0 rfl _ _ (fun w' h => Blk.range h (by simp)) Tryd.underlying25 rfl (Tryd.sumSz z hz)) hH ?_
  refine wpAnyH_ready (rs := [4]) (by kernel_rfl) (by simp) ?_
  refine AllReadyH.cons rfl (fun K hK => ?_) AllReadyH.nil
  go_simp
  refine Calls.mono (TX.go T2.out (fun cs1 v1 s1 => wSum_any s1 z hz (by simp [long, word]))) ?_
  rintro e w3 ⟨rfl, p3⟩
  have b3 := Blk.keep0 BL.out (TX.below p3)
  refine hK.out _ _ b3 (fun _ => ?_)
  clear hK K hH b3
  refine wpAnyH_done (by kernel_rfl) ?_ _
  have T3 : Hid _ := p3
  clear p3
  go_wp2_with fail
  refine Calls.mono (TX.bytes T3.out (by simp [long, word]; omega)) ?_
  rintro e w4 ⟨u, rfl, mm⟩
  have MM : Hid _ := Made.outer mm BW.out
  clear mm
  go_wp2_with fail
  go_ret
  exact ⟨_, rfl, MM.out⟩
end Go.Proofs.YtoilnommhkmioaaDoor
