/-
  The walk of DigestHexes.
-/
import Derived.Test.YtfnfmgnebhfacaaBack
import Derived.Test.YtfnfmgnebhfacaaRefHex
import Derived.Test.YtfnfmgnebhfacaaRefParse
namespace Go.Proofs.Ytfnfmgnebhfacaa
open Go.RowKit

theorem range_of {W w' : World} {b : Nat} {cs : List Value} {t : TypeId} (h : Below W.heap.size W w') (g : W.heap[b]? = some (.cells cs.toArray t (0, 0))) : w'.rangeAt b 0 cs := fun j v hv => by
  have hlt : b < W.heap.size := by
    rcases Nat.lt_or_ge b W.heap.size with h | h
    · exact h
    · rw [Array.getElem?_eq_none h] at g; cases g
  rw [h.cell (p := ⟨b, 0 + j, none⟩) hlt, cell_of_row _ _ _ _ _ _ g]
  simpa using hv
theorem parsed_arr {s : ByteArray} {cs : List Value} {x : Int} (h : parsed s cs x) : ∃ y, cs = arrOf y := by
  rcases h with ⟨_, h, _⟩ | ⟨_, h, _⟩
  · exact ⟨_, h⟩
  · exact ⟨_, h⟩
theorem len22 (z : Nat → Int) : (Try.prog.info? 22).map (·.size) = some (arrOf z).length := by rw [arrOf_len]; kernel_rfl
theorem len25 (z : Nat → Int) : (Try.prog.info? 25).map (·.size) = some (arrOf z).length := by rw [arrOf_len]; kernel_rfl

set_option maxHeartbeats 1000000 in
theorem hexes_any (z : Nat → Int) (hb : ∀ i, i < 32 → 0 ≤ z i ∧ z i ≤ 255) (s : ByteArray) (w : World) :
    Calls Try.prog 5 #[.agg (arrOf z).toArray, .string s] w fun e w' => e = .returned (.bool true) ∧ Below w.heap.size w w' := by
  have HH : Hid _ := hexOf z hb
  have HR : Hid _ := refHex_any z hb
  clear hb
  go_enter Try.func5, Try.ntmps5
  go_wp2_with fail
  refine (parse_any _ _).mono ?_
  rintro e w1 ⟨cs, x, hp1, rfl, b1⟩
  obtain ⟨y, rfl⟩ := parsed_arr hp1
  have A1 := at_box b1
  clear b1
  go_wp2_with (first | (refine wpList_store_row rfl 25 _ _ rfl w1.heap.size (arrOf y).toArray rfl rfl 25 (arrOf (fun _ => 0)).toArray (heap_alloc_new _ _) (info25 _) (arr_sizes _ _) (arrOf_one _) ?_; rw [World.setRow_alloc_new]))
  refine (refParse_any _ _).mono ?_
  rintro e w2 ⟨cs2, x2, hp2, rfl, b2⟩
  obtain ⟨rfl, rfl⟩ := parsed_unique hp1 hp2
  have A2 := at_on (at_alloc A1 _) b2
  have g2 := at_box b2
  clear b2 A1 hp1 hp2
  go_wp2_with (first | (refine wpList_store_row rfl 25 _ _ rfl w2.heap.size (arrOf y).toArray rfl rfl 25 (arrOf (fun _ => 0)).toArray (heap_alloc_new _ _) (info25 _) (arr_sizes _ _) (arrOf_one _) ?_; rw [World.setRow_alloc_new]))
  have A3 := at_alloc A2 (.cells (arrOf y).toArray 25)
  have g3 : (w2.alloc (.cells (arrOf y).toArray 25)).heap[w1.heap.size]? = some (.cells (arrOf y).toArray 25 (0, 0)) := (Below.heap_alloc _ _ _ g2.2.1).trans g2.1
  have g4 : (w2.alloc (.cells (arrOf y).toArray 25)).heap[w2.heap.size]? = some (.cells (arrOf y).toArray 25 (0, 0)) := heap_alloc_new _ _
  clear A2 g2
  generalize w2.alloc (.cells (arrOf y).toArray 25) = W at A3 g3 g4 ⊢
  have G0 : Hid _ := A3.1
  have G1 : Hid _ := g3
  have G2 : Hid _ := g4
  have GB : Hid _ := A3.2.2
  clear A3 g3 g4
  refine wp_region_held_drew (S := fun w' => Below W.heap.size W w') (by kernel_rfl) ((Below.refl _ _).drew) (fun hH => ?_)
  refine wpAnyH_take (i := 0) (v := .agg (arrOf z).toArray) rfl (by kernel_rfl) (by kernel_rfl) (by kernel_rfl) (fun _ _ _ h => h) (yieldsIf_load_mid (by rfl) _ _ rfl w.heap.size 0 rfl (arrOf z) _ (fun w h => range_of h G0.out) Try.underlying22 rfl (len22 _)) hH ?_
  refine wpAnyH_take (i := 2) (v := .agg (arrOf z).toArray) rfl (by kernel_rfl) (by kernel_rfl) (by kernel_rfl) (fun _ _ _ h => h) (yieldsIf_load_mid (by rfl) _ _ rfl w.heap.size 0 rfl (arrOf z) _ (fun w h => range_of h G0.out) Try.underlying22 rfl (len22 _)) hH ?_
  refine wpAnyH_ready (rs := [1]) (by kernel_rfl) (by simp) ?_
  refine AllReadyH.cons rfl (fun K hK => ?_) AllReadyH.nil
  go_simp
  refine (HH.out _).mono ?_
  rintro e w3 ⟨rfl, b3⟩
  refine hK.out _ _ (hH.trans (b3.mono hH.size)) (fun hH1 => ?_)
  clear hK K hH b3
  refine wpAnyH_ready (rs := [3]) (by kernel_rfl) (by simp) ?_
  refine AllReadyH.cons rfl (fun K hK => ?_) AllReadyH.nil
  go_simp
  refine (HR.out _).mono ?_
  rintro e w4 ⟨rfl, b4⟩
  refine hK.out _ _ (hH1.trans (b4.mono hH1.size)) (fun hH2 => ?_)
  clear hK K hH1 b4
  refine wpAnyH_ready (rs := [4]) (by kernel_rfl) (by simp) ?_
  refine AllReadyH.cons rfl (fun K hK => ?_) AllReadyH.nil
  go_simp
  refine hK.out _ _ hH2 (fun _ => ?_)
  clear hK K
  refine wpAnyH_ready (rs := [5]) (by kernel_rfl) (by simp) ?_
  refine AllReadyH.cons rfl (fun K hK => ?_) AllReadyH.nil
  go_simp
  refine hK.out _ _ hH2 (fun _ => ?_)
  clear hK K
  refine wpAnyH_take (i := 6) (v := .agg (arrOf y).toArray) rfl (by kernel_rfl) (by kernel_rfl) (by kernel_rfl) (fun _ _ _ h => h) (yieldsIf_load_mid (by rfl) _ _ rfl w1.heap.size 0 rfl (arrOf y) _ (fun w h => range_of h G1.out) Try.underlying25 rfl (len25 _)) hH2 ?_
  refine wpAnyH_take (i := 7) (v := .agg (arrOf y).toArray) rfl (by kernel_rfl) (by kernel_rfl) (by kernel_rfl) (fun _ _ _ h => h) (yieldsIf_load_mid (by rfl) _ _ rfl w2.heap.size 0 rfl (arrOf y) _ (fun w h => range_of h G2.out) Try.underlying25 rfl (len25 _)) hH2 ?_
  have hq := fun w => run_equalIn_arr 9998 25 Try.underlying25 y w
  refine wpAnyH_ready (rs := [8]) (by kernel_rfl) (by simp) ?_
  refine AllReadyH.cons rfl (fun K hK => ?_) AllReadyH.nil
  go_simp
  refine hK.out _ _ hH2 (fun _ => ?_)
  clear hK K
  refine wpAnyH_ready (rs := [9]) (by kernel_rfl) (by simp) ?_
  refine AllReadyH.cons rfl (fun K hK => ?_) AllReadyH.nil
  go_simp
  refine hK.out _ _ hH2 (fun _ => ?_)
  clear hK K
  refine wpAnyH_ready (rs := [10]) (by kernel_rfl) (by simp) ?_
  refine AllReadyH.cons rfl (fun K hK => ?_) AllReadyH.nil
  go_simp
  refine hK.out _ _ hH2 (fun _ => ?_)
  clear hK K
  refine wpAnyH_take (i := 11) (v := .int .i64 x) rfl (by kernel_rfl) (by kernel_rfl) (by kernel_rfl) (fun _ _ _ h => h) (Or.inl ⟨by rfl, fun w _ => by rfl⟩) hH2 ?_
  refine wpAnyH_take (i := 12) (v := .int .i64 x) rfl (by kernel_rfl) (by kernel_rfl) (by kernel_rfl) (fun _ _ _ h => h) (Or.inl ⟨by rfl, fun w _ => by rfl⟩) hH2 ?_
  refine wpAnyH_ready (rs := [13]) (by kernel_rfl) (by simp) ?_
  refine AllReadyH.cons rfl (fun K hK => ?_) AllReadyH.nil
  go_simp
  refine hK.out _ _ hH2 (fun _ => ?_)
  clear hK K
  refine wpAnyH_ready (rs := [14]) (by kernel_rfl) (by simp) ?_
  refine AllReadyH.cons rfl (fun K hK => ?_) AllReadyH.nil
  go_simp
  refine hK.out _ _ hH2 (fun _ => ?_)
  clear hK K
  refine wpAnyH_ready (rs := [15]) (by kernel_rfl) (by simp) ?_
  refine AllReadyH.cons rfl (fun K hK => ?_) AllReadyH.nil
  go_simp
  refine hK.out _ _ hH2 (fun _ => ?_)
  clear hK K
  refine wpAnyH_done (by kernel_rfl) ?_ _
  go_wp2
  go_ret
  exact ⟨rfl, GB.out.trans (hH2.mono GB.out.size)⟩
end Go.Proofs.Ytfnfmgnebhfacaa
