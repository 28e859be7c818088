/-
  The walks of the reference's sum, join and addr.
-/
import Derived.Test.YtfkjgfelgiogeaaInv
import Derived.Deep.Cut
namespace Go.Proofs.Ytfkjgfelgiogeaa
open Go.RowKit

set_option maxRecDepth 100000 in
set_option maxHeartbeats 1000000 in
theorem xsum_any {w : World} (z : List Int) (hz : z.length = 32) :
    Calls Try.prog 99 #[.agg (bs z).toArray] w fun e w' => ∃ v, e = .returned v ∧ Made w w' v z := by
  go_enter Try.func99, Try.ntmps99
  go_wp2_with fail
  go_loopw [3, 4] (fun u i wr => ∃ k : Nat, k ≤ 32 ∧ i = .int .i64 k ∧ Made (w.alloc (.cells (bs z).toArray 31)) wr u (z.take k)) (fun _ i _ => 32 - (intOf i).toNat)
  case atStart => exact ⟨0, Nat.zero_le _, rfl, Made.nil _⟩
  case round =>
    obtain ⟨k, hk, rfl, hmd⟩ := hrel
    by_cases hlt : k < 32
    · have hzl : k < z.length := by omega
      obtain ⟨x, hx⟩ : ∃ x, x = z[k]'hzl := ⟨_, rfl⟩
      have hcell : wr.cell? ⟨w.heap.size, k, none⟩ = some (.int .u8 x) := by
        rw [hmd.2.1.cell (by simp), hx, cell_of_row _ _ k _ 31 _ (heap_alloc_new _ _)]
        simpa using bs_get z k hzl
      have HX : Hid _ := (show z.take k ++ [x] = z.take (k + 1) by rw [hx]; exact take_one hzl)
      have hbd : (z.take k).length + [x].length ≤ 140737488355328 := by simp; omega
      have M1 : Hid _ := hmd
      clear hmd hx
      go_wp2_with (refine wpList_app rfl (.tmp 9) (.tmp 13) rfl (v := u3) rfl rfl (Made.alloc M1.out _).1 (src_new _ [x] 1) hbd ?_; intro v' w2 hv hch hat; have R : Hid _ := Made.app (Made.alloc M1.out _) hv hch hat; clear hv hch hat)
      go_roundw
      case rel => exact ⟨k + 1, by omega, by go_num, by rw [← HX.out]; exact R.out⟩
      case measure => simp [intOf]; omega
    · have ht : z.take k = z := List.take_of_length_le (by omega)
      rw [ht] at hmd
      have R : Hid _ := hmd
      clear hmd ht
      go_wp2_with fail
      go_ret
      exact ⟨_, rfl, R.out.1, ((Below.refl _ _).alloc (Nat.le_refl _) _).trans (R.out.2.1.mono (by simp)), fun j hj => by have := R.out.2.2 j hj; simp at this; omega⟩

theorem rangeKept {w w' : World} {g o : Nat} {cs : List Value} (h : w.rangeAt g o cs) (b : Below w.heap.size w w') : w'.rangeAt g o cs := fun j v hv => by
  have := h j v hv
  rw [b.cell (World.block_lt_of_cell? _ _ this)]; exact this

/-- The pieces that join is given, one behind the other. -/
structure Pieces (w : World) (g n : Nat) (vs : Nat → Value) (ls : Nat → List Int) : Prop where
  cell : ∀ i, i < n → w.cell? ⟨g, i, none⟩ = some (vs i)
  src : ∀ i, i < n → Src w (vs i) (ls i)
def flat (ls : Nat → List Int) : Nat → List Int
  | 0 => []
  | k + 1 => flat ls k ++ ls k

set_option maxRecDepth 100000 in
set_option maxHeartbeats 1000000 in
theorem join_any {w : World} {g n c : Nat} {vs : Nat → Value} {ls : Nat → List Int} (h : Pieces w g n vs ls) (hn : n ≤ 1000) (hb : ∀ k, k ≤ n → (flat ls k).length ≤ 140737488355328) :
    Calls Try.prog 97 #[.slice (some ⟨g, 0, none⟩) n c] w fun e w' => ∃ v, e = .returned v ∧ Made w w' v (flat ls n) := by
  have H : Hid _ := h
  have HB : Hid _ := hb
  clear h hb
  go_enter Try.func97, Try.ntmps97
  go_wp2_with fail
  go_loopw [3, 8] (fun u i wr => ∃ k : Nat, k ≤ n ∧ i = .int .i64 k ∧ Made w wr u (flat ls k)) (fun _ i _ => n - (intOf i).toNat)
  case atStart => exact ⟨0, Nat.zero_le _, rfl, Made.nil _⟩
  case round =>
    obtain ⟨k, hk, rfl, hmd⟩ := hrel
    by_cases hlt : k < n
    · have hcw := H.out.cell k hlt
      have hcell : wr.cell? ⟨g, k, none⟩ = some (vs k) := by rw [hmd.2.1.cell (World.block_lt_of_cell? _ _ hcw)]; exact hcw
      have hS : Hid _ := Src.kept0 (H.out.src k hlt) hmd.2.1
      have hbd := HB.out (k + 1) (by omega)
      simp only [flat, List.length_append] at hbd
      have M1 : Hid _ := hmd
      clear hmd hcw
      obtain ⟨va, vn, vc, hvk⟩ : ∃ a n c, vs k = .slice a n c := by obtain ⟨a, c, e⟩ := Src.form hS.out; exact ⟨a, _, c, e⟩
      go_wp2_with (refine wpList_app rfl (.tmp 12) (.tmp 13) rfl (v := u3) (u := vs k) rfl (by first | rfl | exact hvk.symm) M1.out.1 hS.out hbd ?_; intro v' w2 hv hch hat; have R : Hid _ := Made.app M1.out hv hch hat; clear hv hch hat)
      go_roundw
      case rel => exact ⟨k + 1, by omega, by go_num, R.out⟩
      case measure => simp [intOf]; omega
    · have hkn : k = n := by omega
      subst hkn
      have R : Hid _ := hmd
      clear hmd
      go_wp2_with fail
      go_ret
      exact ⟨_, rfl, R.out⟩

set_option maxRecDepth 100000 in
set_option maxHeartbeats 2000000 in
theorem xaddr_any {w : World} (z : List Int) (b : Int) (hz : z.length = 32) :
    Calls Try.prog 98 #[.agg (bs (z ++ [b])).toArray] w fun e w' => ∃ v, e = .returned v ∧ Made w w' v (z ++ [b]) := by
  have hr : (w.alloc (.cells (bs (z ++ [b])).toArray 33)).rangeAt w.heap.size 0 (bs z) := fun j u hu => by
    rw [Nat.zero_add, cell_of_row _ _ _ (bs (z ++ [b])).toArray 33 _ (heap_alloc_new _ _)]
    have hj := (List.getElem?_eq_some_iff.1 hu).1
    simp [bs_app, List.getElem?_append_left hj, hu]
  have hcb : (w.alloc (.cells (bs (z ++ [b])).toArray 33)).cell? ⟨w.heap.size, 32, none⟩ = some (.int .u8 b) := by
    rw [cell_of_row _ _ _ (bs (z ++ [b])).toArray 33 _ (heap_alloc_new _ _)]
    simp [bs, hz]
  have HR : Hid _ := hr
  have HB : Hid _ := hcb
  have keep : ∀ w1 w2 : World, Below w1.heap.size w1 w2 → (w1.rangeAt w.heap.size 0 (bs z) ∧ w1.cell? ⟨w.heap.size, 32, none⟩ = some (.int .u8 b)) → (w2.rangeAt w.heap.size 0 (bs z) ∧ w2.cell? ⟨w.heap.size, 32, none⟩ = some (.int .u8 b)) := fun w1 w2 bl h => ⟨rangeKept h.1 bl, by rw [bl.cell (World.block_lt_of_cell? _ _ h.2)]; exact h.2⟩
  have KEEP : Hid _ := keep
  clear hr hcb keep
  go_enter Try.func98, Try.ntmps98
  go_upto_region 1 with fail
  refine wp_region_held_drew (S := fun w' => w'.rangeAt w.heap.size 0 (bs z) ∧ w'.cell? ⟨w.heap.size, 32, none⟩ = some (.int .u8 b)) (by kernel_rfl) ⟨HR.out, HB.out⟩ (fun hH => ?_)
  refine wpAnyH_take (i := 0) (v := .pointer (some ⟨w.heap.size, 0, none⟩)) rfl (by kernel_rfl) (by kernel_rfl) (by kernel_rfl) (fun _ _ _ h => h) (Or.inl ⟨by rfl, fun w' _ => by go_simp⟩) hH ?_
  refine wpAnyH_take (i := 3) (v := .pointer (some ⟨w.heap.size, 32, none⟩)) rfl (by kernel_rfl) (by kernel_rfl) (by kernel_rfl) (fun _ _ _ h => h) (Or.inl ⟨by rfl, fun w' _ => by go_simp⟩) hH ?_
  refine wpAnyH_take (i := 1) (v := .agg (bs z).toArray) rfl (by kernel_rfl) (by kernel_rfl) (by kernel_rfl) (fun _ _ _ h => h) (yieldsIf_load_mid (by rfl) _ _ rfl w.heap.size 0 rfl _ _ (fun w h => h.1) Try.underlying31 rfl (by rw [Try.sz31, bs_len, hz])) hH ?_
  refine wpAnyH_take (i := 4) (v := .int .u8 b) rfl (by kernel_rfl) (by kernel_rfl) (by kernel_rfl) (fun _ _ _ h => h) (Or.inl ⟨by rfl, fun w' hw' => by have h2 := hw'.2; go_simp⟩) hH ?_
  refine wpAnyH_ready (rs := [2, 5]) (by kernel_rfl) (by simp) ?_
  refine AllReadyH.cons rfl (fun K hK => ?_) (AllReadyH.cons rfl (fun K hK => ?_) AllReadyH.nil)
  · go_simp
    refine (xsum_any z hz).mono ?_
    rintro e w2 ⟨v2, rfl, M2⟩
    refine hK.out _ _ (KEEP.out _ _ M2.2.1 hH) (fun h2 => ?_)
    clear hK K
    refine wpAnyH_ready (rs := [5]) (by kernel_rfl) (by simp) ?_
    refine AllReadyH.cons rfl (fun K hK => ?_) AllReadyH.nil
    go_simp
    refine hK.out _ _ (KEEP.out _ _ ((Below.refl _ _).alloc (Nat.le_refl _) _) h2) (fun h3 => ?_)
    clear hK K
    refine wpAnyH_ready (rs := [6]) (by kernel_rfl) (by simp) ?_
    refine AllReadyH.cons rfl (fun K hK => ?_) AllReadyH.nil
    refine step_app rfl (.tmp 5) (.tmp 8) rfl (v := v2) rfl rfl (Made.alloc M2 _).1 (src_new _ [b] 1) (by simp; omega) ?_
    intro v' w4 hv hch hat
    have R := Made.app (Made.alloc M2 _) hv hch hat
    have hbel : Below w.heap.size w w4 := ((Below.refl _ _).alloc (Nat.le_refl _) _).drew.trans (R.2.1.mono (by simp))
    refine hK.out _ _ ⟨fun j u hu => ?_, ?_⟩ (fun h4 => ?_)
    · exact (R.2.1.cell (World.block_lt_of_cell? _ _ (hH.1 j u hu))).trans (hH.1 j u hu)
    · exact (R.2.1.cell (World.block_lt_of_cell? _ _ hH.2)).trans hH.2
    clear hK K
    have FIN : Hid (Made w w4 v' (z ++ [b])) := ⟨R.1, hbel, fun k hk => by have := R.2.2 k hk; simp at this; omega⟩
    clear R hbel hv hch hat M2
    refine wpAnyH_ready (rs := [7]) (by kernel_rfl) (by simp) ?_
    refine AllReadyH.cons rfl (fun K hK => ?_) AllReadyH.nil
    go_simp
    refine hK.out _ _ h4 (fun _ => ?_)
    clear hK K
    refine wpAnyH_done (by kernel_rfl) ?_ _
    go_wp2_with fail
    go_ret
    exact ⟨_, rfl, FIN.out⟩
  · go_simp
    refine hK.out _ _ (KEEP.out _ _ ((Below.refl _ _).alloc (Nat.le_refl _) _) hH) (fun h2 => ?_)
    clear hK K
    refine wpAnyH_ready (rs := [2]) (by kernel_rfl) (by simp) ?_
    refine AllReadyH.cons rfl (fun K hK => ?_) AllReadyH.nil
    go_simp
    refine (xsum_any z hz).mono ?_
    rintro e w2 ⟨v2, rfl, M2⟩
    refine hK.out _ _ (KEEP.out _ _ M2.2.1 h2) (fun h3 => ?_)
    clear hK K
    refine wpAnyH_ready (rs := [6]) (by kernel_rfl) (by simp) ?_
    refine AllReadyH.cons rfl (fun K hK => ?_) AllReadyH.nil
    have S0 : Src ((w.alloc (.cells (bs (z ++ [b])).toArray 33)).alloc (.cells #[.int .u8 b] 5)).drew (.slice (some ⟨w.heap.size + 1, 0, none⟩) 1 1) [b] := by
      have := src_new (w.alloc (.cells (bs (z ++ [b])).toArray 33)) [b] 1
      rw [World.size_alloc] at this
      exact this
    refine step_app rfl (.tmp 5) (.tmp 8) rfl (v := v2) rfl rfl M2.1 (Src.kept0 S0 M2.2.1) (by rw [hz]; simp) ?_
    intro v' w4 hv hch hat
    have R := Made.app M2 hv hch hat
    have hbel : Below w.heap.size w w4 := (((Below.refl _ _).alloc (Nat.le_refl _) _).alloc (by simp) _).drew.trans (R.2.1.mono (by show _ ≤ ((w.alloc _).alloc _).heap.size; simp; omega))
    refine hK.out _ _ (KEEP.out _ _ R.2.1 h2) (fun h4 => ?_)
    clear hK K
    have FIN : Hid (Made w w4 v' (z ++ [b])) := ⟨R.1, hbel, fun k hk => by have : ((w.alloc (.cells (bs (z ++ [b])).toArray 33)).alloc (.cells #[.int .u8 b] 5)).heap.size ≤ k := R.2.2 k hk; simp at this; omega⟩
    clear R hbel hv hch hat M2
    refine wpAnyH_ready (rs := [7]) (by kernel_rfl) (by simp) ?_
    refine AllReadyH.cons rfl (fun K hK => ?_) AllReadyH.nil
    go_simp
    refine hK.out _ _ h4 (fun _ => ?_)
    clear hK K
    refine wpAnyH_done (by kernel_rfl) ?_ _
    go_wp2_with fail
    go_ret
    exact ⟨_, rfl, FIN.out⟩
end Go.Proofs.Ytfkjgfelgiogeaa
