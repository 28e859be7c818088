/-
  Leaves and forks, written by the reference.
-/
import Derived.Test.YtgmheipbcopajaaLeafW
namespace Go.Proofs.Ytgmheipbcopajaa
open Go.RowKit

theorem Made.up {w W w' : World} {v : Value} {l : List Int} (h : Made W w' v l) (b : Below w.heap.size w W) : Made w w' v l :=
  ⟨h.1, b.trans (h.2.1.mono b.size), fun k hk => Nat.le_trans b.size (h.2.2 k hk)⟩
theorem Made.then {W w w' : World} {v : Value} {l : List Int} (b : Below W.heap.size W w) (h : Made w w' v l) : Below W.heap.size W w' := b.trans (h.2.1.mono b.size)
theorem pieces_new {w : World} {n : Nat} {ls : Nat → List Int} {vs : Nat → Value} {cs : Array Value} {t : TypeId} (hc : ∀ i, i < n → cs[i]? = some (vs i)) (hs : ∀ i, i < n → Src w (vs i) (ls i)) : Pieces (w.alloc (.cells cs t)) w.heap.size n vs ls :=
  ⟨fun i hi => by rw [cell_of_row _ _ i cs t _ (heap_alloc_new _ _)]; exact hc i hi, fun i hi => (hs i hi).kept0 ((Below.refl _ _).alloc (Nat.le_refl _) _)⟩

theorem bs_mid (x y z : List Int) : ((bs ((x ++ y) ++ z)).drop x.length).take (bs y).length = bs y := by
  rw [List.append_assoc, bs_app, bs_app, ← bs_len x, List.drop_left, List.take_left]

set_option maxRecDepth 100000 in
set_option maxHeartbeats 2000000 in
theorem xLeafW_any {w : World} (n : Nat) (y : List Int) (hn : n < 18446744073709551616) (hy : y.length = 32) :
    Calls Try.prog 39 #[.agg (leafC n y).toArray] w fun e w' => ∃ u, e = .returned u ∧ Made w w' u (numB n ++ y) := by
  have hnl := numB_ten hn
  obtain ⟨W, hW⟩ : ∃ W, W = w.alloc (.cells (leafC n y).toArray 71) := ⟨_, rfl⟩
  have B0 : Hid (Blk W w.heap.size (leafC n y) 71) := by rw [hW]; exact Blk.made _ _ _
  have HB : Hid (Below w.heap.size w W) := by rw [hW]; exact (Below.refl _ _).alloc (Nat.le_refl _) _
  go_enter Try.func39, Try.ntmps39
  go_upto_region 1 with fail
  rw [← hW]
  clear hW
  refine wp_region_held_drew (S := fun w' => Below W.heap.size W w') (by kernel_rfl) (Below.refl _ _).drew (fun hH => ?_)
  refine wpAnyH_take (i := 0) (v := .pointer (some ⟨w.heap.size, 0, none⟩)) rfl (by kernel_rfl) (by kernel_rfl) (by kernel_rfl) (fun _ _ _ h => h) (Or.inl ⟨by rfl, fun w' _ => by go_simp⟩) hH ?_
  refine wpAnyH_take (i := 3) (v := .pointer (some ⟨w.heap.size, 1, none⟩)) rfl (by kernel_rfl) (by kernel_rfl) (by kernel_rfl) (fun _ _ _ h => h) (Or.inl ⟨by rfl, fun w' _ => by go_simp⟩) hH ?_
  refine wpAnyH_take (i := 1) (v := .int .u64 n) rfl (by kernel_rfl) (by kernel_rfl) (by kernel_rfl) (fun _ _ _ h => h) (Or.inl ⟨by rfl, fun w' hw' => by have h2 : w'.cell? ⟨w.heap.size, 0, none⟩ = some (.int .u64 n) := Blk.cell (Blk.keep0 B0.out hw') 0; go_simp⟩) hH ?_
  refine wpAnyH_take (i := 4) (v := .agg (bs y).toArray) rfl (by kernel_rfl) (by kernel_rfl) (by kernel_rfl) (fun _ _ _ h => h) (yieldsIf_load_mid (by rfl) _ _ rfl w.heap.size 1 rfl _ _ (fun w' h => Blk.range (Blk.keep0 B0.out h) (leafC_back n y)) Try.underlying31 rfl (Try.sumSz' y hy)) hH ?_
  refine wpAnyH_ready (rs := [2]) (by kernel_rfl) (by simp) ?_
  refine AllReadyH.cons rfl (fun K hK => ?_) AllReadyH.nil
  go_simp
  refine Calls.mono (num_any n hn _) ?_
  rintro e w1 ⟨v1, rfl, m1⟩
  refine hK.out _ _ (Made.then hH m1) (fun h1 => ?_)
  clear hK K
  obtain ⟨b1, c1, hv1⟩ := m1.1.form
  obtain ⟨n1, hn1⟩ : ∃ nn : Nat, nn = (numB n).length := ⟨_, rfl⟩
  rw [← hn1] at hv1
  subst hv1
  clear hn1
  refine wpAnyH_ready (rs := [5]) (by kernel_rfl) (by simp) ?_
  refine AllReadyH.cons rfl (fun K hK => ?_) AllReadyH.nil
  go_simp
  refine Calls.mono (xsum_any y hy) ?_
  rintro e w2 ⟨v2, rfl, m2⟩
  refine hK.out _ _ (Made.then h1 m2) (fun h2 => ?_)
  clear hK K
  obtain ⟨b2, c2, hv2⟩ := m2.1.form
  obtain ⟨n2, hn2⟩ : ∃ nn : Nat, nn = (y).length := ⟨_, rfl⟩
  rw [← hn2] at hv2
  subst hv2
  clear hn2
  have hsrc : ∀ i, i < 2 → Src w2 ((fun i => match i with | 0 => Value.slice b1 n1 c1 | _ => Value.slice b2 n2 c2) i) ((fun i => match i with | 0 => numB n | _ => y) i) := by
    intro i hi
    match i, hi with
    | 0, _ => exact (m1.1.src).kept0 m2.2.1
    | 1, _ => exact m2.1.src
  refine wpAnyH_ready (rs := [6]) (by kernel_rfl) (by simp) ?_
  refine AllReadyH.cons rfl (fun K hK => ?_) AllReadyH.nil
  go_simp
  refine hK.out _ _ (h2.alloc h2.size _) (fun hx => ?_)
  clear hK K
  refine wpAnyH_ready (rs := [7]) (by kernel_rfl) (by simp) ?_
  refine AllReadyH.cons rfl (fun K hK => ?_) AllReadyH.nil
  go_simp
  refine Calls.mono (join_any (pieces_new (fun i hi => by match i, hi with | 0, _ => rfl | 1, _ => rfl) hsrc) (by decide) (by
    intro k hk
    match k, hk with | 0, _ => simp [flat]; try omega | 1, _ => simp [flat]; try omega | 2, _ => simp [flat]; try omega)) ?_
  rintro e wj ⟨vj, rfl, mj⟩
  have FIN : Hid (Made w wj vj (numB n ++ y)) := by
    have e2 : flat (fun i => match i with | 0 => numB n | _ => y) 2 = numB n ++ y := by simp [flat]
    rw [e2] at mj
    exact Made.up mj ((h2.alloc h2.size _).mono HB.out.size |> fun b => (HB.out.trans b))
  refine hK.out _ _ (Made.then hx mj) (fun hy => ?_)
  clear hK K hsrc mj
  refine wpAnyH_ready (rs := [8]) (by kernel_rfl) (by simp) ?_
  refine AllReadyH.cons rfl (fun K hK => ?_) AllReadyH.nil
  go_simp
  refine hK.out _ _ hy (fun _ => ?_)
  clear hK K
  refine wpAnyH_done (by kernel_rfl) ?_ _
  go_wp2_with fail
  go_ret
  exact ⟨_, rfl, FIN.out⟩

theorem xaddr2 {w : World} (x : List Int) (hx : x.length = 33) :
    Calls Try.prog 99 #[.agg (bs x).toArray] w fun e w' => ∃ v, e = .returned v ∧ Made w w' v x := by
  obtain ⟨z, b, rfl⟩ : ∃ z b, x = z ++ [b] := ⟨x.take 32, x[32], by
    have e := List.take_append_getElem (l := x) (i := 32) (by omega)
    rw [e, List.take_of_length_le (by omega)]⟩
  exact xaddr_any z b (by simp at hx; omega)

set_option maxRecDepth 100000 in
set_option maxHeartbeats 4000000 in
theorem xForkW_any {w : World} (f x y x' y' : List Int) (hf : f = (x ++ y) ++ (x' ++ y')) (hx : x.length = 33) (hy : y.length = 32) (hx' : x'.length = 33) (hy' : y'.length = 32) :
    Calls Try.prog 40 #[.agg (bs f).toArray] w fun e w' => ∃ u, e = .returned u ∧ Made w w' u f := by
  obtain ⟨W, hW⟩ : ∃ W, W = w.alloc (.cells (bs f).toArray 75) := ⟨_, rfl⟩
  have B0 : Hid (Blk W w.heap.size (bs f) 75) := by rw [hW]; exact Blk.made _ _ _
  have HB : Hid (Below w.heap.size w W) := by rw [hW]; exact (Below.refl _ _).alloc (Nat.le_refl _) _
  have L1 : (x ++ y).length = 65 := by simp [hx, hy]
  have F1 : Hid (((bs f).drop 0).take (bs x).length = bs x) := by rw [hf, List.append_assoc]; exact bs_front _ _
  have F2 : Hid (((bs f).drop 33).take (bs y).length = bs y) := by
    have := bs_mid x y (x' ++ y')
    rw [hx] at this
    rw [hf]; exact this
  have F3 : Hid (((bs f).drop 65).take (bs x').length = bs x') := by
    have := bs_mid (x ++ y) x' y'
    rw [L1] at this
    rw [hf, ← List.append_assoc]; exact this
  have F4 : Hid (((bs f).drop 98).take (bs y').length = bs y') := by
    have := bs_cut (x ++ y ++ x') y'
    rw [show (x ++ y ++ x').length = 98 by simp [hx, hy, hx']] at this
    rw [hf, ← List.append_assoc]; exact this
  have HF : Hid _ := hf
  clear hf
  go_enter Try.func40, Try.ntmps40
  go_upto_region 1 with fail
  rw [← hW]
  clear hW
  refine wp_region_held_drew (S := fun w' => Below W.heap.size W w') (by kernel_rfl) (Below.refl _ _).drew (fun hH => ?_)
  refine wpAnyH_take (i := 0) (v := .pointer (some ⟨w.heap.size, 0, none⟩)) rfl (by kernel_rfl) (by kernel_rfl) (by kernel_rfl) (fun _ _ _ h => h) (Or.inl ⟨by rfl, fun w' _ => by go_simp⟩) hH ?_
  refine wpAnyH_take (i := 1) (v := .pointer (some ⟨w.heap.size, 0, none⟩)) rfl (by kernel_rfl) (by kernel_rfl) (by kernel_rfl) (fun _ _ _ h => h) (Or.inl ⟨by rfl, fun w' _ => by go_simp⟩) hH ?_
  refine wpAnyH_take (i := 2) (v := .agg (bs x).toArray) rfl (by kernel_rfl) (by kernel_rfl) (by kernel_rfl) (fun _ _ _ h => h) (yieldsIf_load_mid (by rfl) _ _ rfl w.heap.size 0 (by kernel_rfl) _ _ (fun w' h => Blk.range (Blk.keep0 B0.out h) F1.out) Try.underlying33 rfl (Try.addrSz x hx)) hH ?_
  refine wpAnyH_take (i := 4) (v := .pointer (some ⟨w.heap.size, 0, none⟩)) rfl (by kernel_rfl) (by kernel_rfl) (by kernel_rfl) (fun _ _ _ h => h) (Or.inl ⟨by rfl, fun w' _ => by go_simp⟩) hH ?_
  refine wpAnyH_take (i := 5) (v := .pointer (some ⟨w.heap.size, 33, none⟩)) rfl (by kernel_rfl) (by kernel_rfl) (by kernel_rfl) (fun _ _ _ h => h) (Or.inl ⟨by rfl, fun w' _ => by go_simp⟩) hH ?_
  refine wpAnyH_take (i := 6) (v := .agg (bs y).toArray) rfl (by kernel_rfl) (by kernel_rfl) (by kernel_rfl) (fun _ _ _ h => h) (yieldsIf_load_mid (by rfl) _ _ rfl w.heap.size 33 (by kernel_rfl) _ _ (fun w' h => Blk.range (Blk.keep0 B0.out h) F2.out) Try.underlying31 rfl (Try.sumSz' y hy)) hH ?_
  refine wpAnyH_take (i := 8) (v := .pointer (some ⟨w.heap.size, 65, none⟩)) rfl (by kernel_rfl) (by kernel_rfl) (by kernel_rfl) (fun _ _ _ h => h) (Or.inl ⟨by rfl, fun w' _ => by go_simp⟩) hH ?_
  refine wpAnyH_take (i := 9) (v := .pointer (some ⟨w.heap.size, 65, none⟩)) rfl (by kernel_rfl) (by kernel_rfl) (by kernel_rfl) (fun _ _ _ h => h) (Or.inl ⟨by rfl, fun w' _ => by go_simp⟩) hH ?_
  refine wpAnyH_take (i := 10) (v := .agg (bs x').toArray) rfl (by kernel_rfl) (by kernel_rfl) (by kernel_rfl) (fun _ _ _ h => h) (yieldsIf_load_mid (by rfl) _ _ rfl w.heap.size 65 (by kernel_rfl) _ _ (fun w' h => Blk.range (Blk.keep0 B0.out h) F3.out) Try.underlying33 rfl (Try.addrSz x' hx')) hH ?_
  refine wpAnyH_take (i := 12) (v := .pointer (some ⟨w.heap.size, 65, none⟩)) rfl (by kernel_rfl) (by kernel_rfl) (by kernel_rfl) (fun _ _ _ h => h) (Or.inl ⟨by rfl, fun w' _ => by go_simp⟩) hH ?_
  refine wpAnyH_take (i := 13) (v := .pointer (some ⟨w.heap.size, 98, none⟩)) rfl (by kernel_rfl) (by kernel_rfl) (by kernel_rfl) (fun _ _ _ h => h) (Or.inl ⟨by rfl, fun w' _ => by go_simp⟩) hH ?_
  refine wpAnyH_take (i := 14) (v := .agg (bs y').toArray) rfl (by kernel_rfl) (by kernel_rfl) (by kernel_rfl) (fun _ _ _ h => h) (yieldsIf_load_mid (by rfl) _ _ rfl w.heap.size 98 (by kernel_rfl) _ _ (fun w' h => Blk.range (Blk.keep0 B0.out h) F4.out) Try.underlying31 rfl (Try.sumSz' y' hy')) hH ?_
  refine wpAnyH_ready (rs := [3]) (by kernel_rfl) (by simp) ?_
  refine AllReadyH.cons rfl (fun K hK => ?_) AllReadyH.nil
  go_simp
  refine Calls.mono (xaddr2 x hx) ?_
  rintro e w1 ⟨v1, rfl, m1⟩
  refine hK.out _ _ (Made.then hH m1) (fun h1 => ?_)
  clear hK K
  obtain ⟨b1, c1, hv1⟩ := m1.1.form
  obtain ⟨n1, hn1⟩ : ∃ nn : Nat, nn = (x).length := ⟨_, rfl⟩
  rw [← hn1] at hv1
  subst hv1
  clear hn1
  refine wpAnyH_ready (rs := [7]) (by kernel_rfl) (by simp) ?_
  refine AllReadyH.cons rfl (fun K hK => ?_) AllReadyH.nil
  go_simp
  refine Calls.mono (xsum_any y hy) ?_
  rintro e w2 ⟨v2, rfl, m2⟩
  refine hK.out _ _ (Made.then h1 m2) (fun h2 => ?_)
  clear hK K
  obtain ⟨b2, c2, hv2⟩ := m2.1.form
  obtain ⟨n2, hn2⟩ : ∃ nn : Nat, nn = (y).length := ⟨_, rfl⟩
  rw [← hn2] at hv2
  subst hv2
  clear hn2
  refine wpAnyH_ready (rs := [11]) (by kernel_rfl) (by simp) ?_
  refine AllReadyH.cons rfl (fun K hK => ?_) AllReadyH.nil
  go_simp
  refine Calls.mono (xaddr2 x' hx') ?_
  rintro e w3 ⟨v3, rfl, m3⟩
  refine hK.out _ _ (Made.then h2 m3) (fun h3 => ?_)
  clear hK K
  obtain ⟨b3, c3, hv3⟩ := m3.1.form
  obtain ⟨n3, hn3⟩ : ∃ nn : Nat, nn = (x').length := ⟨_, rfl⟩
  rw [← hn3] at hv3
  subst hv3
  clear hn3
  refine wpAnyH_ready (rs := [15]) (by kernel_rfl) (by simp) ?_
  refine AllReadyH.cons rfl (fun K hK => ?_) AllReadyH.nil
  go_simp
  refine Calls.mono (xsum_any y' hy') ?_
  rintro e w4 ⟨v4, rfl, m4⟩
  refine hK.out _ _ (Made.then h3 m4) (fun h4 => ?_)
  clear hK K
  obtain ⟨b4, c4, hv4⟩ := m4.1.form
  obtain ⟨n4, hn4⟩ : ∃ nn : Nat, nn = (y').length := ⟨_, rfl⟩
  rw [← hn4] at hv4
  subst hv4
  clear hn4
  have hsrc : ∀ i, i < 4 → Src w4 ((fun i => match i with | 0 => Value.slice b1 n1 c1 | 1 => Value.slice b2 n2 c2 | 2 => Value.slice b3 n3 c3 | _ => Value.slice b4 n4 c4) i) ((fun i => match i with | 0 => x | 1 => y | 2 => x' | _ => y') i) := by
    intro i hi
    match i, hi with
    | 0, _ => exact (((m1.1.src).kept0 m2.2.1).kept0 m3.2.1).kept0 m4.2.1
    | 1, _ => exact ((m2.1.src).kept0 m3.2.1).kept0 m4.2.1
    | 2, _ => exact (m3.1.src).kept0 m4.2.1
    | 3, _ => exact m4.1.src
  refine wpAnyH_ready (rs := [16]) (by kernel_rfl) (by simp) ?_
  refine AllReadyH.cons rfl (fun K hK => ?_) AllReadyH.nil
  go_simp
  refine hK.out _ _ (h4.alloc h4.size _) (fun hx => ?_)
  clear hK K
  refine wpAnyH_ready (rs := [17]) (by kernel_rfl) (by simp) ?_
  refine AllReadyH.cons rfl (fun K hK => ?_) AllReadyH.nil
  go_simp
  refine Calls.mono (join_any (pieces_new (fun i hi => by match i, hi with | 0, _ => rfl | 1, _ => rfl | 2, _ => rfl | 3, _ => rfl) hsrc) (by decide) (by
    intro k hk
    match k, hk with | 0, _ => simp [flat]; try omega | 1, _ => simp [flat]; try omega | 2, _ => simp [flat]; try omega | 3, _ => simp [flat]; try omega | 4, _ => simp [flat]; try omega)) ?_
  rintro e wj ⟨vj, rfl, mj⟩
  have FIN : Hid (Made w wj vj (f)) := by
    have e2 : flat (fun i => match i with | 0 => x | 1 => y | 2 => x' | _ => y') 4 = f := by rw [HF.out]; simp [flat]
    rw [e2] at mj
    exact Made.up mj ((h4.alloc h4.size _).mono HB.out.size |> fun b => (HB.out.trans b))
  refine hK.out _ _ (Made.then hx mj) (fun hy => ?_)
  clear hK K hsrc mj
  refine wpAnyH_ready (rs := [18]) (by kernel_rfl) (by simp) ?_
  refine AllReadyH.cons rfl (fun K hK => ?_) AllReadyH.nil
  go_simp
  refine hK.out _ _ hy (fun _ => ?_)
  clear hK K
  refine wpAnyH_done (by kernel_rfl) ?_ _
  go_wp2_with fail
  go_ret
  exact ⟨_, rfl, FIN.out⟩
end Go.Proofs.Ytgmheipbcopajaa
