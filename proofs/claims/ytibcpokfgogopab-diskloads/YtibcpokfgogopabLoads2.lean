/-
  DiskLoads, whole: the second half.
-/
import Derived.Test.YtibcpokfgogopabLoads
namespace Go.Proofs.Ytibcpokfgogopab
open Go.RowKit

theorem Rw.src {w : World} {g : Nat} {l : List Int} (h : Rw w g (bs l).toArray 5) (n c : Nat) (hn : l.length = n) : Src w (.slice (some ⟨g, 0, none⟩) n c) l :=
  .inr ⟨_, _, by rw [hn], fun j u hu => ⟨rfl, by rw [Nat.zero_add, Rw.cell h j]; simpa using hu⟩⟩

/-- What stands while the law goes on. -/
structure GO (w wr : World) (p m c : Nat) (rd : Int) (S z : Nat) (gs : Nat → Nat) (D : DataW Unit) (T : List Int) (q : Nat) (cs : Array Value) : Prop where
  ld : LD wr p m c rd S z gs D T
  ref : Rw wr q cs 34
  bel : Below w.heap.size w wr

set_option maxRecDepth 100000 in
set_option maxHeartbeats 4000000 in
theorem loads_yes {w : World} {g0 o0 N cap S z : Nat} {T : List Int} (hs : Src w (.slice (some ⟨g0, o0, none⟩) N cap) T) (hN : T.length = N) (hcA : N ≤ cap) (_hcB : cap ≤ 9223372036854775807) (hT : N = S * z) (h : okDisk S z) :
    Calls Try.prog 3 #[.slice (some ⟨g0, o0, none⟩) N cap, .int .i64 z] w fun e w' => e = .returned (.bool true) ∧ Below w.heap.size w w' := by
  have hz := fits_b h.1
  have hS1 := h.2.1
  have hS2 := h.2.2.1
  have hbig : N ≤ 16777216 := by have := h.2.2.2; rw [← Int.natCast_mul, ← hT] at this; omega
  have HS : Hid _ := hs
  have HN : Hid _ := hN
  have HT : Hid _ := hT
  have HK : Hid _ := h
  clear h hs hN hT
  go_enter Try.func3, Try.ntmps3
  go_wp2_with (first | (refine wpList_app rfl (.const (.slice none 0 0)) (.tmp 14) rfl (v := .slice none 0 0) rfl rfl (Own.nil _) HS.out (show ([] : List Int).length + T.length ≤ 140737488355328 from (by have h5 := HN.out; rw [List.length_nil]; omega)) ?_; intro v1 w1 hv1 hch1 hat1; have V1 : Hid _ := hv1; have B1 : Hid (Below w.heap.size w w1) := Chg.below hch1 (Nat.le_refl _) (fun k e => by simp [Value.ownBlock] at e); have A1 : Hid (∀ k, v1.ownBlock = some k → w.heap.size ≤ k) := fun k hk => (by rcases hat1 with e | e <;> rw [hk] at e <;> simp [Value.ownBlock] at e; omega); clear hv1 hch1 hat1) | (refine wpList_app rfl (.tmp 15) (.tmp 16) rfl (v := v1) rfl rfl (Own.alloc V1.out _) (src_new _ [90] 1) (show ([] ++ T).length + [90].length ≤ 140737488355328 from (by have h5 := HN.out; simp; omega)) ?_; intro v2 w2 hv2 hch2 hat2; obtain ⟨g, cap2, cur, ev, q1, q2, q3, q4, q5⟩ := Own.parts hv2 (by simp); have F0 : Hid (FU w w2 T g cap2 cur) := ⟨(by rcases hat2 with e | e; exact A1.out g (by rw [← e, ev]; rfl); (rw [ev] at e; simp [Value.ownBlock] at e; have := B1.out.size; omega)), (by simp at q1; omega), q2, q3, q4, q5, (Below.trans (Below.alloc B1.out B1.out.size _) (Chg.below hch2 (Nat.le_trans B1.out.size (by simp)) (fun k e => A1.out k e.symm)))⟩; have eln : ([] ++ T ++ [90]).length = N + 1 := (by have h5 := HN.out; simp; omega); rw [eln] at ev; have hcap1 : N < cap2 := (by have := F0.out.cap1; rw [HN.out] at this; exact this); have hcap2 : cap2 ≤ 9223372036854775807 := q2; subst ev; clear hv2 hch2 hat2 q1 q2 q3 q4 q5 eln))
  have sA : Src w2 (.slice (some ⟨g, 0, none⟩) N cap2) T := by have := FU.src F0.out cap2; rw [HN.out] at this; exact this
  refine Calls.mono (load_yes sA HN.out hcap1 hcap2 HT.out HK.out) ?_
  rintro e w3 ⟨rfl, ⟨gs, D, ld3, lo3⟩, b3⟩
  have F3 : Hid _ := FU.keep F0.out b3
  have L3 : Hid _ := ld3
  have LO : Hid _ := lo3
  have glt : g < w2.heap.size := Rw.lt F0.out.row
  have plt3 : w2.heap.size + 2 < w3.heap.size := Rw.lt ld3.row
  clear sA ld3 lo3 b3 F0 V1 B1 A1
  go_wp2_with fail
  refine Calls.mono (xload_yes (Src.kept0 HS.out F3.out.bel) HN.out HT.out HK.out) ?_
  rintro e w4 ⟨rfl, ⟨cs, r4, hcs⟩, b4⟩
  have F4 : Hid _ := FU.keep F3.out b4
  have G4 : Hid (GO w w4 (w2.heap.size + 2) w2.heap.size (w2.heap.size + 1) 0 S z gs D T w3.heap.size cs) := ⟨LD.keep L3.out b4, r4, F4.out.bel⟩
  have HCS : Hid _ := hcs
  have hlast := FU.last F4.out
  rw [HN.out] at hlast
  have hl2 : ∀ n, (w4.drewN n).cell? ⟨g, N, none⟩ = some (.int .u8 90) := fun n => hlast
  clear r4 hcs b4 L3 F3
  go_wp2_with fail
  have sA : Src w4 (.slice (some ⟨g, 0, none⟩) N cap2) T := by have := FU.src F4.out cap2; rw [HN.out] at this; exact this
  refine Calls.mono (same_src sA (Src.kept0 HS.out F4.out.bel) (by have h5 := HN.out; omega)) ?_
  rintro e w9 ⟨rfl, j, rfl⟩
  have hcsz : cur.size = cap2 := F4.out.sz
  have RC : Hid (Rw (w4.drewN j) g cur 5) := ⟨F4.out.row.eq⟩
  have G5 : Hid (GO w (w4.drewN j) (w2.heap.size + 2) w2.heap.size (w2.heap.size + 1) 0 S z gs D T w3.heap.size cs) := ⟨LD.drewN G4.out.ld j, ⟨G4.out.ref.eq⟩, below_drewN G4.out.bel j⟩
  have hgw : w.heap.size ≤ g := F4.out.lo
  obtain ⟨w5, hw5⟩ : ∃ w5, w5 = w4.drewN j := ⟨_, rfl⟩
  clear hlast sA F4 G4
  go_wp2_with fail
  rw [← hw5] at RC G5 ⊢
  clear hl2 hw5
  go_loopw [10] (fun x wr => ∃ (k : Nat) (cur : Array Value), k ≤ N ∧ x = .int .i64 k ∧ Rw wr g cur 5 ∧ cur.size = cap2 ∧ GO w wr (w2.heap.size + 2) w2.heap.size (w2.heap.size + 1) 0 S z gs D T w3.heap.size cs) (fun x _ => N - (intOf x).toNat)
  case atStart => exact ⟨0, cur, Nat.zero_le _, rfl, RC.out, hcsz, G5.out⟩
  case round =>
    obtain ⟨k, cur, hk, rfl, hrw, hsz, hgo⟩ := hrel
    by_cases hltk : k < N
    · have hc : wr.cell? ⟨g, k, none⟩ = some (cur[k]'(by omega)) := by rw [Rw.cell hrw k]; exact Array.getElem?_eq_getElem (by omega)
      obtain ⟨x, hx⟩ : ∃ x, x = cur[k]'(by omega) := ⟨_, rfl⟩
      rw [← hx] at hc
      have hf := Rw.fr hrw k
      have R1 : Hid _ := Rw.set hrw k (.int .u8 91)
      have G1 : Hid _ := hgo
      clear hx hrw hgo
      go_wp2_with fail
      go_roundw
      case rel =>
        have ch : Chg (fun i => i = g) wr (wr.setCell ⟨g, k, none⟩ (.int .u8 91)) := (Chg.refl (fun i => i = g) wr).setCell (.inl rfl) _
        exact ⟨k + 1, _, by omega, by go_num, R1.out, by simp [hsz], ⟨LD.chg G1.out.ld ch (by omega) (by omega) (by omega) (fun i hi => by have := LO.out i hi; omega), Rw.chg1 G1.out.ref ch (by omega), G1.out.bel.trans (ch.below G1.out.bel.size (fun i e => by omega))⟩⟩
      case measure => simp [intOf]; omega
    · have G1 : Hid _ := hgo
      clear hrw hgo
      go_wp2_with fail
      go_loopw [11] (fun x wr => ∃ (k : Nat) (rd : Int), k ≤ S ∧ x = .int .i64 k ∧ GO w wr (w2.heap.size + 2) w2.heap.size (w2.heap.size + 1) rd S z gs D T w3.heap.size cs) (fun x _ => S - (intOf x).toNat)
      case atStart => exact ⟨0, 0, Nat.zero_le _, rfl, G1.out⟩
      case round =>
        obtain ⟨k2, rd, hk2, rfl, hgo⟩ := hrel
        have hq0 : wr.cell? ⟨w3.heap.size, 0, none⟩ = some (.int .i64 S) := (Rw.cell hgo.ref 0).trans HCS.out
        have G2 : Hid _ := hgo
        clear hgo
        by_cases hltk2 : k2 < S
        · go_wp2_with fail
          have hTl : T.length = S * z := by rw [HN.out]; exact HT.out
          refine Calls.mono (readL G2.out.ld (by omega) (by omega) hTl k2 hltk2 (by omega)) ?_
          rintro e wa ⟨ga, rfl, ra, hga, ⟨rd', lda⟩, cha⟩
          have GA : Hid (GO w wa (w2.heap.size + 2) w2.heap.size (w2.heap.size + 1) rd' S z gs D T w3.heap.size cs) := ⟨lda, Rw.chg1 G2.out.ref cha (by omega), G2.out.bel.trans (cha.below G2.out.bel.size (fun i e => by omega))⟩
          have hpl := piece_len hTl hltk2
          obtain ⟨L, hL⟩ : ∃ L, L = k2 * z := ⟨_, rfl⟩
          have hm1 : (k2 : Int) * (z : Int) = (L : Int) := by rw [hL, Int.natCast_mul]
          have hm2 : ((k2 : Int) + 1) * (z : Int) = (L : Int) + (z : Int) := by rw [Int.add_mul, hm1, Int.one_mul]
          have hLz : L + z ≤ N := by
            have := Nat.mul_le_mul_right z hltk2
            rw [Nat.succ_mul, ← hL, ← HT.out] at this
            exact this
          have hcne : ¬ cap = L := by omega
          have hE : ((L : Int) + (z : Int)).toNat - L = z := by omega
          have SB : Hid (Src wa (.slice (some ⟨g0, o0 + L, none⟩) z (cap - L)) (piece T z k2)) := by
            have := Src.piece (Src.kept0 HS.out GA.out.bel) L z (cap - L) (by rw [HN.out]; exact hLz)
            rw [hL] at this ⊢
            exact this
          have SA : Hid _ := Rw.src ra z z hpl
          clear lda cha ra hL hTl
          go_wp2_with fail
          refine Calls.mono (same_src SA.out SB.out (by rw [hpl]; omega)) ?_
          rintro e wb ⟨rfl, jj, rfl⟩
          have GB : Hid (GO w (wa.drewN jj) (w2.heap.size + 2) w2.heap.size (w2.heap.size + 1) rd' S z gs D T w3.heap.size cs) := ⟨LD.drewN GA.out.ld jj, ⟨GA.out.ref.eq⟩, below_drewN GA.out.bel jj⟩
          go_wp2_with fail
          go_roundw
          case rel => exact ⟨k2 + 1, _, by omega, by go_num, GB.out⟩
          case measure => simp [intOf]; omega
        · go_upto_region 18 with fail
          refine wp_region_held_drew (S := fun w' => w'.cell? ⟨w3.heap.size, 0, none⟩ = some (.int .i64 S)) (by kernel_rfl) hq0 (fun hH => ?_)
          refine wpAnyH_take (i := 0) (v := .pointer (some ⟨w2.heap.size + 2, 0, none⟩)) rfl (by kernel_rfl) (by kernel_rfl) (by kernel_rfl) (fun _ _ _ h => h) (Or.inl ⟨by rfl, fun w' _ => by go_simp⟩) hH ?_
          refine wpAnyH_take (i := 2) (v := .slice (some ⟨g0, o0, none⟩) N cap) rfl (by kernel_rfl) (by kernel_rfl) (by kernel_rfl) (fun _ _ _ h => h) (Or.inl ⟨by rfl, fun w' _ => by go_simp⟩) hH ?_
          have hTl : T.length = S * z := by rw [HN.out]; exact HT.out
          have hld : LD wr.drew (w2.heap.size + 2) w2.heap.size (w2.heap.size + 1) rd S z gs D T := LD.drewN G2.out.ld 1
          refine wpAnyH_ready (rs := [1]) (by kernel_rfl) (by simp) ?_
          refine AllReadyH.cons rfl (fun K hK => ?_) AllReadyH.nil
          go_simp
          refine Calls.mono (imageL hld (by omega) (by omega) hTl (by omega) (by rw [← HT.out]; exact hbig)) ?_
          rintro e wa ⟨gi, rfl, ri, lda, cha⟩
          have GA : Hid (GO w wa (w2.heap.size + 2) w2.heap.size (w2.heap.size + 1) rd S z gs D T w3.heap.size cs) := ⟨lda, Rw.chg1 (w := wr.drew) ⟨G2.out.ref.eq⟩ cha (by omega), (below_drewN G2.out.bel 1).trans (cha.below G2.out.bel.size (fun i e => by omega))⟩
          rw [← HT.out]
          refine hK.out _ _ ((Rw.cell GA.out.ref 0).trans HCS.out) (fun h1 => ?_)
          clear hK K
          refine wpAnyH_ready (rs := [3]) (by kernel_rfl) (by simp) ?_
          refine AllReadyH.cons rfl (fun K hK => ?_) AllReadyH.nil
          go_simp
          refine Calls.mono (same_src (Rw.src ri N N HN.out) (Src.kept0 HS.out GA.out.bel) (by rw [HN.out]; omega)) ?_
          rintro e wb ⟨rfl, jj, rfl⟩
          have GB : Hid (GO w (wa.drewN jj) (w2.heap.size + 2) w2.heap.size (w2.heap.size + 1) rd S z gs D T w3.heap.size cs) := ⟨LD.drewN GA.out.ld jj, ⟨GA.out.ref.eq⟩, below_drewN GA.out.bel jj⟩
          refine hK.out _ _ ((Rw.cell GB.out.ref 0).trans HCS.out) (fun h2 => ?_)
          clear hK K
          clear lda cha ri hld
          refine wpAnyH_take (i := 4) (v := .bool true) rfl (by kernel_rfl) (by kernel_rfl) (by kernel_rfl) (fun _ _ _ h => h) (Or.inl ⟨by rfl, fun w' _ => by go_simp⟩) h2 ?_
          refine wpAnyH_take (i := 5) (v := .pointer (some ⟨w2.heap.size + 2, 0, none⟩)) rfl (by kernel_rfl) (by kernel_rfl) (by kernel_rfl) (fun _ _ _ h => h) (Or.inl ⟨by rfl, fun w' _ => by go_simp⟩) h2 ?_
          refine wpAnyH_take (i := 7) (v := .pointer (some ⟨w3.heap.size, 0, none⟩)) rfl (by kernel_rfl) (by kernel_rfl) (by kernel_rfl) (fun _ _ _ h => h) (Or.inl ⟨by rfl, fun w' _ => by go_simp⟩) h2 ?_
          refine wpAnyH_take (i := 8) (v := .pointer (some ⟨w3.heap.size, 0, none⟩)) rfl (by kernel_rfl) (by kernel_rfl) (by kernel_rfl) (fun _ _ _ h => h) (Or.inl ⟨by rfl, fun w' _ => by go_simp⟩) h2 ?_
          refine wpAnyH_take (i := 9) (v := .pointer (some ⟨w3.heap.size, 0, none⟩)) rfl (by kernel_rfl) (by kernel_rfl) (by kernel_rfl) (fun _ _ _ h => h) (Or.inl ⟨by rfl, fun w' _ => by go_simp⟩) h2 ?_
          refine wpAnyH_take (i := 10) (v := .int .i64 S) rfl (by kernel_rfl) (by kernel_rfl) (by kernel_rfl) (fun _ _ _ h => h) (Or.inl ⟨by rfl, fun w' hw' => by go_simp⟩) h2 ?_
          refine wpAnyH_ready (rs := [6]) (by kernel_rfl) (by simp) ?_
          refine AllReadyH.cons rfl (fun K hK => ?_) AllReadyH.nil
          go_simp
          refine Calls.mono (sectorsL GB.out.ld) ?_
          rintro e wc ⟨rfl, h9⟩
          subst h9
          refine hK.out _ _ h2 (fun h3 => ?_)
          clear hK K
          refine wpAnyH_take (i := 11) (v := .bool true) rfl (by kernel_rfl) (by kernel_rfl) (by kernel_rfl) (fun _ _ _ h => h) (Or.inl ⟨by rfl, fun w' _ => by go_simp⟩) h3 ?_
          refine wpAnyH_take (i := 12) (v := .bool true) rfl (by kernel_rfl) (by kernel_rfl) (by kernel_rfl) (fun _ _ _ h => h) (Or.inl ⟨by rfl, fun w' _ => by go_simp⟩) h3 ?_
          refine wpAnyH_take (i := 13) (v := .bool true) rfl (by kernel_rfl) (by kernel_rfl) (by kernel_rfl) (fun _ _ _ h => h) (Or.inl ⟨by rfl, fun w' _ => by go_simp⟩) h3 ?_
          refine wpAnyH_take (i := 14) (v := .pointer (some ⟨w2.heap.size + 2, 0, none⟩)) rfl (by kernel_rfl) (by kernel_rfl) (by kernel_rfl) (fun _ _ _ h => h) (Or.inl ⟨by rfl, fun w' _ => by go_simp⟩) h3 ?_
          refine wpAnyH_take (i := 16) (v := .int .i64 z) rfl (by kernel_rfl) (by kernel_rfl) (by kernel_rfl) (fun _ _ _ h => h) (Or.inl ⟨by rfl, fun w' _ => by go_simp⟩) h3 ?_
          refine wpAnyH_ready (rs := [15]) (by kernel_rfl) (by simp) ?_
          refine AllReadyH.cons rfl (fun K hK => ?_) AllReadyH.nil
          go_simp
          refine Calls.mono (sizeL GB.out.ld) ?_
          rintro e wc ⟨rfl, h9⟩
          subst h9
          refine hK.out _ _ h3 (fun h4 => ?_)
          clear hK K
          refine wpAnyH_take (i := 17) (v := .bool true) rfl (by kernel_rfl) (by kernel_rfl) (by kernel_rfl) (fun _ _ _ h => h) (Or.inl ⟨by rfl, fun w' _ => by go_simp⟩) h4 ?_
          refine wpAnyH_take (i := 18) (v := .bool true) rfl (by kernel_rfl) (by kernel_rfl) (by kernel_rfl) (fun _ _ _ h => h) (Or.inl ⟨by rfl, fun w' _ => by go_simp⟩) h4 ?_
          refine wpAnyH_take (i := 19) (v := .bool true) rfl (by kernel_rfl) (by kernel_rfl) (by kernel_rfl) (fun _ _ _ h => h) (Or.inl ⟨by rfl, fun w' _ => by go_simp⟩) h4 ?_
          refine wpAnyH_take (i := 20) (v := .pointer (some ⟨w2.heap.size + 2, 0, none⟩)) rfl (by kernel_rfl) (by kernel_rfl) (by kernel_rfl) (fun _ _ _ h => h) (Or.inl ⟨by rfl, fun w' _ => by go_simp⟩) h4 ?_
          refine wpAnyH_ready (rs := [21]) (by kernel_rfl) (by simp) ?_
          refine AllReadyH.cons rfl (fun K hK => ?_) AllReadyH.nil
          go_simp
          refine Calls.mono (pendingL GB.out.ld) ?_
          rintro e wd ⟨ad, rfl, chd⟩
          have FIN : Hid (Below w.heap.size w wd) := GB.out.bel.trans (chd.below GB.out.bel.size (fun i e => by omega))
          refine hK.out _ _ ((Rw.cell (Rw.chg1 GB.out.ref chd (by omega)) 0).trans HCS.out) (fun h5 => ?_)
          clear hK K
          refine wpAnyH_take (i := 22) (v := .int .i64 0) rfl (by kernel_rfl) (by kernel_rfl) (by kernel_rfl) (fun _ _ _ h => h) (Or.inl ⟨by rfl, fun w' _ => by go_simp⟩) h5 ?_
          refine wpAnyH_take (i := 23) (v := .bool true) rfl (by kernel_rfl) (by kernel_rfl) (by kernel_rfl) (fun _ _ _ h => h) (Or.inl ⟨by rfl, fun w' _ => by go_simp⟩) h5 ?_
          refine wpAnyH_take (i := 24) (v := .bool true) rfl (by kernel_rfl) (by kernel_rfl) (by kernel_rfl) (fun _ _ _ h => h) (Or.inl ⟨by rfl, fun w' _ => by go_simp⟩) h5 ?_
          refine wpAnyH_take (i := 25) (v := .bool true) rfl (by kernel_rfl) (by kernel_rfl) (by kernel_rfl) (fun _ _ _ h => h) (Or.inl ⟨by rfl, fun w' _ => by go_simp⟩) h5 ?_
          refine wpAnyH_done (by kernel_rfl) ?_ _
          clear h1 h2 h3 h4 h5 hH chd
          go_wp2_with fail
          go_ret
          exact ⟨rfl, FIN.out⟩
end Go.Proofs.Ytibcpokfgogopab
