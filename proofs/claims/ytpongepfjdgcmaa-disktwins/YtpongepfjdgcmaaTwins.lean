/-
  The walk of DiskTwins.
-/
import Derived.Test.YtpongepfjdgcmaaTwinsA
namespace Go.Proofs.Ytpongepfjdgcmaa
open Go.RowKit Go.RwLone

set_option maxRecDepth 100000 in
set_option maxHeartbeats 8000000 in
theorem twins_any {W : World} (s z : Int) {a1 : Option Addr} {N1 c1 : Nat} {ac1 : Nat → Ac} {kls1 : Nat → List Bool} (h1 : AcK W W.heap.size a1 N1 ac1 kls1) (hN1 : N1 * 88 ≤ 140737488351232) {a2 : Option Addr} {N2 c2 : Nat} {ac2 : Nat → Ac} {kls2 : Nat → List Bool} (h2 : AcK W W.heap.size a2 N2 ac2 kls2) (hN2 : N2 * 88 ≤ 140737488351232) :
    Calls Try.prog 8 #[.int .i64 s, .int .i64 z, .slice a1 N1 c1, .slice a2 N2 c2] W fun e w' => e = .returned (.bool true) ∧ Below W.heap.size W w' := by
  have BA : Hid _ := base_any (w := W) s z
  obtain ⟨B, hB⟩ : ∃ B, B = W.heap.size := ⟨_, rfl⟩
  rw [← hB] at h1 h2
  have H1 : Hid _ := h1
  have H2 : Hid _ := h2
  clear h1 h2
  go_enter Try.func8, Try.ntmps8
  go_wp2_with fail
  refine Calls.mono BA.out ?_
  rintro e w9 ⟨⟨S', z', rfl, hS1, hS2, hz⟩, h9⟩
  subst h9
  obtain ⟨S, rfl⟩ : ∃ S : Nat, S' = S := ⟨S'.toNat, by omega⟩
  obtain ⟨Z, rfl⟩ : ∃ Z : Nat, z' = Z := ⟨z'.toNat, by omega⟩
  have hok : okDisk S Z := by
    refine ⟨by unfold fits; omega, by omega, by omega, ?_⟩
    rcases hz with h | h | h <;> rw [h] <;> omega
  have NY : Hid _ := new_yes (w := W) S Z hok
  have hSZ : S * Z ≤ 16777216 := by
    have : S * Z ≤ 16 * 512 := Nat.mul_le_mul (by omega) (by omega)
    omega
  have HSZ : Hid _ := hSZ
  clear BA hok hSZ
  go_wp2_with fail
  refine Calls.mono NY.out ?_
  rintro e w1 ⟨rfl, dk1, bl1⟩
  have hmd := AB.made dk1 (by omega)
  rw [← hB] at bl1
  have hds1 : Ds w1 B S Z (one (sp (W.heap.size + 2) 0 ⟨⟨0, -1, false, 0, 0, 0, 0⟩, fun _ => [], fun _ => none⟩)) (fun _ => False) := Ds.one (s := sp (W.heap.size + 2) 0 ⟨⟨0, -1, false, 0, 0, 0, 0⟩, fun _ => [], fun _ => none⟩) hmd (fun g hg => by omega) (by rw [hB]; exact bl1.size)
  obtain ⟨p, hp⟩ : ∃ p, p = W.heap.size + 2 := ⟨_, rfl⟩
  rw [← hp] at hds1 ⊢
  have B1 : Hid (Below B W w1) := bl1
  have hBW : Hid (B ≤ W.heap.size) := by show B ≤ _; omega
  have HB : Hid _ := hB
  have DS1 : Hid _ := hds1
  clear NY dk1 bl1 hp hB hmd hds1
  go_wp2_with fail
  go_loopg [13] (N1 + 1) (fun gk si wr => ∃ i : Nat, si = .int .i64 i ∧ i ≤ N1 ∧ N1 < gk + i ∧ Hid (Below B W wr ∧ ∃ st : St, Ds wr B S Z (one (sp p i st)) (fun _ => False) ∧ (-1 ≤ st.x.fuse ∧ st.x.fuse ≤ 9223372036854775807) ∧ ∀ t, S ≤ t → st.F t = none))
  case atStart => exact ⟨0, rfl, by omega, by omega, B1.out, _, DS1.out, ⟨by decide, by decide⟩, fun _ _ => rfl⟩
  case round =>
    obtain ⟨i, rfl, hi, hgk, hid⟩ := hrel
    clear B1 DS1
    obtain ⟨bel, st, ds, hf, hFS⟩ := hid.out
    clear hid
    by_cases hiN : i = N1
    · subst hiN
      obtain ⟨n, hn, hnb⟩ : ∃ n : Nat, st.x.pend = n ∧ n ≤ i := ds.pn (i := 0) (s := sp p i st) rfl
      have IM0 : Hid _ := ds.imageS (i := 0) (b := i) rfl hFS (by omega) (by omega) HSZ.out
      have HF : Hid _ := hf
      have HFS : Hid _ := hFS
      have HN : Hid _ := hn
      have BE : Hid _ := bel
      obtain ⟨b, hb⟩ : ∃ b, b = i := ⟨_, rfl⟩
      rw [← hb] at IM0 hnb
      have hbb : b ≤ 1600000000000 := by omega
      clear ds bel hf hFS hn hb
      go_wp2_with fail
      refine Calls.mono IM0.out ?_
      rintro e w4 ⟨gI, rfl, rI4, bl4, _, ds4⟩
      have BE4 : Hid (Below B W w4) := BE.out.trans bl4
      have PE0 : Hid _ := ds4.pendingS (i := 0) (b := b) rfl HN.out (by omega) (by omega)
      have RI4 : Hid _ := rI4
      clear IM0 BE bl4 ds4 rI4
      go_wp2_with fail
      refine Calls.mono PE0.out ?_
      rintro e w5 ⟨gP, P, rfl, rP5, hP, bl5, fr5, ds5⟩
      have BE5 : Hid (Below B W w5) := BE4.out.trans bl5
      have RI5 : Hid _ := fr5 gI _ _ (.inr rfl) RI4.out
      have RP5 : Hid _ := rP5
      have HP : Hid _ := hP
      have OF0 : Hid _ := ds5.offS (i := 0) (b := b) rfl
      clear PE0 BE4 RI4 rP5 hP bl5 fr5 ds5
      go_wp2_with fail
      refine Calls.mono OF0.out ?_
      rintro e w6 ⟨rfl, bl6, fr6, ds6⟩
      have BE6 : Hid (Below B W w6) := BE5.out.trans bl6
      have RI6 : Hid _ := fr6 gI _ _ (.inl (.inr rfl)) RI5.out
      have RP6 : Hid _ := fr6 gP _ _ (.inr rfl) RP5.out
      have SS0 : Hid _ := ds6.statsS (i := 0) (b := b) rfl
      clear OF0 BE5 RI5 RP5 bl6 fr6 ds6
      go_wp2_with fail
      refine Calls.mono SS0.out ?_
      rintro e w7 ⟨rfl, bl7, fr7, ds7⟩
      have b7 : Below B W w7 := BE6.out.trans bl7
      obtain ⟨w8, hw8⟩ : ∃ w8, w8 = w7.alloc (.cells #[.int .u64 st.x.rd, .int .u64 st.x.wr, .int .u64 st.x.fl] 67) := ⟨_, rfl⟩
      obtain ⟨T, hT⟩ : ∃ T, T = w7.heap.size := ⟨_, rfl⟩
      have k8 : Chg (fun _ => False) w7 w8 := by rw [hw8]; exact (Chg.refl _ _).alloc _
      have hs8 : w8.heap.size = T + 1 := by rw [hw8, hT]; simp
      have DS8 : Hid (Ds w8 B S Z (one (sp p b st)) (fun k => k = gI ∨ k = gP ∨ k = T)) := ds7.more (k8.mono (fun _ _ h => h.elim)) (fun g hg => by
        rcases hg with e | e | e
        · exact .inl (.inl (.inr e))
        · exact .inl (.inr e)
        · exact .inr (by omega))
      have RI8 : Hid (Rw w8 gI (bs (imgT Z S st.F)).toArray 5) := ⟨k8.heap_some (fr7 gI _ _ (.inl (.inr rfl)) RI6.out).eq (fun h => h)⟩
      have RP8 : Hid (Rw w8 gP (pcells P).toArray 3) := ⟨k8.heap_some (fr7 gP _ _ (.inr rfl) RP6.out).eq (fun h => h)⟩
      have RT8 : Hid (Rw w8 T #[.int .u64 st.x.rd, .int .u64 st.x.wr, .int .u64 st.x.fl] 67) := by rw [hw8, hT]; exact ⟨heap_alloc_new _ _⟩
      have BE8 : Hid (Below B W w8) := b7.trans (k8.below (Nat.le_trans hBW.out b7.size) (fun _ h => h.elim))
      have CP : Hid _ := DS8.out.copyS (i := 0) (j := 1) (b := b) rfl rfl HFS.out (by omega) (by omega) (by omega) (by omega)
      clear SS0 BE6 RI6 RP6 bl7 fr7 ds7 b7 k8 hs8 DS8
      go_wp2_with fail
      rw [← hw8, ← hT]
      clear hw8 hT
      refine Calls.mono CP.out ?_
      rintro e w9 ⟨q, rfl, bl9, fr9, ds9⟩
      have K9 : Hid (Below B W w9 ∧ Ds w9 B S Z (two (sp p b st) (sp q (b + 0) (actsF S Z ac2 kls2 0 st))) (fun k => k = gI ∨ k = gP ∨ k = T) ∧ (-1 ≤ (actsF S Z ac2 kls2 0 st).x.fuse ∧ (actsF S Z ac2 kls2 0 st).x.fuse ≤ 9223372036854775807) ∧ (∀ t, S ≤ t → (actsF S Z ac2 kls2 0 st).F t = none) ∧ Rw w9 gI (bs (imgT Z S st.F)).toArray 5 ∧ Rw w9 gP (pcells P).toArray 3 ∧ Rw w9 T #[.int .u64 st.x.rd, .int .u64 st.x.wr, .int .u64 st.x.fl] 67) := by
        rw [updT_two] at ds9
        exact ⟨BE8.out.trans bl9, ds9, HF.out, HFS.out, fr9 _ _ _ (.inl rfl) RI8.out, fr9 _ _ _ (.inr (.inl rfl)) RP8.out, fr9 _ _ _ (.inr (.inr rfl)) RT8.out⟩
      clear CP bl9 fr9 ds9 RI8 RP8 RT8 BE8
      go_wp2_with fail
      go_loopg [19] (N2 + 1) (fun gk si wr => ∃ i : Nat, si = .int .i64 i ∧ i ≤ N2 ∧ N2 < gk + i ∧ Hid (Below B W wr ∧ Ds wr B S Z (two (sp p b st) (sp q (b + i) (actsF S Z ac2 kls2 i st))) (fun k => k = gI ∨ k = gP ∨ k = T) ∧ (-1 ≤ (actsF S Z ac2 kls2 i st).x.fuse ∧ (actsF S Z ac2 kls2 i st).x.fuse ≤ 9223372036854775807) ∧ (∀ t, S ≤ t → (actsF S Z ac2 kls2 i st).F t = none) ∧ Rw wr gI (bs (imgT Z S st.F)).toArray 5 ∧ Rw wr gP (pcells P).toArray 3 ∧ Rw wr T #[.int .u64 st.x.rd, .int .u64 st.x.wr, .int .u64 st.x.fl] 67))
      case atStart => exact ⟨0, rfl, by omega, by omega, K9.out⟩
      case round =>
        obtain ⟨i, rfl, hi2, hgk2, hid⟩ := hrel
        clear K9
        obtain ⟨bel, ds, hf, hFS, rI, rP, rT⟩ := hid.out
        clear hid
        by_cases hiN2 : i = N2
        · subst hiN2
          have kd : Chg (fun k => k = gI ∨ k = gP ∨ k = T) wr wr.drew := ⟨rfl, rfl, rfl, Nat.le_refl _, fun _ _ _ => rfl⟩
          have dsd : Ds wr.drew B S Z _ (fun k => k = gI ∨ k = gP ∨ k = T) := ds.more kd (fun _ h => .inl h)
          have IM1 : Hid _ := dsd.imageS (i := 0) (b := b) rfl HFS.out (by omega) (by omega) HSZ.out
          have BE : Hid (Below B W wr.drew) := bel.drew
          have RI : Hid (Rw wr.drew gI (bs (imgT Z S st.F)).toArray 5) := ⟨rI.eq⟩
          have RP : Hid (Rw wr.drew gP (pcells P).toArray 3) := ⟨rP.eq⟩
          have RT : Hid (Rw wr.drew T #[.int .u64 st.x.rd, .int .u64 st.x.wr, .int .u64 st.x.fl] 67) := ⟨rT.eq⟩
          have s0 : wr.cell? ⟨T, 0, none⟩ = some (.int .u64 st.x.rd) ∧ wr.cell? ⟨T, 1, none⟩ = some (.int .u64 st.x.wr) ∧ wr.cell? ⟨T, 2, none⟩ = some (.int .u64 st.x.fl) := ⟨rT.cell 0, rT.cell 1, rT.cell 2⟩
          have BDN : Hid _ := hf
          have FSN : Hid _ := hFS
          have EQ := eql67
          have hil := imgT_len Z S st.F
          have HIL : Hid _ := hil
          have HPL : Hid (P.length = n) := by have := HP.out.len; show P.length = n; omega
          clear kd dsd ds bel rI rP rT hf hFS hil
          go_upto_region 17 with fail
          refine wp_region_noPanic ?_
          refine wp_region_held_drew (S := fun w' => w'.cell? ⟨T, 0, none⟩ = some (.int .u64 st.x.rd) ∧ w'.cell? ⟨T, 1, none⟩ = some (.int .u64 st.x.wr) ∧ w'.cell? ⟨T, 2, none⟩ = some (.int .u64 st.x.fl)) (by kernel_rfl) s0 (fun hH => ?_)
          refine wpAnyH_take (i := 0) (v := .pointer (some ⟨p, 0, none⟩)) rfl (by kernel_rfl) (by kernel_rfl) (by kernel_rfl) (fun _ _ _ h => h) (Or.inl ⟨by rfl, fun w' hw' => by go_simp⟩) hH ?_
          refine wpAnyH_take (i := 2) (v := .slice (some ⟨gI, 0, none⟩) (S * Z) (S * Z)) rfl (by kernel_rfl) (by kernel_rfl) (by kernel_rfl) (fun _ _ _ h => h) (Or.inl ⟨by rfl, fun w' hw' => by go_simp⟩) hH ?_
          refine wpAnyH_ready (rs := [1]) (by kernel_rfl) (by simp) ?_
          refine AllReadyH.cons rfl (fun KK hKK => ?_) AllReadyH.nil
          go_simp
          refine Calls.mono IM1.out ?_
          rintro e w4 ⟨gJ, rfl, rJ, bl4, fr4, ds4⟩
          have BE4 : Hid (Below B W w4) := BE.out.trans bl4
          have rI4 := fr4 gI _ _ (.inl rfl) RI.out
          have RP4 : Hid _ := fr4 gP _ _ (.inr (.inl rfl)) RP.out
          have RT4 : Hid _ := fr4 T _ _ (.inr (.inr rfl)) RT.out
          have SM : Hid _ := same_src (src_row rJ HIL.out) (src_row rI4 HIL.out) (by rw [HIL.out]; have := HSZ.out; omega)
          have DS4 : Hid _ := ds4
          refine hKK.out _ _ ⟨RT4.out.cell 0, RT4.out.cell 1, RT4.out.cell 2⟩ (fun hS4 => ?_)
          clear hKK KK IM1 BE RI RP RT bl4 fr4 ds4 rI4 rJ s0 hH
          refine wpAnyH_ready (rs := [3]) (by kernel_rfl) (by simp) ?_
          refine AllReadyH.cons rfl (fun KK hKK => ?_) AllReadyH.nil
          go_simp
          refine Calls.mono SM.out ?_
          rintro e w5 ⟨rfl, m5, h5⟩
          have c5 : Chg (fun _ => False) w4 w5 := by rw [h5]; exact ⟨rfl, rfl, rfl, Nat.le_refl _, fun _ _ _ => rfl⟩
          have BE5 : Hid (Below B W w5) := BE4.out.trans (c5.below (Nat.le_trans hBW.out BE4.out.size) (fun _ h => h.elim))
          have RP5 : Hid (Rw w5 gP (pcells P).toArray 3) := ⟨c5.heap_some RP4.out.eq (fun h => h)⟩
          have RT5 : Hid (Rw w5 T #[.int .u64 st.x.rd, .int .u64 st.x.wr, .int .u64 st.x.fl] 67) := ⟨c5.heap_some RT4.out.eq (fun h => h)⟩
          have ds5 : Ds w5 B S Z _ (fun k => k = gP ∨ k = T) := DS4.out.more (c5.mono (fun _ _ h => h.elim)) (fun g hg => by
            rcases hg with e | e
            · exact .inl (.inl (.inr (.inl e)))
            · exact .inl (.inl (.inr (.inr e))))
          have PE : Hid _ := ds5.pendingS (i := 0) (b := b) rfl HN.out (by omega) (by omega)
          refine hKK.out _ _ ⟨RT5.out.cell 0, RT5.out.cell 1, RT5.out.cell 2⟩ (fun hS5 => ?_)
          clear hKK KK SM BE4 RP4 RT4 DS4 c5 h5 ds5 hS4
          refine wpAnyH_take (i := 4) (v := .bool false) rfl (by kernel_rfl) (by kernel_rfl) (by kernel_rfl) (fun _ _ _ h => h) (Or.inl ⟨by rfl, fun w' hw' => by go_simp⟩) hS5 ?_
          refine wpAnyH_take (i := 5) (v := .bool false) rfl (by kernel_rfl) (by kernel_rfl) (by kernel_rfl) (fun _ _ _ h => h) (Or.inl ⟨by rfl, fun w' hw' => by go_simp⟩) hS5 ?_
          refine wpAnyH_take (i := 6) (v := .pointer (some ⟨p, 0, none⟩)) rfl (by kernel_rfl) (by kernel_rfl) (by kernel_rfl) (fun _ _ _ h => h) (Or.inl ⟨by rfl, fun w' hw' => by go_simp⟩) hS5 ?_
          refine wpAnyH_take (i := 8) (v := .slice (some ⟨gP, 0, none⟩) n n) rfl (by kernel_rfl) (by kernel_rfl) (by kernel_rfl) (fun _ _ _ h => h) (Or.inl ⟨by rfl, fun w' hw' => by go_simp⟩) hS5 ?_
          refine wpAnyH_ready (rs := [7]) (by kernel_rfl) (by simp) ?_
          refine AllReadyH.cons rfl (fun KK hKK => ?_) AllReadyH.nil
          go_simp
          refine Calls.mono PE.out ?_
          rintro e w6 ⟨gQ, P', rfl, rQ, hP', bl6, fr6, ds6⟩
          obtain rfl : P' = P := hP'.uniq HP.out
          have BE6 : Hid (Below B W w6) := BE5.out.trans bl6
          have rP6 := fr6 gP _ _ (.inl rfl) RP5.out
          have RT6 : Hid _ := fr6 T _ _ (.inr rfl) RT5.out
          have SI : Hid _ := same_ints rQ rP6 HPL.out (by omega)
          have DS6 : Hid _ := ds6
          refine hKK.out _ _ ⟨RT6.out.cell 0, RT6.out.cell 1, RT6.out.cell 2⟩ (fun hS6 => ?_)
          clear hKK KK PE BE5 RP5 RT5 bl6 fr6 ds6 rP6 rQ hP' hS5
          refine wpAnyH_ready (rs := [9]) (by kernel_rfl) (by simp) ?_
          refine AllReadyH.cons rfl (fun KK hKK => ?_) AllReadyH.nil
          go_simp
          refine Calls.mono SI.out ?_
          rintro e w7 ⟨rfl, m7, h7⟩
          have c7 : Chg (fun _ => False) w6 w7 := by rw [h7]; exact ⟨rfl, rfl, rfl, Nat.le_refl _, fun _ _ _ => rfl⟩
          have BE7 : Hid (Below B W w7) := BE6.out.trans (c7.below (Nat.le_trans hBW.out BE6.out.size) (fun _ h => h.elim))
          have RT7 : Hid (Rw w7 T #[.int .u64 st.x.rd, .int .u64 st.x.wr, .int .u64 st.x.fl] 67) := ⟨c7.heap_some RT6.out.eq (fun h => h)⟩
          have ds7 : Ds w7 B S Z _ (fun k => k = T) := DS6.out.more (c7.mono (fun _ _ h => h.elim)) (fun g hg => .inl (.inl (.inr hg)))
          have OF : Hid _ := ds7.offS (i := 0) (b := b) rfl
          refine hKK.out _ _ ⟨RT7.out.cell 0, RT7.out.cell 1, RT7.out.cell 2⟩ (fun hS7 => ?_)
          clear hKK KK SI BE6 RT6 DS6 c7 h7 ds7 hS6
          refine wpAnyH_take (i := 10) (v := .bool false) rfl (by kernel_rfl) (by kernel_rfl) (by kernel_rfl) (fun _ _ _ h => h) (Or.inl ⟨by rfl, fun w' hw' => by go_simp⟩) hS7 ?_
          refine wpAnyH_take (i := 11) (v := .bool false) rfl (by kernel_rfl) (by kernel_rfl) (by kernel_rfl) (fun _ _ _ h => h) (Or.inl ⟨by rfl, fun w' hw' => by go_simp⟩) hS7 ?_
          refine wpAnyH_take (i := 12) (v := .bool false) rfl (by kernel_rfl) (by kernel_rfl) (by kernel_rfl) (fun _ _ _ h => h) (Or.inl ⟨by rfl, fun w' hw' => by go_simp⟩) hS7 ?_
          refine wpAnyH_take (i := 13) (v := .pointer (some ⟨p, 0, none⟩)) rfl (by kernel_rfl) (by kernel_rfl) (by kernel_rfl) (fun _ _ _ h => h) (Or.inl ⟨by rfl, fun w' hw' => by go_simp⟩) hS7 ?_
          refine wpAnyH_take (i := 15) (v := .bool st.x.off) rfl (by kernel_rfl) (by kernel_rfl) (by kernel_rfl) (fun _ _ _ h => h) (Or.inl ⟨by rfl, fun w' hw' => by go_simp⟩) hS7 ?_
          refine wpAnyH_ready (rs := [14]) (by kernel_rfl) (by simp) ?_
          refine AllReadyH.cons rfl (fun KK hKK => ?_) AllReadyH.nil
          go_simp
          refine Calls.mono OF.out ?_
          rintro e w8 ⟨rfl, bl8, fr8, ds8⟩
          have BE8 : Hid (Below B W w8) := BE7.out.trans bl8
          have RT8 : Hid _ := fr8 T _ _ rfl RT7.out
          have SS : Hid _ := ds8.statsS (i := 0) (b := b) rfl
          refine hKK.out _ _ ⟨RT8.out.cell 0, RT8.out.cell 1, RT8.out.cell 2⟩ (fun hS8 => ?_)
          clear hKK KK OF BE7 RT7 bl8 fr8 ds8 hS7
          refine wpAnyH_take (i := 16) (v := .bool false) rfl (by kernel_rfl) (by kernel_rfl) (by kernel_rfl) (fun _ _ _ h => h) (Or.inl ⟨by rfl, fun w' hw' => by go_simp⟩) hS8 ?_
          refine wpAnyH_take (i := 17) (v := .bool false) rfl (by kernel_rfl) (by kernel_rfl) (by kernel_rfl) (fun _ _ _ h => h) (Or.inl ⟨by rfl, fun w' hw' => by go_simp⟩) hS8 ?_
          refine wpAnyH_take (i := 18) (v := .bool false) rfl (by kernel_rfl) (by kernel_rfl) (by kernel_rfl) (fun _ _ _ h => h) (Or.inl ⟨by rfl, fun w' hw' => by go_simp⟩) hS8 ?_
          refine wpAnyH_take (i := 19) (v := .pointer (some ⟨p, 0, none⟩)) rfl (by kernel_rfl) (by kernel_rfl) (by kernel_rfl) (fun _ _ _ h => h) (Or.inl ⟨by rfl, fun w' hw' => by go_simp⟩) hS8 ?_
          refine wpAnyH_take (i := 21) (v := .agg #[.int .u64 st.x.rd, .int .u64 st.x.wr, .int .u64 st.x.fl]) rfl (by kernel_rfl) (by kernel_rfl) (by kernel_rfl) (fun _ _ _ h => h) (Or.inl ⟨by rfl, fun w' hw' => by obtain ⟨q0, q1, q2⟩ := hw'; go_simp⟩) hS8 ?_
          refine wpAnyH_ready (rs := [20]) (by kernel_rfl) (by simp) ?_
          refine AllReadyH.cons rfl (fun KK hKK => ?_) AllReadyH.nil
          go_simp
          refine Calls.mono SS.out ?_
          rintro e w9 ⟨rfl, bl9, fr9, ds9⟩
          have BE9 : Hid (Below B W w9) := BE8.out.trans bl9
          have rT9 := fr9 T _ _ rfl RT8.out
          have DS9 : Hid (Ds w9 B S Z (two (sp p (b + 0) (actsF S Z ac2 kls2 0 st)) (sp q (b + i) (actsF S Z ac2 kls2 i st))) (fun k => k = T)) := ds9
          refine hKK.out _ _ ⟨rT9.cell 0, rT9.cell 1, rT9.cell 2⟩ (fun hS9 => ?_)
          clear hKK KK SS BE8 RT8 bl9 fr9 ds9 hS8 rT9
          refine wpAnyH_take (i := 22) (v := .bool false) rfl (by kernel_rfl) (by kernel_rfl) (by kernel_rfl) (fun _ _ _ h => h) (Or.inl ⟨by rfl, fun w' hw' => by go_simp⟩) hS9 ?_
          refine wpAnyH_take (i := 23) (v := .bool false) rfl (by kernel_rfl) (by kernel_rfl) (by kernel_rfl) (fun _ _ _ h => h) (Or.inl ⟨by rfl, fun w' hw' => by go_simp⟩) hS9 ?_
          refine wpAnyH_done (by kernel_rfl) (NoPanic.normal ?_) _
          clear hS9 HIL HPL HP HN
          have K9 : Hid (Below B W w9 ∧ Ds w9 B S Z (two (sp p (b + 0) (actsF S Z ac2 kls2 0 st)) (sp q (b + i) (actsF S Z ac2 kls2 i st))) (fun _ => False) ∧ (-1 ≤ (actsF S Z ac2 kls2 0 st).x.fuse ∧ (actsF S Z ac2 kls2 0 st).x.fuse ≤ 9223372036854775807) ∧ (∀ t, S ≤ t → (actsF S Z ac2 kls2 0 st).F t = none)) := ⟨BE9.out, DS9.out.more (Chg.refl _ _) (fun _ h => h.elim), HF.out, HFS.out⟩
          obtain ⟨N, hN⟩ : ∃ N, N = i := ⟨_, rfl⟩
          subst hN
          clear BE9 DS9
          go_wp2_with fail
          go_loopg [20] (N + 1) (fun gk si wr => ∃ i : Nat, si = .int .i64 i ∧ i ≤ N ∧ N < gk + i ∧ Hid (Below B W wr ∧ Ds wr B S Z (two (sp p (b + i) (actsF S Z ac2 kls2 i st)) (sp q (b + N) (actsF S Z ac2 kls2 N st))) (fun _ => False) ∧ (-1 ≤ (actsF S Z ac2 kls2 i st).x.fuse ∧ (actsF S Z ac2 kls2 i st).x.fuse ≤ 9223372036854775807) ∧ (∀ t, S ≤ t → (actsF S Z ac2 kls2 i st).F t = none)))
          case atStart => exact ⟨0, rfl, by omega, by omega, K9.out⟩
          case round =>
            obtain ⟨i, rfl, hi3, hgk3, hid⟩ := hrel
            clear K9
            obtain ⟨bel, ds, hf, hFS⟩ := hid.out
            clear hid
            by_cases hiN3 : i = N
            · subst hiN3
              obtain ⟨sN, hsN⟩ : ∃ sN, sN = actsF S Z ac2 kls2 i st := ⟨_, rfl⟩
              rw [← hsN] at ds hf hFS
              obtain ⟨bN, hbN⟩ : ∃ bN, bN = b + i := ⟨_, rfl⟩
              rw [← hbN] at ds
              have hbb2 : bN ≤ 3300000000000 := by omega
              obtain ⟨nN, hnN, hnb2⟩ : ∃ n : Nat, sN.x.pend = n ∧ n ≤ bN := ds.pn (i := 0) (s := sp p bN sN) rfl
              have FS9 : Hid _ := hFS
              have BD9 : Hid _ := hf
              have HNN : Hid _ := hnN
              have IMA : Hid _ := ds.imageS (i := 0) (b := bN) rfl hFS (by omega) (by omega) HSZ.out
              have BE : Hid _ := bel
              clear ds hf hFS hnN bel hsN hbN BDN FSN HF HFS
              go_wp2_with fail
              refine Calls.mono IMA.out ?_
              rintro e wa ⟨gA, rfl, rA, bla, _, dsa⟩
              have BEa : Hid (Below B W wa) := BE.out.trans bla
              have IMB : Hid _ := dsa.imageS (i := 1) (b := bN) rfl FS9.out (by omega) (by omega) HSZ.out
              have RA : Hid _ := rA
              clear IMA BE bla dsa rA
              go_wp2_with fail
              refine Calls.mono IMB.out ?_
              rintro e wb ⟨gB, rfl, rB, blb, frb, dsb⟩
              have BEb : Hid (Below B W wb) := BEa.out.trans blb
              have rAb := frb gA _ _ (.inr rfl) RA.out
              have hil := imgT_len Z S sN.F
              have SM : Hid _ := same_src (src_row rAb hil) (src_row rB hil) (by rw [hil]; have := HSZ.out; omega)
              have DSb : Hid _ := dsb
              clear IMB BEa blb frb dsb rAb rB RA hil
              go_wp2_with fail
              refine Calls.mono SM.out ?_
              rintro e wc ⟨rfl, mc, hc⟩
              have cc : Chg (fun _ => False) wb wc := by rw [hc]; exact ⟨rfl, rfl, rfl, Nat.le_refl _, fun _ _ _ => rfl⟩
              have BEc : Hid (Below B W wc) := BEb.out.trans (cc.below (Nat.le_trans hBW.out BEb.out.size) (fun _ h => h.elim))
              have dsc : Ds wc B S Z _ (fun _ => False) := DSb.out.more (cc.mono (fun _ _ h => h.elim)) (fun _ h => h.elim)
              have PEA : Hid _ := dsc.pendingS (i := 0) (b := bN) rfl HNN.out (by omega) (by omega)
              clear SM BEb DSb cc hc dsc
              go_wp2_with fail
              refine Calls.mono PEA.out ?_
              rintro e wd ⟨gC, PA, rfl, rC, hPA, bld, _, dsd⟩
              have BEd : Hid (Below B W wd) := BEc.out.trans bld
              have PEB : Hid _ := dsd.pendingS (i := 1) (b := bN) rfl HNN.out (by omega) (by omega)
              have RC : Hid _ := rC
              have HPA : Hid _ := hPA
              clear PEA BEc bld dsd rC hPA
              go_wp2_with fail
              refine Calls.mono PEB.out ?_
              rintro e we ⟨gD, PB, rfl, rD, hPB, ble, fre, dse⟩
              have ePP : PB = PA := hPB.uniq HPA.out
              rw [ePP] at rD
              have BEe : Hid (Below B W we) := BEd.out.trans ble
              have rCe := fre gC _ _ (.inr rfl) RC.out
              have SI : Hid _ := same_ints rCe rD (n := nN) (by have := HPA.out.len; omega) (by omega)
              have DSe : Hid _ := dse
              clear PEB BEd ble fre dse rCe rD RC HPA hPB ePP
              go_wp2_with fail
              refine Calls.mono SI.out ?_
              rintro e wf ⟨rfl, mf, hf9⟩
              have cf : Chg (fun _ => False) we wf := by rw [hf9]; exact ⟨rfl, rfl, rfl, Nat.le_refl _, fun _ _ _ => rfl⟩
              have BEf : Hid (Below B W wf) := BEe.out.trans (cf.below (Nat.le_trans hBW.out BEe.out.size) (fun _ h => h.elim))
              have dsf : Ds wf B S Z _ (fun _ => False) := DSe.out.more (cf.mono (fun _ _ h => h.elim)) (fun _ h => h.elim)
              have OFA : Hid _ := dsf.offS (i := 0) (b := bN) rfl
              clear SI BEe DSe cf hf9 dsf
              go_wp2_with fail
              refine Calls.mono OFA.out ?_
              rintro e wg ⟨rfl, blg, _, dsg⟩
              have BEg : Hid (Below B W wg) := BEf.out.trans blg
              have OFB : Hid _ := dsg.offS (i := 1) (b := bN) rfl
              clear OFA BEf blg dsg
              go_wp2_with fail
              refine Calls.mono OFB.out ?_
              rintro e wh ⟨rfl, blh, _, dsh⟩
              have BEh : Hid (Below B W wh) := BEg.out.trans blh
              have SSA : Hid _ := dsh.statsS (i := 0) (b := bN) rfl
              clear OFB BEg blh dsh
              go_wp2_with fail
              refine Calls.mono SSA.out ?_
              rintro e wi ⟨rfl, bli, _, dsi⟩
              have BEi : Hid (Below B W wi) := BEh.out.trans bli
              have SSB : Hid _ := dsi.statsS (i := 1) (b := bN) rfl
              clear SSA BEh bli dsi
              go_wp2_with fail
              refine Calls.mono SSB.out ?_
              rintro e wj ⟨rfl, blj, _, dsj⟩
              have BEj : Hid (Below B W wj) := BEi.out.trans blj
              have ERA : Hid _ := dsj.eraS (i := 0) (b := bN) rfl
              clear SSB BEi blj dsj
              go_wp2_with fail
              refine Calls.mono ERA.out ?_
              rintro e wk ⟨rfl, blk, _, dsk⟩
              have BEk : Hid (Below B W wk) := BEj.out.trans blk
              have ERB : Hid _ := dsk.eraS (i := 1) (b := bN) rfl
              clear ERA BEj blk dsk
              go_wp2_with fail
              refine Calls.mono ERB.out ?_
              rintro e wl ⟨rfl, bll, _, dsl⟩
              have BEl : Hid (Below B W wl) := BEk.out.trans bll
              obtain ⟨Bl, al, hBl, _⟩ := dsl.step (i := 0) (s := sp p bN sN) rfl
              have al' : AB wl Bl p S Z bN sN.x sN.A sN.F := al
              have CR : Hid _ := al'.crash (by omega) (by omega) (by omega) (a := none) (n := 0) (cN := 0) (kl := []) ⟨rfl, fun i hi => by omega, by omega⟩ (fun g o h0 _ => by omega) (-1) 0
              have HBL : Hid _ := hBl
              have HBp : Hid (Bl p) := al'.bp
              clear ERB BEk bll dsl al al' hBl
              go_wp2_with fail
              refine Calls.mono CR.out ?_
              rintro e wm ⟨rfl, chm, abm⟩
              have BEm : Hid (Below B W wm) := BEl.out.trans (chm.below (Nat.le_trans hBW.out BEl.out.size) HBL.out)
              have hBlm : ∀ g, grB Bl wl wm g → B ≤ g := fun g hg => by
                rcases hg with e | e
                · exact HBL.out g e
                · have h8 := Nat.le_trans hBW.out BEl.out.size
                  omega
              have HBM : Hid _ := hBlm
              have ABM : Hid _ := abm
              have WR : Hid _ := fun wq => written_fit (w := wq) (Z : Int) 0 0 0 9 0 0 0 (.slice none 0 0) 0 Z (by omega) (by omega) (by omega) (by omega) (by omega)
              clear CR BEl chm abm hBlm HBL
              go_wp2_with fail
              refine Calls.mono (WR.out _) ?_
              rintro e wn ⟨gw, rfl, rwn, hgn, beln⟩
              have kn : Chg (fun _ => False) wm wn := Chg.of_below beln (fun _ => False)
              have bn : Below B W wn := BEm.out.trans (kn.below (Nat.le_trans hBW.out BEm.out.size) (fun _ h => h.elim))
              have hlz := wrB_len 9 Z
              have hpm := ABM.out.low p ABM.out.bp
              have WX : Hid _ := (ABM.out.frame kn (fun _ _ h => h)).write (src_row rwn hlz) hlz (by omega) (by omega) 0 (by omega) (by omega) (by omega) (by show (-1 : Int) ≤ -1; decide) (by show (-1 : Int) ≤ 9223372036854775807; decide) rfl (by simp [Value.ownBlock]; omega) (pn := 0) rfl
              have BN : Hid _ := bn
              clear WR ABM BEm rwn hgn beln kn bn hlz hpm
              go_wp2_with fail
              refine Calls.mono WX.out ?_
              rintro e wo ⟨rfl, cho, abo⟩
              have BO : Hid (Below B W wo) := BN.out.trans (cho.below (Nat.le_trans hBW.out BN.out.size) HBM.out)
              have PEZ : Hid _ := abo.pending (n := 1) (by omega) rfl (by omega)
              have hBo : ∀ g, g = p → B ≤ g := fun g e => by rw [e]; exact HBM.out p (.inl HBp.out)
              clear WX BN cho abo
              go_wp2_with fail
              refine Calls.mono PEZ.out ?_
              rintro e wp ⟨gz, PZ, rfl, _, _, _, chp, _⟩
              have bp : Below W.heap.size W wp := by
                rw [← HB.out]
                exact BO.out.trans (chp.below (Nat.le_trans hBW.out BO.out.size) hBo)
              have BP : Hid _ := bp
              clear PEZ bp chp hBo
              go_wp2_with fail
              go_ret
              exact ⟨rfl, BP.out⟩
            · have hil3 : (i : Int) < (N : Int) := by omega
              obtain ⟨ga, oa, rfl, hcells⟩ := H2.out.cell bel (i := i) (by omega)
              have hkb := H2.out.kept bel (i := i) (by omega)
              have hlow := H2.out.low (i := i) (by omega)
              have hnm := H2.out.acs.nm i (by omega)
              have hfl := H2.out.acs.fl i (by omega)
              have hls := H2.out.ls i (by omega)
              have ac9 := ds.act (i := 0) (s := sp p (b + i) (actsF S Z ac2 kls2 i st)) rfl hf (by omega) (by omega) (by omega) (by show b + i < _; omega) (ac2 i) hkb hlow hnm hfl hls
              have LOW : Hid _ := ds.low (i := 0) (s := sp p (b + i) (actsF S Z ac2 kls2 i st)) rfl
              have HFS : Hid _ := hFS
              obtain ⟨T, hT⟩ : ∃ T, T = ac2 i := ⟨_, rfl⟩
              rw [← hT] at hcells ac9
              have EC : Hid _ := hT
              clear hT
              obtain ⟨on, kd, nm, fl, less, at_, mask, ka, kn, kc, torn⟩ := T
              have d0 : wr.cell? ⟨ga, oa + i * 9, none⟩ = some (.int .i64 on) := hcells 0 _ rfl
              have d1 : wr.cell? ⟨ga, oa + i * 9 + 1, none⟩ = some (.int .i64 kd) := hcells 1 _ rfl
              have d2 : wr.cell? ⟨ga, oa + i * 9 + 2, none⟩ = some (.int .i64 nm) := hcells 2 _ rfl
              have d3 : wr.cell? ⟨ga, oa + i * 9 + 3, none⟩ = some (.int .u8 fl) := hcells 3 _ rfl
              have d4 : wr.cell? ⟨ga, oa + i * 9 + 4, none⟩ = some (.int .i64 less) := hcells 4 _ rfl
              have d5 : wr.cell? ⟨ga, oa + i * 9 + 5, none⟩ = some (.int .i64 at_) := hcells 5 _ rfl
              have d6 : wr.cell? ⟨ga, oa + i * 9 + 6, none⟩ = some (.int .u8 mask) := hcells 6 _ rfl
              have d7 : wr.cell? ⟨ga, oa + i * 9 + 7, none⟩ = some (.slice ka kn kc) := hcells 7 _ rfl
              have d8 : wr.cell? ⟨ga, oa + i * 9 + 8, none⟩ = some (.int .i64 torn) := hcells 8 _ rfl
              have BE : Hid _ := bel
              have AC : Hid _ := ac9
              unfold Ac.cells actC at AC
              clear ds bel hkb hlow hcells hFS hf ac9 hnm hfl hls
              go_wp2_with fail
              refine Calls.mono AC.out ?_
              rintro e w4 ⟨rfl, bl4, fr4, bd4, ds4⟩
              have BE4 : Hid (Below B W w4) := BE.out.trans bl4
              have K4 : Hid (Ds w4 B S Z (two (sp p (b + (i + 1)) (actsF S Z ac2 kls2 (i + 1) st)) (sp q (b + N) (actsF S Z ac2 kls2 N st))) (fun _ => False) ∧ (-1 ≤ (actsF S Z ac2 kls2 (i + 1) st).x.fuse ∧ (actsF S Z ac2 kls2 (i + 1) st).x.fuse ≤ 9223372036854775807) ∧ (∀ t, S ≤ t → (actsF S Z ac2 kls2 (i + 1) st).F t = none)) := by
                rw [EC.out] at ds4 bd4
                rw [sp_act, updT_two0] at ds4
                exact ⟨ds4, bd4, actF_FS LOW.out HFS.out⟩
              clear AC bl4 ds4 BE d0 d1 d2 d3 d4 d5 d6 d7 d8 EC LOW HFS bd4 fr4
              go_wp2_with fail
              go_roundg (N - i)
              case measure => omega
              case rel => exact ⟨i + 1, by go_num, by omega, by omega, BE4.out, K4.out⟩
        · have hil : (i : Int) < (N2 : Int) := by omega
          have RI : Hid _ := rI
          have RP : Hid _ := rP
          have RT : Hid _ := rT
          obtain ⟨ga, oa, rfl, hcells⟩ := H2.out.cell bel (i := i) (by omega)
          have hkb := H2.out.kept bel (i := i) (by omega)
          have hlow := H2.out.low (i := i) (by omega)
          have hnm := H2.out.acs.nm i (by omega)
          have hfl := H2.out.acs.fl i (by omega)
          have hls := H2.out.ls i (by omega)
          have ac9 := ds.act (i := 1) (s := sp q (b + i) (actsF S Z ac2 kls2 i st)) rfl hf (by omega) (by omega) (by omega) (by show b + i < _; omega) (ac2 i) hkb hlow hnm hfl hls
          have LOW : Hid _ := ds.low (i := 1) (s := sp q (b + i) (actsF S Z ac2 kls2 i st)) rfl
          have HFS : Hid _ := hFS
          obtain ⟨T, hT⟩ : ∃ T, T = ac2 i := ⟨_, rfl⟩
          rw [← hT] at hcells ac9
          have EC : Hid _ := hT
          clear hT
          obtain ⟨on, kd, nm, fl, less, at_, mask, ka, kn, kc, torn⟩ := T
          have d0 : wr.cell? ⟨ga, oa + i * 9, none⟩ = some (.int .i64 on) := hcells 0 _ rfl
          have d1 : wr.cell? ⟨ga, oa + i * 9 + 1, none⟩ = some (.int .i64 kd) := hcells 1 _ rfl
          have d2 : wr.cell? ⟨ga, oa + i * 9 + 2, none⟩ = some (.int .i64 nm) := hcells 2 _ rfl
          have d3 : wr.cell? ⟨ga, oa + i * 9 + 3, none⟩ = some (.int .u8 fl) := hcells 3 _ rfl
          have d4 : wr.cell? ⟨ga, oa + i * 9 + 4, none⟩ = some (.int .i64 less) := hcells 4 _ rfl
          have d5 : wr.cell? ⟨ga, oa + i * 9 + 5, none⟩ = some (.int .i64 at_) := hcells 5 _ rfl
          have d6 : wr.cell? ⟨ga, oa + i * 9 + 6, none⟩ = some (.int .u8 mask) := hcells 6 _ rfl
          have d7 : wr.cell? ⟨ga, oa + i * 9 + 7, none⟩ = some (.slice ka kn kc) := hcells 7 _ rfl
          have d8 : wr.cell? ⟨ga, oa + i * 9 + 8, none⟩ = some (.int .i64 torn) := hcells 8 _ rfl
          have BE : Hid _ := bel
          have AC : Hid _ := ac9
          unfold Ac.cells actC at AC
          clear ds bel hkb hlow hcells hFS hf ac9 hnm hfl hls rI rP rT
          go_wp2_with fail
          refine Calls.mono AC.out ?_
          rintro e w4 ⟨rfl, bl4, fr4, bd4, ds4⟩
          have BE4 : Hid (Below B W w4) := BE.out.trans bl4
          have K4 : Hid (Ds w4 B S Z (two (sp p b st) (sp q (b + (i + 1)) (actsF S Z ac2 kls2 (i + 1) st))) (fun k => k = gI ∨ k = gP ∨ k = T) ∧ (-1 ≤ (actsF S Z ac2 kls2 (i + 1) st).x.fuse ∧ (actsF S Z ac2 kls2 (i + 1) st).x.fuse ≤ 9223372036854775807) ∧ (∀ t, S ≤ t → (actsF S Z ac2 kls2 (i + 1) st).F t = none) ∧ Rw w4 gI (bs (imgT Z S st.F)).toArray 5 ∧ Rw w4 gP (pcells P).toArray 3 ∧ Rw w4 T #[.int .u64 st.x.rd, .int .u64 st.x.wr, .int .u64 st.x.fl] 67) := by
            rw [EC.out] at ds4 bd4
            rw [sp_act, updT_two1] at ds4
            exact ⟨ds4, bd4, actF_FS LOW.out HFS.out, fr4 _ _ _ (.inl rfl) RI.out, fr4 _ _ _ (.inr (.inl rfl)) RP.out, fr4 _ _ _ (.inr (.inr rfl)) RT.out⟩
          clear RI RP RT
          clear AC bl4 ds4 BE d0 d1 d2 d3 d4 d5 d6 d7 d8 EC LOW HFS bd4 fr4
          go_wp2_with fail
          go_roundg (N2 - i)
          case measure => omega
          case rel => exact ⟨i + 1, by go_num, by omega, by omega, BE4.out, K4.out⟩
    · have hil : (i : Int) < (N1 : Int) := by omega
      obtain ⟨ga, oa, rfl, hcells⟩ := H1.out.cell bel (i := i) (by omega)
      have hkb := H1.out.kept bel (i := i) (by omega)
      have hlow := H1.out.low (i := i) (by omega)
      have hnm := H1.out.acs.nm i (by omega)
      have hfl := H1.out.acs.fl i (by omega)
      have hls := H1.out.ls i (by omega)
      have ac9 := ds.act (i := 0) (s := sp p i st) rfl hf (by omega) (by omega) (by omega) (by show i < _; omega) (ac1 i) hkb hlow hnm hfl hls
      have LOW : Hid _ := ds.low (i := 0) (s := sp p i st) rfl
      have HFS : Hid _ := hFS
      obtain ⟨T, hT⟩ : ∃ T, T = ac1 i := ⟨_, rfl⟩
      rw [← hT] at hcells ac9
      have EC : Hid _ := hT
      clear hT
      obtain ⟨on, kd, nm, fl, less, at_, mask, ka, kn, kc, torn⟩ := T
      have d0 : wr.cell? ⟨ga, oa + i * 9, none⟩ = some (.int .i64 on) := hcells 0 _ rfl
      have d1 : wr.cell? ⟨ga, oa + i * 9 + 1, none⟩ = some (.int .i64 kd) := hcells 1 _ rfl
      have d2 : wr.cell? ⟨ga, oa + i * 9 + 2, none⟩ = some (.int .i64 nm) := hcells 2 _ rfl
      have d3 : wr.cell? ⟨ga, oa + i * 9 + 3, none⟩ = some (.int .u8 fl) := hcells 3 _ rfl
      have d4 : wr.cell? ⟨ga, oa + i * 9 + 4, none⟩ = some (.int .i64 less) := hcells 4 _ rfl
      have d5 : wr.cell? ⟨ga, oa + i * 9 + 5, none⟩ = some (.int .i64 at_) := hcells 5 _ rfl
      have d6 : wr.cell? ⟨ga, oa + i * 9 + 6, none⟩ = some (.int .u8 mask) := hcells 6 _ rfl
      have d7 : wr.cell? ⟨ga, oa + i * 9 + 7, none⟩ = some (.slice ka kn kc) := hcells 7 _ rfl
      have d8 : wr.cell? ⟨ga, oa + i * 9 + 8, none⟩ = some (.int .i64 torn) := hcells 8 _ rfl
      have BE : Hid _ := bel
      have AC : Hid _ := ac9
      unfold Ac.cells actC at AC
      clear ds bel hkb hlow hcells hFS hf ac9 hnm hfl hls
      go_wp2_with fail
      refine Calls.mono AC.out ?_
      rintro e w4 ⟨rfl, bl4, fr4, bd4, ds4⟩
      have BE4 : Hid (Below B W w4) := BE.out.trans bl4
      have K4 : Hid (∃ st : St, Ds w4 B S Z (one (sp p (i + 1) st)) (fun _ => False) ∧ (-1 ≤ st.x.fuse ∧ st.x.fuse ≤ 9223372036854775807) ∧ ∀ t, S ≤ t → st.F t = none) := by
        rw [sp_act, updT_one] at ds4
        exact ⟨_, ds4, bd4, actF_FS LOW.out HFS.out⟩
      clear AC bl4 ds4 BE d0 d1 d2 d3 d4 d5 d6 d7 d8 EC LOW HFS bd4 fr4
      go_wp2_with fail
      go_roundg (N1 - i)
      case measure => omega
      case rel => exact ⟨i + 1, by go_num, by omega, by omega, BE4.out, K4.out⟩
end Go.Proofs.Ytpongepfjdgcmaa
