/-
  The walk of DiskEnds.
-/
import Derived.Test.YtjliibiohgcaeaaEndsA
namespace Go.Proofs.Ytjliibiohgcaeaa
open Go.RowKit Go.RwLone

set_option maxRecDepth 100000 in
set_option maxHeartbeats 8000000 in
theorem ends_any {W : World} (s z : Int) {a1 : Option Addr} {N1 c1 : Nat} {ac1 : Nat → Ac} {kls1 : Nat → List Bool} (h1 : AcK W W.heap.size a1 N1 ac1 kls1) (hN1 : N1 * 88 ≤ 140737488351232) :
    Calls Try.prog 8 #[.int .i64 s, .int .i64 z, .slice a1 N1 c1] W fun e w' => e = .returned (.bool true) ∧ Below W.heap.size W w' := by
  have BA : Hid _ := base_any (w := W) s z
  obtain ⟨B, hB⟩ : ∃ B, B = W.heap.size := ⟨_, rfl⟩
  rw [← hB] at h1
  have H1 : Hid _ := h1
  clear h1
  go_enter Try.func8, Try.ntmps8
  go_wp2_with fail
  refine Calls.mono BA.out ?_
  rintro e w9 ⟨⟨S', z', rfl, hS1, hS2, hz⟩, h9⟩
  subst h9
  obtain ⟨S, rfl⟩ : ∃ S : Nat, S' = S := ⟨S'.toNat, by omega⟩
  obtain ⟨Z, rfl⟩ : ∃ Z : Nat, z' = Z := ⟨z'.toNat, by omega⟩
  have hok : okDisk S Z := by
    refine ⟨by unfold fits; omega, by omega, by omega, ?_⟩
    rcases hz with h | h | h <;> rw [h] <;> omega
  have NY : Hid _ := new_yes (w := W) S Z hok
  have HOK : Hid _ := hok
  have hSZ : S * Z ≤ 16777216 := by
    have : S * Z ≤ 16 * 512 := Nat.mul_le_mul (by omega) (by omega)
    omega
  have HSZ : Hid _ := hSZ
  clear BA hok hSZ
  go_wp2_with fail
  refine Calls.mono NY.out ?_
  rintro e w1 ⟨rfl, dk1, bl1⟩
  have hmd := AB.made dk1 (by omega)
  obtain ⟨p, hp⟩ : ∃ p, p = W.heap.size + 2 := ⟨_, rfl⟩
  have hp2 : W.heap.size = p - 2 := by omega
  have hp1 : W.heap.size + 1 = p - 1 := by omega
  rw [← hp, hp1] at hmd
  have MD : Hid (AB w1 (fun g => g = p ∨ g = p - 2 ∨ g = p - 1) p S Z 0 ⟨0, -1, false, 0, 0, 0, 0⟩ (fun _ => []) (fun _ => none)) := by
    rw [hp2] at hmd
    exact hmd
  rw [← hp]
  rw [← hB] at bl1
  have B1 : Hid (Below B W w1) := bl1
  have hBW : Hid (B ≤ W.heap.size) := by show B ≤ _; omega
  have HB : Hid _ := hB
  have hBp : B + 2 ≤ p := by omega
  have hpw : p < w1.heap.size := by rw [hp]; exact dk1.lt
  obtain ⟨l, hl⟩ : ∃ l, l = wrB 77 Z := ⟨_, rfl⟩
  have hll : l.length = Z := by rw [hl]; exact wrB_len _ _
  have WR : Hid _ := fun wq => written_fit (w := wq) (Z : Int) 0 0 0 77 0 0 0 (.slice none 0 0) 0 Z (by omega) (by omega) (by omega) (by omega) (by omega)
  rw [← hl] at WR
  have WR2 : Hid _ := fun wq => written_fit (w := wq) (Z : Int) 0 0 0 3 0 0 0 (.slice none 0 0) 0 Z (by omega) (by omega) (by omega) (by omega) (by omega)
  clear NY dk1 bl1 hp hB hmd hp1 hp2 hl
  go_wp2_with fail
  refine Calls.mono (WR.out _) ?_
  rintro e w2 ⟨gw, rfl, rw2, hg2, bel2⟩
  have k2 : Chg (fun _ => False) w1 w2 := Chg.of_below bel2 (fun _ => False)
  have b2 : Below B W w2 := B1.out.trans (k2.below (Nat.le_trans hBW.out B1.out.size) (fun _ h => h.elim))
  have WX : Hid _ := DB.write (MD.out.frame k2 (fun _ _ h => h)) hBp (Nat.le_trans hBW.out b2.size) (src_row rw2 hll) hll (by omega) (by omega) (by omega) (by omega) (by simp [Value.ownBlock]; omega)
  have B2 : Hid _ := b2
  clear WR MD B1 rw2 hg2 bel2 k2 b2 hll
  go_wp2_with fail
  refine Calls.mono WX.out ?_
  rintro e w3 ⟨rfl, bl3, db3⟩
  have B3 : Hid (Below B W w3) := B2.out.trans bl3
  have DB3 : Hid _ := db3
  clear WX B2 bl3 db3 hBp hpw
  go_wp2_with fail
  go_loopg [11] (N1 + 1) (fun gk si wr => ∃ i : Nat, si = .int .i64 i ∧ i ≤ N1 ∧ N1 < gk + i ∧ Hid (Below B W wr ∧ DB wr B p S Z (i + 1)))
  case atStart => exact ⟨0, rfl, by omega, by omega, B3.out, DB3.out⟩
  case round =>
    obtain ⟨i, rfl, hi, hgk, hid⟩ := hrel
    clear B3 DB3
    obtain ⟨bel, ds⟩ := hid.out
    clear hid
    have hBr : B ≤ wr.heap.size := Nat.le_trans hBW.out bel.size
    by_cases hiN : i = N1
    · subst hiN
      obtain ⟨Bl, x, A, F, ab, hf, hFS, hBl⟩ := ds.ex
      obtain ⟨n, hn, hnb⟩ : ∃ n : Nat, x.pend = n ∧ n ≤ i + 1 := by
        obtain ⟨m, c, kc, km, L, V, D, K, E, C, hd, _⟩ := ab.ex
        exact hd.dd.pn
      obtain ⟨b, hb⟩ : ∃ b, b = i + 1 := ⟨_, rfl⟩
      rw [← hb] at ab hnb
      have hbb : b ≤ 1600000000000 := by omega
      have D0 : Hid (Ds wr B S Z (fun i => if i = 0 then some ⟨p, b, x, A, F⟩ else none) (fun _ => False)) := Ds.one (s := ⟨p, b, x, A, F⟩) ab hBl hBr
      have HF : Hid _ := hf
      have HFS : Hid _ := hFS
      have HN : Hid _ := hn
      have BE : Hid _ := bel
      have CP : Hid _ := D0.out.copy (i := 0) (j := 1) (s := ⟨p, b, x, A, F⟩) rfl rfl hFS (by omega) (by omega) (by omega) (by show b ≤ _; omega)
      clear ab hBl ds bel hf hFS hn D0 hb hBr
      go_wp2_with fail
      refine Calls.mono CP.out ?_
      rintro e w4 ⟨q1, rfl, bl4, ds4⟩
      have BE4 : Hid (Below B W w4) := BE.out.trans bl4
      have CP2 : Hid _ := ds4.copy (i := 0) (j := 2) (s := ⟨p, b, x, A, F⟩) rfl rfl HFS.out (by omega) (by omega) (by omega) (by show b ≤ _; omega)
      clear CP BE bl4 ds4
      go_wp2_with fail
      refine Calls.mono CP2.out ?_
      rintro e w5 ⟨q2, rfl, bl5, ds5⟩
      have BE5 : Hid (Below B W w5) := BE4.out.trans bl5
      have CP3 : Hid _ := ds5.copy (i := 0) (j := 3) (s := ⟨p, b, x, A, F⟩) rfl rfl HFS.out (by omega) (by omega) (by omega) (by show b ≤ _; omega)
      clear CP2 BE4 bl5 ds5
      go_wp2_with fail
      refine Calls.mono CP3.out ?_
      rintro e w6 ⟨q3, rfl, bl6, ds6⟩
      have BE6 : Hid (Below B W w6) := BE5.out.trans bl6
      obtain ⟨d3, hd3⟩ : ∃ d3, d3 = updT (updT (updT (fun i => if i = 0 then some (⟨p, b, x, A, F⟩ : Sp) else none) 1 (some ⟨q1, 2 * b, x, A, F⟩)) 2 (some ⟨q2, 2 * b, x, A, F⟩)) 3 (some ⟨q3, 2 * b, x, A, F⟩) := ⟨_, rfl⟩
      have HD0 : Hid (d3 0 = some ⟨p, b, x, A, F⟩) := by rw [hd3]; rfl
      have HD1 : Hid (d3 1 = some ⟨q1, 2 * b, x, A, F⟩) := by rw [hd3]; rfl
      have HD2 : Hid (d3 2 = some ⟨q2, 2 * b, x, A, F⟩) := by rw [hd3]; rfl
      have HD3 : Hid (d3 3 = some ⟨q3, 2 * b, x, A, F⟩) := by rw [hd3]; rfl
      have ds6' : Ds w6 B S Z d3 (fun _ => False) := by rw [hd3]; exact ds6
      have PE : Hid _ := ds6'.pending HD0.out HN.out (by show b ≤ _; omega) (by omega)
      clear CP3 BE5 bl6 ds6 ds6' hd3
      go_wp2_with fail
      refine Calls.mono PE.out ?_
      rintro e w7 ⟨gp, rfl, bl7, ds7⟩
      have hmk := run_mk43 n (by omega)
      obtain ⟨w8, hw8⟩ : ∃ w8, w8 = w7.alloc (.cells (fal n).toArray 4) := ⟨_, rfl⟩
      obtain ⟨kb, hkb⟩ : ∃ kb, kb = w7.heap.size := ⟨_, rfl⟩
      have k8 : Chg (fun _ => False) w7 w8 := by rw [hw8]; exact (Chg.refl _ _).alloc _
      have hs8 : w8.heap.size = kb + 1 := by rw [hw8, hkb]; simp
      have DS8 : Hid (Ds w8 B S Z d3 (fun g => g = kb)) := ds7.more k8 (fun g hg => .inr (by omega))
      have b7 : Below B W w7 := BE6.out.trans bl7
      have hkB2 : Hid (B ≤ kb) := by show B ≤ kb; rw [hkb]; exact Nat.le_trans hBW.out b7.size
      have BE8 : Hid (Below B W w8) := b7.trans (k8.below (Nat.le_trans hBW.out b7.size) (fun _ h => h.elim))
      have TR8 : Hid (Tr w8 kb n 0) := by rw [hw8, hkb]; exact Tr.made n
      clear PE BE6 bl7 ds7 k8 b7 hs8
      go_wp2_with fail
      rw [← hw8, ← hkb]
      clear hw8 hkb hmk
      go_loopg [16] (n + 1) (fun gk si wr => ∃ j : Nat, si = .int .i64 j ∧ j ≤ n ∧ n < gk + j ∧ Hid (Below B W wr ∧ Ds wr B S Z d3 (fun g => g = kb) ∧ Tr wr kb n j))
      case atStart => exact ⟨0, rfl, by omega, by omega, BE8.out, DS8.out, TR8.out⟩
      case round =>
        obtain ⟨j, rfl, hj, hgj, hid⟩ := hrel
        clear BE8 DS8 TR8
        obtain ⟨bel, ds, tr⟩ := hid.out
        clear hid
        by_cases hjn : j = n
        · subst hjn
          have HKB : Hid (KB wr (some ⟨kb, 0, none⟩) j (List.replicate j true)) := tr.kb (by omega)
          have LEN : Hid ((∀ t y, y ∈ A t → y.2.length = Z ∧ (y.1 : Int) < x.pend) ∧ (∀ t, ((F t).getD (zs Z)).length = Z) ∧ ∀ t, S ≤ t → A t = []) := ds.lens HD0.out
          obtain ⟨F1, hF1⟩ : ∃ F1 : Nat → Option (List Int), F1 = fun t => lastA (A t) (F t) := ⟨_, rfl⟩
          have EF1 : Hid ((fun t => foldA Z (keptN (List.replicate j true) (-1) 0 Z) (A t) (F t)) = F1) := by
            rw [hF1]
            funext t
            refine foldA_all (by omega) _ _ _ (LEN.out.2.1 t) (fun y hy => ⟨?_, (LEN.out.1 t y hy).1⟩)
            have h9 := (LEN.out.1 t y hy).2
            have h8 : x.pend = (j : Int) := HN.out
            exact keptN_all _ _ (by have h9 : (y.1 : Int) < x.pend := h9; omega)
          have EF2 : Hid ((fun t => foldA Z (keptN [] (-1) 0 Z) (A t) (F t)) = F) := by
            funext t
            exact foldA_keep _ _ _ _ (fun y _ => keptN_none _ _ _)
          have HF1S : Hid (∀ t, S ≤ t → F1 t = none) := fun t ht => by
            rw [hF1]
            show lastA (A t) (F t) = none
            rw [LEN.out.2.2 t ht, HFS.out t ht]
            rfl
          have HF1L : Hid (∀ t, ((F1 t).getD (zs Z)).length = Z) := fun t => by
            rw [hF1]
            show ((lastA (A t) (F t)).getD (zs Z)).length = Z
            unfold lastA
            split
            · rename_i y hy
              exact (LEN.out.1 t y (List.mem_of_getLast? hy)).1
            · exact LEN.out.2.1 t
          have CR : Hid _ := ds.crash HD1.out (by omega) (by omega) (by show 2 * b ≤ _; omega) (cN := j) HKB.out (fun g o _ e => by injection e with e; injection e with e; exact e.symm) (-1) 0
          have BE : Hid _ := bel
          have HF1 : Hid _ := hF1
          clear ds tr bel HKB hF1 LEN
          go_wp2_with fail
          refine Calls.mono CR.out ?_
          rintro e w4 ⟨rfl, bl4, era1, ds4⟩
          try dsimp only at ds4
          rw [EF1.out] at ds4
          have BE4 : Hid (Below B W w4) := BE.out.trans bl4
          obtain ⟨x1, hx1⟩ : ∃ x1 : Nums, x1 = { x with pend := 0, fuse := -1, off := false, era := era1 } := ⟨_, rfl⟩
          rw [← hx1] at ds4
          have HX1 : Hid (x1.off = false ∧ x1.fuse = -1 ∧ x1.pend = 0) := by rw [hx1]; exact ⟨rfl, rfl, rfl⟩
          have CR2 : Hid _ := ds4.crash (i := 2) (s := ⟨q2, 2 * b, x, A, F⟩) HD2.out (by omega) (by omega) (by show 2 * b ≤ _; omega) (a := none) (n := 0) (cN := 0) (kl := []) ⟨rfl, fun i hi => by omega, by omega⟩ (fun g o h0 _ => by omega) (-1) 0
          clear CR BE bl4 ds4 EF1 hx1
          go_wp2_with fail
          refine Calls.mono CR2.out ?_
          rintro e w5 ⟨rfl, bl5, era2, ds5⟩
          try dsimp only at ds5
          rw [EF2.out] at ds5
          have BE5 : Hid (Below B W w5) := BE4.out.trans bl5
          have IM1 : Hid _ := ds5.image (i := 2) (s := ⟨q2, 2 * b, { x with pend := 0, fuse := -1, off := false, era := era2 }, fun _ => [], F⟩) rfl HFS.out (by omega) (by omega) HSZ.out
          clear CR2 BE4 bl5 ds5 EF2
          go_wp2_with fail
          refine Calls.mono IM1.out ?_
          rintro e w6 ⟨g1, rfl, r1, bl6, _, ds6⟩
          have BE6 : Hid (Below B W w6) := BE5.out.trans bl6
          have IM2 : Hid _ := ds6.image (i := 0) (s := ⟨p, b, x, A, F⟩) HD0.out HFS.out (by omega) (by omega) HSZ.out
          have R1 : Hid _ := r1
          clear IM1 BE5 bl6 ds6 r1
          go_wp2_with fail
          refine Calls.mono IM2.out ?_
          rintro e w7 ⟨g2, rfl, r2, bl7, fr7, ds7⟩
          have BE7 : Hid (Below B W w7) := BE6.out.trans bl7
          have r1' := fr7 g1 _ _ (.inr rfl) R1.out
          have hil := imgT_len Z S F
          have SM : Hid _ := same_src (src_row r1' hil) (src_row r2 hil) (by have := HSZ.out; omega)
          have DS7 : Hid _ := ds7
          clear IM2 BE6 bl7 fr7 ds7 r1' r2 hil R1
          go_wp2_with fail
          refine Calls.mono SM.out ?_
          rintro e w8 ⟨rfl, m8, h8⟩
          have c8 : Chg (fun _ => False) w7 w8 := by rw [h8]; exact ⟨rfl, rfl, rfl, Nat.le_refl _, fun _ _ _ => rfl⟩
          have BE8 : Hid (Below B W w8) := BE7.out.trans (c8.below (Nat.le_trans hBW.out BE7.out.size) (fun _ h => h.elim))
          have DS8 : Hid (Ds w8 B S Z (updT (updT d3 1 (some ⟨q1, 2 * b, x1, fun _ => [], F1⟩)) 2 (some ⟨q2, 2 * b, { x with pend := 0, fuse := -1, off := false, era := era2 }, fun _ => [], F⟩)) (fun _ => False)) := DS7.out.more (c8.mono (fun _ _ h => h.elim)) (fun _ h => h.elim)
          have FU : Hid _ := DS8.out.fuse (i := 3) (s := ⟨q3, 2 * b, x, A, F⟩) HD3.out (-1) (by omega) (by omega)
          clear SM BE7 DS7 h8 c8 DS8
          go_wp2_with fail
          refine Calls.mono FU.out ?_
          rintro e w9 ⟨rfl, bl9, ds9⟩
          try dsimp only at ds9
          have BE9 : Hid (Below B W w9) := BE8.out.trans bl9
          clear FU BE8 bl9
          obtain ⟨x3, hx3⟩ : ∃ x3 : Nums, x3 = if x.off then x else { x with fuse := max (-1) (-1) } := ⟨_, rfl⟩
          rw [← hx3] at ds9
          cases hoff : x.off with
          | false =>
            rw [hoff] at hx3
            have h3o : x3.off = false := by rw [hx3]; rfl
            have h3f : x3.fuse = -1 := by rw [hx3]; rfl
            have hbu : burnE x3 = 0 := by
              unfold burnE
              rw [h3o, h3f]
              rfl
            have FL : Hid _ := ds9.flush (i := 3) (s := ⟨q3, 2 * b, x3, A, F⟩) rfl (by omega) (by show 2 * b ≤ _; omega) (by show -1 ≤ x3.fuse; omega) (by show x3.fuse ≤ _; omega) hbu
            have H3 : Hid ((burnN x3).off = false) := by
              show (burnN x3).off = false
              unfold burnN
              rw [h3o, h3f]
              exact h3o
            clear ds9 hx3 h3o h3f hbu
            go_wp2_with fail
            refine Calls.mono FL.out ?_
            rintro e wa ⟨rfl, bla, fq, dsa⟩
            try dsimp only at dsa
            rw [← HF1.out] at dsa
            have BEa : Hid (Below B W wa) := BE9.out.trans bla
            obtain ⟨x4, hx4⟩ : ∃ x4 : Nums, x4 = { burnN x3 with pend := 0, fl := fq } := ⟨_, rfl⟩
            rw [← hx4] at dsa
            have H4 : Hid (x4.off = false) := by rw [hx4]; exact H3.out
            have IM3 : Hid _ := dsa.image (i := 3) (s := ⟨q3, 2 * b, x4, fun _ => [], F1⟩) rfl HF1S.out (by omega) (by omega) HSZ.out
            clear FL BE9 bla dsa hx4 H3
            go_wp2_with fail
            refine Calls.mono IM3.out ?_
            rintro e wb ⟨g3, rfl, r3, blb, _, dsb⟩
            have BEb : Hid (Below B W wb) := BEa.out.trans blb
            have IM4 : Hid _ := dsb.image (i := 1) (s := ⟨q1, 2 * b, x1, fun _ => [], F1⟩) rfl HF1S.out (by omega) (by omega) HSZ.out
            have R3 : Hid _ := r3
            clear IM3 BEa blb dsb r3
            go_wp2_with fail
            refine Calls.mono IM4.out ?_
            rintro e wc ⟨g4, rfl, r4, blc, frc, dsc⟩
            have BEc : Hid (Below B W wc) := BEb.out.trans blc
            have r3' := frc g3 _ _ (.inr rfl) R3.out
            have hil := imgT_len Z S F1
            have SM : Hid _ := same_src (src_row r3' hil) (src_row r4 hil) (by have := HSZ.out; omega)
            have DSc : Hid _ := dsc
            clear IM4 BEb blc frc dsc r3' r4 hil R3
            go_wp2_with fail
            refine Calls.mono SM.out ?_
            rintro e wd ⟨rfl, md, hmd⟩
            have cd : Chg (fun _ => False) wc wd := by rw [hmd]; exact ⟨rfl, rfl, rfl, Nat.le_refl _, fun _ _ _ => rfl⟩
            have BEd : Hid (Below B W wd) := BEc.out.trans (cd.below (Nat.le_trans hBW.out BEc.out.size) (fun _ h => h.elim))
            have dsd : Ds wd B S Z _ (fun _ => False) := DSc.out.more (cd.mono (fun _ _ h => h.elim)) (fun _ h => h.elim)
            have of0 := dsd.off (i := 3) (s := ⟨q3, 2 * b, x4, fun _ => [], F1⟩) rfl
            try dsimp only at of0
            rw [H4.out] at of0
            have OF : Hid _ := of0
            clear SM BEc DSc hmd cd dsd of0 H4
            go_wp2_with fail
            refine Calls.mono OF.out ?_
            rintro e we ⟨rfl, ble, dse⟩
            have BEe : Hid (Below B W we) := BEd.out.trans ble
            have of1 := dse.off (i := 0) (s := ⟨p, b, x, A, F⟩) HD0.out
            try dsimp only at of1
            rw [hoff] at of1
            have OG : Hid _ := of1
            clear OF BEd ble dse of1
            go_wp2_with fail
            refine Calls.mono OG.out ?_
            rintro e wf ⟨rfl, blf, dsf⟩
            have BEf : Hid (Below B W wf) := BEe.out.trans blf
            have DSf : Hid _ := dsf
            have HE1 : Hid (updT (updT (updT d3 1 (some ⟨q1, 2 * b, x1, fun _ => [], F1⟩)) 2 (some ⟨q2, 2 * b, { x with pend := 0, fuse := -1, off := false, era := era2 }, fun _ => [], F⟩)) 3 (some (⟨q3, 2 * b, x4, fun _ => [], F1⟩ : Sp)) 1 = some ⟨q1, 2 * b, x1, fun _ => [], F1⟩) := rfl
            have DSg : Hid (Ds wf B S Z (updT (updT (updT d3 1 (some ⟨q1, 2 * b, x1, fun _ => [], F1⟩)) 2 (some ⟨q2, 2 * b, { x with pend := 0, fuse := -1, off := false, era := era2 }, fun _ => [], F⟩)) 3 (some (⟨q3, 2 * b, x4, fun _ => [], F1⟩ : Sp))) (fun _ => False)) := by
              have h9 := DSf.out
              rw [updT_updT] at h9
              exact h9
            clear OG BEe blf dsf hoff DSf
            have IM5 : Hid _ := DSg.out.image (i := 1) (s := ⟨q1, 2 * b, x1, fun _ => [], F1⟩) HE1.out HF1S.out (by omega) (by omega) HSZ.out
            go_wp2_with fail
            refine Calls.mono IM5.out ?_
            rintro e wi ⟨gi, rfl, ri, bli, _, dsi⟩
            have BEi : Hid (Below B W wi) := BEf.out.trans bli
            obtain ⟨T, hT⟩ : ∃ T, T = imgT Z S F1 := ⟨_, rfl⟩
            have hTl : T.length = S * Z := by rw [hT]; exact imgT_len Z S F1
            rw [← hT] at ri
            have LY : Hid _ := load_yes (w := wi) (g := gi) (o := 0) (N := S * Z) (cap := S * Z) (S := S) (z := Z) (T := T) (src_row ri hTl) hTl (Nat.le_refl _) (by have := HSZ.out; omega) rfl HOK.out
            obtain ⟨Bl1, a1, hBl1, _⟩ := dsi.step (i := 1) (s := ⟨q1, 2 * b, x1, fun _ => [], F1⟩) HE1.out
            have HBL1 : Hid (∀ g, Bl1 g → B ≤ g) := hBl1
            have HNLB : Hid (B ≤ wi.heap.size) := Nat.le_trans hBW.out BEi.out.size
            have A1 : Hid (AB wi Bl1 q1 S Z (2 * b) x1 (fun _ => []) F1) := a1
            have HT : Hid _ := hT
            have HTL : Hid _ := hTl
            clear IM5 bli dsi a1 hBl1 ri hT hTl DSg BEf
            go_wp2_with fail
            refine Calls.mono LY.out ?_
            rintro e wl ⟨rfl, ⟨gs, D, ld, hgs⟩, bll⟩
            obtain ⟨NL, hNL⟩ : ∃ NL, NL = wi.heap.size := ⟨_, rfl⟩
            rw [← hNL] at ld hgs HNLB ⊢
            have kl : Chg (fun _ => False) wi wl := Chg.of_below bll (fun _ => False)
            have HNL : Hid (∀ g, Bl1 g → g < NL) := fun g hg => by rw [hNL]; exact A1.out.low g hg
            have HBP : Hid (Bl1 q1) := A1.out.bp
            have KL : Hid (Below B W wl ∧ (∃ q, AB wl Bl1 q1 S Z (2 * b) { x1 with rd := q } (fun _ => []) F1) ∧ ∃ rd, LD wl (NL + 2) NL (NL + 1) rd S Z gs D T) := ⟨BEi.out.trans (kl.below (Nat.le_trans hBW.out BEi.out.size) (fun _ h => h.elim)), ⟨x1.rd, A1.out.frame kl (fun _ _ h => h)⟩, 0, ld⟩
            have HGS : Hid _ := hgs
            clear LY A1 BEi ld hgs bll kl hNL
            go_wp2_with fail
            go_loopg [19] (S + 1) (fun gk si wr => ∃ k : Nat, si = .int .i64 k ∧ k ≤ S ∧ S < gk + k ∧ Hid (Below B W wr ∧ (∃ q, AB wr Bl1 q1 S Z (2 * b) { x1 with rd := q } (fun _ => []) F1) ∧ ∃ rd, LD wr (NL + 2) NL (NL + 1) rd S Z gs D T))
            case atStart => exact ⟨0, rfl, by omega, by omega, KL.out⟩
            case round =>
              obtain ⟨k, rfl, hk, hgk, hid⟩ := hrel
              clear KL
              obtain ⟨bel, ⟨q0, ab⟩, rd, ld⟩ := hid.out
              clear hid
              have hq1 : q1 < NL := HNL.out q1 HBP.out
              have hqw : q1 < wr.heap.size := ab.low q1 HBP.out
              by_cases hkS : k = S
              · subst hkS
                have AB0 : Hid _ := ab
                have BE0 : Hid _ := bel
                clear ab ld bel
                go_wp2_with fail
                refine Calls.mono (WR2.out _) ?_
                rintro e wz ⟨gw, rfl, rwz, hgz, belz⟩
                have kz : Chg (fun _ => False) wr wz := Chg.of_below belz (fun _ => False)
                have bz : Below B W wz := BE0.out.trans (kz.below (Nat.le_trans hBW.out BE0.out.size) (fun _ h => h.elim))
                have hlz := wrB_len 3 Z
                have WX : Hid _ := (AB0.out.frame kz (fun _ _ h => h)).write (src_row rwz hlz) hlz (by omega) (by omega) 0 (by omega) (by omega) (by omega) (by show -1 ≤ x1.fuse; rw [HX1.out.2.1]; decide) (by show x1.fuse ≤ _; rw [HX1.out.2.1]; decide) (by unfold burnE; show (if x1.off = true ∨ x1.fuse = 0 then _ else _) = _; rw [HX1.out.1, HX1.out.2.1]; rfl) (by simp [Value.ownBlock]; omega) (pn := 0) HX1.out.2.2
                have BZ : Hid _ := bz
                have HBL : Hid (∀ g, Bl1 g → B ≤ g) := HBL1.out
                clear WR2 AB0 BE0 rwz hgz belz kz bz hlz
                go_wp2_with fail
                refine Calls.mono WX.out ?_
                rintro e wy ⟨rfl, chy, _⟩
                have by_ : Below W.heap.size W wy := by
                  rw [← HB.out]
                  exact BZ.out.trans (chy.below (Nat.le_trans hBW.out BZ.out.size) HBL.out)
                have BY : Hid _ := by_
                clear WX by_ chy
                go_wp2_with fail
                go_ret
                exact ⟨rfl, BY.out⟩
              · have hil : (k : Int) < (S : Int) := by omega
                have RD1 : Hid _ := readL ld (by omega) (by omega) HTL.out k (by omega) (by omega)
                have AB0 : Hid _ := ab
                have BE0 : Hid _ := bel
                clear ab ld bel
                go_wp2_with fail
                refine Calls.mono RD1.out ?_
                rintro e wa ⟨ga, rfl, ra, hga, ⟨rd', lda⟩, cha⟩
                have aba := AB0.out.frame cha (fun g hg e => by have := HNL.out g hg; omega)
                have RD2 : Hid _ := aba.read HX1.out.1 k (by omega) (by omega) (by omega) (by omega)
                have bea : Below B W wa := BE0.out.trans (cha.below (Nat.le_trans hBW.out BE0.out.size) (fun g e => by have := HNLB.out; omega))
                have BEA : Hid _ := bea
                have LDA : Hid _ := lda
                have RA : Hid _ := ra
                clear RD1 AB0 BE0 aba lda ra cha bea
                go_wp2_with fail
                refine Calls.mono RD2.out ?_
                rintro e wb ⟨gb, q6, rfl, rb, hgb, chb, abb⟩
                have ldb := LDA.out.frame chb (by omega) (by omega) (by omega) (fun i hi => by have := HGS.out i hi; omega)
                have rab := Rw.chg1 RA.out chb (by omega)
                have hpc : piece T Z k = (F1 k).getD (zs Z) := by
                  rw [HT.out]
                  exact imgT_piece (by omega) (by omega) rfl (HF1L.out k)
                rw [hpc] at rab
                have rb' : Rw wb gb (bs ((F1 k).getD (zs Z))).toArray 5 := rb
                have SM : Hid _ := same_src (src_row rab (HF1L.out k)) (src_row rb' (HF1L.out k)) (by rw [HF1L.out k]; omega)
                have beb : Below B W wb := BEA.out.trans (chb.below (Nat.le_trans hBW.out BEA.out.size) (fun g e => by rw [e]; exact HBL1.out q1 HBP.out))
                have BEB : Hid _ := beb
                have LDB : Hid _ := ldb
                have ABB : Hid _ := abb
                clear RD2 BEA LDA RA ldb rab hpc rb rb' beb abb chb
                go_wp2_with fail
                refine Calls.mono SM.out ?_
                rintro e wc ⟨rfl, mc, hc⟩
                have cc : Chg (fun i => i = q1) wb wc := by rw [hc]; exact ⟨rfl, rfl, rfl, Nat.le_refl _, fun _ _ _ => rfl⟩
                have cc0 : Chg (fun _ => False) wb wc := by rw [hc]; exact ⟨rfl, rfl, rfl, Nat.le_refl _, fun _ _ _ => rfl⟩
                have KC : Hid (Below B W wc ∧ (∃ q, AB wc Bl1 q1 S Z (2 * b) { x1 with rd := q } (fun _ => []) F1) ∧ ∃ rd, LD wc (NL + 2) NL (NL + 1) rd S Z gs D T) := ⟨BEB.out.trans (cc0.below (Nat.le_trans hBW.out BEB.out.size) (fun _ h => h.elim)), ⟨q6, ABB.out.frame cc0 (fun _ _ h => h)⟩, rd', LDB.out.frame cc (by omega) (by omega) (by omega) (fun i hi => by have := HGS.out i hi; omega)⟩
                clear SM BEB LDB ABB cc cc0 hc
                go_wp2_with fail
                go_roundg (S - k)
                case measure => omega
                case rel => exact ⟨k + 1, by go_num, by omega, by omega, KC.out⟩
          | true =>
            rw [hoff] at hx3
            have h3x : x3 = x := hx3
            have hbu : burnE x3 = 32 := by
              unfold burnE
              rw [h3x, hoff]
              simp
            have FL : Hid _ := ds9.flush_no (i := 3) (s := ⟨q3, 2 * b, x3, A, F⟩) rfl (by show -1 ≤ x3.fuse; rw [h3x]; exact HF.out.1) (by show x3.fuse ≤ _; rw [h3x]; exact HF.out.2) hbu
            have H3 : Hid ((burnN x3).off = true) := by
              show (burnN x3).off = true
              unfold burnN
              rw [h3x, hoff]
              simp
            clear ds9 hx3 h3x hbu
            go_wp2_with fail
            refine Calls.mono FL.out ?_
            rintro e wa ⟨rfl, bla, dsa⟩
            try dsimp only at dsa
            have BEa : Hid (Below B W wa) := BE9.out.trans bla
            obtain ⟨x4, hx4⟩ : ∃ x4 : Nums, x4 = burnN x3 := ⟨_, rfl⟩
            rw [← hx4] at dsa
            have of0 := dsa.off (i := 3) (s := ⟨q3, 2 * b, x4, A, F⟩) rfl
            try dsimp only at of0
            rw [hx4, H3.out] at of0
            have OF : Hid _ := of0
            clear FL BE9 bla dsa of0 H3
            go_wp2_with fail
            refine Calls.mono OF.out ?_
            rintro e we ⟨rfl, ble, dse⟩
            have BEe : Hid (Below B W we) := BEa.out.trans ble
            have of1 := dse.off (i := 0) (s := ⟨p, b, x, A, F⟩) HD0.out
            try dsimp only at of1
            rw [hoff] at of1
            have OG : Hid _ := of1
            clear OF BEa ble dse of1
            go_wp2_with fail
            refine Calls.mono OG.out ?_
            rintro e wf ⟨rfl, blf, dsf⟩
            have BEf : Hid (Below B W wf) := BEe.out.trans blf
            have HE1 : Hid (updT (updT (updT d3 1 (some ⟨q1, 2 * b, x1, fun _ => [], F1⟩)) 2 (some ⟨q2, 2 * b, { x with pend := 0, fuse := -1, off := false, era := era2 }, fun _ => [], F⟩)) 3 (some (⟨q3, 2 * b, burnN x3, A, F⟩ : Sp)) 1 = some ⟨q1, 2 * b, x1, fun _ => [], F1⟩) := rfl
            have DSg : Hid (Ds wf B S Z (updT (updT (updT d3 1 (some ⟨q1, 2 * b, x1, fun _ => [], F1⟩)) 2 (some ⟨q2, 2 * b, { x with pend := 0, fuse := -1, off := false, era := era2 }, fun _ => [], F⟩)) 3 (some (⟨q3, 2 * b, burnN x3, A, F⟩ : Sp))) (fun _ => False)) := by
              have h9 := dsf
              rw [updT_updT] at h9
              exact h9
            clear OG BEe blf dsf hoff hx4
            have IM5 : Hid _ := DSg.out.image (i := 1) (s := ⟨q1, 2 * b, x1, fun _ => [], F1⟩) HE1.out HF1S.out (by omega) (by omega) HSZ.out
            go_wp2_with fail
            refine Calls.mono IM5.out ?_
            rintro e wi ⟨gi, rfl, ri, bli, _, dsi⟩
            have BEi : Hid (Below B W wi) := BEf.out.trans bli
            obtain ⟨T, hT⟩ : ∃ T, T = imgT Z S F1 := ⟨_, rfl⟩
            have hTl : T.length = S * Z := by rw [hT]; exact imgT_len Z S F1
            rw [← hT] at ri
            have LY : Hid _ := load_yes (w := wi) (g := gi) (o := 0) (N := S * Z) (cap := S * Z) (S := S) (z := Z) (T := T) (src_row ri hTl) hTl (Nat.le_refl _) (by have := HSZ.out; omega) rfl HOK.out
            obtain ⟨Bl1, a1, hBl1, _⟩ := dsi.step (i := 1) (s := ⟨q1, 2 * b, x1, fun _ => [], F1⟩) HE1.out
            have HBL1 : Hid (∀ g, Bl1 g → B ≤ g) := hBl1
            have HNLB : Hid (B ≤ wi.heap.size) := Nat.le_trans hBW.out BEi.out.size
            have A1 : Hid (AB wi Bl1 q1 S Z (2 * b) x1 (fun _ => []) F1) := a1
            have HT : Hid _ := hT
            have HTL : Hid _ := hTl
            clear IM5 bli dsi a1 hBl1 ri hT hTl DSg BEf
            go_wp2_with fail
            refine Calls.mono LY.out ?_
            rintro e wl ⟨rfl, ⟨gs, D, ld, hgs⟩, bll⟩
            obtain ⟨NL, hNL⟩ : ∃ NL, NL = wi.heap.size := ⟨_, rfl⟩
            rw [← hNL] at ld hgs HNLB ⊢
            have kl : Chg (fun _ => False) wi wl := Chg.of_below bll (fun _ => False)
            have HNL : Hid (∀ g, Bl1 g → g < NL) := fun g hg => by rw [hNL]; exact A1.out.low g hg
            have HBP : Hid (Bl1 q1) := A1.out.bp
            have KL : Hid (Below B W wl ∧ (∃ q, AB wl Bl1 q1 S Z (2 * b) { x1 with rd := q } (fun _ => []) F1) ∧ ∃ rd, LD wl (NL + 2) NL (NL + 1) rd S Z gs D T) := ⟨BEi.out.trans (kl.below (Nat.le_trans hBW.out BEi.out.size) (fun _ h => h.elim)), ⟨x1.rd, A1.out.frame kl (fun _ _ h => h)⟩, 0, ld⟩
            have HGS : Hid _ := hgs
            clear LY A1 BEi ld hgs bll kl hNL
            go_wp2_with fail
            go_loopg [19] (S + 1) (fun gk si wr => ∃ k : Nat, si = .int .i64 k ∧ k ≤ S ∧ S < gk + k ∧ Hid (Below B W wr ∧ (∃ q, AB wr Bl1 q1 S Z (2 * b) { x1 with rd := q } (fun _ => []) F1) ∧ ∃ rd, LD wr (NL + 2) NL (NL + 1) rd S Z gs D T))
            case atStart => exact ⟨0, rfl, by omega, by omega, KL.out⟩
            case round =>
              obtain ⟨k, rfl, hk, hgk, hid⟩ := hrel
              clear KL
              obtain ⟨bel, ⟨q0, ab⟩, rd, ld⟩ := hid.out
              clear hid
              have hq1 : q1 < NL := HNL.out q1 HBP.out
              have hqw : q1 < wr.heap.size := ab.low q1 HBP.out
              by_cases hkS : k = S
              · subst hkS
                have AB0 : Hid _ := ab
                have BE0 : Hid _ := bel
                clear ab ld bel
                go_wp2_with fail
                refine Calls.mono (WR2.out _) ?_
                rintro e wz ⟨gw, rfl, rwz, hgz, belz⟩
                have kz : Chg (fun _ => False) wr wz := Chg.of_below belz (fun _ => False)
                have bz : Below B W wz := BE0.out.trans (kz.below (Nat.le_trans hBW.out BE0.out.size) (fun _ h => h.elim))
                have hlz := wrB_len 3 Z
                have WX : Hid _ := (AB0.out.frame kz (fun _ _ h => h)).write (src_row rwz hlz) hlz (by omega) (by omega) 0 (by omega) (by omega) (by omega) (by show -1 ≤ x1.fuse; rw [HX1.out.2.1]; decide) (by show x1.fuse ≤ _; rw [HX1.out.2.1]; decide) (by unfold burnE; show (if x1.off = true ∨ x1.fuse = 0 then _ else _) = _; rw [HX1.out.1, HX1.out.2.1]; rfl) (by simp [Value.ownBlock]; omega) (pn := 0) HX1.out.2.2
                have BZ : Hid _ := bz
                have HBL : Hid (∀ g, Bl1 g → B ≤ g) := HBL1.out
                clear WR2 AB0 BE0 rwz hgz belz kz bz hlz
                go_wp2_with fail
                refine Calls.mono WX.out ?_
                rintro e wy ⟨rfl, chy, _⟩
                have by_ : Below W.heap.size W wy := by
                  rw [← HB.out]
                  exact BZ.out.trans (chy.below (Nat.le_trans hBW.out BZ.out.size) HBL.out)
                have BY : Hid _ := by_
                clear WX by_ chy
                go_wp2_with fail
                go_ret
                exact ⟨rfl, BY.out⟩
              · have hil : (k : Int) < (S : Int) := by omega
                have RD1 : Hid _ := readL ld (by omega) (by omega) HTL.out k (by omega) (by omega)
                have AB0 : Hid _ := ab
                have BE0 : Hid _ := bel
                clear ab ld bel
                go_wp2_with fail
                refine Calls.mono RD1.out ?_
                rintro e wa ⟨ga, rfl, ra, hga, ⟨rd', lda⟩, cha⟩
                have aba := AB0.out.frame cha (fun g hg e => by have := HNL.out g hg; omega)
                have RD2 : Hid _ := aba.read HX1.out.1 k (by omega) (by omega) (by omega) (by omega)
                have bea : Below B W wa := BE0.out.trans (cha.below (Nat.le_trans hBW.out BE0.out.size) (fun g e => by have := HNLB.out; omega))
                have BEA : Hid _ := bea
                have LDA : Hid _ := lda
                have RA : Hid _ := ra
                clear RD1 AB0 BE0 aba lda ra cha bea
                go_wp2_with fail
                refine Calls.mono RD2.out ?_
                rintro e wb ⟨gb, q6, rfl, rb, hgb, chb, abb⟩
                have ldb := LDA.out.frame chb (by omega) (by omega) (by omega) (fun i hi => by have := HGS.out i hi; omega)
                have rab := Rw.chg1 RA.out chb (by omega)
                have hpc : piece T Z k = (F1 k).getD (zs Z) := by
                  rw [HT.out]
                  exact imgT_piece (by omega) (by omega) rfl (HF1L.out k)
                rw [hpc] at rab
                have rb' : Rw wb gb (bs ((F1 k).getD (zs Z))).toArray 5 := rb
                have SM : Hid _ := same_src (src_row rab (HF1L.out k)) (src_row rb' (HF1L.out k)) (by rw [HF1L.out k]; omega)
                have beb : Below B W wb := BEA.out.trans (chb.below (Nat.le_trans hBW.out BEA.out.size) (fun g e => by rw [e]; exact HBL1.out q1 HBP.out))
                have BEB : Hid _ := beb
                have LDB : Hid _ := ldb
                have ABB : Hid _ := abb
                clear RD2 BEA LDA RA ldb rab hpc rb rb' beb abb chb
                go_wp2_with fail
                refine Calls.mono SM.out ?_
                rintro e wc ⟨rfl, mc, hc⟩
                have cc : Chg (fun i => i = q1) wb wc := by rw [hc]; exact ⟨rfl, rfl, rfl, Nat.le_refl _, fun _ _ _ => rfl⟩
                have cc0 : Chg (fun _ => False) wb wc := by rw [hc]; exact ⟨rfl, rfl, rfl, Nat.le_refl _, fun _ _ _ => rfl⟩
                have KC : Hid (Below B W wc ∧ (∃ q, AB wc Bl1 q1 S Z (2 * b) { x1 with rd := q } (fun _ => []) F1) ∧ ∃ rd, LD wc (NL + 2) NL (NL + 1) rd S Z gs D T) := ⟨BEB.out.trans (cc0.below (Nat.le_trans hBW.out BEB.out.size) (fun _ h => h.elim)), ⟨q6, ABB.out.frame cc0 (fun _ _ h => h)⟩, rd', LDB.out.frame cc (by omega) (by omega) (by omega) (fun i hi => by have := HGS.out i hi; omega)⟩
                clear SM BEB LDB ABB cc cc0 hc
                go_wp2_with fail
                go_roundg (S - k)
                case measure => omega
                case rel => exact ⟨k + 1, by go_num, by omega, by omega, KC.out⟩
        · have hil : (j : Int) < (n : Int) := by omega
          obtain ⟨⟨v, hv⟩, hfz, tr'⟩ := tr.set (by omega)
          have cc : Chg (fun g => g = kb) wr (wr.setCell ⟨kb, j, none⟩ (.bool true)) := (Chg.refl (fun g => g = kb) wr).setCell (.inl rfl) _
          have K9 : Hid (Below B W (wr.setCell ⟨kb, j, none⟩ (.bool true)) ∧ Ds (wr.setCell ⟨kb, j, none⟩ (.bool true)) B S Z d3 (fun g => g = kb) ∧ Tr (wr.setCell ⟨kb, j, none⟩ (.bool true)) kb n (j + 1)) := ⟨bel.trans (cc.below (Nat.le_trans hBW.out bel.size) (fun k e => by rw [e]; exact hkB2.out)), ds.more cc (fun g h => .inl h), tr'⟩
          clear ds tr tr' bel cc
          go_wp2_with fail
          go_roundg (n - j)
          case measure => omega
          case rel => exact ⟨j + 1, by go_num, by omega, by omega, K9.out⟩
    · have hil : (i : Int) < (N1 : Int) := by omega
      obtain ⟨ga, oa, rfl, hcells⟩ := H1.out.cell bel (i := i) (by omega)
      have hkb := H1.out.kept bel (i := i) (by omega)
      have hlow := H1.out.low (i := i) (by omega)
      have hnm := H1.out.acs.nm i (by omega)
      have hfl := H1.out.acs.fl i (by omega)
      have hls := H1.out.ls i (by omega)
      obtain ⟨T, hT⟩ : ∃ T, ac1 i = T := ⟨_, rfl⟩
      rw [hT] at hcells hkb hlow hnm hfl hls
      clear hT
      have AC : Hid _ := ds.act hBr (by omega) (by omega) (by omega) (by omega) T hkb hlow hnm hfl hls
      obtain ⟨on, kd, nm, fl, less, at_, mask, ka, kn, kc, torn⟩ := T
      have d0 : wr.cell? ⟨ga, oa + i * 9, none⟩ = some (.int .i64 on) := hcells 0 _ rfl
      have d1 : wr.cell? ⟨ga, oa + i * 9 + 1, none⟩ = some (.int .i64 kd) := hcells 1 _ rfl
      have d2 : wr.cell? ⟨ga, oa + i * 9 + 2, none⟩ = some (.int .i64 nm) := hcells 2 _ rfl
      have d3 : wr.cell? ⟨ga, oa + i * 9 + 3, none⟩ = some (.int .u8 fl) := hcells 3 _ rfl
      have d4 : wr.cell? ⟨ga, oa + i * 9 + 4, none⟩ = some (.int .i64 less) := hcells 4 _ rfl
      have d5 : wr.cell? ⟨ga, oa + i * 9 + 5, none⟩ = some (.int .i64 at_) := hcells 5 _ rfl
      have d6 : wr.cell? ⟨ga, oa + i * 9 + 6, none⟩ = some (.int .u8 mask) := hcells 6 _ rfl
      have d7 : wr.cell? ⟨ga, oa + i * 9 + 7, none⟩ = some (.slice ka kn kc) := hcells 7 _ rfl
      have d8 : wr.cell? ⟨ga, oa + i * 9 + 8, none⟩ = some (.int .i64 torn) := hcells 8 _ rfl
      have BE : Hid _ := bel
      unfold Ac.cells actC at AC
      clear ds bel hkb hlow hcells
      go_wp2_with fail
      refine Calls.mono AC.out ?_
      rintro e w4 ⟨rfl, bl4, ds4⟩
      have BE4 : Hid (Below B W w4) := BE.out.trans bl4
      have DS4 : Hid _ := ds4
      clear AC bl4 ds4 BE d0 d1 d2 d3 d4 d5 d6 d7 d8
      go_wp2_with fail
      go_roundg (N1 - i)
      case measure => omega
      case rel => exact ⟨i + 1, by go_num, by omega, by omega, BE4.out, DS4.out⟩
end Go.Proofs.Ytjliibiohgcaeaa
