/-
  The walk of DiskKeeps.
-/
import Derived.Test.YtffkodonomfflaaKeepsA
namespace Go.Proofs.Ytffkodonomfflaa
open Go.RowKit Go.RwLone

set_option maxRecDepth 100000 in
set_option maxHeartbeats 8000000 in
theorem keeps_any {W : World} (s z : Int) {a1 : Option Addr} {N1 c1 : Nat} {ac1 : Nat → Ac} {kls1 : Nat → List Bool} (h1 : AcK W W.heap.size a1 N1 ac1 kls1) (hN1 : N1 * 88 ≤ 140737488351232) (num fill : Int) (hfill : 0 ≤ fill ∧ fill ≤ 255) {a2 : Option Addr} {N2 c2 : Nat} {ac2 : Nat → Ac} {kls2 : Nat → List Bool} (h2 : AcK W W.heap.size a2 N2 ac2 kls2) (hN2 : N2 * 88 ≤ 140737488351232) :
    Calls Try.prog 6 #[.int .i64 s, .int .i64 z, .slice a1 N1 c1, .int .i64 num, .int .u8 fill, .slice a2 N2 c2] W fun e w' => e = .returned (.bool true) ∧ Below W.heap.size W w' := by
  have BA : Hid _ := base_any (w := W) s z
  obtain ⟨B, hB⟩ : ∃ B, B = W.heap.size := ⟨_, rfl⟩
  rw [← hB] at h1 h2
  have H1 : Hid _ := h1
  have H2 : Hid _ := h2
  clear h1 h2
  go_enter Try.func6, Try.ntmps6
  go_wp2_with fail
  refine Calls.mono BA.out ?_
  rintro e w9 ⟨⟨S', z', rfl, hS1, hS2, hz⟩, h9⟩
  subst h9
  obtain ⟨S, rfl⟩ : ∃ S : Nat, S' = S := ⟨S'.toNat, by omega⟩
  obtain ⟨Z, rfl⟩ : ∃ Z : Nat, z' = Z := ⟨z'.toNat, by omega⟩
  have hok : okDisk S Z := by
    refine ⟨by unfold fits; omega, by omega, by omega, ?_⟩
    rcases hz with h | h | h <;> rw [h] <;> omega
  have NY : Hid _ := new_yes (w := W) S Z hok
  clear BA hok
  go_wp2_with fail
  refine Calls.mono NY.out ?_
  rintro e w1 ⟨rfl, dk1, bl1⟩
  have ag1 : AG w1 B 0 (W.heap.size + 2) S Z 0 ⟨0, -1, false, 0, 0, 0, 0⟩ (fun _ => []) (fun _ => none) := AG.made (Nat.lt_of_le_of_lt (Nat.zero_le _) dk1.lt) dk1 (by omega) (by omega) (by omega) (by omega)
  have ds1 : DS w1 B (W.heap.size + 2) S Z 0 := ⟨0, _, _, _, ag1, ⟨by simp, by simp⟩, fun _ _ => rfl⟩
  obtain ⟨p, hp⟩ : ∃ p, p = W.heap.size + 2 := ⟨_, rfl⟩
  rw [← hp] at ds1 ⊢
  rw [← hB] at bl1
  have B1 : Hid (Below B W w1) := bl1
  have DS1 : Hid _ := ds1
  have hBW : Hid (B ≤ W.heap.size) := by show B ≤ _; omega
  have HB : Hid _ := hB
  clear NY dk1 ag1 ds1 bl1 hp hB
  go_wp2_with fail
  go_loopg [17] (N1 + 1) (fun gk si wr => ∃ i : Nat, si = .int .i64 i ∧ i ≤ N1 ∧ N1 < gk + i ∧ Hid (Below B W wr ∧ DS wr B p S Z i))
  case atStart => exact ⟨0, rfl, by omega, by omega, B1.out, DS1.out⟩
  case round =>
    obtain ⟨i, rfl, hi, hgk, hid⟩ := hrel
    clear B1 DS1
    obtain ⟨bel, ds⟩ := hid.out
    clear hid
    have hBr : B ≤ wr.heap.size := Nat.le_trans hBW.out bel.size
    by_cases hiN : i = N1
    · subst hiN
      have CR : Hid _ := ds.crash hBr (by omega) (by omega) (by omega)
      have BE : Hid _ := bel
      clear ds bel
      obtain ⟨sv, hsv⟩ : ∃ sv : Nat, sv = nuK S num := ⟨_, rfl⟩
      have hsS : sv < S := by rw [hsv]; exact nuK_lt (by omega) num
      have hS0 : ((S : Int) == 0) = false := by simp; omega
      obtain ⟨r, hr⟩ : ∃ r, num.tmod (S : Int) = r := ⟨_, rfl⟩
      have hcs := nuK_cases (S := S) (by omega) num
      rw [hr, ← hsv] at hcs
      clear hsv
      obtain ⟨l, hl⟩ : ∃ l, l = wrB fill Z := ⟨_, rfl⟩
      have hll : l.length = Z := by rw [hl]; exact wrB_len _ _
      have WR : Hid _ := fun wq => written_fit (w := wq) (Z : Int) 0 0 0 fill 0 0 0 (.slice none 0 0) 0 Z (by omega) (by omega) (by omega) (by omega) hfill
      rw [← hl] at WR
      clear hl
      go_wp2_with fail
      refine Calls.mono CR.out ?_
      rintro e w2 ⟨rfl, bl2, G, F, ao2, hF2⟩
      have BE2 : Hid (Below B W w2) := BE.out.trans bl2
      have AO2 : Hid _ := ao2
      have HF2 : Hid _ := hF2
      clear CR bl2 ao2 hF2 BE
      rcases hcs with ⟨hr1, hr2⟩ | ⟨hr1, hr2⟩
      · go_wp2_with fail
        refine Calls.mono (WR.out _) ?_
        rintro e w3 ⟨gw, rfl, rw3, hg3, bel3⟩
        have k3 : Chg (fun _ => False) w2 w3 := Chg.of_below bel3 (fun _ => False)
        have AO3 : Hid (AO w3 B gw p S Z i 0 (fun _ => []) F) := AO2.out.regard k3 hg3 rw3.lt
        have BE3 : Hid (Below B W w3) := BE2.out.trans (k3.below (Nat.le_trans hBW.out BE2.out.size) (fun _ h => h.elim))
        have RW3 : Hid _ := rw3
        clear AO2 BE2 k3 rw3 hg3 bel3
        go_wp2_with fail
        refine Calls.mono (WR.out _) ?_
        rintro e w4 ⟨gb, rfl, rw4, hg4, bel4⟩
        have k4 : Chg (fun _ => False) w3 w4 := Chg.of_below bel4 (fun _ => False)
        have WX : Hid _ := (AO3.out.more k4).write (Nat.le_trans hBW.out (Nat.le_trans BE3.out.size k4.size)) (l := l) (ab := some ⟨gb, 0, none⟩) (cb := Z) (src_row rw4 hll) hll (by omega) (by omega) sv hsS (by omega) (by omega) (by simp [Value.ownBlock]; have := AO3.out.lt; omega)
        have BE4 : Hid (Below B W w4) := BE3.out.trans (k4.below (Nat.le_trans hBW.out BE3.out.size) (fun _ h => h.elim))
        have RW4 : Hid (Rw w4 gw (bs l).toArray 5) := ⟨k4.heap_some RW3.out.eq (fun h => h)⟩
        clear WR AO3 BE3 RW3 k4 rw4 hg4 bel4
        go_wp2_with fail
        refine Calls.mono WX.out ?_
        rintro e w5 ⟨rfl, bl5, ot5, ao5⟩
        have b5 : Below B W w5 := BE4.out.trans bl5
        have FL : Hid _ := ao5.flush (Nat.le_trans hBW.out b5.size) (by omega) (by omega)
        have BE5 : Hid _ := b5
        have RW5 : Hid _ := ot5.gd _ RW4.out
        clear WX BE4 RW4 bl5 ot5 ao5 b5
        go_wp2_with fail
        refine Calls.mono FL.out ?_
        rintro e w6 ⟨rfl, bl6, ot6, ao6⟩
        have BE6 : Hid (Below B W w6) := BE5.out.trans bl6
        have DF6 : Hid (DF w6 B gw p S Z (i + 1) sv l) := by
          obtain ⟨x, q1, q2, q3, hd⟩ := ao6.ex
          refine ⟨⟨ot6.gd _ RW5.out, hll⟩, x, _, _, hd, ⟨by omega, by omega⟩, fun t ht => ?_, rfl, ?_⟩
          · show lastA (updT _ sv _ t) (F t) = none
            rw [updT_other _ _ (by omega), HF2.out t ht]
            rfl
          · show lastA (updT _ sv _ sv) (F sv) = some l
            rw [updT_same]
            exact lastA_snoc _ _ _
        obtain ⟨bb, hbb⟩ : ∃ bb, bb = i + 1 := ⟨_, rfl⟩
        rw [← hbb] at DF6
        clear FL BE5 RW5 bl6 ot6 ao6 hr1 hr2 hr hS0 HF2
        go_wp2_with fail
        go_loopg [20] (N2 + 1) (fun gk si wr => ∃ i : Nat, si = .int .i64 i ∧ i ≤ N2 ∧ N2 < gk + i ∧ Hid (Below B W wr ∧ DF wr B gw p S Z (bb + i) sv l))
        case atStart => exact ⟨0, rfl, by omega, by omega, BE6.out, DF6.out⟩
        case round =>
          obtain ⟨i, rfl, hi2, hgk2, hid⟩ := hrel
          clear BE6 DF6
          obtain ⟨bel, df⟩ := hid.out
          clear hid
          have hBr : B ≤ wr.heap.size := Nat.le_trans hBW.out bel.size
          by_cases hiN2 : i = N2
          · subst hiN2
            have CR : Hid _ := df.crash hBr (by omega) (by omega) (by omega)
            have BE : Hid _ := bel
            clear df bel
            go_wp2_with fail
            refine Calls.mono CR.out ?_
            rintro e w7 ⟨rfl, bl7, gd7, F7, ao7, hF7, hs7⟩
            have b7 : Below B W w7 := BE.out.trans bl7
            have RD0 := ao7.read (Nat.le_trans hBW.out b7.size) sv hsS (by omega) (by omega) (by omega)
            have e7 : (lastA ([] : List (Nat × List Int)) (F7 sv)).getD (zs Z) = l := by rw [lastA_nil, hs7]; rfl
            rw [e7] at RD0
            have RD : Hid _ := RD0
            have BE7 : Hid _ := b7
            have GD7 : Hid _ := gd7.1
            have HF7 : Hid _ := hF7
            have HS7 : Hid _ := hs7
            clear CR bl7 gd7 ao7 hF7 hs7 b7 RD0 e7 BE
            go_wp2_with fail
            refine Calls.mono RD.out ?_
            rintro e w8 ⟨g8, rfl, rg8, hg8, bl8, ot8, ao8⟩
            have b8 : Below B W w8 := BE7.out.trans bl8
            have hSZ : S * Z ≤ 16777216 := by
              have : S * Z ≤ 16 * 512 := Nat.mul_le_mul (by omega) (by omega)
              omega
            have IM : Hid _ := ao8.image (G2 := g8) (Nat.le_trans hBW.out b8.size) HF7.out (by omega) (by omega) hSZ
            have BE8 : Hid _ := b8
            have GD8 : Hid _ := ot8.gd _ GD7.out
            have RG8 : Hid _ := rg8
            clear RD bl8 ot8 ao8 b8 BE7 GD7 rg8
            go_wp2_with fail
            refine Calls.mono IM.out ?_
            rintro e w9 ⟨gi, rfl, rgi, bl9, ota, otb⟩
            have b9 : Below B W w9 := BE8.out.trans bl9
            have GD9 : Hid _ := ota.gd _ GD8.out
            have RG9 : Hid _ := otb.gd _ RG8.out
            have RGI : Hid _ := rgi
            have BE9 : Hid _ := b9
            have SM : Hid _ := same_src (src_row RG9.out hll) (src_row GD9.out hll) (by omega)
            obtain ⟨M, hM⟩ : ∃ M, M = S * Z := ⟨_, rfl⟩
            rw [← hM] at hSZ ⊢
            have hmul : (S : Int) * (Z : Int) = (M : Int) := by rw [hM, Int.natCast_mul]
            obtain ⟨Q, hQ⟩ : ∃ Q, Q = sv * Z := ⟨_, rfl⟩
            have hm1 : (sv : Int) * (Z : Int) = (Q : Int) := by rw [hQ, Int.natCast_mul]
            have hQZ : Q + Z ≤ M := by
              have := Nat.mul_le_mul_right Z hsS
              rw [Nat.succ_mul, ← hQ, ← hM] at this
              exact this
            have hm2 : ((sv : Int) + 1) * (Z : Int) = ((Q + Z : Nat) : Int) := by rw [Int.add_mul, Int.one_mul, hm1]; omega
            have SRC : Hid (∀ n, Src (w9.drewN n) (.slice (some ⟨gi, Q, none⟩) Z (M - Q)) l) := fun n => by
              refine .inr ⟨⟨gi, Q, none⟩, M - Q, by rw [hll], fun j u hu => ⟨rfl, ?_⟩⟩
              have hj : j < Z := by have := (List.getElem?_eq_some_iff.1 hu).1; rw [bs_len, hll] at this; exact this
              have hp := imgT_piece (z := Z) (S := S) (F := F7) (t := sv) (l := l) (by omega) hsS (by rw [HS7.out]; rfl) hll
              have h9 : (w9.drewN n).cell? ⟨gi, Q + j, none⟩ = w9.cell? ⟨gi, Q + j, none⟩ := rfl
              show (w9.drewN n).cell? ⟨gi, Q + j, none⟩ = some u
              rw [h9, Rw.cell RGI.out, List.getElem?_toArray]
              rw [← hu, ← hp]
              unfold bs piece
              rw [List.getElem?_map, List.getElem?_map, List.getElem?_take_of_lt hj, List.getElem?_drop, ← hQ]
            have GDS : Hid (∀ n, Src (w9.drewN n) (.slice (some ⟨gw, 0, none⟩) Z Z) l) := fun n => src_row ⟨GD9.out.eq⟩ hll
            clear IM bl9 ota otb rgi b9 BE8 GD8 RG8 hQ hM
            go_wp2_with fail
            refine Calls.mono SM.out ?_
            rintro e w10 ⟨rfl, m10, h10⟩
            subst h10
            have SM2 : Hid _ := same_src (SRC.out m10) (GDS.out m10) (by omega)
            clear SM
            go_wp2_with fail
            refine Calls.mono SM2.out ?_
            rintro e w11 ⟨rfl, m11, h11⟩
            have bw : Below W.heap.size W w11 := by
              rw [h11, ← HB.out]
              exact ⟨BE9.out.os, BE9.out.tape, BE9.out.output, BE9.out.size, BE9.out.block⟩
            have BW : Hid _ := bw
            clear SM2 bw h11
            go_wp2_with fail
            go_ret
            exact ⟨rfl, BW.out⟩
          · have hil : (i : Int) < (N2 : Int) := by omega
            obtain ⟨ga, oa, rfl, hcells⟩ := H2.out.cell bel (i := i) (by omega)
            have hkb := H2.out.kept bel (i := i) (by omega)
            have hlow := H2.out.low (i := i) (by omega)
            have hnm := H2.out.acs.nm i (by omega)
            have hfl := H2.out.acs.fl i (by omega)
            have hls := H2.out.ls i (by omega)
            obtain ⟨T, hT⟩ : ∃ T, ac2 i = T := ⟨_, rfl⟩
            rw [hT] at hcells hkb hlow hnm hfl hls
            clear hT
            obtain ⟨on, kd, nm, fl, less, at_, mask, ka, kn, kc, torn⟩ := T
            simp only at hkb hlow hnm hfl hls
            have d0 : wr.cell? ⟨ga, oa + i * 9, none⟩ = some (.int .i64 on) := hcells 0 _ rfl
            have d1 : wr.cell? ⟨ga, oa + i * 9 + 1, none⟩ = some (.int .i64 kd) := hcells 1 _ rfl
            have d2 : wr.cell? ⟨ga, oa + i * 9 + 2, none⟩ = some (.int .i64 nm) := hcells 2 _ rfl
            have d3 : wr.cell? ⟨ga, oa + i * 9 + 3, none⟩ = some (.int .u8 fl) := hcells 3 _ rfl
            have d4 : wr.cell? ⟨ga, oa + i * 9 + 4, none⟩ = some (.int .i64 less) := hcells 4 _ rfl
            have d5 : wr.cell? ⟨ga, oa + i * 9 + 5, none⟩ = some (.int .i64 at_) := hcells 5 _ rfl
            have d6 : wr.cell? ⟨ga, oa + i * 9 + 6, none⟩ = some (.int .u8 mask) := hcells 6 _ rfl
            have d7 : wr.cell? ⟨ga, oa + i * 9 + 7, none⟩ = some (.slice ka kn kc) := hcells 7 _ rfl
            have d8 : wr.cell? ⟨ga, oa + i * 9 + 8, none⟩ = some (.int .i64 torn) := hcells 8 _ rfl
            by_cases hkn : nm = (sv : Int)
            · by_cases k2 : kd = 2
              · subst k2
                have u3 : (nm == (sv : Int)) = true := by simp [hkn]
                clear hkn
                have C9 : Hid (∀ o, Below B W (wr.alloc o) ∧ DF (wr.alloc o) B gw p S Z (bb + (i + 1)) sv l) := fun o => ⟨bel.trans (((Chg.refl (fun _ => False) wr).alloc o).below hBr (fun _ h => h.elim)), (df.mono (Nat.le_succ _)).more ((Chg.refl _ _).alloc o)⟩
                clear df bel hkb hlow hcells
                go_wp2_with fail
                go_roundg (N2 - i)
                case measure => omega
                case rel => exact ⟨i + 1, by go_num, by omega, by omega, C9.out _⟩
              · by_cases k9 : kd = 9
                · subst k9
                  have u3 : (nm == (sv : Int)) = true := by simp [hkn]
                  clear hkn k2
                  have C9 : Hid (∀ o, Below B W (wr.alloc o) ∧ DF (wr.alloc o) B gw p S Z (bb + (i + 1)) sv l) := fun o => ⟨bel.trans (((Chg.refl (fun _ => False) wr).alloc o).below hBr (fun _ h => h.elim)), (df.mono (Nat.le_succ _)).more ((Chg.refl _ _).alloc o)⟩
                  clear df bel hkb hlow hcells
                  go_wp2_with fail
                  go_roundg (N2 - i)
                  case measure => omega
                  case rel => exact ⟨i + 1, by go_num, by omega, by omega, C9.out _⟩
                · have hok : (kd = 2 ∨ kd = 9) → nm ≠ (sv : Int) := fun h => by omega
                  have u1 : (kd == 2) = false := by simp [k2]
                  have u2 : (kd == 9) = false := by simp [k9]
                  clear hkn
                  have AC : Hid _ := fun (k9 : Chg (fun _ => False) wr (wr.alloc (.cells #[.int .i64 on, .int .i64 kd, .int .i64 nm, .int .u8 fl, .int .i64 less, .int .i64 at_, .int .u8 mask, .slice ka kn kc, .int .i64 torn] 45))) => (df.more k9).act (Nat.le_trans hBr k9.size) (by omega) (by omega) (by omega) (by omega) ⟨on, kd, nm, fl, less, at_, mask, ka, kn, kc, torn⟩ (hkb.chg k9 (fun _ _ _ _ h => h)) hlow hnm hfl hls hok
                  have BE : Hid _ := bel
                  clear df bel hkb hlow hcells hok
                  go_wp2_with fail
                  refine Calls.mono (AC.out ((Chg.refl _ _).alloc _)) ?_
                  rintro e w4 ⟨rfl, bl4, df4⟩
                  have bw4 : Below B W w4 := (BE.out.trans (((Chg.refl (fun _ => False) wr).alloc _).below hBr (fun _ h => h.elim))).trans bl4
                  have RD : Hid _ := df4.read (Nat.le_trans hBW.out bw4.size) hsS (by omega) (by omega) (by omega)
                  have BE4 : Hid _ := bw4
                  clear AC bl4 df4 bw4 BE d0 d1 d2 d3 d4 d5 d6 d7 d8
                  go_wp2_with fail
                  refine Calls.mono RD.out ?_
                  rintro e w5 ⟨he, bl5, df5⟩
                  have BE5 : Hid (Below B W w5) := BE4.out.trans bl5
                  have DF5 : Hid _ := df5
                  rcases he with ⟨g, rfl, hg⟩ | rfl
                  · have SM : Hid _ := same_src (src_row hg df5.gd.2) (src_row df5.gd.1 df5.gd.2) (by have := df5.gd.2; omega)
                    clear RD bl5 df5 hg BE4
                    go_wp2_with fail
                    refine Calls.mono SM.out ?_
                    rintro e w6 ⟨rfl, m6, h6⟩
                    have c6 : Chg (fun _ => False) w5 w6 := by rw [h6]; exact ⟨rfl, rfl, rfl, Nat.le_refl _, fun _ _ _ => rfl⟩
                    have K6 : Hid (Below B W w6 ∧ DF w6 B gw p S Z (bb + (i + 1)) sv l) := ⟨BE5.out.trans (c6.below (Nat.le_trans hBW.out BE5.out.size) (fun _ h => h.elim)), DF5.out.more c6⟩
                    clear SM h6 c6 BE5 DF5
                    go_wp2_with fail
                    go_roundg (N2 - i)
                    case measure => omega
                    case rel => exact ⟨i + 1, by go_num, by omega, by omega, K6.out⟩
                  · clear RD bl5 df5 BE4
                    go_wp2_with fail
                    go_roundg (N2 - i)
                    case measure => omega
                    case rel => exact ⟨i + 1, by go_num, by omega, by omega, BE5.out, DF5.out⟩
            · have u3 : (nm == (sv : Int)) = false := by simp [hkn]
              by_cases k2 : kd = 2
              · have hok : (kd = 2 ∨ kd = 9) → nm ≠ (sv : Int) := fun _ => hkn
                have u1 : (kd == 2) = true := by simp [k2]
                clear hkn k2
                have AC : Hid _ := fun (k9 : Chg (fun _ => False) wr (wr.alloc (.cells #[.int .i64 on, .int .i64 kd, .int .i64 nm, .int .u8 fl, .int .i64 less, .int .i64 at_, .int .u8 mask, .slice ka kn kc, .int .i64 torn] 45))) => (df.more k9).act (Nat.le_trans hBr k9.size) (by omega) (by omega) (by omega) (by omega) ⟨on, kd, nm, fl, less, at_, mask, ka, kn, kc, torn⟩ (hkb.chg k9 (fun _ _ _ _ h => h)) hlow hnm hfl hls hok
                have BE : Hid _ := bel
                clear df bel hkb hlow hcells hok
                go_wp2_with fail
                refine Calls.mono (AC.out ((Chg.refl _ _).alloc _)) ?_
                rintro e w4 ⟨rfl, bl4, df4⟩
                have bw4 : Below B W w4 := (BE.out.trans (((Chg.refl (fun _ => False) wr).alloc _).below hBr (fun _ h => h.elim))).trans bl4
                have RD : Hid _ := df4.read (Nat.le_trans hBW.out bw4.size) hsS (by omega) (by omega) (by omega)
                have BE4 : Hid _ := bw4
                clear AC bl4 df4 bw4 BE d0 d1 d2 d3 d4 d5 d6 d7 d8
                go_wp2_with fail
                refine Calls.mono RD.out ?_
                rintro e w5 ⟨he, bl5, df5⟩
                have BE5 : Hid (Below B W w5) := BE4.out.trans bl5
                have DF5 : Hid _ := df5
                rcases he with ⟨g, rfl, hg⟩ | rfl
                · have SM : Hid _ := same_src (src_row hg df5.gd.2) (src_row df5.gd.1 df5.gd.2) (by have := df5.gd.2; omega)
                  clear RD bl5 df5 hg BE4
                  go_wp2_with fail
                  refine Calls.mono SM.out ?_
                  rintro e w6 ⟨rfl, m6, h6⟩
                  have c6 : Chg (fun _ => False) w5 w6 := by rw [h6]; exact ⟨rfl, rfl, rfl, Nat.le_refl _, fun _ _ _ => rfl⟩
                  have K6 : Hid (Below B W w6 ∧ DF w6 B gw p S Z (bb + (i + 1)) sv l) := ⟨BE5.out.trans (c6.below (Nat.le_trans hBW.out BE5.out.size) (fun _ h => h.elim)), DF5.out.more c6⟩
                  clear SM h6 c6 BE5 DF5
                  go_wp2_with fail
                  go_roundg (N2 - i)
                  case measure => omega
                  case rel => exact ⟨i + 1, by go_num, by omega, by omega, K6.out⟩
                · clear RD bl5 df5 BE4
                  go_wp2_with fail
                  go_roundg (N2 - i)
                  case measure => omega
                  case rel => exact ⟨i + 1, by go_num, by omega, by omega, BE5.out, DF5.out⟩
              · by_cases k9 : kd = 9
                · have hok : (kd = 2 ∨ kd = 9) → nm ≠ (sv : Int) := fun _ => hkn
                  have u1 : (kd == 2) = false := by simp [k2]
                  have u2 : (kd == 9) = true := by simp [k9]
                  clear hkn k2 k9
                  have AC : Hid _ := fun (k9 : Chg (fun _ => False) wr (wr.alloc (.cells #[.int .i64 on, .int .i64 kd, .int .i64 nm, .int .u8 fl, .int .i64 less, .int .i64 at_, .int .u8 mask, .slice ka kn kc, .int .i64 torn] 45))) => (df.more k9).act (Nat.le_trans hBr k9.size) (by omega) (by omega) (by omega) (by omega) ⟨on, kd, nm, fl, less, at_, mask, ka, kn, kc, torn⟩ (hkb.chg k9 (fun _ _ _ _ h => h)) hlow hnm hfl hls hok
                  have BE : Hid _ := bel
                  clear df bel hkb hlow hcells hok
                  go_wp2_with fail
                  refine Calls.mono (AC.out ((Chg.refl _ _).alloc _)) ?_
                  rintro e w4 ⟨rfl, bl4, df4⟩
                  have bw4 : Below B W w4 := (BE.out.trans (((Chg.refl (fun _ => False) wr).alloc _).below hBr (fun _ h => h.elim))).trans bl4
                  have RD : Hid _ := df4.read (Nat.le_trans hBW.out bw4.size) hsS (by omega) (by omega) (by omega)
                  have BE4 : Hid _ := bw4
                  clear AC bl4 df4 bw4 BE d0 d1 d2 d3 d4 d5 d6 d7 d8
                  go_wp2_with fail
                  refine Calls.mono RD.out ?_
                  rintro e w5 ⟨he, bl5, df5⟩
                  have BE5 : Hid (Below B W w5) := BE4.out.trans bl5
                  have DF5 : Hid _ := df5
                  rcases he with ⟨g, rfl, hg⟩ | rfl
                  · have SM : Hid _ := same_src (src_row hg df5.gd.2) (src_row df5.gd.1 df5.gd.2) (by have := df5.gd.2; omega)
                    clear RD bl5 df5 hg BE4
                    go_wp2_with fail
                    refine Calls.mono SM.out ?_
                    rintro e w6 ⟨rfl, m6, h6⟩
                    have c6 : Chg (fun _ => False) w5 w6 := by rw [h6]; exact ⟨rfl, rfl, rfl, Nat.le_refl _, fun _ _ _ => rfl⟩
                    have K6 : Hid (Below B W w6 ∧ DF w6 B gw p S Z (bb + (i + 1)) sv l) := ⟨BE5.out.trans (c6.below (Nat.le_trans hBW.out BE5.out.size) (fun _ h => h.elim)), DF5.out.more c6⟩
                    clear SM h6 c6 BE5 DF5
                    go_wp2_with fail
                    go_roundg (N2 - i)
                    case measure => omega
                    case rel => exact ⟨i + 1, by go_num, by omega, by omega, K6.out⟩
                  · clear RD bl5 df5 BE4
                    go_wp2_with fail
                    go_roundg (N2 - i)
                    case measure => omega
                    case rel => exact ⟨i + 1, by go_num, by omega, by omega, BE5.out, DF5.out⟩
                · have hok : (kd = 2 ∨ kd = 9) → nm ≠ (sv : Int) := fun _ => hkn
                  have u1 : (kd == 2) = false := by simp [k2]
                  have u2 : (kd == 9) = false := by simp [k9]
                  clear hkn
                  have AC : Hid _ := fun (k9 : Chg (fun _ => False) wr (wr.alloc (.cells #[.int .i64 on, .int .i64 kd, .int .i64 nm, .int .u8 fl, .int .i64 less, .int .i64 at_, .int .u8 mask, .slice ka kn kc, .int .i64 torn] 45))) => (df.more k9).act (Nat.le_trans hBr k9.size) (by omega) (by omega) (by omega) (by omega) ⟨on, kd, nm, fl, less, at_, mask, ka, kn, kc, torn⟩ (hkb.chg k9 (fun _ _ _ _ h => h)) hlow hnm hfl hls hok
                  have BE : Hid _ := bel
                  clear df bel hkb hlow hcells hok
                  go_wp2_with fail
                  refine Calls.mono (AC.out ((Chg.refl _ _).alloc _)) ?_
                  rintro e w4 ⟨rfl, bl4, df4⟩
                  have bw4 : Below B W w4 := (BE.out.trans (((Chg.refl (fun _ => False) wr).alloc _).below hBr (fun _ h => h.elim))).trans bl4
                  have RD : Hid _ := df4.read (Nat.le_trans hBW.out bw4.size) hsS (by omega) (by omega) (by omega)
                  have BE4 : Hid _ := bw4
                  clear AC bl4 df4 bw4 BE d0 d1 d2 d3 d4 d5 d6 d7 d8
                  go_wp2_with fail
                  refine Calls.mono RD.out ?_
                  rintro e w5 ⟨he, bl5, df5⟩
                  have BE5 : Hid (Below B W w5) := BE4.out.trans bl5
                  have DF5 : Hid _ := df5
                  rcases he with ⟨g, rfl, hg⟩ | rfl
                  · have SM : Hid _ := same_src (src_row hg df5.gd.2) (src_row df5.gd.1 df5.gd.2) (by have := df5.gd.2; omega)
                    clear RD bl5 df5 hg BE4
                    go_wp2_with fail
                    refine Calls.mono SM.out ?_
                    rintro e w6 ⟨rfl, m6, h6⟩
                    have c6 : Chg (fun _ => False) w5 w6 := by rw [h6]; exact ⟨rfl, rfl, rfl, Nat.le_refl _, fun _ _ _ => rfl⟩
                    have K6 : Hid (Below B W w6 ∧ DF w6 B gw p S Z (bb + (i + 1)) sv l) := ⟨BE5.out.trans (c6.below (Nat.le_trans hBW.out BE5.out.size) (fun _ h => h.elim)), DF5.out.more c6⟩
                    clear SM h6 c6 BE5 DF5
                    go_wp2_with fail
                    go_roundg (N2 - i)
                    case measure => omega
                    case rel => exact ⟨i + 1, by go_num, by omega, by omega, K6.out⟩
                  · clear RD bl5 df5 BE4
                    go_wp2_with fail
                    go_roundg (N2 - i)
                    case measure => omega
                    case rel => exact ⟨i + 1, by go_num, by omega, by omega, BE5.out, DF5.out⟩
      · go_wp2_with fail
        refine Calls.mono (WR.out _) ?_
        rintro e w3 ⟨gw, rfl, rw3, hg3, bel3⟩
        have k3 : Chg (fun _ => False) w2 w3 := Chg.of_below bel3 (fun _ => False)
        have AO3 : Hid (AO w3 B gw p S Z i 0 (fun _ => []) F) := AO2.out.regard k3 hg3 rw3.lt
        have BE3 : Hid (Below B W w3) := BE2.out.trans (k3.below (Nat.le_trans hBW.out BE2.out.size) (fun _ h => h.elim))
        have RW3 : Hid _ := rw3
        clear AO2 BE2 k3 rw3 hg3 bel3
        go_wp2_with fail
        refine Calls.mono (WR.out _) ?_
        rintro e w4 ⟨gb, rfl, rw4, hg4, bel4⟩
        have k4 : Chg (fun _ => False) w3 w4 := Chg.of_below bel4 (fun _ => False)
        have WX : Hid _ := (AO3.out.more k4).write (Nat.le_trans hBW.out (Nat.le_trans BE3.out.size k4.size)) (l := l) (ab := some ⟨gb, 0, none⟩) (cb := Z) (src_row rw4 hll) hll (by omega) (by omega) sv hsS (by omega) (by omega) (by simp [Value.ownBlock]; have := AO3.out.lt; omega)
        have BE4 : Hid (Below B W w4) := BE3.out.trans (k4.below (Nat.le_trans hBW.out BE3.out.size) (fun _ h => h.elim))
        have RW4 : Hid (Rw w4 gw (bs l).toArray 5) := ⟨k4.heap_some RW3.out.eq (fun h => h)⟩
        clear WR AO3 BE3 RW3 k4 rw4 hg4 bel4
        go_wp2_with fail
        refine Calls.mono WX.out ?_
        rintro e w5 ⟨rfl, bl5, ot5, ao5⟩
        have b5 : Below B W w5 := BE4.out.trans bl5
        have FL : Hid _ := ao5.flush (Nat.le_trans hBW.out b5.size) (by omega) (by omega)
        have BE5 : Hid _ := b5
        have RW5 : Hid _ := ot5.gd _ RW4.out
        clear WX BE4 RW4 bl5 ot5 ao5 b5
        go_wp2_with fail
        refine Calls.mono FL.out ?_
        rintro e w6 ⟨rfl, bl6, ot6, ao6⟩
        have BE6 : Hid (Below B W w6) := BE5.out.trans bl6
        have DF6 : Hid (DF w6 B gw p S Z (i + 1) sv l) := by
          obtain ⟨x, q1, q2, q3, hd⟩ := ao6.ex
          refine ⟨⟨ot6.gd _ RW5.out, hll⟩, x, _, _, hd, ⟨by omega, by omega⟩, fun t ht => ?_, rfl, ?_⟩
          · show lastA (updT _ sv _ t) (F t) = none
            rw [updT_other _ _ (by omega), HF2.out t ht]
            rfl
          · show lastA (updT _ sv _ sv) (F sv) = some l
            rw [updT_same]
            exact lastA_snoc _ _ _
        obtain ⟨bb, hbb⟩ : ∃ bb, bb = i + 1 := ⟨_, rfl⟩
        rw [← hbb] at DF6
        clear FL BE5 RW5 bl6 ot6 ao6 hr1 hr2 hr hS0 HF2
        go_wp2_with fail
        go_loopg [20] (N2 + 1) (fun gk si wr => ∃ i : Nat, si = .int .i64 i ∧ i ≤ N2 ∧ N2 < gk + i ∧ Hid (Below B W wr ∧ DF wr B gw p S Z (bb + i) sv l))
        case atStart => exact ⟨0, rfl, by omega, by omega, BE6.out, DF6.out⟩
        case round =>
          obtain ⟨i, rfl, hi2, hgk2, hid⟩ := hrel
          clear BE6 DF6
          obtain ⟨bel, df⟩ := hid.out
          clear hid
          have hBr : B ≤ wr.heap.size := Nat.le_trans hBW.out bel.size
          by_cases hiN2 : i = N2
          · subst hiN2
            have CR : Hid _ := df.crash hBr (by omega) (by omega) (by omega)
            have BE : Hid _ := bel
            clear df bel
            go_wp2_with fail
            refine Calls.mono CR.out ?_
            rintro e w7 ⟨rfl, bl7, gd7, F7, ao7, hF7, hs7⟩
            have b7 : Below B W w7 := BE.out.trans bl7
            have RD0 := ao7.read (Nat.le_trans hBW.out b7.size) sv hsS (by omega) (by omega) (by omega)
            have e7 : (lastA ([] : List (Nat × List Int)) (F7 sv)).getD (zs Z) = l := by rw [lastA_nil, hs7]; rfl
            rw [e7] at RD0
            have RD : Hid _ := RD0
            have BE7 : Hid _ := b7
            have GD7 : Hid _ := gd7.1
            have HF7 : Hid _ := hF7
            have HS7 : Hid _ := hs7
            clear CR bl7 gd7 ao7 hF7 hs7 b7 RD0 e7 BE
            go_wp2_with fail
            refine Calls.mono RD.out ?_
            rintro e w8 ⟨g8, rfl, rg8, hg8, bl8, ot8, ao8⟩
            have b8 : Below B W w8 := BE7.out.trans bl8
            have hSZ : S * Z ≤ 16777216 := by
              have : S * Z ≤ 16 * 512 := Nat.mul_le_mul (by omega) (by omega)
              omega
            have IM : Hid _ := ao8.image (G2 := g8) (Nat.le_trans hBW.out b8.size) HF7.out (by omega) (by omega) hSZ
            have BE8 : Hid _ := b8
            have GD8 : Hid _ := ot8.gd _ GD7.out
            have RG8 : Hid _ := rg8
            clear RD bl8 ot8 ao8 b8 BE7 GD7 rg8
            go_wp2_with fail
            refine Calls.mono IM.out ?_
            rintro e w9 ⟨gi, rfl, rgi, bl9, ota, otb⟩
            have b9 : Below B W w9 := BE8.out.trans bl9
            have GD9 : Hid _ := ota.gd _ GD8.out
            have RG9 : Hid _ := otb.gd _ RG8.out
            have RGI : Hid _ := rgi
            have BE9 : Hid _ := b9
            have SM : Hid _ := same_src (src_row RG9.out hll) (src_row GD9.out hll) (by omega)
            obtain ⟨M, hM⟩ : ∃ M, M = S * Z := ⟨_, rfl⟩
            rw [← hM] at hSZ ⊢
            have hmul : (S : Int) * (Z : Int) = (M : Int) := by rw [hM, Int.natCast_mul]
            obtain ⟨Q, hQ⟩ : ∃ Q, Q = sv * Z := ⟨_, rfl⟩
            have hm1 : (sv : Int) * (Z : Int) = (Q : Int) := by rw [hQ, Int.natCast_mul]
            have hQZ : Q + Z ≤ M := by
              have := Nat.mul_le_mul_right Z hsS
              rw [Nat.succ_mul, ← hQ, ← hM] at this
              exact this
            have hm2 : ((sv : Int) + 1) * (Z : Int) = ((Q + Z : Nat) : Int) := by rw [Int.add_mul, Int.one_mul, hm1]; omega
            have SRC : Hid (∀ n, Src (w9.drewN n) (.slice (some ⟨gi, Q, none⟩) Z (M - Q)) l) := fun n => by
              refine .inr ⟨⟨gi, Q, none⟩, M - Q, by rw [hll], fun j u hu => ⟨rfl, ?_⟩⟩
              have hj : j < Z := by have := (List.getElem?_eq_some_iff.1 hu).1; rw [bs_len, hll] at this; exact this
              have hp := imgT_piece (z := Z) (S := S) (F := F7) (t := sv) (l := l) (by omega) hsS (by rw [HS7.out]; rfl) hll
              have h9 : (w9.drewN n).cell? ⟨gi, Q + j, none⟩ = w9.cell? ⟨gi, Q + j, none⟩ := rfl
              show (w9.drewN n).cell? ⟨gi, Q + j, none⟩ = some u
              rw [h9, Rw.cell RGI.out, List.getElem?_toArray]
              rw [← hu, ← hp]
              unfold bs piece
              rw [List.getElem?_map, List.getElem?_map, List.getElem?_take_of_lt hj, List.getElem?_drop, ← hQ]
            have GDS : Hid (∀ n, Src (w9.drewN n) (.slice (some ⟨gw, 0, none⟩) Z Z) l) := fun n => src_row ⟨GD9.out.eq⟩ hll
            clear IM bl9 ota otb rgi b9 BE8 GD8 RG8 hQ hM
            go_wp2_with fail
            refine Calls.mono SM.out ?_
            rintro e w10 ⟨rfl, m10, h10⟩
            subst h10
            have SM2 : Hid _ := same_src (SRC.out m10) (GDS.out m10) (by omega)
            clear SM
            go_wp2_with fail
            refine Calls.mono SM2.out ?_
            rintro e w11 ⟨rfl, m11, h11⟩
            have bw : Below W.heap.size W w11 := by
              rw [h11, ← HB.out]
              exact ⟨BE9.out.os, BE9.out.tape, BE9.out.output, BE9.out.size, BE9.out.block⟩
            have BW : Hid _ := bw
            clear SM2 bw h11
            go_wp2_with fail
            go_ret
            exact ⟨rfl, BW.out⟩
          · have hil : (i : Int) < (N2 : Int) := by omega
            obtain ⟨ga, oa, rfl, hcells⟩ := H2.out.cell bel (i := i) (by omega)
            have hkb := H2.out.kept bel (i := i) (by omega)
            have hlow := H2.out.low (i := i) (by omega)
            have hnm := H2.out.acs.nm i (by omega)
            have hfl := H2.out.acs.fl i (by omega)
            have hls := H2.out.ls i (by omega)
            obtain ⟨T, hT⟩ : ∃ T, ac2 i = T := ⟨_, rfl⟩
            rw [hT] at hcells hkb hlow hnm hfl hls
            clear hT
            obtain ⟨on, kd, nm, fl, less, at_, mask, ka, kn, kc, torn⟩ := T
            simp only at hkb hlow hnm hfl hls
            have d0 : wr.cell? ⟨ga, oa + i * 9, none⟩ = some (.int .i64 on) := hcells 0 _ rfl
            have d1 : wr.cell? ⟨ga, oa + i * 9 + 1, none⟩ = some (.int .i64 kd) := hcells 1 _ rfl
            have d2 : wr.cell? ⟨ga, oa + i * 9 + 2, none⟩ = some (.int .i64 nm) := hcells 2 _ rfl
            have d3 : wr.cell? ⟨ga, oa + i * 9 + 3, none⟩ = some (.int .u8 fl) := hcells 3 _ rfl
            have d4 : wr.cell? ⟨ga, oa + i * 9 + 4, none⟩ = some (.int .i64 less) := hcells 4 _ rfl
            have d5 : wr.cell? ⟨ga, oa + i * 9 + 5, none⟩ = some (.int .i64 at_) := hcells 5 _ rfl
            have d6 : wr.cell? ⟨ga, oa + i * 9 + 6, none⟩ = some (.int .u8 mask) := hcells 6 _ rfl
            have d7 : wr.cell? ⟨ga, oa + i * 9 + 7, none⟩ = some (.slice ka kn kc) := hcells 7 _ rfl
            have d8 : wr.cell? ⟨ga, oa + i * 9 + 8, none⟩ = some (.int .i64 torn) := hcells 8 _ rfl
            by_cases hkn : nm = (sv : Int)
            · by_cases k2 : kd = 2
              · subst k2
                have u3 : (nm == (sv : Int)) = true := by simp [hkn]
                clear hkn
                have C9 : Hid (∀ o, Below B W (wr.alloc o) ∧ DF (wr.alloc o) B gw p S Z (bb + (i + 1)) sv l) := fun o => ⟨bel.trans (((Chg.refl (fun _ => False) wr).alloc o).below hBr (fun _ h => h.elim)), (df.mono (Nat.le_succ _)).more ((Chg.refl _ _).alloc o)⟩
                clear df bel hkb hlow hcells
                go_wp2_with fail
                go_roundg (N2 - i)
                case measure => omega
                case rel => exact ⟨i + 1, by go_num, by omega, by omega, C9.out _⟩
              · by_cases k9 : kd = 9
                · subst k9
                  have u3 : (nm == (sv : Int)) = true := by simp [hkn]
                  clear hkn k2
                  have C9 : Hid (∀ o, Below B W (wr.alloc o) ∧ DF (wr.alloc o) B gw p S Z (bb + (i + 1)) sv l) := fun o => ⟨bel.trans (((Chg.refl (fun _ => False) wr).alloc o).below hBr (fun _ h => h.elim)), (df.mono (Nat.le_succ _)).more ((Chg.refl _ _).alloc o)⟩
                  clear df bel hkb hlow hcells
                  go_wp2_with fail
                  go_roundg (N2 - i)
                  case measure => omega
                  case rel => exact ⟨i + 1, by go_num, by omega, by omega, C9.out _⟩
                · have hok : (kd = 2 ∨ kd = 9) → nm ≠ (sv : Int) := fun h => by omega
                  have u1 : (kd == 2) = false := by simp [k2]
                  have u2 : (kd == 9) = false := by simp [k9]
                  clear hkn
                  have AC : Hid _ := fun (k9 : Chg (fun _ => False) wr (wr.alloc (.cells #[.int .i64 on, .int .i64 kd, .int .i64 nm, .int .u8 fl, .int .i64 less, .int .i64 at_, .int .u8 mask, .slice ka kn kc, .int .i64 torn] 45))) => (df.more k9).act (Nat.le_trans hBr k9.size) (by omega) (by omega) (by omega) (by omega) ⟨on, kd, nm, fl, less, at_, mask, ka, kn, kc, torn⟩ (hkb.chg k9 (fun _ _ _ _ h => h)) hlow hnm hfl hls hok
                  have BE : Hid _ := bel
                  clear df bel hkb hlow hcells hok
                  go_wp2_with fail
                  refine Calls.mono (AC.out ((Chg.refl _ _).alloc _)) ?_
                  rintro e w4 ⟨rfl, bl4, df4⟩
                  have bw4 : Below B W w4 := (BE.out.trans (((Chg.refl (fun _ => False) wr).alloc _).below hBr (fun _ h => h.elim))).trans bl4
                  have RD : Hid _ := df4.read (Nat.le_trans hBW.out bw4.size) hsS (by omega) (by omega) (by omega)
                  have BE4 : Hid _ := bw4
                  clear AC bl4 df4 bw4 BE d0 d1 d2 d3 d4 d5 d6 d7 d8
                  go_wp2_with fail
                  refine Calls.mono RD.out ?_
                  rintro e w5 ⟨he, bl5, df5⟩
                  have BE5 : Hid (Below B W w5) := BE4.out.trans bl5
                  have DF5 : Hid _ := df5
                  rcases he with ⟨g, rfl, hg⟩ | rfl
                  · have SM : Hid _ := same_src (src_row hg df5.gd.2) (src_row df5.gd.1 df5.gd.2) (by have := df5.gd.2; omega)
                    clear RD bl5 df5 hg BE4
                    go_wp2_with fail
                    refine Calls.mono SM.out ?_
                    rintro e w6 ⟨rfl, m6, h6⟩
                    have c6 : Chg (fun _ => False) w5 w6 := by rw [h6]; exact ⟨rfl, rfl, rfl, Nat.le_refl _, fun _ _ _ => rfl⟩
                    have K6 : Hid (Below B W w6 ∧ DF w6 B gw p S Z (bb + (i + 1)) sv l) := ⟨BE5.out.trans (c6.below (Nat.le_trans hBW.out BE5.out.size) (fun _ h => h.elim)), DF5.out.more c6⟩
                    clear SM h6 c6 BE5 DF5
                    go_wp2_with fail
                    go_roundg (N2 - i)
                    case measure => omega
                    case rel => exact ⟨i + 1, by go_num, by omega, by omega, K6.out⟩
                  · clear RD bl5 df5 BE4
                    go_wp2_with fail
                    go_roundg (N2 - i)
                    case measure => omega
                    case rel => exact ⟨i + 1, by go_num, by omega, by omega, BE5.out, DF5.out⟩
            · have u3 : (nm == (sv : Int)) = false := by simp [hkn]
              by_cases k2 : kd = 2
              · have hok : (kd = 2 ∨ kd = 9) → nm ≠ (sv : Int) := fun _ => hkn
                have u1 : (kd == 2) = true := by simp [k2]
                clear hkn k2
                have AC : Hid _ := fun (k9 : Chg (fun _ => False) wr (wr.alloc (.cells #[.int .i64 on, .int .i64 kd, .int .i64 nm, .int .u8 fl, .int .i64 less, .int .i64 at_, .int .u8 mask, .slice ka kn kc, .int .i64 torn] 45))) => (df.more k9).act (Nat.le_trans hBr k9.size) (by omega) (by omega) (by omega) (by omega) ⟨on, kd, nm, fl, less, at_, mask, ka, kn, kc, torn⟩ (hkb.chg k9 (fun _ _ _ _ h => h)) hlow hnm hfl hls hok
                have BE : Hid _ := bel
                clear df bel hkb hlow hcells hok
                go_wp2_with fail
                refine Calls.mono (AC.out ((Chg.refl _ _).alloc _)) ?_
                rintro e w4 ⟨rfl, bl4, df4⟩
                have bw4 : Below B W w4 := (BE.out.trans (((Chg.refl (fun _ => False) wr).alloc _).below hBr (fun _ h => h.elim))).trans bl4
                have RD : Hid _ := df4.read (Nat.le_trans hBW.out bw4.size) hsS (by omega) (by omega) (by omega)
                have BE4 : Hid _ := bw4
                clear AC bl4 df4 bw4 BE d0 d1 d2 d3 d4 d5 d6 d7 d8
                go_wp2_with fail
                refine Calls.mono RD.out ?_
                rintro e w5 ⟨he, bl5, df5⟩
                have BE5 : Hid (Below B W w5) := BE4.out.trans bl5
                have DF5 : Hid _ := df5
                rcases he with ⟨g, rfl, hg⟩ | rfl
                · have SM : Hid _ := same_src (src_row hg df5.gd.2) (src_row df5.gd.1 df5.gd.2) (by have := df5.gd.2; omega)
                  clear RD bl5 df5 hg BE4
                  go_wp2_with fail
                  refine Calls.mono SM.out ?_
                  rintro e w6 ⟨rfl, m6, h6⟩
                  have c6 : Chg (fun _ => False) w5 w6 := by rw [h6]; exact ⟨rfl, rfl, rfl, Nat.le_refl _, fun _ _ _ => rfl⟩
                  have K6 : Hid (Below B W w6 ∧ DF w6 B gw p S Z (bb + (i + 1)) sv l) := ⟨BE5.out.trans (c6.below (Nat.le_trans hBW.out BE5.out.size) (fun _ h => h.elim)), DF5.out.more c6⟩
                  clear SM h6 c6 BE5 DF5
                  go_wp2_with fail
                  go_roundg (N2 - i)
                  case measure => omega
                  case rel => exact ⟨i + 1, by go_num, by omega, by omega, K6.out⟩
                · clear RD bl5 df5 BE4
                  go_wp2_with fail
                  go_roundg (N2 - i)
                  case measure => omega
                  case rel => exact ⟨i + 1, by go_num, by omega, by omega, BE5.out, DF5.out⟩
              · by_cases k9 : kd = 9
                · have hok : (kd = 2 ∨ kd = 9) → nm ≠ (sv : Int) := fun _ => hkn
                  have u1 : (kd == 2) = false := by simp [k2]
                  have u2 : (kd == 9) = true := by simp [k9]
                  clear hkn k2 k9
                  have AC : Hid _ := fun (k9 : Chg (fun _ => False) wr (wr.alloc (.cells #[.int .i64 on, .int .i64 kd, .int .i64 nm, .int .u8 fl, .int .i64 less, .int .i64 at_, .int .u8 mask, .slice ka kn kc, .int .i64 torn] 45))) => (df.more k9).act (Nat.le_trans hBr k9.size) (by omega) (by omega) (by omega) (by omega) ⟨on, kd, nm, fl, less, at_, mask, ka, kn, kc, torn⟩ (hkb.chg k9 (fun _ _ _ _ h => h)) hlow hnm hfl hls hok
                  have BE : Hid _ := bel
                  clear df bel hkb hlow hcells hok
                  go_wp2_with fail
                  refine Calls.mono (AC.out ((Chg.refl _ _).alloc _)) ?_
                  rintro e w4 ⟨rfl, bl4, df4⟩
                  have bw4 : Below B W w4 := (BE.out.trans (((Chg.refl (fun _ => False) wr).alloc _).below hBr (fun _ h => h.elim))).trans bl4
                  have RD : Hid _ := df4.read (Nat.le_trans hBW.out bw4.size) hsS (by omega) (by omega) (by omega)
                  have BE4 : Hid _ := bw4
                  clear AC bl4 df4 bw4 BE d0 d1 d2 d3 d4 d5 d6 d7 d8
                  go_wp2_with fail
                  refine Calls.mono RD.out ?_
                  rintro e w5 ⟨he, bl5, df5⟩
                  have BE5 : Hid (Below B W w5) := BE4.out.trans bl5
                  have DF5 : Hid _ := df5
                  rcases he with ⟨g, rfl, hg⟩ | rfl
                  · have SM : Hid _ := same_src (src_row hg df5.gd.2) (src_row df5.gd.1 df5.gd.2) (by have := df5.gd.2; omega)
                    clear RD bl5 df5 hg BE4
                    go_wp2_with fail
                    refine Calls.mono SM.out ?_
                    rintro e w6 ⟨rfl, m6, h6⟩
                    have c6 : Chg (fun _ => False) w5 w6 := by rw [h6]; exact ⟨rfl, rfl, rfl, Nat.le_refl _, fun _ _ _ => rfl⟩
                    have K6 : Hid (Below B W w6 ∧ DF w6 B gw p S Z (bb + (i + 1)) sv l) := ⟨BE5.out.trans (c6.below (Nat.le_trans hBW.out BE5.out.size) (fun _ h => h.elim)), DF5.out.more c6⟩
                    clear SM h6 c6 BE5 DF5
                    go_wp2_with fail
                    go_roundg (N2 - i)
                    case measure => omega
                    case rel => exact ⟨i + 1, by go_num, by omega, by omega, K6.out⟩
                  · clear RD bl5 df5 BE4
                    go_wp2_with fail
                    go_roundg (N2 - i)
                    case measure => omega
                    case rel => exact ⟨i + 1, by go_num, by omega, by omega, BE5.out, DF5.out⟩
                · have hok : (kd = 2 ∨ kd = 9) → nm ≠ (sv : Int) := fun _ => hkn
                  have u1 : (kd == 2) = false := by simp [k2]
                  have u2 : (kd == 9) = false := by simp [k9]
                  clear hkn
                  have AC : Hid _ := fun (k9 : Chg (fun _ => False) wr (wr.alloc (.cells #[.int .i64 on, .int .i64 kd, .int .i64 nm, .int .u8 fl, .int .i64 less, .int .i64 at_, .int .u8 mask, .slice ka kn kc, .int .i64 torn] 45))) => (df.more k9).act (Nat.le_trans hBr k9.size) (by omega) (by omega) (by omega) (by omega) ⟨on, kd, nm, fl, less, at_, mask, ka, kn, kc, torn⟩ (hkb.chg k9 (fun _ _ _ _ h => h)) hlow hnm hfl hls hok
                  have BE : Hid _ := bel
                  clear df bel hkb hlow hcells hok
                  go_wp2_with fail
                  refine Calls.mono (AC.out ((Chg.refl _ _).alloc _)) ?_
                  rintro e w4 ⟨rfl, bl4, df4⟩
                  have bw4 : Below B W w4 := (BE.out.trans (((Chg.refl (fun _ => False) wr).alloc _).below hBr (fun _ h => h.elim))).trans bl4
                  have RD : Hid _ := df4.read (Nat.le_trans hBW.out bw4.size) hsS (by omega) (by omega) (by omega)
                  have BE4 : Hid _ := bw4
                  clear AC bl4 df4 bw4 BE d0 d1 d2 d3 d4 d5 d6 d7 d8
                  go_wp2_with fail
                  refine Calls.mono RD.out ?_
                  rintro e w5 ⟨he, bl5, df5⟩
                  have BE5 : Hid (Below B W w5) := BE4.out.trans bl5
                  have DF5 : Hid _ := df5
                  rcases he with ⟨g, rfl, hg⟩ | rfl
                  · have SM : Hid _ := same_src (src_row hg df5.gd.2) (src_row df5.gd.1 df5.gd.2) (by have := df5.gd.2; omega)
                    clear RD bl5 df5 hg BE4
                    go_wp2_with fail
                    refine Calls.mono SM.out ?_
                    rintro e w6 ⟨rfl, m6, h6⟩
                    have c6 : Chg (fun _ => False) w5 w6 := by rw [h6]; exact ⟨rfl, rfl, rfl, Nat.le_refl _, fun _ _ _ => rfl⟩
                    have K6 : Hid (Below B W w6 ∧ DF w6 B gw p S Z (bb + (i + 1)) sv l) := ⟨BE5.out.trans (c6.below (Nat.le_trans hBW.out BE5.out.size) (fun _ h => h.elim)), DF5.out.more c6⟩
                    clear SM h6 c6 BE5 DF5
                    go_wp2_with fail
                    go_roundg (N2 - i)
                    case measure => omega
                    case rel => exact ⟨i + 1, by go_num, by omega, by omega, K6.out⟩
                  · clear RD bl5 df5 BE4
                    go_wp2_with fail
                    go_roundg (N2 - i)
                    case measure => omega
                    case rel => exact ⟨i + 1, by go_num, by omega, by omega, BE5.out, DF5.out⟩
    · have hil : (i : Int) < (N1 : Int) := by omega
      obtain ⟨ga, oa, rfl, hcells⟩ := H1.out.cell bel (i := i) (by omega)
      have hkb := H1.out.kept bel (i := i) (by omega)
      have hlow := H1.out.low (i := i) (by omega)
      have hnm := H1.out.acs.nm i (by omega)
      have hfl := H1.out.acs.fl i (by omega)
      have hls := H1.out.ls i (by omega)
      obtain ⟨T, hT⟩ : ∃ T, ac1 i = T := ⟨_, rfl⟩
      rw [hT] at hcells hkb hlow hnm hfl hls
      clear hT
      have AC : Hid _ := ds.act hBr (by omega) (by omega) (by omega) (by omega) T hkb hlow hnm hfl hls
      obtain ⟨on, kd, nm, fl, less, at_, mask, ka, kn, kc, torn⟩ := T
      have d0 : wr.cell? ⟨ga, oa + i * 9, none⟩ = some (.int .i64 on) := hcells 0 _ rfl
      have d1 : wr.cell? ⟨ga, oa + i * 9 + 1, none⟩ = some (.int .i64 kd) := hcells 1 _ rfl
      have d2 : wr.cell? ⟨ga, oa + i * 9 + 2, none⟩ = some (.int .i64 nm) := hcells 2 _ rfl
      have d3 : wr.cell? ⟨ga, oa + i * 9 + 3, none⟩ = some (.int .u8 fl) := hcells 3 _ rfl
      have d4 : wr.cell? ⟨ga, oa + i * 9 + 4, none⟩ = some (.int .i64 less) := hcells 4 _ rfl
      have d5 : wr.cell? ⟨ga, oa + i * 9 + 5, none⟩ = some (.int .i64 at_) := hcells 5 _ rfl
      have d6 : wr.cell? ⟨ga, oa + i * 9 + 6, none⟩ = some (.int .u8 mask) := hcells 6 _ rfl
      have d7 : wr.cell? ⟨ga, oa + i * 9 + 7, none⟩ = some (.slice ka kn kc) := hcells 7 _ rfl
      have d8 : wr.cell? ⟨ga, oa + i * 9 + 8, none⟩ = some (.int .i64 torn) := hcells 8 _ rfl
      have BE : Hid _ := bel
      unfold Ac.cells actC at AC
      clear ds bel hkb hlow hcells
      go_wp2_with fail
      refine Calls.mono AC.out ?_
      rintro e w4 ⟨rfl, bl4, ds4⟩
      have BE4 : Hid (Below B W w4) := BE.out.trans bl4
      have DS4 : Hid _ := ds4
      clear AC bl4 ds4 BE d0 d1 d2 d3 d4 d5 d6 d7 d8
      go_wp2_with fail
      go_roundg (N1 - i)
      case measure => omega
      case rel => exact ⟨i + 1, by go_num, by omega, by omega, BE4.out, DS4.out⟩
end Go.Proofs.Ytffkodonomfflaa
