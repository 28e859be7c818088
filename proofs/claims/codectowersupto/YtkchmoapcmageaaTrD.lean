/-
  A tower is copied: the walk.
-/
import Derived.Test.YtkchmoapcmageaaTrC
namespace Go.Proofs.Ytkchmoapcmageaa
open Go.RowKit

theorem Blk.midV {w : World} {g : Nat} {cs : List Value} {t : TypeId} (h : Blk w g cs t) {o : Nat} {vs : List Value} (e : (cs.drop o).take vs.length = vs) : w.rangeAt g o vs := fun j v hj => by
  have hlt := (List.getElem?_eq_some_iff.1 hj).1
  rw [h.cell (o + j)]
  rw [← e, List.getElem?_take_of_lt hlt, List.getElem?_drop] at hj
  exact hj

theorem KT.twIn {w wr w7 : World} {P : Tw} {g3 : Nat} {Av : Nat → Prop} {ka A : Option Addr} {kn kc c : Nat} {os' : Nat → Kd} (h : KT w P g3 (.slice ka kn kc) wr P.sn (.slice A P.sn c) os') (hP : TwIn w Av P) (ra : RowsIn wr (fun g => w.heap.size + 2 ≤ g ∧ g < wr.heap.size) A P.sn 68 (fun i => (os' i).cells)) (c7 : Chg (fun k => k = w.heap.size + 1) wr w7) : TwIn w7 (fun g => g < w7.heap.size) ⟨P.hd, ka, kn, kc, P.kl, P.vl, A, P.sn, c, os'⟩ := by
  have key := h.ky.1.kept c7 (fun k hk => h.res.no5C (by decide) h.ky.1 hk)
  refine ⟨key.src, fun g hg => .inl (key.lt hg), hP.vl, hP.sn, hP.kl, (ra.kept c7 (fun g hg e => by omega)).mono (fun g hg => Nat.lt_of_lt_of_le hg.2 c7.size), fun i hi => ?_⟩
  have ko := h.ko i hi
  have o := hP.kid i hi
  have sm := ko.sm
  have k1 := ko.k.kept c7 (fun k hk => h.res.no5C (by decide) ko.k hk)
  exact ⟨k1.src, fun g hg => .inl (k1.lt hg), by rw [← sm.lv]; exact o.lv, by rw [← sm.ct]; exact o.ct, by rw [← sm.ad]; exact o.ad, by rw [← sm.lb]; exact o.lb⟩

theorem yieldsIf_build69 {ops : Array Oper} {S : World → Prop} {op : Oper} {a : Act} (hw : Region.wanted op (yielded ops a.tmps) = true) (x y z : Operand) (ho : op.op = .build 69 #[(0, x), (1, y), (2, z)]) {hd : Bool} {b : Option Addr} {n c : Nat} {vl : List Int} (hx : a.eval x = .bool hd) (hy : a.eval y = .slice b n c) (hz : a.eval z = .agg (bs vl).toArray) (hv : vl.length = 33) : YieldsIf Try.prog ops S op (.agg (towC hd (.slice b n c) vl (.slice none 0 0)).toArray) a :=
  .inl ⟨hw, fun w _ => by
    unfold execOp
    simp only [ho, List.map_toArray, List.map_cons, List.map_nil, hx, hy, hz, run_built69 hd b n c vl hv w, Sem.run_bind, Sem.run_pure, Result.andThen_ok]⟩

set_option maxRecDepth 100000 in
set_option maxHeartbeats 8000000 in
theorem copyTower_any {w : World} {P : Tw} (hP : TwIn w (fun g => g < w.heap.size) P) (hl0 : P.kl.length ≤ 4194304) (hl : ∀ i, i < P.sn → (P.ks i).kl.length ≤ 4194304) :
    Calls Try.prog 39 #[.agg P.cells.toArray] w fun e w' => CtQ w w' P e := by
  obtain ⟨W, hW⟩ : ∃ W, W = (w.alloc (.cells P.cells.toArray 69)).alloc (.cells towZ.toArray 69) := ⟨_, rfl⟩
  have cW : Chg (fun _ => False) w W := by rw [hW]; exact ((Chg.refl _ _).alloc _).alloc _
  have bW : Below w.heap.size w W := cW.below (Nat.le_refl _) (fun _ e => e.elim)
  have B0 : Hid (Blk W w.heap.size P.cells 69) := by rw [hW]; exact (Blk.made w _ 69).alloc _
  have B1 : Hid (Blk W (w.heap.size + 1) towZ 69) := by
    rw [hW]
    have := Blk.made (w.alloc (.cells P.cells.toArray 69)) towZ 69
    rwa [World.size_alloc] at this
  have SW : W.heap.size = w.heap.size + 2 := by rw [hW]; simp
  have HI : Hid (TwIn W (fun g => g < w.heap.size) P) := hP.kept cW (fun _ _ e => e)
  have HBW : Hid _ := bW
  have HL : Hid _ := hl
  have HP : Hid _ := hP
  have HV := hP.vl
  have SN := hP.sn
  have SWH : Hid _ := SW
  clear hP hl cW bW SW
  go_enter Try.func39, Try.ntmps39
  go_upto_region 1 with fail
  have hW2 : W = (w.alloc (.cells P.cells.toArray 69)).alloc (.cells #[.bool false, .slice none 0 0, .int .u8 0, .int .u8 0, .int .u8 0, .int .u8 0, .int .u8 0, .int .u8 0, .int .u8 0, .int .u8 0, .int .u8 0, .int .u8 0, .int .u8 0, .int .u8 0, .int .u8 0, .int .u8 0, .int .u8 0, .int .u8 0, .int .u8 0, .int .u8 0, .int .u8 0, .int .u8 0, .int .u8 0, .int .u8 0, .int .u8 0, .int .u8 0, .int .u8 0, .int .u8 0, .int .u8 0, .int .u8 0, .int .u8 0, .int .u8 0, .int .u8 0, .int .u8 0, .int .u8 0, .slice none 0 0] 69) := hW
  rw [← hW2]
  clear hW hW2
  go_cut [3] from 6 to 13 (fun s3 wx => ∃ (g3 ua un uc : _), s3 = .pointer (some ⟨g3, 0, none⟩) ∧ Hid (KT w P g3 (.slice ua un uc) wx 0 (.slice none 0 0) P.ks))
  case first =>
    refine wp_region_held_drew (S := fun w' => Blk w' w.heap.size P.cells 69) (by kernel_rfl) (Blk.drew B0.out) (fun hH => ?_)
    refine wpAnyH_take (i := 0) (v := .pointer (some ⟨w.heap.size, 0, none⟩)) rfl (by kernel_rfl) (by kernel_rfl) (by kernel_rfl) (fun _ _ _ h => h) (Or.inl ⟨by rfl, fun w' hw' => by go_simp⟩) hH ?_
    refine wpAnyH_take (i := 1) (v := .bool P.hd) rfl (by kernel_rfl) (by kernel_rfl) (by kernel_rfl) (fun _ _ _ h => h) (Or.inl ⟨by rfl, fun w' hw' => by have h2 : w'.cell? ⟨w.heap.size, 0, none⟩ = some (.bool P.hd) := Blk.cell hw' 0; go_simp⟩) hH ?_
    refine wpAnyH_take (i := 2) (v := .pointer (some ⟨w.heap.size, 1, none⟩)) rfl (by kernel_rfl) (by kernel_rfl) (by kernel_rfl) (fun _ _ _ h => h) (Or.inl ⟨by rfl, fun w' hw' => by go_simp⟩) hH ?_
    refine wpAnyH_take (i := 3) (v := .slice P.ka P.kn P.kc) rfl (by kernel_rfl) (by kernel_rfl) (by kernel_rfl) (fun _ _ _ h => h) (Or.inl ⟨by rfl, fun w' hw' => by have h2 : w'.cell? ⟨w.heap.size, 1, none⟩ = some (.slice P.ka P.kn P.kc) := Blk.cell hw' 1; go_simp⟩) hH ?_
    refine wpAnyH_take (i := 5) (v := .pointer (some ⟨w.heap.size, 2, none⟩)) rfl (by kernel_rfl) (by kernel_rfl) (by kernel_rfl) (fun _ _ _ h => h) (Or.inl ⟨by rfl, fun w' hw' => by go_simp⟩) hH ?_
    refine wpAnyH_take (i := 6) (v := .agg (bs P.vl).toArray) rfl (by kernel_rfl) (by kernel_rfl) (by kernel_rfl) (fun _ _ _ h => h) (yieldsIf_load_mid (by rfl) 33 _ rfl w.heap.size 2 (by kernel_rfl) (bs P.vl) _ (fun w' h => Blk.midV h P.vl_at) Try.underlying33 rfl (Try.addrSz P.vl HV)) hH ?_

    refine wpAnyH_ready (rs := [4, 8]) (by kernel_rfl) (by simp) ?_
    refine AllReadyH.cons rfl (fun KK hKK => ?_) (AllReadyH.cons rfl (fun KK hKK => ?_) AllReadyH.nil)
    · go_simp
      refine Calls.mono (copy_any (Src.kept HI.out.src ((Chg.refl (fun _ => False) W).drew) (fun _ _ e => e)) (by omega)) ?_
      rintro e wC ⟨u, rfl, m1⟩
      obtain ⟨ua, uc, huf⟩ := m1.1.form
      obtain ⟨un, hun⟩ : ∃ un, un = P.kl.length := ⟨_, rfl⟩
      rw [← hun] at huf
      subst huf
      clear hun
      have cC : Chg (fun _ => False) W.drew wC := Chg.of_below m1.2.1 _
      have OC : Hid _ := m1.1
      have NC : Hid (∀ q, (Value.slice ua un uc).ownBlock = some q → W.drew.heap.size ≤ q) := m1.2.2
      refine hKK.out _ _ (hH.keep cC (fun e => e)) (fun hH => ?_)
      clear hKK KK m1
      refine wpAnyH_take (i := 7) (v := .agg (towC P.hd (.slice ua un uc) P.vl (.slice none 0 0)).toArray) rfl (by kernel_rfl) (by kernel_rfl) (by kernel_rfl) (fun _ _ _ h => h) (yieldsIf_build69 (by rfl) (.tmp 7) (.tmp 10) (.tmp 12) rfl (by kernel_rfl) (by kernel_rfl) (by kernel_rfl) HV) hH ?_
      refine wpAnyH_ready (rs := [8]) (by kernel_rfl) (by simp) ?_
      refine AllReadyH.cons rfl (fun KK hKK => ?_) AllReadyH.nil
      go_simp
      refine hKK.out _ _ (hH.alloc _) (fun hH => ?_)
      clear hKK KK
      refine wpAnyH_ready (rs := [9]) (by kernel_rfl) (by simp) ?_
      refine AllReadyH.cons rfl (fun KK hKK => ?_) AllReadyH.nil
      refine step_storeF rfl 69 (.tmp 3) (.tmp 13) rfl wC.heap.size (towC P.hd (.slice ua un uc) P.vl (.slice none 0 0)) (by kernel_rfl) (by kernel_rfl) (Blk.made wC towZ 69) (by rw [towC_len, HV]; rfl) (Try.towSz' _ _ _ _ HV) (towC_one _ rfl _ rfl) ?_
      intro wS bS cS
      have FIN : Hid (KT w P wC.heap.size (.slice ua un uc) wS 0 (.slice none 0 0) P.ks) := by
        have ct : Chg (fun _ => False) W wS := ((((Chg.refl (fun _ => False) W).drew).trans cC (fun _ e => e.elim)).alloc _).trans cS (fun k e => .inr (by have h9 := cC.size; have h8 : W.drew.heap.size = W.heap.size := rfl; have h7 := SWH.out; omega))
        refine ⟨B0.out.keep ct (fun e => e), B1.out.keep ct (fun e => e), bS, (by have h9 := cC.size; have h8 : W.drew.heap.size = W.heap.size := rfl; have h7 := SWH.out; omega), HI.out.kept ct (fun _ _ e => e), ⟨World.ownsRow_nil _ 0 112 68, (fun c hc => by cases hc)⟩, fun i hi => absurd hi (Nat.not_lt_zero _), ⟨Own.kept (Own.alloc OC.out _) cS (fun k hk => Blk.no5C (Blk.made wC towZ 69) (by decide) (Own.alloc OC.out _) hk), rfl⟩, fun g hg => by simp [Value.ownBlock] at hg, HBW.out.trans (ct.below HBW.out.size (fun _ e => e.elim)), Nat.le_trans (Nat.le_of_eq SWH.out.symm) ct.size⟩
      refine hKK.out _ _ (FIN.out.b0) (fun _ => ?_)
      clear hKK KK bS cS
      refine wpAnyH_done (by kernel_rfl) ?_ _
      go_wp2_with fail
      go_meet
      case rel => exact ⟨_, _, _, _, rfl, FIN.out⟩
    · go_simp
      refine hKK.out _ _ (hH.alloc _) (fun hH => ?_)
      clear hKK KK
      refine wpAnyH_ready (rs := [4]) (by kernel_rfl) (by simp) ?_
      refine AllReadyH.cons rfl (fun KK hKK => ?_) AllReadyH.nil
      go_simp
      have cA : Chg (fun _ => False) W (W.drew.alloc (.cells towZ.toArray 69)) := ((Chg.refl (fun _ => False) W).drew).alloc _
      refine Calls.mono (copy_any (Src.kept HI.out.src cA (fun _ _ e => e)) (by omega)) ?_
      rintro e wC ⟨u, rfl, m1⟩
      obtain ⟨ua, uc, huf⟩ := m1.1.form
      obtain ⟨un, hun⟩ : ∃ un, un = P.kl.length := ⟨_, rfl⟩
      rw [← hun] at huf
      subst huf
      clear hun
      have cC : Chg (fun _ => False) (W.drew.alloc (.cells towZ.toArray 69)) wC := Chg.of_below m1.2.1 _
      have OC : Hid _ := m1.1
      have NC : Hid (∀ q, (Value.slice ua un uc).ownBlock = some q → (W.drew.alloc (.cells towZ.toArray 69)).heap.size ≤ q) := m1.2.2
      refine hKK.out _ _ (hH.keep cC (fun e => e)) (fun hH => ?_)
      clear hKK KK m1
      have BZ : Blk wC W.heap.size towZ 69 := (Blk.made W.drew towZ 69).keep cC (fun e => e)
      refine wpAnyH_take (i := 7) (v := .agg (towC P.hd (.slice ua un uc) P.vl (.slice none 0 0)).toArray) rfl (by kernel_rfl) (by kernel_rfl) (by kernel_rfl) (fun _ _ _ h => h) (yieldsIf_build69 (by rfl) (.tmp 7) (.tmp 10) (.tmp 12) rfl (by kernel_rfl) (by kernel_rfl) (by kernel_rfl) HV) hH ?_
      refine wpAnyH_ready (rs := [9]) (by kernel_rfl) (by simp) ?_
      refine AllReadyH.cons rfl (fun KK hKK => ?_) AllReadyH.nil
      refine step_storeF rfl 69 (.tmp 3) (.tmp 13) rfl W.heap.size (towC P.hd (.slice ua un uc) P.vl (.slice none 0 0)) (by kernel_rfl) (by kernel_rfl) BZ (by rw [towC_len, HV]; rfl) (Try.towSz' _ _ _ _ HV) (towC_one _ rfl _ rfl) ?_
      intro wS bS cS
      have FIN : Hid (KT w P W.heap.size (.slice ua un uc) wS 0 (.slice none 0 0) P.ks) := by
        have ct : Chg (fun _ => False) W wS := (cA.trans cC (fun _ e => e.elim)).trans cS (fun k e => .inr (by omega))
        refine ⟨B0.out.keep ct (fun e => e), B1.out.keep ct (fun e => e), bS, (by have h7 := SWH.out; omega), HI.out.kept ct (fun _ _ e => e), ⟨World.ownsRow_nil _ 0 112 68, (fun c hc => by cases hc)⟩, fun i hi => absurd hi (Nat.not_lt_zero _), ⟨Own.kept OC.out cS (fun k hk => Blk.no5C BZ (by decide) OC.out hk), rfl⟩, fun g hg => by simp [Value.ownBlock] at hg, HBW.out.trans (ct.below HBW.out.size (fun _ e => e.elim)), Nat.le_trans (Nat.le_of_eq SWH.out.symm) ct.size⟩
      refine hKK.out _ _ (FIN.out.b0) (fun _ => ?_)
      clear hKK KK bS cS
      refine wpAnyH_done (by kernel_rfl) ?_ _
      go_wp2_with fail
      go_meet
      case rel => exact ⟨_, _, _, _, rfl, FIN.out⟩
  case rest =>
    obtain ⟨g3, ua, un, uc, rfl, K0⟩ := hcut
    clear B0 B1 HI HBW
    have k1 : wc.cell? ⟨w.heap.size, 35, none⟩ = some (.slice P.sa P.sn P.sc) := by rw [K0.out.b0.cell]; exact P.ks_at HV
    go_wp2_with fail
    clear k1
    go_loopw [17] (fun i wr => ∃ (j : Nat) (v : Value) (os' : Nat → Kd), j ≤ P.sn ∧ i = .int .i64 j ∧ Hid (KT w P g3 (.slice ua un uc) wr j v os')) (fun i _ => P.sn - (intOf i).toNat)
    case atStart => exact ⟨0, _, _, Nat.zero_le _, rfl, K0.out⟩
    case round =>
      obtain ⟨j, v, os', hj, rfl, XJ⟩ := hrel
      by_cases hlt : j < P.sn
      · obtain ⟨k, hk⟩ : ∃ k, k = P.ks j := ⟨_, rfl⟩
        obtain ⟨g, o, hsa, hav, hrg⟩ := XJ.out.inn.row j hlt
        have kin := XJ.out.inn.kid j hlt
        have kll := HL.out j hlt
        have hix := ix_at Try.underlying67 Try.elem67 Try.so112 (c := P.sc) hsa hlt
        have RG : Hid (wr.rangeAt g (o + j * 68) k.cells) := by rw [hk]; exact hrg
        rw [← hk] at kin kll
        have A4 := kin.ad
        have A5 := kin.lb
        have KIN : Hid _ := kin
        have HKK : Hid _ := hk
        have hv0 : ∀ q, v.ownBlock = some q → q < wr.heap.size := fun q hq => by obtain ⟨_, e⟩ := XJ.out.gl.blk hq; exact (Array.getElem?_eq_some_iff.1 e).1
        have HV0 : Hid _ := hv0
        obtain ⟨va, vc, hvf⟩ := XJ.out.gl.form
        rw [List.length_map, List.length_range] at hvf
        subst hvf
        have SZJ : Hid (w.heap.size + 2 ≤ wr.heap.size) := XJ.out.sz
        clear hrg hk hsa hav kin hv0
        go_upto_region 5 with (first
          | refine wpList_load_mid rfl 112 (.tmp 19) rfl g (o + j * 68) rfl k.cells _ RG.out Try.underlying112 rfl (k.szF A4 A5) ?_
          | (refine wpList_store_part rfl 112 (.tmp 5) (.tmp 20) rfl wr.heap.size 0 k.cells rfl rfl (t := 112) ⟨heap_alloc_new _ _⟩ (by simp [Kd.cells, bs, A4, A5]) (k.szF A4 A5) k.one ?_; intro wC hw8 hc8; rw [splice_all _ _ (by simp [Kd.cells, bs, A4, A5])] at hw8; have c8 : Chg (fun _ => False) wr wC := ((Chg.refl (fun _ => False) wr).alloc _).trans hc8 (fun i e => .inr (by omega)); have BK : Hid _ := hw8; have CB : Hid _ := c8; clear hw8 hc8 c8))
        have X1 : Hid _ := XJ.out.fresh CB.out
        have K1 : Hid _ := KIN.out.kept CB.out (fun _ _ e => e)
        clear CB RG hix
        have kx2 : wC.cell? ⟨wr.heap.size, 1, none⟩ = some (.slice k.ka k.kn k.kc) := BK.out.cell 1
        have HC : Hid _ := copy_any K1.out.src (by omega)
        go_wp2_with fail
        refine Calls.mono HC.out ?_
        rintro e wD ⟨u1, rfl, m1⟩
        have c1 : Chg (fun _ => False) wC wD := Chg.of_below m1.2.1 _
        have X2 : Hid _ := X1.out.fresh c1
        have B2 : Hid _ := BK.out.keep c1 (fun e => e)
        have K2 : Hid _ := K1.out.kept c1 (fun _ _ e => e)
        have O1 : Hid _ := m1.1
        have NW : Hid (wr.heap.size < wC.heap.size) := BK.out.lt
        have N1 : Hid (∀ q, u1.ownBlock = some q → wC.heap.size ≤ q) := m1.2.2
        obtain ⟨qa, qc, huf⟩ := m1.1.form
        obtain ⟨qn, hun⟩ : ∃ un, un = k.kl.length := ⟨_, rfl⟩
        rw [← hun] at huf
        subst huf
        clear m1 c1 X1 K1 BK HC kx2 hun
        have hc2 : wD.cell? ⟨wr.heap.size, 1, none⟩ = some (.slice k.ka k.kn k.kc) := B2.out.cell 1
        have hf2 : wD.frozen? ⟨wr.heap.size, 1, none⟩ = false := B2.out.fr 1
        go_upto_region 6 with fail
        obtain ⟨wG, hwE⟩ : ∃ wE, wE = wD.setCell ⟨wr.heap.size, 1, none⟩ (.slice qa qn qc) := ⟨_, rfl⟩
        have cE : Chg (fun q => q = wr.heap.size) wD wG := by rw [hwE]; exact (Chg.refl (fun q => q = wr.heap.size) wD).setCell (p := ⟨wr.heap.size, 1, none⟩) (.inl rfl) _
        obtain ⟨y, hy⟩ : ∃ y : Kd, y = { k with ka := qa, kn := qn, kc := qc } := ⟨_, rfl⟩
        have B5 : Hid (Blk wG wr.heap.size y.cells 112) := by rw [hwE, hy, ← Kd.put1]; exact B2.out.set 1 (.slice qa qn qc)
        have X5 : Hid _ := X2.out.recd B2.out SZJ.out (fun e => by have := HV0.out _ e; omega) cE
        have KY : KK wG (P.ks j) y := by
          rw [← HKK.out, hy]
          exact ⟨⟨rfl, rfl, rfl, rfl, rfl⟩, Own.kept O1.out cE (fun q hq e => by have := N1.out q hq; have := NW.out; omega)⟩
        have A6 : y.ad.length = 33 := by rw [hy]; exact A4
        have A7 : y.lb.length = 32 := by rw [hy]; exact A5
        rw [← hwE]
        clear hwE cE X2 B2 K2 O1 hc2 hf2 hy
        obtain ⟨v', w1, hr, row1, kp⟩ := X5.out.add KY A6 A7 (by omega)
        obtain ⟨ya, yc, hyf⟩ := kp.gl.form
        rw [List.length_map, List.length_range] at hyf
        subst hyf
        have HR : Hid _ := hr
        have KPN : Hid _ := kp
        have kr : wG.cell? ⟨g3, 35, none⟩ = some (.slice va j vc) := by rw [X5.out.row.cell]; exact towC_at _ _ _ _ HV
        have ks : w1.cell? ⟨g3, 35, none⟩ = some (.slice va j vc) := by rw [row1.cell]; exact towC_at _ _ _ _ HV
        have kf : w1.frozen? ⟨g3, 35, none⟩ = false := row1.fr 35
        clear hr row1 kp KY X5
        go_upto_region 7 with (first
          | refine wpList_load_part rfl 112 (.tmp 5) rfl wr.heap.size 0 y.cells rfl B5.out (by simp) Try.underlying112 rfl (y.szF A6 A7) ?_
          | refine wpList_buildG (sl := 67) Try.underlying67 info155 (by decide) (by decide) rfl (.tmp 27) rfl (C := y.cells) rfl (y.lenF A6 A7) ?_
          | refine wpList_appG (sl := 67) rfl (.tmp 26) (.tmp 28) rfl (v := .slice va j vc) (u := .slice (some ⟨wG.heap.size, 0, none⟩) 1 1) (v' := .slice ya (j + 1) yc) (w' := w1) rfl rfl HR.out ?_)
        obtain ⟨w2, hw2⟩ : ∃ w2, w2 = w1.setCell ⟨g3, 35, none⟩ (.slice ya (j + 1) yc) := ⟨_, rfl⟩
        rw [← hw2] at KPN ⊢
        clear hw2 kr ks kf HR
        go_wp2_with fail
        go_roundw
        case rel => exact ⟨j + 1, _, _, by omega, by go_num, KPN.out⟩
        case measure => simp [intOf]; omega
      · have hjn : j = P.sn := by omega
        subst hjn
        obtain ⟨A, c, ev, ra⟩ := GL.rowsK XJ.out.gl XJ.out.nb
        subst ev
        obtain ⟨C, hC⟩ : ∃ C, C = towC P.hd (.slice ua un uc) P.vl (.slice A P.sn c) := ⟨_, rfl⟩
        have LC : C.length = towZ.length := by rw [hC, towC_len, HV]; rfl
        have OC : Hid (∀ u ∈ C, u.oneCell' = true) := by rw [hC]; exact towC_one _ rfl _ rfl
        have RB : Hid (Blk wr g3 C 69) := by rw [hC]; exact XJ.out.row
        have HCC : Hid _ := hC
        have RAA : Hid _ := ra
        have SMO : Hid (∀ i, i < P.sn → SmK (P.ks i) (os' i)) := fun i hi => (XJ.out.ko i hi).sm
        clear hC ra
        go_wp2_with (first
          | (refine wpList_load_part rfl 69 (.tmp 3) rfl g3 0 C rfl RB.out (by simp) Try.underlying69 rfl (Try.towZsz C LC) ?_)
          | (refine wpList_store_part rfl 69 (.tmp 2) (.tmp 32) rfl (w.heap.size + 1) 0 C rfl rfl XJ.out.res (by rw [LC, Nat.zero_add]; exact Nat.le_refl _) (Try.towZsz C LC) OC.out ?_; intro w7 b7 c7; rw [splice_all _ _ LC] at b7; have B7 : Hid _ := b7; have C7 : Hid _ := c7; clear b7 c7))
        have F7 : Hid (Below w.heap.size w w7) := XJ.out.be.trans (C7.out.below (Nat.le_trans (by omega) XJ.out.sz) (fun k e => by omega))
        have F8 : Hid (TwIn w7 (fun g => g < w7.heap.size) ⟨P.hd, ua, un, uc, P.kl, P.vl, A, P.sn, c, os'⟩) := KT.twIn XJ.out HP.out RAA.out C7.out
        exact bodyPost_ret (results_row1 rfl _ _ (w.heap.size + 1) 69 C _ _ rfl B7.out.eq Try.underlying69 rfl (Try.towZsz C LC)) rfl ⟨⟨ua, un, uc, A, c, os', by rw [HCC.out], F7.out, F8.out, SMO.out⟩⟩
end Go.Proofs.Ytkchmoapcmageaa
