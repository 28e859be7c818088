/-
  A proof is copied, its texts too.
-/
import Derived.Test.YtlmdljghhpkbiaaPrG
namespace Go.Proofs.Ytlmdljghhpkbiaa
open Go.RowKit

theorem Oc.put2 (o : Oc) (a : Option Addr) (n c : Nat) : o.cells.set 2 (.slice a n c) = ({ o with ka := a, kn := n, kc := c } : Oc).cells := rfl
theorem Oc.put36 (o : Oc) (h : o.sm.length = 32) (a : Option Addr) (n c : Nat) : o.cells.set 36 (.slice a n c) = ({ o with va := a, vn := n, vc := c } : Oc).cells := by
  unfold Oc.cells
  rw [List.set_cons_succ, List.set_cons_succ, List.set_cons_succ, List.set_cons_succ, List.set_append_right _ _ (by rw [bs_len]; omega), bs_len, h]
  rfl
/-- What an op of a copy is. -/
structure KO (w : World) (x y : Oc) : Prop where
  sm : SmO x y
  k : Own w (.slice y.ka y.kn y.kc) y.kl
  v : Own w (.slice y.va y.vn y.vc) y.vl
/-- A proof under way of being copied. -/
structure KP (w : World) (P : Prf) (wr : World) (j : Nat) (v : Value) (os' : Nat → Oc) : Prop where
  b0 : Blk wr w.heap.size P.cells 98
  res : Blk wr (w.heap.size + 1) prZ 98
  row : Blk wr (w.heap.size + 2) (prC P.ct v) 98
  inn : PrIn wr (fun g => g < w.heap.size) P
  gl : GL wr v 111 37 ((List.range j).map (fun i => (os' i).cells))
  ko : ∀ i, i < j → KO wr (P.os i) (os' i)
  nb : ∀ g, v.ownBlock = some g → w.heap.size + 3 ≤ g
  be : Below w.heap.size w wr
  sz : w.heap.size + 3 ≤ wr.heap.size
section
variable {w wr w' : World} {P : Prf} {j : Nat} {v : Value} {os' : Nat → Oc}
theorem KP.fresh (h : KP w P wr j v os') (c : Chg (fun _ => False) wr w') : KP w P w' j v os' :=
  ⟨h.b0.keep c (fun e => e), h.res.keep c (fun e => e), h.row.keep c (fun e => e), h.inn.kept c (fun _ _ e => e), h.gl.fresh c, fun i hi => ⟨(h.ko i hi).sm, (h.ko i hi).k.kept c (fun _ _ e => e), (h.ko i hi).v.kept c (fun _ _ e => e)⟩, h.nb, h.be.trans (c.below (Nat.le_trans (by omega) h.sz) (fun _ e => e.elim)), Nat.le_trans h.sz c.size⟩
/-- A record beside it, at g. -/
theorem KP.recd (h : KP w P wr j v os') {g : Nat} {cs : List Value} (hb : Blk wr g cs 111) (hg : w.heap.size + 3 ≤ g) (hv : ¬ v.ownBlock = some g) (c : Chg (fun k => k = g) wr w') : KP w P w' j v os' :=
  have no5 : ∀ {u : Value} {l : List Int}, Own wr u l → ∀ k, u.ownBlock = some k → ¬ k = g := fun ho k hk e => by
    obtain ⟨_, e1⟩ := own_block5 ho hk
    rw [e, hb.eq] at e1
    injection e1 with e1
    injection e1 with _ e1
    exact absurd e1 (by decide)
  ⟨h.b0.keep c (by omega), h.res.keep c (by omega), h.row.keep c (by omega), h.inn.kept c (fun k hk e => by omega), h.gl.kept c (fun k _ hk _ e => hv (by rw [← e]; exact hk)), fun i hi => ⟨(h.ko i hi).sm, (h.ko i hi).k.kept c (no5 (h.ko i hi).k), (h.ko i hi).v.kept c (no5 (h.ko i hi).v)⟩, h.nb, h.be.trans (c.below (Nat.le_trans (by omega) h.sz) (fun k e => by omega)), Nat.le_trans h.sz c.size⟩
set_option maxRecDepth 4000 in
/-- One op more. -/
theorem KP.add (h : KP w P wr j v os') {y : Oc} (hy : KO wr (P.os j) y) (hs : y.sm.length = 32) (hb : j + 1 ≤ 5000000) :
    ∃ v' w1, (Builtin.append_ #[96, 96] 96 #[v, .slice (some ⟨wr.heap.size, 0, none⟩) 1 1]).run Try.prog (wr.alloc (.cells y.cells.toArray 111)) = .ok v' w1 ∧ Blk w1 (w.heap.size + 2) (prC P.ct v) 98 ∧ KP w P (w1.setCell ⟨w.heap.size + 2, 1, none⟩ v') (j + 1) v' (fun i => if i = j then y else os' i) := by
  have hl : ((List.range j).map (fun i => (os' i).cells)).length = j := by simp
  obtain ⟨v', w1, r, gl, c, bb⟩ := h.gl.add (sl := 96) (C := y.cells) Try.underlying96 info219 (by kernel_rfl) (by decide) (y.lenF hs) y.one (by rw [hl]; omega) (by rw [hl]; omega) 96
  have hS : ∀ g, some g = v.ownBlock → w.heap.size + 3 ≤ g := fun g e => h.nb g e.symm
  have no5 : ∀ {u : Value} {l : List Int}, Own wr u l → ∀ g, u.ownBlock = some g → ¬ some g = v.ownBlock := fun ho g hg e => by
    obtain ⟨_, e1⟩ := own_block5 ho hg
    obtain ⟨_, e2⟩ := h.gl.blk e.symm
    rw [e1] at e2
    injection e2 with e2
    injection e2 with _ e2
    exact absurd e2 (by decide)
  have row1 : Blk w1 (w.heap.size + 2) (prC P.ct v) 98 := h.row.keep c (fun e => by have := hS _ e; omega)
  have c2 : Chg (fun k => k = w.heap.size + 2) w1 (w1.setCell ⟨w.heap.size + 2, 1, none⟩ v') := (Chg.refl (fun k => k = w.heap.size + 2) w1).setCell (p := ⟨w.heap.size + 2, 1, none⟩) (.inl rfl) _
  have no98 : ∀ {u : Value} {l : List Int}, Own w1 u l → ∀ g, u.ownBlock = some g → ¬ g = w.heap.size + 2 := fun ho g hg e => by
    obtain ⟨_, e1⟩ := own_block5 ho hg
    rw [e, row1.eq] at e1
    injection e1 with e1
    injection e1 with _ e1
    exact absurd e1 (by decide)
  have new : ∀ g, v'.ownBlock = some g → w.heap.size + 3 ≤ g := fun g hg => by
    rcases bb with q | ⟨k, q1, q2⟩
    · exact h.nb g (by rw [← q]; exact hg)
    · rw [hg] at q1
      injection q1 with q1
      have := h.sz
      omega
  have gl2 : GL w1 v' 111 37 ((List.range (j + 1)).map (fun i => ((fun i => if i = j then y else os' i) i).cells)) := by
    have e : (List.range (j + 1)).map (fun i => ((fun i => if i = j then y else os' i) i).cells) = (List.range j).map (fun i => (os' i).cells) ++ [y.cells] := by
      rw [List.range_succ, List.map_append]
      congr 1
      · exact List.map_congr_left (fun i hi => by have q : i < j := (by simpa using hi); simp only; rw [if_neg (by omega)])
      · simp
    rw [e]
    exact gl
  have key : ∀ x z, KO wr x z → KO (w1.setCell ⟨w.heap.size + 2, 1, none⟩ v') x z := fun x z hk => by
    have k1 := hk.k.kept c (no5 hk.k)
    have v1 := hk.v.kept c (no5 hk.v)
    exact ⟨hk.sm, k1.kept c2 (no98 k1), v1.kept c2 (no98 v1)⟩
  refine ⟨v', w1, r, row1, ⟨(h.b0.keep c (fun e => by have := hS _ e; omega)).keep c2 (by omega), (h.res.keep c (fun e => by have := hS _ e; omega)).keep c2 (by omega), row1.set 1 v', (h.inn.kept c (fun k hk e => by have := hS _ e; omega)).kept c2 (fun k hk e => by omega), gl2.kept c2 (fun k _ hk _ e => by have := new k hk; omega), fun i hi => ?_, new, (h.be.trans (c.below (Nat.le_trans (by omega) h.sz) (fun k e => by have := hS k e; omega))).trans (c2.below (Nat.le_trans (Nat.le_trans (by omega) h.sz) c.size) (fun k e => by omega)), Nat.le_trans h.sz (Nat.le_trans c.size c2.size)⟩⟩
  by_cases q : i = j
  · subst q
    simp only [if_pos]
    exact key _ _ hy
  · simp only [if_neg q]
    exact key _ _ (h.ko i (by omega))
end
theorem KP.prIn {w wr w7 : World} {P : Prf} {Av : Nat → Prop} {A : Option Addr} {c : Nat} {os' : Nat → Oc} (h : KP w P wr P.on (.slice A P.on c) os') (hP : PrIn w Av P) (ra : RowsIn wr (fun g => w.heap.size + 3 ≤ g ∧ g < wr.heap.size) A P.on 37 (fun i => (os' i).cells)) (c7 : Chg (fun k => k = w.heap.size + 1) wr w7) : PrIn w7 (fun g => g < w7.heap.size) ⟨P.ct, A, P.on, c, os'⟩ := by
  refine ⟨hP.ct, hP.on, (ra.kept c7 (fun g hg e => by omega)).mono (fun g hg => Nat.lt_of_lt_of_le hg.2 c7.size), fun i hi => ?_⟩
  have ko := h.ko i hi
  have o := hP.op i hi
  have sm := ko.sm
  have no : ∀ {u : Value} {l : List Int}, Own wr u l → ∀ k, u.ownBlock = some k → ¬ k = w.heap.size + 1 := fun ho k hk e => by
    obtain ⟨_, e1⟩ := own_block5 ho hk
    rw [e, h.res.eq] at e1
    injection e1 with e1
    injection e1 with _ e1
    exact absurd e1 (by decide)
  have k1 := ko.k.kept c7 (no ko.k)
  have v1 := ko.v.kept c7 (no ko.v)
  exact ⟨k1.src, fun g hg => .inl (k1.lt hg), v1.src, fun g hg => .inl (v1.lt hg), by rw [← sm.ki]; exact o.ki, by rw [← sm.lv]; exact o.lv, by rw [← sm.ct]; exact o.ct, by rw [← sm.sm]; exact o.sm, by rw [← sm.kl]; exact o.kl, by rw [← sm.vl]; exact o.vl⟩
/-- What CopyProof answers. -/
structure CpQ (w w' : World) (P : Prf) (e : Ending) : Prop where
  ex : ∃ A c os', e = .returned (.agg (prC P.ct (.slice A P.on c)).toArray) ∧ Below w.heap.size w w' ∧ PrIn w' (fun g => g < w'.heap.size) ⟨P.ct, A, P.on, c, os'⟩ ∧ ∀ i, i < P.on → SmO (P.os i) (os' i)

set_option maxRecDepth 100000 in
set_option maxHeartbeats 8000000 in
theorem copyProof_any {w : World} {P : Prf} (hP : PrIn w (fun g => g < w.heap.size) P) (hn : P.on ≤ 1048576) (hl : ∀ i, i < P.on → (P.os i).kl.length ≤ 4194304 ∧ (P.os i).vl.length ≤ 4194304) :
    Calls Try.prog 39 #[.agg P.cells.toArray] w fun e w' => CpQ w w' P e := by
  obtain ⟨W, hW⟩ : ∃ W, W = (w.alloc (.cells P.cells.toArray 98)).alloc (.cells prZ.toArray 98) := ⟨_, rfl⟩
  have cW : Chg (fun _ => False) w W := by rw [hW]; exact ((Chg.refl _ _).alloc _).alloc _
  have bW : Below w.heap.size w W := cW.below (Nat.le_refl _) (fun _ e => e.elim)
  have B0 : Hid (Blk W w.heap.size P.cells 98) := by rw [hW]; exact (Blk.made w _ 98).alloc _
  have B1 : Hid (Blk W (w.heap.size + 1) prZ 98) := by
    rw [hW]
    have := Blk.made (w.alloc (.cells P.cells.toArray 98)) prZ 98
    rwa [World.size_alloc] at this
  have SW : W.heap.size = w.heap.size + 2 := by rw [hW]; simp
  have HI : Hid (PrIn W (fun g => g < w.heap.size) P) := hP.kept cW (fun _ _ e => e)
  have HBW : Hid _ := bW
  have HL : Hid _ := hl
  have HP : Hid _ := hP
  clear hP hl cW bW
  have k0 : W.cell? ⟨w.heap.size, 0, none⟩ = some (.int .u64 P.ct) := B0.out.cell 0
  go_enter Try.func39, Try.ntmps39
  go_upto_region 1 with fail
  have hW2 : W = (w.alloc (.cells P.cells.toArray 98)).alloc (.cells #[.int .u64 0, .slice none 0 0] 98) := hW
  rw [← hW2]
  clear hW hW2
  go_upto_region 2 with (refine wpList_store_part rfl 98 (.tmp 3) (.tmp 8) rfl (w.heap.size + 2) 0 (prC P.ct (.slice none 0 0)) rfl rfl (t := 98) (cs := prZ) ⟨by rw [← SW]; exact heap_alloc_new _ _⟩ (by simp [prZ, prC]) (Try.prSz _ _) (prC_one _ rfl) ?_; intro wB hw8 hc8; rw [splice_all _ _ (by simp [prZ, prC])] at hw8; have c8 : Chg (fun _ => False) W wB := ((Chg.refl (fun _ => False) W).alloc _).trans hc8 (fun i e => .inr (by omega)); have z8 : w.heap.size + 3 ≤ wB.heap.size := hw8.lt; have K0 : Hid (KP w P wB 0 (.slice none 0 0) P.os) := ⟨B0.out.keep c8 (fun e => e), B1.out.keep c8 (fun e => e), hw8, HI.out.kept c8 (fun _ _ e => e), ⟨World.ownsRow_nil _ 0 111 37, fun c hc => (by cases hc)⟩, fun i hi => absurd hi (Nat.not_lt_zero _), fun g hg => by simp [Value.ownBlock] at hg, HBW.out.trans (c8.below HBW.out.size (fun _ e => e.elim)), z8⟩; clear hw8 hc8 c8 z8)
  clear B0 B1 HI HBW k0
  have k1 : wB.cell? ⟨w.heap.size, 1, none⟩ = some (.slice P.oa P.on P.oc) := K0.out.b0.cell 1
  go_wp2_with fail
  clear k1
  go_loopw [12] (fun i wr => ∃ (j : Nat) (v : Value) (os' : Nat → Oc), j ≤ P.on ∧ i = .int .i64 j ∧ Hid (KP w P wr j v os')) (fun i _ => P.on - (intOf i).toNat)
  case atStart => exact ⟨0, _, _, Nat.zero_le _, rfl, K0.out⟩
  case round =>
    obtain ⟨j, v, os', hj, rfl, XJ⟩ := hrel
    by_cases hlt : j < P.on
    · obtain ⟨k, hk⟩ : ∃ k, k = P.os j := ⟨_, rfl⟩
      obtain ⟨g, o, hsa, hav, hrg⟩ := XJ.out.inn.row j hlt
      have kin := XJ.out.inn.op j hlt
      have kll := HL.out j hlt
      have hix := ix_at Try.underlying96 Try.elem96 Try.so219 (c := P.oc) hsa hlt
      have RG : Hid (wr.rangeAt g (o + j * 37) k.cells) := by rw [hk]; exact hrg
      rw [← hk] at kin kll
      have A4 := kin.sm
      have KIN : Hid _ := kin
      have HKK : Hid _ := hk
      have hv0 : ∀ q, v.ownBlock = some q → q < wr.heap.size := fun q hq => by obtain ⟨_, e⟩ := XJ.out.gl.blk hq; exact (Array.getElem?_eq_some_iff.1 e).1
      have HV0 : Hid _ := hv0
      obtain ⟨va, vc, hvf⟩ := XJ.out.gl.form
      rw [List.length_map, List.length_range] at hvf
      subst hvf
      have SZJ : Hid (w.heap.size + 3 ≤ wr.heap.size) := XJ.out.sz
      clear hrg hk hsa hav kin hv0
      go_upto_region 5 with (first
        | refine wpList_load_mid rfl 111 (.tmp 14) rfl g (o + j * 37) rfl k.cells _ RG.out Try.underlying111 rfl (Try.opSz k A4) ?_
        | (refine wpList_store_part rfl 111 (.tmp 5) (.tmp 15) rfl wr.heap.size 0 k.cells rfl rfl (t := 111) ⟨heap_alloc_new _ _⟩ (by simp [Oc.cells, bs, A4]) (Try.opSz k A4) k.one ?_; intro wC hw8 hc8; rw [splice_all _ _ (by simp [Oc.cells, bs, A4])] at hw8; have c8 : Chg (fun _ => False) wr wC := ((Chg.refl (fun _ => False) wr).alloc _).trans hc8 (fun i e => .inr (by omega)); have BK : Hid _ := hw8; have CB : Hid _ := c8; clear hw8 hc8 c8))
      have X1 : Hid _ := XJ.out.fresh CB.out
      have K1 : Hid _ := KIN.out.kept CB.out (fun _ _ e => e)
      clear CB RG hix
      have kx2 : wC.cell? ⟨wr.heap.size, 2, none⟩ = some (.slice k.ka k.kn k.kc) := BK.out.cell 2
      have HC : Hid _ := copy_any K1.out.ks (by omega)
      go_wp2_with fail
      refine Calls.mono HC.out ?_
      rintro e wD ⟨u1, rfl, m1⟩
      have c1 : Chg (fun _ => False) wC wD := Chg.of_below m1.2.1 _
      have X2 : Hid _ := X1.out.fresh c1
      have B2 : Hid _ := BK.out.keep c1 (fun e => e)
      have K2 : Hid _ := K1.out.kept c1 (fun _ _ e => e)
      have O1 : Hid _ := m1.1
      have NW : Hid (wr.heap.size < wC.heap.size) := BK.out.lt
      have N1 : Hid (∀ q, u1.ownBlock = some q → wC.heap.size ≤ q) := m1.2.2
      obtain ⟨ua, uc, huf⟩ := m1.1.form
      obtain ⟨un, hun⟩ : ∃ un, un = k.kl.length := ⟨_, rfl⟩
      rw [← hun] at huf
      subst huf
      clear m1 c1 X1 K1 BK HC kx2 hun
      have hc2 : wD.cell? ⟨wr.heap.size, 2, none⟩ = some (.slice k.ka k.kn k.kc) := B2.out.cell 2
      have hf2 : wD.frozen? ⟨wr.heap.size, 2, none⟩ = false := B2.out.fr 2
      go_upto_region 6 with fail
      obtain ⟨wE, hwE⟩ : ∃ wE, wE = wD.setCell ⟨wr.heap.size, 2, none⟩ (.slice ua un uc) := ⟨_, rfl⟩
      have cE : Chg (fun q => q = wr.heap.size) wD wE := by rw [hwE]; exact (Chg.refl (fun q => q = wr.heap.size) wD).setCell (p := ⟨wr.heap.size, 2, none⟩) (.inl rfl) _
      have B3 : Hid (Blk wE wr.heap.size ({ k with ka := ua, kn := un, kc := uc } : Oc).cells 111) := by rw [hwE, ← Oc.put2]; exact B2.out.set 2 (.slice ua un uc)
      have X3 : Hid _ := X2.out.recd B2.out SZJ.out (fun e => by have := HV0.out _ e; omega) cE
      have O2 : Hid _ := Own.kept O1.out cE (fun q hq e => by have := N1.out q hq; have := NW.out; omega)
      have K3 : Hid _ := K2.out.kept cE (fun q hq e => by have := SZJ.out; omega)
      rw [← hwE]
      have NE : Hid (wr.heap.size < wE.heap.size) := B3.out.lt
      clear hwE cE X2 B2 K2 O1 hc2 hf2
      have kx3 : wE.cell? ⟨wr.heap.size, 36, none⟩ = some (.slice k.va k.vn k.vc) := by rw [B3.out.cell]; exact Oc.vl_at _ A4
      have HC : Hid _ := copy_any K3.out.vs (by omega)
      go_wp2_with fail
      refine Calls.mono HC.out ?_
      rintro e wF ⟨u2, rfl, m1⟩
      have c1 : Chg (fun _ => False) wE wF := Chg.of_below m1.2.1 _
      have X4 : Hid _ := X3.out.fresh c1
      have B4 : Hid _ := B3.out.keep c1 (fun e => e)
      have O3 : Hid _ := Own.kept O2.out c1 (fun _ _ e => e)
      have P1 : Hid _ := m1.1
      have N2 : Hid (∀ q, u2.ownBlock = some q → wE.heap.size ≤ q) := m1.2.2
      obtain ⟨ta, tc, htf⟩ := m1.1.form
      obtain ⟨tn, htn⟩ : ∃ tn, tn = k.vl.length := ⟨_, rfl⟩
      rw [← htn] at htf
      subst htf
      clear m1 c1 X3 K3 B3 O2 HC kx3 htn
      have hc2 : wF.cell? ⟨wr.heap.size, 36, none⟩ = some (.slice k.va k.vn k.vc) := by rw [B4.out.cell]; exact Oc.vl_at _ A4
      have hf2 : wF.frozen? ⟨wr.heap.size, 36, none⟩ = false := B4.out.fr 36
      go_upto_region 7 with fail
      obtain ⟨wG, hwG⟩ : ∃ wG, wG = wF.setCell ⟨wr.heap.size, 36, none⟩ (.slice ta tn tc) := ⟨_, rfl⟩
      have cG : Chg (fun q => q = wr.heap.size) wF wG := by rw [hwG]; exact (Chg.refl (fun q => q = wr.heap.size) wF).setCell (p := ⟨wr.heap.size, 36, none⟩) (.inl rfl) _
      obtain ⟨y, hy⟩ : ∃ y : Oc, y = { k with ka := ua, kn := un, kc := uc, va := ta, vn := tn, vc := tc } := ⟨_, rfl⟩
      have B5 : Hid (Blk wG wr.heap.size y.cells 111) := by
        rw [hwG]
        have h9 := B4.out.set 36 (.slice ta tn tc)
        rw [Oc.put36 { k with ka := ua, kn := un, kc := uc } A4] at h9
        rw [hy]
        exact h9
      have X5 : Hid _ := X4.out.recd B4.out SZJ.out (fun e => by have := HV0.out _ e; omega) cG
      have KY : KO wG (P.os j) y := by
        rw [← HKK.out, hy]
        exact ⟨⟨rfl, rfl, rfl, rfl, rfl, rfl⟩, Own.kept O3.out cG (fun q hq e => by have := N1.out q hq; have := NW.out; omega), Own.kept P1.out cG (fun q hq e => by have := N2.out q hq; have := NE.out; omega)⟩
      have A5 : y.sm.length = 32 := by rw [hy]; exact A4
      rw [← hwG]
      clear hwG cG X4 B4 O3 P1 hc2 hf2 hy
      obtain ⟨v', w1, hr, row1, kp⟩ := X5.out.add KY A5 (by omega)
      obtain ⟨ya, yc, hyf⟩ := kp.gl.form
      rw [List.length_map, List.length_range] at hyf
      subst hyf
      have HR : Hid _ := hr
      have KPN : Hid _ := kp
      have kr : wG.cell? ⟨w.heap.size + 2, 1, none⟩ = some (.slice va j vc) := X5.out.row.cell 1
      have ks : w1.cell? ⟨w.heap.size + 2, 1, none⟩ = some (.slice va j vc) := row1.cell 1
      have kf : w1.frozen? ⟨w.heap.size + 2, 1, none⟩ = false := row1.fr 1
      clear hr row1 kp KY X5
      go_upto_region 8 with (first
        | refine wpList_load_part rfl 111 (.tmp 5) rfl wr.heap.size 0 y.cells rfl B5.out (by simp) Try.underlying111 rfl (Try.opSz y A5) ?_
        | refine wpList_buildG (sl := 96) Try.underlying96 info219 (by decide) (by decide) rfl (.tmp 26) rfl (C := y.cells) rfl (y.lenF A5) ?_
        | refine wpList_appG (sl := 96) rfl (.tmp 25) (.tmp 27) rfl (v := .slice va j vc) (u := .slice (some ⟨wG.heap.size, 0, none⟩) 1 1) (v' := .slice ya (j + 1) yc) (w' := w1) rfl rfl HR.out ?_)
      obtain ⟨w2, hw2⟩ : ∃ w2, w2 = w1.setCell ⟨w.heap.size + 2, 1, none⟩ (.slice ya (j + 1) yc) := ⟨_, rfl⟩
      rw [← hw2] at KPN ⊢
      clear hw2 kr ks kf HR
      go_wp2_with fail
      go_roundw
      case rel => exact ⟨j + 1, _, _, by omega, by go_num, KPN.out⟩
      case measure => simp [intOf]; omega
    · have hjn : j = P.on := by omega
      subst hjn
      obtain ⟨A, c, ev, ra⟩ := GL.rowsK XJ.out.gl XJ.out.nb
      subst ev
      obtain ⟨C, hC⟩ : ∃ C, C = prC P.ct (.slice A P.on c) := ⟨_, rfl⟩
      have LC : C.length = prZ.length := by rw [hC]; rfl
      have OC : Hid (∀ u ∈ C, u.oneCell' = true) := by rw [hC]; exact prC_one _ rfl
      have RB : Hid (Blk wr (w.heap.size + 2) C 98) := by rw [hC]; exact XJ.out.row
      have HCC : Hid _ := hC
      have RAA : Hid _ := ra
      have SMO : Hid (∀ i, i < P.on → SmO (P.os i) (os' i)) := fun i hi => (XJ.out.ko i hi).sm
      clear hC ra
      go_wp2_with (first
        | (refine wpList_load_part rfl 98 (.tmp 3) rfl (w.heap.size + 2) 0 C rfl RB.out (by simp) Try.underlying98 rfl (Try.prZsz C LC) ?_)
        | (refine wpList_store_part rfl 98 (.tmp 2) (.tmp 31) rfl (w.heap.size + 1) 0 C rfl rfl XJ.out.res (by rw [LC, Nat.zero_add]; exact Nat.le_refl _) (Try.prZsz C LC) OC.out ?_; intro w7 b7 c7; rw [splice_all _ _ LC] at b7; have B7 : Hid _ := b7; have C7 : Hid _ := c7; clear b7 c7))
      have F7 : Hid (Below w.heap.size w w7) := XJ.out.be.trans (C7.out.below (Nat.le_trans (by omega) XJ.out.sz) (fun k e => by omega))
      have F8 : Hid (PrIn w7 (fun g => g < w7.heap.size) ⟨P.ct, A, P.on, c, os'⟩) := KP.prIn XJ.out HP.out RAA.out C7.out
      exact bodyPost_ret (results_row1 rfl _ _ (w.heap.size + 1) 98 C _ _ rfl B7.out.eq Try.underlying98 rfl (Try.prZsz C LC)) rfl ⟨⟨A, c, os', by rw [HCC.out], F7.out, F8.out, SMO.out⟩⟩
end Go.Proofs.Ytlmdljghhpkbiaa
