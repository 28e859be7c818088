/-
  Copy: a disk that is as this one.
-/
import Derived.Test.YtddnecfnjnipjaaCopyA
import Derived.BigRegion
namespace Go.Proofs.Ytddnecfnjnipjaa
open Go.RowKit Go.RwLone

/-- The numbers of a disk that was just made. -/
def x0n : Nums := ⟨0, -1, false, 0, 0, 0, 0⟩

/-- While Copy ranges over the durable map. -/
structure CL1 (w1 wr : World) (I J m q m' c' S z km b : Nat) (E : DataW Unit) (F : Nat → Option (List Int)) (left : Lit → Bool) (cnt : Nat) : Prop where
  rg : wr.ranges Try.prog 3 (blkElem z) m J km E left cnt
  bl : Below I w1 wr
  jr : J < wr.heap.size
  ac : ∃ km', AC wr I J q m' c' S z 0 km' b x0n (fun _ => []) (fun t => if left (kI t) then none else F t) ∧ km' + cnt ≤ km
  sub : ∀ kl, left kl = true → Maps.has E kl = true

/-- While Copy ranges over the cache. -/
structure CL2 (w1 wr : World) (I J c q m' c' S z kc km' b : Nat) (D : DataW Unit) (A : Nat → List (Nat × List Int)) (F : Nat → Option (List Int)) (A' : Nat → List (Nat × List Int)) (left : Lit → Bool) (cnt : Nat) : Prop where
  rg : wr.ranges Try.prog 3 anyElem c J kc D left cnt
  bl : Below I w1 wr
  jr : J < wr.heap.size
  ac : AC wr I J q m' c' S z (tot A' S) km' b x0n A' F
  sub : ∀ kl, left kl = true → Maps.has D kl = true

theorem CL2.more {w1 wr wn : World} {I J c q m' c' S z kc km' b : Nat} {D : DataW Unit} {A : Nat → List (Nat × List Int)} {F : Nat → Option (List Int)} {A' : Nat → List (Nat × List Int)} {left : Lit → Bool} {cnt : Nat} (h : CL2 w1 wr I J c q m' c' S z kc km' b D A F A' left cnt) (k : Chg (fun _ => False) wr wn) (hI : I ≤ wr.heap.size) : CL2 w1 wn I J c q m' c' S z kc km' b D A F A' left cnt :=
  ⟨h.rg.kept (row := none) ⟨k.os, k.tape, k.output, k.size, fun i hi _ => k.block i hi (fun h => h)⟩ (by simp) (by simp), h.bl.trans (k.below hI (fun _ h => h.elim)), Nat.lt_of_lt_of_le h.jr k.size, h.ac.frame k (fun _ _ _ h => h), h.sub⟩

set_option maxRecDepth 100000 in
set_option maxHeartbeats 8000000 in
theorem copy_any {w : World} {p m c S z kc km b : Nat} {x : Nums} {L : Nat → List (Nat × Nat)} {V : Nat → Value} {D : DataW Unit} {K : Nat → Option Nat} {E : DataW Unit} {C : Nat → List Int} (h : DC w p m c S z kc km b x L V D K E C) (hK : ∀ t g, K t = some g → t < S) (hS : S ≤ 65536) (hz0 : 0 < z) (hz : z ≤ 4096) (hb : b ≤ 4398046511104) {pn : Nat} (hpn : x.pend = pn) (htot : tot L S = pn) (hnm : ∀ t y, y ∈ L t → y.1 < pn) :
    Calls Try.prog 11 #[.pointer (some ⟨p, 0, none⟩)] w fun e w' => ∃ q, e = .returned (.pointer (some ⟨q, 0, none⟩)) ∧ Chg (fun i => i = p) w w' ∧ Rw w' p (dkG S z m c x) 86 ∧ ∃ m' c' kc' km', AC w' w.heap.size w'.heap.size q m' c' S z kc' km' (b) x (fun t => (L t).map (fun y => (y.1, C y.2))) (fun t => (K t).map C) := by
  have r0 := h.dd.row
  have c2 : w.cell? ⟨p, 2, none⟩ = some (.int .i32 0) := r0.cell 2
  have c5 : w.cell? ⟨p, 5, none⟩ = some (.int .u32 0) := r0.cell 5
  have c6 : w.cell? ⟨p, 6, none⟩ = some (.int .i32 0) := r0.cell 6
  have f6 := r0.fr 6
  have HD : Hid _ := h
  have HK : Hid _ := hK
  have HN : Hid _ := hnm
  obtain ⟨A, hA⟩ : ∃ A, A = fun t => (L t).map (fun y => (y.1, C y.2)) := ⟨_, rfl⟩
  obtain ⟨F, hF⟩ : ∃ F, F = fun t => (K t).map C := ⟨_, rfl⟩
  rw [← hA, ← hF]
  have HA : Hid _ := hA
  have HF : Hid _ := hF
  have HT : Hid (tot A S = pn) := by
    have h1 := tot_le (A := A) (B := L) (fun t => by rw [hA]; simp) S
    have h2 := tot_le (A := L) (B := A) (fun t => by rw [hA]; simp) S
    show tot A S = pn
    omega
  have hpk : pn ≤ kc := by
    have := h.pk
    rw [hpn] at this
    omega
  have hpb : pn ≤ b := by
    obtain ⟨n, h1, h2⟩ := h.dd.pn
    rw [hpn] at h1
    omega
  have hkk := h.dd.kk
  have HPN : Hid _ := hpn
  clear h r0 hK hnm hA hF htot hpn
  go_enter_defers Try.func11, Try.ntmps11
  go_wp2_with fail
  refine (rlock_open Try.rwRLib p 2 0 _ _ _ c2 c5 c6 f6 (by rw [wr1]; decide)).mono ?_
  rintro e w' ⟨rfl, rfl⟩
  rw [wr1]
  have R1 := Rw.set HD.out.dd.row 6 (.int .i32 1)
  obtain ⟨w1, hw1⟩ : ∃ w1, w1 = w.setCell ⟨p, 6, none⟩ (.int .i32 1) := ⟨_, rfl⟩
  rw [← hw1] at R1
  have e1 : w.setCell ⟨p, 2 + 4, none⟩ (.int .i32 1) = w1 := hw1.symm
  rw [e1]
  have hc1 : Chg (fun k => k = p) w w1 := by rw [hw1]; exact (Chg.refl (fun k => k = p) w).setCell (.inl rfl) _
  have CA1 : Hid (Ca w1 c kc z L V D) := HD.out.dd.ca.kept (grown_of hc1) (fun e => HD.out.dd.cp (by injection e)) (fun t g hg e => HD.out.dd.vp t (by rw [hg, e]))
  have DU1 : Hid (Du w1 m km z K E) := HD.out.dd.du.kept (grown_of hc1) (fun e => HD.out.dd.mp (by injection e))
  have KR1 : Hid (∀ t g, K t = some g → Rw w1 g (bs (C g)).toArray 5 ∧ (C g).length = z) := fun t g hg => ⟨Rw.chg1 (HD.out.kr t g hg).1 hc1 (Rw.ne (HD.out.kr t g hg).1 HD.out.dd.row (by decide)), (HD.out.kr t g hg).2⟩
  have LR1 : Hid (∀ t y, y ∈ L t → Rw w1 y.2 (bs (C y.2)).toArray 5 ∧ (C y.2).length = z) := fun t y hy => ⟨Rw.chg1 (HD.out.lr t y hy).1 hc1 (Rw.ne (HD.out.lr t y hy).1 HD.out.dd.row (by decide)), (HD.out.lr t y hy).2⟩
  have K1 : Hid _ := R1
  have C1 : Hid _ := hc1
  have BL : Hid _ := blank_any (w := w1.drew) (S : Int) (z : Int)
  clear c2 c5 c6 f6 R1 hw1 e1 hc1
  go_upto_region 3 with fail
  refine wp_region_noPanic ?_
  refine wp_region_held_drew (S := fun w' => w'.cell? ⟨p, 0, none⟩ = some (.int .i64 S) ∧ w'.cell? ⟨p, 1, none⟩ = some (.int .i64 z)) (by kernel_rfl) ⟨Rw.cell K1.out 0, Rw.cell K1.out 1⟩ (fun hH => ?_)
  refine wpAnyH_take (i := 0) (v := .pointer (some ⟨p, 0, none⟩)) rfl (by kernel_rfl) (by kernel_rfl) (by kernel_rfl) (fun _ _ _ h => h) (Or.inl ⟨by rfl, fun w' _ => by go_simp⟩) hH ?_
  refine wpAnyH_take (i := 1) (v := .pointer (some ⟨p, 0, none⟩)) rfl (by kernel_rfl) (by kernel_rfl) (by kernel_rfl) (fun _ _ _ h => h) (Or.inl ⟨by rfl, fun w' _ => by go_simp⟩) hH ?_
  refine wpAnyH_take (i := 2) (v := .pointer (some ⟨p, 0, none⟩)) rfl (by kernel_rfl) (by kernel_rfl) (by kernel_rfl) (fun _ _ _ h => h) (Or.inl ⟨by rfl, fun w' _ => by go_simp⟩) hH ?_
  refine wpAnyH_take (i := 3) (v := .int .i64 S) rfl (by kernel_rfl) (by kernel_rfl) (by kernel_rfl) (fun _ _ _ h => h) (Or.inl ⟨by rfl, fun w' hw' => by have h2 := hw'.1; go_simp⟩) hH ?_
  refine wpAnyH_take (i := 4) (v := .pointer (some ⟨p, 0, none⟩)) rfl (by kernel_rfl) (by kernel_rfl) (by kernel_rfl) (fun _ _ _ h => h) (Or.inl ⟨by rfl, fun w' _ => by go_simp⟩) hH ?_
  refine wpAnyH_take (i := 5) (v := .pointer (some ⟨p, 0, none⟩)) rfl (by kernel_rfl) (by kernel_rfl) (by kernel_rfl) (fun _ _ _ h => h) (Or.inl ⟨by rfl, fun w' _ => by go_simp⟩) hH ?_
  refine wpAnyH_take (i := 6) (v := .pointer (some ⟨p, 1, none⟩)) rfl (by kernel_rfl) (by kernel_rfl) (by kernel_rfl) (fun _ _ _ h => h) (Or.inl ⟨by rfl, fun w' _ => by go_simp⟩) hH ?_
  refine wpAnyH_take (i := 7) (v := .int .i64 z) rfl (by kernel_rfl) (by kernel_rfl) (by kernel_rfl) (fun _ _ _ h => h) (Or.inl ⟨by rfl, fun w' hw' => by have h2 := hw'.2; go_simp⟩) hH ?_
  refine wpAnyH_ready (rs := [8]) (by kernel_rfl) (by simp) ?_
  refine AllReadyH.cons rfl (fun KK hKK => ?_) AllReadyH.nil
  go_simp
  refine Calls.mono BL.out ?_
  rintro e w2 ⟨rfl, dk2, bl2⟩
  have hb2 : Below w1.heap.size w1 w2 := ⟨bl2.os, bl2.tape, bl2.output, bl2.size, bl2.block⟩
  have R2 : Hid _ := Rw.keep K1.out hb2
  refine hKK.out _ _ ⟨Rw.cell R2.out 0, Rw.cell R2.out 1⟩ (fun hS2 => ?_)
  clear hKK KK
  refine wpAnyH_ready (rs := [9]) (by kernel_rfl) (by simp) ?_
  refine AllReadyH.cons rfl (fun KK hKK => ?_) AllReadyH.nil
  go_simp
  refine hKK.out _ _ hS2 (fun _ => ?_)
  clear hKK KK
  refine wpAnyH_done (by kernel_rfl) (NoPanic.normal ?_) _
  obtain ⟨I, hI⟩ : ∃ I, I = w1.heap.size := ⟨_, rfl⟩
  have hID : w1.drew.heap.size = I := hI.symm
  rw [hID] at dk2
  rw [← hI] at hb2 ⊢
  have hdk2 : DC w2 (I + 2) I (I + 1) S z 0 0 (b) x0n (fun _ => []) (fun _ => .slice none 0 0) (.map []) (fun _ => none) (.map []) (fun _ => []) := by
    have hd0 := DD.made dk2 (by omega)
    exact ⟨hd0.turn (Chg.refl _ _) hd0.row rfl (Nat.zero_le _), fun t y hy => (by cases hy), fun t g hg => (by cases hg), fun t t' g hg => (by cases hg), fun t t' g y hg => (by cases hg), fun t t' y y' hy => (by cases hy), fun _ => List.nodup_nil, Int.le_refl _⟩
  have AX2 : Hid (AX w2 I w2.heap.size (I + 2) I (I + 1) S z 0 0 (b) x0n (fun _ => []) (fun _ => none) (fun _ => []) (fun _ => .slice none 0 0) (.map []) (fun _ => none) (.map []) (fun _ => [])) := by
    have h1 := hdk2.dd.row.lt
    exact ⟨hdk2, fun t g hg => by simp [Value.ownBlock] at hg, fun t g hg => (by cases hg), fun t y hy => (by cases hy), fun t => rfl, fun t => rfl, ⟨by omega, by omega⟩, ⟨by omega, by omega⟩, ⟨by omega, by omega⟩⟩
  obtain ⟨q, hq⟩ : ∃ q, q = I + 2 := ⟨_, rfl⟩
  obtain ⟨m', hm'⟩ : ∃ m', m' = I := ⟨_, rfl⟩
  obtain ⟨c', hc'⟩ : ∃ c', c' = I + 1 := ⟨_, rfl⟩
  have AC2 : Hid (AC w2 I w2.heap.size q m' c' S z 0 0 (b) x0n (fun _ => []) (fun _ => none)) := by
    rw [hq, hm', hc']
    exact ⟨_, _, _, _, _, _, AX2.out⟩
  have BL2 : Hid (Below I w1 w2) := hb2
  rw [← hq]
  have hplt : p < I := by rw [hI]; exact K1.out.lt
  have hmlt : m < I := by rw [hI]; exact DU1.out.own.lt
  have hclt : c < I := by rw [hI]; exact CA1.out.own.lt
  have hVlt : Hid (∀ s g, (V s).ownBlock = some g → g < I) := fun s g hg => by rw [hI]; exact CA1.out.blt s g hg
  have hKlt : Hid (∀ t g, K t = some g → g < I) := fun t g hg => by rw [hI]; exact (KR1.out t g hg).1.lt
  have hLlt : Hid (∀ t y, y ∈ L t → y.2 < I) := fun t y hy => by rw [hI]; exact (LR1.out t y hy).1.lt
  have hIw : w.heap.size ≤ I := by rw [hI]; exact C1.out.size
  have HI1 : Hid (I = w1.heap.size) := hI
  have d8 : w2.cell? ⟨p, 8, none⟩ = some (.map (some m)) := Rw.cell R2.out 8
  have DU2 : Hid (Du w2 m km z K E) := DU1.out.kept (row := none) ⟨hb2.os, hb2.tape, hb2.output, hb2.size, fun k hk _ => hb2.block k (by omega)⟩ (by simp)
  have hI2 : I ≤ w2.heap.size := by rw [hI]; exact BL2.out.size
  clear hb2 hS2 hH BL bl2 dk2 hdk2 AX2 hq hm' hc' hID R2 hI
  go_wp2_with (first | (at_range; refine wpList_range_own _ rfl (.tmp 29) 80 rfl 3 48 keyed3 Try.underlying80 (blkElem z) m km E rfl DU2.out.own ?_; intro w0 hrg0 hg0 hs0; have RG0 : Hid _ := hrg0; have HG0 : Hid _ := hg0; have HS0 : Hid _ := hs0; clear hrg0 hg0 hs0) | go_in)
  try go_frame
  have hb0 : Below w2.heap.size w2 w0 := ⟨HG0.out.os, HG0.out.tape, HG0.out.output, HG0.out.size, fun k hk => HG0.out.block k hk (by simp)⟩
  obtain ⟨J, hJ⟩ : ∃ J, J = w2.heap.size := ⟨_, rfl⟩
  have K0 : Hid (CL1 w1 w0 I J m q m' c' S z km (b) E F (Maps.has E) (Maps.size E)) := by
    rw [hJ]
    refine ⟨RG0.out, BL2.out.trans (hb0.mono hI2), by have := HS0.out; omega, ⟨0, ?_, by have := DU2.out.own.size_le; omega⟩, fun _ h => h⟩
    have e : (fun t => if Maps.has E (kI t) then none else F t) = fun _ => none := by
      funext t
      split
      · rfl
      · rename_i hh
        rw [HF.out]
        show (K t).map C = none
        cases hKt : K t with
        | none => rfl
        | some g => exact absurd ((DU2.out.has _).2 ⟨t, rfl, by rw [hKt]; simp⟩) hh
    rw [e]
    exact AC2.out.frame (Chg.of_below hb0 (fun _ => False)) (fun _ _ _ h => h)
  rw [← hJ]
  have hIJ : I ≤ J := by omega
  clear hb0 RG0 HG0 HS0 d8 hJ DU2 BL2 AC2 hI2
  go_loopw [4] (fun _ wr => ∃ left cnt, Hid (CL1 w1 wr I J m q m' c' S z km (b) E F left cnt)) (fun _ wr => wr.rangeLeft m J)
  case atStart => exact ⟨_, _, K0.out⟩
  case round =>
    obtain ⟨left, cnt, hfi⟩ := hrel
    have HI : Hid _ := hfi.out
    clear hfi K0
    go_wp2_with (first | (at_next; refine wpList_next_ranges _ rfl (.tmp 30) rfl 3 keyed3 (blkElem z) (Value.int .i64) (mkE z) (fun key kl hkey => by obtain ⟨x9, rfl, _⟩ := Maps.keyOf_int_inv Try.underlying3 hkey; exact ⟨x9, rfl⟩) (mkE_inv z) m J km E left cnt rfl HI.out.rg ?_ ?_) | go_in)
    · intro _ hl0
      obtain ⟨km', ac, hkm⟩ := HI.out.ac
      have eF : (fun t => if left (kI t) then none else F t) = F := by funext t; rw [hl0]; rfl
      rw [eF] at ac
      have hkm' : km' ≤ km := by omega
      have d9 : wr.cell? ⟨p, 9, none⟩ = some (.map (some c)) := Rw.cell (cs := (dkG S z m c x).setIfInBounds 6 (.int .i32 1)) ⟨(HI.out.bl.block p hplt).trans K1.out.eq⟩ 9
      have CAr : Hid (Ca wr c kc z L V D) := CA1.out.kept (row := none) ⟨HI.out.bl.os, HI.out.bl.tape, HI.out.bl.output, HI.out.bl.size, fun k hk _ => HI.out.bl.block k (by rw [HI1.out]; exact hk)⟩ (by simp) (by simp)
      obtain ⟨J2, hJ2⟩ : ∃ J2, J2 = wr.heap.size := ⟨_, rfl⟩
      have hIJ2 : I ≤ J2 := by have := HI.out.jr; omega
      have AC3 : Hid (AC wr I J2 q m' c' S z 0 km' (b) x0n (fun _ => []) F) := ac.other (by omega)
      have BL3 : Hid (Below I w1 wr) := HI.out.bl
      clear hl0 ac eF hkm HI
      go_wp2_with (first | (at_range; refine wpList_range_own _ rfl (.tmp 46) 81 rfl 3 88 keyed3 Try.underlying81 anyElem c kc D rfl CAr.out.own ?_; intro w0 hrg0 hg0 hs0; have RG0 : Hid _ := hrg0; have HG0 : Hid _ := hg0; have HS0 : Hid _ := hs0; clear hrg0 hg0 hs0) | go_in)
      try go_frame
      have hb0 : Below wr.heap.size wr w0 := ⟨HG0.out.os, HG0.out.tape, HG0.out.output, HG0.out.size, fun k hk => HG0.out.block k hk (by simp)⟩
      have K0 : Hid (CL2 w1 w0 I J2 c q m' c' S z kc km' (b) D A F (fun _ => []) (Maps.has D) (Maps.size D)) := by
        refine ⟨by have := RG0.out; rw [← hJ2] at this; exact this, BL3.out.trans (hb0.mono (by omega)), by have := HS0.out; omega, ?_, fun _ h => h⟩
        rw [tot_nil]
        exact AC3.out.frame (Chg.of_below hb0 (fun _ => False)) (fun _ _ _ h => h)
      have HA0 : Hid (∀ t, (fun _ => []) t = if Maps.has D (kI t) then [] else A t) := fun t => by
        show [] = _
        split
        · rfl
        · rename_i hh
          have : L t = [] := Classical.byContradiction fun e => hh ((CA1.out.has _).2 ⟨t, rfl, e⟩)
          rw [HA.out]
          show [] = (L t).map _
          rw [this]
          rfl
      rw [← hJ2]
      clear hb0 RG0 HG0 HS0 d9 hJ2 AC3 BL3 CAr
      go_loopw [6] (fun _ wr => ∃ left cnt A', Hid (CL2 w1 wr I J2 c q m' c' S z kc km' (b) D A F A' left cnt) ∧ Hid (∀ t, A' t = if left (kI t) then [] else A t)) (fun _ wr => wr.rangeLeft c J2)
      case atStart => exact ⟨_, _, _, K0.out, HA0.out⟩
      case round =>
        obtain ⟨left, cnt, A', hfi, hA'⟩ := hrel
        have HI : Hid _ := hfi.out
        clear hfi K0 HA0
        go_wp2_with (first | (at_next; refine wpList_next_ranges _ rfl (.tmp 47) rfl 3 keyed3 anyElem (Value.int .i64) mkA (fun key kl hkey => by obtain ⟨x9, rfl, _⟩ := Maps.keyOf_int_inv Try.underlying3 hkey; exact ⟨x9, rfl⟩) mkA_inv c J2 kc D left cnt rfl HI.out.rg ?_ ?_) | go_in)
        · intro _ hl0
          have eA : A' = A := by funext t; rw [hA'.out t, hl0]; rfl
          have acf := HI.out.ac
          rw [eA] at acf
          have ACF : Hid (AC wr I J2 q m' c' S z (tot A S) km' (b) x0n A F) := acf
          have BLF : Hid _ := HI.out.bl
          clear hl0 eA acf HI hA'
          have RP : Hid (Rw wr p ((dkG S z m c x).setIfInBounds 6 (.int .i32 1)) 86) := ⟨(BLF.out.block p hplt).trans K1.out.eq⟩
          have RQ : Hid (Rw wr q (dkG S z m' c' x0n) 86) := ACF.out.row
          have hpq : p ≠ q := by have := ACF.out.bms; omega
          have p10 : wr.cell? ⟨p, 10, none⟩ = some (.int .i64 x.pend) := Rw.cell RP.out 10
          have p11 : wr.cell? ⟨p, 11, none⟩ = some (.int .i64 x.fuse) := Rw.cell RP.out 11
          have p12 : wr.cell? ⟨p, 12, none⟩ = some (.bool x.off) := Rw.cell RP.out 12
          have p13 : wr.cell? ⟨p, 13, none⟩ = some (.int .i64 x.era) := Rw.cell RP.out 13
          have RQ0 : Rw wr q (dkG S z m' c' x0n) 86 := RQ.out
          have q10 : wr.cell? ⟨q, 10, none⟩ = some (.int .i64 0) := Rw.cell RQ0 10
          have g10 := Rw.fr RQ0 10
          have rA := Rw.set RQ0 10 (.int .i64 x.pend)
          obtain ⟨wA, eA⟩ : ∃ wA, wr.setCell ⟨q, 10, none⟩ (.int .i64 x.pend) = wA := ⟨_, rfl⟩
          have cA : Chg (fun i => i = q) wr wA := by rw [← eA]; exact (Chg.refl (fun i => i = q) _).setCell (.inl rfl) _
          rw [eA] at rA
          have q11 : wA.cell? ⟨q, 11, none⟩ = some (.int .i64 (-1)) := Rw.cell rA 11
          have g11 := Rw.fr rA 11
          have rB := Rw.set rA 11 (.int .i64 x.fuse)
          obtain ⟨wB, eB⟩ : ∃ wB, wA.setCell ⟨q, 11, none⟩ (.int .i64 x.fuse) = wB := ⟨_, rfl⟩
          have cB : Chg (fun i => i = q) wA wB := by rw [← eB]; exact (Chg.refl (fun i => i = q) _).setCell (.inl rfl) _
          rw [eB] at rB
          have q12 : wB.cell? ⟨q, 12, none⟩ = some (.bool false) := Rw.cell rB 12
          have g12 := Rw.fr rB 12
          have rC := Rw.set rB 12 (.bool x.off)
          obtain ⟨wC, eC⟩ : ∃ wC, wB.setCell ⟨q, 12, none⟩ (.bool x.off) = wC := ⟨_, rfl⟩
          have cC : Chg (fun i => i = q) wB wC := by rw [← eC]; exact (Chg.refl (fun i => i = q) _).setCell (.inl rfl) _
          rw [eC] at rC
          have q13 : wC.cell? ⟨q, 13, none⟩ = some (.int .i64 0) := Rw.cell rC 13
          have g13 := Rw.fr rC 13
          have rD := Rw.set rC 13 (.int .i64 x.era)
          obtain ⟨wD, eD⟩ : ∃ wD, wC.setCell ⟨q, 13, none⟩ (.int .i64 x.era) = wD := ⟨_, rfl⟩
          have cD : Chg (fun i => i = q) wC wD := by rw [← eD]; exact (Chg.refl (fun i => i = q) _).setCell (.inl rfl) _
          rw [eD] at rD
          have S0 : Rw wr p ((dkG S z m c x).setIfInBounds 6 (.int .i32 1)) 86 := RP.out
          have SA := Rw.chg1 S0 cA hpq
          have SB := Rw.chg1 SA cB hpq
          have SC := Rw.chg1 SB cC hpq
          have SD := Rw.chg1 SC cD hpq
          obtain ⟨wY, hY⟩ : ∃ wY, wD.drew = wY := ⟨_, rfl⟩
          have RD : Hid (Rw wY q (dkG S z m' c' ⟨x.pend, x.fuse, x.off, x.era, 0, 0, 0⟩) 86) := by rw [← hY]; exact ⟨rD.eq⟩
          have SD0 : Hid (Rw wY p ((dkG S z m c x).setIfInBounds 6 (.int .i32 1)) 86) := by rw [← hY]; exact ⟨SD.eq⟩
          have CD : Hid (Chg (fun i => i = q) wr wY) := by rw [← hY]; exact (((cA.trans cB (fun _ e => .inl e)).trans cC (fun _ e => .inl e)).trans cD (fun _ e => .inl e)).drew
          have TA : wA.drew.cell? ⟨p, 10, none⟩ = some (.int .i64 x.pend) ∧ wA.drew.cell? ⟨p, 11, none⟩ = some (.int .i64 x.fuse) ∧ wA.drew.cell? ⟨p, 12, none⟩ = some (.bool x.off) ∧ wA.drew.cell? ⟨p, 13, none⟩ = some (.int .i64 x.era) := ⟨Rw.cell SA 10, Rw.cell SA 11, Rw.cell SA 12, Rw.cell SA 13⟩
          have TB : wB.drew.cell? ⟨p, 10, none⟩ = some (.int .i64 x.pend) ∧ wB.drew.cell? ⟨p, 11, none⟩ = some (.int .i64 x.fuse) ∧ wB.drew.cell? ⟨p, 12, none⟩ = some (.bool x.off) ∧ wB.drew.cell? ⟨p, 13, none⟩ = some (.int .i64 x.era) := ⟨Rw.cell SB 10, Rw.cell SB 11, Rw.cell SB 12, Rw.cell SB 13⟩
          have TC : wC.drew.cell? ⟨p, 10, none⟩ = some (.int .i64 x.pend) ∧ wC.drew.cell? ⟨p, 11, none⟩ = some (.int .i64 x.fuse) ∧ wC.drew.cell? ⟨p, 12, none⟩ = some (.bool x.off) ∧ wC.drew.cell? ⟨p, 13, none⟩ = some (.int .i64 x.era) := ⟨Rw.cell SC 10, Rw.cell SC 11, Rw.cell SC 12, Rw.cell SC 13⟩
          have TD : wD.drew.cell? ⟨p, 10, none⟩ = some (.int .i64 x.pend) ∧ wD.drew.cell? ⟨p, 11, none⟩ = some (.int .i64 x.fuse) ∧ wD.drew.cell? ⟨p, 12, none⟩ = some (.bool x.off) ∧ wD.drew.cell? ⟨p, 13, none⟩ = some (.int .i64 x.era) := ⟨Rw.cell SD 10, Rw.cell SD 11, Rw.cell SD 12, Rw.cell SD 13⟩
          clear rA rB rC rD S0 SA SB SC SD cA cB cC cD RQ0
          go_upto_region 16 with fail
          refine wp_region_noPanic ?_
          refine wp_region_held_drew (S := fun w' => w'.cell? ⟨p, 10, none⟩ = some (.int .i64 x.pend) ∧ w'.cell? ⟨p, 11, none⟩ = some (.int .i64 x.fuse) ∧ w'.cell? ⟨p, 12, none⟩ = some (.bool x.off) ∧ w'.cell? ⟨p, 13, none⟩ = some (.int .i64 x.era)) (by kernel_rfl) ⟨p10, p11, p12, p13⟩ (fun hH => ?_)
          refine wpAnyH_take (i := 0) (v := .pointer (some ⟨q, 0, none⟩)) rfl (by kernel_rfl) (by kernel_rfl) (by kernel_rfl) (fun _ _ _ h => h) (Or.inl ⟨by rfl, fun w' hw' => by go_simp⟩) hH ?_
          refine wpAnyH_take (i := 1) (v := .pointer (some ⟨q, 0, none⟩)) rfl (by kernel_rfl) (by kernel_rfl) (by kernel_rfl) (fun _ _ _ h => h) (Or.inl ⟨by rfl, fun w' hw' => by go_simp⟩) hH ?_
          refine wpAnyH_take (i := 2) (v := .pointer (some ⟨q, 0, none⟩)) rfl (by kernel_rfl) (by kernel_rfl) (by kernel_rfl) (fun _ _ _ h => h) (Or.inl ⟨by rfl, fun w' hw' => by go_simp⟩) hH ?_
          refine wpAnyH_take (i := 3) (v := .pointer (some ⟨q, 0, none⟩)) rfl (by kernel_rfl) (by kernel_rfl) (by kernel_rfl) (fun _ _ _ h => h) (Or.inl ⟨by rfl, fun w' hw' => by go_simp⟩) hH ?_
          refine wpAnyH_take (i := 4) (v := .pointer (some ⟨p, 0, none⟩)) rfl (by kernel_rfl) (by kernel_rfl) (by kernel_rfl) (fun _ _ _ h => h) (Or.inl ⟨by rfl, fun w' hw' => by go_simp⟩) hH ?_
          refine wpAnyH_take (i := 5) (v := .pointer (some ⟨p, 0, none⟩)) rfl (by kernel_rfl) (by kernel_rfl) (by kernel_rfl) (fun _ _ _ h => h) (Or.inl ⟨by rfl, fun w' hw' => by go_simp⟩) hH ?_
          refine wpAnyH_take (i := 6) (v := .pointer (some ⟨p, 10, none⟩)) rfl (by kernel_rfl) (by kernel_rfl) (by kernel_rfl) (fun _ _ _ h => h) (Or.inl ⟨by rfl, fun w' hw' => by go_simp⟩) hH ?_
          refine wpAnyH_take (i := 7) (v := .int .i64 x.pend) rfl (by kernel_rfl) (by kernel_rfl) (by kernel_rfl) (fun _ _ _ h => h) (Or.inl ⟨by rfl, fun w' hw' => by have q1 := hw'.1; go_simp⟩) hH ?_
          refine wpAnyH_take (i := 8) (v := .pointer (some ⟨p, 0, none⟩)) rfl (by kernel_rfl) (by kernel_rfl) (by kernel_rfl) (fun _ _ _ h => h) (Or.inl ⟨by rfl, fun w' hw' => by go_simp⟩) hH ?_
          refine wpAnyH_take (i := 9) (v := .pointer (some ⟨p, 0, none⟩)) rfl (by kernel_rfl) (by kernel_rfl) (by kernel_rfl) (fun _ _ _ h => h) (Or.inl ⟨by rfl, fun w' hw' => by go_simp⟩) hH ?_
          refine wpAnyH_take (i := 10) (v := .pointer (some ⟨p, 11, none⟩)) rfl (by kernel_rfl) (by kernel_rfl) (by kernel_rfl) (fun _ _ _ h => h) (Or.inl ⟨by rfl, fun w' hw' => by go_simp⟩) hH ?_
          refine wpAnyH_take (i := 11) (v := .int .i64 x.fuse) rfl (by kernel_rfl) (by kernel_rfl) (by kernel_rfl) (fun _ _ _ h => h) (Or.inl ⟨by rfl, fun w' hw' => by have q1 := hw'.2.1; go_simp⟩) hH ?_
          refine wpAnyH_take (i := 12) (v := .pointer (some ⟨p, 0, none⟩)) rfl (by kernel_rfl) (by kernel_rfl) (by kernel_rfl) (fun _ _ _ h => h) (Or.inl ⟨by rfl, fun w' hw' => by go_simp⟩) hH ?_
          refine wpAnyH_take (i := 13) (v := .pointer (some ⟨p, 0, none⟩)) rfl (by kernel_rfl) (by kernel_rfl) (by kernel_rfl) (fun _ _ _ h => h) (Or.inl ⟨by rfl, fun w' hw' => by go_simp⟩) hH ?_
          refine wpAnyH_take (i := 14) (v := .pointer (some ⟨p, 12, none⟩)) rfl (by kernel_rfl) (by kernel_rfl) (by kernel_rfl) (fun _ _ _ h => h) (Or.inl ⟨by rfl, fun w' hw' => by go_simp⟩) hH ?_
          refine wpAnyH_take (i := 15) (v := .bool x.off) rfl (by kernel_rfl) (by kernel_rfl) (by kernel_rfl) (fun _ _ _ h => h) (Or.inl ⟨by rfl, fun w' hw' => by have q1 := hw'.2.2.1; go_simp⟩) hH ?_
          refine wpAnyH_take (i := 16) (v := .pointer (some ⟨p, 0, none⟩)) rfl (by kernel_rfl) (by kernel_rfl) (by kernel_rfl) (fun _ _ _ h => h) (Or.inl ⟨by rfl, fun w' hw' => by go_simp⟩) hH ?_
          refine wpAnyH_take (i := 17) (v := .pointer (some ⟨p, 0, none⟩)) rfl (by kernel_rfl) (by kernel_rfl) (by kernel_rfl) (fun _ _ _ h => h) (Or.inl ⟨by rfl, fun w' hw' => by go_simp⟩) hH ?_
          refine wpAnyH_take (i := 18) (v := .pointer (some ⟨p, 13, none⟩)) rfl (by kernel_rfl) (by kernel_rfl) (by kernel_rfl) (fun _ _ _ h => h) (Or.inl ⟨by rfl, fun w' hw' => by go_simp⟩) hH ?_
          refine wpAnyH_take (i := 19) (v := .int .i64 x.era) rfl (by kernel_rfl) (by kernel_rfl) (by kernel_rfl) (fun _ _ _ h => h) (Or.inl ⟨by rfl, fun w' hw' => by have q1 := hw'.2.2.2; go_simp⟩) hH ?_
          refine wpAnyH_take (i := 20) (v := .pointer (some ⟨q, 0, none⟩)) rfl (by kernel_rfl) (by kernel_rfl) (by kernel_rfl) (fun _ _ _ h => h) (Or.inl ⟨by rfl, fun w' hw' => by go_simp⟩) hH ?_
          refine wpAnyH_take (i := 21) (v := .pointer (some ⟨q, 10, none⟩)) rfl (by kernel_rfl) (by kernel_rfl) (by kernel_rfl) (fun _ _ _ h => h) (Or.inl ⟨by rfl, fun w' hw' => by go_simp⟩) hH ?_
          refine wpAnyH_ready (rs := [22]) (by kernel_rfl) (by simp) ?_
          refine AllReadyH.cons rfl (fun KK hKK => ?_) AllReadyH.nil
          go_simp
          refine hKK.out _ _ TA (fun h1 => ?_)
          clear hKK KK
          refine wpAnyH_take (i := 23) (v := .pointer (some ⟨q, 0, none⟩)) rfl (by kernel_rfl) (by kernel_rfl) (by kernel_rfl) (fun _ _ _ h => h) (Or.inl ⟨by rfl, fun w' hw' => by go_simp⟩) h1 ?_
          refine wpAnyH_take (i := 24) (v := .pointer (some ⟨q, 11, none⟩)) rfl (by kernel_rfl) (by kernel_rfl) (by kernel_rfl) (fun _ _ _ h => h) (Or.inl ⟨by rfl, fun w' hw' => by go_simp⟩) h1 ?_
          refine wpAnyH_ready (rs := [25]) (by kernel_rfl) (by simp) ?_
          refine AllReadyH.cons rfl (fun KK hKK => ?_) AllReadyH.nil
          go_simp
          refine hKK.out _ _ TB (fun h2 => ?_)
          clear hKK KK
          refine wpAnyH_take (i := 26) (v := .pointer (some ⟨q, 0, none⟩)) rfl (by kernel_rfl) (by kernel_rfl) (by kernel_rfl) (fun _ _ _ h => h) (Or.inl ⟨by rfl, fun w' hw' => by go_simp⟩) h2 ?_
          refine wpAnyH_take (i := 27) (v := .pointer (some ⟨q, 12, none⟩)) rfl (by kernel_rfl) (by kernel_rfl) (by kernel_rfl) (fun _ _ _ h => h) (Or.inl ⟨by rfl, fun w' hw' => by go_simp⟩) h2 ?_
          refine wpAnyH_ready (rs := [28]) (by kernel_rfl) (by simp) ?_
          refine AllReadyH.cons rfl (fun KK hKK => ?_) AllReadyH.nil
          go_simp
          refine hKK.out _ _ TC (fun h3 => ?_)
          clear hKK KK
          refine wpAnyH_take (i := 29) (v := .pointer (some ⟨q, 0, none⟩)) rfl (by kernel_rfl) (by kernel_rfl) (by kernel_rfl) (fun _ _ _ h => h) (Or.inl ⟨by rfl, fun w' hw' => by go_simp⟩) h3 ?_
          refine wpAnyH_take (i := 30) (v := .pointer (some ⟨q, 13, none⟩)) rfl (by kernel_rfl) (by kernel_rfl) (by kernel_rfl) (fun _ _ _ h => h) (Or.inl ⟨by rfl, fun w' hw' => by go_simp⟩) h3 ?_
          refine wpAnyH_ready (rs := [31]) (by kernel_rfl) (by simp) ?_
          refine AllReadyH.cons rfl (fun KK hKK => ?_) AllReadyH.nil
          go_simp
          rw [hY] at TD
          refine hKK.out _ _ TD (fun _ => ?_)
          clear hKK KK
          refine wpAnyH_done (by kernel_rfl) (NoPanic.normal ?_) _
          clear hY hH h1 h2 h3 p10 p11 p12 p13 q10 q11 q12 q13 g10 g11 g12 g13 eA eB eC eD TA TB TC TD RP RQ
          go_upto_region 17 with fail
          refine wp_region_noPanic ?_
          refine wp_region_held_drew (S := fun _ => True) (by kernel_rfl) trivial (fun hH => ?_)
          refine wpAnyH_take (i := 0) (v := .pointer (some ⟨q, 0, none⟩)) rfl (by kernel_rfl) (by kernel_rfl) (by kernel_rfl) (fun _ _ _ h => h) (Or.inl ⟨by rfl, fun w' hw' => by go_simp⟩) hH ?_
          refine wpAnyH_take (i := 1) (v := .pointer (some ⟨q, 0, none⟩)) rfl (by kernel_rfl) (by kernel_rfl) (by kernel_rfl) (fun _ _ _ h => h) (Or.inl ⟨by rfl, fun w' hw' => by go_simp⟩) hH ?_
          refine wpAnyH_take (i := 2) (v := .pointer (some ⟨q, 14, none⟩)) rfl (by kernel_rfl) (by kernel_rfl) (by kernel_rfl) (fun _ _ _ h => h) (Or.inl ⟨by rfl, fun w' hw' => by go_simp⟩) hH ?_
          refine wpAnyH_take (i := 3) (v := .pointer (some ⟨p, 0, none⟩)) rfl (by kernel_rfl) (by kernel_rfl) (by kernel_rfl) (fun _ _ _ h => h) (Or.inl ⟨by rfl, fun w' hw' => by go_simp⟩) hH ?_
          refine wpAnyH_take (i := 4) (v := .pointer (some ⟨p, 0, none⟩)) rfl (by kernel_rfl) (by kernel_rfl) (by kernel_rfl) (fun _ _ _ h => h) (Or.inl ⟨by rfl, fun w' hw' => by go_simp⟩) hH ?_
          refine wpAnyH_take (i := 5) (v := .pointer (some ⟨p, 14, none⟩)) rfl (by kernel_rfl) (by kernel_rfl) (by kernel_rfl) (fun _ _ _ h => h) (Or.inl ⟨by rfl, fun w' hw' => by go_simp⟩) hH ?_
          refine wpAnyH_ready (rs := [6]) (by kernel_rfl) (by simp) ?_
          refine AllReadyH.cons rfl (fun KK hKK => ?_) AllReadyH.nil
          go_simp
          refine Calls.mono (u64load_any ⟨p, 14, none⟩ x.rd wY.drew (Rw.cell SD0.out 14)) ?_
          rintro e w9 ⟨rfl, h9⟩
          subst h9
          refine hKK.out _ _ trivial (fun _ => ?_)
          clear hKK KK
          refine wpAnyH_ready (rs := [7]) (by kernel_rfl) (by simp) ?_
          refine AllReadyH.cons rfl (fun KK hKK => ?_) AllReadyH.nil
          go_simp
          refine Calls.mono (u64store_any ⟨q, 14, none⟩ 0 x.rd wY.drew (Rw.cell RD.out 14) (Rw.fr RD.out 14)) ?_
          rintro e wE ⟨rfl, h9⟩
          have c9 : Chg (fun i => i = q) wY wE := by rw [h9]; exact (Chg.refl (fun i => i = q) wY).drew.setCell (.inl rfl) _
          have RE : Hid (Rw wE q (dkG S z m' c' ⟨x.pend, x.fuse, x.off, x.era, x.rd, 0, 0⟩) 86) := by rw [h9]; exact Rw.set (w := wY.drew) ⟨RD.out.eq⟩ 14 (.int .u64 x.rd)
          have SE0 : Hid (Rw wE p ((dkG S z m c x).setIfInBounds 6 (.int .i32 1)) 86) := Rw.chg1 SD0.out c9 hpq
          have CE : Hid (Chg (fun i => i = q) wr wE) := CD.out.trans c9 (fun _ e => .inl e)
          clear h9 c9 RD SD0 CD
          refine hKK.out _ _ trivial (fun _ => ?_)
          clear hKK KK hH
          refine wpAnyH_done (by kernel_rfl) (NoPanic.normal ?_) _
          go_upto_region 18 with fail
          refine wp_region_noPanic ?_
          refine wp_region_held_drew (S := fun _ => True) (by kernel_rfl) trivial (fun hH => ?_)
          refine wpAnyH_take (i := 0) (v := .pointer (some ⟨q, 0, none⟩)) rfl (by kernel_rfl) (by kernel_rfl) (by kernel_rfl) (fun _ _ _ h => h) (Or.inl ⟨by rfl, fun w' hw' => by go_simp⟩) hH ?_
          refine wpAnyH_take (i := 1) (v := .pointer (some ⟨q, 0, none⟩)) rfl (by kernel_rfl) (by kernel_rfl) (by kernel_rfl) (fun _ _ _ h => h) (Or.inl ⟨by rfl, fun w' hw' => by go_simp⟩) hH ?_
          refine wpAnyH_take (i := 2) (v := .pointer (some ⟨q, 15, none⟩)) rfl (by kernel_rfl) (by kernel_rfl) (by kernel_rfl) (fun _ _ _ h => h) (Or.inl ⟨by rfl, fun w' hw' => by go_simp⟩) hH ?_
          refine wpAnyH_take (i := 3) (v := .pointer (some ⟨p, 0, none⟩)) rfl (by kernel_rfl) (by kernel_rfl) (by kernel_rfl) (fun _ _ _ h => h) (Or.inl ⟨by rfl, fun w' hw' => by go_simp⟩) hH ?_
          refine wpAnyH_take (i := 4) (v := .pointer (some ⟨p, 0, none⟩)) rfl (by kernel_rfl) (by kernel_rfl) (by kernel_rfl) (fun _ _ _ h => h) (Or.inl ⟨by rfl, fun w' hw' => by go_simp⟩) hH ?_
          refine wpAnyH_take (i := 5) (v := .pointer (some ⟨p, 15, none⟩)) rfl (by kernel_rfl) (by kernel_rfl) (by kernel_rfl) (fun _ _ _ h => h) (Or.inl ⟨by rfl, fun w' hw' => by go_simp⟩) hH ?_
          refine wpAnyH_ready (rs := [6]) (by kernel_rfl) (by simp) ?_
          refine AllReadyH.cons rfl (fun KK hKK => ?_) AllReadyH.nil
          go_simp
          refine Calls.mono (u64load_any ⟨p, 15, none⟩ x.wr wE.drew (Rw.cell SE0.out 15)) ?_
          rintro e w9 ⟨rfl, h9⟩
          subst h9
          refine hKK.out _ _ trivial (fun _ => ?_)
          clear hKK KK
          refine wpAnyH_ready (rs := [7]) (by kernel_rfl) (by simp) ?_
          refine AllReadyH.cons rfl (fun KK hKK => ?_) AllReadyH.nil
          go_simp
          refine Calls.mono (u64store_any ⟨q, 15, none⟩ 0 x.wr wE.drew (Rw.cell RE.out 15) (Rw.fr RE.out 15)) ?_
          rintro e wG ⟨rfl, h9⟩
          have c9 : Chg (fun i => i = q) wE wG := by rw [h9]; exact (Chg.refl (fun i => i = q) wE).drew.setCell (.inl rfl) _
          have RG : Hid (Rw wG q (dkG S z m' c' ⟨x.pend, x.fuse, x.off, x.era, x.rd, x.wr, 0⟩) 86) := by rw [h9]; exact Rw.set (w := wE.drew) ⟨RE.out.eq⟩ 15 (.int .u64 x.wr)
          have SG0 : Hid (Rw wG p ((dkG S z m c x).setIfInBounds 6 (.int .i32 1)) 86) := Rw.chg1 SE0.out c9 hpq
          have CG : Hid (Chg (fun i => i = q) wr wG) := CE.out.trans c9 (fun _ e => .inl e)
          clear h9 c9 RE SE0 CE
          refine hKK.out _ _ trivial (fun _ => ?_)
          clear hKK KK hH
          refine wpAnyH_done (by kernel_rfl) (NoPanic.normal ?_) _
          go_upto_region 19 with fail
          refine wp_region_noPanic ?_
          refine wp_region_held_drew (S := fun _ => True) (by kernel_rfl) trivial (fun hH => ?_)
          refine wpAnyH_take (i := 0) (v := .pointer (some ⟨q, 0, none⟩)) rfl (by kernel_rfl) (by kernel_rfl) (by kernel_rfl) (fun _ _ _ h => h) (Or.inl ⟨by rfl, fun w' hw' => by go_simp⟩) hH ?_
          refine wpAnyH_take (i := 1) (v := .pointer (some ⟨q, 0, none⟩)) rfl (by kernel_rfl) (by kernel_rfl) (by kernel_rfl) (fun _ _ _ h => h) (Or.inl ⟨by rfl, fun w' hw' => by go_simp⟩) hH ?_
          refine wpAnyH_take (i := 2) (v := .pointer (some ⟨q, 16, none⟩)) rfl (by kernel_rfl) (by kernel_rfl) (by kernel_rfl) (fun _ _ _ h => h) (Or.inl ⟨by rfl, fun w' hw' => by go_simp⟩) hH ?_
          refine wpAnyH_take (i := 3) (v := .pointer (some ⟨p, 0, none⟩)) rfl (by kernel_rfl) (by kernel_rfl) (by kernel_rfl) (fun _ _ _ h => h) (Or.inl ⟨by rfl, fun w' hw' => by go_simp⟩) hH ?_
          refine wpAnyH_take (i := 4) (v := .pointer (some ⟨p, 0, none⟩)) rfl (by kernel_rfl) (by kernel_rfl) (by kernel_rfl) (fun _ _ _ h => h) (Or.inl ⟨by rfl, fun w' hw' => by go_simp⟩) hH ?_
          refine wpAnyH_take (i := 5) (v := .pointer (some ⟨p, 16, none⟩)) rfl (by kernel_rfl) (by kernel_rfl) (by kernel_rfl) (fun _ _ _ h => h) (Or.inl ⟨by rfl, fun w' hw' => by go_simp⟩) hH ?_
          refine wpAnyH_ready (rs := [6]) (by kernel_rfl) (by simp) ?_
          refine AllReadyH.cons rfl (fun KK hKK => ?_) AllReadyH.nil
          go_simp
          refine Calls.mono (u64load_any ⟨p, 16, none⟩ x.fl wG.drew (Rw.cell SG0.out 16)) ?_
          rintro e w9 ⟨rfl, h9⟩
          subst h9
          refine hKK.out _ _ trivial (fun _ => ?_)
          clear hKK KK
          refine wpAnyH_ready (rs := [7]) (by kernel_rfl) (by simp) ?_
          refine AllReadyH.cons rfl (fun KK hKK => ?_) AllReadyH.nil
          go_simp
          refine Calls.mono (u64store_any ⟨q, 16, none⟩ 0 x.fl wG.drew (Rw.cell RG.out 16) (Rw.fr RG.out 16)) ?_
          rintro e wH ⟨rfl, h9⟩
          have c9 : Chg (fun i => i = q) wG wH := by rw [h9]; exact (Chg.refl (fun i => i = q) wG).drew.setCell (.inl rfl) _
          have RH : Hid (Rw wH q (dkG S z m' c' x) 86) := by rw [h9]; exact Rw.set (w := wG.drew) ⟨RG.out.eq⟩ 16 (.int .u64 x.fl)
          have SH0 : Hid (Rw wH p ((dkG S z m c x).setIfInBounds 6 (.int .i32 1)) 86) := Rw.chg1 SG0.out c9 hpq
          have CH : Hid (Chg (fun i => i = q) wr wH) := CG.out.trans c9 (fun _ e => .inl e)
          clear h9 c9 RG SG0 CG
          refine hKK.out _ _ trivial (fun _ => ?_)
          clear hKK KK hH
          refine wpAnyH_done (by kernel_rfl) (NoPanic.normal ?_) _
          go_wp2_with fail
          refine leaves_cons (f := 32) (args := #[.pointer (some ⟨p, 2, none⟩)]) (by simp) (by simp [go_sem]) ?_
          refine (runlock_deferred Try.rwRLib p 2 1 _ _ .returning _ (Rw.cell SH0.out 2) (Rw.cell SH0.out 4) (Rw.cell SH0.out 6) (Rw.fr SH0.out 6) (by rw [wr0]; decide)).mono ?_
          rintro e u' w'' ⟨rfl, rfl, rfl⟩
          refine ⟨_, results_tmp rfl _ _ _, q, rfl, ?_⟩
          rw [wr0]
          have hbm := ACF.out.bms
          have cH : Chg (fun k => k = p) wH (wH.setCell ⟨p, 2 + 4, none⟩ (.int .i32 0)) := (Chg.refl (fun k => k = p) wH).setCell (.inl rfl) _
          have cw : Chg (fun k => k = p) w wH := (C1.out.trans (Chg.of_below (by rw [← HI1.out]; exact BLF.out) (fun _ => False)) (fun _ h => h.elim)).trans CH.out (fun k e => .inr (by omega))
          have acH : AC wH I J2 q m' c' S z (tot A S) km' (b) x A F := ACF.out.renum CH.out RH.out ⟨pn, HPN.out, by omega⟩ (by rw [HPN.out, HT.out]; exact Int.le_refl _)
          exact ⟨cw.trans cH (fun _ e => .inl e), Rw.set SH0.out 6 (.int .i32 0), m', c', tot A S, km', ((acH.frame cH (fun g _ h e => by omega)).lower hIw).other (Nat.le_refl _)⟩
        · intro x0 e0 kl y1 y2 wn cnt1 hkey hlk hv hat hrg1 hlt hg1 hs1 hen
          obtain ⟨s, hkl, hLs⟩ := (CA1.out.has kl).1 (HI.out.sub kl hlk)
          obtain ⟨x', ex, ekl, _⟩ := Maps.keyOf_int_inv Try.underlying3 hkey
          rw [hkl] at ekl
          injection ekl with _ ekl
          injection ex with _ ex
          have hxi : x0 = (s : Int) := by omega
          have hy1 : y1 = enc (V s) := by rw [← hat .nil, hkl]; exact CA1.out.at_ s
          have hv' : anyElem (mkA e0) = some (enc (V s), y2) := by rw [← hy1]; exact hv
          have hE := anyElem_inv (CA1.out.flat s) hv'
          rw [hE, hxi] at hen
          rw [hE, hxi]
          have hsS := HD.out.dd.low s hLs
          obtain ⟨k, hk⟩ : ∃ k, k = (L s).length := ⟨_, rfl⟩
          have hkb : k ≤ b := by rw [hk]; exact HD.out.dd.ll s
          rcases (CA1.out.row s).2 with ⟨e, h0⟩ | ⟨g, cap, cur, e, _, hgg, h1, h2, h3, h4⟩
          · exact absurd (List.eq_nil_of_length_eq_zero h0) hLs
          · rw [← hk] at e
            rw [e] at hen ⊢
            have hgI : g < I := hVlt.out s g (by rw [e]; rfl)
            have hwrI : I ≤ wr.heap.size := by have := HI.out.jr; omega
            have hch1 : Chg (fun k => k = J2) wr wn := ⟨hg1.os, hg1.tape, hg1.output, hg1.size, fun k hk hn => hg1.block k hk (by simpa using hn)⟩
            have AS : Hid ((A s).length = k ∧ ∀ (i : Nat) (y : Nat × Nat), (L s)[i]? = some y → (A s)[i]? = some (y.1, C y.2)) := by
              rw [HA.out, hk]
              exact ⟨by simp, fun i y hy => by show ((L s).map _)[i]? = _; rw [List.getElem?_map, hy]; rfl⟩
            have hls : left (kI s) = true := by rw [← hkl]; exact hlk
            have cl1 : CL2 w1 wn I J2 c q m' c' S z kc km' (b) D A F (fun t => if t = s then (A s).take 0 else if left (kI t) then [] else A t) (fun y => left y && !y.sameKey kl) cnt1 := by
              have eA : (fun t => if t = s then (A s).take 0 else if left (kI t) then [] else A t) = A' := by
                funext t
                rw [hA'.out t]
                by_cases e : t = s
                · rw [if_pos e, e, hls]; rfl
                · rw [if_neg e]
              rw [eA]
              exact ⟨hrg1, HI.out.bl.trans (hch1.below hwrI (fun k e => by omega)), by rw [hs1]; exact HI.out.jr, HI.out.ac.frame hch1 (fun g _ h e => h.2 e), fun kl2 h => HI.out.sub kl2 (by simp at h; exact h.1)⟩
            have CELL : Hid (∀ (wq : World), Below I w1 wq → ∀ i y, (L s)[i]? = some y → wq.cell? ⟨g, i * 2, none⟩ = some (.int .i64 y.1) ∧ wq.cell? ⟨g, i * 2 + 1, none⟩ = some (.slice (some ⟨y.2, 0, none⟩) z z)) := fun wq hbq i y hy => by
              obtain ⟨a1, a2⟩ := wcells_get z (L s) i y hy
              have hq : wq.heap[g]? = w1.heap[g]? := hbq.block g hgI
              have hr := CA1.out.row s
              have b1 := World.ownsRow.cells hr (g := g) (by rw [e]; rfl) (i * 2) _ a1
              have b2 := World.ownsRow.cells hr (g := g) (by rw [e]; rfl) (i * 2 + 1) _ a2
              rw [addr_add, Nat.zero_add] at b1 b2
              exact ⟨(World.cell?_of_block (a := ⟨g, i * 2, none⟩) hq).trans b1, (World.cell?_of_block (a := ⟨g, i * 2 + 1, none⟩) hq).trans b2⟩
            have CL0 : Hid _ := cl1
            have HLT : Hid _ := hlt
            have HKK : Hid _ := hk
            have HKL : Hid _ := hkl
            clear hat hv hkey hlk hrg1 hlt hg1 hs1 cl1 hch1 ekl ex hkl hxi hE hv' hy1 hgg h1 h2 h3 h4 e hk
            go_wp2_with fail
            go_loopg [55] (k + 1) (fun gk si wq => ∃ i : Nat, si = .int .i64 i ∧ i ≤ k ∧ k < gk + i ∧ Hid (CL2 w1 wq I J2 c q m' c' S z kc km' (b) D A F (fun t => if t = s then (A s).take i else if left (kI t) then [] else A t) (fun y => left y && !y.sameKey kl) cnt1))
            case atStart => exact ⟨0, rfl, by omega, by omega, CL0.out⟩
            case round =>
              obtain ⟨i, rfl, hi, hgk, hid⟩ := hrel
              have hpr := hid.out
              clear hid CL0
              by_cases hin : i = k
              · subst hin
                have PRq : Hid _ := hpr
                clear hpr
                go_wp2_with fail
                go_roundw
                case rel =>
                  refine ⟨_, _, _, PRq.out, fun t => ?_⟩
                  rw [HKL.out]
                  simp only [sameKey_kI]
                  by_cases e : t = s
                  · rw [if_pos e, e, List.take_of_length_le (by rw [AS.out.1]; exact Nat.le_refl _)]
                    simp
                  · rw [if_neg e]
                    simp [e]
                case measure => rw [PRq.out.rg.left_eq, HI.out.rg.left_eq]; exact HLT.out
              · have hil : (i : Int) < (k : Int) := by omega
                obtain ⟨y, hy⟩ : ∃ y, (L s)[i]? = some y := ⟨(L s)[i]'(by have := HKK.out; omega), List.getElem?_eq_getElem _⟩
                obtain ⟨a1, a2⟩ := CELL.out wr hpr.bl i y hy
                have hmem := List.mem_of_getElem? hy
                have hyn := HN.out s y hmem
                have hAy := AS.out.2 i y hy
                obtain ⟨yn, yb⟩ := y
                simp only at a1 a2 hyn hAy
                obtain ⟨l, hl⟩ : ∃ l, l = C yb := ⟨_, rfl⟩
                have hr1 : Rw w1 yb (bs (C yb)).toArray 5 ∧ (C yb).length = z := LR1.out s (yn, yb) hmem
                rw [← hl] at hr1 hAy
                have hll := hr1.2
                have hybI : yb < I := hLlt.out s (yn, yb) hmem
                have hwrI : I ≤ wr.heap.size := by have := hpr.jr; omega
                obtain ⟨T, hT⟩ : ∃ T, T = wr.heap.size := ⟨_, rfl⟩
                obtain ⟨wa, hwa⟩ : ∃ wa, wa = wr.alloc (.cells #[.int .i64 yn, .slice (some ⟨yb, 0, none⟩) z z] 90) := ⟨_, rfl⟩
                have ka : Chg (fun _ => False) wr wa := by rw [hwa]; exact (Chg.refl _ _).alloc _
                have rT : Rw wa T #[.int .i64 yn, .slice (some ⟨yb, 0, none⟩) z z] 90 := by rw [hwa, hT]; exact ⟨heap_alloc_new _ _⟩
                have cla := hpr.more ka hwrI
                have SRC : Hid (Src wa.drew (.slice (some ⟨yb, 0, none⟩) z z) l) := src_row ⟨(cla.bl.block yb hybI).trans hr1.1.eq⟩ hll
                obtain ⟨L', V', D', K', E', C', ax0⟩ := hpr.ac
                have axa := ax0.frame ka (fun _ _ _ h => h)
                have hVT : ∀ g, (V' s).ownBlock = some g → g < T := fun g hg => by rw [hT]; exact ax0.dc.dd.ca.blt s g hg
                have hcT : c' < T := by rw [hT]; exact ax0.clt
                have hqT : q < T := by rw [hT]; exact ax0.dc.dd.row.lt
                have hTa : wa.heap.size = T + 1 := by rw [hwa, hT]; simp
                have FACT : Hid (∀ w3, Rw w3 wa.heap.size (bs l).toArray 5 → Below wa.heap.size wa.drew w3 → ∃ w4 v' w5 w6, w3.alloc (.cells #[.int .i64 yn, .slice (some ⟨wa.heap.size, 0, none⟩) z z] 90) = w4 ∧ (Builtin.append_ #[88, 88] 88 #[V' s, .slice (some ⟨w3.heap.size, 0, none⟩) 1 1]).run Try.prog w4 = .ok v' w5 ∧ (Instr.mapUpdate 81 (.map (some c')) (.int .i64 s) v').run Try.prog w5 = .ok () w6 ∧ (Instr.lookup 81 (.map (some c')) (.int .i64 s) false).run Try.prog w3 = .ok (V' s) w3 ∧ (Instr.lookup 81 (.map (some c')) (.int .i64 s) false).run Try.prog w4 = .ok (V' s) w4 ∧
                    (w3.cell? ⟨q, 9, none⟩ = some (.map (some c')) ∧ w3.cell? ⟨T, 0, none⟩ = some (.int .i64 yn) ∧ w3.cell? ⟨T, 1, none⟩ = some (.slice (some ⟨yb, 0, none⟩) z z)) ∧ (w4.cell? ⟨q, 9, none⟩ = some (.map (some c')) ∧ w4.cell? ⟨T, 0, none⟩ = some (.int .i64 yn) ∧ w4.cell? ⟨T, 1, none⟩ = some (.slice (some ⟨yb, 0, none⟩) z z)) ∧ (w5.cell? ⟨q, 9, none⟩ = some (.map (some c')) ∧ w5.cell? ⟨T, 0, none⟩ = some (.int .i64 yn) ∧ w5.cell? ⟨T, 1, none⟩ = some (.slice (some ⟨yb, 0, none⟩) z z)) ∧ (w6.cell? ⟨q, 9, none⟩ = some (.map (some c')) ∧ w6.cell? ⟨T, 0, none⟩ = some (.int .i64 yn) ∧ w6.cell? ⟨T, 1, none⟩ = some (.slice (some ⟨yb, 0, none⟩) z z)) ∧ CL2 w1 w6 I J2 c q m' c' S z kc km' (b) D A F (fun t => if t = s then (A s).take (i + 1) else if left (kI t) then [] else A t) (fun y => left y && !y.sameKey kl) cnt1) := fun w3 r3 b3 => by
                  have k3 : Chg (fun _ => False) wa w3 := ⟨b3.os, b3.tape, b3.output, b3.size, fun k hk _ => b3.block k hk⟩
                  obtain ⟨w4, hw4⟩ : ∃ w4, w3.alloc (.cells #[.int .i64 yn, .slice (some ⟨wa.heap.size, 0, none⟩) z z] 90) = w4 := ⟨_, rfl⟩
                  have k34 : Chg (fun _ => False) w3 w4 := by rw [← hw4]; exact (Chg.refl _ _).alloc _
                  have k4 : Chg (fun _ => False) wa w4 := k3.trans k34 (fun _ h => h.elim)
                  have Q4 : Rw w4 w3.heap.size #[.int .i64 yn, .slice (some ⟨wa.heap.size, 0, none⟩) z z] 90 := by rw [← hw4]; exact ⟨heap_alloc_new _ _⟩
                  have r4 : Rw w4 wa.heap.size (bs l).toArray 5 := ⟨k34.heap_some r3.eq (fun h => h)⟩
                  have eA : updT (fun t => if t = s then (A s).take i else if left (kI t) then [] else A t) s ((A s).take i ++ [(yn, l)]) = fun t => if t = s then (A s).take (i + 1) else if left (kI t) then [] else A t := by
                    funext t
                    by_cases e : t = s
                    · rw [e, updT_same, if_pos rfl, List.take_add_one, hAy]
                      rfl
                    · rw [updT_other _ _ e, if_neg e, if_neg e]
                  have htu := tot_upd (fun t => if t = s then (A s).take i else if left (kI t) then [] else A t) s ((A s).take i ++ [(yn, l)]) S hsS
                  rw [eA, if_pos (rfl : s = s), List.length_append, List.length_cons, List.length_nil] at htu
                  have hle : tot (fun t => if t = s then (A s).take (i + 1) else if left (kI t) then [] else A t) S ≤ tot A S := tot_le (fun t => by
                    show (if t = s then (A s).take (i + 1) else if left (kI t) then [] else A t).length ≤ _
                    split
                    · rename_i e
                      rw [e, List.length_take]
                      omega
                    · split
                      · simp
                      · exact Nat.le_refl _) S
                  have hTT := HT.out
                  have htk : ((A s).take i).length ≤ i := by rw [List.length_take]; omega
                  have hjr := hpr.jr
                  have hs3 := k3.size
                  have hs34 := k34.size
                  obtain ⟨v', w5, w6, ha, hm, rw5, c5, c6, ac6⟩ := axa.app k4 s hsS hS yn wa.heap.size ⟨w3.heap.size, 0, none⟩ 1 88 (Nat.le_refl _) r4 hll (by omega) (by omega) (fun j u hu => by rw [addr_add, Nat.zero_add, Rw.cell Q4 j]; simpa [wcell] using hu) (by rw [if_pos (rfl : s = s)]; omega) (by omega) (by omega) (by omega)
                  rw [if_pos (rfl : s = s), eA] at ac6
                  have ekc : tot (fun t => if t = s then (A s).take i else if left (kI t) then [] else A t) S + 1 = tot (fun t => if t = s then (A s).take (i + 1) else if left (kI t) then [] else A t) S := by omega
                  rw [ekc] at ac6
                  have ax3 := axa.frame k3 (fun _ _ _ h => h)
                  have ax4 := axa.frame k4 (fun _ _ _ h => h)
                  have rT3 : Rw w3 T _ 90 := ⟨k3.heap_some rT.eq (fun h => h)⟩
                  have rT4 : Rw w4 T _ 90 := ⟨k4.heap_some rT.eq (fun h => h)⟩
                  have rT5 : Rw w5 T _ 90 := ⟨c5.heap_some rT4.eq (fun e => by have := hVT T e.symm; omega)⟩
                  have rT6 : Rw w6 T _ 90 := ⟨c6.heap_some rT5.eq (fun e => by omega)⟩
                  have g5 : w4.grownBy w5 (V' s).ownBlock := ⟨c5.os, c5.tape, c5.output, c5.size, fun k hk hn => c5.block k hk hn⟩
                  refine ⟨w4, v', w5, w6, hw4, ha, hm, ax3.dc.dd.ca.lookup s (by omega), ax4.dc.dd.ca.lookup s (by omega), ⟨ax3.dc.dd.row.cell 9, rT3.cell 0, rT3.cell 1⟩, ⟨ax4.dc.dd.row.cell 9, rT4.cell 0, rT4.cell 1⟩, ⟨rw5.cell 9, rT5.cell 0, rT5.cell 1⟩, ⟨ac6.row.cell 9, rT6.cell 0, rT6.cell 1⟩, ⟨?_, ?_, by have := c5.size; have := c6.size; omega, ac6, cla.sub⟩⟩
                  · have rg4 := cla.rg.kept (row := none) (w' := w4) ⟨k4.os, k4.tape, k4.output, k4.size, fun k hk _ => k4.block k hk (fun h => h)⟩ (by simp) (by simp)
                    refine (rg4.kept g5 (fun e => ?_) (fun e => ?_)).kept (grown_of c6) (fun e => ?_) (fun e => ?_)
                    · have := axa.vb s c e.symm; omega
                    · exact (axa.vb s J2 e.symm).2 rfl
                    · injection e with e; have := axa.bc; omega
                    · injection e with e; exact axa.bc.2 e.symm
                  · exact ((cla.bl.trans (k4.below (by omega) (fun _ h => h.elim))).trans (c5.below (by omega) (fun k e => (axa.vb s k e.symm).1))).trans (c6.below (by have := c5.size; omega) (fun k e => by rw [e]; exact axa.bc.1))
                have qa : (wa.cell? ⟨q, 9, none⟩ = some (.map (some c')) ∧ wa.cell? ⟨T, 0, none⟩ = some (.int .i64 yn) ∧ wa.cell? ⟨T, 1, none⟩ = some (.slice (some ⟨yb, 0, none⟩) z z)) := ⟨axa.dc.dd.row.cell 9, rT.cell 0, rT.cell 1⟩
                have hlk : (Instr.lookup 81 (.map (some c')) (.int .i64 s) false).run Try.prog wa.drew = .ok (V' s) wa.drew := Ca.lookup (w := wa.drew) ⟨axa.dc.dd.ca.own.drew, axa.dc.dd.ca.at_, axa.dc.dd.ca.has, fun t => axa.dc.dd.ca.row t, axa.dc.dd.ca.ne⟩ s (by omega)
                clear hpr cla ax0 axa ka rT hVT hcT hqT hTa hr1 hl hy hAy hyn hmem
                go_upto_region 14 with fail
                rw [← hwa, ← hT]
                clear hwa hT
                refine wp_region_noPanic ?_
                refine wp_region_held_drew (S := fun w' => (w'.cell? ⟨q, 9, none⟩ = some (.map (some c')) ∧ w'.cell? ⟨T, 0, none⟩ = some (.int .i64 yn) ∧ w'.cell? ⟨T, 1, none⟩ = some (.slice (some ⟨yb, 0, none⟩) z z))) (by kernel_rfl) qa (fun hH => ?_)
                refine wpAnyH_take (i := 0) (v := .pointer (some ⟨q, 0, none⟩)) rfl (by kernel_rfl) (by kernel_rfl) (by kernel_rfl) (fun _ _ _ h => h) (Or.inl ⟨by rfl, fun w' hw' => by go_simp⟩) hH ?_
                refine wpAnyH_take (i := 1) (v := .pointer (some ⟨q, 0, none⟩)) rfl (by kernel_rfl) (by kernel_rfl) (by kernel_rfl) (fun _ _ _ h => h) (Or.inl ⟨by rfl, fun w' hw' => by go_simp⟩) hH ?_
                refine wpAnyH_take (i := 2) (v := .pointer (some ⟨q, 9, none⟩)) rfl (by kernel_rfl) (by kernel_rfl) (by kernel_rfl) (fun _ _ _ h => h) (Or.inl ⟨by rfl, fun w' hw' => by go_simp⟩) hH ?_
                refine wpAnyH_take (i := 3) (v := .map (some c')) rfl (by kernel_rfl) (by kernel_rfl) (by kernel_rfl) (fun _ _ _ h => h) (Or.inl ⟨by rfl, fun w' hw' => by have q1 := hw'.1; go_simp⟩) hH ?_
                refine wpAnyH_take (i := 4) (v := .int .i64 s) rfl (by kernel_rfl) (by kernel_rfl) (by kernel_rfl) (fun _ _ _ h => h) (Or.inl ⟨by rfl, fun w' hw' => by go_simp⟩) hH ?_
                refine wpAnyH_take (i := 5) (v := .pointer (some ⟨q, 0, none⟩)) rfl (by kernel_rfl) (by kernel_rfl) (by kernel_rfl) (fun _ _ _ h => h) (Or.inl ⟨by rfl, fun w' hw' => by go_simp⟩) hH ?_
                refine wpAnyH_take (i := 6) (v := .pointer (some ⟨q, 0, none⟩)) rfl (by kernel_rfl) (by kernel_rfl) (by kernel_rfl) (fun _ _ _ h => h) (Or.inl ⟨by rfl, fun w' hw' => by go_simp⟩) hH ?_
                refine wpAnyH_take (i := 7) (v := .pointer (some ⟨q, 9, none⟩)) rfl (by kernel_rfl) (by kernel_rfl) (by kernel_rfl) (fun _ _ _ h => h) (Or.inl ⟨by rfl, fun w' hw' => by go_simp⟩) hH ?_
                refine wpAnyH_take (i := 8) (v := .map (some c')) rfl (by kernel_rfl) (by kernel_rfl) (by kernel_rfl) (fun _ _ _ h => h) (Or.inl ⟨by rfl, fun w' hw' => by have q1 := hw'.1; go_simp⟩) hH ?_
                refine wpAnyH_take (i := 9) (v := .int .i64 s) rfl (by kernel_rfl) (by kernel_rfl) (by kernel_rfl) (fun _ _ _ h => h) (Or.inl ⟨by rfl, fun w' hw' => by go_simp⟩) hH ?_
                refine wpAnyH_take (i := 11) (v := .pointer (some ⟨T, 0, none⟩)) rfl (by kernel_rfl) (by kernel_rfl) (by kernel_rfl) (fun _ _ _ h => h) (Or.inl ⟨by rfl, fun w' hw' => by go_simp⟩) hH ?_
                refine wpAnyH_take (i := 12) (v := .int .i64 yn) rfl (by kernel_rfl) (by kernel_rfl) (by kernel_rfl) (fun _ _ _ h => h) (Or.inl ⟨by rfl, fun w' hw' => by have q1 := hw'.2.1; go_simp⟩) hH ?_
                refine wpAnyH_take (i := 13) (v := .pointer (some ⟨T, 1, none⟩)) rfl (by kernel_rfl) (by kernel_rfl) (by kernel_rfl) (fun _ _ _ h => h) (Or.inl ⟨by rfl, fun w' hw' => by go_simp⟩) hH ?_
                refine wpAnyH_take (i := 14) (v := .slice (some ⟨yb, 0, none⟩) z z) rfl (by kernel_rfl) (by kernel_rfl) (by kernel_rfl) (fun _ _ _ h => h) (Or.inl ⟨by rfl, fun w' hw' => by have q1 := hw'.2.2; go_simp⟩) hH ?_
                refine wpAnyH_ready (rs := [10, 15]) (by kernel_rfl) (by simp) ?_
                refine AllReadyH.cons rfl (fun KK hKK => ?_) (AllReadyH.cons rfl (fun KK hKK => ?_) AllReadyH.nil)
                · go_simp
                  refine hKK.out _ _ hH (fun _ => ?_)
                  clear hKK KK
                  refine wpAnyH_ready (rs := [15]) (by kernel_rfl) (by simp) ?_
                  refine AllReadyH.cons rfl (fun KK hKK => ?_) AllReadyH.nil
                  go_simp
                  refine Calls.mono (copied_any (w := wa.drew) SRC.out (by rw [hll]; omega) (by rw [hll]; omega)) ?_
                  rintro e w3 ⟨rfl, r3, b3⟩
                  rw [hll]
                  obtain ⟨w4, v', w5, w6, hw4, ha, hm, hlk3, hlk4, q3, q4, q5, q6, k6⟩ := FACT.out w3 r3 b3
                  have K6 : Hid _ := k6
                  clear FACT r3 b3 k6 SRC
                  refine hKK.out _ _ q3 (fun h2 => ?_)
                  clear hKK KK
                  refine wpAnyH_take (i := 16) (v := .agg #[.int .i64 yn, .slice (some ⟨wa.heap.size, 0, none⟩) z z]) rfl (by kernel_rfl) (by kernel_rfl) (by kernel_rfl) (fun _ _ _ h => h) (Or.inl ⟨by rfl, fun w' hw' => by go_simp⟩) h2 ?_
                  refine wpAnyH_ready (rs := [17]) (by kernel_rfl) (by simp) ?_
                  refine AllReadyH.cons rfl (fun KK hKK => ?_) AllReadyH.nil
                  go_simp
                  refine hKK.out _ _ q4 (fun _ => ?_)
                  clear hKK KK
                  refine wpAnyH_ready (rs := [18]) (by kernel_rfl) (by simp) ?_
                  refine AllReadyH.cons rfl (fun KK hKK => ?_) AllReadyH.nil
                  refine step_append rfl (.tmp 69) (.tmp 76) rfl (v := V' s) (u := .slice (some ⟨w3.heap.size, 0, none⟩) 1 1) (by kernel_rfl) (by kernel_rfl) ha ?_
                  refine hKK.out _ _ q5 (fun _ => ?_)
                  clear hKK KK
                  refine wpAnyH_ready (rs := [19]) (by kernel_rfl) (by simp) ?_
                  refine AllReadyH.cons rfl (fun KK hKK => ?_) AllReadyH.nil
                  go_simp
                  refine hKK.out _ _ q6 (fun _ => ?_)
                  clear hKK KK
                  refine wpAnyH_done (by kernel_rfl) (NoPanic.normal ?_) _
                  clear q3 q4 q5 q6 ha hm hlk hlk3 hlk4 hw4 qa hH
                  go_wp2_with fail
                  go_roundg (k - i)
                  case measure => omega
                  case rel => exact ⟨i + 1, by go_num, by omega, by omega, K6.out⟩
                · go_simp
                  refine Calls.mono (copied_any (w := wa.drew) SRC.out (by rw [hll]; omega) (by rw [hll]; omega)) ?_
                  rintro e w3 ⟨rfl, r3, b3⟩
                  rw [hll]
                  obtain ⟨w4, v', w5, w6, hw4, ha, hm, hlk3, hlk4, q3, q4, q5, q6, k6⟩ := FACT.out w3 r3 b3
                  have K6 : Hid _ := k6
                  clear FACT r3 b3 k6 SRC
                  refine hKK.out _ _ q3 (fun h2 => ?_)
                  clear hKK KK
                  refine wpAnyH_take (i := 16) (v := .agg #[.int .i64 yn, .slice (some ⟨wa.heap.size, 0, none⟩) z z]) rfl (by kernel_rfl) (by kernel_rfl) (by kernel_rfl) (fun _ _ _ h => h) (Or.inl ⟨by rfl, fun w' hw' => by go_simp⟩) h2 ?_
                  refine wpAnyH_ready (rs := [10, 17]) (by kernel_rfl) (by simp) ?_
                  refine AllReadyH.cons rfl (fun KK hKK => ?_) (AllReadyH.cons rfl (fun KK hKK => ?_) AllReadyH.nil)
                  · go_simp
                    refine hKK.out _ _ q3 (fun _ => ?_)
                    clear hKK KK
                    refine wpAnyH_ready (rs := [17]) (by kernel_rfl) (by simp) ?_
                    refine AllReadyH.cons rfl (fun KK hKK => ?_) AllReadyH.nil
                    go_simp
                    refine hKK.out _ _ q4 (fun _ => ?_)
                    clear hKK KK
                    refine wpAnyH_ready (rs := [18]) (by kernel_rfl) (by simp) ?_
                    refine AllReadyH.cons rfl (fun KK hKK => ?_) AllReadyH.nil
                    refine step_append rfl (.tmp 69) (.tmp 76) rfl (v := V' s) (u := .slice (some ⟨w3.heap.size, 0, none⟩) 1 1) (by kernel_rfl) (by kernel_rfl) ha ?_
                    refine hKK.out _ _ q5 (fun _ => ?_)
                    clear hKK KK
                    refine wpAnyH_ready (rs := [19]) (by kernel_rfl) (by simp) ?_
                    refine AllReadyH.cons rfl (fun KK hKK => ?_) AllReadyH.nil
                    go_simp
                    refine hKK.out _ _ q6 (fun _ => ?_)
                    clear hKK KK
                    refine wpAnyH_done (by kernel_rfl) (NoPanic.normal ?_) _
                    clear q3 q4 q5 q6 ha hm hlk hlk3 hlk4 hw4 qa hH
                    go_wp2_with fail
                    go_roundg (k - i)
                    case measure => omega
                    case rel => exact ⟨i + 1, by go_num, by omega, by omega, K6.out⟩
                  · go_simp
                    refine hKK.out _ _ q4 (fun _ => ?_)
                    clear hKK KK
                    refine wpAnyH_ready (rs := [10]) (by kernel_rfl) (by simp) ?_
                    refine AllReadyH.cons rfl (fun KK hKK => ?_) AllReadyH.nil
                    go_simp
                    refine hKK.out _ _ q4 (fun _ => ?_)
                    clear hKK KK
                    refine wpAnyH_ready (rs := [18]) (by kernel_rfl) (by simp) ?_
                    refine AllReadyH.cons rfl (fun KK hKK => ?_) AllReadyH.nil
                    refine step_append rfl (.tmp 69) (.tmp 76) rfl (v := V' s) (u := .slice (some ⟨w3.heap.size, 0, none⟩) 1 1) (by kernel_rfl) (by kernel_rfl) ha ?_
                    refine hKK.out _ _ q5 (fun _ => ?_)
                    clear hKK KK
                    refine wpAnyH_ready (rs := [19]) (by kernel_rfl) (by simp) ?_
                    refine AllReadyH.cons rfl (fun KK hKK => ?_) AllReadyH.nil
                    go_simp
                    refine hKK.out _ _ q6 (fun _ => ?_)
                    clear hKK KK
                    refine wpAnyH_done (by kernel_rfl) (NoPanic.normal ?_) _
                    clear q3 q4 q5 q6 ha hm hlk hlk3 hlk4 hw4 qa hH
                    go_wp2_with fail
                    go_roundg (k - i)
                    case measure => omega
                    case rel => exact ⟨i + 1, by go_num, by omega, by omega, K6.out⟩
    · intro x0 e0 kl y1 y2 wn cnt1 hkey hlk hv hat hrg1 hlt hg1 hs1 hen
      obtain ⟨i, hkl, hKi⟩ := (DU1.out.has kl).1 (HI.out.sub kl hlk)
      obtain ⟨gi, hgi⟩ : ∃ gi, K i = some gi := Option.ne_none_iff_exists'.1 hKi
      obtain ⟨x', ex, ekl, _⟩ := Maps.keyOf_int_inv Try.underlying3 hkey
      rw [hkl] at ekl
      injection ekl with _ ekl
      injection ex with _ ex
      have hxi : x0 = (i : Int) := by omega
      have hy1 : y1 = .lit (.int .i64 gi) := by rw [← hat .nil, hkl, DU1.out.at_ i, hgi]; rfl
      have hE := mkE_block (y := (y1, y2)) hv hy1
      rw [hE, hxi] at hen
      rw [hE, hxi]
      have hiS := HK.out i gi hgi
      have hch1 : Chg (fun k => k = J) wr wn := ⟨hg1.os, hg1.tape, hg1.output, hg1.size, fun k hk hn => hg1.block k hk (by simpa using hn)⟩
      obtain ⟨l, hl⟩ : ∃ l, l = C gi := ⟨_, rfl⟩
      have hll : l.length = z := by rw [hl]; exact (KR1.out i gi hgi).2
      have hgI := hKlt.out i gi hgi
      have hFi : F i = some l := by rw [HF.out, hl]; show (K i).map C = _; rw [hgi]; rfl
      have hwrI : I ≤ wr.heap.size := by have := HI.out.jr; omega
      have hbn : Below I w1 wn := HI.out.bl.trans (hch1.below hwrI (fun k e => by omega))
      have SRC : Hid (Src wn.drew (.slice (some ⟨gi, 0, none⟩) z z) l) := by
        have r1 := (KR1.out i gi hgi).1
        rw [← hl] at r1
        exact src_row ⟨(hbn.block gi hgI).trans r1.eq⟩ hll
      obtain ⟨km', ac, hkm⟩ := HI.out.ac
      have acn := ac.frame hch1 (fun g _ h e => h.2 e)
      have hbm := ac.bms
      have PUT : Hid (∀ w3, Rw w3 wn.heap.size (bs l).toArray 5 → Below wn.heap.size wn.drew w3 → ∃ w5, (Instr.mapUpdate 80 (.map (some m')) (.int .i64 i) (.slice (some ⟨wn.heap.size, 0, none⟩) z z)).run Try.prog w3 = .ok () w5 ∧ w3.cell? ⟨q, 8, none⟩ = some (.map (some m')) ∧ w5.cell? ⟨q, 8, none⟩ = some (.map (some m')) ∧ CL1 w1 w5 I J m q m' c' S z km (b) E F (fun y => left y && !y.sameKey kl) cnt1) := fun w3 r3 b3 => by
        have k3 : Chg (fun _ => False) wn w3 := ⟨b3.os, b3.tape, b3.output, b3.size, fun k hk _ => b3.block k hk⟩
        have hwnJ : J < wn.heap.size := by rw [hs1]; exact HI.out.jr
        obtain ⟨w5, h5, ac5, c5⟩ := acn.put k3 i (by omega) (Nat.le_refl _) r3 hll (by omega) hwnJ (by omega) (by omega)
        have g5 : w3.grownBy w5 (some m') := grown_of c5
        have b3' : Below I w1 w3 := hbn.trans (k3.below (by omega) (fun _ h => h.elim))
        refine ⟨w5, h5, (acn.frame k3 (fun _ _ _ h => h)).row.cell 8, ac5.row.cell 8, ⟨?_, b3'.trans (c5.below (by have := k3.size; omega) (fun k e => by omega)), by have := k3.size; have := c5.size; omega, ⟨km' + 1, ?_, by omega⟩, fun kl2 h => HI.out.sub kl2 (by simp at h; exact h.1)⟩⟩
        · exact (hrg1.kept (row := none) (w' := w3) ⟨k3.os, k3.tape, k3.output, k3.size, fun k hk _ => k3.block k hk (fun h => h)⟩ (by simp) (by simp)).kept g5 (fun e => by injection e with e; omega) (fun e => by injection e with e; exact hbm.2.1.2 e.symm)
        · have e : updT (fun t => if left (kI t) then none else F t) i (some l) = fun t => if (left (kI t) && !(kI t).sameKey kl) then none else F t := by
            funext t
            rw [hkl]
            simp only [sameKey_kI]
            by_cases e : t = i
            · subst e
              rw [updT_same]
              simp [hFi]
            · rw [updT_other _ _ e]
              simp [e]
          rw [← e]
          exact ac5
      have d8q : wn.cell? ⟨q, 8, none⟩ = some (.map (some m')) := acn.row.cell 8
      have HLT : Hid _ := hlt
      clear hat hv hkey hlk hrg1 hlt hg1 hs1 hch1 ekl ex hkl hxi hE hy1 hKi hgi hl hbn ac acn hbm hkm hFi
      go_upto_region 7 with fail
      refine wp_region_noPanic ?_
      refine wp_region_held_drew (S := fun w' => w'.cell? ⟨q, 8, none⟩ = some (.map (some m'))) (by kernel_rfl) d8q (fun hH => ?_)
      refine wpAnyH_take (i := 0) (v := .pointer (some ⟨q, 0, none⟩)) rfl (by kernel_rfl) (by kernel_rfl) (by kernel_rfl) (fun _ _ _ h => h) (Or.inl ⟨by rfl, fun w' hw' => by go_simp⟩) hH ?_
      refine wpAnyH_take (i := 1) (v := .pointer (some ⟨q, 0, none⟩)) rfl (by kernel_rfl) (by kernel_rfl) (by kernel_rfl) (fun _ _ _ h => h) (Or.inl ⟨by rfl, fun w' hw' => by go_simp⟩) hH ?_
      refine wpAnyH_take (i := 2) (v := .pointer (some ⟨q, 8, none⟩)) rfl (by kernel_rfl) (by kernel_rfl) (by kernel_rfl) (fun _ _ _ h => h) (Or.inl ⟨by rfl, fun w' hw' => by go_simp⟩) hH ?_
      refine wpAnyH_take (i := 3) (v := .map (some m')) rfl (by kernel_rfl) (by kernel_rfl) (by kernel_rfl) (fun _ _ _ h => h) (Or.inl ⟨by rfl, fun w' hw' => by have q1 := hw'; go_simp⟩) hH ?_
      refine wpAnyH_take (i := 4) (v := .int .i64 i) rfl (by kernel_rfl) (by kernel_rfl) (by kernel_rfl) (fun _ _ _ h => h) (Or.inl ⟨by rfl, fun w' hw' => by go_simp⟩) hH ?_
      refine wpAnyH_take (i := 5) (v := .slice (some ⟨gi, 0, none⟩) z z) rfl (by kernel_rfl) (by kernel_rfl) (by kernel_rfl) (fun _ _ _ h => h) (Or.inl ⟨by rfl, fun w' hw' => by go_simp⟩) hH ?_
      refine wpAnyH_ready (rs := [6]) (by kernel_rfl) (by simp) ?_
      refine AllReadyH.cons rfl (fun KK hKK => ?_) AllReadyH.nil
      go_simp
      refine Calls.mono (copied_any (w := wn.drew) SRC.out (by rw [hll]; omega) (by rw [hll]; omega)) ?_
      rintro e w3 ⟨rfl, r3, b3⟩
      rw [hll]
      obtain ⟨w5, hup, q3, q5, k5⟩ := PUT.out w3 r3 b3
      have K5 : Hid _ := k5
      clear PUT r3 b3 k5
      refine hKK.out _ _ q3 (fun h1 => ?_)
      clear hKK KK
      refine wpAnyH_ready (rs := [7]) (by kernel_rfl) (by simp) ?_
      refine AllReadyH.cons rfl (fun KK hKK => ?_) AllReadyH.nil
      go_simp
      refine hKK.out _ _ q5 (fun _ => ?_)
      clear hKK KK
      refine wpAnyH_done (by kernel_rfl) (NoPanic.normal ?_) _
      go_wp2_with fail
      go_roundw
      case rel => exact ⟨_, _, K5.out⟩
      case measure => rw [K5.out.rg.left_eq, HI.out.rg.left_eq]; exact HLT.out
end Go.Proofs.Ytddnecfnjnipjaa
