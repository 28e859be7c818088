/-
  The reading of a tower.
-/
import Derived.Test.YtjmeaebehndheaaMsA
import Derived.Deep.Cut
import Derived.Deep.CutRange
namespace Go.Proofs.Ytjmeaebehndheaa
open Go.RowKit

/-- A tower's cells. -/
def towC (hd : Bool) (s : Value) (vl : List Int) (kv : Value) : List Value := .bool hd :: s :: (bs vl ++ [kv])
theorem towC_len (hd : Bool) (s : Value) (vl : List Int) (kv : Value) : (towC hd s vl kv).length = vl.length + 3 := by simp [towC, bs]
theorem towC_one (hd : Bool) {s kv : Value} (hs : s.oneCell' = true) (vl : List Int) (hk : kv.oneCell' = true) : ∀ u ∈ towC hd s vl kv, u.oneCell' = true := by
  intro u hu
  simp only [towC, List.mem_cons, List.mem_append, List.not_mem_nil, or_false] at hu
  rcases hu with rfl | rfl | hu | rfl
  · rfl
  · exact hs
  · exact bs_one _ u hu
  · exact hk
theorem Try.size69' : (Try.prog.info? 69).map (·.size) = some 36 := by kernel_rfl
theorem Try.towSz' (hd : Bool) (s : Value) (vl : List Int) (kv : Value) (h : vl.length = 33) : (Try.prog.info? 69).map (·.size) = some (towC hd s vl kv).length := by rw [Try.size69', towC_len, h]
theorem towC_put (hd : Bool) (s : Value) (u x : List Int) (kv : Value) (h : x.length = u.length) : splice (towC hd s u kv) 2 (bs x) = towC hd s x kv := by
  unfold splice towC
  simp [bs, h, Nat.add_comm 2]
theorem towC_kids (hd : Bool) (s : Value) (vl : List Int) (kv kv' : Value) (h : vl.length = 33) : (towC hd s vl kv).set 35 kv' = towC hd s vl kv' := by
  unfold towC
  simp only [List.set_cons_succ]
  rw [List.set_append_right _ _ (by rw [bs_len]; omega), bs_len, h]
  rfl
theorem towC_at (hd : Bool) (s : Value) (vl : List Int) (kv : Value) (h : vl.length = 33) : (towC hd s vl kv)[35]? = some kv := by
  show (bs vl ++ [kv])[33]? = _
  rw [List.getElem?_append_right (by rw [bs_len]; omega), bs_len, h]
  rfl

/-- A tower's own part: its key, its value, how far, what went wrong. -/
def ownS (T : List Int) (a : Nat) (err : Int) (hd : Bool) : List Int × List Int × Nat × Int :=
  if hd then ([], List.replicate 33 0, a, err) else ((textS T a err 1024).1, pad 33 (pL T (textS T a err 1024).2.1 (textS T a err 1024).2.2 33), pA T (textS T a err 1024).2.1 (textS T a err 1024).2.2 33, pE T (textS T a err 1024).2.1 (textS T a err 1024).2.2 33)
theorem ownS_len (T : List Int) (a : Nat) (err : Int) (hd : Bool) : (ownS T a err hd).2.1.length = 33 := by
  unfold ownS
  split
  · simp
  · exact pad_len (pL_len T _ _ 33)
/-- What reading a tower gives. -/
structure TwS where
  hd : Bool
  kl : List Int
  vl : List Int
  ks : List KS
  at_ : Nat
  err : Int
def towerS (T : List Int) (a : Nat) (err : Int) : TwS :=
  let F := flagS T a err
  let O := ownS T F.2.1 F.2.2 F.1
  let U := uintS T O.2.2.1 O.2.2.2 24
  let M := manyS T U.1 U.2.1 U.2.2
  ⟨F.1, O.1, O.2.1, M.1, M.2.1, M.2.2⟩
theorem uintS_most (T : List Int) (a : Nat) (err : Int) (m : Nat) : (uintS T a err m).1 ≤ m := by
  unfold uintS
  split
  · split
    split
    · split
      · exact Nat.zero_le _
      · omega
    · exact Nat.zero_le _
  · exact Nat.zero_le _

set_option maxRecDepth 100000 in
set_option maxHeartbeats 4000000 in
theorem tower_any {w : World} {p : Nat} {tv : Value} {T : List Int} {a : Nat} {err : Int} (h : RS w p 195 tv T a err) :
    Calls Try.prog 82 #[.pointer (some ⟨p, 0, none⟩)] w fun e w' => ∃ s kv ks, e = .returned (.agg (towC (towerS T a err).hd s (towerS T a err).vl kv).toArray) ∧ (s.oneCell' = true ∧ kv.oneCell' = true) ∧ Own w' s (towerS T a err).kl ∧ ks.map Prod.fst = (towerS T a err).ks ∧ ML w' kv ks ∧ RP w w' p 195 tv T (towerS T a err).at_ (towerS T a err).err ∧ (∀ g, s.ownBlock = some g ∨ kv.ownBlock = some g → w.heap.size ≤ g) ∧ ∀ k, k ∈ ks → ∀ g, k.2.ownBlock = some g → w.heap.size ≤ g ∧ ¬ s.ownBlock = some g := by
  unfold towerS
  have A0 := At.start h
  have hlt := h.lt
  clear h
  obtain ⟨hd, a1, e1, hF⟩ : ∃ hd a1 e1, flagS T a err = (hd, a1, e1) := ⟨_, _, _, rfl⟩
  have C1 : ∀ w', RS w' p 195 tv T a err → _ := fun w' h => rFlag_any h
  simp only [hF] at C1 ⊢
  obtain ⟨kb, vl, a2, e2, hO⟩ : ∃ kb vl a2 e2, ownS T a1 e1 hd = (kb, vl, a2, e2) := ⟨_, _, _, _, rfl⟩
  have HV : vl.length = 33 := by have := ownS_len T a1 e1 hd; rwa [hO] at this
  simp only [hO]
  obtain ⟨U, a3, e3, hU⟩ : ∃ U a3 e3, uintS T a2 e2 24 = (U, a3, e3) := ⟨_, _, _, rfl⟩
  have hU24 : U ≤ 24 := by have := uintS_most T a2 e2 24; rwa [hU] at this
  have C3 : ∀ w', RS w' p 195 tv T a2 e2 → _ := fun w' h => rUint_any h 24 (by decide)
  simp only [hU] at C3 ⊢
  have C4 : ∀ w', RS w' p 195 tv T a3 e3 → _ := fun w' h => many_any h U (by omega)
  obtain ⟨mk, a4, e4, hM⟩ : ∃ mk a4 e4, manyS T U a3 e3 = (mk, a4, e4) := ⟨_, _, _, rfl⟩
  simp only [hM] at C4 ⊢
  obtain ⟨Z, hZ⟩ : ∃ Z, Z = towC false (.slice none 0 0) (List.replicate 33 0) (.slice none 0 0) := ⟨_, rfl⟩
  obtain ⟨W0, hW0⟩ : ∃ W0, W0 = (w.alloc (.cells Z.toArray 69)).alloc (.cells Z.toArray 69) := ⟨_, rfl⟩
  have A1 : Hid (At w W0 p 195 tv T a err) := by rw [hW0]; exact (A0.alloc _).alloc _
  have B1 : Hid (Blk W0 w.heap.size Z 69) := by rw [hW0]; exact (Blk.made w _ 69).alloc _
  have B2 : Hid (Blk W0 (w.heap.size + 1) Z 69) := by
    rw [hW0]
    have := Blk.made (w.alloc (.cells Z.toArray 69)) Z 69
    rwa [World.size_alloc] at this
  have SZ : W0.heap.size = w.heap.size + 2 := by rw [hW0]; simp
  have HC : Hid _ := C1 W0 A1.out.rp.1
  rw [hW0, hZ] at HC
  have H3 : Hid _ := C3
  have H4 : Hid _ := C4
  have HW : Hid _ := hW0
  have HZ : Hid _ := hZ
  have HO : Hid _ := hO
  have SZ0 : Hid _ := SZ
  have ZL : Hid (Z.length = 36) := by rw [hZ]; rfl
  clear A0 C1 C3 C4 hW0 SZ hF hO hU hM hZ
  go_enter Try.func82, Try.ntmps82
  go_wp2_with fail
  refine Calls.mono HC.out ?_
  rintro e w1 ⟨rfl, r1⟩
  rw [← HZ.out, ← HW.out] at r1
  have s1 : w.heap.size + 2 ≤ w1.heap.size := by have := r1.2.size; have := SZ0.out; omega
  have A2 : Hid _ := A1.out.call r1
  have D1 : Hid _ := A1.out.blk B1.out (Nat.le_refl _) r1
  have D2 : Hid _ := A1.out.blk B2.out (Nat.le_succ _) r1
  have hc : w1.cell? ⟨w.heap.size + 1, 0, none⟩ = some (.bool false) := by rw [D2.out.cell, HZ.out]; rfl
  have hf : w1.frozen? ⟨w.heap.size + 1, 0, none⟩ = false := D2.out.fr 0
  clear r1 HC HW A1 B1 B2
  have A3 : Hid _ := A2.out.set (g := w.heap.size + 1) (Nat.le_succ _) 0 (.bool hd)
  have E2 : Hid (Blk (w1.setCell ⟨w.heap.size + 1, 0, none⟩ (.bool hd)) (w.heap.size + 1) (towC hd (.slice none 0 0) (List.replicate 33 0) (.slice none 0 0)) 69) := by
    have h9 := D2.out.set 0 (.bool hd)
    rw [HZ.out] at h9
    exact h9
  have E1 : Hid _ := D1.out.keep ((Chg.refl (fun k => k = w.heap.size + 1) w1).setCell (p := ⟨w.heap.size + 1, 0, none⟩) (.inl rfl) (.bool hd)) (by omega)
  obtain ⟨wa, hwa⟩ : ∃ wa, wa = w1.setCell ⟨w.heap.size + 1, 0, none⟩ (.bool hd) := ⟨_, rfl⟩
  have hwa' : w1.setCell ⟨w.heap.size + 1, 0, none⟩ (.bool hd) = wa := hwa.symm
  rw [hwa'] at A3 E2 E1
  have sa : w.heap.size + 2 ≤ wa.heap.size := by rw [hwa]; simp; omega
  have ka : wa.cell? ⟨w.heap.size + 1, 0, none⟩ = some (.bool hd) := E2.out.cell 0
  clear hwa
  go_upto_if 9 with fail
  clear hwa' hc hf A2 D1 D2
  go_cut [] from 4 (fun wx => Hid (∃ s, At w wx p 195 tv T a2 e2 ∧ Blk wx w.heap.size Z 69 ∧ Blk wx (w.heap.size + 1) (towC hd s vl (.slice none 0 0)) 69 ∧ Own wx s kb ∧ s.oneCell' = true ∧ ∀ g, s.ownBlock = some g → w.heap.size + 2 ≤ g))
  case first =>
    cases hd with
    | true =>
      have F : Hid (∃ s, At w wa p 195 tv T a2 e2 ∧ Blk wa w.heap.size Z 69 ∧ Blk wa (w.heap.size + 1) (towC true s vl (.slice none 0 0)) 69 ∧ Own wa s kb ∧ s.oneCell' = true ∧ ∀ g, s.ownBlock = some g → w.heap.size + 2 ≤ g) := by
        have h9 := HO.out
        simp only [ownS, if_true, Prod.mk.injEq] at h9
        obtain ⟨h9a, h9b, h9c, h9d⟩ := h9
        rw [← h9a, ← h9b, ← h9c, ← h9d]
        exact ⟨.slice none 0 0, A3.out, E1.out, E2.out, Own.nil _, rfl, fun g hg => by simp [Value.ownBlock] at hg⟩
      go_wp2_with fail
      go_meet
      case rel => exact F.out
    | false =>
      have h9 := HO.out
      simp only [ownS, Bool.false_eq_true, if_false, Prod.mk.injEq] at h9
      obtain ⟨h9a, h9b, h9c, h9d⟩ := h9
      have HQ : Hid _ := (⟨h9a, h9b, h9c, h9d⟩ : _ ∧ _ ∧ _ ∧ _)
      clear h9a h9b h9c h9d
      go_wp2_with fail
      refine Calls.mono (rKey_any A3.out.rp.1) ?_
      rintro e w2 ⟨s, rfl, o2, r2, hs2⟩
      obtain ⟨sc1, sc2, hsf⟩ := Own.form o2
      have hs3 : ∀ k, s.ownBlock = some k → w.heap.size + 2 ≤ k := fun k hk => by have h9 := hs2 k hk; omega
      have HS : Hid _ := hs3
      have O2 : Hid _ := o2
      have HSF : Hid _ := hsf
      have A4 : Hid _ := A3.out.call r2
      have F1 : Hid _ := A3.out.blk E1.out (Nat.le_refl _) r2
      have F2 : Hid _ := A3.out.blk E2.out (Nat.le_succ _) r2
      rw [hsf]
      obtain ⟨n, hn⟩ : ∃ n, n = (textS T a1 e1 1024).1.length := ⟨_, rfl⟩
      rw [← hn] at HSF ⊢
      have hc2 : w2.cell? ⟨w.heap.size + 1, 1, none⟩ = some (.slice none 0 0) := F2.out.cell 1
      have hf2 : w2.frozen? ⟨w.heap.size + 1, 1, none⟩ = false := F2.out.fr 1
      clear hsf o2 r2 hs2 hs3 ka A3 E1 E2 hn
      go_wp2_with fail
      have G0 : Hid (Chg (fun k => k = w.heap.size + 1) w2 (w2.setCell ⟨w.heap.size + 1, 1, none⟩ (.slice sc1 n sc2))) := (Chg.refl (fun k => k = w.heap.size + 1) w2).setCell (p := ⟨w.heap.size + 1, 1, none⟩) (.inl rfl) _
      have A5 : Hid _ := A4.out.set (g := w.heap.size + 1) (Nat.le_succ _) 1 (.slice sc1 n sc2)
      have G2 : Hid (Blk (w2.setCell ⟨w.heap.size + 1, 1, none⟩ (.slice sc1 n sc2)) (w.heap.size + 1) (towC false (.slice sc1 n sc2) (List.replicate 33 0) (.slice none 0 0)) 69) := F2.out.set 1 (.slice sc1 n sc2)
      have G1 : Hid _ := F1.out.keep G0.out (by omega)
      have O3 : Hid _ := Own.kept O2.out G0.out (fun k hk e => by have := HS.out k hk; omega)
      refine Calls.mono (rAddr_any A5.out.rp.1) ?_
      rintro e w3 ⟨rfl, r3⟩
      obtain ⟨x, hx⟩ : ∃ x, x = pad 33 (pL T (textS T a1 e1 1024).2.1 (textS T a1 e1 1024).2.2 33) := ⟨_, rfl⟩
      have HX : x.length = 33 := by rw [hx]; exact pad_len (pL_len T _ _ 33)
      rw [← hx] at HQ ⊢
      have A6 : Hid _ := A5.out.call r3
      have J1 : Hid _ := A5.out.blk G1.out (Nat.le_refl _) r3
      have J2 : Hid _ := A5.out.blk G2.out (Nat.le_succ _) r3
      have O4 : Hid _ := Own.kept O3.out r3.2 (fun k hk e => by have := HS.out k hk; omega)
      clear r3 hc2 hf2 G0 A4 A5 F1 F2 G1 G2 O2 O3 hx
      go_wp2_with (refine wpList_store_part rfl 33 (.tmp 17) (.tmp 16) rfl (w.heap.size + 1) 2 (bs x) rfl rfl J2.out (by simp [towC, bs, HX]) (Try.addrSz x HX) (bs_one x) ?_; intro w5 b5 c5; rw [towC_put _ _ _ _ _ (by simp [HX])] at b5; have N2 : Hid _ := b5; have N1 : Hid _ := J1.out.keep c5 (by omega); have A9 : Hid _ := A6.out.chg c5 (Nat.le_succ _); have O7 : Hid _ := Own.kept O4.out c5 (fun k hk e => by have := HS.out k hk; omega); clear b5 c5 J1 J2 O4)
      go_meet
      case rel =>
        obtain ⟨h9a, h9b, h9c, h9d⟩ := HQ.out
        rw [← h9a, ← h9b, ← h9c, ← h9d]
        refine ⟨.slice sc1 n sc2, A9.out, N1.out, N2.out, ?_, rfl, fun g hg => HS.out g (by rw [HSF.out]; exact hg)⟩
        have h8 := O7.out
        rw [HSF.out] at h8
        exact h8
  case rest =>
    obtain ⟨s, at3, b1, b2, os, so, hs⟩ := hcut.out
    clear hcut
    have AT : Hid _ := at3
    have B1 : Hid _ := b1
    have B2 : Hid _ := b2
    have OS : Hid _ := os
    have SO : Hid _ := so
    have HS : Hid _ := hs
    clear at3 b1 b2 os so hs
    go_wp2_with fail
    refine Calls.mono (H3.out _ AT.out.rp.1) ?_
    rintro e w4 ⟨rfl, r4⟩
    have A4 : Hid _ := AT.out.call r4
    have D1 : Hid _ := AT.out.blk B1.out (Nat.le_refl _) r4
    have D2 : Hid _ := AT.out.blk B2.out (Nat.le_succ _) r4
    have O4 : Hid _ := Own.kept OS.out r4.2 (fun k hk e => by have := HS.out k hk; omega)
    have z4 : Hid (w.heap.size + 2 ≤ w4.heap.size) := D2.out.lt
    clear r4 AT B1 B2 OS H3
    go_wp2_with fail
    refine Calls.mono (H4.out _ A4.out.rp.1) ?_
    rintro e w5 ⟨kv, ks, rfl, hks, ml, r5, hnv, hnk⟩
    obtain ⟨va, vc, hvf⟩ := ml.form
    have A5 : Hid _ := A4.out.call r5
    have E1 : Hid _ := A4.out.blk D1.out (Nat.le_refl _) r5
    have E2 : Hid _ := A4.out.blk D2.out (Nat.le_succ _) r5
    have O5 : Hid _ := Own.kept O4.out r5.2 (fun k hk e => by have := HS.out k hk; omega)
    have HVF : Hid _ := hvf
    have MLH : Hid _ := ml
    have HKS : Hid _ := hks
    have hnv2 : ∀ g, kv.ownBlock = some g → w.heap.size ≤ g := fun g hg => by have := hnv g hg; have := z4.out; omega
    have hnk2 : ∀ k, k ∈ ks → ∀ g, k.2.ownBlock = some g → w.heap.size ≤ g ∧ ¬ s.ownBlock = some g := fun k hk g hg => ⟨by have := hnk k hk g hg; have := z4.out; omega, fun e => by have := hnk k hk g hg; have := Own.lt O4.out e; omega⟩
    have HNV : Hid _ := hnv2
    have HNK : Hid _ := hnk2
    obtain ⟨m, hm⟩ : ∃ m, m = ks.length := ⟨_, rfl⟩
    rw [hvf]
    rw [← hm] at HVF ⊢
    have hc5 : w5.cell? ⟨w.heap.size + 1, 35, none⟩ = some (.slice none 0 0) := by rw [E2.out.cell]; exact towC_at _ _ _ _ HV
    have hf5 : w5.frozen? ⟨w.heap.size + 1, 35, none⟩ = false := E2.out.fr 35
    have c6 : Chg (fun k => k = w.heap.size + 1) w5 (w5.setCell ⟨w.heap.size + 1, 35, none⟩ (.slice va m vc)) := (Chg.refl (fun k => k = w.heap.size + 1) w5).setCell (p := ⟨w.heap.size + 1, 35, none⟩) (.inl rfl) _
    have b6 : Blk (w5.setCell ⟨w.heap.size + 1, 35, none⟩ (.slice va m vc)) (w.heap.size + 1) (towC hd s vl (.slice va m vc)) 69 := by
      have h9 := E2.out.set 35 (.slice va m vc)
      rw [towC_kids _ _ _ _ _ HV] at h9
      exact h9
    obtain ⟨w6, hw6⟩ : ∃ w6, w6 = w5.setCell ⟨w.heap.size + 1, 35, none⟩ (.slice va m vc) := ⟨_, rfl⟩
    have hw6' : w5.setCell ⟨w.heap.size + 1, 35, none⟩ (.slice va m vc) = w6 := hw6.symm
    rw [hw6'] at c6 b6
    have ne69 : ∀ {w' : World} {g q : Nat} {cur : Array Value} {cs : List Value} {ty : TypeId}, Blk w' q cs 69 → w'.heap[g]? = some (.cells cur ty (0, 0)) → ty ≠ 69 → ¬ g = q := fun hb hg hty e => by
      rw [e, hb.eq] at hg
      injection hg with hg
      injection hg with _ hg
      exact hty hg.symm
    have F1 : Hid _ := E1.out.keep c6 (by omega)
    have F2 : Hid _ := b6
    have A6 : Hid _ := A5.out.chg c6 (Nat.le_succ _)
    have O6 : Hid _ := Own.kept O5.out c6 (fun k hk e => by have := HS.out k hk; omega)
    have M6 : Hid _ := MLH.out.kept c6 (fun g cur hg => ne69 E2.out hg (by decide)) (fun g cur hg => ne69 E2.out hg (by decide))
    have NE : Hid _ := @ne69
    clear hw6 c6 b6 ml r5 hnv hnk hnv2 hnk2 hks hvf hm A4 A5 D1 D2 E1 E2 O4 O5 MLH H4 ne69
    go_wp2_with (first
      | (refine wpList_load_part rfl 69 (.tmp 3) rfl (w.heap.size + 1) 0 (towC hd s vl (.slice va m vc)) rfl F2.out (by simp) Try.underlying69 rfl (Try.towSz' _ _ _ _ HV) ?_)
      | (refine wpList_store_part rfl 69 (.tmp 2) (.tmp 25) rfl w.heap.size 0 (towC hd s vl (.slice va m vc)) rfl rfl F1.out (by rw [ZL.out]; simp [towC, bs, HV]) (Try.towSz' _ _ _ _ HV) (towC_one _ SO.out _ rfl) ?_; intro w8 b8 c8; rw [splice_all _ _ (by rw [ZL.out]; simp [towC, bs, HV])] at b8; have R1 : Hid _ := b8; have A8 : Hid _ := A6.out.chg c8 (Nat.le_refl _); have O8 : Hid _ := Own.kept O6.out c8 (fun k hk e => by have := HS.out k hk; omega); have M8 : Hid _ := M6.out.kept c8 (fun g cur hg => NE.out F1.out hg (by decide)) (fun g cur hg => NE.out F1.out hg (by decide)); clear b8 c8))
    refine bodyPost_ret (v := .agg (towC hd s vl (.slice va m vc)).toArray) (results_row1 rfl _ _ w.heap.size 69 _ _ _ rfl R1.out.eq Try.underlying69 rfl (Try.towSz' _ _ _ _ HV)) rfl ⟨s, .slice va m vc, ks, rfl, ⟨SO.out, rfl⟩, O8.out, HKS.out, ?_, A8.out.rp, fun g hg => ?_, HNK.out⟩
    · have h9 := M8.out
      rw [HVF.out] at h9
      exact h9
    · rcases hg with hg | hg
      · have := HS.out g hg
        omega
      · exact HNV.out g (by rw [HVF.out]; exact hg)
end Go.Proofs.Ytjmeaebehndheaa
