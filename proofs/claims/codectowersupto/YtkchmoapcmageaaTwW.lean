/-
  Whole towers, read.
-/
import Derived.Test.YtkchmoapcmageaaTwT
import Derived.Test.YtkchmoapcmageaaWhole
namespace Go.Proofs.Ytkchmoapcmageaa
open Go.RowKit

def towZ : List Value := towC false (.slice none 0 0) (List.replicate 33 0) (.slice none 0 0)
theorem towZ_one : ∀ u ∈ towZ, u.oneCell' = true := towC_one _ rfl _ rfl
theorem Try.towZsz (C : List Value) (h : C.length = towZ.length) : (Try.prog.info? 69).map (·.size) = some C.length := by rw [h]; exact Try.towSz' _ _ _ _ (by simp)
def towE (T : List Int) : Int := endE T (towerS T 0 0).at_ (towerS T 0 0).err
theorem towerS_vl (T : List Int) (a : Nat) (err : Int) : (towerS T a err).vl.length = 33 := ownS_len _ _ _ _
/-- These cells are that tower. -/
structure TowIs (w : World) (B : Nat) (S : TwS) (C : List Value) : Prop where
  ex : ∃ s kv ks, C = towC S.hd s S.vl kv ∧ (s.oneCell' = true ∧ kv.oneCell' = true) ∧ Own w s S.kl ∧ ks.map Prod.fst = S.ks ∧ ML w kv ks ∧ (∀ g, s.ownBlock = some g ∨ kv.ownBlock = some g → B ≤ g) ∧ ∀ k, k ∈ ks → ∀ g, k.2.ownBlock = some g → B ≤ g ∧ ¬ s.ownBlock = some g
theorem TowIs.kept {w w' : World} {B : Nat} {S : TwS} {C : List Value} (h : TowIs w B S C) {q : Nat} {cs : List Value} (hq : Blk w q cs 69) (c : Chg (fun k => k = q) w w') : TowIs w' B S C := by
  obtain ⟨s, kv, ks, e, ho, os, hk, ml, hn⟩ := h.ex
  have ne69 : ∀ {g : Nat} {cur : Array Value} {ty : TypeId}, w.heap[g]? = some (.cells cur ty (0, 0)) → ty ≠ 69 → ¬ g = q := fun hg hty e => by
    rw [e, hq.eq] at hg
    injection hg with hg
    injection hg with _ hg
    exact hty hg.symm
  refine ⟨s, kv, ks, e, ho, Own.kept os c (fun g hg => ?_), hk, ml.kept c (fun g cur hg => ne69 hg (by decide)) (fun g cur hg => ne69 hg (by decide)), hn⟩
  obtain ⟨cur, e2⟩ := own_block5 os hg
  exact ne69 e2 (by decide)
theorem TowIs.fresh {w w' : World} {B : Nat} {S : TwS} {C : List Value} (h : TowIs w B S C) (c : Chg (fun _ => False) w w') : TowIs w' B S C := by
  obtain ⟨s, kv, ks, e, ho, os, hk, ml, hn⟩ := h.ex
  exact ⟨s, kv, ks, e, ho, Own.kept os c (fun _ _ e => e), hk, ml.kept c (fun _ _ _ e => e) (fun _ _ _ e => e), hn⟩
theorem TowIs.mono {w : World} {B B' : Nat} {S : TwS} {C : List Value} (h : TowIs w B S C) (hB : B' ≤ B) : TowIs w B' S C := by
  obtain ⟨s, kv, ks, e, ho, os, hk, ml, hn1, hn2⟩ := h.ex
  exact ⟨s, kv, ks, e, ho, os, hk, ml, fun g hg => Nat.le_trans hB (hn1 g hg), fun k hk g hg => ⟨Nat.le_trans hB (hn2 k hk g hg).1, (hn2 k hk g hg).2⟩⟩
theorem TowIs.len {w : World} {B : Nat} {S : TwS} {C : List Value} (h : TowIs w B S C) (hv : S.vl.length = 33) : C.length = towZ.length ∧ ∀ u ∈ C, u.oneCell' = true := by
  obtain ⟨s, kv, ks, e, ho, _⟩ := h.ex
  rw [e]
  exact ⟨by rw [towC_len, hv]; rfl, towC_one _ ho.1 _ ho.2⟩

set_option maxRecDepth 100000 in
set_option maxHeartbeats 4000000 in
theorem towerWhole_any {w : World} {s : Value} {T : List Int} (h : In w s T) :
    Calls Try.prog 81 #[s, .func (.func 82) #[] #[]] w fun e w' => ∃ C, e = .returned (.tuple #[.agg C.toArray, .int .i64 (towE T)]) ∧ Below w.heap.size w w' ∧ (C.length = towZ.length ∧ ∀ u ∈ C, u.oneCell' = true) ∧ (towE T = 0 → TowIs w' w.heap.size (towerS T 0 0) C) ∧ (¬ towE T = 0 → C = towZ) := by
  obtain ⟨W0, hW0⟩ : ∃ W0, W0 = (w.alloc (.cells towZ.toArray 69)).alloc (.cells #[s, .int .i64 0, .int .i64 0] 193) := ⟨_, rfl⟩
  have hb1 : Below w.heap.size w (w.alloc (.cells towZ.toArray 69)) := (Below.refl _ _).alloc (Nat.le_refl _) _
  have hb : Below w.heap.size w W0 := by rw [hW0]; exact hb1.alloc (by simp) _
  have A0 : At W0 W0 (w.heap.size + 1) 193 s T 0 0 := by
    have := In.at h 193 hb1
    rw [World.size_alloc, ← hW0] at this
    exact this
  have B0 : Hid (Blk W0 w.heap.size towZ 69) := by rw [hW0]; exact (Blk.made w _ 69).alloc _
  have HC := tower_any A0.rp.1
  have VL := towerS_vl T 0 0
  unfold towE
  obtain ⟨S, hS⟩ : ∃ S, S = towerS T 0 0 := ⟨_, rfl⟩
  rw [← hS] at HC VL ⊢
  have HE : ∀ w', RS w' (w.heap.size + 1) 193 s T S.at_ S.err → _ := fun w' h => rEnd_any h
  obtain ⟨E, hE⟩ : ∃ E, E = endE T S.at_ S.err := ⟨_, rfl⟩
  rw [← hE]
  simp only [← hE] at HE
  rw [hW0] at HC
  have KC : Hid _ := HC
  have KE : Hid _ := HE
  have HB : Hid _ := hb
  have KA : Hid _ := A0
  have HW : Hid _ := hW0
  obtain ⟨a0, c0, hs, _⟩ := h.cap
  clear h hb1 hb A0 HC HE hE hW0 hS
  subst hs
  go_enter Try.func81, Try.ntmps81
  go_wp2_with fail
  refine Calls.mono KC.out ?_
  rintro e w1 ⟨s1, kv, ks, rfl, ho, os, hks, ml, r1, hn1, hn2⟩
  rw [← HW.out] at r1 hn1 hn2
  obtain ⟨C, hC⟩ : ∃ C, C = towC S.hd s1 S.vl kv := ⟨_, rfl⟩
  have ti : TowIs w1 w.heap.size S C := ⟨s1, kv, ks, hC, ho, os, hks, ml, fun g hg => Nat.le_trans HB.out.size (hn1 g hg), fun k hk g hg => ⟨Nat.le_trans HB.out.size (hn2 k hk g hg).1, (hn2 k hk g hg).2⟩⟩
  obtain ⟨LC, OC⟩ := ti.len VL
  have OCH : Hid _ := OC
  have TI : Hid _ := ti
  rw [← hC]
  have A1 : Hid _ := KA.out.call r1
  have B1 : Hid _ := KA.out.blk' B0.out (by omega) r1
  have D0 : Hid _ := Blk.made w1 towZ 69
  have LT1 : w.heap.size < w1.heap.size := B1.out.lt
  clear r1 KC HW KA B0 hC ho os hks ml hn1 hn2 ti OC
  go_wp2_with (refine wpList_store_part rfl 69 (.tmp 7) (.tmp 14) rfl w1.heap.size 0 C rfl rfl D0.out (by rw [LC, Nat.zero_add]; exact Nat.le_refl _) (Try.towZsz C LC) OCH.out ?_; intro w2 b2 c2; rw [splice_all _ _ LC] at b2; have D2 : Hid _ := b2; have B2 : Hid _ := (B1.out.alloc _).keep c2 (by omega); have A2 : Hid _ := (A1.out.alloc _).chg c2 A1.out.rp.2.size; have T2 : Hid _ := (TI.out.fresh ((Chg.refl (fun _ => False) w1).alloc _)).kept D0.out c2; clear b2 c2 D0)
  refine Calls.mono (KE.out _ A2.out.rp.1) ?_
  rintro e w3 ⟨rfl, n, rfl⟩
  have A3 : Hid _ := At.drewN A2.out n
  have D3 : Hid _ := Blk.drewN D2.out n
  have B3 : Hid _ := Blk.drewN B2.out n
  have T3 : Hid _ := T2.out.fresh (drewN_chg w2 n (fun _ => False))
  obtain ⟨w3, hw3⟩ : ∃ w3, w3 = w2.drewN n := ⟨_, rfl⟩
  rw [← hw3] at A3 D3 B3 T3 ⊢
  clear hw3 A1 A2 D2 B2 B1 KE T2 TI
  by_cases he : E = 0
  · subst he
    go_wp2_with (first | (refine wpList_load_part rfl 69 (.tmp 7) rfl w1.heap.size 0 C rfl D3.out (by simp) Try.underlying69 rfl (Try.towZsz C LC) ?_) | (refine wpList_store_part rfl 69 (.tmp 4) (.tmp 21) rfl w.heap.size 0 C rfl rfl B3.out (by rw [LC, Nat.zero_add]; exact Nat.le_refl _) (Try.towZsz C LC) OCH.out ?_; intro w4 b4 c4; rw [splice_all _ _ LC] at b4; have B4 : Hid _ := b4; have F4 : Hid _ := below_chg1 (A3.out.done HB.out (by omega)) c4 (A3.out.done HB.out (by omega)).size (Nat.le_refl _); have T4 : Hid _ := T3.out.kept B3.out c4; clear b4 c4))
    exact bodyPost_ret (results_row2 rfl _ _ w.heap.size 69 C _ _ rfl B4.out Try.underlying69 rfl (Try.towZsz C LC) rfl) rfl ⟨C, rfl, F4.out, ⟨LC, OCH.out⟩, by first | exact T4.out | exact ⟨T4.out, fun e => absurd rfl e⟩ | exact ⟨fun _ => T4.out, fun e => absurd rfl e⟩ | exact ⟨T4.out, trivial⟩⟩
  · have D4 : Hid _ := Blk.made w3 towZ 69
    have B4 : Hid _ := B3.out.alloc (.cells towZ.toArray 69)
    have F3 : Hid _ := A3.out.done HB.out (by omega)
    go_wp2_with (first | (refine wpList_load_part rfl 69 (.tmp 9) rfl w3.heap.size 0 towZ rfl D4.out (by simp) Try.underlying69 rfl (Try.towZsz _ rfl) ?_) | (refine wpList_store_part rfl 69 (.tmp 4) (.tmp 19) rfl w.heap.size 0 towZ rfl rfl B4.out (Nat.le_of_eq (Nat.zero_add _)) (Try.towZsz _ rfl) towZ_one ?_; intro w4 b4 c4; rw [splice_all _ _ rfl] at b4; have B5 : Hid _ := b4; have F4 : Hid _ := below_chg1 (Below.alloc F3.out F3.out.size _) c4 (Nat.le_trans F3.out.size (by simp)) (Nat.le_refl _); clear b4 c4))
    exact bodyPost_ret (results_row2 rfl _ _ w.heap.size 69 towZ _ _ rfl B5.out Try.underlying69 rfl (Try.towZsz _ rfl) rfl) rfl ⟨towZ, rfl, F4.out, ⟨rfl, towZ_one⟩, fun e => absurd e he, fun _ => rfl⟩

set_option maxRecDepth 100000 in
set_option maxHeartbeats 2000000 in
theorem towerCode_any {w : World} {s : Value} {T : List Int} (h : In w s T) :
    Calls Try.prog 25 #[s] w fun e w' => ∃ C, e = .returned (.tuple #[.agg C.toArray, .int .i64 (towE T)]) ∧ Below w.heap.size w w' ∧ (C.length = towZ.length ∧ ∀ u ∈ C, u.oneCell' = true) ∧ (towE T = 0 → TowIs w' w.heap.size (towerS T 0 0) C) ∧ (¬ towE T = 0 → C = towZ) := by
  have HC := towerWhole_any (In.alloc h (.cells towZ.toArray 69))
  have B0 := Blk.made w towZ 69
  obtain ⟨S, hS⟩ : ∃ S, S = towerS T 0 0 := ⟨_, rfl⟩
  obtain ⟨E, hE⟩ : ∃ E, E = towE T := ⟨_, rfl⟩
  rw [← hS, ← hE] at HC ⊢
  have KC : Hid _ := HC
  have KB : Hid _ := B0
  obtain ⟨a0, c0, hs, _⟩ := h.cap
  clear h HC B0 hS hE
  subst hs
  go_enter Try.func25, Try.ntmps25
  go_wp2_with fail
  refine Calls.mono KC.out ?_
  rintro e w1 ⟨C, rfl, b1, ⟨LA, OA⟩, ti, tz⟩
  have OAH : Hid _ := OA
  have TI : Hid _ := ti
  have TZ : Hid _ := tz
  have B1 : Hid _ := KB.out.keep0 b1
  have F1 : Hid (Below w.heap.size w w1) := ((Below.refl _ _).alloc (Nat.le_refl _) _).trans (b1.mono (by simp))
  clear b1 KC KB ti OA tz
  go_wp2_with (refine wpList_store_part rfl 69 (.tmp 2) (.tmp 6) rfl w.heap.size 0 C rfl rfl B1.out (by rw [LA, Nat.zero_add]; exact Nat.le_refl _) (Try.towZsz C LA) OAH.out ?_; intro w4 b4 c4; rw [splice_all _ _ LA] at b4; have B4 : Hid _ := b4; have F4 : Hid _ := below_chg1 F1.out c4 F1.out.size (Nat.le_refl _); have T4 : Hid (E = 0 → TowIs w4 w.heap.size S C) := fun e => ((TI.out e).mono (by simp)).kept B1.out c4; clear b4 c4)
  exact bodyPost_ret (results_row2 rfl _ _ w.heap.size 69 C _ _ rfl B4.out Try.underlying69 rfl (Try.towZsz C LA) rfl) rfl ⟨C, rfl, F4.out, ⟨LA, OAH.out⟩, T4.out, TZ.out⟩
end Go.Proofs.Ytkchmoapcmageaa
