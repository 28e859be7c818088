import Derived.Test.YtjmeaebehndheaaTwT
import Derived.Test.YtjmeaebehndheaaWhole
import Derived.Test.YtjmeaebehndheaaPrS
/-
  Whole towers, read.
-/
namespace Go.Proofs.Ytjmeaebehndheaa
open Go.RowKit

def towZ : List Value := towC false (.slice none 0 0) (List.replicate 33 0) (.slice none 0 0)
theorem towZ_one : ∀ u ∈ towZ, u.oneCell' = true := towC_one _ rfl _ rfl
theorem Try.towZsz (C : List Value) (h : C.length = towZ.length) : (Try.prog.info? 69).map (·.size) = some C.length := by rw [h]; exact Try.towSz' _ _ _ _ (by simp)
def towE (T : List Int) : Int := endE T (towerS T 0 0).at_ (towerS T 0 0).err
theorem towerS_vl (T : List Int) (a : Nat) (err : Int) : (towerS T a err).vl.length = 33 := ownS_len _ _ _ _
/-- These cells are that tower. -/
structure TowIs (w : World) (B : Nat) (S : TwS) (C : List Value) : Prop where
  ex : ∃ s kv ks, C = towC S.hd s S.vl kv ∧ (s.oneCell' = true ∧ kv.oneCell' = true) ∧ Own w s S.kl ∧ ks.map Prod.fst = S.ks ∧ ML w kv ks ∧ (∀ g, s.ownBlock = some g ∨ kv.ownBlock = some g → B ≤ g) ∧ ∀ k, k ∈ ks → ∀ g, k.2.ownBlock = some g → B ≤ g ∧ ¬ s.ownBlock = some g
theorem TowIs.kept {w w' : World} {B : Nat} {S : TwS} {C : List Value} (h : TowIs w B S C) {q : Nat} {cs : List Value} (hq : Blk w q cs 69) (c : Chg (fun k => k = q) w w') : TowIs w' B S C := by
  obtain ⟨s, kv, ks, e, ho, os, hk, ml, hn⟩ := h.ex
  have ne69 : ∀ {g : Nat} {cur : Array Value} {ty : TypeId}, w.heap[g]? = some (.cells cur ty (0, 0)) → ty ≠ 69 → ¬ g = q := fun hg hty e => by
    rw [e, hq.eq] at hg
    injection hg with hg
    injection hg with _ hg
    exact hty hg.symm
  refine ⟨s, kv, ks, e, ho, Own.kept os c (fun g hg => ?_), hk, ml.kept c (fun g cur hg => ne69 hg (by decide)) (fun g cur hg => ne69 hg (by decide)), hn⟩
  obtain ⟨cur, e2⟩ := own_block5 os hg
  exact ne69 e2 (by decide)
theorem TowIs.fresh {w w' : World} {B : Nat} {S : TwS} {C : List Value} (h : TowIs w B S C) (c : Chg (fun _ => False) w w') : TowIs w' B S C := by
  obtain ⟨s, kv, ks, e, ho, os, hk, ml, hn⟩ := h.ex
  exact ⟨s, kv, ks, e, ho, Own.kept os c (fun _ _ e => e), hk, ml.kept c (fun _ _ _ e => e) (fun _ _ _ e => e), hn⟩
theorem TowIs.mono {w : World} {B B' : Nat} {S : TwS} {C : List Value} (h : TowIs w B S C) (hB : B' ≤ B) : TowIs w B' S C := by
  obtain ⟨s, kv, ks, e, ho, os, hk, ml, hn1, hn2⟩ := h.ex
  exact ⟨s, kv, ks, e, ho, os, hk, ml, fun g hg => Nat.le_trans hB (hn1 g hg), fun k hk g hg => ⟨Nat.le_trans hB (hn2 k hk g hg).1, (hn2 k hk g hg).2⟩⟩
theorem TowIs.len {w : World} {B : Nat} {S : TwS} {C : List Value} (h : TowIs w B S C) (hv : S.vl.length = 33) : C.length = towZ.length ∧ ∀ u ∈ C, u.oneCell' = true := by
  obtain ⟨s, kv, ks, e, ho, _⟩ := h.ex
  rw [e]
  exact ⟨by rw [towC_len, hv]; rfl, towC_one _ ho.1 _ ho.2⟩

set_option maxRecDepth 100000 in
set_option maxHeartbeats 4000000 in
theorem towerWhole_any {w : World} {s : Value} {T : List Int} (h : In w s T) :
    Calls Try.prog 81 #[s, .func (.func 82) #[] #[]] w fun e w' => ∃ C, e = .returned (.tuple #[.agg C.toArray, .int .i64 (towE T)]) ∧ Below w.heap.size w w' ∧ (C.length = towZ.length ∧ ∀ u ∈ C, u.oneCell' = true) ∧ (towE T = 0 → TowIs w' w.heap.size (towerS T 0 0) C) ∧ (¬ towE T = 0 → C = towZ) := by
  obtain ⟨W0, hW0⟩ : ∃ W0, W0 = (w.alloc (.cells towZ.toArray 69)).alloc (.cells #[s, .int .i64 0, .int .i64 0] 195) := ⟨_, rfl⟩
  have hb1 : Below w.heap.size w (w.alloc (.cells towZ.toArray 69)) := (Below.refl _ _).alloc (Nat.le_refl _) _
  have hb : Below w.heap.size w W0 := by rw [hW0]; exact hb1.alloc (by simp) _
  have A0 : At W0 W0 (w.heap.size + 1) 195 s T 0 0 := by
    have := In.at h 195 hb1
    rw [World.size_alloc, ← hW0] at this
    exact this
  have B0 : Hid (Blk W0 w.heap.size towZ 69) := by rw [hW0]; exact (Blk.made w _ 69).alloc _
  have HC := tower_any A0.rp.1
  have VL := towerS_vl T 0 0
  unfold towE
  obtain ⟨S, hS⟩ : ∃ S, S = towerS T 0 0 := ⟨_, rfl⟩
  rw [← hS] at HC VL ⊢
  have HE : ∀ w', RS w' (w.heap.size + 1) 195 s T S.at_ S.err → _ := fun w' h => rEnd_any h
  obtain ⟨E, hE⟩ : ∃ E, E = endE T S.at_ S.err := ⟨_, rfl⟩
  rw [← hE]
  simp only [← hE] at HE
  rw [hW0] at HC
  have KC : Hid _ := HC
  have KE : Hid _ := HE
  have HB : Hid _ := hb
  have KA : Hid _ := A0
  have HW : Hid _ := hW0
  obtain ⟨a0, c0, hs, _⟩ := h.cap
  clear h hb1 hb A0 HC HE hE hW0 hS
  subst hs
  go_enter Try.func81, Try.ntmps81
  go_wp2_with fail
  refine Calls.mono KC.out ?_
  rintro e w1 ⟨s1, kv, ks, rfl, ho, os, hks, ml, r1, hn1, hn2⟩
  rw [← HW.out] at r1 hn1 hn2
  obtain ⟨C, hC⟩ : ∃ C, C = towC S.hd s1 S.vl kv := ⟨_, rfl⟩
  have ti : TowIs w1 w.heap.size S C := ⟨s1, kv, ks, hC, ho, os, hks, ml, fun g hg => Nat.le_trans HB.out.size (hn1 g hg), fun k hk g hg => ⟨Nat.le_trans HB.out.size (hn2 k hk g hg).1, (hn2 k hk g hg).2⟩⟩
  obtain ⟨LC, OC⟩ := ti.len VL
  have OCH : Hid _ := OC
  have TI : Hid _ := ti
  rw [← hC]
  have A1 : Hid _ := KA.out.call r1
  have B1 : Hid _ := KA.out.blk' B0.out (by omega) r1
  have D0 : Hid _ := Blk.made w1 towZ 69
  have LT1 : w.heap.size < w1.heap.size := B1.out.lt
  clear r1 KC HW KA B0 hC ho os hks ml hn1 hn2 ti OC
  go_wp2_with (refine wpList_store_part rfl 69 (.tmp 7) (.tmp 14) rfl w1.heap.size 0 C rfl rfl D0.out (by rw [LC, Nat.zero_add]; exact Nat.le_refl _) (Try.towZsz C LC) OCH.out ?_; intro w2 b2 c2; rw [splice_all _ _ LC] at b2; have D2 : Hid _ := b2; have B2 : Hid _ := (B1.out.alloc _).keep c2 (by omega); have A2 : Hid _ := (A1.out.alloc _).chg c2 A1.out.rp.2.size; have T2 : Hid _ := (TI.out.fresh ((Chg.refl (fun _ => False) w1).alloc _)).kept D0.out c2; clear b2 c2 D0)
  refine Calls.mono (KE.out _ A2.out.rp.1) ?_
  rintro e w3 ⟨rfl, n, rfl⟩
  have A3 : Hid _ := At.drewN A2.out n
  have D3 : Hid _ := Blk.drewN D2.out n
  have B3 : Hid _ := Blk.drewN B2.out n
  have T3 : Hid _ := T2.out.fresh (drewN_chg w2 n (fun _ => False))
  obtain ⟨w3, hw3⟩ : ∃ w3, w3 = w2.drewN n := ⟨_, rfl⟩
  rw [← hw3] at A3 D3 B3 T3 ⊢
  clear hw3 A1 A2 D2 B2 B1 KE T2 TI
  by_cases he : E = 0
  · subst he
    go_wp2_with (first | (refine wpList_load_part rfl 69 (.tmp 7) rfl w1.heap.size 0 C rfl D3.out (by simp) Try.underlying69 rfl (Try.towZsz C LC) ?_) | (refine wpList_store_part rfl 69 (.tmp 4) (.tmp 21) rfl w.heap.size 0 C rfl rfl B3.out (by rw [LC, Nat.zero_add]; exact Nat.le_refl _) (Try.towZsz C LC) OCH.out ?_; intro w4 b4 c4; rw [splice_all _ _ LC] at b4; have B4 : Hid _ := b4; have F4 : Hid _ := below_chg1 (A3.out.done HB.out (by omega)) c4 (A3.out.done HB.out (by omega)).size (Nat.le_refl _); have T4 : Hid _ := T3.out.kept B3.out c4; clear b4 c4))
    exact bodyPost_ret (results_row2 rfl _ _ w.heap.size 69 C _ _ rfl B4.out Try.underlying69 rfl (Try.towZsz C LC) rfl) rfl ⟨C, rfl, F4.out, ⟨LC, OCH.out⟩, by first | exact T4.out | exact ⟨T4.out, fun e => absurd rfl e⟩ | exact ⟨fun _ => T4.out, fun e => absurd rfl e⟩ | exact ⟨T4.out, trivial⟩⟩
  · have D4 : Hid _ := Blk.made w3 towZ 69
    have B4 : Hid _ := B3.out.alloc (.cells towZ.toArray 69)
    have F3 : Hid _ := A3.out.done HB.out (by omega)
    go_wp2_with (first | (refine wpList_load_part rfl 69 (.tmp 9) rfl w3.heap.size 0 towZ rfl D4.out (by simp) Try.underlying69 rfl (Try.towZsz _ rfl) ?_) | (refine wpList_store_part rfl 69 (.tmp 4) (.tmp 19) rfl w.heap.size 0 towZ rfl rfl B4.out (Nat.le_of_eq (Nat.zero_add _)) (Try.towZsz _ rfl) towZ_one ?_; intro w4 b4 c4; rw [splice_all _ _ rfl] at b4; have B5 : Hid _ := b4; have F4 : Hid _ := below_chg1 (Below.alloc F3.out F3.out.size _) c4 (Nat.le_trans F3.out.size (by simp)) (Nat.le_refl _); clear b4 c4))
    exact bodyPost_ret (results_row2 rfl _ _ w.heap.size 69 towZ _ _ rfl B5.out Try.underlying69 rfl (Try.towZsz _ rfl) rfl) rfl ⟨towZ, rfl, F4.out, ⟨rfl, towZ_one⟩, fun e => absurd e he, fun _ => rfl⟩

set_option maxRecDepth 100000 in
set_option maxHeartbeats 2000000 in
theorem towerCode_any {w : World} {s : Value} {T : List Int} (h : In w s T) :
    Calls Try.prog 25 #[s] w fun e w' => ∃ C, e = .returned (.tuple #[.agg C.toArray, .int .i64 (towE T)]) ∧ Below w.heap.size w w' ∧ (C.length = towZ.length ∧ ∀ u ∈ C, u.oneCell' = true) ∧ (towE T = 0 → TowIs w' w.heap.size (towerS T 0 0) C) ∧ (¬ towE T = 0 → C = towZ) := by
  have HC := towerWhole_any (In.alloc h (.cells towZ.toArray 69))
  have B0 := Blk.made w towZ 69
  obtain ⟨S, hS⟩ : ∃ S, S = towerS T 0 0 := ⟨_, rfl⟩
  obtain ⟨E, hE⟩ : ∃ E, E = towE T := ⟨_, rfl⟩
  rw [← hS, ← hE] at HC ⊢
  have KC : Hid _ := HC
  have KB : Hid _ := B0
  obtain ⟨a0, c0, hs, _⟩ := h.cap
  clear h HC B0 hS hE
  subst hs
  go_enter Try.func25, Try.ntmps25
  go_wp2_with fail
  refine Calls.mono KC.out ?_
  rintro e w1 ⟨C, rfl, b1, ⟨LA, OA⟩, ti, tz⟩
  have OAH : Hid _ := OA
  have TI : Hid _ := ti
  have TZ : Hid _ := tz
  have B1 : Hid _ := KB.out.keep0 b1
  have F1 : Hid (Below w.heap.size w w1) := ((Below.refl _ _).alloc (Nat.le_refl _) _).trans (b1.mono (by simp))
  clear b1 KC KB ti OA tz
  go_wp2_with (refine wpList_store_part rfl 69 (.tmp 2) (.tmp 6) rfl w.heap.size 0 C rfl rfl B1.out (by rw [LA, Nat.zero_add]; exact Nat.le_refl _) (Try.towZsz C LA) OAH.out ?_; intro w4 b4 c4; rw [splice_all _ _ LA] at b4; have B4 : Hid _ := b4; have F4 : Hid _ := below_chg1 F1.out c4 F1.out.size (Nat.le_refl _); have T4 : Hid (E = 0 → TowIs w4 w.heap.size S C) := fun e => ((TI.out e).mono (by simp)).kept B1.out c4; clear b4 c4)
  exact bodyPost_ret (results_row2 rfl _ _ w.heap.size 69 C _ _ rfl B4.out Try.underlying69 rfl (Try.towZsz C LA) rfl) rfl ⟨C, rfl, F4.out, ⟨LA, OAH.out⟩, T4.out, TZ.out⟩
end Go.Proofs.Ytjmeaebehndheaa

/-
  The reading of proofs: how many ops are left.
-/
namespace Go.Proofs.Ytjmeaebehndheaa
open Go.RowKit

theorem uintS_up (T : List Int) (a : Nat) (e : Int) (m : Nat) : a ≤ (uintS T a e m).2.1 := by
  unfold uintS
  split
  · split
    split
    · split
      · exact Nat.le_refl _
      · exact Nat.le_add_right _ _
    · exact Nat.le_refl _
  · exact Nat.le_refl _
theorem textS_up (T : List Int) (a : Nat) (e m : Int) : a ≤ (textS T a e m).2.1 := by
  unfold textS
  split
  · split
    split
    · split
      · exact Nat.le_refl _
      · split
        · exact Nat.le_refl _
        · simp only; omega
    · exact Nat.le_refl _
  · exact Nat.le_refl _
theorem pA_up (T : List Int) (a : Nat) (e n : Int) : a ≤ pA T a e n := by
  unfold pA
  split
  · exact Nat.le_add_right _ _
  · exact Nat.le_refl _
theorem nbS_up (T : List Int) (a : Nat) (e : Int) : a ≤ (nbS T a e).at_ := by
  unfold nbS
  simp only
  exact Nat.le_trans (Nat.le_trans (pA_up T a e 1) (textS_up T _ _ 1024)) (uintS_up T _ _ maxN)
theorem opS_up (T : List Int) (a : Nat) (h : a < T.length) : a < (opS T a 0).at_ := by
  have h1 : pA T a 0 1 = a + 1 := by
    unfold pA
    rw [if_pos ⟨rfl, by omega, by omega⟩]
    rfl
  have key : ∀ n, pA T a 0 1 ≤ n → a < n := fun n hn => by omega
  unfold opS
  simp only
  split
  · exact key _ (textS_up _ _ _ _)
  split
  · exact key _ (pA_up _ _ _ _)
  split
  · exact key _ (Nat.le_refl _)
  split
  · exact key _ (Nat.le_trans (nbS_up _ _ _) (pA_up _ _ _ _))
  split
  · exact key _ (nbS_up _ _ _)
  · exact key _ (Nat.le_refl _)

/-- The ops that are left, as far as none is wrong. -/
def opsL (T : List Int) : Nat → Nat → Int → List OpS × Nat × Int
  | 0, a, e => ([], a, e)
  | f + 1, a, e => if e = 0 ∧ a < T.length then ((opS T a 0) :: (opsL T f (opS T a 0).at_ (opS T a 0).err).1, (opsL T f (opS T a 0).at_ (opS T a 0).err).2) else ([], a, e)
theorem opsL_stop {T : List Int} {f a : Nat} {e : Int} (h : ¬ (e = 0 ∧ a < T.length)) : opsL T f a e = ([], a, e) := by
  cases f with
  | zero => rfl
  | succ f => rw [opsL, if_neg h]
theorem opsL_step {T : List Int} {f a : Nat} (h : a < T.length) : opsL T (f + 1) a 0 = ((opS T a 0) :: (opsL T f (opS T a 0).at_ (opS T a 0).err).1, (opsL T f (opS T a 0).at_ (opS T a 0).err).2) := by rw [opsL, if_pos ⟨rfl, h⟩]
def leftN (L : List OpS × Nat × Int) : Nat := if L.2.2 = 0 then L.1.length else 0

set_option maxRecDepth 100000 in
set_option maxHeartbeats 8000000 in
theorem opsLeft_any {w : World} {p : Nat} {tv : Value} {T : List Int} {a : Nat} {err : Int} (h : RS w p 195 tv T a err) (htv : ∀ k, tv.ownBlock = some k → k < w.heap.size) {F : Nat} (hF : T.length < a + F) (hF2 : F ≤ 9223372036854775800) :
    Calls Try.prog 121 #[.pointer (some ⟨p, 0, none⟩)] w fun e w' => e = .returned (.int .i64 (leftN (opsL T F a err))) ∧ RP w w' p 195 tv T a (failE err (opsL T F a err).2.2) := by
  obtain ⟨q, hq⟩ : ∃ q, q = w.heap.size := ⟨_, rfl⟩
  obtain ⟨W, hW⟩ : ∃ W, W = w.alloc (.cells #[tv, .int .i64 a, .int .i64 err] 195) := ⟨_, rfl⟩
  have bW : Below w.heap.size w W := by rw [hW]; exact (Below.refl _ _).alloc (Nat.le_refl _) _
  have rs : RS W q 195 tv T a err := ⟨by rw [hW, hq]; exact heap_alloc_new _ _, (h.src.kept0 bW), fun e => by have := htv _ e; omega, h.le, h.big, h.byt, h.cap⟩
  have c0 : w.cell? ⟨p, 0, none⟩ = some tv := h.c0
  have c1 : w.cell? ⟨p, 1, none⟩ = some (.int .i64 a) := h.c1
  have c2 : w.cell? ⟨p, 2, none⟩ = some (.int .i64 err) := h.c2
  obtain ⟨ta, tc, htf, _⟩ := h.cap
  have plt := h.lt
  have big := h.big
  have RSQ : Hid _ := rs
  have H : Hid _ := h
  have BW : Hid _ := bW
  have HQ : Hid _ := hq
  clear h rs bW
  subst htf
  go_enter Try.func121, Try.ntmps121
  go_upto_region 2 with fail
  rw [← hq, ← hW]
  clear hW hq c0 c1 c2
  go_wp2_with fail
  go_loopw [4] (fun i wr => ∃ (j ai : Nat) (ei : Int) (L : List OpS), j ≤ F ∧ i = .int .i64 j ∧ Hid (Below w.heap.size w wr ∧ RS wr q 195 (.slice ta T.length tc) T ai ei ∧ L.length = j ∧ opsL T F a err = (L ++ (opsL T (F - j) ai ei).1, (opsL T (F - j) ai ei).2) ∧ T.length < ai + (F - j))) (fun i _ => F - (intOf i).toNat)
  case atStart => exact ⟨0, a, err, [], Nat.zero_le _, rfl, BW.out, RSQ.out, rfl, by simp, hF⟩
  case round =>
    obtain ⟨j, ai, ei, L, hj, rfl, hid⟩ := hrel
    obtain ⟨bl, rsr, hl, hop, hfu⟩ := hid.out
    have le := rsr.le
    have BL : Hid _ := bl
    have RSR : Hid _ := rsr
    have HLL : Hid _ := hl
    have HOP : Hid _ := hop
    have HE : Hid _ := rErr_any rsr
    have HLF : Hid _ := rLeft_any rsr
    clear hid bl rsr hl hop
    by_cases he : ei = 0
    · subst he
      by_cases hlt : ai < T.length
      · have hlt2 : (0 : Int) < (T.length : Int) - (ai : Int) := by omega
        go_upto_region 4 with (first
          | (go_at_call 78; refine Calls.mono HE.out ?_; rintro e w1 ⟨rfl, hw1⟩; subst hw1; clear HE)
          | (go_at_call 76; refine Calls.mono HLF.out ?_; rintro e w1 ⟨rfl, m1, hw1⟩; have RS1 : Hid (RS w1 q 195 (.slice ta T.length tc) T ai 0) := (by rw [hw1]; exact RSR.out.drewN m1); have BL1 : Hid (Below w.heap.size w w1) := (by rw [hw1]; exact ⟨BL.out.os, BL.out.tape, BL.out.output, BL.out.size, BL.out.block⟩); clear hw1 HLF))
        go_wp2_with fail
        refine Calls.mono (op_any RS1.out) ?_
        rintro e w2 ⟨⟨s, v, rfl, _, _, _, rp, _⟩⟩
        have up := opS_up T ai hlt
        have le2 := rp.1.le
        have FIN : Hid (Below w.heap.size w w2 ∧ RS w2 q 195 (.slice ta T.length tc) T (opS T ai 0).at_ (opS T ai 0).err ∧ (L ++ [opS T ai 0]).length = j + 1 ∧ opsL T F a err = ((L ++ [opS T ai 0]) ++ (opsL T (F - (j + 1)) (opS T ai 0).at_ (opS T ai 0).err).1, (opsL T (F - (j + 1)) (opS T ai 0).at_ (opS T ai 0).err).2) ∧ T.length < (opS T ai 0).at_ + (F - (j + 1))) := by
          refine ⟨BL1.out.trans (rp.2.below BL1.out.size (fun k e => by rw [e, HQ.out]; exact Nat.le_refl _)), rp.1, by rw [List.length_append, HLL.out]; rfl, ?_, by omega⟩
          rw [HOP.out, show F - j = (F - (j + 1)) + 1 by omega, opsL_step hlt]
          simp
        obtain ⟨a9, h9⟩ : ∃ a9, a9 = (opS T ai 0).at_ := ⟨_, rfl⟩
        have jF : j + 1 ≤ F := by omega
        clear rp up le2 h9
        go_wp2_with fail
        go_roundw
        case rel => exact ⟨j + 1, _, _, _, jF, by go_num, FIN.out⟩
        case measure => simp [intOf]; omega
      · have hop2 : opsL T F a err = (L, ai, 0) := by
          rw [HOP.out, opsL_stop (fun e => hlt e.2)]
          simp
        have hge : ¬ (0 : Int) < (T.length : Int) - (ai : Int) := by omega
        have F1 : Hid (leftN (opsL T F a err) = j ∧ ∀ w1, Below w.heap.size w w1 → RP w w1 p 195 (.slice ta T.length tc) T a (failE err (opsL T F a err).2.2)) := by
          rw [hop2]
          refine ⟨by rw [leftN, if_pos rfl]; exact HLL.out, fun w1 b1 => ⟨?_, Chg.of_below b1 _⟩⟩
          have e : failE err 0 = err := by unfold failE; split <;> simp_all
          rw [e]
          exact H.out.keep0 b1
        clear hop2
        go_wp2_with (first
          | (go_at_call 78; refine Calls.mono HE.out ?_; rintro e w1 ⟨rfl, hw1⟩; subst hw1; clear HE)
          | (go_at_call 76; refine Calls.mono HLF.out ?_; rintro e w1 ⟨rfl, m1, hw1⟩; have RS1 : Hid (RS w1 q 195 (.slice ta T.length tc) T ai 0) := (by rw [hw1]; exact RSR.out.drewN m1); have BL1 : Hid (Below w.heap.size w w1) := (by rw [hw1]; exact ⟨BL.out.os, BL.out.tape, BL.out.output, BL.out.size, BL.out.block⟩); have HE1 : Hid _ := rErr_any RS1.out; clear hw1 HLF)
          | (go_at_call 78; refine Calls.mono HE1.out ?_; rintro e w2 ⟨rfl, hw2⟩; subst hw2))
        go_ret
        refine ⟨?_, F1.out.2 _ BL1.out⟩
        rw [F1.out.1]
        rfl
    · have hop2 : opsL T F a err = (L, ai, ei) := by
        rw [HOP.out, opsL_stop (fun e => he e.1)]
        simp
      have F1 : Hid (leftN (opsL T F a err) = 0 ∧ (opsL T F a err).2.2 = ei) := by
        rw [hop2]
        exact ⟨by rw [leftN, if_neg he], rfl⟩
      have heb : (ei == 0) = false := by simpa using he
      have hen : (ei != 0) = true := by simpa using he
      clear hop2
      go_upto_region 7 with (first
          | (go_at_call 78; refine Calls.mono HE.out ?_; rintro e w1 ⟨rfl, hw1⟩; subst hw1))
      have BD : Hid (Below w.heap.size w w1.drew) := ⟨BL.out.os, BL.out.tape, BL.out.output, BL.out.size, BL.out.block⟩
      have RD : Hid (RS w1.drew q 195 (.slice ta T.length tc) T ai ei) := RSR.out.drewN 1
      have RP0 : Hid (RS w1.drew p 195 (.slice ta T.length tc) T a err) := H.out.keep0 BD.out
      refine wp_region_held_drew (S := fun _ => True) (by kernel_rfl) trivial (fun hH => ?_)
      refine wpAnyH_take (i := 0) (v := .pointer (some ⟨p, 0, none⟩)) rfl (by kernel_rfl) (by kernel_rfl) (by kernel_rfl) (fun _ _ _ h => h) (Or.inl ⟨by rfl, fun w' _ => by go_simp⟩) hH ?_
      refine wpAnyH_take (i := 1) (v := .pointer (some ⟨p, 0, none⟩)) rfl (by kernel_rfl) (by kernel_rfl) (by kernel_rfl) (fun _ _ _ h => h) (Or.inl ⟨by rfl, fun w' _ => by go_simp⟩) hH ?_
      refine wpAnyH_take (i := 2) (v := .pointer (some ⟨p, 0, none⟩)) rfl (by kernel_rfl) (by kernel_rfl) (by kernel_rfl) (fun _ _ _ h => h) (Or.inl ⟨by rfl, fun w' _ => by go_simp⟩) hH ?_
      refine wpAnyH_take (i := 3) (v := .pointer (some ⟨q, 0, none⟩)) rfl (by kernel_rfl) (by kernel_rfl) (by kernel_rfl) (fun _ _ _ h => h) (Or.inl ⟨by rfl, fun w' _ => by go_simp⟩) hH ?_
      refine wpAnyH_ready (rs := [4]) (by kernel_rfl) (by simp) ?_
      refine AllReadyH.cons rfl (fun K hK => ?_) AllReadyH.nil
      go_simp
      refine Calls.mono (rErr_any RD.out) ?_
      rintro e w1 ⟨rfl, hw1⟩
      subst hw1
      refine hK.out _ _ trivial (fun hH => ?_)
      clear hK K
      refine wpAnyH_ready (rs := [5]) (by kernel_rfl) (by simp) ?_
      refine AllReadyH.cons rfl (fun K hK => ?_) AllReadyH.nil
      go_simp
      refine Calls.mono (rFail_any RP0.out ei) ?_
      rintro e w2 ⟨rfl, rp⟩
      refine hK.out _ _ trivial (fun _ => ?_)
      clear hK K
      refine wpAnyH_done (by kernel_rfl) ?_ _
      have F2 : Hid (RP w w2 p 195 (.slice ta T.length tc) T a (failE err ei)) := ⟨rp.1, (Chg.of_below BD.out (fun k => k = p)).trans rp.2 (fun _ e => .inl e)⟩
      clear rp
      go_wp2_with fail
      go_ret
      refine ⟨?_, ?_⟩
      · rw [F1.out.1]
        rfl
      · rw [F1.out.2]
        exact F2.out
end Go.Proofs.Ytjmeaebehndheaa
