/-
  Messages as bytes: read whole.
-/
import Derived.Test.YtjmeaebehndheaaMsR
import Derived.Test.YtjmeaebehndheaaWhole
import Derived.Test.YtjmeaebehndheaaPrC
namespace Go.Proofs.Ytjmeaebehndheaa
open Go.RowKit

def msgE (T : List Int) : Int := endE T (msgS T 0 0).at_ (msgS T 0 0).err
def msZ : List Value := msC 0 0 0 (.slice none 0 0) (.slice none 0 0) false 0 z32 z32 0 0 (.slice none 0 0) (.slice none 0 0) (.slice none 0 0)
theorem msZ_len : msZ.length = 76 := msC_len _ _ _ _ _ _ _ _ _ _ _ _ _ _ z32_len z32_len
theorem msZ_one : ∀ u ∈ msZ, u.oneCell' = true := msC_one _ _ _ _ _ _ _ _ _ _ _ _ _ _ rfl rfl rfl rfl rfl
theorem Try.msZsz (C : List Value) (h : C.length = msZ.length) : (Try.prog.info? 95).map (·.size) = some C.length := by rw [h, msZ_len]; exact Try.size95
theorem pad32_len (T : List Int) (a : Nat) (e : Int) : (pad 32 (pL T a e 32)).length = 32 := pad_len (pL_len T a e 32)
theorem msgS_len (T : List Int) (a : Nat) (err : Int) : (msgS T a err).hl.length = 32 ∧ (msgS T a err).lb.length = 32 := by
  unfold msgS
  simp only
  split
  · exact ⟨z32_len, z32_len⟩
  split
  · exact ⟨z32_len, z32_len⟩
  split
  · exact ⟨z32_len, z32_len⟩
  split
  · exact ⟨z32_len, z32_len⟩
  split
  · exact ⟨z32_len, z32_len⟩
  split
  · exact ⟨pad32_len _ _ _, pad32_len _ _ _⟩
  split
  · exact ⟨z32_len, z32_len⟩
  split
  · exact ⟨z32_len, z32_len⟩
  split
  · exact ⟨z32_len, z32_len⟩
  split
  · exact ⟨z32_len, z32_len⟩
  · exact ⟨z32_len, z32_len⟩
/-- These cells are that message. -/
structure MsIs (w : World) (B : Nat) (S : MsS) (C : List Value) : Prop where
  ex : ∃ lo hi bo pa cg L, C = msC S.ki S.ver S.oth lo hi S.op S.hs S.hl S.lb S.ct S.co bo pa cg ∧ (Own w lo S.lo ∧ Own w hi S.hi ∧ Own w bo S.bo ∧ GL w pa 31 32 S.pa ∧ CM w cg L) ∧ L.map Prod.fst = S.ch ∧ MsAp B lo hi bo pa cg L
theorem MsIs.chg {w w' : World} {B : Nat} {S : MsS} {C : List Value} (h : MsIs w B S C) {Q : Nat → Prop} (c : Chg Q w w') (hQ : ∀ g cur t, Q g → w.heap[g]? = some (.cells cur t (0, 0)) → t ≠ 112 ∧ t ≠ 5 ∧ t ≠ 31) : MsIs w' B S C := by
  obtain ⟨lo, hi, bo, pa, cg, L, e, ⟨o1, o2, o3, g, m⟩, hm, hap⟩ := h.ex
  have k5 : ∀ {u : Value} {l : List Int}, Own w u l → Own w' u l := fun a => a.kept c (fun g hg e => by
    obtain ⟨cur, hc⟩ := own_block5 a hg
    exact (hQ g cur 5 e hc).2.1 rfl)
  exact ⟨lo, hi, bo, pa, cg, L, e, ⟨k5 o1, k5 o2, k5 o3, g.kept c (fun g cur _ hg e => (hQ g cur 31 e hg).2.2 rfl), m.kept c (fun g cur t e hg => ⟨(hQ g cur t e hg).1, (hQ g cur t e hg).2.1⟩)⟩, hm, hap⟩
theorem MsIs.kept {w w' : World} {B : Nat} {S : MsS} {C : List Value} (h : MsIs w B S C) {q : Nat} {cs : List Value} (hq : Blk w q cs 95) (c : Chg (fun k => k = q) w w') : MsIs w' B S C :=
  h.chg c (fun g cur t e hg => by
    rw [e, hq.eq] at hg
    injection hg with hg
    injection hg with _ hg
    rw [← hg]
    decide)
theorem MsIs.low {w : World} {B B' : Nat} {S : MsS} {C : List Value} (h : MsIs w B S C) (hB : B' ≤ B) : MsIs w B' S C := by
  obtain ⟨lo, hi, bo, pa, cg, L, e, o, hm, hap⟩ := h.ex
  exact ⟨lo, hi, bo, pa, cg, L, e, o, hm, hap.mono hB⟩
theorem MsIs.fresh {w w' : World} {B : Nat} {S : MsS} {C : List Value} (h : MsIs w B S C) (c : Chg (fun _ => False) w w') : MsIs w' B S C := h.chg c (fun _ _ _ e => e.elim)
theorem MsIs.len {w : World} {B : Nat} {S : MsS} {C : List Value} (h : MsIs w B S C) (h1 : S.hl.length = 32) (h2 : S.lb.length = 32) : C.length = msZ.length ∧ ∀ u ∈ C, u.oneCell' = true := by
  obtain ⟨lo, hi, bo, pa, cg, L, e, ⟨o1, o2, o3, g, m⟩, hm, hap⟩ := h.ex
  rw [e, msZ_len]
  exact ⟨msC_len _ _ _ _ _ _ _ _ _ _ _ _ _ _ h1 h2, msC_one _ _ _ _ _ _ _ _ _ _ _ _ _ _ o1.one o2.one o3.one g.one m.gl.one⟩

set_option maxRecDepth 100000 in
set_option maxHeartbeats 4000000 in
theorem msgWhole_any {w : World} {s : Value} {T : List Int} (h : In w s T) (_hT : T.length ≤ 8388608) :
    Calls Try.prog 88 #[s, .func (.func 89) #[] #[]] w fun e w' => ∃ C, e = .returned (.tuple #[.agg C.toArray, .int .i64 (msgE T)]) ∧ Below w.heap.size w w' ∧ (C.length = msZ.length ∧ ∀ u ∈ C, u.oneCell' = true) ∧ (msgE T = 0 → MsIs w' w.heap.size (msgS T 0 0) C) ∧ (¬ msgE T = 0 → C = msZ) := by
  obtain ⟨W0, hW0⟩ : ∃ W0, W0 = (w.alloc (.cells msZ.toArray 95)).alloc (.cells #[s, .int .i64 0, .int .i64 0] 195) := ⟨_, rfl⟩
  have hb1 : Below w.heap.size w (w.alloc (.cells msZ.toArray 95)) := (Below.refl _ _).alloc (Nat.le_refl _) _
  have hb : Below w.heap.size w W0 := by rw [hW0]; exact hb1.alloc (by simp) _
  have A0 : At W0 W0 (w.heap.size + 1) 195 s T 0 0 := by
    have := In.at h 195 hb1
    rw [World.size_alloc, ← hW0] at this
    exact this
  have B0 : Hid (Blk W0 w.heap.size msZ 95) := by rw [hW0]; exact (Blk.made w _ 95).alloc _
  have HC := message_any A0.rp.1
  unfold msgE
  obtain ⟨S, hS⟩ : ∃ S, S = msgS T 0 0 := ⟨_, rfl⟩
  have SL := msgS_len T 0 0
  rw [← hS] at HC SL ⊢
  have HE : ∀ w', RS w' (w.heap.size + 1) 195 s T S.at_ S.err → _ := fun w' h => rEnd_any h
  obtain ⟨E, hE⟩ : ∃ E, E = endE T S.at_ S.err := ⟨_, rfl⟩
  rw [← hE]
  simp only [← hE] at HE
  rw [hW0] at HC
  have KC : Hid _ := HC
  have KE : Hid _ := HE
  have HB : Hid _ := hb
  have KA : Hid _ := A0
  have HW : Hid _ := hW0
  obtain ⟨a0, c0, hs, _⟩ := h.cap
  clear h hb1 hb A0 HC HE hE hW0 hS
  subst hs
  go_enter Try.func88, Try.ntmps88
  go_wp2_with fail
  refine Calls.mono KC.out ?_
  rintro e w1 ⟨⟨v1, v2, v3, v4, v5, L1, rfl, om, hops, r1, hap⟩⟩
  rw [← HW.out] at r1
  obtain ⟨C, hC⟩ : ∃ C, C = msC S.ki S.ver S.oth v1 v2 S.op S.hs S.hl S.lb S.ct S.co v3 v4 v5 := ⟨_, rfl⟩
  have ti : MsIs w1 w.heap.size S C := ⟨v1, v2, v3, v4, v5, L1, hC, om, hops, hap.mono (by simp; omega)⟩
  clear hap
  obtain ⟨LC, OC⟩ := ti.len SL.1 SL.2
  have OCH : Hid _ := OC
  have TI : Hid _ := ti
  rw [← hC]
  have A1 : Hid _ := KA.out.call r1
  have B1 : Hid _ := KA.out.blk' B0.out (by omega) r1
  have D0 : Hid _ := Blk.made w1 msZ 95
  have LT1 : w.heap.size < w1.heap.size := B1.out.lt
  clear r1 KC HW KA B0 hC om hops ti OC
  go_wp2_with (refine wpList_store_part rfl 95 (.tmp 7) (.tmp 14) rfl w1.heap.size 0 C rfl rfl D0.out (by rw [LC, Nat.zero_add]; exact Nat.le_refl _) (Try.msZsz C LC) OCH.out ?_; intro w2 b2 c2; rw [splice_all _ _ LC] at b2; have D2 : Hid _ := b2; have B2 : Hid _ := (B1.out.alloc _).keep c2 (by omega); have A2 : Hid _ := (A1.out.alloc _).chg c2 A1.out.rp.2.size; have T2 : Hid _ := (TI.out.fresh ((Chg.refl (fun _ => False) w1).alloc _)).kept D0.out c2; clear b2 c2 D0)
  refine Calls.mono (KE.out _ A2.out.rp.1) ?_
  rintro e w3 ⟨rfl, n, rfl⟩
  have A3 : Hid _ := At.drewN A2.out n
  have D3 : Hid _ := Blk.drewN D2.out n
  have B3 : Hid _ := Blk.drewN B2.out n
  have T3 : Hid _ := T2.out.fresh (drewN_chg w2 n (fun _ => False))
  obtain ⟨w3, hw3⟩ : ∃ w3, w3 = w2.drewN n := ⟨_, rfl⟩
  rw [← hw3] at A3 D3 B3 T3 ⊢
  clear hw3 A1 A2 D2 B2 B1 KE T2 TI
  by_cases he : E = 0
  · subst he
    go_wp2_with (first | (refine wpList_load_part rfl 95 (.tmp 7) rfl w1.heap.size 0 C rfl D3.out (by simp) Try.underlying95 rfl (Try.msZsz C LC) ?_) | (refine wpList_store_part rfl 95 (.tmp 4) (.tmp 21) rfl w.heap.size 0 C rfl rfl B3.out (by rw [LC, Nat.zero_add]; exact Nat.le_refl _) (Try.msZsz C LC) OCH.out ?_; intro w4 b4 c4; rw [splice_all _ _ LC] at b4; have B4 : Hid _ := b4; have F4 : Hid _ := below_chg1 (A3.out.done HB.out (by omega)) c4 (A3.out.done HB.out (by omega)).size (Nat.le_refl _); have T4 : Hid _ := T3.out.kept B3.out c4; clear b4 c4))
    exact bodyPost_ret (results_row2 rfl _ _ w.heap.size 95 C _ _ rfl B4.out Try.underlying95 rfl (Try.msZsz C LC) rfl) rfl ⟨C, rfl, F4.out, ⟨LC, OCH.out⟩, by first | exact T4.out | exact ⟨T4.out, fun e => absurd rfl e⟩ | exact ⟨fun _ => T4.out, fun e => absurd rfl e⟩⟩
  · have D4 : Hid _ := Blk.made w3 msZ 95
    have B4 : Hid _ := B3.out.alloc (.cells msZ.toArray 95)
    have F3 : Hid _ := A3.out.done HB.out (by omega)
    go_wp2_with (first | (refine wpList_load_part rfl 95 (.tmp 9) rfl w3.heap.size 0 msZ rfl D4.out (by simp) Try.underlying95 rfl (Try.msZsz _ rfl) ?_) | (refine wpList_store_part rfl 95 (.tmp 4) (.tmp 19) rfl w.heap.size 0 msZ rfl rfl B4.out (Nat.le_of_eq (Nat.zero_add _)) (Try.msZsz _ rfl) msZ_one ?_; intro w4 b4 c4; rw [splice_all _ _ rfl] at b4; have B5 : Hid _ := b4; have F4 : Hid _ := below_chg1 (Below.alloc F3.out F3.out.size _) c4 (Nat.le_trans F3.out.size (by simp)) (Nat.le_refl _); clear b4 c4))
    exact bodyPost_ret (results_row2 rfl _ _ w.heap.size 95 msZ _ _ rfl B5.out Try.underlying95 rfl (Try.msZsz _ rfl) rfl) rfl ⟨msZ, rfl, F4.out, ⟨rfl, msZ_one⟩, fun e => absurd e he, fun _ => rfl⟩

set_option maxRecDepth 100000 in
set_option maxHeartbeats 2000000 in
theorem msgCode_any {w : World} {s : Value} {T : List Int} (h : In w s T) (hT : T.length ≤ 8388608) :
    Calls Try.prog 32 #[s] w fun e w' => ∃ C, e = .returned (.tuple #[.agg C.toArray, .int .i64 (msgE T)]) ∧ Below w.heap.size w w' ∧ (C.length = msZ.length ∧ ∀ u ∈ C, u.oneCell' = true) ∧ (msgE T = 0 → MsIs w' w.heap.size (msgS T 0 0) C) ∧ (¬ msgE T = 0 → C = msZ) := by
  have HC := msgWhole_any (In.alloc h (.cells msZ.toArray 95)) hT
  have B0 := Blk.made w msZ 95
  obtain ⟨S, hS⟩ : ∃ S, S = msgS T 0 0 := ⟨_, rfl⟩
  obtain ⟨E, hE⟩ : ∃ E, E = msgE T := ⟨_, rfl⟩
  rw [← hS, ← hE] at HC ⊢
  have KC : Hid _ := HC
  have KB : Hid _ := B0
  obtain ⟨a0, c0, hs, _⟩ := h.cap
  clear h HC B0 hS hE
  subst hs
  have hgt : ¬ (8388608 : Int) < (T.length : Int) := by omega
  go_enter Try.func32, Try.ntmps32
  go_wp2_with fail
  refine Calls.mono KC.out ?_
  rintro e w1 ⟨C, rfl, b1, ⟨LA, OA⟩, ti, tz⟩
  have TZ : Hid _ := tz
  clear tz
  have OAH : Hid _ := OA
  have TI : Hid _ := ti
  have B1 : Hid _ := KB.out.keep0 b1
  have F1 : Hid (Below w.heap.size w w1) := ((Below.refl _ _).alloc (Nat.le_refl _) _).trans (b1.mono (by simp))
  clear b1 KC KB ti OA
  go_wp2_with (refine wpList_store_part rfl 95 (.tmp 2) (.tmp 10) rfl w.heap.size 0 C rfl rfl B1.out (by rw [LA, Nat.zero_add]; exact Nat.le_refl _) (Try.msZsz C LA) OAH.out ?_; intro w4 b4 c4; rw [splice_all _ _ LA] at b4; have B4 : Hid _ := b4; have F4 : Hid _ := below_chg1 F1.out c4 F1.out.size (Nat.le_refl _); have T4 : Hid (E = 0 → MsIs w4 w.heap.size S C) := fun e => ((TI.out e).kept B1.out c4).low (by simp); clear b4 c4)
  exact bodyPost_ret (results_row2 rfl _ _ w.heap.size 95 C _ _ rfl B4.out Try.underlying95 rfl (Try.msZsz C LA) rfl) rfl ⟨C, rfl, F4.out, ⟨LA, OAH.out⟩, T4.out, TZ.out⟩

set_option maxRecDepth 100000 in
set_option maxHeartbeats 2000000 in
theorem msgLong_any {w : World} {s : Value} {T : List Int} (h : In w s T) (hT : 8388608 < T.length) :
    Calls Try.prog 32 #[s] w fun e w' => e = .returned (.tuple #[.agg msZ.toArray, .int .i64 21]) ∧ Below w.heap.size w w' := by
  obtain ⟨a0, c0, hs, _⟩ := h.cap
  clear h
  subst hs
  have hgt : (8388608 : Int) < (T.length : Int) := by omega
  have B1 : Hid _ := Blk.made w msZ 95
  have F1 : Hid (Below w.heap.size w (w.alloc (.cells msZ.toArray 95))) := (Below.refl _ _).alloc (Nat.le_refl _) _
  go_enter Try.func32, Try.ntmps32
  go_wp2_with (refine wpList_store_part rfl 95 (.tmp 2) (.tmp 7) rfl w.heap.size 0 msZ rfl rfl B1.out (Nat.le_of_eq (Nat.zero_add _)) (Try.msZsz _ rfl) msZ_one ?_; intro w4 b4 c4; rw [splice_all _ _ rfl] at b4; have B4 : Hid _ := b4; have F4 : Hid _ := below_chg1 F1.out c4 F1.out.size (Nat.le_refl _); clear b4 c4)
  exact bodyPost_ret (results_row2 rfl _ _ w.heap.size 95 msZ _ _ rfl B4.out Try.underlying95 rfl (Try.msZsz _ rfl) rfl) rfl ⟨rfl, F4.out⟩
end Go.Proofs.Ytjmeaebehndheaa
