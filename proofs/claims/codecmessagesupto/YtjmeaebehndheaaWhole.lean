/-
  Whole records, read by the code and by the reference.
-/
import Derived.Test.YtjmeaebehndheaaTwK
namespace Go.Proofs.Ytjmeaebehndheaa
open Go.RowKit

/-- What was read, or nothing at all. -/
def orNone (e : Int) (C Z : List Value) : List Value := if e = 0 then C else Z
theorem orNone_yes (C Z : List Value) : orNone 0 C Z = C := rfl
theorem orNone_no {e : Int} (C Z : List Value) (h : ¬ e = 0) : orNone e C Z = Z := by simp [orNone, h]
theorem orNone_len (e : Int) {C Z : List Value} (h : C.length = Z.length) : (orNone e C Z).length = Z.length := by unfold orNone; split <;> simp [h]
theorem orNone_one (e : Int) {C Z : List Value} (hC : ∀ u ∈ C, u.oneCell' = true) (hZ : ∀ u ∈ Z, u.oneCell' = true) : ∀ u ∈ orNone e C Z, u.oneCell' = true := by unfold orNone; split <;> assumption
def leafZ : List Value := leafC 0 (List.replicate 32 0)
def leafE (T : List Int) : Int := endE T (leafS T 0 0).2.2.1 (leafS T 0 0).2.2.2
def leafA (T : List Int) : List Value := orNone (leafE T) (leafC (leafS T 0 0).1 (leafS T 0 0).2.1) leafZ
def forkZ : List Value := bs (List.replicate 130 0)
def forkE (T : List Int) : Int := endE T (forkS T 0 0).2.1 (forkS T 0 0).2.2
def forkA (T : List Int) : List Value := orNone (forkE T) (bs (forkS T 0 0).1) forkZ
theorem leafS_len (T : List Int) (a : Nat) (err : Int) : (leafS T a err).2.1.length = 32 := pad_len (pL_len T _ _ 32)

theorem below_chg1 {B : Nat} {w w1 w2 : World} {g : Nat} (h : Below B w w1) (c : Chg (fun k => k = g) w1 w2) (hB : B ≤ w1.heap.size) (hg : B ≤ g) : Below B w w2 := h.trans (c.below hB (fun k e => by omega))
theorem At.done {w W0 w' : World} {p : Nat} {t : TypeId} {tv : Value} {T : List Int} {a : Nat} {err : Int} (h : At W0 w' p t tv T a err) (hb : Below w.heap.size w W0) (hp : w.heap.size ≤ p) : Below w.heap.size w w' := below_chg1 hb h.rp.2 hb.size hp
theorem At.blk' {w0 w w' : World} {p g : Nat} {t ty : TypeId} {tv : Value} {T : List Int} {a a1 : Nat} {err e1 : Int} {cs : List Value} (_h : At w0 w p t tv T a err) (hb : Blk w g cs ty) (hg : g ≠ p) (k : RP w w' p t tv T a1 e1) : Blk w' g cs ty := hb.keep k.2 hg
theorem In.at {w w' : World} {s : Value} {T : List Int} (h : In w s T) (t : TypeId) (b : Below w.heap.size w w') : At (w'.alloc (.cells #[s, .int .i64 0, .int .i64 0] t)) (w'.alloc (.cells #[s, .int .i64 0, .int .i64 0] t)) w'.heap.size t s T 0 0 := At.start (h.reader t b)
theorem At.drewN {w0 w : World} {p : Nat} {t : TypeId} {tv : Value} {T : List Int} {a : Nat} {err : Int} (h : At w0 w p t tv T a err) (n : Nat) : At w0 (w.drewN n) p t tv T a err := ⟨⟨h.rp.1.drewN n, ⟨h.rp.2.os, h.rp.2.tape, h.rp.2.output, h.rp.2.size, h.rp.2.block⟩⟩, h.plt, h.tlt⟩
theorem Blk.drewN {w : World} {g : Nat} {cs : List Value} {t : TypeId} (h : Blk w g cs t) (n : Nat) : Blk (w.drewN n) g cs t := ⟨h.eq⟩

theorem leafR_len (T : List Int) : (leafC (leafS T 0 0).1 (leafS T 0 0).2.1).length = leafZ.length := by simp [leafZ, leafC_len, leafS_len]
theorem leafA_len (T : List Int) : (leafA T).length = leafZ.length := orNone_len _ (leafR_len T)
theorem leafR_one (T : List Int) : ∀ u ∈ (leafC (leafS T 0 0).1 (leafS T 0 0).2.1), u.oneCell' = true := leafC_one _ _
theorem leafZ_one : ∀ u ∈ leafZ, u.oneCell' = true := leafC_one _ _
theorem leafA_one (T : List Int) : ∀ u ∈ leafA T, u.oneCell' = true := orNone_one _ (leafR_one T) leafZ_one
theorem Try.leafZsz (C : List Value) (h : C.length = leafZ.length) : (Try.prog.info? 71).map (·.size) = some C.length := by rw [h]; exact Try.leafSz _ _ (by simp)

set_option maxRecDepth 100000 in
set_option maxHeartbeats 2000000 in
theorem leafWhole_any {w : World} {s : Value} {T : List Int} (h : In w s T) :
    Calls Try.prog 83 #[s, .func (.func 84) #[] #[]] w fun e w' => e = .returned (.tuple #[.agg (leafA T).toArray, .int .i64 (leafE T)]) ∧ Below w.heap.size w w' := by
  obtain ⟨W0, hW0⟩ : ∃ W0, W0 = (w.alloc (.cells leafZ.toArray 71)).alloc (.cells #[s, .int .i64 0, .int .i64 0] 195) := ⟨_, rfl⟩
  have hb1 : Below w.heap.size w (w.alloc (.cells leafZ.toArray 71)) := (Below.refl _ _).alloc (Nat.le_refl _) _
  have hb : Below w.heap.size w W0 := by rw [hW0]; exact hb1.alloc (by simp) _
  have A0 : At W0 W0 (w.heap.size + 1) 195 s T 0 0 := by
    have := In.at h 195 hb1
    rw [World.size_alloc, ← hW0] at this
    exact this
  have B0 : Hid (Blk W0 w.heap.size leafZ 71) := by rw [hW0]; exact (Blk.made w _ 71).alloc _
  have HC := leaf_any A0.rp.1
  have HE : ∀ w', RS w' (w.heap.size + 1) 195 s T (leafS T 0 0).2.2.1 (leafS T 0 0).2.2.2 → _ := fun w' h => rEnd_any h
  obtain ⟨E, hE⟩ : ∃ E, E = leafE T := ⟨_, rfl⟩
  have hE2 : E = endE T (leafS T 0 0).2.2.1 (leafS T 0 0).2.2.2 := hE
  obtain ⟨C, hC⟩ : ∃ C, C = leafC (leafS T 0 0).1 (leafS T 0 0).2.1 := ⟨_, rfl⟩
  have LC : C.length = leafZ.length := by rw [hC]; exact leafR_len T
  have OC : ∀ u ∈ C, u.oneCell' = true := by rw [hC]; exact leafR_one T
  have hA : leafA T = orNone E C leafZ := by rw [hE, hC]; rfl
  rw [← hE, hA]
  rw [← hC] at HC
  simp only [← hE2] at HE
  obtain ⟨A, hAA⟩ : ∃ A, A = (leafS T 0 0).2.2.1 := ⟨_, rfl⟩
  obtain ⟨R, hR⟩ : ∃ R, R = (leafS T 0 0).2.2.2 := ⟨_, rfl⟩
  rw [← hAA, ← hR] at HC
  simp only [← hAA, ← hR] at HE
  rw [hW0] at HC
  have KC : Hid _ := HC
  have KE : Hid _ := HE
  have HB : Hid _ := hb
  have KA : Hid _ := A0
  have HW : Hid _ := hW0
  have OCH : Hid _ := OC
  obtain ⟨a0, c0, hs, _⟩ := h.cap
  clear h hb1 hb A0 HC HE hE hE2 hC hA hAA hR hW0 OC
  subst hs
  go_enter Try.func83, Try.ntmps83
  go_wp2_with fail
  refine Calls.mono KC.out ?_
  rintro e w1 ⟨rfl, r1⟩
  rw [← HW.out] at r1
  have A1 : Hid _ := KA.out.call r1
  have B1 : Hid _ := KA.out.blk' B0.out (by omega) r1
  have D0 : Hid _ := Blk.made w1 leafZ 71
  have LT1 : w.heap.size < w1.heap.size := B1.out.lt
  clear r1 KC HW KA B0
  go_wp2_with (refine wpList_store_part rfl 71 (.tmp 7) (.tmp 14) rfl w1.heap.size 0 C rfl rfl D0.out (by rw [LC, Nat.zero_add]; exact Nat.le_refl _) (Try.leafZsz C LC) OCH.out ?_; intro w2 b2 c2; rw [splice_all _ _ LC] at b2; have D2 : Hid _ := b2; have B2 : Hid _ := (B1.out.alloc _).keep c2 (by omega); have A2 : Hid _ := (A1.out.alloc _).chg c2 A1.out.rp.2.size; clear b2 c2 D0)
  refine Calls.mono (KE.out _ A2.out.rp.1) ?_
  rintro e w3 ⟨rfl, n, rfl⟩
  have A3 : Hid _ := At.drewN A2.out n
  have D3 : Hid _ := Blk.drewN D2.out n
  have B3 : Hid _ := Blk.drewN B2.out n
  obtain ⟨w3, hw3⟩ : ∃ w3, w3 = w2.drewN n := ⟨_, rfl⟩
  rw [← hw3] at A3 D3 B3 ⊢
  clear hw3 A1 A2 D2 B2 B1 KE
  by_cases he : E = 0
  · subst he
    go_wp2_with (first | (refine wpList_load_part rfl 71 (.tmp 7) rfl w1.heap.size 0 C rfl D3.out (by simp) Try.underlying71 rfl (Try.leafZsz C LC) ?_) | (refine wpList_store_part rfl 71 (.tmp 4) (.tmp 21) rfl w.heap.size 0 C rfl rfl B3.out (by rw [LC, Nat.zero_add]; exact Nat.le_refl _) (Try.leafZsz C LC) OCH.out ?_; intro w4 b4 c4; rw [splice_all _ _ LC] at b4; have B4 : Hid _ := b4; have F4 : Hid _ := below_chg1 (A3.out.done HB.out (by omega)) c4 (A3.out.done HB.out (by omega)).size (Nat.le_refl _); clear b4 c4))
    exact bodyPost_ret (results_row2 rfl _ _ w.heap.size 71 C _ _ rfl B4.out Try.underlying71 rfl (Try.leafZsz C LC) rfl) rfl ⟨by rw [orNone_yes]; rfl, F4.out⟩
  · have D4 : Hid _ := Blk.made w3 leafZ 71
    have B4 : Hid _ := B3.out.alloc (.cells leafZ.toArray 71)
    have F3 : Hid _ := A3.out.done HB.out (by omega)
    go_wp2_with (first | (refine wpList_load_part rfl 71 (.tmp 9) rfl w3.heap.size 0 leafZ rfl D4.out (by simp) Try.underlying71 rfl (Try.leafZsz _ rfl) ?_) | (refine wpList_store_part rfl 71 (.tmp 4) (.tmp 19) rfl w.heap.size 0 leafZ rfl rfl B4.out (Nat.le_of_eq (Nat.zero_add _)) (Try.leafZsz _ rfl) leafZ_one ?_; intro w4 b4 c4; rw [splice_all _ _ rfl] at b4; have B5 : Hid _ := b4; have F4 : Hid _ := below_chg1 (Below.alloc F3.out F3.out.size _) c4 (Nat.le_trans F3.out.size (by simp)) (Nat.le_refl _); clear b4 c4))
    exact bodyPost_ret (results_row2 rfl _ _ w.heap.size 71 leafZ _ _ rfl B5.out Try.underlying71 rfl (Try.leafZsz _ rfl) rfl) rfl ⟨by rw [orNone_no _ _ he]; rfl, F4.out⟩

theorem forkR_len (T : List Int) : (bs (forkS T 0 0).1).length = forkZ.length := by simp [forkZ, bs_len, forkS_len]
theorem forkA_len (T : List Int) : (forkA T).length = forkZ.length := orNone_len _ (forkR_len T)
theorem forkR_one (T : List Int) : ∀ u ∈ (bs (forkS T 0 0).1), u.oneCell' = true := bs_one _
theorem forkZ_one : ∀ u ∈ forkZ, u.oneCell' = true := bs_one _
theorem forkA_one (T : List Int) : ∀ u ∈ forkA T, u.oneCell' = true := orNone_one _ (forkR_one T) forkZ_one
theorem Try.forkZsz (C : List Value) (h : C.length = forkZ.length) : (Try.prog.info? 75).map (·.size) = some C.length := by rw [h]; exact Try.forkSz _ (by simp)

set_option maxRecDepth 100000 in
set_option maxHeartbeats 2000000 in
theorem forkWhole_any {w : World} {s : Value} {T : List Int} (h : In w s T) :
    Calls Try.prog 85 #[s, .func (.func 86) #[] #[]] w fun e w' => e = .returned (.tuple #[.agg (forkA T).toArray, .int .i64 (forkE T)]) ∧ Below w.heap.size w w' := by
  obtain ⟨W0, hW0⟩ : ∃ W0, W0 = (w.alloc (.cells forkZ.toArray 75)).alloc (.cells #[s, .int .i64 0, .int .i64 0] 195) := ⟨_, rfl⟩
  have hb1 : Below w.heap.size w (w.alloc (.cells forkZ.toArray 75)) := (Below.refl _ _).alloc (Nat.le_refl _) _
  have hb : Below w.heap.size w W0 := by rw [hW0]; exact hb1.alloc (by simp) _
  have A0 : At W0 W0 (w.heap.size + 1) 195 s T 0 0 := by
    have := In.at h 195 hb1
    rw [World.size_alloc, ← hW0] at this
    exact this
  have B0 : Hid (Blk W0 w.heap.size forkZ 75) := by rw [hW0]; exact (Blk.made w _ 75).alloc _
  have HC := fork_any A0.rp.1
  have HE : ∀ w', RS w' (w.heap.size + 1) 195 s T (forkS T 0 0).2.1 (forkS T 0 0).2.2 → _ := fun w' h => rEnd_any h
  obtain ⟨E, hE⟩ : ∃ E, E = forkE T := ⟨_, rfl⟩
  have hE2 : E = endE T (forkS T 0 0).2.1 (forkS T 0 0).2.2 := hE
  obtain ⟨C, hC⟩ : ∃ C, C = bs (forkS T 0 0).1 := ⟨_, rfl⟩
  have LC : C.length = forkZ.length := by rw [hC]; exact forkR_len T
  have OC : ∀ u ∈ C, u.oneCell' = true := by rw [hC]; exact forkR_one T
  have hA : forkA T = orNone E C forkZ := by rw [hE, hC]; rfl
  rw [← hE, hA]
  rw [← hC] at HC
  simp only [← hE2] at HE
  obtain ⟨A, hAA⟩ : ∃ A, A = (forkS T 0 0).2.1 := ⟨_, rfl⟩
  obtain ⟨R, hR⟩ : ∃ R, R = (forkS T 0 0).2.2 := ⟨_, rfl⟩
  rw [← hAA, ← hR] at HC
  simp only [← hAA, ← hR] at HE
  rw [hW0] at HC
  have KC : Hid _ := HC
  have KE : Hid _ := HE
  have HB : Hid _ := hb
  have KA : Hid _ := A0
  have HW : Hid _ := hW0
  have OCH : Hid _ := OC
  obtain ⟨a0, c0, hs, _⟩ := h.cap
  clear h hb1 hb A0 HC HE hE hE2 hC hA hAA hR hW0 OC
  subst hs
  go_enter Try.func85, Try.ntmps85
  go_wp2_with fail
  refine Calls.mono KC.out ?_
  rintro e w1 ⟨rfl, r1⟩
  rw [← HW.out] at r1
  have A1 : Hid _ := KA.out.call r1
  have B1 : Hid _ := KA.out.blk' B0.out (by omega) r1
  have D0 : Hid _ := Blk.made w1 forkZ 75
  have LT1 : w.heap.size < w1.heap.size := B1.out.lt
  clear r1 KC HW KA B0
  go_wp2_with (refine wpList_store_part rfl 75 (.tmp 7) (.tmp 14) rfl w1.heap.size 0 C rfl rfl D0.out (by rw [LC, Nat.zero_add]; exact Nat.le_refl _) (Try.forkZsz C LC) OCH.out ?_; intro w2 b2 c2; rw [splice_all _ _ LC] at b2; have D2 : Hid _ := b2; have B2 : Hid _ := (B1.out.alloc _).keep c2 (by omega); have A2 : Hid _ := (A1.out.alloc _).chg c2 A1.out.rp.2.size; clear b2 c2 D0)
  refine Calls.mono (KE.out _ A2.out.rp.1) ?_
  rintro e w3 ⟨rfl, n, rfl⟩
  have A3 : Hid _ := At.drewN A2.out n
  have D3 : Hid _ := Blk.drewN D2.out n
  have B3 : Hid _ := Blk.drewN B2.out n
  obtain ⟨w3, hw3⟩ : ∃ w3, w3 = w2.drewN n := ⟨_, rfl⟩
  rw [← hw3] at A3 D3 B3 ⊢
  clear hw3 A1 A2 D2 B2 B1 KE
  by_cases he : E = 0
  · subst he
    go_wp2_with (first | (refine wpList_load_part rfl 75 (.tmp 7) rfl w1.heap.size 0 C rfl D3.out (by simp) Try.underlying75 rfl (Try.forkZsz C LC) ?_) | (refine wpList_store_part rfl 75 (.tmp 4) (.tmp 21) rfl w.heap.size 0 C rfl rfl B3.out (by rw [LC, Nat.zero_add]; exact Nat.le_refl _) (Try.forkZsz C LC) OCH.out ?_; intro w4 b4 c4; rw [splice_all _ _ LC] at b4; have B4 : Hid _ := b4; have F4 : Hid _ := below_chg1 (A3.out.done HB.out (by omega)) c4 (A3.out.done HB.out (by omega)).size (Nat.le_refl _); clear b4 c4))
    exact bodyPost_ret (results_row2 rfl _ _ w.heap.size 75 C _ _ rfl B4.out Try.underlying75 rfl (Try.forkZsz C LC) rfl) rfl ⟨by rw [orNone_yes]; rfl, F4.out⟩
  · have D4 : Hid _ := Blk.made w3 forkZ 75
    have B4 : Hid _ := B3.out.alloc (.cells forkZ.toArray 75)
    have F3 : Hid _ := A3.out.done HB.out (by omega)
    go_wp2_with (first | (refine wpList_load_part rfl 75 (.tmp 9) rfl w3.heap.size 0 forkZ rfl D4.out (by simp) Try.underlying75 rfl (Try.forkZsz _ rfl) ?_) | (refine wpList_store_part rfl 75 (.tmp 4) (.tmp 19) rfl w.heap.size 0 forkZ rfl rfl B4.out (Nat.le_of_eq (Nat.zero_add _)) (Try.forkZsz _ rfl) forkZ_one ?_; intro w4 b4 c4; rw [splice_all _ _ rfl] at b4; have B5 : Hid _ := b4; have F4 : Hid _ := below_chg1 (Below.alloc F3.out F3.out.size _) c4 (Nat.le_trans F3.out.size (by simp)) (Nat.le_refl _); clear b4 c4))
    exact bodyPost_ret (results_row2 rfl _ _ w.heap.size 75 forkZ _ _ rfl B5.out Try.underlying75 rfl (Try.forkZsz _ rfl) rfl) rfl ⟨by rw [orNone_no _ _ he]; rfl, F4.out⟩

set_option maxRecDepth 100000 in
set_option maxHeartbeats 2000000 in
theorem leafCode_any {w : World} {s : Value} {T : List Int} (h : In w s T) :
    Calls Try.prog 27 #[s] w fun e w' => e = .returned (.tuple #[.agg (leafA T).toArray, .int .i64 (leafE T)]) ∧ Below w.heap.size w w' := by
  have HC := leafWhole_any (In.alloc h (.cells leafZ.toArray 71))
  have B0 := Blk.made w leafZ 71
  have LA := leafA_len T
  have OA : Hid _ := leafA_one T
  obtain ⟨C, hC⟩ : ∃ C, C = leafA T := ⟨_, rfl⟩
  obtain ⟨E, hE⟩ : ∃ E, E = leafE T := ⟨_, rfl⟩
  rw [← hC] at HC LA OA ⊢
  rw [← hE] at HC ⊢
  have KC : Hid _ := HC
  have KB : Hid _ := B0
  obtain ⟨a0, c0, hs, _⟩ := h.cap
  clear h HC B0 hC hE
  subst hs
  go_enter Try.func27, Try.ntmps27
  go_wp2_with fail
  refine Calls.mono KC.out ?_
  rintro e w1 ⟨rfl, b1⟩
  have B1 : Hid _ := KB.out.keep0 b1
  have F1 : Hid (Below w.heap.size w w1) := ((Below.refl _ _).alloc (Nat.le_refl _) _).trans (b1.mono (by simp))
  clear b1 KC KB
  go_wp2_with (refine wpList_store_part rfl 71 (.tmp 2) (.tmp 6) rfl w.heap.size 0 C rfl rfl B1.out (by rw [LA, Nat.zero_add]; exact Nat.le_refl _) (Try.leafZsz C LA) OA.out ?_; intro w4 b4 c4; rw [splice_all _ _ LA] at b4; have B4 : Hid _ := b4; have F4 : Hid _ := below_chg1 F1.out c4 F1.out.size (Nat.le_refl _); clear b4 c4)
  exact bodyPost_ret (results_row2 rfl _ _ w.heap.size 71 C _ _ rfl B4.out Try.underlying71 rfl (Try.leafZsz C LA) rfl) rfl ⟨rfl, F4.out⟩

set_option maxRecDepth 100000 in
set_option maxHeartbeats 2000000 in
theorem forkCode_any {w : World} {s : Value} {T : List Int} (h : In w s T) :
    Calls Try.prog 29 #[s] w fun e w' => e = .returned (.tuple #[.agg (forkA T).toArray, .int .i64 (forkE T)]) ∧ Below w.heap.size w w' := by
  have HC := forkWhole_any (In.alloc h (.cells forkZ.toArray 75))
  have B0 := Blk.made w forkZ 75
  have LA := forkA_len T
  have OA : Hid _ := forkA_one T
  obtain ⟨C, hC⟩ : ∃ C, C = forkA T := ⟨_, rfl⟩
  obtain ⟨E, hE⟩ : ∃ E, E = forkE T := ⟨_, rfl⟩
  rw [← hC] at HC LA OA ⊢
  rw [← hE] at HC ⊢
  have KC : Hid _ := HC
  have KB : Hid _ := B0
  obtain ⟨a0, c0, hs, _⟩ := h.cap
  clear h HC B0 hC hE
  subst hs
  go_enter Try.func29, Try.ntmps29
  go_wp2_with fail
  refine Calls.mono KC.out ?_
  rintro e w1 ⟨rfl, b1⟩
  have B1 : Hid _ := KB.out.keep0 b1
  have F1 : Hid (Below w.heap.size w w1) := ((Below.refl _ _).alloc (Nat.le_refl _) _).trans (b1.mono (by simp))
  clear b1 KC KB
  go_wp2_with (refine wpList_store_part rfl 75 (.tmp 2) (.tmp 6) rfl w.heap.size 0 C rfl rfl B1.out (by rw [LA, Nat.zero_add]; exact Nat.le_refl _) (Try.forkZsz C LA) OA.out ?_; intro w4 b4 c4; rw [splice_all _ _ LA] at b4; have B4 : Hid _ := b4; have F4 : Hid _ := below_chg1 F1.out c4 F1.out.size (Nat.le_refl _); clear b4 c4)
  exact bodyPost_ret (results_row2 rfl _ _ w.heap.size 75 C _ _ rfl B4.out Try.underlying75 rfl (Try.forkZsz C LA) rfl) rfl ⟨rfl, F4.out⟩
end Go.Proofs.Ytjmeaebehndheaa
