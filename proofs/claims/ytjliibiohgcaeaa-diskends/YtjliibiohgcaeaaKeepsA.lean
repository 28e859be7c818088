/-
  What DiskKeeps asks of a disk on its way.
-/
import Derived.Test.YtjliibiohgcaeaaAct
namespace Go.Proofs.Ytjliibiohgcaeaa
open Go.RowKit Go.RwLone

/-- The sector of a number. -/
def nuK (S : Nat) (nm : Int) : Nat := (nm % (S : Int)).toNat
theorem nuK_cases {S : Nat} (hS : 0 < S) (nm : Int) : (nm.tmod S < 0 ∧ nm.tmod S + S = nuK S nm) ∨ (¬ nm.tmod S < 0 ∧ nm.tmod S = nuK S nm) := by
  have h1 := Int.emod_nonneg nm (show (S : Int) ≠ 0 by omega)
  unfold nuK
  by_cases h : 0 ≤ nm
  · rw [Int.tmod_eq_emod_of_nonneg h]
    right
    omega
  · have h3 := Int.tmod_eq_emod (a := nm) (b := S)
    have h4 := Int.lt_tmod_of_pos nm (show (0 : Int) < S by omega)
    rw [h3]
    by_cases h5 : (S : Int) ∣ nm
    · rw [if_pos (.inr h5)]
      right
      have := Int.emod_eq_zero_of_dvd h5
      omega
    · rw [if_neg (by omega)]
      left
      have h6 := Int.emod_lt_of_pos nm (show (0 : Int) < S by omega)
      have : ((S : Int).natAbs : Int) = S := by omega
      omega
theorem nuK_lt {S : Nat} (hS : 0 < S) (nm : Int) : nuK S nm < S := by
  have h1 := Int.emod_nonneg nm (show (S : Int) ≠ 0 by omega)
  have h2 := Int.emod_lt_of_pos nm (show (0 : Int) < S by omega)
  unfold nuK
  omega

/-- Acts with their lists of what a crash keeps; all of it below B. -/
structure AcK (w : World) (B : Nat) (a : Option Addr) (N : Nat) (ac : Nat → Ac) (kls : Nat → List Bool) : Prop where
  acs : Acs w a N ac
  kb : ∀ i, i < N → KB w (ac i).ka (ac i).kn (kls i)
  ls : ∀ i, i < N → -9223372036854775808 ≤ (ac i).less ∧ (ac i).less ≤ 9223372036854775807
  size : w.heap.size ≤ B

theorem AcK.low {w : World} {B : Nat} {a : Option Addr} {N : Nat} {ac : Nat → Ac} {kls : Nat → List Bool} (h : AcK w B a N ac kls) {i : Nat} (hi : i < N) : ∀ g o, 0 < (ac i).kn → (ac i).ka = some ⟨g, o, none⟩ → g < B := fun g o h0 e => by
  obtain ⟨g', o', e', hc⟩ := (h.kb i hi).row 0 h0
  rw [e] at e'
  injection e' with e'
  injection e' with e1 _
  have := World.block_lt_of_cell? _ _ hc
  have := h.size
  simp only at *
  omega
theorem AcK.kept {w w' : World} {B : Nat} {a : Option Addr} {N : Nat} {ac : Nat → Ac} {kls : Nat → List Bool} (h : AcK w B a N ac kls) (bl : Below B w w') {i : Nat} (hi : i < N) : KB w' (ac i).ka (ac i).kn (kls i) :=
  (h.kb i hi).chg (S := fun g => B ≤ g) ⟨bl.os, bl.tape, bl.output, bl.size, fun k _ hn => bl.block k (by omega)⟩ (fun g o h0 e h2 => by have := h.low hi g o h0 e; omega)
theorem AcK.cell {w w' : World} {B : Nat} {a : Option Addr} {N : Nat} {ac : Nat → Ac} {kls : Nat → List Bool} (h : AcK w B a N ac kls) (bl : Below B w w') {i : Nat} (hi : i < N) : ∃ g o, a = some ⟨g, o, none⟩ ∧ ∀ j v, (ac i).cells[j]? = some v → w'.cell? ⟨g, o + i * 9 + j, none⟩ = some v := by
  obtain ⟨g, o, e, hc⟩ := h.acs.row i hi
  refine ⟨g, o, e, fun j v hv => ?_⟩
  have h1 := hc j v hv
  have h2 := World.block_lt_of_cell? _ _ h1
  have := h.size
  simp only at h2
  exact (World.cell?_of_block (a := ⟨g, o + i * 9 + j, none⟩) (bl.block g (by omega))).trans h1

/-- A disk somewhere on its way. -/
structure DS (w : World) (B p S Z b : Nat) : Prop where
  ex : ∃ G x A F, AG w B G p S Z b x A F ∧ (-1 ≤ x.fuse ∧ x.fuse ≤ 9223372036854775807) ∧ ∀ t, S ≤ t → F t = none
/-- The same, with sector s safe. -/
structure DF (w : World) (B G p S Z b s : Nat) (l : List Int) : Prop where
  gd : Rw w G (bs l).toArray 5 ∧ l.length = Z
  ex : ∃ x A F, AG w B G p S Z b x A F ∧ (-1 ≤ x.fuse ∧ x.fuse ≤ 9223372036854775807) ∧ (∀ t, S ≤ t → F t = none) ∧ A s = [] ∧ F s = some l


/-- The power is on, no fuse burns, the cache holds pn writes. -/
structure AO (w : World) (N G p S z b pn : Nat) (A : Nat → List (Nat × List Int)) (F : Nat → Option (List Int)) : Prop where
  ex : ∃ x : Nums, x.fuse = -1 ∧ x.off = false ∧ x.pend = pn ∧ AG w N G p S z b x A F

section
variable {w w' : World} {B G p S Z b s : Nat} {l : List Int}
theorem DS.act (h : DS w B p S Z b) (hN : B ≤ w.heap.size) (hS : S ≤ 65536) (hz : Z ≤ 4096) (hz0 : 0 < Z) (hb : b < 4398046511104) (a : Ac) {kl : List Bool} (hk : KB w a.ka a.kn kl) (hka : ∀ g o, 0 < a.kn → a.ka = some ⟨g, o, none⟩ → g < B) (hnm : -9223372036854775808 ≤ a.nm ∧ a.nm ≤ 9223372036854775807) (hfl : 0 ≤ a.fill ∧ a.fill ≤ 255) (hls : -9223372036854775808 ≤ a.less ∧ a.less ≤ 9223372036854775807) :
    Calls Try.prog 25 #[.pointer (some ⟨p, 0, none⟩), .int .i64 Z, .agg a.cells.toArray] w fun e w' => e = .returned (.tuple #[]) ∧ Below B w w' ∧ DS w' B p S Z (b + 1) := by
  obtain ⟨G, x, A, F, hd, hf, hF⟩ := h.ex
  refine (act_any hd hN hf hS hz hz0 hb a hk hka hnm hfl hls).mono ?_
  rintro e w9 ⟨rfl, po⟩
  obtain ⟨x', A', F', h9, hf9, hk9⟩ := po.ex
  exact ⟨rfl, po.bl, G, x', A', F', h9, hf9, hk9.2 hF⟩
theorem DF.act (h : DF w B G p S Z b s l) (hN : B ≤ w.heap.size) (hS : S ≤ 65536) (hz : Z ≤ 4096) (hz0 : 0 < Z) (hb : b < 4398046511104) (a : Ac) {kl : List Bool} (hk : KB w a.ka a.kn kl) (hka : ∀ g o, 0 < a.kn → a.ka = some ⟨g, o, none⟩ → g < B) (hnm : -9223372036854775808 ≤ a.nm ∧ a.nm ≤ 9223372036854775807) (hfl : 0 ≤ a.fill ∧ a.fill ≤ 255) (hls : -9223372036854775808 ≤ a.less ∧ a.less ≤ 9223372036854775807) (hs : (a.kd = 2 ∨ a.kd = 9) → a.nm ≠ (s : Int)) :
    Calls Try.prog 25 #[.pointer (some ⟨p, 0, none⟩), .int .i64 Z, .agg a.cells.toArray] w fun e w' => e = .returned (.tuple #[]) ∧ Below B w w' ∧ DF w' B G p S Z (b + 1) s l := by
  obtain ⟨x, A, F, hd, hf, hF, hA, hl⟩ := h.ex
  refine (act_any hd hN hf hS hz hz0 hb a hk hka hnm hfl hls).mono ?_
  rintro e w9 ⟨rfl, po⟩
  obtain ⟨x', A', F', h9, hf9, hk9⟩ := po.ex
  obtain ⟨k1, k2⟩ := hk9.1 s hs hA
  exact ⟨rfl, po.bl, ⟨po.ot.gd _ h.gd.1, h.gd.2⟩, x', A', F', h9, hf9, hk9.2 hF, k1, by rw [k2]; exact hl⟩
theorem DF.mono {b' : Nat} (h : DF w B G p S Z b s l) (hb : b ≤ b') : DF w B G p S Z b' s l := by
  obtain ⟨x, A, F, hd, q⟩ := h.ex
  exact ⟨h.gd, x, A, F, hd.mono hb, q⟩
theorem DF.more (h : DF w B G p S Z b s l) (k : Chg (fun _ => False) w w') : DF w' B G p S Z b s l := by
  obtain ⟨x, A, F, hd, q⟩ := h.ex
  exact ⟨⟨⟨k.heap_some h.gd.1.eq (fun h => h)⟩, h.gd.2⟩, x, A, F, hd.more k, q⟩
/-- A crash that keeps nothing, ahead of the write. -/
theorem DS.crash (h : DS w B p S Z b) (hN : B ≤ w.heap.size) (hS : S ≤ 65536) (hz : Z ≤ 4096) (hb : b ≤ 4398046511104) :
    Calls Try.prog 22 #[.pointer (some ⟨p, 0, none⟩), .agg #[.slice none 0 0, .int .i64 (-1), .int .i64 0]] w fun e w' => e = .returned (.tuple #[]) ∧ Below B w w' ∧ ∃ G F, AO w' B G p S Z b 0 (fun _ => []) F ∧ ∀ t, S ≤ t → F t = none := by
  obtain ⟨G, x, A, F, hd, hf, hF⟩ := h.ex
  refine (hd.crash hN hS hb hz (a := none) (n := 0) (cN := 0) (kl := []) ⟨rfl, fun i hi => by omega, by omega⟩ (fun _ _ h => by omega) (-1) 0).mono ?_
  rintro e w9 ⟨rfl, bl, ot, era, h9⟩
  refine ⟨rfl, bl, G, _, ⟨{ x with pend := 0, fuse := -1, off := false, era := era }, rfl, rfl, rfl, h9⟩, fun t ht => ?_⟩
  show foldA _ _ (A t) (F t) = none
  rw [hd.low t ht, hF t ht]
  rfl
theorem DF.crash (h : DF w B G p S Z b s l) (hN : B ≤ w.heap.size) (hS : S ≤ 65536) (hz : Z ≤ 4096) (hb : b ≤ 4398046511104) :
    Calls Try.prog 22 #[.pointer (some ⟨p, 0, none⟩), .agg #[.slice none 0 0, .int .i64 (-1), .int .i64 0]] w fun e w' => e = .returned (.tuple #[]) ∧ Below B w w' ∧ (Rw w' G (bs l).toArray 5 ∧ l.length = Z) ∧ ∃ F, AO w' B G p S Z b 0 (fun _ => []) F ∧ (∀ t, S ≤ t → F t = none) ∧ F s = some l := by
  obtain ⟨x, A, F, hd, hf, hF, hA, hl⟩ := h.ex
  refine (hd.crash hN hS hb hz (a := none) (n := 0) (cN := 0) (kl := []) ⟨rfl, fun i hi => by omega, by omega⟩ (fun _ _ h => by omega) (-1) 0).mono ?_
  rintro e w9 ⟨rfl, bl, ot, era, h9⟩
  refine ⟨rfl, bl, ⟨ot.gd _ h.gd.1, h.gd.2⟩, _, ⟨{ x with pend := 0, fuse := -1, off := false, era := era }, rfl, rfl, rfl, h9⟩, fun t ht => ?_, ?_⟩
  · show foldA _ _ (A t) (F t) = none
    rw [hd.low t ht, hF t ht]
    rfl
  · show foldA _ _ (A s) (F s) = some l
    rw [hA, hl]
    rfl
/-- What Read tells of the sector that is safe. -/
theorem DF.read (h : DF w B G p S Z b s l) (hN : B ≤ w.heap.size) (hs : s < S) (hS : S ≤ 65536) (hz : Z ≤ 4096) (hb : b ≤ 4398046511104) :
    Calls Try.prog 12 #[.pointer (some ⟨p, 0, none⟩), .int .i64 s] w fun e w' => ((∃ g, e = .returned (.tuple #[.slice (some ⟨g, 0, none⟩) Z Z, .int .i64 0]) ∧ Rw w' g (bs l).toArray 5) ∨ e = .returned (.tuple #[.slice none 0 0, .int .i64 32])) ∧ Below B w w' ∧ DF w' B G p S Z b s l := by
  obtain ⟨x, A, F, hd, hf, hF, hA, hl⟩ := h.ex
  obtain ⟨m, c, kc, km, L, V, D, K, E, C, hc, q⟩ := hd.ex
  have hp := hd.np
  cases ho : x.off with
  | false =>
    refine (hd.read hN ho s hs hS hz hb).mono ?_
    rintro e w9 ⟨g, q, rfl, hg, _, bl, ot, h9⟩
    have e9 : (lastA (A s) (F s)).getD (zs Z) = l := by rw [hA, hl]; rfl
    rw [e9] at hg
    exact ⟨.inl ⟨g, rfl, hg⟩, bl, ⟨ot.gd _ h.gd.1, h.gd.2⟩, _, A, F, h9, hf, hF, hA, hl⟩
  | true =>
    refine (Go.Proofs.Ytjliibiohgcaeaa.read_off hc.dd.row ho s hs hS).mono ?_
    rintro e w9 ⟨rfl, hr, ch⟩
    exact ⟨.inr rfl, ch.below hN (fun i e => by omega), ⟨Rw.chg1 h.gd.1 ch (Rw.ne h.gd.1 hc.dd.row (by decide)), h.gd.2⟩, x, A, F, ⟨⟨m, c, kc, km, L, V, D, K, E, C, hc.turn ch hr rfl (Nat.le_refl _), q⟩, hp, Nat.lt_of_lt_of_le hd.gl ch.size⟩, hf, hF, hA, hl⟩

variable {pn : Nat} {A : Nat → List (Nat × List Int)} {F : Nat → Option (List Int)}
theorem AO.lt (h : AO w B G p S Z b pn A F) : p < w.heap.size := by
  obtain ⟨x, _, _, _, hd⟩ := h.ex
  exact hd.lt
theorem AO.more (h : AO w B G p S Z b pn A F) (k : Chg (fun _ => False) w w') : AO w' B G p S Z b pn A F := by
  obtain ⟨x, h1, h2, h3, hd⟩ := h.ex
  exact ⟨x, h1, h2, h3, hd.more k⟩
theorem AO.regard {G' : Nat} (h : AO w B G p S Z b pn A F) (k : Chg (fun _ => False) w w') (h1 : w.heap.size ≤ G') (h2 : G' < w'.heap.size) : AO w' B G' p S Z b pn A F := by
  obtain ⟨x, q1, q2, q3, hd⟩ := h.ex
  exact ⟨x, q1, q2, q3, hd.regard k h1 h2⟩
theorem AO.write (h : AO w B G p S Z b pn A F) (hN : B ≤ w.heap.size) {l : List Int} {ab : Option Addr} {cb : Nat} (hs : Src w (.slice ab Z cb) l) (hl : l.length = Z) (hz0 : 0 < Z) (hz : Z ≤ 4096) (s : Nat) (hsS : s < S) (hS : S ≤ 65536) (hb : b < 4398046511104) (hsp : (Value.slice ab Z cb).ownBlock ≠ some p) :
    Calls Try.prog 19 #[.pointer (some ⟨p, 0, none⟩), .int .i64 s, .slice ab Z cb] w fun e w' => e = .returned (.int .i64 0) ∧ Below B w w' ∧ OtG G w w' ∧ AO w' B G p S Z (b + 1) (pn + 1) (updT A s (A s ++ [(pn, l)])) F := by
  obtain ⟨x, h1, h2, h3, hd⟩ := h.ex
  obtain ⟨e1, e2⟩ := burn_on h1 h2
  refine (hd.write hN hs hl hz0 hz s hsS hS hb (by omega) (by omega) e1 hsp h3).mono ?_
  rintro e w9 ⟨rfl, bl, ot, q, h9⟩
  rw [e2] at h9
  exact ⟨rfl, bl, ot, ⟨{ x with pend := ((pn + 1 : Nat) : Int), wr := q }, h1, h2, rfl, h9⟩⟩
theorem AO.flush (h : AO w B G p S Z b pn A F) (hN : B ≤ w.heap.size) (hS : S ≤ 65536) (hb : b ≤ 4398046511104) :
    Calls Try.prog 21 #[.pointer (some ⟨p, 0, none⟩)] w fun e w' => e = .returned (.int .i64 0) ∧ Below B w w' ∧ OtG G w w' ∧ AO w' B G p S Z b 0 (fun _ => []) (fun t => lastA (A t) (F t)) := by
  obtain ⟨x, h1, h2, h3, hd⟩ := h.ex
  obtain ⟨e1, e2⟩ := burn_on h1 h2
  refine (hd.flush hN hS hb (by omega) (by omega) e1).mono ?_
  rintro e w9 ⟨rfl, bl, ot, q, h9⟩
  rw [e2] at h9
  exact ⟨rfl, bl, ot, ⟨{ x with pend := 0, fl := q }, h1, h2, rfl, h9⟩⟩
theorem AO.read (h : AO w B G p S Z b pn A F) (hN : B ≤ w.heap.size) (s : Nat) (hs : s < S) (hS : S ≤ 65536) (hz : Z ≤ 4096) (hb : b ≤ 4398046511104) :
    Calls Try.prog 12 #[.pointer (some ⟨p, 0, none⟩), .int .i64 s] w fun e w' => ∃ g, e = .returned (.tuple #[.slice (some ⟨g, 0, none⟩) Z Z, .int .i64 0]) ∧ Rw w' g (bs ((lastA (A s) (F s)).getD (zs Z))).toArray 5 ∧ w.heap.size ≤ g ∧ Below B w w' ∧ OtG G w w' ∧ AO w' B G p S Z b pn A F := by
  obtain ⟨x, h1, h2, h3, hd⟩ := h.ex
  refine (hd.read hN h2 s hs hS hz hb).mono ?_
  rintro e w9 ⟨g, q, rfl, hg, hl, bl, ot, h9⟩
  exact ⟨g, rfl, hg, hl, bl, ot, ⟨{ x with rd := q }, h1, h2, h3, h9⟩⟩
theorem imgT_zero {z S : Nat} {F : Nat → Option (List Int)} {t j : Nat} (hj : j / z = t) (h1 : F t = none) : (imgT z S F).getD j 0 = 0 := by
  unfold imgT
  rw [List.getD_eq_getElem?_getD, List.getElem?_map]
  by_cases hj2 : j < S * z
  · rw [List.getElem?_range hj2]
    show ((F (j / z)).getD (zs z)).getD (j % z) 0 = 0
    rw [hj, h1]
    show (zs z).getD (j % z) 0 = 0
    unfold zs
    rw [List.getD_eq_getElem?_getD, List.getElem?_replicate]
    split <;> rfl
  · rw [List.getElem?_eq_none (by simp; omega)]
    rfl
theorem AO.image {G2 : Nat} (h : AO w B G p S Z b pn A F) (hN : B ≤ w.heap.size) (hFS : ∀ t, S ≤ t → F t = none) (hz : Z ≤ 4096) (hz0 : 0 < Z) (hb : S * Z ≤ 16777216) :
    Calls Try.prog 13 #[.pointer (some ⟨p, 0, none⟩)] w fun e w' => ∃ g, e = .returned (.slice (some ⟨g, 0, none⟩) (S * Z) (S * Z)) ∧ Rw w' g (bs (imgT Z S F)).toArray 5 ∧ Below B w w' ∧ OtG G w w' ∧ OtG G2 w w' := by
  obtain ⟨x, h1, h2, h3, hd⟩ := h.ex
  obtain ⟨m, c, kc, km, L, V, D, K, E, C, hc, hm, hcN, hV, hK, hL, hA, hF, hKG, hLG⟩ := hd.ex
  have hp := hd.np
  refine (imageG hc.dd.row hc.dd.du hc.dd.mp hc.kr (T := imgT Z S F) (fun t g hg => ?_) (fun t ht hKt j hj => imgT_zero hj (by rw [← hF t, hKt]; rfl)) hz hz0 (imgT_len Z S F) hb).mono ?_
  · have ht : t < S := Classical.byContradiction fun e => by
      have h1 := hFS t (by omega)
      rw [← hF t, hg] at h1
      cases h1
    exact ⟨ht, imgT_piece hz0 ht (by rw [← hF t, hg]; rfl) (hc.kr t g hg).2⟩
  · rintro e w9 ⟨g, rfl, hg, hgl, hr, ch⟩
    exact ⟨g, rfl, hg, ch.below hN (fun i e => by omega), ⟨Oth.chg ch (fun i e => oth_row hc.dd.row e), fun cs hg => Rw.chg1 hg ch (Rw.ne hg hc.dd.row (by decide))⟩, ⟨Oth.chg ch (fun i e => oth_row hc.dd.row e), fun cs hg => Rw.chg1 hg ch (Rw.ne hg hc.dd.row (by decide))⟩⟩
end
end Go.Proofs.Ytjliibiohgcaeaa
