/-
  Pages as bytes: written whole, read whole.
-/
import Derived.Test.YtfkjgfelgiogeaaPgD
import Derived.Test.YtfkjgfelgiogeaaPgB
namespace Go.Proofs.Ytfkjgfelgiogeaa
open Go.RowKit

def pgZ : List Value := pgC 0 0 0 (.slice none 0 0) (.slice none 0 0) 0 (.slice none 0 0)
theorem pgZ_one : ∀ u ∈ pgZ, u.oneCell' = true := pgC_one _ _ _ _ rfl rfl rfl
theorem Try.pgZsz (C : List Value) (h : C.length = pgZ.length) : (Try.prog.info? 51).map (·.size) = some C.length := by rw [h]; exact Try.size51
theorem PG.mono {w : World} {B B' : Nat} {mv vv pv : Value} {ms vs ps : List (List Value)} (h : PG w B mv vv pv ms vs ps) (hB : B' ≤ B) : PG w B' mv vv pv ms vs ps := ⟨h.m, h.v, h.p, fun g hg => Nat.le_trans hB (h.nb g hg)⟩
/-- These cells are that page. -/
structure PgIs (w : World) (B : Nat) (S : PgS) (C : List Value) : Prop where
  ex : ∃ mv vv pv, C = pgC S.la S.wi S.se mv vv S.sz pv ∧ PG w B mv vv pv S.ms S.vs S.ps
theorem PgIs.kept {w w' : World} {B : Nat} {S : PgS} {C : List Value} (h : PgIs w B S C) {q : Nat} {cs : List Value} (hq : Blk w q cs 51) (c : Chg (fun k => k = q) w w') : PgIs w' B S C := by
  obtain ⟨mv, vv, pv, e, pg⟩ := h.ex
  exact ⟨mv, vv, pv, e, pg.kept c (fun g e => by rw [e]; exact hq.notEl)⟩
theorem PgIs.fresh {w w' : World} {B : Nat} {S : PgS} {C : List Value} (h : PgIs w B S C) (c : Chg (fun _ => False) w w') : PgIs w' B S C := by
  obtain ⟨mv, vv, pv, e, pg⟩ := h.ex
  exact ⟨mv, vv, pv, e, pg.fresh c⟩
theorem PgIs.mono {w : World} {B B' : Nat} {S : PgS} {C : List Value} (h : PgIs w B S C) (hB : B' ≤ B) : PgIs w B' S C := by
  obtain ⟨mv, vv, pv, e, pg⟩ := h.ex
  exact ⟨mv, vv, pv, e, pg.mono hB⟩
theorem PgIs.len {w : World} {B : Nat} {S : PgS} {C : List Value} (h : PgIs w B S C) : C.length = pgZ.length ∧ ∀ u ∈ C, u.oneCell' = true := by
  obtain ⟨mv, vv, pv, e, pg⟩ := h.ex
  rw [e]
  exact ⟨rfl, pgC_one _ _ _ _ pg.m.one pg.v.one pg.p.one⟩

theorem Try.pgSzP (T : Pg) : (Try.prog.info? 51).map (·.size) = some T.cells.length := Try.size51
set_option maxRecDepth 100000 in
set_option maxHeartbeats 4000000 in
theorem pageWhole_any {w : World} {s : Value} {T : List Int} (h : In w s T) :
    Calls Try.prog 54 #[s, .func (.func 55) #[] #[]] w fun e w' => ∃ C, e = .returned (.tuple #[.agg C.toArray, .int .i64 (pageE T)]) ∧ Below w.heap.size w w' ∧ (C.length = pgZ.length ∧ ∀ u ∈ C, u.oneCell' = true) ∧ (pageE T = 0 → PgIs w' w.heap.size (pageS T 0 0) C) ∧ (¬ pageE T = 0 → C = pgZ) := by
  obtain ⟨W0, hW0⟩ : ∃ W0, W0 = (w.alloc (.cells pgZ.toArray 51)).alloc (.cells #[s, .int .i64 0, .int .i64 0] 192) := ⟨_, rfl⟩
  have hb1 : Below w.heap.size w (w.alloc (.cells pgZ.toArray 51)) := (Below.refl _ _).alloc (Nat.le_refl _) _
  have hb : Below w.heap.size w W0 := by rw [hW0]; exact hb1.alloc (by simp) _
  have A0 : At W0 W0 (w.heap.size + 1) 192 s T 0 0 := by
    have := In.at h 192 hb1
    rw [World.size_alloc, ← hW0] at this
    exact this
  have B0 : Hid (Blk W0 w.heap.size pgZ 51) := by rw [hW0]; exact (Blk.made w _ 51).alloc _
  have HC := page_any A0.rp.1
  unfold pageE
  obtain ⟨S, hS⟩ : ∃ S, S = pageS T 0 0 := ⟨_, rfl⟩
  rw [← hS] at HC ⊢
  have HE : ∀ w', RS w' (w.heap.size + 1) 192 s T S.at_ S.err → _ := fun w' h => rEnd_any h
  obtain ⟨E, hE⟩ : ∃ E, E = endE T S.at_ S.err := ⟨_, rfl⟩
  rw [← hE]
  simp only [← hE] at HE
  rw [hW0] at HC
  have KC : Hid _ := HC
  have KE : Hid _ := HE
  have HB : Hid _ := hb
  have KA : Hid _ := A0
  have HW : Hid _ := hW0
  obtain ⟨a0, c0, hs, _⟩ := h.cap
  clear h hb1 hb A0 HC HE hE hW0 hS
  subst hs
  go_enter Try.func54, Try.ntmps54
  go_wp2_with fail
  refine Calls.mono KC.out ?_
  rintro e w1 ⟨mv, vv, pv, rfl, pg, r1⟩
  rw [← HW.out] at r1 pg
  obtain ⟨C, hC⟩ : ∃ C, C = pgC S.la S.wi S.se mv vv S.sz pv := ⟨_, rfl⟩
  have ti : PgIs w1 w.heap.size S C := ⟨mv, vv, pv, hC, pg.mono HB.out.size⟩
  obtain ⟨LC, OC⟩ := ti.len
  have OCH : Hid _ := OC
  have TI : Hid _ := ti
  rw [← hC]
  have A1 : Hid _ := KA.out.call r1
  have B1 : Hid _ := KA.out.blk' B0.out (by omega) r1
  have D0 : Hid _ := Blk.made w1 pgZ 51
  have LT1 : w.heap.size < w1.heap.size := B1.out.lt
  clear r1 KC HW KA B0 hC pg ti OC
  go_wp2_with (refine wpList_store_part rfl 51 (.tmp 7) (.tmp 14) rfl w1.heap.size 0 C rfl rfl D0.out (by rw [LC, Nat.zero_add]; exact Nat.le_refl _) (Try.pgZsz C LC) OCH.out ?_; intro w2 b2 c2; rw [splice_all _ _ LC] at b2; have D2 : Hid _ := b2; have B2 : Hid _ := (B1.out.alloc _).keep c2 (by omega); have A2 : Hid _ := (A1.out.alloc _).chg c2 A1.out.rp.2.size; have T2 : Hid _ := (TI.out.fresh ((Chg.refl (fun _ => False) w1).alloc _)).kept D0.out c2; clear b2 c2 D0)
  refine Calls.mono (KE.out _ A2.out.rp.1) ?_
  rintro e w3 ⟨rfl, n, rfl⟩
  have A3 : Hid _ := At.drewN A2.out n
  have D3 : Hid _ := Blk.drewN D2.out n
  have B3 : Hid _ := Blk.drewN B2.out n
  have T3 : Hid _ := T2.out.fresh (drewN_chg w2 n (fun _ => False))
  obtain ⟨w3, hw3⟩ : ∃ w3, w3 = w2.drewN n := ⟨_, rfl⟩
  rw [← hw3] at A3 D3 B3 T3 ⊢
  clear hw3 A1 A2 D2 B2 B1 KE T2 TI
  by_cases he : E = 0
  · subst he
    go_wp2_with (first | (refine wpList_load_part rfl 51 (.tmp 7) rfl w1.heap.size 0 C rfl D3.out (by simp) Try.underlying51 rfl (Try.pgZsz C LC) ?_) | (refine wpList_store_part rfl 51 (.tmp 4) (.tmp 21) rfl w.heap.size 0 C rfl rfl B3.out (by rw [LC, Nat.zero_add]; exact Nat.le_refl _) (Try.pgZsz C LC) OCH.out ?_; intro w4 b4 c4; rw [splice_all _ _ LC] at b4; have B4 : Hid _ := b4; have F4 : Hid _ := below_chg1 (A3.out.done HB.out (by omega)) c4 (A3.out.done HB.out (by omega)).size (Nat.le_refl _); have T4 : Hid _ := T3.out.kept B3.out c4; clear b4 c4))
    exact bodyPost_ret (results_row2 rfl _ _ w.heap.size 51 C _ _ rfl B4.out Try.underlying51 rfl (Try.pgZsz C LC) rfl) rfl ⟨C, rfl, F4.out, ⟨LC, OCH.out⟩, (by first | exact T4.out | exact ⟨fun _ => T4.out, fun e => absurd rfl e⟩)⟩
  · have D4 : Hid _ := Blk.made w3 pgZ 51
    have B4 : Hid _ := B3.out.alloc (.cells pgZ.toArray 51)
    have F3 : Hid _ := A3.out.done HB.out (by omega)
    go_wp2_with (first | (refine wpList_load_part rfl 51 (.tmp 9) rfl w3.heap.size 0 pgZ rfl D4.out (by simp) Try.underlying51 rfl (Try.pgZsz _ rfl) ?_) | (refine wpList_store_part rfl 51 (.tmp 4) (.tmp 19) rfl w.heap.size 0 pgZ rfl rfl B4.out (Nat.le_of_eq (Nat.zero_add _)) (Try.pgZsz _ rfl) pgZ_one ?_; intro w4 b4 c4; rw [splice_all _ _ rfl] at b4; have B5 : Hid _ := b4; have F4 : Hid _ := below_chg1 (Below.alloc F3.out F3.out.size _) c4 (Nat.le_trans F3.out.size (by simp)) (Nat.le_refl _); clear b4 c4))
    exact bodyPost_ret (results_row2 rfl _ _ w.heap.size 51 pgZ _ _ rfl B5.out Try.underlying51 rfl (Try.pgZsz _ rfl) rfl) rfl ⟨pgZ, rfl, F4.out, ⟨rfl, pgZ_one⟩, fun e => absurd e he, fun _ => rfl⟩

set_option maxRecDepth 100000 in
set_option maxHeartbeats 2000000 in
theorem pageCode_any {w : World} {s : Value} {T : List Int} (h : In w s T) :
    Calls Try.prog 18 #[s] w fun e w' => ∃ C, e = .returned (.tuple #[.agg C.toArray, .int .i64 (pageE T)]) ∧ Below w.heap.size w w' ∧ (C.length = pgZ.length ∧ ∀ u ∈ C, u.oneCell' = true) ∧ (pageE T = 0 → PgIs w' w.heap.size (pageS T 0 0) C) ∧ (¬ pageE T = 0 → C = pgZ) := by
  have HC := pageWhole_any (In.alloc h (.cells pgZ.toArray 51))
  have B0 := Blk.made w pgZ 51
  obtain ⟨S, hS⟩ : ∃ S, S = pageS T 0 0 := ⟨_, rfl⟩
  obtain ⟨E, hE⟩ : ∃ E, E = pageE T := ⟨_, rfl⟩
  rw [← hS, ← hE] at HC ⊢
  have KC : Hid _ := HC
  have KB : Hid _ := B0
  obtain ⟨a0, c0, hs, _⟩ := h.cap
  clear h HC B0 hS hE
  subst hs
  go_enter Try.func18, Try.ntmps18
  go_wp2_with fail
  refine Calls.mono KC.out ?_
  rintro e w1 ⟨C, rfl, b1, ⟨LA, OA⟩, ti, tz⟩
  have TZ : Hid _ := tz
  have OAH : Hid _ := OA
  have TI : Hid _ := ti
  have B1 : Hid _ := KB.out.keep0 b1
  have F1 : Hid (Below w.heap.size w w1) := ((Below.refl _ _).alloc (Nat.le_refl _) _).trans (b1.mono (by simp))
  clear b1 KC KB ti OA tz
  go_wp2_with (refine wpList_store_part rfl 51 (.tmp 2) (.tmp 6) rfl w.heap.size 0 C rfl rfl B1.out (by rw [LA, Nat.zero_add]; exact Nat.le_refl _) (Try.pgZsz C LA) OAH.out ?_; intro w4 b4 c4; rw [splice_all _ _ LA] at b4; have B4 : Hid _ := b4; have F4 : Hid _ := below_chg1 F1.out c4 F1.out.size (Nat.le_refl _); have T4 : Hid (E = 0 → PgIs w4 w.heap.size S C) := fun e => ((TI.out e).mono (by simp)).kept B1.out c4; clear b4 c4)
  exact bodyPost_ret (results_row2 rfl _ _ w.heap.size 51 C _ _ rfl B4.out Try.underlying51 rfl (Try.pgZsz C LA) rfl) rfl ⟨C, rfl, F4.out, ⟨LA, OAH.out⟩, T4.out, TZ.out⟩
end Go.Proofs.Ytfkjgfelgiogeaa
