import Derived.Test.YtddnecfnjnipjaaCache
/-
  The durable map in general; latest over both maps.
-/
namespace Go.Proofs.Ytddnecfnjnipjaa
open Go.RowKit

/-- A sector's durable bytes: none, or in block g. -/
def duE : Option Nat → DataW Unit
  | none => .nil
  | some g => .lit (.int .i64 g)
def duV (z : Nat) : Option Nat → Value
  | none => .slice none 0 0
  | some g => .slice (some ⟨g, 0, none⟩) z z

/-- The durable map: sector s lies in block K s, if it is there. -/
structure Du (w : World) (m k z : Nat) (K : Nat → Option Nat) (D : DataW Unit) : Prop where
  own : w.ownsMap Try.prog 3 (blkElem z) m k D
  at_ : ∀ s, D.atKey (kI s) .nil = duE (K s)
  has : ∀ kl, Maps.has D kl = true ↔ ∃ s, kl = kI s ∧ K s ≠ none

theorem Du.start {w : World} {m z : Nat} (h : w.heap[m]? = some (.map #[] 0)) : Du w m 0 z (fun _ => Option.none) (.map []) :=
  ⟨⟨#[], 0, h, ⟨by simp, MapKept.stamped_empty 0, by simp⟩, Nat.le_refl _, rfl⟩, fun _ => rfl, fun kl => by simp [Maps.has]⟩
theorem blkElem_nil {z : Nat} {v : Value} {ps : List MemPlace} (h : blkElem z v = some (.nil, ps)) : v = .slice none 0 0 := by
  unfold blkElem at h
  split at h
  · rfl
  · split at h
    · simp at h
    · cases h
  · cases h
theorem Du.lookup {w : World} {m k z : Nat} {K : Nat → Option Nat} {D : DataW Unit} (h : Du w m k z K D) (s : Nat) (hs : s ≤ 65536) : (Instr.lookup 80 (.map (some m)) (.int .i64 s) false).run Try.prog w = .ok (duV z (K s)) w := by
  have hwf : (Lit.int .i64 (s : Int)).wf = true := WalkArith.wf_i64 (by omega)
  obtain ⟨v, ps, h1, h2⟩ := h.own.lookup (t := 80) (e := 48) keyed3 Try.underlying80 (z := .slice none 0 0) (by kernel_rfl) (zd := .nil) (zp := []) rfl (Maps.keyOf_int_mk Try.underlying3 hwf)
  have e := h.at_ s
  unfold kI at e
  rw [e] at h2
  rw [h1]
  cases hK : K s with
  | none => rw [hK] at h2; rw [blkElem_nil h2]; rfl
  | some g => rw [hK] at h2; rw [blkElem_inv h2]; rfl

/-- What latest gives. -/
def latV (z : Nat) (l : List (Nat × Nat)) (k : Option Nat) : Value :=
  match l.getLast? with
  | some x => .slice (some ⟨x.2, 0, none⟩) z z
  | none => duV z k

theorem wcells_at (z : Nat) (l : List (Nat × Nat)) (x : Nat × Nat) : (wcells z (l ++ [x]))[l.length * 2 + 1]? = some (.slice (some ⟨x.2, 0, none⟩) z z) := by
  rw [wcells_app, List.getElem?_append_right (by rw [wcells_len]; omega), wcells_len, show l.length * 2 + 1 - l.length * 2 = 1 by omega]
  rfl

set_option maxRecDepth 100000 in
set_option maxHeartbeats 2000000 in
theorem latestG {w : World} {p m c km kc z : Nat} {K : Nat → Option Nat} {D : DataW Unit} {L : Nat → List (Nat × Nat)} {V : Nat → Value} {E : DataW Unit} (hm : Du w m km z K D) (hc : Ca w c kc z L V E) (h8 : w.cell? ⟨p, 8, none⟩ = some (.map (some m))) (h9 : w.cell? ⟨p, 9, none⟩ = some (.map (some c))) (s : Nat) (hs : s ≤ 65536) (hl : (L s).length ≤ 4398046511104) :
    Calls Try.prog 42 #[.pointer (some ⟨p, 0, none⟩), .int .i64 s] w fun e w' => e = .returned (latV z (L s) (K s)) ∧ w = w' := by
  have k1 := hm.lookup s hs
  have k2 := hc.lookup s hs
  rcases (hc.row s).2 with ⟨e, h0⟩ | ⟨g, cap, cur, e, _, hgg, h1, h2, h3, h4⟩
  · have hnil : L s = [] := List.eq_nil_of_length_eq_zero h0
    rw [e] at k2
    have hlat : latV z (L s) (K s) = duV z (K s) := by rw [hnil]; rfl
    obtain ⟨a0, n0, c0, hdu⟩ : ∃ a n c, duV z (K s) = .slice a n c := by cases K s with | none => exact ⟨_, _, _, rfl⟩ | some g => exact ⟨_, _, _, rfl⟩
    rw [hlat, hdu]
    rw [hdu] at k1
    clear hm hc e h0 hnil hlat hdu
    go_enter Try.func42, Try.ntmps42
    go_wp2_with fail
    go_ret
    exact ⟨rfl, rfl⟩
  · by_cases hn : (L s).length = 0
    · have hnil : L s = [] := List.eq_nil_of_length_eq_zero hn
      rw [e, hn] at k2
      have hlat : latV z (L s) (K s) = duV z (K s) := by rw [hnil]; rfl
      obtain ⟨a0, n0, c0, hdu⟩ : ∃ a n c, duV z (K s) = .slice a n c := by cases K s with | none => exact ⟨_, _, _, rfl⟩ | some g => exact ⟨_, _, _, rfl⟩
      rw [hlat, hdu]
      rw [hdu] at k1
      clear hm hc e hn hnil hlat hdu h4 hgg
      go_enter Try.func42, Try.ntmps42
      go_wp2_with fail
      go_ret
      exact ⟨rfl, rfl⟩
    · obtain ⟨l, x, hlx⟩ : ∃ l x, L s = l ++ [x] := ⟨(L s).dropLast, (L s).getLast (by intro e2; rw [e2] at hn; exact hn rfl), (List.dropLast_concat_getLast _).symm⟩
      have hlat : latV z (L s) (K s) = .slice (some ⟨x.2, 0, none⟩) z z := by rw [hlx]; simp [latV]
      have hlen : (L s).length = l.length + 1 := by rw [hlx]; simp
      obtain ⟨N, hN⟩ : ∃ N, N = l.length := ⟨_, rfl⟩
      have hcell : w.cell? ⟨g, N * 2 + 1, none⟩ = some (.slice (some ⟨x.2, 0, none⟩) z z) := by
        rw [cell_of_row w g _ cur 90 _ hgg]
        have q := wcells_at z l x
        rw [← hlx, ← h4, List.getElem?_take] at q
        rw [hN]
        split at q
        · simpa using q
        · cases q
      rw [e, hlen, ← hN] at k2
      rw [hlat]
      rw [hlen, ← hN] at hl
      clear hm hc e hn hlx hlat hlen hN h4 hgg h1 h3
      go_enter Try.func42, Try.ntmps42
      go_wp2_with fail
      go_ret
      exact ⟨rfl, rfl⟩
end Go.Proofs.Ytddnecfnjnipjaa

/-
  The durable map: a store into it, and what keeps it.
-/
namespace Go.Proofs.Ytddnecfnjnipjaa
open Go.RowKit

theorem Du.kept {w w' : World} {m k z : Nat} {K : Nat → Option Nat} {D : DataW Unit} (h : Du w m k z K D) {row : Option Nat} (g : w.grownBy w' row) (hm : some m ≠ row) : Du w' m k z K D :=
  ⟨h.own.kept g hm, h.at_, h.has⟩
theorem Du.alloc {w : World} {m k z : Nat} {K : Nat → Option Nat} {D : DataW Unit} (h : Du w m k z K D) (o : Obj) : Du (w.alloc o) m k z K D := ⟨h.own.alloc o, h.at_, h.has⟩

/-- Sector s is given block g. -/
theorem Du.put {w : World} {m k z : Nat} {K : Nat → Option Nat} {D : DataW Unit} (h : Du w m k z K D) (s : Nat) (hs : s ≤ 65536) (g : Nat) (hk : k ≤ 4398046511104) :
    ∃ w', (Instr.mapUpdate 80 (.map (some m)) (.int .i64 s) (.slice (some ⟨g, 0, none⟩) z z)).run Try.prog w = .ok () w' ∧ (∃ D', Du w' m (k + 1) z (fun t => if t = s then some g else K t) D') ∧ w.grownBy w' (some m) := by
  have hwf : (Lit.int .i64 (s : Int)).wf = true := WalkArith.wf_i64 (by omega)
  obtain ⟨w2, g1, g2, g3⟩ := h.own.update (t := 80) (e := 48) keyed3 Try.underlying80 (by unfold maxLen; omega) (Maps.keyOf_int_mk Try.underlying3 hwf) (blkElem_mk z g)
  have hM : Maps.IsMap D := h.own.isMap
  have hkey : WideAt.IsKeyLit (.int .i64 (s : Int)) := trivial
  refine ⟨w2, g1, ⟨_, ⟨g2, fun t => ?_, fun kl => ?_⟩⟩, g3⟩
  · by_cases e : t = s
    · subst e
      show (D.put (.int .i64 (t : Int)) _).atKey (.int .i64 (t : Int)) .nil = _
      rw [Maps.atKey_put_same hM hkey, if_pos rfl]
      rfl
    · rw [Maps.atKey_put_other (by unfold kI; intro e2; injection e2 with _ e2; omega), if_neg e]
      exact h.at_ t
  · by_cases e : kl = .int .i64 (s : Int)
    · subst e
      rw [Maps.has_put_same hM hkey]
      exact ⟨fun _ => ⟨s, rfl, by simp⟩, fun _ => rfl⟩
    · rw [Maps.has_put_other e, h.has kl]
      constructor
      · rintro ⟨t, rfl, ht⟩
        exact ⟨t, rfl, by rw [if_neg (fun e2 => e (by rw [e2]; rfl))]; exact ht⟩
      · rintro ⟨t, rfl, ht⟩
        have hts : ¬ t = s := fun e2 => e (by rw [e2]; rfl)
        rw [if_neg hts] at ht
        exact ⟨t, rfl, ht⟩
end Go.Proofs.Ytddnecfnjnipjaa

/-
  Read over both maps, where the sector's bytes lie in a block.
-/
namespace Go.Proofs.Ytddnecfnjnipjaa
open Go.RowKit Go.RwLone

set_option maxRecDepth 100000 in
set_option maxHeartbeats 2000000 in
theorem read_blk {w : World} {p m c km kc z S B : Nat} {x : Nums} {K : Nat → Option Nat} {D : DataW Unit} {L : Nat → List (Nat × Nat)} {V : Nat → Value} {E : DataW Unit} {l : List Int} (h : Rw w p (dkG S z m c x) 86) (hoff : x.off = false) (hdu : Du w m km z K D) (hca : Ca w c kc z L V E)
    (hmp : m ≠ p) (hcp : c ≠ p) (hVp : ∀ t, (V t).ownBlock ≠ some p) (s : Nat) (hsS : s < S) (hS : S ≤ 65536) (hLs : (L s).length ≤ 4398046511104) (hlat : latV z (L s) (K s) = .slice (some ⟨B, 0, none⟩) z z) (hB : Rw w B (bs l).toArray 5) (hl : l.length = z) (hz : z ≤ 4096) :
    Calls Try.prog 44 #[.pointer (some ⟨p, 0, none⟩), .int .i64 s] w fun e w' => ∃ g, e = .returned (.tuple #[.slice (some ⟨g, 0, none⟩) z z, .int .i64 0]) ∧ Rw w' g (bs l).toArray 5 ∧ w.heap.size ≤ g ∧ Rw w' p (dkG S z m c { x with rd := inc x.rd }) 86 ∧ Chg (fun k => k = p) w w' := by
  have DKh : Calls Try.prog 36 #[.pointer (some ⟨p, 0, none⟩), .int .i64 s] w fun e w' => e = .returned (.bool true) ∧ w = w' := by
    have c0 : w.cell? ⟨p, 0, none⟩ = some (.int .i64 S) := h.cell 0
    clear h hdu hca hlat hB
    go_enter Try.func36, Try.ntmps36
    go_wp2_with fail
    go_ret
    exact ⟨rfl, rfl⟩
  have HH : Hid _ := DKh
  have c2 : w.cell? ⟨p, 2, none⟩ = some (.int .i32 0) := h.cell 2
  have c5 : w.cell? ⟨p, 5, none⟩ = some (.int .u32 0) := h.cell 5
  have c6 : w.cell? ⟨p, 6, none⟩ = some (.int .i32 0) := h.cell 6
  have f6 := h.fr 6
  have hmk := run_mk z (by omega)
  have R0 : Hid _ := h
  have U0 : Hid _ := hdu
  have A0 : Hid _ := hca
  have B0 : Hid _ := hB
  have LT : Hid _ := hlat
  have VP : Hid _ := hVp
  have OFF : Hid _ := hoff
  clear h DKh hdu hca hB hlat hVp hoff
  go_enter_defers Try.func44, Try.ntmps44
  go_wp2_with (go_at_call 36; refine Calls.mono HH.out ?_; rintro e w9 ⟨rfl, h9⟩; subst h9)
  refine (rlock_open Try.rwRLib p 2 0 _ _ _ c2 c5 c6 f6 (by rw [wr1]; decide)).mono ?_
  rintro e w' ⟨rfl, rfl⟩
  rw [wr1]
  obtain ⟨w1, hw1⟩ : ∃ w1, w1 = w.setCell ⟨p, 2 + 4, none⟩ (.int .i32 1) := ⟨_, rfl⟩
  rw [← hw1]
  have r1 : Rw w1 p ((dkG S z m c x).setIfInBounds 6 (.int .i32 1)) 86 := by rw [hw1]; exact R0.out.set 6 _
  have hc1 : Chg (fun k => k = p) w w1 := by rw [hw1]; exact (Chg.refl (fun k => k = p) w).setCell (.inl rfl) _
  have C1 : Hid _ := hc1
  have R1 : Hid _ := r1
  have d12 : w1.cell? ⟨p, 12, none⟩ = some (.bool false) := by rw [← OFF.out]; exact r1.cell 12
  have d1 : w1.cell? ⟨p, 1, none⟩ = some (.int .i64 z) := r1.cell 1
  clear c2 c5 c6 f6 hw1 r1 HH hc1
  go_wp2_with fail
  obtain ⟨w2, hw2⟩ : ∃ w2, w2 = w1.alloc (.cells (zer z).toArray 5) := ⟨_, rfl⟩
  rw [← hw2]
  have hb2 : Below w1.heap.size w1 w2 := by rw [hw2]; exact (Below.refl _ _).alloc (Nat.le_refl _) _
  have hsz1 : w.heap.size ≤ w1.heap.size := C1.out.size
  have R2 : Hid _ := Rw.keep R1.out hb2
  have Z2 : Hid (Rw w2 w1.heap.size (zer z).toArray 5) := by rw [hw2]; exact ⟨heap_alloc_new _ _⟩
  have C2 : Hid (Chg (fun k => k = p) w w2) := C1.out.trans (Chg.of_below hb2 (fun _ => False)) (fun _ h => h.elim)
  have B2 : Hid (Rw w2 B (bs l).toArray 5) := Rw.chg1 B0.out C2.out (Rw.ne B0.out R0.out (by decide))
  have plt : p < w1.heap.size := Rw.lt R1.out
  have U2 : Hid _ := Du.kept U0.out (grown_of C2.out) (by intro e; injection e with e; exact hmp e)
  have A2 : Hid _ := Ca.kept A0.out (grown_of C2.out) (by intro e; injection e with e; exact hcp e) (fun t b hb e => VP.out t (by rw [hb, e]))
  clear hw2 R1 C1 d12 d1 hmk hb2
  refine Calls.mono (latestG U2.out A2.out (Rw.cell R2.out 8) (Rw.cell R2.out 9) s (by omega) hLs) ?_
  rintro e w9 ⟨rfl, h9⟩
  subst h9
  rw [LT.out]
  go_wp2_with (refine wpList_copy_to rfl (.tmp 27) (.tmp 30) rfl w1.heap.size 0 z z ⟨B, 0, none⟩ z z rfl rfl Z2.out (bs l) (by rw [bs_len, hl]; exact (Nat.min_self z).symm) (fun j v hv => by rw [addr_add, Nat.zero_add, Rw.cell B2.out j]; simpa using hv) (by simp [bs_len, hl, zer]) (bs_one _) ?_; intro w3 r3 c3; have Z3 : Hid _ := r3; have C3 : Hid _ := c3; clear r3 c3)
  have e3 : splice (zer z) 0 (bs l) = bs l := by have := splice_zer l; rwa [hl] at this
  have R3 : Hid _ := Rw.chg1 R2.out C3.out (by omega)
  refine Calls.mono (u64add_any ⟨p, 14, none⟩ x.rd 1 w3 (Rw.cell R3.out 14) (Rw.fr R3.out 14)) ?_
  rintro e w9 ⟨q, hq, rfl, rfl⟩
  have HQ : Hid _ := hq
  clear hq
  have K3 : Hid (Rw (w3.setCell ⟨p, 14, none⟩ (.int .u64 q)) p _ 86) := Rw.set R3.out 14 (.int .u64 q)
  go_wp2_with fail
  refine leaves_cons (f := 32) (args := #[.pointer (some ⟨p, 2, none⟩)]) (by simp) (by simp [go_sem]) ?_
  refine (runlock_deferred Try.rwRLib p 2 1 _ _ .returning _ (Rw.cell K3.out 2) (Rw.cell K3.out 4) (Rw.cell K3.out 6) (Rw.fr K3.out 6) (by rw [wr0]; decide)).mono ?_
  rintro e u' w'' ⟨rfl, rfl, rfl⟩
  refine ⟨_, results_tmp2 rfl _ _ _, w1.heap.size, rfl, ?_⟩
  rw [wr0]
  have c4 : Chg (fun k => k = p) w3 ((w3.setCell ⟨p, 14, none⟩ (.int .u64 q)).setCell ⟨p, 2 + 4, none⟩ (.int .i32 0)) := ((Chg.refl (fun k => k = p) w3).setCell (.inl rfl) _).setCell (.inl rfl) _
  have K4 := Rw.set K3.out 6 (.int .i32 0)
  have zr := Rw.chg1 Z3.out c4 (by omega)
  rw [e3] at zr
  exact ⟨zr, hsz1, by rw [show inc x.rd = q from HQ.out.symm]; exact K4, (C2.out.trans C3.out (fun k e => .inr (by omega))).trans c4 (fun _ e => .inl e)⟩
end Go.Proofs.Ytddnecfnjnipjaa

/-
  Read over both maps, where the sector has no bytes yet: zeros.
-/
namespace Go.Proofs.Ytddnecfnjnipjaa
open Go.RowKit Go.RwLone

set_option maxRecDepth 100000 in
set_option maxHeartbeats 2000000 in
theorem read_zero {w : World} {p m c km kc z S : Nat} {x : Nums} {K : Nat → Option Nat} {D : DataW Unit} {L : Nat → List (Nat × Nat)} {V : Nat → Value} {E : DataW Unit} (h : Rw w p (dkG S z m c x) 86) (hoff : x.off = false) (hdu : Du w m km z K D) (hca : Ca w c kc z L V E)
    (hmp : m ≠ p) (hcp : c ≠ p) (hVp : ∀ t, (V t).ownBlock ≠ some p) (s : Nat) (hsS : s < S) (hS : S ≤ 65536) (hLs : (L s).length ≤ 4398046511104) (hlat : latV z (L s) (K s) = .slice none 0 0) (hz : z ≤ 4096) :
    Calls Try.prog 44 #[.pointer (some ⟨p, 0, none⟩), .int .i64 s] w fun e w' => ∃ g, e = .returned (.tuple #[.slice (some ⟨g, 0, none⟩) z z, .int .i64 0]) ∧ Rw w' g (zer z).toArray 5 ∧ w.heap.size ≤ g ∧ Rw w' p (dkG S z m c { x with rd := inc x.rd }) 86 ∧ Chg (fun k => k = p) w w' := by
  have DKh : Calls Try.prog 36 #[.pointer (some ⟨p, 0, none⟩), .int .i64 s] w fun e w' => e = .returned (.bool true) ∧ w = w' := by
    have c0 : w.cell? ⟨p, 0, none⟩ = some (.int .i64 S) := h.cell 0
    clear h hdu hca hlat
    go_enter Try.func36, Try.ntmps36
    go_wp2_with fail
    go_ret
    exact ⟨rfl, rfl⟩
  have HH : Hid _ := DKh
  have c2 : w.cell? ⟨p, 2, none⟩ = some (.int .i32 0) := h.cell 2
  have c5 : w.cell? ⟨p, 5, none⟩ = some (.int .u32 0) := h.cell 5
  have c6 : w.cell? ⟨p, 6, none⟩ = some (.int .i32 0) := h.cell 6
  have f6 := h.fr 6
  have hmk := run_mk z (by omega)
  have R0 : Hid _ := h
  have U0 : Hid _ := hdu
  have A0 : Hid _ := hca
  have LT : Hid _ := hlat
  have VP : Hid _ := hVp
  have OFF : Hid _ := hoff
  clear h DKh hdu hca hlat hVp hoff
  go_enter_defers Try.func44, Try.ntmps44
  go_wp2_with (go_at_call 36; refine Calls.mono HH.out ?_; rintro e w9 ⟨rfl, h9⟩; subst h9)
  refine (rlock_open Try.rwRLib p 2 0 _ _ _ c2 c5 c6 f6 (by rw [wr1]; decide)).mono ?_
  rintro e w' ⟨rfl, rfl⟩
  rw [wr1]
  obtain ⟨w1, hw1⟩ : ∃ w1, w1 = w.setCell ⟨p, 2 + 4, none⟩ (.int .i32 1) := ⟨_, rfl⟩
  rw [← hw1]
  have r1 : Rw w1 p ((dkG S z m c x).setIfInBounds 6 (.int .i32 1)) 86 := by rw [hw1]; exact R0.out.set 6 _
  have hc1 : Chg (fun k => k = p) w w1 := by rw [hw1]; exact (Chg.refl (fun k => k = p) w).setCell (.inl rfl) _
  have C1 : Hid _ := hc1
  have R1 : Hid _ := r1
  have d12 : w1.cell? ⟨p, 12, none⟩ = some (.bool false) := by rw [← OFF.out]; exact r1.cell 12
  have d1 : w1.cell? ⟨p, 1, none⟩ = some (.int .i64 z) := r1.cell 1
  clear c2 c5 c6 f6 hw1 r1 HH hc1
  go_wp2_with fail
  obtain ⟨w2, hw2⟩ : ∃ w2, w2 = w1.alloc (.cells (zer z).toArray 5) := ⟨_, rfl⟩
  rw [← hw2]
  have hb2 : Below w1.heap.size w1 w2 := by rw [hw2]; exact (Below.refl _ _).alloc (Nat.le_refl _) _
  have hsz1 : w.heap.size ≤ w1.heap.size := C1.out.size
  have R2 : Hid _ := Rw.keep R1.out hb2
  have Z2 : Hid (Rw w2 w1.heap.size (zer z).toArray 5) := by rw [hw2]; exact ⟨heap_alloc_new _ _⟩
  have C2 : Hid (Chg (fun k => k = p) w w2) := C1.out.trans (Chg.of_below hb2 (fun _ => False)) (fun _ h => h.elim)
  have plt : p < w1.heap.size := Rw.lt R1.out
  have U2 : Hid _ := Du.kept U0.out (grown_of C2.out) (by intro e; injection e with e; exact hmp e)
  have A2 : Hid _ := Ca.kept A0.out (grown_of C2.out) (by intro e; injection e with e; exact hcp e) (fun t b hb e => VP.out t (by rw [hb, e]))
  clear hw2 R1 C1 d12 d1 hmk hb2
  refine Calls.mono (latestG U2.out A2.out (Rw.cell R2.out 8) (Rw.cell R2.out 9) s (by omega) hLs) ?_
  rintro e w9 ⟨rfl, h9⟩
  subst h9
  rw [LT.out]
  go_wp2_with (refine wpList_copy_nothing rfl (.tmp 27) (.tmp 30) 48 48 rfl 5 Try.underlying48 (by kernel_rfl) _ _ _ _ _ _ rfl rfl (Nat.zero_min _) ?_)
  have R3 : Hid _ := R2.out
  refine Calls.mono (u64add_any ⟨p, 14, none⟩ x.rd 1 w2 (Rw.cell R3.out 14) (Rw.fr R3.out 14)) ?_
  rintro e w9 ⟨q, hq, rfl, rfl⟩
  have HQ : Hid _ := hq
  clear hq
  have K3 : Hid (Rw (w2.setCell ⟨p, 14, none⟩ (.int .u64 q)) p _ 86) := Rw.set R3.out 14 (.int .u64 q)
  go_wp2_with fail
  refine leaves_cons (f := 32) (args := #[.pointer (some ⟨p, 2, none⟩)]) (by simp) (by simp [go_sem]) ?_
  refine (runlock_deferred Try.rwRLib p 2 1 _ _ .returning _ (Rw.cell K3.out 2) (Rw.cell K3.out 4) (Rw.cell K3.out 6) (Rw.fr K3.out 6) (by rw [wr0]; decide)).mono ?_
  rintro e u' w'' ⟨rfl, rfl, rfl⟩
  refine ⟨_, results_tmp2 rfl _ _ _, w1.heap.size, rfl, ?_⟩
  rw [wr0]
  have c4 : Chg (fun k => k = p) w2 ((w2.setCell ⟨p, 14, none⟩ (.int .u64 q)).setCell ⟨p, 2 + 4, none⟩ (.int .i32 0)) := ((Chg.refl (fun k => k = p) w2).setCell (.inl rfl) _).setCell (.inl rfl) _
  have K4 := Rw.set K3.out 6 (.int .i32 0)
  have zr := Rw.chg1 Z2.out c4 (by omega)
  exact ⟨zr, hsz1, by rw [show inc x.rd = q from HQ.out.symm]; exact K4, C2.out.trans c4 (fun _ e => .inl e)⟩
end Go.Proofs.Ytddnecfnjnipjaa

/-
  Read refused: for the sector, for the power.
-/
namespace Go.Proofs.Ytddnecfnjnipjaa
open Go.RowKit Go.RwLone

set_option maxRecDepth 100000 in
set_option maxHeartbeats 2000000 in
theorem read_sector {w : World} {p m c z S : Nat} {x : Nums} (h : Rw w p (dkG S z m c x) 86) (s : Int) (hs : ¬ (0 ≤ s ∧ s < S)) :
    Calls Try.prog 44 #[.pointer (some ⟨p, 0, none⟩), .int .i64 s] w fun e w' => e = .returned (.tuple #[.slice none 0 0, .int .i64 31]) ∧ w = w' := by
  have DKh : Calls Try.prog 36 #[.pointer (some ⟨p, 0, none⟩), .int .i64 s] w fun e w' => e = .returned (.bool false) ∧ w = w' := by
    have c0 : w.cell? ⟨p, 0, none⟩ = some (.int .i64 S) := h.cell 0
    clear h
    by_cases h0 : 0 ≤ s
    · have h1 : ¬ s < S := fun e => hs ⟨h0, e⟩
      clear hs
      go_enter Try.func36, Try.ntmps36
      go_wp2_with fail
      go_ret
      exact ⟨rfl, rfl⟩
    · clear hs
      go_enter Try.func36, Try.ntmps36
      go_wp2_with fail
      go_ret
      exact ⟨rfl, rfl⟩
  have HH : Hid _ := DKh
  clear h DKh
  go_enter_defers Try.func44, Try.ntmps44
  go_wp2_with (go_at_call 36; refine Calls.mono HH.out ?_; rintro e w9 ⟨rfl, h9⟩; subst h9)
  exact ⟨_, results_tmp2 rfl _ _ _, rfl, rfl⟩

set_option maxRecDepth 100000 in
set_option maxHeartbeats 2000000 in
theorem read_off {w : World} {p m c z S : Nat} {x : Nums} (h : Rw w p (dkG S z m c x) 86) (hoff : x.off = true) (s : Nat) (hsS : s < S) (_hS : S ≤ 65536) :
    Calls Try.prog 44 #[.pointer (some ⟨p, 0, none⟩), .int .i64 s] w fun e w' => e = .returned (.tuple #[.slice none 0 0, .int .i64 32]) ∧ Rw w' p (dkG S z m c x) 86 ∧ Chg (fun k => k = p) w w' := by
  have DKh : Calls Try.prog 36 #[.pointer (some ⟨p, 0, none⟩), .int .i64 s] w fun e w' => e = .returned (.bool true) ∧ w = w' := by
    have c0 : w.cell? ⟨p, 0, none⟩ = some (.int .i64 S) := h.cell 0
    clear h
    go_enter Try.func36, Try.ntmps36
    go_wp2_with fail
    go_ret
    exact ⟨rfl, rfl⟩
  have HH : Hid _ := DKh
  have c2 : w.cell? ⟨p, 2, none⟩ = some (.int .i32 0) := h.cell 2
  have c5 : w.cell? ⟨p, 5, none⟩ = some (.int .u32 0) := h.cell 5
  have c6 : w.cell? ⟨p, 6, none⟩ = some (.int .i32 0) := h.cell 6
  have f6 := h.fr 6
  have R0 : Hid _ := h
  have OFF : Hid _ := hoff
  clear h DKh hoff
  go_enter_defers Try.func44, Try.ntmps44
  go_wp2_with (go_at_call 36; refine Calls.mono HH.out ?_; rintro e w9 ⟨rfl, h9⟩; subst h9)
  refine (rlock_open Try.rwRLib p 2 0 _ _ _ c2 c5 c6 f6 (by rw [wr1]; decide)).mono ?_
  rintro e w' ⟨rfl, rfl⟩
  rw [wr1]
  obtain ⟨w1, hw1⟩ : ∃ w1, w1 = w.setCell ⟨p, 2 + 4, none⟩ (.int .i32 1) := ⟨_, rfl⟩
  rw [← hw1]
  have r1 : Rw w1 p ((dkG S z m c x).setIfInBounds 6 (.int .i32 1)) 86 := by rw [hw1]; exact R0.out.set 6 _
  have C1 : Hid (Chg (fun k => k = p) w w1) := by rw [hw1]; exact (Chg.refl (fun k => k = p) w).setCell (.inl rfl) _
  have R1 : Hid _ := r1
  have d12 : w1.cell? ⟨p, 12, none⟩ = some (.bool true) := by rw [← OFF.out]; exact r1.cell 12
  clear c2 c5 c6 f6 hw1 r1 HH
  go_wp2_with fail
  refine leaves_cons (f := 32) (args := #[.pointer (some ⟨p, 2, none⟩)]) (by simp) (by simp [go_sem]) ?_
  refine (runlock_deferred Try.rwRLib p 2 1 _ _ .returning _ (Rw.cell R1.out 2) (Rw.cell R1.out 4) (Rw.cell R1.out 6) (Rw.fr R1.out 6) (by rw [wr0]; decide)).mono ?_
  rintro e u' w'' ⟨rfl, rfl, rfl⟩
  refine ⟨_, results_tmp2 rfl _ _ _, rfl, ?_⟩
  rw [wr0]
  exact ⟨Rw.set R1.out 6 (.int .i32 0), C1.out.setCell (.inl rfl) _⟩
end Go.Proofs.Ytddnecfnjnipjaa
