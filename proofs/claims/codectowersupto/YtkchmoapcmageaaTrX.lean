/-
  The reference reads towers.
-/
import Derived.Test.YtkchmoapcmageaaTwW
namespace Go.Proofs.Ytkchmoapcmageaa
open Go.RowKit

theorem lowN1_lt {T : List Int} (h : Byts T) (a : Nat) (err : Int) : lowN (pL T a err 1) < 256 := by
  have hb := pL_byts h a err 1
  have hl := pL_len T a err 1
  have h1 := lowN_lt hb
  have h2 : 256 ^ (pL T a err ((1 : Nat) : Int)).length ≤ 256 ^ 1 := Nat.pow_le_pow_right (by decide) hl
  have h3 : lowN (pL T a err 1) < 256 ^ (pL T a err ((1 : Nat) : Int)).length := h1
  omega
set_option maxRecDepth 100000 in
theorem xUpTo_any {w : World} {p : Nat} {t : TypeId} {tv : Value} {T : List Int} {a : Nat} {err : Int} (h : RS w p t tv T a err) (most : Nat) (hm : most ≤ 255) (code : Int) :
    Calls Try.prog 96 #[.pointer (some ⟨p, 0, none⟩), .int .u8 most, .int .i64 code] w fun e w' => e = .returned (.int .i64 (lowN (pL T a err 1))) ∧ RP w w' p t tv T (pA T a err 1) (if most < lowN (pL T a err 1) then failE (pE T a err 1) code else pE T a err 1) := by
  have HC : Hid _ := xLow_any h 1 (by decide)
  have HL := lowN1_lt h.byt a err
  obtain ⟨K, hK⟩ : ∃ K : Nat, K = lowN (pL T a err 1) := ⟨_, rfl⟩
  obtain ⟨b, hb⟩ : ∃ b, b = pA T a err 1 := ⟨_, rfl⟩
  obtain ⟨d, hd⟩ : ∃ d, d = pE T a err 1 := ⟨_, rfl⟩
  have e1 : ((1 : Nat) : Int) = 1 := rfl
  rw [e1, ← hK, ← hb, ← hd] at HC
  rw [← hK] at HL
  rw [← hK, ← hb, ← hd]
  obtain ⟨f, hf⟩ : ∃ f, f = if most < K then failE d code else d := ⟨_, rfl⟩
  rw [← hf]
  have HFF : Hid _ := hf
  clear hK hb hd h e1 hf
  have hw1 : IntKind.wrap .u64 (most : Int) = (most : Int) := by rw [IntKind.wrap_u64]; omega
  have hw2 : IntKind.wrap .i64 (K : Int) = (K : Int) := by rw [IntKind.wrap_i64]; omega
  go_enter Try.func96, Try.ntmps96
  go_wp2_with fail
  refine Calls.mono HC.out ?_
  rintro e w1 ⟨rfl, r1⟩
  have R1 : Hid _ := r1
  clear r1 HC
  by_cases hlt : most < K
  · have HF : Hid _ := xFail_any R1.out.1 code
    go_wp2_with fail
    refine Calls.mono HF.out ?_
    rintro e w2 ⟨rfl, r2⟩
    have R2 : Hid _ := r2
    clear r2 HF
    have F : Hid (RP w w2 p t tv T b f) := by rw [HFF.out, if_pos hlt]; exact RP.trans R1.out R2.out
    go_wp2_with fail
    go_ret
    exact ⟨rfl, F.out⟩
  · have F : Hid (RP w w1 p t tv T b f) := by rw [HFF.out, if_neg hlt]; exact R1.out
    go_wp2_with fail
    go_ret
    exact ⟨rfl, F.out⟩

set_option maxRecDepth 100000 in
set_option maxHeartbeats 1000000 in
theorem xMore_any {w : World} {p : Nat} {t : TypeId} {tv : Value} {T : List Int} {a : Nat} {err : Int} (h : RS w p t tv T a err) (i n : Nat) :
    Calls Try.prog 97 #[.pointer (some ⟨p, 0, none⟩), .int .u64 i, .int .u64 n] w fun e w' => e = .returned (.bool (decide (err = 0 ∧ i < n))) ∧ w' = w := by
  have h2 := h.c2
  clear h
  by_cases he : err = 0
  · subst he
    go_enter Try.func97, Try.ntmps97
    go_wp2_with fail
    go_ret
    exact ⟨by simp, rfl⟩
  · have hq : (err == 0) = false := by simpa using he
    go_enter Try.func97, Try.ntmps97
    go_wp2_with fail
    go_ret
    exact ⟨by simp [he], rfl⟩
section
variable {w : World} {p : Nat} {tv : Value} {T : List Int} {a : Nat} {err : Int}
theorem xLevelV (h : RS w p 64 tv T a err) : Calls Try.prog 96 #[.pointer (some ⟨p, 0, none⟩), .int .u8 23, .int .i64 21] w fun e w' => e = .returned (.int .i64 (levelS T a err).1) ∧ RP w w' p 64 tv T (levelS T a err).2.1 (levelS T a err).2.2 := xUpTo_any h 23 (by decide) 21
theorem xFlagV (h : RS w p 64 tv T a err) : Calls Try.prog 96 #[.pointer (some ⟨p, 0, none⟩), .int .u8 1, .int .i64 22] w fun e w' => e = .returned (.int .i64 (lowN (pL T a err 1))) ∧ RP w w' p 64 tv T (flagS T a err).2.1 (flagS T a err).2.2 := xUpTo_any h 1 (by decide) 22
theorem xNumberV (h : RS w p 64 tv T a err) : Calls Try.prog 65 #[.pointer (some ⟨p, 0, none⟩), .int .u64 4611686018427387904] w fun e w' => e = .returned (.int .u64 (uintS T a err maxN).1) ∧ RP w w' p 64 tv T (uintS T a err maxN).2.1 (uintS T a err maxN).2.2 := xUint_any h maxN (by decide)
theorem xKidsV (h : RS w p 64 tv T a err) : Calls Try.prog 65 #[.pointer (some ⟨p, 0, none⟩), .int .u64 24] w fun e w' => e = .returned (.int .u64 (uintS T a err 24).1) ∧ RP w w' p 64 tv T (uintS T a err 24).2.1 (uintS T a err 24).2.2 := xUint_any h 24 (by decide)
end
theorem ML.nilV (w : World) : ML w (.slice none 0 0) [] := ⟨World.ownsRow_nil w 0 112 68, (fun k hk => by cases hk), List.Pairwise.nil⟩
/-- The reference under way with a tower. -/
structure TR (w : World) (s : Value) (T : List Int) (hd : Bool) (key : Value) (kl vl : List Int) (kv : Value) (ks : List (KS × Value)) (wr : World) (a : Nat) (err : Int) : Prop where
  rs : RS wr (w.heap.size + 1) 64 s T a err
  res : Blk wr w.heap.size towZ 69
  row : Blk wr (w.heap.size + 2) (towC hd key vl kv) 69
  ky : Own wr key kl ∧ key.oneCell' = true
  ml : ML wr kv ks
  nb : ∀ g, key.ownBlock = some g ∨ kv.ownBlock = some g → w.heap.size + 3 ≤ g
  nk : ∀ k, k ∈ ks → ∀ g, k.2.ownBlock = some g → w.heap.size + 3 ≤ g ∧ ¬ key.ownBlock = some g
  be : Below w.heap.size w wr
  sz : w.heap.size + 3 ≤ wr.heap.size
  sl : ∀ k, s.ownBlock = some k → k < w.heap.size
section
variable {w wr w' : World} {s : Value} {T : List Int} {hd : Bool} {key kv : Value} {kl vl : List Int} {ks : List (KS × Value)} {a a1 : Nat} {err e1 : Int}
theorem Blk.no5 {g : Nat} {cs : List Value} {t : TypeId} (hb : Blk wr g cs t) (ht : t ≠ 5) {u : Value} {l : List Int} (ho : Own wr u l) {k : Nat} (hk : u.ownBlock = some k) : ¬ k = g := fun e => by
  obtain ⟨_, e1⟩ := own_block5 ho hk
  rw [e, hb.eq] at e1
  injection e1 with e1
  injection e1 with _ e1
  exact ht e1
theorem ML.off {g : Nat} {cs : List Value} {t : TypeId} (h : ML wr kv ks) (hb : Blk wr g cs t) (ht : t ≠ 5 ∧ (t ≠ 112 ∨ ¬ kv.ownBlock = some g)) {S : Nat → Prop} (hS : ∀ k, S k → k = g) (c : Chg S wr w') : ML w' kv ks := by
  refine ⟨⟨h.row.1, ?_⟩, fun k hk' => ⟨Own.kept (h.key k hk').1 c (fun q hq e => hb.no5 ht.1 (h.key k hk').1 hq (hS q e)), (h.key k hk').2⟩, h.ap⟩
  rcases h.row.2 with e | ⟨b, cap, cur, rfl, hbb, hgg, rest⟩
  · exact .inl e
  · refine .inr ⟨b, cap, cur, rfl, hbb, c.heap_some hgg (fun e => ?_), rest⟩
    have e2 := hS b e
    rcases ht.2 with q | q
    · rw [e2, hb.eq] at hgg
      injection hgg with hgg
      injection hgg with _ hgg
      exact q hgg
    · exact q (by rw [← e2]; rfl)
theorem RS.blkV {p : Nat} {tv : Value} (h : RS wr p 64 tv T a err) : Blk wr p [tv, .int .i64 a, .int .i64 err] 64 := ⟨h.blk⟩
theorem TR.start (h : In w s T) : TR w s T false (.slice none 0 0) [] (List.replicate 33 0) (.slice none 0 0) [] (((w.alloc (.cells towZ.toArray 69)).alloc (.cells #[s, .int .i64 0, .int .i64 0] 64)).alloc (.cells towZ.toArray 69)) 0 0 := by
  have hb1 : Below w.heap.size w (w.alloc (.cells towZ.toArray 69)) := (Below.refl _ _).alloc (Nat.le_refl _) _
  have hb2 : Below w.heap.size w ((w.alloc (.cells towZ.toArray 69)).alloc (.cells #[s, .int .i64 0, .int .i64 0] 64)) := hb1.alloc (by simp) _
  have h1 := In.at h 64 hb1
  rw [World.size_alloc] at h1
  refine ⟨(h1.alloc _).rp.1, ((Blk.made w _ 69).alloc _).alloc _, ?_, ⟨Own.nil _, rfl⟩, ML.nilV _, fun g hg => by simp [Value.ownBlock] at hg, (fun k hk => by cases hk), hb2.alloc (by simp; omega) _, by simp, fun k hk => h.lt k hk⟩
  have := Blk.made ((w.alloc (.cells towZ.toArray 69)).alloc (.cells #[s, .int .i64 0, .int .i64 0] 64)) towZ 69
  rw [World.size_alloc, World.size_alloc] at this
  exact this
theorem TR.call (h : TR w s T hd key kl vl kv ks wr a err) (r : RP wr w' (w.heap.size + 1) 64 s T a1 e1) : TR w s T hd key kl vl kv ks w' a1 e1 :=
  ⟨r.1, h.res.keep r.2 (by omega), h.row.keep r.2 (by omega), ⟨h.ky.1.kept r.2 (fun k hk => h.rs.blkV.no5 (by decide) h.ky.1 hk), h.ky.2⟩, h.ml.off h.rs.blkV ⟨by decide, .inl (by decide)⟩ (fun _ e => e) r.2, h.nb, h.nk, h.be.trans (r.2.below (Nat.le_trans (by omega) h.sz) (fun k e => by omega)), Nat.le_trans h.sz r.2.size, h.sl⟩
theorem TR.chg (h : TR w s T hd key kl vl kv ks wr a err) {hd' : Bool} {vl' : List Int} (b : Blk w' (w.heap.size + 2) (towC hd' key vl' kv) 69) (c : Chg (fun k => k = w.heap.size + 2) wr w') : TR w s T hd' key kl vl' kv ks w' a err :=
  ⟨h.rs.keep c (by omega) (fun k hk e => by have := h.sl k hk; omega), h.res.keep c (by omega), b, ⟨h.ky.1.kept c (fun k hk => h.row.no5 (by decide) h.ky.1 hk), h.ky.2⟩, h.ml.off h.row ⟨by decide, .inl (by decide)⟩ (fun _ e => e) c, h.nb, h.nk, h.be.trans (c.below (Nat.le_trans (by omega) h.sz) (fun k e => by omega)), Nat.le_trans h.sz c.size, h.sl⟩
theorem TR.setKey (h : TR w s T hd (.slice none 0 0) [] vl (.slice none 0 0) [] wr a err) {u : Value} {l : List Int} (ho : Own wr u l) (h1 : u.oneCell' = true) (hn : ∀ g, u.ownBlock = some g → w.heap.size + 3 ≤ g) : TR w s T hd u l vl (.slice none 0 0) [] (wr.setCell ⟨w.heap.size + 2, 1, none⟩ u) a err := by
  have c : Chg (fun k => k = w.heap.size + 2) wr (wr.setCell ⟨w.heap.size + 2, 1, none⟩ u) := (Chg.refl (fun k => k = w.heap.size + 2) wr).setCell (p := ⟨w.heap.size + 2, 1, none⟩) (.inl rfl) _
  exact ⟨h.rs.keep c (by omega) (fun k hk e => by have := h.sl k hk; omega), h.res.keep c (by omega), h.row.set 1 u, ⟨ho.kept c (fun k hk => h.row.no5 (by decide) ho hk), h1⟩, ML.nilV _, fun g hg => by rcases hg with hg | hg; exact hn g hg; simp [Value.ownBlock] at hg, (fun k hk => by cases hk), h.be.trans (c.below (Nat.le_trans (by omega) h.sz) (fun k e => by omega)), Nat.le_trans h.sz c.size, h.sl⟩
theorem TR.fresh (h : TR w s T hd key kl vl kv ks wr a err) (c : Chg (fun _ => False) wr w') : TR w s T hd key kl vl kv ks w' a err :=
  ⟨h.rs.keep c (fun e => e) (fun _ _ e => e), h.res.keep c (fun e => e), h.row.keep c (fun e => e), ⟨h.ky.1.kept c (fun _ _ e => e), h.ky.2⟩, h.ml.kept c (fun _ _ _ e => e) (fun _ _ _ e => e), h.nb, h.nk, h.be.trans (c.below (Nat.le_trans (by omega) h.sz) (fun k e => e.elim)), Nat.le_trans h.sz c.size, h.sl⟩
theorem TR.recd (h : TR w s T hd key kl vl kv ks wr a err) {g : Nat} {cs : List Value} (hb : Blk wr g cs 112) (hg : w.heap.size + 3 ≤ g) (hv : ¬ kv.ownBlock = some g) (c : Chg (fun k => k = g) wr w') : TR w s T hd key kl vl kv ks w' a err :=
  ⟨h.rs.keep c (by omega) (fun k hk e => by have := h.sl k hk; omega), h.res.keep c (by omega), h.row.keep c (by omega), ⟨h.ky.1.kept c (fun k hk => hb.no5 (by decide) h.ky.1 hk), h.ky.2⟩, h.ml.off hb ⟨by decide, .inr hv⟩ (fun _ e => e) c, h.nb, h.nk, h.be.trans (c.below (Nat.le_trans (by omega) h.sz) (fun k e => by omega)), Nat.le_trans h.sz c.size, h.sl⟩
theorem TR.kvlt (h : TR w s T hd key kl vl kv ks wr a err) : ∀ g, kv.ownBlock = some g → g < wr.heap.size := fun g hg => by
  obtain ⟨_, e⟩ := h.ml.blk hg
  exact (Array.getElem?_eq_some_iff.1 e).1
/-- One kid more. -/
theorem TR.add (h : TR w s T hd key kl vl kv ks wr a err) (hvl : vl.length = 33) {k : KS} {u : Value} (ho : Own wr u k.kl) (h1 : u.oneCell' = true) (hz : k.z.length = 65) (hb : ks.length + 1 ≤ 1000000) {C : Nat} (hC0 : w.heap.size + 3 ≤ C) (hC1 : ∀ g, u.ownBlock = some g → C ≤ g) (hC2 : ∀ q, q ∈ ks → ∀ g, q.2.ownBlock = some g → g < C) (hC3 : ∀ g, key.ownBlock = some g → g < C) :
    ∃ v' w1, (Builtin.append_ #[67, 67] 67 #[kv, .slice (some ⟨wr.heap.size, 0, none⟩) 1 1]).run Try.prog (wr.alloc (.cells (kdC k.lv u k.ct k.z).toArray 112)) = .ok v' w1 ∧ Blk w1 (w.heap.size + 2) (towC hd key vl kv) 69 ∧ v'.oneCell' = true ∧ TR w s T hd key kl vl v' (ks ++ [(k, u)]) (w1.setCell ⟨w.heap.size + 2, 35, none⟩ v') a err := by
  obtain ⟨v', w1, r, ml, c, bb⟩ := h.ml.add ho h1 hz hb 67 hC1 hC2
  have hS : ∀ g, some g = kv.ownBlock → w.heap.size + 3 ≤ g := fun g e => h.nb g (.inr e.symm)
  have no5 : ∀ {u : Value} {l : List Int}, Own wr u l → ∀ g, u.ownBlock = some g → ¬ some g = kv.ownBlock := fun ho g hg e => by
    obtain ⟨_, e1⟩ := own_block5 ho hg
    obtain ⟨_, e2⟩ := h.ml.blk e.symm
    rw [e1] at e2
    injection e2 with e2
    injection e2 with _ e2
    exact absurd e2 (by decide)
  have row1 : Blk w1 (w.heap.size + 2) (towC hd key vl kv) 69 := h.row.keep c (fun e => by have := hS _ e; omega)
  have rs1 : RS w1 (w.heap.size + 1) 64 s T a err := h.rs.keep c (fun e => by have := hS _ e; omega) (fun k hk e => by have := hS _ e; have := h.sl k hk; omega)
  have ky1 := h.ky.1.kept c (no5 h.ky.1)
  obtain ⟨va, vc, hvf⟩ := ml.form
  have c2 : Chg (fun k => k = w.heap.size + 2) w1 (w1.setCell ⟨w.heap.size + 2, 35, none⟩ v') := (Chg.refl (fun k => k = w.heap.size + 2) w1).setCell (p := ⟨w.heap.size + 2, 35, none⟩) (.inl rfl) _
  have row2 : Blk (w1.setCell ⟨w.heap.size + 2, 35, none⟩ v') (w.heap.size + 2) (towC hd key vl v') 69 := by
    have h9 := row1.set 35 v'
    rwa [towC_kids _ _ _ _ _ hvl] at h9
  refine ⟨v', w1, r, row1, by rw [hvf]; rfl, ⟨rs1.keep c2 (by omega) (fun k hk e => by have := h.sl k hk; omega), (h.res.keep c (fun e => by have := hS _ e; omega)).keep c2 (by omega), row2, ⟨ky1.kept c2 (fun k hk => row1.no5 (by decide) ky1 hk), h.ky.2⟩, ml.off row1 ⟨by decide, .inl (by decide)⟩ (fun _ e => e) c2, fun g hg => ?_, fun q hq g hg => ?_, (h.be.trans (c.below (Nat.le_trans (by omega) h.sz) (fun k e => by have := hS k e; omega))).trans (c2.below (Nat.le_trans (Nat.le_trans (by omega) h.sz) c.size) (fun k e => by omega)), Nat.le_trans h.sz (Nat.le_trans c.size c2.size), h.sl⟩⟩
  · rcases hg with hg | hg
    · exact h.nb g (.inl hg)
    · rcases bb with q | ⟨q, q1, q2⟩
      · exact h.nb g (.inr (by rw [← q]; exact hg))
      · rw [hg] at q1
        injection q1 with q1
        have := h.sz
        omega
  · rcases List.mem_append.1 hq with hq | hq
    · exact h.nk q hq g hg
    · have e : q = (k, u) := by simpa using hq
      subst e
      exact ⟨Nat.le_trans hC0 (hC1 g hg), fun e => by have := hC3 g e; have := hC1 g hg; omega⟩
end
end Go.Proofs.Ytkchmoapcmageaa
