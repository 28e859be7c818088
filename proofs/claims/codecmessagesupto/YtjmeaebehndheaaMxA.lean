/-
  The reference under way with a record of a message.
-/
import Derived.Test.YtjmeaebehndheaaMsX
namespace Go.Proofs.Ytjmeaebehndheaa
open Go.RowKit

theorem lowN1_lt {T : List Int} (h : Byts T) (a : Nat) (err : Int) : lowN (pL T a err 1) < 256 := by
  have hb := pL_byts h a err 1
  have hl := pL_len T a err 1
  have h1 := lowN_lt hb
  have h2 : 256 ^ (pL T a err ((1 : Nat) : Int)).length ≤ 256 ^ 1 := Nat.pow_le_pow_right (by decide) hl
  have h3 : lowN (pL T a err 1) < 256 ^ (pL T a err ((1 : Nat) : Int)).length := h1
  omega
set_option maxRecDepth 100000 in
theorem xUpTo_any {w : World} {p : Nat} {t : TypeId} {tv : Value} {T : List Int} {a : Nat} {err : Int} (h : RS w p t tv T a err) (most : Nat) (hm : most ≤ 255) (code : Int) :
    Calls Try.prog 128 #[.pointer (some ⟨p, 0, none⟩), .int .u8 most, .int .i64 code] w fun e w' => e = .returned (.int .i64 (lowN (pL T a err 1))) ∧ RP w w' p t tv T (pA T a err 1) (if most < lowN (pL T a err 1) then failE (pE T a err 1) code else pE T a err 1) := by
  have HC : Hid _ := xLow_any h 1 (by decide)
  have HL := lowN1_lt h.byt a err
  obtain ⟨K, hK⟩ : ∃ K : Nat, K = lowN (pL T a err 1) := ⟨_, rfl⟩
  obtain ⟨b, hb⟩ : ∃ b, b = pA T a err 1 := ⟨_, rfl⟩
  obtain ⟨d, hd⟩ : ∃ d, d = pE T a err 1 := ⟨_, rfl⟩
  have e1 : ((1 : Nat) : Int) = 1 := rfl
  rw [e1, ← hK, ← hb, ← hd] at HC
  rw [← hK] at HL
  rw [← hK, ← hb, ← hd]
  obtain ⟨f, hf⟩ : ∃ f, f = if most < K then failE d code else d := ⟨_, rfl⟩
  rw [← hf]
  have HFF : Hid _ := hf
  clear hK hb hd h e1 hf
  have hw1 : IntKind.wrap .u64 (most : Int) = (most : Int) := by rw [IntKind.wrap_u64]; omega
  have hw2 : IntKind.wrap .i64 (K : Int) = (K : Int) := by rw [IntKind.wrap_i64]; omega
  go_enter Try.func128, Try.ntmps128
  go_wp2_with fail
  refine Calls.mono HC.out ?_
  rintro e w1 ⟨rfl, r1⟩
  have R1 : Hid _ := r1
  clear r1 HC
  by_cases hlt : most < K
  · have HF : Hid _ := xFail_any R1.out.1 code
    go_wp2_with fail
    refine Calls.mono HF.out ?_
    rintro e w2 ⟨rfl, r2⟩
    have R2 : Hid _ := r2
    clear r2 HF
    have F : Hid (RP w w2 p t tv T b f) := by rw [HFF.out, if_pos hlt]; exact RP.trans R1.out R2.out
    go_wp2_with fail
    go_ret
    exact ⟨rfl, F.out⟩
  · have F : Hid (RP w w1 p t tv T b f) := by rw [HFF.out, if_neg hlt]; exact R1.out
    go_wp2_with fail
    go_ret
    exact ⟨rfl, F.out⟩

set_option maxRecDepth 100000 in
set_option maxHeartbeats 1000000 in
theorem xMore_any {w : World} {p : Nat} {t : TypeId} {tv : Value} {T : List Int} {a : Nat} {err : Int} (h : RS w p t tv T a err) (i n : Nat) :
    Calls Try.prog 124 #[.pointer (some ⟨p, 0, none⟩), .int .u64 i, .int .u64 n] w fun e w' => e = .returned (.bool (decide (err = 0 ∧ i < n))) ∧ w' = w := by
  have h2 := h.c2
  clear h
  by_cases he : err = 0
  · subst he
    go_enter Try.func124, Try.ntmps124
    go_wp2_with fail
    go_ret
    exact ⟨by simp, rfl⟩
  · have hq : (err == 0) = false := by simpa using he
    go_enter Try.func124, Try.ntmps124
    go_wp2_with fail
    go_ret
    exact ⟨by simp [he], rfl⟩
section
variable {w : World} {p : Nat} {tv : Value} {T : List Int} {a : Nat} {err : Int}
theorem xLevelV (h : RS w p 64 tv T a err) : Calls Try.prog 128 #[.pointer (some ⟨p, 0, none⟩), .int .u8 23, .int .i64 21] w fun e w' => e = .returned (.int .i64 (levelS T a err).1) ∧ RP w w' p 64 tv T (levelS T a err).2.1 (levelS T a err).2.2 := xUpTo_any h 23 (by decide) 21
theorem xFlagV (h : RS w p 64 tv T a err) : Calls Try.prog 128 #[.pointer (some ⟨p, 0, none⟩), .int .u8 1, .int .i64 22] w fun e w' => e = .returned (.int .i64 (lowN (pL T a err 1))) ∧ RP w w' p 64 tv T (flagS T a err).2.1 (flagS T a err).2.2 := xUpTo_any h 1 (by decide) 22
theorem xNumberV (h : RS w p 64 tv T a err) : Calls Try.prog 65 #[.pointer (some ⟨p, 0, none⟩), .int .u64 4611686018427387904] w fun e w' => e = .returned (.int .u64 (uintS T a err maxN).1) ∧ RP w w' p 64 tv T (uintS T a err maxN).2.1 (uintS T a err maxN).2.2 := xUint_any h maxN (by decide)
theorem xByteV (h : RS w p 64 tv T a err) : Calls Try.prog 61 #[.pointer (some ⟨p, 0, none⟩), .int .i64 1] w fun e w' => e = .returned (.int .u64 (lowN (pL T a err 1))) ∧ RP w w' p 64 tv T (pA T a err 1) (pE T a err 1) := xLow_any h 1 (by decide)
end

/-- What stands whatever is done to the reference's reader or to a record of that type. -/
def SX (ty : TypeId) (I : World → Prop) : Prop := ∀ w w' g cur t, I w → w.heap[g]? = some (.cells cur t (0, 0)) → t = 64 ∨ t = ty → Chg (fun k => k = g) w w' → I w'
theorem SX.true (ty : TypeId) : SX ty (fun _ => True) := fun _ _ _ _ _ _ _ _ _ => trivial
theorem SX.and {ty : TypeId} {I J : World → Prop} (h : SX ty I) (k : SX ty J) : SX ty (fun w => I w ∧ J w) := fun w w' g cur t hi hg ht c => ⟨h w w' g cur t hi.1 hg ht c, k w w' g cur t hi.2 hg ht c⟩
theorem SX.own {ty : TypeId} (h : ty ≠ 5) (s : Value) (l : List Int) : SX ty (fun w => Own w s l) := fun w w' g cur t hi hg ht c => hi.kept c (fun k hk e => by
  obtain ⟨cur', e2⟩ := own_block5 hi hk
  rw [e, hg] at e2
  injection e2 with e2
  injection e2 with _ e2
  rcases ht with ht | ht
  · rw [ht] at e2
    exact absurd e2 (by decide)
  · exact h (ht.symm.trans e2))
/-- A record under way: its result in block r, itself in block q. -/
structure BX (w : World) (p : Nat) (tv : Value) (T : List Int) (ty : TypeId) (r q : Nat) (Z : List Value) (I : World → Prop) (wr : World) (a : Nat) (err : Int) (cs : List Value) : Prop where
  st_ : At w wr p 64 tv T a err
  res : Blk wr r Z ty
  row : Blk wr q cs ty
  inv : I wr
  st : SX ty I
  ge : w.heap.size ≤ r ∧ w.heap.size ≤ q ∧ ¬ r = q
section
variable {w wr w' : World} {p r q : Nat} {tv : Value} {T : List Int} {ty : TypeId} {Z cs : List Value} {I J : World → Prop} {a a1 : Nat} {err e1 : Int}
theorem BX.start (h : RS w p 64 tv T a err) (Z : List Value) (ty : TypeId) : BX w p tv T ty w.heap.size (w.heap.size + 1) Z (fun _ => True) ((w.alloc (.cells Z.toArray ty)).alloc (.cells Z.toArray ty)) a err Z :=
  ⟨((At.start h).alloc _).alloc _, (Blk.made w _ ty).alloc _, by have := Blk.made (w.alloc (.cells Z.toArray ty)) Z ty; rwa [World.size_alloc] at this, trivial, SX.true ty, Nat.le_refl _, Nat.le_succ _, by omega⟩
/-- The record came in, the result lies behind it. -/
theorem BX.start2 (h : RS w p 64 tv T a err) (C Z : List Value) (ty : TypeId) : BX w p tv T ty (w.heap.size + 1) w.heap.size Z (fun _ => True) ((w.alloc (.cells C.toArray ty)).alloc (.cells Z.toArray ty)) a err C :=
  ⟨((At.start h).alloc _).alloc _, by have := Blk.made (w.alloc (.cells C.toArray ty)) Z ty; rwa [World.size_alloc] at this, (Blk.made w _ ty).alloc _, trivial, SX.true ty, Nat.le_succ _, Nat.le_refl _, by omega⟩
theorem BX.call (h : BX w p tv T ty r q Z I wr a err cs) (c : RP wr w' p 64 tv T a1 e1) : BX w p tv T ty r q Z I w' a1 e1 cs :=
  ⟨h.st_.call c, h.st_.blk h.res h.ge.1 c, h.st_.blk h.row h.ge.2.1 c, h.st _ _ _ _ _ h.inv h.st_.rp.1.blk (.inl rfl) c.2, h.st, h.ge⟩
theorem BX.more (h : BX w p tv T ty r q Z I wr a err cs) (st : SX ty J) (j : J wr) : BX w p tv T ty r q Z (fun w => I w ∧ J w) wr a err cs := ⟨h.st_, h.res, h.row, ⟨h.inv, j⟩, h.st.and st, h.ge⟩
theorem BX.chg {cs' : List Value} (h : BX w p tv T ty r q Z I wr a err cs) (b : Blk w' q cs' ty) (c : Chg (fun k => k = q) wr w') : BX w p tv T ty r q Z I w' a err cs' :=
  ⟨h.st_.chg c h.ge.2.1, h.res.keep c h.ge.2.2, b, h.st _ _ _ _ _ h.inv h.row.eq (.inr rfl) c, h.st, h.ge⟩
theorem BX.set (h : BX w p tv T ty r q Z I wr a err cs) (i : Nat) (v : Value) : BX w p tv T ty r q Z I (wr.setCell ⟨q, i, none⟩ v) a err (cs.set i v) :=
  h.chg (h.row.set i v) ((Chg.refl (fun k => k = q) wr).setCell (p := ⟨q, i, none⟩) (.inl rfl) v)
theorem BX.fin (h : BX w p tv T ty r q Z I wr a err cs) (c : Chg (fun k => k = r) wr w') : RP w w' p 64 tv T a err ∧ I w' :=
  ⟨(h.st_.chg c h.ge.1).rp, h.st _ _ _ _ _ h.inv h.res.eq (.inr rfl) c⟩
end
structure XSpQ (w w' : World) (p : Nat) (tv : Value) (T : List Int) (S : SpS) (e : Ending) : Prop where
  ex : ∃ lo hi, e = .returned (.agg (spC lo hi S.op).toArray) ∧ Own w' lo S.lo ∧ Own w' hi S.hi ∧ RP w w' p 64 tv T S.at_ S.err ∧ Ap3 w.heap.size lo hi (.slice none 0 0)
set_option maxRecDepth 100000 in
set_option maxHeartbeats 16000000 in
theorem xSpan_any {w : World} {p : Nat} {tv : Value} {T : List Int} {a : Nat} {err : Int} (h : RS w p 64 tv T a err) :
    Calls Try.prog 123 #[.pointer (some ⟨p, 0, none⟩)] w fun e w' => XSpQ w w' p tv T (spanS T a err) e := by
  have HF : Hid _ := h
  have B0 : Hid (BX w p tv T 89 w.heap.size (w.heap.size + 1) (spC (.slice none 0 0) (.slice none 0 0) false) (fun _ => True) ((w.alloc (.cells (spC (.slice none 0 0) (.slice none 0 0) false).toArray 89)).alloc (.cells (spC (.slice none 0 0) (.slice none 0 0) false).toArray 89)) a err (spC (.slice none 0 0) (.slice none 0 0) false)) := BX.start h _ 89
  have hlt := h.lt
  clear h HF
  obtain ⟨S, hS⟩ : ∃ S, S = spanS T a err := ⟨_, rfl⟩
  rw [← hS]
  unfold spanS at hS
  have HC : Hid _ := xFlagV B0.out.st_.rp.1
  have HF0 : (flagS T a err).1 = decide (lowN (pL T a err 1) = 1) := rfl
  obtain ⟨F, a1, e1, hF⟩ : ∃ F b c, flagS T a err = (F, b, c) := ⟨_, _, _, rfl⟩
  obtain ⟨K, hK⟩ : ∃ K, K = lowN (pL T a err 1) := ⟨_, rfl⟩
  simp only [hF, ← hK] at HC hS HF0
  have HSS : Hid _ := hS
  have iF : ((K : Int) == 1) = F := by
    rw [HF0]
    by_cases h : K = 1
    · simp [h]
    · have : ¬ (K : Int) = 1 := by omega
      simp [h, this]
  clear hF hS hK HF0
  go_enter Try.func123, Try.ntmps123
  go_wp2_with fail
  refine Calls.mono HC.out ?_
  rintro e w1 ⟨rfl, r1⟩
  have B1 : Hid _ := B0.out.call r1
  clear r1 HC B0
  have hc : w1.cell? ⟨w.heap.size + 1, 2, none⟩ = some (.bool false) := B1.out.row.cell 2
  have hf : w1.frozen? ⟨w.heap.size + 1, 2, none⟩ = false := B1.out.row.fr 2
  have B2 : Hid (BX w p tv T 89 w.heap.size (w.heap.size + 1) _ _ (w1.setCell ⟨w.heap.size + 1, 2, none⟩ (.bool F)) a1 e1 (spC (.slice none 0 0) (.slice none 0 0) F)) := B1.out.set 2 (.bool F)
  clear B1
  go_upto_region 3 with fail
  clear hc hf iF
  have HC : Hid _ := xText_any B2.out.st_.rp.1 1025 (by decide)
  obtain ⟨L, a2, e2, hL⟩ : ∃ F b c, textS T a1 e1 1025 = (F, b, c) := ⟨_, _, _, rfl⟩
  have hS := HSS.out
  simp only [hL] at HC hS
  clear HSS
  have HSS : Hid _ := hS
  clear hL hS
  go_wp2_with fail
  refine Calls.mono HC.out ?_
  rintro e w2 ⟨s, rfl, o1, r1, g1⟩
  have G1 : Hid (w.heap.size ≤ w2.heap.size ∧ ∀ g, s.ownBlock = some g → w.heap.size ≤ g ∧ g < w2.heap.size) := ⟨Nat.le_trans B2.out.st_.rp.2.size r1.2.size, fun g hg => ⟨Nat.le_trans B2.out.st_.rp.2.size (g1 g hg), o1.lt hg⟩⟩
  clear g1
  obtain ⟨sa, sc, hsf⟩ := Own.form o1
  obtain ⟨n, hn⟩ : ∃ n, n = L.length := ⟨_, rfl⟩
  rw [← hn] at hsf
  subst hsf
  have B3 : Hid _ := (B2.out.call r1).more (SX.own (by decide) _ _) o1
  clear r1 HC B2 o1 hn
  have hc : w2.cell? ⟨w.heap.size + 1, 0, none⟩ = some (.slice none 0 0) := B3.out.row.cell 0
  have hf : w2.frozen? ⟨w.heap.size + 1, 0, none⟩ = false := B3.out.row.fr 0
  have B4 : Hid (BX w p tv T 89 w.heap.size (w.heap.size + 1) _ _ (w2.setCell ⟨w.heap.size + 1, 0, none⟩ (.slice sa n sc)) a2 e2 (spC (.slice sa n sc) (.slice none 0 0) F)) := B3.out.set 0 (.slice sa n sc)
  clear B3
  have hd : (w2.setCell ⟨w.heap.size + 1, 0, none⟩ (.slice sa n sc)).cell? ⟨w.heap.size + 1, 2, none⟩ = some (.bool F) := B4.out.row.cell 2
  by_cases hb : F = true
  · subst hb
    have h9 := HSS.out
    rw [if_pos rfl] at h9
    have HS1 : Hid _ := h9
    clear HSS h9
    go_wp2_with (first
      | (refine wpList_load_part rfl 89 (.tmp 3) rfl (w.heap.size + 1) 0 (spC (.slice sa n sc) (.slice none 0 0) true) rfl B4.out.row (by simp) Try.underlying89 rfl (Try.spSz _ _ _) ?_)
      | (refine wpList_store_part rfl 89 (.tmp 2) (.tmp 17) rfl w.heap.size 0 (spC (.slice sa n sc) (.slice none 0 0) true) rfl rfl B4.out.res (by simp [spC]) (Try.spSz _ _ _) (spC_one rfl rfl _) ?_; intro w8 b8 c8; rw [splice_all _ _ (by simp [spC])] at b8; have RR : Hid _ := b8; have FF : Hid _ := B4.out.fin c8; clear b8 c8))
    exact bodyPost_ret (v := .agg (spC (.slice sa n sc) (.slice none 0 0) true).toArray) (results_row1 rfl _ _ w.heap.size 89 _ _ _ rfl RR.out.eq Try.underlying89 rfl (Try.spSz _ _ _)) rfl (by rw [HS1.out]; exact ⟨⟨.slice sa n sc, .slice none 0 0, rfl, FF.out.2.2, Own.nil _, FF.out.1, Ap3.of G1.out.1 (Nat.le_refl _) G1.out.2 nilB nilB⟩⟩)
  · have hb2 : F = false := by cases F <;> simp_all
    subst hb2
    clear hb
    have h9 := HSS.out
    rw [if_neg (by decide)] at h9
    clear HSS
    have HC : Hid _ := xText_any B4.out.st_.rp.1 1025 (by decide)
    obtain ⟨M, a3, e3, hM⟩ : ∃ F b c, textS T a2 e2 1025 = (F, b, c) := ⟨_, _, _, rfl⟩
    simp only [hM] at HC h9
    have HS1 : Hid _ := h9
    clear hM h9
    go_wp2_with fail
    refine Calls.mono HC.out ?_
    rintro e w3 ⟨s, rfl, o1, r1, g1⟩
    have G2 : Hid (w2.heap.size ≤ w3.heap.size ∧ ∀ g, s.ownBlock = some g → w2.heap.size ≤ g ∧ g < w3.heap.size) := ⟨Nat.le_trans (le_set _ _ _) r1.2.size, fun g hg => ⟨Nat.le_trans (le_set _ _ _) (g1 g hg), o1.lt hg⟩⟩
    clear g1
    obtain ⟨sb, sd, hsf⟩ := Own.form o1
    obtain ⟨m, hm⟩ : ∃ n, n = M.length := ⟨_, rfl⟩
    rw [← hm] at hsf
    subst hsf
    have B5 : Hid _ := (B4.out.call r1).more (SX.own (by decide) _ _) o1
    clear r1 HC B4 o1 hm hc hf hd
    have hc : w3.cell? ⟨w.heap.size + 1, 1, none⟩ = some (.slice none 0 0) := B5.out.row.cell 1
    have hf : w3.frozen? ⟨w.heap.size + 1, 1, none⟩ = false := B5.out.row.fr 1
    have B6 : Hid (BX w p tv T 89 w.heap.size (w.heap.size + 1) _ _ (w3.setCell ⟨w.heap.size + 1, 1, none⟩ (.slice sb m sd)) a3 e3 (spC (.slice sa n sc) (.slice sb m sd) false)) := B5.out.set 1 (.slice sb m sd)
    clear B5
    go_wp2_with (first
      | (refine wpList_load_part rfl 89 (.tmp 3) rfl (w.heap.size + 1) 0 (spC (.slice sa n sc) (.slice sb m sd) false) rfl B6.out.row (by simp) Try.underlying89 rfl (Try.spSz _ _ _) ?_)
      | (refine wpList_store_part rfl 89 (.tmp 2) (.tmp 17) rfl w.heap.size 0 (spC (.slice sa n sc) (.slice sb m sd) false) rfl rfl B6.out.res (by simp [spC]) (Try.spSz _ _ _) (spC_one rfl rfl _) ?_; intro w8 b8 c8; rw [splice_all _ _ (by simp [spC])] at b8; have RR : Hid _ := b8; have FF : Hid _ := B6.out.fin c8; clear b8 c8))
    exact bodyPost_ret (v := .agg (spC (.slice sa n sc) (.slice sb m sd) false).toArray) (results_row1 rfl _ _ w.heap.size 89 _ _ _ rfl RR.out.eq Try.underlying89 rfl (Try.spSz _ _ _)) rfl (by rw [HS1.out]; exact ⟨⟨.slice sa n sc, .slice sb m sd, rfl, FF.out.2.1.2, FF.out.2.2, FF.out.1, Ap3.of G1.out.1 G2.out.1 G1.out.2 G2.out.2 nilB⟩⟩)
end Go.Proofs.Ytjmeaebehndheaa
