/-
  A record that is being read: the reader, the record under way, the result, what they hold. Spans and changes are read.
-/
import Derived.Test.YtdofgphokdgjiaaTwM
namespace Go.Proofs.Ytdofgphokdgjiaa
open Go.RowKit

/-- What stands whatever is done to a reader or to a record of that type. -/
def St (ty : TypeId) (I : World → Prop) : Prop := ∀ w w' g cur t, I w → w.heap[g]? = some (.cells cur t (0, 0)) → t = 192 ∨ t = ty → Chg (fun k => k = g) w w' → I w'
theorem St.true (ty : TypeId) : St ty (fun _ => True) := fun _ _ _ _ _ _ _ _ _ => trivial
theorem St.and {ty : TypeId} {I J : World → Prop} (h : St ty I) (k : St ty J) : St ty (fun w => I w ∧ J w) := fun w w' g cur t hi hg ht c => ⟨h w w' g cur t hi.1 hg ht c, k w w' g cur t hi.2 hg ht c⟩
theorem St.own {ty : TypeId} (h : ty ≠ 5) (s : Value) (l : List Int) : St ty (fun w => Own w s l) := fun w w' g cur t hi hg ht c => hi.kept c (fun k hk e => by
  obtain ⟨cur', e2⟩ := own_block5 hi hk
  rw [e, hg] at e2
  injection e2 with e2
  injection e2 with _ e2
  rcases ht with ht | ht
  · rw [ht] at e2
    exact absurd e2 (by decide)
  · exact h (ht.symm.trans e2))
/-- A record under way. -/
structure Bld (w : World) (p : Nat) (tv : Value) (T : List Int) (ty : TypeId) (Z : List Value) (I : World → Prop) (wr : World) (a : Nat) (err : Int) (cs : List Value) : Prop where
  st_ : At w wr p 192 tv T a err
  res : Blk wr w.heap.size Z ty
  row : Blk wr (w.heap.size + 1) cs ty
  inv : I wr
  st : St ty I
section
variable {w wr w' : World} {p : Nat} {tv : Value} {T : List Int} {ty : TypeId} {Z cs : List Value} {I J : World → Prop} {a a1 : Nat} {err e1 : Int}
theorem Bld.start (h : RS w p 192 tv T a err) (Z : List Value) (ty : TypeId) : Bld w p tv T ty Z (fun _ => True) ((w.alloc (.cells Z.toArray ty)).alloc (.cells Z.toArray ty)) a err Z :=
  ⟨((At.start h).alloc _).alloc _, (Blk.made w _ ty).alloc _, by have := Blk.made (w.alloc (.cells Z.toArray ty)) Z ty; rwa [World.size_alloc] at this, trivial, St.true ty⟩
theorem Bld.call (h : Bld w p tv T ty Z I wr a err cs) (r : RP wr w' p 192 tv T a1 e1) : Bld w p tv T ty Z I w' a1 e1 cs :=
  ⟨h.st_.call r, h.st_.blk h.res (Nat.le_refl _) r, h.st_.blk h.row (Nat.le_succ _) r, h.st _ _ _ _ _ h.inv h.st_.rp.1.blk (.inl rfl) r.2, h.st⟩
theorem Bld.more (h : Bld w p tv T ty Z I wr a err cs) (st : St ty J) (j : J wr) : Bld w p tv T ty Z (fun w => I w ∧ J w) wr a err cs := ⟨h.st_, h.res, h.row, ⟨h.inv, j⟩, h.st.and st⟩
theorem Bld.chg {cs' : List Value} (h : Bld w p tv T ty Z I wr a err cs) (b : Blk w' (w.heap.size + 1) cs' ty) (c : Chg (fun k => k = w.heap.size + 1) wr w') : Bld w p tv T ty Z I w' a err cs' :=
  ⟨h.st_.chg c (Nat.le_succ _), h.res.keep c (by omega), b, h.st _ _ _ _ _ h.inv h.row.eq (.inr rfl) c, h.st⟩
theorem Bld.set (h : Bld w p tv T ty Z I wr a err cs) (i : Nat) (v : Value) : Bld w p tv T ty Z I (wr.setCell ⟨w.heap.size + 1, i, none⟩ v) a err (cs.set i v) :=
  h.chg (h.row.set i v) ((Chg.refl (fun k => k = w.heap.size + 1) wr).setCell (p := ⟨w.heap.size + 1, i, none⟩) (.inl rfl) v)
theorem Bld.fin (h : Bld w p tv T ty Z I wr a err cs) (c : Chg (fun k => k = w.heap.size) wr w') : RP w w' p 192 tv T a err ∧ I w' :=
  ⟨(h.st_.chg c (Nat.le_refl _)).rp, h.st _ _ _ _ _ h.inv h.res.eq (.inr rfl) c⟩
end

/-- Spans. -/
def spC (lo hi : Value) (op : Bool) : List Value := [lo, hi, .bool op]
theorem Try.size89 : (Try.prog.info? 89).map (·.size) = some 3 := by kernel_rfl
theorem Try.spSz (lo hi : Value) (op : Bool) : (Try.prog.info? 89).map (·.size) = some (spC lo hi op).length := Try.size89
theorem spC_one {lo hi : Value} (h1 : lo.oneCell' = true) (h2 : hi.oneCell' = true) (op : Bool) : ∀ u ∈ spC lo hi op, u.oneCell' = true := by
  intro u hu
  simp only [spC, List.mem_cons, List.not_mem_nil, or_false] at hu
  rcases hu with rfl | rfl | rfl
  · exact h1
  · exact h2
  · rfl
structure SpS where
  lo : List Int
  hi : List Int
  op : Bool
  at_ : Nat
  err : Int
def spanS (T : List Int) (a : Nat) (err : Int) : SpS :=
  let F := flagS T a err
  let L := textS T F.2.1 F.2.2 1025
  if F.1 = true then ⟨L.1, [], F.1, L.2.1, L.2.2⟩ else ⟨L.1, (textS T L.2.1 L.2.2 1025).1, F.1, (textS T L.2.1 L.2.2 1025).2.1, (textS T L.2.1 L.2.2 1025).2.2⟩
structure SpQ (w w' : World) (p : Nat) (tv : Value) (T : List Int) (S : SpS) (e : Ending) : Prop where
  ex : ∃ lo hi, e = .returned (.agg (spC lo hi S.op).toArray) ∧ Own w' lo S.lo ∧ Own w' hi S.hi ∧ RP w w' p 192 tv T S.at_ S.err
theorem Own.one {w : World} {v : Value} {l : List Int} (h : Own w v l) : v.oneCell' = true := by
  obtain ⟨a, c, e⟩ := h.form
  rw [e]; rfl

set_option maxRecDepth 100000 in
set_option maxHeartbeats 16000000 in
theorem span_any {w : World} {p : Nat} {tv : Value} {T : List Int} {a : Nat} {err : Int} (h : RS w p 192 tv T a err) :
    Calls Try.prog 116 #[.pointer (some ⟨p, 0, none⟩)] w fun e w' => SpQ w w' p tv T (spanS T a err) e := by
  have HF : Hid _ := h
  have B0 : Hid (Bld w p tv T 89 (spC (.slice none 0 0) (.slice none 0 0) false) (fun _ => True) ((w.alloc (.cells (spC (.slice none 0 0) (.slice none 0 0) false).toArray 89)).alloc (.cells (spC (.slice none 0 0) (.slice none 0 0) false).toArray 89)) a err (spC (.slice none 0 0) (.slice none 0 0) false)) := Bld.start h _ 89
  have hlt := h.lt
  clear h HF
  obtain ⟨S, hS⟩ : ∃ S, S = spanS T a err := ⟨_, rfl⟩
  rw [← hS]
  unfold spanS at hS
  have HC : Hid _ := rFlag_any B0.out.st_.rp.1
  obtain ⟨F, a1, e1, hF⟩ : ∃ F b c, flagS T a err = (F, b, c) := ⟨_, _, _, rfl⟩
  simp only [hF] at HC hS
  have HSS : Hid _ := hS
  clear hF hS
  go_enter Try.func116, Try.ntmps116
  go_wp2_with fail
  refine Calls.mono HC.out ?_
  rintro e w1 ⟨rfl, r1⟩
  have B1 : Hid _ := B0.out.call r1
  clear r1 HC B0
  have hc : w1.cell? ⟨w.heap.size + 1, 2, none⟩ = some (.bool false) := B1.out.row.cell 2
  have hf : w1.frozen? ⟨w.heap.size + 1, 2, none⟩ = false := B1.out.row.fr 2
  have B2 : Hid (Bld w p tv T 89 _ _ (w1.setCell ⟨w.heap.size + 1, 2, none⟩ (.bool F)) a1 e1 (spC (.slice none 0 0) (.slice none 0 0) F)) := B1.out.set 2 (.bool F)
  clear B1
  have HC : Hid _ := rText_any B2.out.st_.rp.1 1025 (by decide) (by decide)
  obtain ⟨L, a2, e2, hL⟩ : ∃ F b c, textS T a1 e1 1025 = (F, b, c) := ⟨_, _, _, rfl⟩
  have hS := HSS.out
  simp only [hL] at HC hS
  clear HSS
  have HSS : Hid _ := hS
  clear hL hS
  go_wp2_with fail
  refine Calls.mono HC.out ?_
  rintro e w2 ⟨s, rfl, o1, r1, _⟩
  obtain ⟨sa, sc, hsf⟩ := Own.form o1
  obtain ⟨n, hn⟩ : ∃ n, n = L.length := ⟨_, rfl⟩
  rw [← hn] at hsf
  subst hsf
  have B3 : Hid _ := (B2.out.call r1).more (St.own (by decide) _ _) o1
  clear r1 HC B2 o1 hn hc hf
  have hc : w2.cell? ⟨w.heap.size + 1, 0, none⟩ = some (.slice none 0 0) := B3.out.row.cell 0
  have hf : w2.frozen? ⟨w.heap.size + 1, 0, none⟩ = false := B3.out.row.fr 0
  have B4 : Hid (Bld w p tv T 89 _ _ (w2.setCell ⟨w.heap.size + 1, 0, none⟩ (.slice sa n sc)) a2 e2 (spC (.slice sa n sc) (.slice none 0 0) F)) := B3.out.set 0 (.slice sa n sc)
  clear B3
  have hd : (w2.setCell ⟨w.heap.size + 1, 0, none⟩ (.slice sa n sc)).cell? ⟨w.heap.size + 1, 2, none⟩ = some (.bool F) := B4.out.row.cell 2
  by_cases hb : F = true
  · subst hb
    have h9 := HSS.out
    rw [if_pos rfl] at h9
    have HS1 : Hid _ := h9
    clear HSS h9
    go_wp2_with (first
      | (refine wpList_load_part rfl 89 (.tmp 3) rfl (w.heap.size + 1) 0 (spC (.slice sa n sc) (.slice none 0 0) true) rfl B4.out.row (by simp) Try.underlying89 rfl (Try.spSz _ _ _) ?_)
      | (refine wpList_store_part rfl 89 (.tmp 2) (.tmp 20) rfl w.heap.size 0 (spC (.slice sa n sc) (.slice none 0 0) true) rfl rfl B4.out.res (by simp [spC]) (Try.spSz _ _ _) (spC_one rfl rfl _) ?_; intro w8 b8 c8; rw [splice_all _ _ (by simp [spC])] at b8; have RR : Hid _ := b8; have FF : Hid _ := B4.out.fin c8; clear b8 c8))
    exact bodyPost_ret (v := .agg (spC (.slice sa n sc) (.slice none 0 0) true).toArray) (results_row1 rfl _ _ w.heap.size 89 _ _ _ rfl RR.out.eq Try.underlying89 rfl (Try.spSz _ _ _)) rfl (by rw [HS1.out]; exact ⟨⟨.slice sa n sc, .slice none 0 0, rfl, FF.out.2.2, Own.nil _, FF.out.1⟩⟩)
  · have hb2 : F = false := by cases F <;> simp_all
    subst hb2
    clear hb
    have h9 := HSS.out
    rw [if_neg (by decide)] at h9
    clear HSS
    have HC : Hid _ := rText_any B4.out.st_.rp.1 1025 (by decide) (by decide)
    obtain ⟨M, a3, e3, hM⟩ : ∃ F b c, textS T a2 e2 1025 = (F, b, c) := ⟨_, _, _, rfl⟩
    simp only [hM] at HC h9
    have HS1 : Hid _ := h9
    clear hM h9
    go_wp2_with fail
    refine Calls.mono HC.out ?_
    rintro e w3 ⟨s, rfl, o1, r1, _⟩
    obtain ⟨sb, sd, hsf⟩ := Own.form o1
    obtain ⟨m, hm⟩ : ∃ n, n = M.length := ⟨_, rfl⟩
    rw [← hm] at hsf
    subst hsf
    have B5 : Hid _ := (B4.out.call r1).more (St.own (by decide) _ _) o1
    clear r1 HC B4 o1 hm hc hf hd
    have hc : w3.cell? ⟨w.heap.size + 1, 1, none⟩ = some (.slice none 0 0) := B5.out.row.cell 1
    have hf : w3.frozen? ⟨w.heap.size + 1, 1, none⟩ = false := B5.out.row.fr 1
    have B6 : Hid (Bld w p tv T 89 _ _ (w3.setCell ⟨w.heap.size + 1, 1, none⟩ (.slice sb m sd)) a3 e3 (spC (.slice sa n sc) (.slice sb m sd) false)) := B5.out.set 1 (.slice sb m sd)
    clear B5
    go_wp2_with (first
      | (refine wpList_load_part rfl 89 (.tmp 3) rfl (w.heap.size + 1) 0 (spC (.slice sa n sc) (.slice sb m sd) false) rfl B6.out.row (by simp) Try.underlying89 rfl (Try.spSz _ _ _) ?_)
      | (refine wpList_store_part rfl 89 (.tmp 2) (.tmp 20) rfl w.heap.size 0 (spC (.slice sa n sc) (.slice sb m sd) false) rfl rfl B6.out.res (by simp [spC]) (Try.spSz _ _ _) (spC_one rfl rfl _) ?_; intro w8 b8 c8; rw [splice_all _ _ (by simp [spC])] at b8; have RR : Hid _ := b8; have FF : Hid _ := B6.out.fin c8; clear b8 c8))
    exact bodyPost_ret (v := .agg (spC (.slice sa n sc) (.slice sb m sd) false).toArray) (results_row1 rfl _ _ w.heap.size 89 _ _ _ rfl RR.out.eq Try.underlying89 rfl (Try.spSz _ _ _)) rfl (by rw [HS1.out]; exact ⟨⟨.slice sa n sc, .slice sb m sd, rfl, FF.out.2.1.2, FF.out.2.2, FF.out.1⟩⟩)
end Go.Proofs.Ytdofgphokdgjiaa
