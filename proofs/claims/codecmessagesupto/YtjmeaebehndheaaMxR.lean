import Derived.Test.YtjmeaebehndheaaMxM
import Derived.Test.YtjmeaebehndheaaMxG
import Derived.Test.YtjmeaebehndheaaTrC
/-
  Of the walk of CodecMessages: two readings of a text, and what lies in memory of them.
-/
namespace Go.Proofs.Ytjmeaebehndheaa
open Go.RowKit

theorem bs_inj {x y : List Int} (h : bs x = bs y) : x = y := by
  have h2 := congrArg (List.map intOf) h
  simpa [bs, intOf, Function.comp_def] using h2
/-- Sums as cells. -/
def Sums (L : List (List Value)) : Prop := ∀ c, c ∈ L → ∃ z : List Int, z.length = 32 ∧ c = bs z
theorem sums_many (T : List Int) : ∀ (n a : Nat) (e : Int), Sums (manyE sumE T n a e).1
  | 0, _, _ => fun c h => by cases h
  | n + 1, a, e => by
    rw [manyE]
    split
    · intro c h
      rcases List.mem_cons.1 h with h | h
      · exact ⟨pad 32 (pL T a e 32), pad_len (pL_len T a e 32), h⟩
      · exact sums_many T n _ _ c h
    · intro c h; cases h

theorem manyE_le {one : List Int → Nat → Int → List Value × Nat × Int} {T : List Int} : ∀ (n a : Nat) (e : Int), (manyE one T n a e).1.length ≤ n
  | 0, _, _ => Nat.le_refl _
  | n + 1, a, e => by
    rw [manyE]
    split
    · have := manyE_le (one := one) (T := T) n (one T a e).2.1 (one T a e).2.2
      simp only [List.length_cons]
      omega
    · exact Nat.zero_le _
theorem manyC_le {T : List Int} : ∀ (n a : Nat) (e : Int), (manyC T n a e).1.length ≤ n
  | 0, _, _ => Nat.le_refl _
  | n + 1, a, e => by
    rw [manyC]
    split
    · have := manyC_le (T := T) n (chS T a e).at_ (chS T a e).err
      simp only [List.length_cons]
      omega
    · exact Nat.zero_le _
theorem sums_nil : Sums [] := fun _ h => by cases h
theorem msgS_bounds (T : List Int) (a : Nat) (e : Int) : Sums (msgS T a e).pa ∧ (msgS T a e).pa.length ≤ 8388608 ∧ (msgS T a e).ch.length ≤ 8388608 := by
  have z : Sums [] ∧ ([] : List (List Value)).length ≤ 8388608 ∧ ([] : List ChS).length ≤ 8388608 := ⟨sums_nil, by simp, by simp⟩
  unfold msgS
  simp only
  split
  · exact z
  split
  · exact z
  split
  · exact z
  split
  · exact z
  split
  · exact z
  split
  · exact z
  split
  · exact z
  split
  · refine ⟨sums_many _ _ _ _, ?_, by simp⟩
    have h1 := manyE_le (one := sumE) (T := T) (uintS T (pA T a e 1) (pE T a e 1) 128).1 (uintS T (pA T a e 1) (pE T a e 1) 128).2.1 (uintS T (pA T a e 1) (pE T a e 1) 128).2.2
    have h2 := uintS_most T (pA T a e 1) (pE T a e 1) 128
    show (manyE sumE T _ _ _).1.length ≤ _
    omega
  split
  · refine ⟨sums_nil, by simp, ?_⟩
    have h1 := manyC_le (T := T) (uintS T (pA T a e 1) (pE T a e 1) 4194304).1 (uintS T (pA T a e 1) (pE T a e 1) 4194304).2.1 (uintS T (pA T a e 1) (pE T a e 1) 4194304).2.2
    have h2 := uintS_most T (pA T a e 1) (pE T a e 1) 4194304
    show (manyC T _ _ _).1.length ≤ _
    omega
  split
  · exact z
  · exact z

theorem textS_len (T : List Int) (a : Nat) (e m : Int) : (textS T a e m).1.length ≤ T.length := by
  unfold textS
  split
  · split
    split
    · split
      · exact Nat.zero_le _
      · split
        · exact Nat.zero_le _
        · simp only [List.length_take, List.length_drop]; omega
    · exact Nat.zero_le _
  · exact Nat.zero_le _
theorem optS_len (b : Bool) (T : List Int) (a : Nat) (e : Int) : (optS b T a e).1.length ≤ T.length := by
  unfold optS
  split
  · exact textS_len _ _ _ _
  · exact Nat.zero_le _
theorem spanS_len (T : List Int) (a : Nat) (e : Int) : (spanS T a e).lo.length ≤ T.length ∧ (spanS T a e).hi.length ≤ T.length := by
  unfold spanS
  simp only
  split
  · exact ⟨textS_len _ _ _ _, Nat.zero_le _⟩
  · exact ⟨textS_len _ _ _ _, textS_len _ _ _ _⟩
theorem chS_len (T : List Int) (a : Nat) (e : Int) : (chS T a e).kl.length ≤ T.length ∧ (chS T a e).ol.length ≤ T.length ∧ (chS T a e).nl.length ≤ T.length := ⟨textS_len _ _ _ _, optS_len _ _ _ _, optS_len _ _ _ _⟩
theorem manyC_all {T : List Int} : ∀ (n a : Nat) (e : Int) (k : ChS), k ∈ (manyC T n a e).1 → k.kl.length ≤ T.length ∧ k.ol.length ≤ T.length ∧ k.nl.length ≤ T.length
  | 0, a, e, k, h => by simp [manyC] at h
  | n + 1, a, e, k, h => by
    by_cases hc : e = 0
    · subst hc
      rw [manyC_step] at h
      rcases List.mem_cons.1 h with h | h
      · rw [h]; exact chS_len T a 0
      · exact manyC_all n _ _ k h
    · rw [manyC_err hc] at h
      cases h
/-- How long what was read is. -/
structure MsTx (T : List Int) (S : MsS) : Prop where
  lo : S.lo.length ≤ T.length
  hi : S.hi.length ≤ T.length
  bo : S.bo.length ≤ T.length
  ch : ∀ k, k ∈ S.ch → k.kl.length ≤ T.length ∧ k.ol.length ≤ T.length ∧ k.nl.length ≤ T.length
theorem msgS_tx (T : List Int) (a : Nat) (e : Int) : MsTx T (msgS T a e) := by
  have z1 : (([] : List Int)).length ≤ T.length := Nat.zero_le _
  have z2 : ∀ k, k ∈ ([] : List ChS) → k.kl.length ≤ T.length ∧ k.ol.length ≤ T.length ∧ k.nl.length ≤ T.length := fun k hk => by cases hk
  unfold msgS
  simp only
  split
  · exact ⟨z1, z1, z1, z2⟩
  split
  · exact ⟨(spanS_len T _ _).1, (spanS_len T _ _).2, z1, z2⟩
  split
  · exact ⟨z1, z1, z1, z2⟩
  split
  · exact ⟨z1, z1, z1, z2⟩
  split
  · exact ⟨z1, z1, z1, z2⟩
  split
  · exact ⟨z1, z1, z1, z2⟩
  split
  · exact ⟨z1, z1, textS_len _ _ _ _, z2⟩
  split
  · exact ⟨z1, z1, z1, z2⟩
  split
  · exact ⟨z1, z1, z1, fun k hk => manyC_all _ _ _ k hk⟩
  split
  · exact ⟨z1, z1, z1, z2⟩
  · exact ⟨z1, z1, z1, z2⟩
/-- What a reading of a message is, an error or none. -/
structure MR (w : World) (B : Nat) (S : MsS) (lo' hi' bo' pa' cg' : Value) (L : List ChV) : Prop where
  lo : Own w lo' S.lo
  hi : Own w hi' S.hi
  bo : Own w bo' S.bo
  pa : GL w pa' 31 32 S.pa
  cg : CM w cg' L
  ch : L.map Prod.fst = S.ch
  ap : MsAp B lo' hi' bo' pa' cg' L
  sm : Sums S.pa
  hl : S.hl.length = 32
  lb : S.lb.length = 32
  tx : S.lo.length ≤ 1048576 ∧ S.hi.length ≤ 1048576 ∧ S.bo.length ≤ 1048576
  tc : ∀ o, o ∈ L → o.1.kl.length ≤ 1048576 ∧ o.1.ol.length ≤ 1048576 ∧ o.1.nl.length ≤ 1048576
  ln : S.pa.length ≤ 8388608 ∧ L.length ≤ 8388608
def MsZ : MsS := ⟨0, 0, 0, [], [], false, 0, z32, z32, 0, 0, [], [], [], 0, 0⟩
theorem MR.zero (w : World) (B : Nat) : MR w B MsZ (.slice none 0 0) (.slice none 0 0) (.slice none 0 0) (.slice none 0 0) (.slice none 0 0) [] := ⟨Own.nil _, Own.nil _, Own.nil _, GL.nil _ _ _, CM.nil _, rfl, MsAp.nils B, sums_nil, z32_len, z32_len, ⟨Nat.zero_le _, Nat.zero_le _, Nat.zero_le _⟩, (fun _ h => by cases h), Nat.zero_le _, Nat.zero_le _⟩
theorem MsIs.mr {w : World} {B : Nat} {T : List Int} {C : List Value} (h : MsIs w B (msgS T 0 0) C) (hT : T.length ≤ 1048576) : ∃ lo hi bo pa cg L, C = msC (msgS T 0 0).ki (msgS T 0 0).ver (msgS T 0 0).oth lo hi (msgS T 0 0).op (msgS T 0 0).hs (msgS T 0 0).hl (msgS T 0 0).lb (msgS T 0 0).ct (msgS T 0 0).co bo pa cg ∧ MR w B (msgS T 0 0) lo hi bo pa cg L := by
  obtain ⟨lo, hi, bo, pa, cg, L, e, ⟨o1, o2, o3, g, m⟩, hm, hap⟩ := h.ex
  obtain ⟨b1, b2, b3⟩ := msgS_bounds T 0 0
  obtain ⟨t1, t2, t3, t4⟩ := msgS_tx T 0 0
  obtain ⟨k1, k2⟩ := msgS_len T 0 0
  refine ⟨lo, hi, bo, pa, cg, L, e, ⟨o1, o2, o3, g, m, hm, hap, b1, k1, k2, ⟨by omega, by omega, by omega⟩, fun o ho => ?_, b2, ?_⟩⟩
  · have h9 := t4 o.1 (by rw [← hm]; exact List.mem_map_of_mem ho)
    omega
  · have h9 : L.length = (msgS T 0 0).ch.length := by rw [← hm, List.length_map]
    omega
/-- Two readings of one text. -/
theorem two_msgs {wa wb : World} {B1 B2 : Nat} {T : List Int} (hT : T.length ≤ 1048576) {E : Int} {C D : List Value} (cA : E = 0 → MsIs wa B1 (msgS T 0 0) C) (cB : ¬ E = 0 → C = msZ) (dA : E = 0 → MsIs wb B2 (msgS T 0 0) D) (dB : ¬ E = 0 → D = msZ) :
    ∃ (S : MsS) (lo1 hi1 bo1 pa1 cg1 lo2 hi2 bo2 pa2 cg2 : Value) (L1 L2 : List ChV), C = msC S.ki S.ver S.oth lo1 hi1 S.op S.hs S.hl S.lb S.ct S.co bo1 pa1 cg1 ∧ D = msC S.ki S.ver S.oth lo2 hi2 S.op S.hs S.hl S.lb S.ct S.co bo2 pa2 cg2 ∧ MR wa B1 S lo1 hi1 bo1 pa1 cg1 L1 ∧ MR wb B2 S lo2 hi2 bo2 pa2 cg2 L2 := by
  by_cases e : E = 0
  · obtain ⟨lo1, hi1, bo1, pa1, cg1, L1, e1, r1⟩ := (cA e).mr hT
    obtain ⟨lo2, hi2, bo2, pa2, cg2, L2, e2, r2⟩ := (dA e).mr hT
    exact ⟨_, lo1, hi1, bo1, pa1, cg1, lo2, hi2, bo2, pa2, cg2, L1, L2, e1, e2, r1, r2⟩
  · exact ⟨MsZ, (.slice none 0 0), (.slice none 0 0), (.slice none 0 0), (.slice none 0 0), (.slice none 0 0), (.slice none 0 0), (.slice none 0 0), (.slice none 0 0), (.slice none 0 0), (.slice none 0 0), [], [], cB e, dB e, MR.zero _ _, MR.zero _ _⟩
/-- A slice's three parts. -/
def sl3 (v : Value) : Option Addr × Nat × Nat := match v with
  | .slice a n c => (a, n, c)
  | _ => (none, 0, 0)
def txV (v : Value) (l : List Int) : Tx := ⟨(sl3 v).1, (sl3 v).2.1, (sl3 v).2.2, l⟩
theorem txV_val {w : World} {v : Value} {l : List Int} (h : Own w v l) : (txV v l).val = v := by
  obtain ⟨a, c, rfl⟩ := h.form
  rfl
def cgV (o : ChV) : Cg := ⟨txV o.2.1 o.1.kl, o.1.had, txV o.2.2.1 o.1.ol, o.1.has, txV o.2.2.2 o.1.nl⟩
def cD : ChV := (⟨[], false, [], false, [], 0, 0⟩, (.slice none 0 0), (.slice none 0 0), (.slice none 0 0))
def fC (L : List ChV) (i : Nat) : Cg := cgV (L[i]?.getD cD)
theorem fC_at {L : List ChV} {i : Nat} (h : i < L.length) : fC L i = cgV L[i] := by unfold fC; rw [List.getElem?_eq_getElem h]; rfl
def fP (P : List (List Value)) (i : Nat) : List Int := (P[i]?.getD []).map intOf
theorem fP_at {P : List (List Value)} (hs : Sums P) {i : Nat} (h : i < P.length) : bs (fP P i) = P[i] ∧ (fP P i).length = 32 := by
  unfold fP
  rw [List.getElem?_eq_getElem h]
  obtain ⟨z, hz, e⟩ := hs _ (List.getElem_mem h)
  show bs (List.map intOf P[i]) = P[i] ∧ (List.map intOf P[i]).length = 32
  rw [e]
  have : List.map intOf (bs z) = z := by simp [bs, intOf, Function.comp_def]
  rw [this]
  exact ⟨rfl, hz⟩
/-- A message that was read. -/
def rM (S : MsS) (lo hi bo pa cg : Value) (L : List ChV) : Msg := ⟨S.ki, S.ver, S.oth, ⟨txV lo S.lo, txV hi S.hi, S.op⟩, S.hs, S.hl, S.lb, S.ct, S.co, txV bo S.bo, (sl3 pa).1, (sl3 pa).2.1, (sl3 pa).2.2, fP S.pa, (sl3 cg).1, (sl3 cg).2.1, (sl3 cg).2.2, fC L⟩
section
variable {w w' : World} {B : Nat} {S : MsS} {lo hi bo pa cg : Value} {L : List ChV}
theorem MR.fresh (h : MR w B S lo hi bo pa cg L) (c : Chg (fun _ => False) w w') : MR w' B S lo hi bo pa cg L :=
  ⟨h.lo.kept c (fun _ _ e => e), h.hi.kept c (fun _ _ e => e), h.bo.kept c (fun _ _ e => e), h.pa.fresh c, h.cg.freshC c, h.ch, h.ap, h.sm, h.hl, h.lb, h.tx, h.tc, h.ln⟩
theorem MR.cells (h : MR w B S lo hi bo pa cg L) : (rM S lo hi bo pa cg L).cells = msC S.ki S.ver S.oth lo hi S.op S.hs S.hl S.lb S.ct S.co bo pa cg := by
  obtain ⟨a1, c1, f1⟩ := h.pa.form
  obtain ⟨a2, c2, f2⟩ := h.cg.form
  unfold Msg.cells Msg.tail msC rM
  simp only
  rw [txV_val h.lo, txV_val h.hi, txV_val h.bo, f1, f2]
  rfl
theorem MR.pn (h : MR w B S lo hi bo pa cg L) : (sl3 pa).2.1 = S.pa.length ∧ (sl3 cg).2.1 = L.length := by
  obtain ⟨a1, c1, f1⟩ := h.pa.form
  obtain ⟨a2, c2, f2⟩ := h.cg.form
  rw [f1, f2]
  exact ⟨rfl, rfl⟩
theorem ccOf_cells {o : ChV} (h1 : Own w o.2.1 o.1.kl) (h2 : Own w o.2.2.1 o.1.ol) (h3 : Own w o.2.2.2 o.1.nl) : (cgV o).cells = ccOf o := by
  unfold Cg.cells cgV ccOf chC
  simp only
  rw [txV_val h1, txV_val h2, txV_val h3]
/-- The rows of what was read. -/
theorem MR.rows (h : MR w B S lo hi bo pa cg L) : RowsIn w (fun g => pa.ownBlock = some g) (sl3 pa).1 (sl3 pa).2.1 32 (fun i => bs (fP S.pa i)) ∧ RowsIn w (fun g => cg.ownBlock = some g) (sl3 cg).1 (sl3 cg).2.1 5 (fun i => (fC L i).cells) := by
  constructor
  · have e : S.pa = (List.range S.pa.length).map (fun i => bs (fP S.pa i)) := by
      refine List.ext_getElem (by simp) (fun i h1 h2 => ?_)
      simp only [List.getElem_map, List.getElem_range]
      exact (fP_at h.sm (by simpa using h1)).1.symm
    have g := h.pa
    rw [e] at g
    obtain ⟨a, c, f, r⟩ := GL.rowsN g
    rw [f]
    intro i hi
    obtain ⟨q, o, hA, _, rg⟩ := r i hi
    refine ⟨q, o, hA, ?_, rg⟩
    simp only [hA]
    rfl
  · have e : L.map ccOf = (List.range L.length).map (fun i => (fC L i).cells) := by
      refine List.ext_getElem (by simp) (fun i h1 h2 => ?_)
      simp only [List.getElem_map, List.getElem_range]
      have hi : i < L.length := by simpa using h1
      have k := h.cg.own _ (List.getElem_mem hi)
      rw [fC_at hi, ccOf_cells k.1 k.2.1 k.2.2]
    have g := h.cg.gl
    rw [e] at g
    obtain ⟨a, c, f, r⟩ := GL.rowsN g
    rw [f]
    intro i hi
    obtain ⟨q, o, hA, _, rg⟩ := r i hi
    refine ⟨q, o, hA, ?_, rg⟩
    simp only [hA]
    rfl
theorem Own.lenG {v : Value} {l : List Int} (h : Own w v l) : l.length ≤ 9223372036854775807 := by
  rcases h.2 with ⟨_, h0⟩ | ⟨_, cap, _, _, _, _, h1, h2, _⟩
  · omega
  · unfold maxLen at h2; omega
theorem txVv {v : Value} {l : List Int} (ho : Own w v l) (s : Src w' v l) : TxV w' (txV v l) := ⟨by rw [txV_val ho]; exact s, ho.lenG⟩
/-- What was read lies in memory, where its texts are read and only other rows have turned. -/
theorem MR.mv (h : MR w B S lo hi bo pa cg L) {Q : Nat → Prop} (c : Chg Q w w') (q1 : ∀ g, pa.ownBlock = some g ∨ cg.ownBlock = some g → ¬ Q g) (s1 : Src w' lo S.lo) (s2 : Src w' hi S.hi) (s3 : Src w' bo S.bo) (st : ∀ i (hi : i < L.length), Src w' (L[i]).2.1 (L[i]).1.kl ∧ Src w' (L[i]).2.2.1 (L[i]).1.ol ∧ Src w' (L[i]).2.2.2 (L[i]).1.nl) : MV w' (rM S lo hi bo pa cg L) := by
  obtain ⟨n1, n2⟩ := h.pn
  obtain ⟨r1, r2⟩ := h.rows
  refine ⟨txVv h.lo s1, txVv h.hi s2, txVv h.bo s3, h.hl, h.lb, by show (sl3 pa).2.1 ≤ _; have := h.ln.1; omega, (r1.kept c (fun g hg => q1 g (.inl hg))).mono (fun _ _ => trivial), fun i hi => (fP_at h.sm (by rw [← n1]; exact hi)).2, by show (sl3 cg).2.1 ≤ _; have := h.ln.2; omega, (r2.kept c (fun g hg => q1 g (.inr hg))).mono (fun _ _ => trivial), fun i hi => ?_⟩
  have hi2 : i < L.length := by rw [← n2]; exact hi
  have k := h.cg.own _ (List.getElem_mem hi2)
  have t := st i hi2
  show CgV w' (fC L i)
  rw [fC_at hi2]
  exact ⟨txVv k.1 t.1, txVv k.2.1 t.2.1, txVv k.2.2 t.2.2⟩
theorem MR.mv0 (h : MR w B S lo hi bo pa cg L) : MV w (rM S lo hi bo pa cg L) :=
  h.mv (Chg.refl (fun _ => False) w) (fun _ _ e => e) h.lo.src h.hi.src h.bo.src (fun i hi => by have k := h.cg.own _ (List.getElem_mem hi); exact ⟨k.1.src, k.2.1.src, k.2.2.src⟩)
/-- It stays where only what lies ahead of B turns. -/
theorem MR.far (h : MR w B S lo hi bo pa cg L) {Q : Nat → Prop} (c : Chg Q w w') (hQ : ∀ k, Q k → k < B) : MV w' (rM S lo hi bo pa cg L) := by
  have no : ∀ k, B ≤ k → ¬ Q k := fun k hk e => by have := hQ k e; omega
  refine h.mv c (fun g hg => no g (h.ap.pg g hg)) (h.lo.src.kept c (fun k hk => no k (h.ap.tx.ge k (.inl hk)))) (h.hi.src.kept c (fun k hk => no k (h.ap.tx.ge k (.inr (.inl hk))))) (h.bo.src.kept c (fun k hk => no k (h.ap.tx.ge k (.inr (.inr hk))))) (fun i hi => ?_)
  have k := h.cg.own _ (List.getElem_mem hi)
  have b := fun g hg => no g (h.ap.ch _ (List.getElem_mem hi) g hg).1
  exact ⟨k.1.src.kept c (fun g hg => b g (.inl hg)), k.2.1.src.kept c (fun g hg => b g (.inr (.inl hg))), k.2.2.src.kept c (fun g hg => b g (.inr (.inr hg)))⟩
end
theorem rM_same {wa wb : World} {B1 B2 : Nat} {S : MsS} {lo1 hi1 bo1 pa1 cg1 lo2 hi2 bo2 pa2 cg2 : Value} {L1 L2 : List ChV} (r1 : MR wa B1 S lo1 hi1 bo1 pa1 cg1 L1) (r2 : MR wb B2 S lo2 hi2 bo2 pa2 cg2 L2) : SmM (rM S lo1 hi1 bo1 pa1 cg1 L1) (rM S lo2 hi2 bo2 pa2 cg2 L2) := by
  have hl : L1.length = L2.length := by have := congrArg List.length (r1.ch.trans r2.ch.symm); simpa using this
  refine ⟨rfl, rfl, rfl, rfl, rfl, rfl, rfl, rfl, rfl, rfl, rfl, rfl, ?_, fun _ _ => rfl, ?_, fun i hi => ?_⟩
  · show (sl3 pa1).2.1 = (sl3 pa2).2.1
    rw [r1.pn.1, r2.pn.1]
  · show (sl3 cg1).2.1 = (sl3 cg2).2.1
    rw [r1.pn.2, r2.pn.2, hl]
  · have h1 : i < L1.length := by rw [← r1.pn.2]; exact hi
    have h2 : i < L2.length := by omega
    show SmC (fC L1 i) (fC L2 i)
    rw [fC_at h1, fC_at h2]
    have e : L1[i].1 = L2[i].1 := by
      have h9 : (L1.map Prod.fst)[i]'(by simpa using h1) = (L2.map Prod.fst)[i]'(by rw [List.length_map]; omega) := by simp only [r1.ch, r2.ch]
      simpa using h9
    unfold cgV txV
    exact ⟨by simp only [e], by simp only [e], by simp only [e], by simp only [e], by simp only [e]⟩
end Go.Proofs.Ytjmeaebehndheaa

/-
  Of the walk of CodecMessages: texts that are marked one behind the other, changes that are copied.
-/
namespace Go.Proofs.Ytjmeaebehndheaa
open Go.RowKit

/-- The block k is one of the texts that were read. -/
def tB (lo hi bo : Value) (L : List ChV) (k : Nat) : Prop := lo.ownBlock = some k ∨ hi.ownBlock = some k ∨ bo.ownBlock = some k ∨ ∃ o, o ∈ L ∧ cB o k
structure MM (w0 wr : World) (S : MsS) (lo' hi' bo' : Value) (L : List ChV) (j : Nat) : Prop where
  ch : Chg (tB lo' hi' bo' L) w0 wr
  lo : Src wr lo' S.lo
  hi : Src wr hi' S.hi
  bo : Src wr bo' S.bo
  dn : ∀ i (hi : i < L.length), i < j → Src wr (L[i]).2.1 (L[i]).1.kl ∧ Src wr (L[i]).2.2.1 (L[i]).1.ol ∧ Src wr (L[i]).2.2.2 (L[i]).1.nl
  td : ∀ i (hi : i < L.length), j ≤ i → Own wr (L[i]).2.1 (L[i]).1.kl ∧ Own wr (L[i]).2.2.1 (L[i]).1.ol ∧ Own wr (L[i]).2.2.2 (L[i]).1.nl
theorem CM.apart {w : World} {v : Value} {L : List ChV} (h : CM w v L) {i j : Nat} (hi : i < L.length) (hj : j < L.length) (hij : i ≠ j) {g : Nat} (h1 : cB L[i] g) (h2 : cB L[j] g) : False := by
  have hp := List.pairwise_iff_getElem.1 h.ap
  rcases Nat.lt_or_gt_of_ne hij with q | q
  · exact hp i j hi hj q g h1 h2
  · exact hp j i hj hi q g h2 h1
section
variable {w0 wr w1 w2 w3 : World} {B : Nat} {S : MsS} {lo hi bo pa cg : Value} {L : List ChV} {j : Nat}
theorem MR.lo1 (r : MR w0 B S lo hi bo pa cg L) (c1 : Chg (fun k => some k = bo.ownBlock) w0 w1) : Own w1 lo S.lo := r.lo.kept c1 (fun k hk e => r.ap.tx.k2 k hk e.symm)
theorem MR.hi2 (r : MR w0 B S lo hi bo pa cg L) (c1 : Chg (fun k => some k = bo.ownBlock) w0 w1) (c2 : Chg (fun k => some k = lo.ownBlock) w1 w2) : Own w2 hi S.hi := (r.hi.kept c1 (fun k hk e => r.ap.tx.o1 k hk e.symm)).kept c2 (fun k hk e => r.ap.tx.k1 k e.symm hk)
theorem MM.start (r : MR w0 B S lo hi bo pa cg L) (c1 : Chg (fun k => some k = bo.ownBlock) w0 w1) (s1 : Src w1 bo S.bo) (c2 : Chg (fun k => some k = lo.ownBlock) w1 w2) (s2 : Src w2 lo S.lo) (c3 : Chg (fun k => some k = hi.ownBlock) w2 w3) (s3 : Src w3 hi S.hi) : MM w0 w3 S lo hi bo L 0 := by
  refine ⟨((c1.mono (fun _ _ e => .inr (.inr (.inl e.symm)))).trans c2 (fun k e => .inl (.inl e.symm))).trans c3 (fun k e => .inl (.inr (.inl e.symm))), s2.kept c3 (fun k hk e => r.ap.tx.k1 k hk e.symm), s3, (s1.kept c2 (fun k hk e => r.ap.tx.k2 k e.symm hk)).kept c3 (fun k hk e => r.ap.tx.o1 k e.symm hk), fun _ _ h => absurd h (Nat.not_lt_zero _), fun i hi' _ => ?_⟩
  have k := r.cg.own _ (List.getElem_mem hi')
  have b := fun g hg => (r.ap.ch _ (List.getElem_mem hi') g hg).2
  have go : ∀ {u : Value} {l : List Int}, Own w0 u l → (∀ g, u.ownBlock = some g → cB L[i] g) → Own w3 u l := fun ho hu => ((ho.kept c1 (fun g hg e => b g (hu g hg) (.inr (.inr e.symm)))).kept c2 (fun g hg e => b g (hu g hg) (.inl e.symm))).kept c3 (fun g hg e => b g (hu g hg) (.inr (.inl e.symm)))
  exact ⟨go k.1 (fun g hg => .inl hg), go k.2.1 (fun g hg => .inr (.inl hg)), go k.2.2 (fun g hg => .inr (.inr hg))⟩
theorem MM.fresh (h : MM w0 wr S lo hi bo L j) (c : Chg (fun _ => False) wr w1) : MM w0 w1 S lo hi bo L j :=
  ⟨h.ch.trans c (fun _ e => e.elim), h.lo.kept c (fun _ _ e => e), h.hi.kept c (fun _ _ e => e), h.bo.kept c (fun _ _ e => e), fun i hi q => by have k := h.dn i hi q; exact ⟨k.1.kept c (fun _ _ e => e), k.2.1.kept c (fun _ _ e => e), k.2.2.kept c (fun _ _ e => e)⟩, fun i hi q => by have k := h.td i hi q; exact ⟨k.1.kept c (fun _ _ e => e), k.2.1.kept c (fun _ _ e => e), k.2.2.kept c (fun _ _ e => e)⟩⟩
theorem MM.od (r : MR w0 B S lo hi bo pa cg L) (h : MM w0 wr S lo hi bo L j) (hj : j < L.length) (c1 : Chg (fun k => some k = (L[j]).2.1.ownBlock) wr w1) : Own w1 (L[j]).2.2.1 (L[j]).1.ol :=
  (h.td j hj (Nat.le_refl _)).2.1.kept c1 (fun k hk e => (r.cg.one _ (List.getElem_mem hj)).k1 k e.symm hk)
theorem MM.nw (r : MR w0 B S lo hi bo pa cg L) (h : MM w0 wr S lo hi bo L j) (hj : j < L.length) (c1 : Chg (fun k => some k = (L[j]).2.1.ownBlock) wr w1) (c2 : Chg (fun k => some k = (L[j]).2.2.1.ownBlock) w1 w2) : Own w2 (L[j]).2.2.2 (L[j]).1.nl :=
  ((h.td j hj (Nat.le_refl _)).2.2.kept c1 (fun k hk e => (r.cg.one _ (List.getElem_mem hj)).k2 k e.symm hk)).kept c2 (fun k hk e => (r.cg.one _ (List.getElem_mem hj)).o1 k e.symm hk)
theorem MM.step (r : MR w0 B S lo hi bo pa cg L) (h : MM w0 wr S lo hi bo L j) (hj : j < L.length) (c1 : Chg (fun k => some k = (L[j]).2.1.ownBlock) wr w1) (s1 : Src w1 (L[j]).2.1 (L[j]).1.kl) (c2 : Chg (fun k => some k = (L[j]).2.2.1.ownBlock) w1 w2) (s2 : Src w2 (L[j]).2.2.1 (L[j]).1.ol) (c3 : Chg (fun k => some k = (L[j]).2.2.2.ownBlock) w2 w3) (s3 : Src w3 (L[j]).2.2.2 (L[j]).1.nl) : MM w0 w3 S lo hi bo L (j + 1) := by
  have c : Chg (cB L[j]) wr w3 := ((c1.mono (fun _ _ e => .inl e.symm)).trans c2 (fun k e => .inl (.inr (.inl e.symm)))).trans c3 (fun k e => .inl (.inr (.inr e.symm)))
  have on := r.cg.one _ (List.getElem_mem hj)
  have nt := fun g hg => (r.ap.ch _ (List.getElem_mem hj) g hg).2
  refine ⟨h.ch.trans c (fun k e => .inl (.inr (.inr (.inr ⟨_, List.getElem_mem hj, e⟩)))), h.lo.kept c (fun k hk e => nt k e (.inl hk)), h.hi.kept c (fun k hk e => nt k e (.inr (.inl hk))), h.bo.kept c (fun k hk e => nt k e (.inr (.inr hk))), fun i hi' q => ?_, fun i hi' q => ?_⟩
  · by_cases e : i = j
    · subst e
      exact ⟨(s1.kept c2 (fun k hk e => on.k1 k hk e.symm)).kept c3 (fun k hk e => on.k2 k hk e.symm), s2.kept c3 (fun k hk e => on.o1 k hk e.symm), s3⟩
    · have k := h.dn i hi' (by omega)
      have no := fun g (hg : cB L[i] g) => fun e2 => r.cg.apart hi' hj e hg e2
      exact ⟨k.1.kept c (fun g hg => no g (.inl hg)), k.2.1.kept c (fun g hg => no g (.inr (.inl hg))), k.2.2.kept c (fun g hg => no g (.inr (.inr hg)))⟩
  · have k := h.td i hi' (by omega)
    have no := fun g (hg : cB L[i] g) => fun e2 => r.cg.apart hi' hj (by omega) hg e2
    exact ⟨k.1.kept c (fun g hg => no g (.inl hg)), k.2.1.kept c (fun g hg => no g (.inr (.inl hg))), k.2.2.kept c (fun g hg => no g (.inr (.inr hg)))⟩
theorem MR.type5 (r : MR w0 B S lo hi bo pa cg L) {k : Nat} (hk : tB lo hi bo L k) : ∃ cur, w0.heap[k]? = some (.cells cur 5 (0, 0)) := by
  rcases hk with hk | hk | hk | ⟨o, ho, hk⟩
  · exact own_block5 r.lo hk
  · exact own_block5 r.hi hk
  · exact own_block5 r.bo hk
  · have k := r.cg.own o ho
    rcases hk with e | e | e
    · exact own_block5 k.1 e
    · exact own_block5 k.2.1 e
    · exact own_block5 k.2.2 e
theorem MR.lists (r : MR w0 B S lo hi bo pa cg L) {k : Nat} (hk : pa.ownBlock = some k ∨ cg.ownBlock = some k) : ¬ tB lo hi bo L k := fun e => by
  obtain ⟨_, e5⟩ := r.type5 e
  rcases hk with hk | hk
  · obtain ⟨_, e1⟩ := r.pa.blk hk
    rw [e5] at e1
    injection e1 with e1
    injection e1 with _ e1
    exact absurd e1 (by decide)
  · obtain ⟨_, e1⟩ := r.cg.gl.blk hk
    rw [e5] at e1
    injection e1 with e1
    injection e1 with _ e1
    exact absurd e1 (by decide)
theorem MR.blocks (r : MR w0 B S lo hi bo pa cg L) {k : Nat} (hk : tB lo hi bo L k) : B ≤ k ∧ k < w0.heap.size := by
  rcases hk with hk | hk | hk | ⟨o, ho, hk⟩
  · exact ⟨r.ap.tx.ge k (.inl hk), r.lo.lt hk⟩
  · exact ⟨r.ap.tx.ge k (.inr (.inl hk)), r.hi.lt hk⟩
  · exact ⟨r.ap.tx.ge k (.inr (.inr hk)), r.bo.lt hk⟩
  · refine ⟨(r.ap.ch o ho k hk).1, ?_⟩
    have q := r.cg.own o ho
    rcases hk with e | e | e
    · exact q.1.lt e
    · exact q.2.1.lt e
    · exact q.2.2.lt e
theorem MM.mv (r : MR w0 B S lo hi bo pa cg L) (h : MM w0 wr S lo hi bo L L.length) : MV wr (rM S lo hi bo pa cg L) :=
  r.mv h.ch (fun _ hg => r.lists hg) h.lo h.hi h.bo (fun i hi => h.dn i hi hi)
/-- The row of a change that was read, while texts are marked. -/
theorem MM.row (r : MR w0 B S lo hi bo pa cg L) (h : MM w0 wr S lo hi bo L j) (hj : j < L.length) : ∃ g o, (sl3 cg).1 = some ⟨g, o, none⟩ ∧ wr.rangeAt g (o + j * 5) (fC L j).cells := by
  obtain ⟨g, o, e, hb, rg⟩ := r.rows.2 j (by rw [r.pn.2]; exact hj)
  exact ⟨g, o, e, rangeAt_kept rg h.ch (r.lists (.inr hb))⟩
end
/-- Changes under way of being copied. -/
structure KC (w : World) (P : Msg) (wr : World) (j : Nat) (v : Value) (os : Nat → Cg) : Prop where
  be : Below w.heap.size w wr
  gl : GL wr v 112 5 ((List.range j).map (fun i => (os i).cells))
  nv : ∀ g, v.ownBlock = some g → w.heap.size ≤ g
  ow : ∀ i, i < j → Own wr (os i).ky.val (os i).ky.l ∧ Own wr (os i).od.val (os i).od.l ∧ Own wr (os i).nw.val (os i).nw.l
  sm : ∀ i, i < j → SmC (P.cs i) (os i)
theorem KC.start {w wr : World} (P : Msg) (h : Below w.heap.size w wr) : KC w P wr 0 (.slice none 0 0) P.cs := ⟨h, GL.nil _ _ _, nilB, (fun i hi => by omega), (fun i hi => by omega)⟩
theorem KC.fresh {w wr w1 : World} {P : Msg} {j : Nat} {v : Value} {os : Nat → Cg} (h : KC w P wr j v os) (c : Chg (fun _ => False) wr w1) : KC w P w1 j v os :=
  ⟨h.be.trans (c.below h.be.size (fun _ e => e.elim)), h.gl.fresh c, h.nv, fun i hi => by have k := h.ow i hi; exact ⟨k.1.kept c (fun _ _ e => e), k.2.1.kept c (fun _ _ e => e), k.2.2.kept c (fun _ _ e => e)⟩, h.sm⟩
/-- One record more behind them. -/
theorem KC.app {w wr : World} {P : Msg} {j : Nat} {v : Value} {os : Nat → Cg} (h : KC w P wr j v os) (x : Cg) (hb : j + 1 ≤ 5000000) :
    ∃ v' w', (Builtin.append_ #[93, 93] 93 #[v, .slice (some ⟨wr.heap.size, 0, none⟩) 1 1]).run Try.prog (wr.alloc (.cells x.cells.toArray 112)) = .ok v' w' ∧ GL w' v' 112 5 ((List.range j).map (fun i => (os i).cells) ++ [x.cells]) ∧ Chg (fun g => some g = v.ownBlock) wr w' ∧ (∀ g, v'.ownBlock = some g → w.heap.size ≤ g) ∧ ∀ {u : Value} {l : List Int}, Own wr u l → Own w' u l := by
  obtain ⟨v', w', r, gl, c, bb⟩ := h.gl.add (sl := 93) (C := x.cells) Try.underlying93 info215 (by kernel_rfl) (by decide) rfl x.one (by simp; omega) (by simp; omega) 93
  refine ⟨v', w', r, gl, c, fun g hg => ?_, fun ho => ho.kept c (fun g hg e => ?_)⟩
  · rcases bb with e | ⟨q, e, hq⟩
    · exact h.nv g (by rw [← e]; exact hg)
    · rw [hg] at e
      injection e with e
      have := h.be.size
      omega
  · obtain ⟨_, e1⟩ := own_block5 ho hg
    obtain ⟨_, e2⟩ := h.gl.blk e.symm
    rw [e1] at e2
    injection e2 with e2
    injection e2 with _ e2
    exact absurd e2 (by decide)
def osN (os : Nat → Cg) (j : Nat) (x : Cg) : Nat → Cg := fun i => if i = j then x else os i
theorem KC.step {w wr w' : World} {P : Msg} {j : Nat} {v v' : Value} {os : Nat → Cg} (h : KC w P wr j v os) {x : Cg} (o1 : Own wr x.ky.val x.ky.l) (o2 : Own wr x.od.val x.od.l) (o3 : Own wr x.nw.val x.nw.l) (sm : SmC (P.cs j) x) (gl : GL w' v' 112 5 ((List.range j).map (fun i => (os i).cells) ++ [x.cells])) (c : Chg (fun g => some g = v.ownBlock) wr w') (nv : ∀ g, v'.ownBlock = some g → w.heap.size ≤ g) (ko : ∀ {u : Value} {l : List Int}, Own wr u l → Own w' u l) : KC w P w' (j + 1) v' (osN os j x) := by
  have e1 : ∀ i, i < j → osN os j x i = os i := fun i hi => if_neg (by omega)
  have e2 : osN os j x j = x := if_pos rfl
  refine ⟨h.be.trans (c.below h.be.size (fun k e => h.nv k e.symm)), ?_, nv, fun i hi => ?_, fun i hi => ?_⟩
  · have e : (List.range (j + 1)).map (fun i => (osN os j x i).cells) = (List.range j).map (fun i => (os i).cells) ++ [x.cells] := by
      rw [List.range_succ, List.map_append, List.map_singleton, e2]
      congr 1
      exact List.map_congr_left (fun i hi => by rw [e1 i (List.mem_range.1 hi)])
    rw [e]
    exact gl
  · rcases Nat.lt_or_ge i j with q | q
    · rw [e1 i q]
      have k := h.ow i q
      exact ⟨ko k.1, ko k.2.1, ko k.2.2⟩
    · have : i = j := by omega
      rw [this, e2]
      exact ⟨ko o1, ko o2, ko o3⟩
  · rcases Nat.lt_or_ge i j with q | q
    · rw [e1 i q]; exact h.sm i q
    · have : i = j := by omega
      rw [this, e2]; exact sm
/-- Fields of a message that are laid anew. -/
theorem Msg.putsp (o : Msg) (s : Sp) : splice o.cells 3 s.cells = ({ o with sp := s } : Msg).cells := rfl
theorem Msg.putbo (o : Msg) (h1 : o.hl.length = 32) (h2 : o.lb.length = 32) (t : Tx) : o.cells.set 73 t.val = ({ o with bo := t } : Msg).cells := by
  show (_ :: _ :: _ :: _ :: _ :: _ :: _ :: (bs o.hl ++ (bs o.lb ++ o.tail))).set 73 t.val = _
  simp only [List.set_cons_succ]
  rw [List.set_append_right _ _ (by rw [bs_len]; omega), bs_len, h1, List.set_append_right _ _ (by rw [bs_len]; omega), bs_len, h2]
  rfl
theorem Msg.putpa (o : Msg) (h1 : o.hl.length = 32) (h2 : o.lb.length = 32) (a : Option Addr) (n c : Nat) (f : Nat → List Int) : o.cells.set 74 (.slice a n c) = ({ o with pa := a, pn := n, pc := c, ps := f } : Msg).cells := by
  show (_ :: _ :: _ :: _ :: _ :: _ :: _ :: (bs o.hl ++ (bs o.lb ++ o.tail))).set 74 (.slice a n c) = _
  simp only [List.set_cons_succ]
  rw [List.set_append_right _ _ (by rw [bs_len]; omega), bs_len, h1, List.set_append_right _ _ (by rw [bs_len]; omega), bs_len, h2]
  rfl
theorem Msg.putca (o : Msg) (h1 : o.hl.length = 32) (h2 : o.lb.length = 32) (a : Option Addr) (n c : Nat) (f : Nat → Cg) : o.cells.set 75 (.slice a n c) = ({ o with ca := a, cn := n, cc := c, cs := f } : Msg).cells := by
  show (_ :: _ :: _ :: _ :: _ :: _ :: _ :: (bs o.hl ++ (bs o.lb ++ o.tail))).set 75 (.slice a n c) = _
  simp only [List.set_cons_succ]
  rw [List.set_append_right _ _ (by rw [bs_len]; omega), bs_len, h1, List.set_append_right _ _ (by rw [bs_len]; omega), bs_len, h2]
  rfl
theorem recsB_eq {f g : Nat → List Int} : ∀ n, (∀ i, i < n → f i = g i) → recsB f n = recsB g n
  | 0, _ => rfl
  | n + 1, h => by rw [recsB, recsB, recsB_eq n (fun i hi => h i (by omega)), h n (by omega)]
/-- Messages that say the same are one text. -/
theorem SmM.bytes {x y : Msg} (h : SmM x y) : x.bytes = y.bytes := by
  have e1 : x.sp.bytes = y.sp.bytes := by unfold Sp.bytes Tx.bytes; rw [h.op, h.lo, h.hi]
  have e2 : x.bo.bytes = y.bo.bytes := by unfold Tx.bytes; rw [h.bo]
  have e3 : recsB x.ps x.pn = recsB y.ps y.pn := by rw [← h.pn]; exact recsB_eq x.pn h.ps
  have e4 : recsB (fun i => (x.cs i).bytes) x.cn = recsB (fun i => (y.cs i).bytes) y.cn := by rw [← h.cn]; exact recsB_eq x.cn (fun i hi => (h.cs i hi).bytes)
  unfold Msg.bytes Msg.body
  rw [e1, e2, e3, e4, h.ki, h.ver, h.oth, h.hs, h.hl, h.lb, h.ct, h.co, h.pn, h.cn]
end Go.Proofs.Ytjmeaebehndheaa
