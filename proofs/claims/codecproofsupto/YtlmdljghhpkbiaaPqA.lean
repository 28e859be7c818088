import Derived.Test.YtlmdljghhpkbiaaPrY
import Derived.Test.YtlmdljghhpkbiaaPrX
import Derived.Test.YtlmdljghhpkbiaaPrH
/-
  The reference writes proofs.
-/
namespace Go.Proofs.Ytlmdljghhpkbiaa
open Go.RowKit

set_option maxRecDepth 100000 in
set_option maxHeartbeats 8000000 in
theorem xProof_any {w : World} {P : Prf} (hP : PrIn w (fun g => g < w.heap.size) P) (hl : P.bytes.length ≤ 70368744177664) (hs : ∀ i, i < P.on → (P.os i).kl.length ≤ 4194304 ∧ (P.os i).vl.length ≤ 4194304) :
    Calls Try.prog 40 #[.agg P.cells.toArray] w fun e w' => ∃ u, e = .returned u ∧ Made w w' u P.bytes := by
  obtain ⟨X, hX⟩ : ∃ X, X = w.heap.size := ⟨_, rfl⟩
  obtain ⟨W, hW⟩ : ∃ W, W = w.alloc (.cells P.cells.toArray 98) := ⟨_, rfl⟩
  have hb : Below w.heap.size w W := by rw [hW]; exact (Below.refl _ _).alloc (Nat.le_refl _) _
  have B0 : Hid (Blk W X P.cells 98) := by rw [hW, hX]; exact Blk.made _ _ _
  have HP : Hid (PrIn W (fun g => g < W.heap.size) P) := hP.keep0 hb
  have HB : Hid _ := hb
  have HS : Hid _ := hs
  have CT := hP.ct
  have ON := hP.on
  have k0 : W.cell? ⟨X, 0, none⟩ = some (.int .u64 P.ct) := B0.out.cell 0
  clear hP hb hs
  go_enter Try.func40, Try.ntmps40
  go_upto_region 1 with fail
  rw [← hW, ← hX]
  have HX : Hid _ := hX
  clear hW hX
  go_wp2_with fail
  refine Calls.mono (num_any P.ct CT W) ?_
  rintro e w1 ⟨r1, rfl, m1⟩
  have M1 : Hid (Made W w1 r1 (numB P.ct)) := m1
  have k1 : w1.cell? ⟨X, 1, none⟩ = some (.slice P.oa P.on P.oc) := (B0.out.keep0 m1.2.1).cell 1
  clear m1 k0
  go_wp2_with fail
  go_loopw [3, 12] (fun v i wr => ∃ j : Nat, j ≤ P.on ∧ i = .int .i64 j ∧ Hid (Made W wr v (numB P.ct ++ recsB P.oB j))) (fun _ i _ => P.on - (intOf i).toNat)
  case atStart => exact ⟨0, Nat.zero_le _, rfl, by have h9 := M1.out; rw [show numB P.ct ++ recsB P.oB 0 = numB P.ct by simp [recsB]]; exact h9⟩
  case round =>
    obtain ⟨j, hj, rfl, hid⟩ := hrel
    have HB1 : Hid _ := hid.out
    clear hid
    by_cases hlt : j < P.on
    · obtain ⟨k, hk⟩ : ∃ k, k = P.os j := ⟨_, rfl⟩
      obtain ⟨g, o, hsa, hav, hrg⟩ := HP.out.row j hlt
      have kin := HP.out.op j hlt
      have hrg : W.rangeAt g (o + j * 37) k.cells := by rw [hk]; exact hrg
      have hsz := HS.out j hlt
      rw [← hk] at kin hsz
      have hix := ix_at Try.underlying96 Try.elem96 Try.so219 (c := P.oc) hsa hlt
      have RG : Hid (wr.rangeAt g (o + j * 37) k.cells) := rangeAt_kept hrg (Chg.of_below HB1.out.2.1 (fun _ => False)) (fun e => e)
      have HKK : Hid _ := hk
      have SM := kin.sm
      have KI : Hid _ := kin
      have ZK := Try.opSz k SM
      have LK : k.cells.length = 37 := by simp [Oc.cells, bs, SM]
      have LJ : Hid ((numB P.ct ++ recsB P.oB j).length + k.bytes.length ≤ 70368744177664) := by
        have h1 := recsB_le P.oB P.on (j + 1) (by omega)
        have e1 : (recsB P.oB (j + 1)).length = (recsB P.oB j).length + k.bytes.length := by rw [recsB, List.length_append, hk]; rfl
        have e2 : P.bytes.length = (numB P.ct).length + (recsB P.oB P.on).length := by simp [Prf.bytes]
        have h2 := hl
        show (numB P.ct ++ recsB P.oB j).length + k.bytes.length ≤ 70368744177664
        simp only [List.length_append]
        omega
      clear hrg hk hsa hav kin
      go_upto_region 5 with (first
        | refine wpList_load_mid rfl 111 (.tmp 14) rfl g (o + j * 37) rfl k.cells _ RG.out Try.underlying111 rfl ZK ?_
        | (refine wpList_store_part rfl 111 (.tmp 5) (.tmp 15) rfl wr.heap.size 0 k.cells rfl rfl (t := 111) ⟨heap_alloc_new _ _⟩ (by rw [LK]; simp) ZK (Oc.one k) ?_; intro wB hw8 hc8; rw [splice_all _ _ (by rw [LK]; simp)] at hw8; have c8 : Chg (fun _ => False) wr wB := ((Chg.refl (fun _ => False) wr).alloc _).trans hc8 (fun i e => .inr (by omega)); have BK : Hid _ := hw8; have CB : Hid _ := c8; clear hw8 hc8 c8))
      obtain ⟨Lj, hLj⟩ : ∃ Lj, Lj = numB P.ct ++ recsB P.oB j := ⟨_, rfl⟩
      rw [← hLj] at LJ
      have MB : Hid (Made W wB u3 Lj) := by rw [hLj]; exact ⟨HB1.out.1.kept CB.out (fun _ _ e => e), HB1.out.2.1.trans (CB.out.below HB1.out.2.1.size (fun _ e => e.elim)), HB1.out.2.2⟩
      have KB : Hid (OcIn wB (fun g => g < wB.heap.size) k) := (KI.out.kept (Chg.of_below MB.out.2.1 (fun _ => False)) (fun _ _ e => e)).mono (fun g e => Nat.lt_of_lt_of_le e MB.out.2.1.size)
      have HLJ : Hid _ := hLj
      clear hLj hix HB1 RG CB KI
      go_wp2_with (refine wpList_load_part rfl 111 (.tmp 5) rfl wr.heap.size 0 k.cells rfl BK.out (by simp) Try.underlying111 rfl ZK ?_)
      refine Calls.mono (xOp_any KB.out hsz.1 hsz.2) ?_
      rintro e w5 ⟨r5, rfl, m5⟩
      have MV : Hid (Made W w5 u3 Lj) := ⟨MB.out.1.kept (Chg.of_below m5.2.1 (fun _ => False)) (fun _ _ e => e), MB.out.2.1.trans (m5.2.1.mono MB.out.2.1.size), MB.out.2.2⟩
      have SR : Hid _ := m5.1.src
      clear m5 MB KB BK
      go_wp2_with (refine wpList_app rfl (.tmp 16) (.tmp 18) rfl (v := u3) rfl rfl MV.out.1 SR.out (by have := LJ.out; omega) ?_; intro v6 w6 hv hch hat; have R6 : Hid _ := Made.app MV.out hv hch hat; clear hv hch hat)
      have FN : Hid (Made W w6 v6 (numB P.ct ++ recsB P.oB (j + 1))) := by
        have e : numB P.ct ++ recsB P.oB (j + 1) = Lj ++ k.bytes := by
          rw [HLJ.out, recsB, Prf.oB, ← HKK.out]
          simp
        rw [e]
        exact R6.out
      go_roundw
      case rel => exact ⟨j + 1, by omega, by go_num, FN.out⟩
      case measure => simp [intOf]; omega
    · have hjn : j = P.on := by omega
      subst hjn
      have F : Hid (Made w wr u3 P.bytes) := Made.upY HB1.out HB.out
      go_wp2_with fail
      go_ret
      exact ⟨_, rfl, F.out⟩
end Go.Proofs.Ytlmdljghhpkbiaa

/-
  Of the walk of CodecProofs: two readings of a text, and texts that are marked one behind the other.
-/
namespace Go.Proofs.Ytlmdljghhpkbiaa
open Go.RowKit

/-- Ops that lie in memory. -/
structure VW (w : World) (a : Option Addr) (n : Nat) (f : Nat → Oc) : Prop where
  rows : RowsIn w (fun _ => True) a n 37 (fun i => (f i).cells)
  t : ∀ i, i < n → OcT w (f i)
theorem VW.kept {w w' : World} {a : Option Addr} {n : Nat} {f : Nat → Oc} (h : VW w a n f) (c : Chg (fun _ => False) w w') : VW w' a n f := ⟨h.rows.kept c (fun _ _ e => e), fun i hi => (h.t i hi).kept c⟩
theorem VW.same {w : World} {a b : Option Addr} {n c d ct : Nat} {f1 f2 : Nat → Oc} (h1 : VW w a n f1) (h2 : VW w b n f2) (hs : ∀ i, i < n → SmO (f1 i) (f2 i)) (hn : n ≤ 9223372036854775807) :
    Calls Try.prog 36 #[.agg (prC ct (.slice a n c)).toArray, .agg (prC ct (.slice b n d)).toArray] w fun e w' => e = .returned (.bool true) ∧ Below w.heap.size w w' := sameProofE h1.rows h2.rows h1.t h2.t hs hn
theorem PrIn.vw {w : World} {Av : Nat → Prop} {P : Prf} (h : PrIn w Av P) : VW w P.oa P.on P.os := ⟨h.row.mono (fun _ _ => True.intro), fun i hi => (h.op i hi).t⟩
theorem SmO.symm {x y : Oc} (h : SmO x y) : SmO y x := ⟨h.ki.symm, h.lv.symm, h.kl.symm, h.ct.symm, h.sm.symm, h.vl.symm⟩
theorem SmO.bytes {x y : Oc} (h : SmO x y) : x.bytes = y.bytes := by
  unfold Oc.bytes Oc.body Oc.nb
  rw [h.ki, h.lv, h.kl, h.ct, h.sm, h.vl]
theorem recsB_same {f g : Nat → List Int} : ∀ n, (∀ i, i < n → f i = g i) → recsB f n = recsB g n
  | 0, _ => rfl
  | n + 1, h => by rw [recsB, recsB, recsB_same n (fun i hi => h i (by omega)), h n (by omega)]
theorem textS_len (T : List Int) (a : Nat) (e m : Int) : (textS T a e m).1.length ≤ T.length := by
  unfold textS
  split
  · split
    split
    · split
      · exact Nat.zero_le _
      · split
        · exact Nat.zero_le _
        · simp only [List.length_take, List.length_drop]; omega
    · exact Nat.zero_le _
  · exact Nat.zero_le _
theorem opS_texts (T : List Int) (a : Nat) (e : Int) : (opS T a e).kl.length ≤ T.length ∧ (opS T a e).vl.length ≤ T.length := by
  have z : ([] : List Int).length ≤ T.length := Nat.zero_le _
  unfold opS
  simp only
  split
  · exact ⟨z, textS_len _ _ _ _⟩
  split
  · exact ⟨z, z⟩
  split
  · exact ⟨z, z⟩
  split
  · exact ⟨textS_len _ _ _ _, z⟩
  split
  · exact ⟨textS_len _ _ _ _, z⟩
  · exact ⟨z, z⟩
theorem opsL_texts {T : List Int} : ∀ (f a : Nat) (e : Int) (o : OpS), o ∈ (opsL T f a e).1 → o.kl.length ≤ T.length ∧ o.vl.length ≤ T.length
  | 0, a, e, o, h => by simp [opsL] at h
  | f + 1, a, e, o, h => by
    by_cases hc : e = 0 ∧ a < T.length
    · obtain ⟨rfl, hc⟩ := hc
      rw [opsL_step hc] at h
      rcases List.mem_cons.1 h with h | h
      · rw [h]; exact opS_texts T a 0
      · exact opsL_texts f _ _ o h
    · rw [opsL_stop hc] at h
      cases h
theorem proofS_texts (T : List Int) (o : OpS) (h : o ∈ (proofS T 0 0).ops) : o.kl.length ≤ T.length ∧ o.vl.length ≤ T.length := by
  unfold proofS at h
  simp only at h
  split at h
  · exact opsL_texts _ _ _ o h
  · cases h
/-- Two readings of one text. -/
theorem two_proofs {wa wb : World} {B1 B2 : Nat} {T : List Int} {E : Int} {C D : List Value} (cA : E = 0 → PrIs wa B1 (proofS T 0 0) C) (cB : ¬ E = 0 → C = prZ) (dA : E = 0 → PrIs wb B2 (proofS T 0 0) D) (dB : ¬ E = 0 → D = prZ) :
    ∃ (ct : Nat) (vx vy : Value) (L1 L2 : List (OpS × Value × Value)), C = prC ct vx ∧ D = prC ct vy ∧ OM wa B1 vx L1 ∧ OM wb B2 vy L2 ∧ L1.map Prod.fst = L2.map Prod.fst ∧ ∀ o, o ∈ L1 → o.1.kl.length ≤ T.length ∧ o.1.vl.length ≤ T.length := by
  by_cases e : E = 0
  · obtain ⟨vx, L1, e1, o1, m1⟩ := (cA e).ex
    obtain ⟨vy, L2, e2, o2, m2⟩ := (dA e).ex
    exact ⟨_, vx, vy, L1, L2, e1, e2, o1, o2, by rw [m1, m2], fun o ho => proofS_texts T o.1 (by rw [← m1]; exact List.mem_map_of_mem ho)⟩
  · exact ⟨0, (.slice none 0 0), (.slice none 0 0), [], [], cB e, dB e, OM.none _ _, OM.none _ _, rfl, fun o ho => (by cases ho)⟩
theorem OM.apart {w : World} {B : Nat} {v : Value} {L : List (OpS × Value × Value)} (h : OM w B v L) {i j : Nat} (hi : i < L.length) (hj : j < L.length) (hij : i ≠ j) {g : Nat} (h1 : oB L[i] g) (h2 : oB L[j] g) : False := by
  have hp := List.pairwise_iff_getElem.1 h.ap
  rcases Nat.lt_or_gt_of_ne hij with q | q
  · exact hp i j hi hj q g h1 h2
  · exact hp j i hj hi q g h2 h1
/-- Texts under way of being marked. -/
structure MK (w0 wr : World) (L : List (OpS × Value × Value)) (j : Nat) : Prop where
  ch : Chg (fun k => ∃ o, o ∈ L ∧ oB o k) w0 wr
  dn : ∀ i (hi : i < L.length), i < j → Src wr (L[i]).2.1 (L[i]).1.kl ∧ Src wr (L[i]).2.2 (L[i]).1.vl
  td : ∀ i (hi : i < L.length), j ≤ i → Own wr (L[i]).2.1 (L[i]).1.kl ∧ Own wr (L[i]).2.2 (L[i]).1.vl
section
variable {w0 wr w1 w2 : World} {B j : Nat} {v : Value} {L : List (OpS × Value × Value)}
theorem MK.start (om : OM w0 B v L) : MK w0 w0 L 0 := ⟨Chg.refl _ _, fun i _ h => absurd h (Nat.not_lt_zero _), fun i hi _ => by obtain ⟨a, b, _, _⟩ := om.own _ (List.getElem_mem hi); exact ⟨a, b⟩⟩
theorem MK.fresh (h : MK w0 wr L j) (c : Chg (fun _ => False) wr w1) : MK w0 w1 L j := ⟨h.ch.trans c (fun _ e => e.elim), fun i hi q => ⟨(h.dn i hi q).1.kept c (fun _ _ e => e), (h.dn i hi q).2.kept c (fun _ _ e => e)⟩, fun i hi q => ⟨(h.td i hi q).1.kept c (fun _ _ e => e), (h.td i hi q).2.kept c (fun _ _ e => e)⟩⟩
theorem MK.key (om : OM w0 B v L) (h : MK w0 wr L j) (hj : j < L.length) (c1 : Chg (fun k => some k = (L[j]).2.1.ownBlock) wr w1) : Own w1 (L[j]).2.2 (L[j]).1.vl := by
  refine (h.td j hj (Nat.le_refl _)).2.kept c1 (fun k hk e => ?_)
  rcases om.one _ (List.getElem_mem hj) with q | q
  · rw [q] at e; cases e
  · rw [q] at hk; cases hk
theorem MK.step (om : OM w0 B v L) (h : MK w0 wr L j) (hj : j < L.length) (c1 : Chg (fun k => some k = (L[j]).2.1.ownBlock) wr w1) (s1 : Src w1 (L[j]).2.1 (L[j]).1.kl) (c2 : Chg (fun k => some k = (L[j]).2.2.ownBlock) w1 w2) (s2 : Src w2 (L[j]).2.2 (L[j]).1.vl) : MK w0 w2 L (j + 1) := by
  have one := om.one _ (List.getElem_mem hj)
  have n1 : ∀ i (hi : i < L.length), i ≠ j → ∀ k, oB L[i] k → ¬ some k = (L[j]).2.1.ownBlock := fun i hi q k hk e => om.apart hi hj q hk (.inl e.symm)
  have n2 : ∀ i (hi : i < L.length), i ≠ j → ∀ k, oB L[i] k → ¬ some k = (L[j]).2.2.ownBlock := fun i hi q k hk e => om.apart hi hj q hk (.inr e.symm)
  refine ⟨(h.ch.trans c1 (fun k e => .inl ⟨_, List.getElem_mem hj, .inl e.symm⟩)).trans c2 (fun k e => .inl ⟨_, List.getElem_mem hj, .inr e.symm⟩), fun i hi q => ?_, fun i hi q => ?_⟩
  · by_cases e : i = j
    · subst e
      refine ⟨s1.kept c2 (fun k hk e => ?_), s2⟩
      rcases one with q | q
      · rw [q] at hk; cases hk
      · rw [q] at e; cases e
    · have h9 := h.dn i hi (by omega)
      exact ⟨(h9.1.kept c1 (fun k hk => n1 i hi e k (.inl hk))).kept c2 (fun k hk => n2 i hi e k (.inl hk)), (h9.2.kept c1 (fun k hk => n1 i hi e k (.inr hk))).kept c2 (fun k hk => n2 i hi e k (.inr hk))⟩
  · have e : i ≠ j := by omega
    have h9 := h.td i hi (by omega)
    exact ⟨(h9.1.kept c1 (fun k hk => n1 i hi e k (.inl hk))).kept c2 (fun k hk => n2 i hi e k (.inl hk)), (h9.2.kept c1 (fun k hk => n1 i hi e k (.inr hk))).kept c2 (fun k hk => n2 i hi e k (.inr hk))⟩
theorem OM.blk5 (om : OM w0 B v L) {k : Nat} (h : ∃ o, o ∈ L ∧ oB o k) : B ≤ k ∧ k < w0.heap.size ∧ ∃ cur, w0.heap[k]? = some (.cells cur 5 (0, 0)) := by
  obtain ⟨o, ho, hk⟩ := h
  obtain ⟨a, b, _, _⟩ := om.own o ho
  refine ⟨om.nk o ho k hk, ?_, ?_⟩
  · rcases hk with hk | hk
    · exact a.lt hk
    · exact b.lt hk
  · rcases hk with hk | hk
    · exact own_block5 a hk
    · exact own_block5 b hk
/-- The rows of ops whose texts are marked. -/
theorem MK.rows (om : OM w0 B v L) (h : MK w0 wr L j) {a : Option Addr} {c : Nat} (hv : v = .slice a L.length c) : RowsIn wr (fun _ => True) a L.length 37 (fun i => (fL L i).cells) := by
  obtain ⟨a', c', e, r⟩ := om.rowsF
  rw [hv] at e
  injection e with e1 _ _
  subst e1
  have r2 : RowsIn w0 (fun g => v.ownBlock = some g) a L.length 37 (fun i => (fL L i).cells) := fun i hi => by
    obtain ⟨g, o, hA, _, rg⟩ := r i hi
    exact ⟨g, o, hA, by rw [hv, hA]; rfl, rg⟩
  exact (r2.kept h.ch (fun g hg e => by
    obtain ⟨_, _, cur, e5⟩ := om.blk5 e
    obtain ⟨cur', e1⟩ := om.gl.blk hg
    rw [e5] at e1
    injection e1 with e1
    injection e1 with _ e1
    exact absurd e1 (by decide))).mono (fun _ _ => True.intro)
theorem MK.vw (om : OM w0 B v L) {n : Nat} (h : MK w0 wr L n) {a : Option Addr} {c : Nat} (hv : v = .slice a n c) (hn : n = L.length) : VW wr a n (fL L) := by
  subst hn
  exact ⟨h.rows om hv, fun i hi => om.ocT hi (h.dn i hi hi).1 (h.dn i hi hi).2⟩
/-- What an op's texts are, as its cells say. -/
theorem OM.texts (om : OM w0 B v L) (hj : j < L.length) : Value.slice (fL L j).ka (fL L j).kn (fL L j).kc = (L[j]).2.1 ∧ Value.slice (fL L j).va (fL L j).vn (fL L j).vc = (L[j]).2.2 := by
  obtain ⟨x, y, _, _⟩ := om.own _ (List.getElem_mem hj)
  rw [fL_at hj]
  exact ⟨sl3_own x, sl3_own y⟩
theorem OM.vw0 (om : OM w0 B v L) {a : Option Addr} {n c : Nat} (hv : v = .slice a n c) (hn : n = L.length) : VW w0 a n (fL L) := by
  subst hn
  obtain ⟨a', c', e, r⟩ := om.rowsF
  rw [hv] at e
  injection e with e1 _ _
  subst e1
  refine ⟨r, fun i hi => ?_⟩
  obtain ⟨x, y, _, _⟩ := om.own _ (List.getElem_mem hi)
  exact om.ocT hi x.src y.src
/-- Ops that lie elsewhere stay. -/
theorem OM.vwFar {w' : World} (om : OM w0 B v L) {S : Nat → Prop} (c : Chg S w0 w') (hS : ∀ k, S k → k < B) {a : Option Addr} {n d : Nat} (hv : v = .slice a n d) (hn : n = L.length) : VW w' a n (fL L) := by
  subst hn
  obtain ⟨a', c', e, r⟩ := om.rowsF
  rw [hv] at e
  injection e with e1 _ _
  subst e1
  have r2 : RowsIn w0 (fun g => v.ownBlock = some g) a L.length 37 (fun i => (fL L i).cells) := fun i hi => by
    obtain ⟨g, o, hA, _, rg⟩ := r i hi
    exact ⟨g, o, hA, by rw [hv, hA]; rfl, rg⟩
  refine ⟨(r2.kept c (fun g hg e => by have := hS g e; have := om.nb g hg; omega)).mono (fun _ _ => True.intro), fun i hi => ?_⟩
  obtain ⟨x, y, _, _⟩ := om.own _ (List.getElem_mem hi)
  exact om.ocT hi (x.kept c (fun k hk e => by have := hS k e; have := om.nk _ (List.getElem_mem hi) k (.inl hk); omega)).src (y.kept c (fun k hk e => by have := hS k e; have := om.nk _ (List.getElem_mem hi) k (.inr hk); omega)).src
end
end Go.Proofs.Ytlmdljghhpkbiaa
