/-
  Of the walk of CodecProofs: lists copied, ops that were read, proofs compared.
-/
import Derived.Test.YtlmdljghhpkbiaaPrT
import Derived.Test.YtlmdljghhpkbiaaPrU
import Derived.Test.YtlmdljghhpkbiaaRd
namespace Go.Proofs.Ytlmdljghhpkbiaa
open Go.RowKit

theorem GL.rowsN {w : World} {v : Value} {ty sz n : Nat} {f : Nat → List Value} (h : GL w v ty sz ((List.range n).map f)) : ∃ A c, v = .slice A n c ∧ RowsIn w (fun _ => True) A n sz f := by
  obtain ⟨A, c, e⟩ := h.form
  have hl : ((List.range n).map f).length = n := by simp
  refine ⟨A, c, by rw [e, hl], fun i hi => ?_⟩
  obtain ⟨g, c', e2, r⟩ := h.at (j := i) (by rw [hl]; exact hi)
  rw [e] at e2
  injection e2 with e2 _ _
  refine ⟨g, 0, e2, True.intro, ?_⟩
  rw [Nat.zero_add]
  have e3 : ((List.range n).map f)[i]'(by rw [hl]; exact hi) = f i := by simp
  rw [e3] at r
  exact r
set_option maxRecDepth 4000 in
/-- A whole list of records more. -/
theorem GL.addAll {w : World} {v : Value} {ty sz : Nat} {L : List (List Value)} {sl by_ : Nat} {Z : Array Value} (hu : Try.prog.underlying sl = some (.slice ty)) (hi0 : (Try.prog.info? ty).map (fun i => (i.zero, i.size, i.bytes)) = some (some (.agg Z), sz, by_)) (hZ : (Value.agg Z).cells.size = sz) (hp : 0 < sz) (h : GL w v ty sz L) {Av : Nat → Prop} {A : Option Addr} {n c : Nat} {f : Nat → List Value} (hr : RowsIn w Av A n sz f) (hl : ∀ i, i < n → (f i).length = sz) (h1 : ∀ i, i < n → ∀ u ∈ f i, u.oneCell' = true) (hb : (L.length + n) * by_ ≤ 140737488355328) (hb2 : L.length + n ≤ 1000000000) (ty2 : TypeId) :
    ∃ v' w', (Builtin.append_ #[sl, sl] ty2 #[v, .slice A n c]).run Try.prog w = .ok v' w' ∧ GL w' v' ty sz (L ++ (List.range n).map f) ∧ Chg (fun g => some g = v.ownBlock) w w' ∧ (v'.ownBlock = v.ownBlock ∨ ∃ q, v'.ownBlock = some q ∧ w.heap.size ≤ q) := by
  obtain ⟨i0, hi, hz0, hz1, hz2⟩ := info_parts hi0
  have hfl : ∀ q, q ∈ (List.range n).map f → q.length = sz := fun q hq => by
    obtain ⟨i, hi, e⟩ := List.mem_map.1 hq
    rw [← e]; exact hl i (by simpa using hi)
  cases A with
  | none =>
    have hn : n = 0 := by
      rcases Nat.eq_zero_or_pos n with e | e
      · exact e
      · obtain ⟨g, o, e, _⟩ := hr 0 e
        cases e
    subst hn
    refine ⟨v, w, ?_, by simpa using h, Chg.refl _ _, .inl rfl⟩
    rcases h.row.2 with ⟨hv, _⟩ | ⟨g, cap, cur, hv, _, _, hnc, _⟩
    · rw [hv]; simp [Builtin.append_, run_underlying hu, sizeOf, typeInfo, hi, Builtin.lenOf, Builtin.firstCells]
    · rw [hv]; simp [Builtin.append_, run_underlying hu, sizeOf, typeInfo, hi, Builtin.lenOf, Builtin.firstCells, hnc, storeCells]
  | some a =>
    have hlen : ((List.range n).map f).flatten.length = n * sz := by
      have : ∀ (M : List (List Value)), (∀ q, q ∈ M → q.length = sz) → M.flatten.length = M.length * sz := by
        intro M
        induction M with
        | nil => intro _; simp
        | cons k r ih =>
          intro hk
          rw [List.flatten_cons, List.length_append, hk k (List.mem_cons_self ..), ih (fun q hq => hk q (List.mem_cons_of_mem _ hq)), List.length_cons, Nat.succ_mul]
          omega
      rw [this _ hfl]
      simp
    obtain ⟨v', w1, r1, r2, r3, _, r5⟩ := run_append_own_at (P := Try.prog) w 0 sl ty2 ty i0 _ sz by_ hu hi hz0 hz1 hz2 hZ hp v L.length L.flatten h.row a n c ((List.range n).map f).flatten hlen (fun j u hj => by
      have hjl := (List.getElem?_eq_some_iff.1 hj).1
      rw [hlen] at hjl
      have hq : j / sz < n := Nat.div_lt_of_lt_mul (by rw [Nat.mul_comm]; exact hjl)
      obtain ⟨g, o, e, _, rg⟩ := hr (j / sz) hq
      have hrem : j % sz < (f (j / sz)).length := by rw [hl _ hq]; exact Nat.mod_lt _ hp
      have h2 := flatten_at ((List.range n).map f) hfl (j / sz) (by simpa using hq) (j % sz) ((f (j / sz))[j % sz]) (by simp [hrem])
      rw [Nat.div_add_mod', hj] at h2
      injection h2 with h2
      injection e with e
      rw [e, Addr.add_mid, h2]
      have h3 := rg (j % sz) _ (List.getElem?_eq_getElem hrem)
      rw [Nat.add_assoc, Nat.div_add_mod'] at h3
      exact h3) (fun u hu => by
      obtain ⟨q, hq, hu⟩ := List.mem_flatten.1 hu
      obtain ⟨i, hi, e⟩ := List.mem_map.1 hq
      rw [← e] at hu
      exact h1 i (by simpa using hi) u hu) (by unfold maxLen; omega) hb (Nat.zero_le _)
    refine ⟨v', w1, r1, ⟨by rw [List.length_append, List.flatten_append]; simpa using r2, fun q hq => ?_⟩, Chg.of_grown r3, r5.imp id (fun e => ⟨_, e, Nat.le_refl _⟩)⟩
    rcases List.mem_append.1 hq with hq | hq
    · exact h.len q hq
    · exact hfl q hq
theorem GL.rowsK {w : World} {v : Value} {ty sz n : Nat} {f : Nat → List Value} {B : Nat} (h : GL w v ty sz ((List.range n).map f)) (hb : ∀ g, v.ownBlock = some g → B ≤ g) : ∃ A c, v = .slice A n c ∧ RowsIn w (fun g => B ≤ g ∧ g < w.heap.size) A n sz f := by
  obtain ⟨A, c, e, r⟩ := GL.rowsN h
  refine ⟨A, c, e, fun i hi => ?_⟩
  obtain ⟨g, o, hA, _, rg⟩ := r i hi
  refine ⟨g, o, hA, ⟨hb g (by rw [e, hA]; rfl), ?_⟩, rg⟩
  obtain ⟨cur, hg⟩ := h.blk (g := g) (by rw [e, hA]; rfl)
  exact (Array.getElem?_eq_some_iff.1 hg).1

theorem Own.addrP {w : World} {a : Option Addr} {n c : Nat} {l : List Int} (h : Own w (.slice a n c) l) (hp : 0 < l.length) : ∃ g, a = some ⟨g, 0, none⟩ := by
  obtain ⟨g, cap, e, _⟩ := h.form2 hp
  injection e with e
  exact ⟨g, e⟩
theorem untouched_P {w : World} {a : Option Addr} {s : Value} {c M : Nat} {m : List Int} (hM : M = m.length + 2) (hs : Src w s m) (ho : Own w (.slice a M c) (m ++ [165, 90])) (hl : m.length + 2 ≤ 140737488355328) :
    Calls Try.prog 11 #[.slice a M c, s] w fun e w' => e = .returned (.bool true) ∧ ∃ n, w' = w.drewN n := by
  subst hM
  exact untouched_any hs ho hl

/-- A list of records copied behind nothing, and one record more. -/
theorem twiceG {sl ty sz by_ : Nat} {Z : Array Value} (hu : Try.prog.underlying sl = some (.slice ty)) (hi0 : (Try.prog.info? ty).map (fun i => (i.zero, i.size, i.bytes)) = some (some (.agg Z), sz, by_)) (hZ : (Value.agg Z).cells.size = sz) (hp : 0 < sz) {w : World} {Av : Nat → Prop} {A : Option Addr} {n c : Nat} {f : Nat → List Value} (hr : RowsIn w Av A n sz f) (hl : ∀ i, i < n → (f i).length = sz) (h1 : ∀ i, i < n → ∀ u ∈ f i, u.oneCell' = true) (hb : (n + 1) * by_ ≤ 140737488355328) (hb2 : n + 1 ≤ 1000000000) {E : List Value} (hE : E.length = sz) (hE1 : ∀ u ∈ E, u.oneCell' = true) :
    ∃ (ya : Option Addr) (yn yc : Nat) (w1 : World) (g cap : Nat) (w2 : World), (Builtin.append_ #[sl, sl] sl #[.slice (some ⟨w.heap.size, 0, none⟩) 0 0, .slice A n c]).run Try.prog (w.alloc (.cells #[] ty)) = .ok (.slice ya yn yc) w1 ∧ (Builtin.append_ #[sl, sl] sl #[.slice ya yn yc, .slice (some ⟨w1.heap.size, 0, none⟩) 1 1]).run Try.prog (w1.alloc (.cells E.toArray ty)) = .ok (.slice (some ⟨g, 0, none⟩) (n + 1) cap) w2 ∧ GL w2 (.slice (some ⟨g, 0, none⟩) (n + 1) cap) ty sz ((List.range n).map f ++ [E]) ∧ n + 1 ≤ cap ∧ cap ≤ 9223372036854775807 ∧ w.heap.size ≤ g ∧ Chg (fun _ => False) w w2 := by
  have cA : Chg (fun _ => False) w (w.alloc (.cells #[] ty)) := (Chg.refl _ _).alloc _
  have g0 : GL (w.alloc (.cells #[] ty)) (.slice (some ⟨w.heap.size, 0, none⟩) 0 0) ty sz [] := GL.made w #[] 0 (by simp) (by omega)
  obtain ⟨v1, w1, r1, g1, c1, b1⟩ := GL.addAll (c := c) hu hi0 hZ hp g0 (hr.kept cA (fun _ _ e => e)) hl h1 (by simp only [List.length_nil]; rw [Nat.zero_add]; exact Nat.le_trans (Nat.mul_le_mul_right _ (Nat.le_succ n)) hb) (by simp only [List.length_nil]; omega) sl
  rw [List.nil_append] at g1
  obtain ⟨ya, yc, e1⟩ := g1.form
  have hb1 : ∀ k, v1.ownBlock = some k → w.heap.size ≤ k := fun k hk => by
    rcases b1 with b1 | ⟨q, hq, hle⟩
    · rw [b1] at hk; simp [Value.ownBlock] at hk; omega
    · rw [hq] at hk; injection hk with hk; have := cA.size; omega
  have hll : ((List.range n).map f).length = n := by simp
  obtain ⟨v2, w2, r2, g2, c2, b2⟩ := g1.add hu hi0 hZ hp hE hE1 (by rw [hll]; exact hb) (by rw [hll]; omega) sl
  have hb2' : ∀ k, v2.ownBlock = some k → w.heap.size ≤ k := fun k hk => by
    rcases b2 with b2 | ⟨q, hq, hle⟩
    · rw [b2] at hk; exact hb1 k hk
    · rw [hq] at hk; injection hk with hk; have := cA.size; have := c1.size; omega
  have hl2 : ((List.range n).map f ++ [E]).length = n + 1 := by simp
  have hro := g2.row
  rw [hl2] at hro
  rcases hro.2 with ⟨_, h0⟩ | ⟨g, cap, cur, e2, _, _, hcap, hmax, _⟩
  · omega
  · subst e1
    subst e2
    refine ⟨ya, _, yc, w1, g, cap, w2, r1, r2, g2, hcap, by simp only [maxLen] at hmax; omega, hb2' g rfl, ?_⟩
    exact (cA.trans c1 (fun i e => .inr (by simp [Value.ownBlock] at e; omega))).trans c2 (fun i e => .inr (hb1 i e.symm))
theorem frontG {w : World} {ty sz n g cap : Nat} {f : Nat → List Value} {E : List Value} (h : GL w (.slice (some ⟨g, 0, none⟩) (n + 1) cap) ty sz ((List.range n).map f ++ [E])) : RowsIn w (fun k => k = g) (some ⟨g, 0, none⟩) n sz f ∧ w.rangeAt g (n * sz) E := by
  have hl2 : ((List.range n).map f ++ [E]).length = n + 1 := by simp
  refine ⟨fun i hi => ?_, ?_⟩
  · obtain ⟨g', c', e, r⟩ := h.at (j := i) (by omega)
    injection e with e
    injection e with e
    injection e with e
    subst e
    refine ⟨g, 0, rfl, rfl, ?_⟩
    rw [Nat.zero_add]
    rw [List.getElem_append_left (by simpa using hi)] at r
    simpa using r
  · obtain ⟨g', c', e, r⟩ := h.at (j := n) (by omega)
    injection e with e
    injection e with e
    injection e with e
    subst e
    rw [List.getElem_append_right (by simp)] at r
    simpa using r

def sl3 (v : Value) : Option Addr × Nat × Nat := match v with
  | .slice a n c => (a, n, c)
  | _ => (none, 0, 0)
theorem sl3_own {w : World} {v : Value} {l : List Int} (h : Own w v l) : .slice (sl3 v).1 (sl3 v).2.1 (sl3 v).2.2 = v := by
  obtain ⟨a, c, rfl⟩ := h.form
  rfl
/-- An op that was read, with its texts. -/
def ocS (o : OpS × Value × Value) : Oc := ⟨o.1.ki, o.1.lv, (sl3 o.2.1).1, (sl3 o.2.1).2.1, (sl3 o.2.1).2.2, o.1.kl, o.1.ct, o.1.sm, (sl3 o.2.2).1, (sl3 o.2.2).2.1, (sl3 o.2.2).2.2, o.1.vl⟩
def oD : OpS × Value × Value := (⟨0, 0, [], 0, z32, [], 0, 0⟩, (.slice none 0 0), (.slice none 0 0))
def fL (L : List (OpS × Value × Value)) (i : Nat) : Oc := ocS (L[i]?.getD oD)
theorem fL_at {L : List (OpS × Value × Value)} {i : Nat} (h : i < L.length) : fL L i = ocS L[i] := by unfold fL; rw [List.getElem?_eq_getElem h]; rfl
theorem ocS_cells {w : World} {o : OpS × Value × Value} (h1 : Own w o.2.1 o.1.kl) (h2 : Own w o.2.2 o.1.vl) : (ocS o).cells = ocOf o := by
  unfold ocS Oc.cells ocOf opC
  simp only
  rw [sl3_own h1, sl3_own h2]
/-- The rows of ops that were read. -/
theorem OM.rowsF {w : World} {B : Nat} {v : Value} {L : List (OpS × Value × Value)} (h : OM w B v L) : ∃ a c, v = .slice a L.length c ∧ RowsIn w (fun _ => True) a L.length 37 (fun i => (fL L i).cells) := by
  have e : L.map ocOf = (List.range L.length).map (fun i => (fL L i).cells) := by
    refine List.ext_getElem (by simp) (fun i h1 h2 => ?_)
    simp only [List.getElem_map, List.getElem_range]
    have hi : i < L.length := by simpa using h1
    rw [fL_at hi]
    obtain ⟨a, b, _, _⟩ := h.own _ (List.getElem_mem hi)
    rw [ocS_cells a b]
  have g := h.gl
  rw [e] at g
  exact GL.rowsN g
theorem OM.sm32 {w : World} {B : Nat} {v : Value} {L : List (OpS × Value × Value)} (h : OM w B v L) {i : Nat} (hi : i < L.length) : (fL L i).sm.length = 32 := by
  rw [fL_at hi]
  have h9 := h.gl.len (ocOf L[i]) (List.mem_map_of_mem (List.getElem_mem hi))
  rw [ocOf, opC_len] at h9
  show L[i].1.sm.length = 32
  omega
theorem Own.lenG {w : World} {v : Value} {l : List Int} (h : Own w v l) : l.length ≤ 9223372036854775807 := by
  rcases h.2 with ⟨_, h0⟩ | ⟨_, cap, _, _, _, _, h1, h2, _⟩
  · omega
  · unfold maxLen at h2; omega
theorem OM.ocT {w w' : World} {B : Nat} {v : Value} {L : List (OpS × Value × Value)} (h : OM w B v L) {i : Nat} (hi : i < L.length) (s1 : Src w' (L[i]).2.1 (L[i]).1.kl) (s2 : Src w' (L[i]).2.2 (L[i]).1.vl) : OcT w' (fL L i) := by
  have h3 := h.sm32 hi
  rw [fL_at hi] at h3 ⊢
  obtain ⟨a, b, _, _⟩ := h.own _ (List.getElem_mem hi)
  refine ⟨?_, ?_, h3, a.lenG, b.lenG⟩
  · show Src w' (.slice (sl3 (L[i]).2.1).1 (sl3 (L[i]).2.1).2.1 (sl3 (L[i]).2.1).2.2) (L[i]).1.kl
    rw [sl3_own a]; exact s1
  · show Src w' (.slice (sl3 (L[i]).2.2).1 (sl3 (L[i]).2.2).2.1 (sl3 (L[i]).2.2).2.2) (L[i]).1.vl
    rw [sl3_own b]; exact s2
theorem fL_same {L1 L2 : List (OpS × Value × Value)} (h : L1.map Prod.fst = L2.map Prod.fst) {i : Nat} (hi : i < L1.length) : SmO (fL L1 i) (fL L2 i) := by
  have hl : L1.length = L2.length := by have := congrArg List.length h; simpa using this
  rw [fL_at hi, fL_at (by omega : i < L2.length)]
  have e : L1[i].1 = L2[i].1 := by
    have h1 : (L1.map Prod.fst)[i]'(by simpa using hi) = (L2.map Prod.fst)[i]'(by rw [List.length_map]; omega) := by simp only [h]
    simpa using h1
  unfold ocS
  exact ⟨by simp only [e], by simp only [e], by simp only [e], by simp only [e], by simp only [e], by simp only [e]⟩

set_option maxRecDepth 100000 in
set_option maxHeartbeats 4000000 in
theorem sameProofE {w : World} {Av Bv : Nat → Prop} {a b : Option Addr} {n c d ct : Nat} {f1 f2 : Nat → Oc} (r1 : RowsIn w Av a n 37 (fun i => (f1 i).cells)) (r2 : RowsIn w Bv b n 37 (fun i => (f2 i).cells)) (t1 : ∀ i, i < n → OcT w (f1 i)) (t2 : ∀ i, i < n → OcT w (f2 i)) (hs : ∀ i, i < n → SmO (f1 i) (f2 i)) (hn : n ≤ 9223372036854775807) :
    Calls Try.prog 36 #[.agg (prC ct (.slice a n c)).toArray, .agg (prC ct (.slice b n d)).toArray] w fun e w' => e = .returned (.bool true) ∧ Below w.heap.size w w' := by
  obtain ⟨W, hW⟩ : ∃ W, W = (w.alloc (.cells (prC ct (.slice a n c)).toArray 98)).alloc (.cells (prC ct (.slice b n d)).toArray 98) := ⟨_, rfl⟩
  have cW : Chg (fun _ => False) w W := by rw [hW]; exact ((Chg.refl _ _).alloc _).alloc _
  have HB : Hid (Below w.heap.size w W) := cW.below (Nat.le_refl _) (fun _ e => e.elim)
  have B0 : Blk W w.heap.size (prC ct (.slice a n c)) 98 := by rw [hW]; exact (Blk.made w _ 98).alloc _
  have B1 : Blk W (w.heap.size + 1) (prC ct (.slice b n d)) 98 := by
    rw [hW]
    have := Blk.made (w.alloc (.cells (prC ct (.slice a n c)).toArray 98)) (prC ct (.slice b n d)) 98
    rwa [World.size_alloc] at this
  have HC : Hid _ := sameOpsE (c := c) (d := d) (r1.kept cW (fun _ _ e => e)) (r2.kept cW (fun _ _ e => e)) (fun i hi => (t1 i hi).kept cW) (fun i hi => (t2 i hi).kept cW) hs hn
  have k0 : W.cell? ⟨w.heap.size, 0, none⟩ = some (.int .u64 ct) := B0.cell 0
  have k1 : W.cell? ⟨w.heap.size, 1, none⟩ = some (.slice a n c) := B0.cell 1
  have k2 : W.cell? ⟨w.heap.size + 1, 0, none⟩ = some (.int .u64 ct) := B1.cell 0
  have k3 : W.cell? ⟨w.heap.size + 1, 1, none⟩ = some (.slice b n d) := B1.cell 1
  clear r1 r2 t1 t2 hs cW B0 B1
  go_enter Try.func36, Try.ntmps36
  go_upto_region 1 with fail
  rw [← hW]
  clear hW
  go_wp2_with fail
  refine Calls.mono HC.out ?_
  rintro e w1 ⟨rfl, b1⟩
  have F : Hid (Below w.heap.size w w1) := HB.out.trans (b1.mono HB.out.size)
  clear b1 k0 k1 k2 k3 HC
  go_wp2_with fail
  go_ret
  exact ⟨rfl, F.out⟩
end Go.Proofs.Ytlmdljghhpkbiaa
