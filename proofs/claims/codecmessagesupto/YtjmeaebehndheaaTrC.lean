/-
  A tower is copied, its texts too.
-/
import Derived.Test.YtjmeaebehndheaaTrS
import Derived.Test.YtjmeaebehndheaaPgR
import Derived.Test.YtjmeaebehndheaaPrL
import Derived.Test.YtjmeaebehndheaaPgL
import Derived.Test.YtjmeaebehndheaaRd
import Derived.Laws.Tables
namespace Go.Proofs.Ytjmeaebehndheaa
open Go.RowKit

theorem GL.rowsN {w : World} {v : Value} {ty sz n : Nat} {f : Nat → List Value} (h : GL w v ty sz ((List.range n).map f)) : ∃ A c, v = .slice A n c ∧ RowsIn w (fun _ => True) A n sz f := by
  obtain ⟨A, c, e⟩ := h.form
  have hl : ((List.range n).map f).length = n := by simp
  refine ⟨A, c, by rw [e, hl], fun i hi => ?_⟩
  obtain ⟨g, c', e2, r⟩ := h.at (j := i) (by rw [hl]; exact hi)
  rw [e] at e2
  injection e2 with e2 _ _
  refine ⟨g, 0, e2, True.intro, ?_⟩
  rw [Nat.zero_add]
  have e3 : ((List.range n).map f)[i]'(by rw [hl]; exact hi) = f i := by simp
  rw [e3] at r
  exact r
set_option maxRecDepth 4000 in
/-- A whole list of records more. -/
theorem GL.addAll {w : World} {v : Value} {ty sz : Nat} {L : List (List Value)} {sl by_ : Nat} {Z : Array Value} (hu : Try.prog.underlying sl = some (.slice ty)) (hi0 : (Try.prog.info? ty).map (fun i => (i.zero, i.size, i.bytes)) = some (some (.agg Z), sz, by_)) (hZ : (Value.agg Z).cells.size = sz) (hp : 0 < sz) (h : GL w v ty sz L) {Av : Nat → Prop} {A : Option Addr} {n c : Nat} {f : Nat → List Value} (hr : RowsIn w Av A n sz f) (hl : ∀ i, i < n → (f i).length = sz) (h1 : ∀ i, i < n → ∀ u ∈ f i, u.oneCell' = true) (hb : (L.length + n) * by_ ≤ 140737488355328) (hb2 : L.length + n ≤ 1000000000) (ty2 : TypeId) :
    ∃ v' w', (Builtin.append_ #[sl, sl] ty2 #[v, .slice A n c]).run Try.prog w = .ok v' w' ∧ GL w' v' ty sz (L ++ (List.range n).map f) ∧ Chg (fun g => some g = v.ownBlock) w w' ∧ (v'.ownBlock = v.ownBlock ∨ ∃ q, v'.ownBlock = some q ∧ w.heap.size ≤ q) := by
  obtain ⟨i0, hi, hz0, hz1, hz2⟩ := info_parts hi0
  have hfl : ∀ q, q ∈ (List.range n).map f → q.length = sz := fun q hq => by
    obtain ⟨i, hi, e⟩ := List.mem_map.1 hq
    rw [← e]; exact hl i (by simpa using hi)
  cases A with
  | none =>
    have hn : n = 0 := by
      rcases Nat.eq_zero_or_pos n with e | e
      · exact e
      · obtain ⟨g, o, e, _⟩ := hr 0 e
        cases e
    subst hn
    refine ⟨v, w, ?_, by simpa using h, Chg.refl _ _, .inl rfl⟩
    rcases h.row.2 with ⟨hv, _⟩ | ⟨g, cap, cur, hv, _, _, hnc, _⟩
    · rw [hv]; simp [Builtin.append_, run_underlying hu, sizeOf, typeInfo, hi, Builtin.lenOf, Builtin.firstCells]
    · rw [hv]; simp [Builtin.append_, run_underlying hu, sizeOf, typeInfo, hi, Builtin.lenOf, Builtin.firstCells, hnc, storeCells]
  | some a =>
    have hlen : ((List.range n).map f).flatten.length = n * sz := by
      have : ∀ (M : List (List Value)), (∀ q, q ∈ M → q.length = sz) → M.flatten.length = M.length * sz := by
        intro M
        induction M with
        | nil => intro _; simp
        | cons k r ih =>
          intro hk
          rw [List.flatten_cons, List.length_append, hk k (List.mem_cons_self ..), ih (fun q hq => hk q (List.mem_cons_of_mem _ hq)), List.length_cons, Nat.succ_mul]
          omega
      rw [this _ hfl]
      simp
    obtain ⟨v', w1, r1, r2, r3, _, r5⟩ := run_append_own_at (P := Try.prog) w 0 sl ty2 ty i0 _ sz by_ hu hi hz0 hz1 hz2 hZ hp v L.length L.flatten h.row a n c ((List.range n).map f).flatten hlen (fun j u hj => by
      have hjl := (List.getElem?_eq_some_iff.1 hj).1
      rw [hlen] at hjl
      have hq : j / sz < n := Nat.div_lt_of_lt_mul (by rw [Nat.mul_comm]; exact hjl)
      obtain ⟨g, o, e, _, rg⟩ := hr (j / sz) hq
      have hrem : j % sz < (f (j / sz)).length := by rw [hl _ hq]; exact Nat.mod_lt _ hp
      have h2 := flatten_at ((List.range n).map f) hfl (j / sz) (by simpa using hq) (j % sz) ((f (j / sz))[j % sz]) (by simp [hrem])
      rw [Nat.div_add_mod', hj] at h2
      injection h2 with h2
      injection e with e
      rw [e, Addr.add_mid, h2]
      have h3 := rg (j % sz) _ (List.getElem?_eq_getElem hrem)
      rw [Nat.add_assoc, Nat.div_add_mod'] at h3
      exact h3) (fun u hu => by
      obtain ⟨q, hq, hu⟩ := List.mem_flatten.1 hu
      obtain ⟨i, hi, e⟩ := List.mem_map.1 hq
      rw [← e] at hu
      exact h1 i (by simpa using hi) u hu) (by unfold maxLen; omega) hb (Nat.zero_le _)
    refine ⟨v', w1, r1, ⟨by rw [List.length_append, List.flatten_append]; simpa using r2, fun q hq => ?_⟩, Chg.of_grown r3, r5.imp id (fun e => ⟨_, e, Nat.le_refl _⟩)⟩
    rcases List.mem_append.1 hq with hq | hq
    · exact h.len q hq
    · exact hfl q hq
theorem GL.rowsK {w : World} {v : Value} {ty sz n : Nat} {f : Nat → List Value} {B : Nat} (h : GL w v ty sz ((List.range n).map f)) (hb : ∀ g, v.ownBlock = some g → B ≤ g) : ∃ A c, v = .slice A n c ∧ RowsIn w (fun g => B ≤ g ∧ g < w.heap.size) A n sz f := by
  obtain ⟨A, c, e, r⟩ := GL.rowsN h
  refine ⟨A, c, e, fun i hi => ?_⟩
  obtain ⟨g, o, hA, _, rg⟩ := r i hi
  refine ⟨g, o, hA, ⟨hb g (by rw [e, hA]; rfl), ?_⟩, rg⟩
  obtain ⟨cur, hg⟩ := h.blk (g := g) (by rw [e, hA]; rfl)
  exact (Array.getElem?_eq_some_iff.1 hg).1

theorem Own.addrP {w : World} {a : Option Addr} {n c : Nat} {l : List Int} (h : Own w (.slice a n c) l) (hp : 0 < l.length) : ∃ g, a = some ⟨g, 0, none⟩ := by
  obtain ⟨g, cap, e, _⟩ := h.form2 hp
  injection e with e
  exact ⟨g, e⟩
theorem untouched_P {w : World} {a : Option Addr} {s : Value} {c M : Nat} {m : List Int} (hM : M = m.length + 2) (hs : Src w s m) (ho : Own w (.slice a M c) (m ++ [165, 90])) (hl : m.length + 2 ≤ 140737488355328) :
    Calls Try.prog 11 #[.slice a M c, s] w fun e w' => e = .returned (.bool true) ∧ ∃ n, w' = w.drewN n := by
  subst hM
  exact untouched_any hs ho hl

/-- A list of records copied behind nothing, and one record more. -/
theorem twiceG {sl ty sz by_ : Nat} {Z : Array Value} (hu : Try.prog.underlying sl = some (.slice ty)) (hi0 : (Try.prog.info? ty).map (fun i => (i.zero, i.size, i.bytes)) = some (some (.agg Z), sz, by_)) (hZ : (Value.agg Z).cells.size = sz) (hp : 0 < sz) {w : World} {Av : Nat → Prop} {A : Option Addr} {n c : Nat} {f : Nat → List Value} (hr : RowsIn w Av A n sz f) (hl : ∀ i, i < n → (f i).length = sz) (h1 : ∀ i, i < n → ∀ u ∈ f i, u.oneCell' = true) (hb : (n + 1) * by_ ≤ 140737488355328) (hb2 : n + 1 ≤ 1000000000) {E : List Value} (hE : E.length = sz) (hE1 : ∀ u ∈ E, u.oneCell' = true) :
    ∃ (ya : Option Addr) (yn yc : Nat) (w1 : World) (g cap : Nat) (w2 : World), (Builtin.append_ #[sl, sl] sl #[.slice (some ⟨w.heap.size, 0, none⟩) 0 0, .slice A n c]).run Try.prog (w.alloc (.cells #[] ty)) = .ok (.slice ya yn yc) w1 ∧ (Builtin.append_ #[sl, sl] sl #[.slice ya yn yc, .slice (some ⟨w1.heap.size, 0, none⟩) 1 1]).run Try.prog (w1.alloc (.cells E.toArray ty)) = .ok (.slice (some ⟨g, 0, none⟩) (n + 1) cap) w2 ∧ GL w2 (.slice (some ⟨g, 0, none⟩) (n + 1) cap) ty sz ((List.range n).map f ++ [E]) ∧ n + 1 ≤ cap ∧ cap ≤ 9223372036854775807 ∧ w.heap.size ≤ g ∧ Chg (fun _ => False) w w2 := by
  have cA : Chg (fun _ => False) w (w.alloc (.cells #[] ty)) := (Chg.refl _ _).alloc _
  have g0 : GL (w.alloc (.cells #[] ty)) (.slice (some ⟨w.heap.size, 0, none⟩) 0 0) ty sz [] := GL.made w #[] 0 (by simp) (by omega)
  obtain ⟨v1, w1, r1, g1, c1, b1⟩ := GL.addAll (c := c) hu hi0 hZ hp g0 (hr.kept cA (fun _ _ e => e)) hl h1 (by simp only [List.length_nil]; rw [Nat.zero_add]; exact Nat.le_trans (Nat.mul_le_mul_right _ (Nat.le_succ n)) hb) (by simp only [List.length_nil]; omega) sl
  rw [List.nil_append] at g1
  obtain ⟨ya, yc, e1⟩ := g1.form
  have hb1 : ∀ k, v1.ownBlock = some k → w.heap.size ≤ k := fun k hk => by
    rcases b1 with b1 | ⟨q, hq, hle⟩
    · rw [b1] at hk; simp [Value.ownBlock] at hk; omega
    · rw [hq] at hk; injection hk with hk; have := cA.size; omega
  have hll : ((List.range n).map f).length = n := by simp
  obtain ⟨v2, w2, r2, g2, c2, b2⟩ := g1.add hu hi0 hZ hp hE hE1 (by rw [hll]; exact hb) (by rw [hll]; omega) sl
  have hb2' : ∀ k, v2.ownBlock = some k → w.heap.size ≤ k := fun k hk => by
    rcases b2 with b2 | ⟨q, hq, hle⟩
    · rw [b2] at hk; exact hb1 k hk
    · rw [hq] at hk; injection hk with hk; have := cA.size; have := c1.size; omega
  have hl2 : ((List.range n).map f ++ [E]).length = n + 1 := by simp
  have hro := g2.row
  rw [hl2] at hro
  rcases hro.2 with ⟨_, h0⟩ | ⟨g, cap, cur, e2, _, _, hcap, hmax, _⟩
  · omega
  · subst e1
    subst e2
    refine ⟨ya, _, yc, w1, g, cap, w2, r1, r2, g2, hcap, by simp only [maxLen] at hmax; omega, hb2' g rfl, ?_⟩
    exact (cA.trans c1 (fun i e => .inr (by simp [Value.ownBlock] at e; omega))).trans c2 (fun i e => .inr (hb1 i e.symm))
theorem frontG {w : World} {ty sz n g cap : Nat} {f : Nat → List Value} {E : List Value} (h : GL w (.slice (some ⟨g, 0, none⟩) (n + 1) cap) ty sz ((List.range n).map f ++ [E])) : RowsIn w (fun k => k = g) (some ⟨g, 0, none⟩) n sz f ∧ w.rangeAt g (n * sz) E := by
  have hl2 : ((List.range n).map f ++ [E]).length = n + 1 := by simp
  refine ⟨fun i hi => ?_, ?_⟩
  · obtain ⟨g', c', e, r⟩ := h.at (j := i) (by omega)
    injection e with e
    injection e with e
    injection e with e
    subst e
    refine ⟨g, 0, rfl, rfl, ?_⟩
    rw [Nat.zero_add]
    rw [List.getElem_append_left (by simpa using hi)] at r
    simpa using r
  · obtain ⟨g', c', e, r⟩ := h.at (j := n) (by omega)
    injection e with e
    injection e with e
    injection e with e
    subst e
    rw [List.getElem_append_right (by simp)] at r
    simpa using r

theorem step_storeF {ops : Array Oper} {o : Oper} {a : Act} {w : World} {K : Act → World → Prop} {Q : Exit → Act → World → Prop} {E : Prop} (hgd : o.guard = none) (ty : TypeId) (x y : Operand) (ho : o.op = .store ty x y)
    (g : Nat) (vs : List Value) (hx : a.eval x = .pointer (some ⟨g, 0, none⟩)) (hy : a.eval y = .agg vs.toArray) {cs : List Value} {t : TypeId} (hg : Blk w g cs t) (hl : vs.length = cs.length)
    (hi : (Try.prog.info? ty).map (·.size) = some vs.length) (h1 : ∀ v ∈ vs, v.oneCell' = true)
    (h : ∀ w', Blk w' g vs t → Chg (fun k => k = g) w w' → K (a.put o.dst undef) w') :
    if Region.wanted o (yielded ops a.tmps) = true then Oper.wp Try.prog o a w K Q else E := by
  have hw : Region.wanted o (yielded ops a.tmps) = true := by simp [Region.wanted, hgd]
  rw [if_pos hw]
  obtain ⟨h2, h3⟩ := Blk.setCells vs 0 w cs hg (by omega)
  rw [splice_all _ _ hl] at h2
  exact wp_store_mid ty x y ho g 0 vs.toArray hx hy (by rw [List.size_toArray]; exact hg.there (by omega)) (by rw [List.size_toArray]; exact hi) (all_oneCell_toArray h1) (by rw [List.toList_toArray]; exact h _ h2 h3)

theorem built69 (hd : Bool) (a : Option Addr) (n c : Nat) (vl : List Int) (h : vl.length = 33) : Program.built Try.prog 69 [(0, .bool hd), (1, .slice a n c), (2, .agg (bs vl).toArray)] = some (towC hd (.slice a n c) vl (.slice none 0 0)).toArray := by
  match vl, h with
  | a0 :: a1 :: a2 :: a3 :: a4 :: a5 :: a6 :: a7 :: a8 :: a9 :: a10 :: a11 :: a12 :: a13 :: a14 :: a15 :: a16 :: a17 :: a18 :: a19 :: a20 :: a21 :: a22 :: a23 :: a24 :: a25 :: a26 :: a27 :: a28 :: a29 :: a30 :: a31 :: a32 :: [], _ => show _ = _; kernel_rfl
theorem run_built69 (hd : Bool) (a : Option Addr) (n c : Nat) (vl : List Int) (h : vl.length = 33) (w : World) : (Instr.build 69 #[(0, .bool hd), (1, .slice a n c), (2, .agg (bs vl).toArray)]).run Try.prog w = .ok (.agg (towC hd (.slice a n c) vl (.slice none 0 0)).toArray) w := run_build w 69 _ _ (built69 hd a n c vl h)
theorem Kd.put1 (k : Kd) (a : Option Addr) (n c : Nat) : k.cells.set 1 (.slice a n c) = ({ k with ka := a, kn := n, kc := c } : Kd).cells := rfl
theorem Tw.cellsC (P : Tw) : P.cells = towC P.hd (.slice P.ka P.kn P.kc) P.vl (.slice P.sa P.sn P.sc) := rfl
theorem Try.towSzC (P : Tw) (h : P.vl.length = 33) : (Try.prog.info? 69).map (·.size) = some P.cells.length := by rw [P.cellsC]; exact Try.towSz' _ _ _ _ h
/-- What a kid of a copy is. -/
structure KK (w : World) (x y : Kd) : Prop where
  sm : SmK x y
  k : Own w (.slice y.ka y.kn y.kc) y.kl
/-- A tower under way of being copied. -/
structure KT (w : World) (P : Tw) (g3 : Nat) (key : Value) (wr : World) (j : Nat) (v : Value) (os' : Nat → Kd) : Prop where
  b0 : Blk wr w.heap.size P.cells 69
  res : Blk wr (w.heap.size + 1) towZ 69
  row : Blk wr g3 (towC P.hd key P.vl v) 69
  g3l : w.heap.size + 2 ≤ g3
  inn : TwIn wr (fun g => g < w.heap.size) P
  gl : GL wr v 156 68 ((List.range j).map (fun i => (os' i).cells))
  ko : ∀ i, i < j → KK wr (P.ks i) (os' i)
  ky : Own wr key P.kl ∧ key.oneCell' = true
  nb : ∀ g, v.ownBlock = some g → w.heap.size + 2 ≤ g
  be : Below w.heap.size w wr
  sz : w.heap.size + 2 ≤ wr.heap.size
section
variable {w wr w' : World} {P : Tw} {g3 j : Nat} {key v : Value} {os' : Nat → Kd}
theorem Blk.no5C {g : Nat} {cs : List Value} {t : TypeId} (hb : Blk wr g cs t) (ht : t ≠ 5) {u : Value} {l : List Int} (ho : Own wr u l) {k : Nat} (hk : u.ownBlock = some k) : ¬ k = g := fun e => by
  obtain ⟨_, e1⟩ := own_block5 ho hk
  rw [e, hb.eq] at e1
  injection e1 with e1
  injection e1 with _ e1
  exact ht e1
theorem KT.vne (h : KT w P g3 key wr j v os') : ¬ v.ownBlock = some g3 := fun e => by
  obtain ⟨_, e2⟩ := h.gl.blk e
  rw [h.row.eq] at e2
  injection e2 with e2
  injection e2 with _ e2
  exact absurd e2 (by decide)
theorem KT.fresh (h : KT w P g3 key wr j v os') (c : Chg (fun _ => False) wr w') : KT w P g3 key w' j v os' :=
  ⟨h.b0.keep c (fun e => e), h.res.keep c (fun e => e), h.row.keep c (fun e => e), h.g3l, h.inn.kept c (fun _ _ e => e), h.gl.fresh c, fun i hi => ⟨(h.ko i hi).sm, (h.ko i hi).k.kept c (fun _ _ e => e)⟩, ⟨h.ky.1.kept c (fun _ _ e => e), h.ky.2⟩, h.nb, h.be.trans (c.below (Nat.le_trans (by omega) h.sz) (fun _ e => e.elim)), Nat.le_trans h.sz c.size⟩
/-- A record beside it, at g. -/
theorem KT.recd (h : KT w P g3 key wr j v os') {g : Nat} {cs : List Value} (hb : Blk wr g cs 156) (hg : w.heap.size + 2 ≤ g) (hv : ¬ v.ownBlock = some g) (c : Chg (fun k => k = g) wr w') : KT w P g3 key w' j v os' :=
  have ne : ¬ g3 = g := fun e => by
    have h9 := h.row.eq
    rw [e, hb.eq] at h9
    injection h9 with h9
    injection h9 with _ h9
    exact absurd h9 (by decide)
  ⟨h.b0.keep c (by omega), h.res.keep c (by omega), h.row.keep c ne, h.g3l, h.inn.kept c (fun k hk e => by omega), h.gl.kept c (fun k _ hk _ e => hv (by rw [← e]; exact hk)), fun i hi => ⟨(h.ko i hi).sm, (h.ko i hi).k.kept c (fun k hk => hb.no5C (by decide) (h.ko i hi).k hk)⟩, ⟨h.ky.1.kept c (fun k hk => hb.no5C (by decide) h.ky.1 hk), h.ky.2⟩, h.nb, h.be.trans (c.below (Nat.le_trans (by omega) h.sz) (fun k e => by omega)), Nat.le_trans h.sz c.size⟩
set_option maxRecDepth 4000 in
/-- One kid more. -/
theorem KT.add (h : KT w P g3 key wr j v os') {y : Kd} (hy : KK wr (P.ks j) y) (h1 : y.ad.length = 33) (h2 : y.lb.length = 32) (hb : j + 1 ≤ 5000000) :
    ∃ v' w1, (Builtin.append_ #[67, 67] 67 #[v, .slice (some ⟨wr.heap.size, 0, none⟩) 1 1]).run Try.prog (wr.alloc (.cells y.cells.toArray 156)) = .ok v' w1 ∧ Blk w1 g3 (towC P.hd key P.vl v) 69 ∧ KT w P g3 key (w1.setCell ⟨g3, 35, none⟩ v') (j + 1) v' (fun i => if i = j then y else os' i) := by
  have hl : ((List.range j).map (fun i => (os' i).cells)).length = j := by simp
  obtain ⟨v', w1, r, gl, c, bb⟩ := h.gl.add (sl := 67) (C := y.cells) Try.underlying67 info155 (by kernel_rfl) (by decide) (y.lenF h1 h2) y.one (by rw [hl]; omega) (by rw [hl]; omega) 67
  have hS : ∀ g, some g = v.ownBlock → w.heap.size + 2 ≤ g := fun g e => h.nb g e.symm
  have no5 : ∀ {u : Value} {l : List Int}, Own wr u l → ∀ g, u.ownBlock = some g → ¬ some g = v.ownBlock := fun ho g hg e => by
    obtain ⟨_, e1⟩ := own_block5 ho hg
    obtain ⟨_, e2⟩ := h.gl.blk e.symm
    rw [e1] at e2
    injection e2 with e2
    injection e2 with _ e2
    exact absurd e2 (by decide)
  have row1 : Blk w1 g3 (towC P.hd key P.vl v) 69 := h.row.keep c (fun e => h.vne e.symm)
  have c2 : Chg (fun k => k = g3) w1 (w1.setCell ⟨g3, 35, none⟩ v') := (Chg.refl (fun k => k = g3) w1).setCell (p := ⟨g3, 35, none⟩) (.inl rfl) _
  have row2 : Blk (w1.setCell ⟨g3, 35, none⟩ v') g3 (towC P.hd key P.vl v') 69 := by
    have h9 := row1.set 35 v'
    rwa [towC_kids _ _ _ _ _ h.inn.vl] at h9
  have new : ∀ g, v'.ownBlock = some g → w.heap.size + 2 ≤ g := fun g hg => by
    rcases bb with q | ⟨k, q1, q2⟩
    · exact h.nb g (by rw [← q]; exact hg)
    · rw [hg] at q1
      injection q1 with q1
      have := h.sz
      omega
  have gl2 : GL w1 v' 156 68 ((List.range (j + 1)).map (fun i => ((fun i => if i = j then y else os' i) i).cells)) := by
    have e : (List.range (j + 1)).map (fun i => ((fun i => if i = j then y else os' i) i).cells) = (List.range j).map (fun i => (os' i).cells) ++ [y.cells] := by
      rw [List.range_succ, List.map_append]
      congr 1
      · exact List.map_congr_left (fun i hi => by have q : i < j := (by simpa using hi); simp only; rw [if_neg (by omega)])
      · simp
    rw [e]
    exact gl
  have vne : ∀ g cur, v'.ownBlock = some g → w1.heap[g]? = some (.cells cur 156 (0, 0)) → ¬ g = g3 := fun g cur _ hc e => by
    rw [e, row1.eq] at hc
    injection hc with hc
    injection hc with _ hc
    exact absurd hc (by decide)
  have key2 : ∀ {u : Value} {l : List Int}, Own wr u l → Own (w1.setCell ⟨g3, 35, none⟩ v') u l := fun ho => by
    have k1 := ho.kept c (no5 ho)
    exact k1.kept c2 (fun k hk => row1.no5C (by decide) k1 hk)
  refine ⟨v', w1, r, row1, ⟨(h.b0.keep c (fun e => by have := hS _ e; omega)).keep c2 (by have := h.g3l; omega), (h.res.keep c (fun e => by have := hS _ e; omega)).keep c2 (by have := h.g3l; omega), row2, h.g3l, (h.inn.kept c (fun k hk e => by have := hS _ e; omega)).kept c2 (fun k hk e => by have := h.g3l; omega), gl2.kept c2 (fun k cur hk hc => vne k cur hk hc), fun i hi => ?_, ⟨key2 h.ky.1, h.ky.2⟩, new, (h.be.trans (c.below (Nat.le_trans (by omega) h.sz) (fun k e => by have := hS k e; omega))).trans (c2.below (Nat.le_trans (Nat.le_trans (by omega) h.sz) c.size) (fun k e => by have := h.g3l; omega)), Nat.le_trans h.sz (Nat.le_trans c.size c2.size)⟩⟩
  by_cases q : i = j
  · subst q
    simp only [if_pos]
    exact ⟨hy.sm, key2 hy.k⟩
  · simp only [if_neg q]
    exact ⟨(h.ko i (by omega)).sm, key2 (h.ko i (by omega)).k⟩
end
/-- What CopyTower answers. -/
structure CtQ (w w' : World) (P : Tw) (e : Ending) : Prop where
  ex : ∃ ka kn kc A c os', e = .returned (.agg (towC P.hd (.slice ka kn kc) P.vl (.slice A P.sn c)).toArray) ∧ Below w.heap.size w w' ∧ TwIn w' (fun g => g < w'.heap.size) ⟨P.hd, ka, kn, kc, P.kl, P.vl, A, P.sn, c, os'⟩ ∧ ∀ i, i < P.sn → SmK (P.ks i) (os' i)
end Go.Proofs.Ytjmeaebehndheaa
