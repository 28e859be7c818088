/-
  A disk in the making, its maps named: a sector is given bytes, a write more.
-/
import Derived.Test.YtddnecfnjnipjaaPend2
namespace Go.Proofs.Ytddnecfnjnipjaa
open Go.RowKit Go.RwLone

section
variable {w w' : World} {p m c S z kc km b : Nat} {x : Nums} {L : Nat → List (Nat × Nat)} {V : Nat → Value} {D : DataW Unit} {K : Nat → Option Nat} {E : DataW Unit} {C : Nat → List Int}

/-- Sector s is given the bytes of block g. -/
theorem DC.put (hd : DC w p m c S z kc km b x L V D K E C) (s : Nat) (hs : s ≤ 65536) {g : Nat} {l : List Int} (hg : Rw w g (bs l).toArray 5) (hl : l.length = z) (nL : ∀ t y, y ∈ L t → y.2 ≠ g) (nK : ∀ t, K t ≠ some g) (hk : kc + km + 1 ≤ b) (hb : b ≤ 4398046511104) :
    ∃ w' E', (Instr.mapUpdate 80 (.map (some m)) (.int .i64 s) (.slice (some ⟨g, 0, none⟩) z z)).run Try.prog w = .ok () w' ∧ DC w' p m c S z kc (km + 1) b x L V D (updT K s (some g)) E' (updT C g l) ∧ Chg (fun i => i = m) w w' := by
  obtain ⟨w9, hr, ⟨E', du'⟩, gr⟩ := hd.dd.du.put s hs g (by omega)
  have ch : Chg (fun i => i = m) w w9 := ⟨gr.os, gr.tape, gr.output, gr.size, fun i hi hn => gr.block i hi (by simpa using hn)⟩
  have nb : ∀ k cs, Rw w k cs 5 → Rw w9 k cs 5 := fun k cs hk => ⟨ch.heap_some hk.eq (fun e => ne_map hk hd.dd.du.map e.symm)⟩
  have lr : ∀ t y, y ∈ L t → Rw w9 y.2 (bs (updT C g l y.2)).toArray 5 ∧ (updT C g l y.2).length = z := fun t y hy => by
    rw [updT_other _ _ (nL t y hy)]
    exact ⟨nb _ _ (hd.lr t y hy).1, (hd.lr t y hy).2⟩
  have kr : ∀ t k, updT K s (some g) t = some k → Rw w9 k (bs (updT C g l k)).toArray 5 ∧ (updT C g l k).length = z := fun t k hk => by
    by_cases e : t = s
    · rw [e, updT_same] at hk
      injection hk with hk
      rw [← hk, updT_same]
      exact ⟨nb _ _ hg, hl⟩
    · rw [updT_other _ _ e] at hk
      rw [updT_other _ _ (fun e2 => nK t (by rw [hk, e2]))]
      exact ⟨nb _ _ (hd.kr t k hk).1, (hd.kr t k hk).2⟩
  have ca : Ca w9 c kc z L V D := hd.dd.ca.kept gr (fun e => hd.dd.mc (Option.some.inj e).symm) (fun t k hk e => by
    injection e with e
    obtain ⟨cur, hcur⟩ := hd.dd.ca.cells hk
    obtain ⟨es, cl, hm⟩ := hd.dd.du.map
    rw [e, hm] at hcur
    cases hcur)
  refine ⟨w9, E', hr, ⟨⟨⟨ch.heap_some hd.dd.row.eq (fun e => hd.dd.mp e.symm)⟩, ca, du', hd.dd.mc, fun t y hy => ⟨_, (lr t y hy).2, (lr t y hy).1⟩, fun t k hk => ⟨_, (kr t k hk).2, (kr t k hk).1⟩, hd.dd.low, hd.dd.pn, hd.dd.ll, by omega, hd.dd.nm⟩, lr, kr, fun t t' k h1 h2 => ?_, fun t t' k y h1 hy => ?_, hd.li, hd.nd, hd.pk⟩, ch⟩
  · by_cases e : t = s
    · by_cases e' : t' = s
      · rw [e, e']
      · rw [e, updT_same] at h1
        rw [updT_other _ _ e'] at h2
        exact absurd (h2.trans h1.symm) (nK t')
    · rw [updT_other _ _ e] at h1
      by_cases e' : t' = s
      · rw [e', updT_same] at h2
        exact absurd (h1.trans h2.symm) (nK t)
      · rw [updT_other _ _ e'] at h2
        exact hd.ki t t' k h1 h2
  · by_cases e : t = s
    · rw [e, updT_same] at h1
      injection h1 with h1
      rw [← h1]
      exact nL t' y hy
    · rw [updT_other _ _ e] at h1
      exact hd.kl t t' k y h1 hy

/-- A write more, as Copy lays it. -/
theorem DC.app (hd : DC w p m c S z kc km b x L V D K E C) (s : Nat) (hs : s < S) (hS : S ≤ 65536) (n g : Nat) (a : Addr) (cp ty : Nat) {l : List Int} (hg : Rw w g (bs l).toArray 5) (hl : l.length = z) (nL : ∀ t y, y ∈ L t → y.2 ≠ g) (nK : ∀ t, K t ≠ some g) (ha : ∀ j u, (wcell z (n, g))[j]? = some u → w.cell? (a.add j) = some u) (hlen : (L s).length + 1 ≤ b) (hk : kc + km + 1 ≤ b) (hnb : n ≤ b) (hb : b ≤ 4398046511104) :
    ∃ v' w1 w2 D', (Builtin.append_ #[88, 88] ty #[V s, .slice (some a) 1 cp]).run Try.prog w = .ok v' w1 ∧ (Instr.mapUpdate 81 (.map (some c)) (.int .i64 s) v').run Try.prog w1 = .ok () w2 ∧ Chg (fun i => some i = (V s).ownBlock) w w1 ∧ Chg (fun i => i = c) w1 w2 ∧ (v'.ownBlock = (V s).ownBlock ∨ v'.ownBlock = some w.heap.size) ∧
      DC w2 p m c S z (kc + 1) km b x (updT L s (L s ++ [(n, g)])) (updT V s v') D' K E (updT C g l) := by
  obtain ⟨v', w1, w2, h1, h2, ⟨D', ca'⟩, g1, g2, hv⟩ := hd.dd.ca.more s (by omega) (n, g) a cp ty ha (by omega) (by omega)
  have c1 : Chg (fun i => some i = (V s).ownBlock) w w1 := Chg.of_grown g1
  have c2 : Chg (fun i => i = c) w1 w2 := ⟨g2.os, g2.tape, g2.output, g2.size, fun i hi hn => g2.block i hi (by simpa using hn)⟩
  have ch : Chg (fun i => i = c ∨ some i = (V s).ownBlock) w w2 := (c1.mono (fun _ _ e => .inr e)).trans c2 (fun _ e => .inl (.inl e))
  have nb : ∀ k cs, Rw w k cs 5 → Rw w2 k cs 5 := fun k cs hk => ⟨ch.heap_some hk.eq (fun e => by
    rcases e with e | e
    · exact ne_map hk hd.dd.ca.map e.symm
    · exact ne_row hk (hd.dd.ca.cells e.symm) (by decide) rfl)⟩
  have mem : ∀ t y, y ∈ updT L s (L s ++ [(n, g)]) t → (y ∈ L t) ∨ (t = s ∧ y = (n, g)) := fun t y hy => by
    by_cases e : t = s
    · rw [e, updT_same] at hy
      rcases List.mem_append.1 hy with hy | hy
      · exact .inl (by rw [e]; exact hy)
      · exact .inr ⟨e, List.mem_singleton.1 hy⟩
    · rw [updT_other _ _ e] at hy
      exact .inl hy
  have lr : ∀ t y, y ∈ updT L s (L s ++ [(n, g)]) t → Rw w2 y.2 (bs (updT C g l y.2)).toArray 5 ∧ (updT C g l y.2).length = z := fun t y hy => by
    rcases mem t y hy with hy | ⟨_, rfl⟩
    · rw [updT_other _ _ (nL t y hy)]
      exact ⟨nb _ _ (hd.lr t y hy).1, (hd.lr t y hy).2⟩
    · rw [updT_same]
      exact ⟨nb _ _ hg, hl⟩
  have kr : ∀ t k, K t = some k → Rw w2 k (bs (updT C g l k)).toArray 5 ∧ (updT C g l k).length = z := fun t k hk => by
    rw [updT_other _ _ (fun e2 => nK t (by rw [hk, e2]))]
    exact ⟨nb _ _ (hd.kr t k hk).1, (hd.kr t k hk).2⟩
  have du : Du w2 m km z K E := by
    obtain ⟨es, cl, hmm, rest⟩ := hd.dd.du.own
    have hm9 : w2.heap[m]? = some (.map es cl) := ch.heap_some hmm (fun e => by
      rcases e with e | e
      · exact hd.dd.mc e
      · obtain ⟨cur, hcur⟩ := hd.dd.ca.cells e.symm
        rw [hmm] at hcur
        cases hcur)
    exact ⟨⟨es, cl, hm9, rest⟩, hd.dd.du.at_, hd.dd.du.has⟩
  refine ⟨v', w1, w2, D', h1, h2, c1, c2, hv, ⟨⟨⟨ch.heap_some hd.dd.row.eq (fun e => ?_)⟩, ca', du, hd.dd.mc, fun t y hy => ⟨_, (lr t y hy).2, (lr t y hy).1⟩, fun t k hk => ⟨_, (kr t k hk).2, (kr t k hk).1⟩, fun t ht => ?_, hd.dd.pn, fun t => ?_, by omega, fun t y hy => ?_⟩, lr, kr, hd.ki, fun t t' k y h1 hy => ?_, fun t t' y y' hy hy' e => ?_, fun t => ?_, ?_⟩⟩
  · rcases e with e | e
    · exact hd.dd.cp e.symm
    · exact hd.dd.vp s e.symm
  · by_cases e : t = s
    · rw [e]; exact hs
    · rw [updT_other _ _ e] at ht
      exact hd.dd.low t ht
  · by_cases e : t = s
    · rw [e, updT_same, List.length_append, List.length_cons, List.length_nil]; omega
    · rw [updT_other _ _ e]; exact hd.dd.ll t
  · rcases mem t y hy with hy | ⟨_, rfl⟩
    · exact hd.dd.nm t y hy
    · exact hnb
  · rcases mem t' y hy with hy | ⟨_, rfl⟩
    · exact hd.kl t t' k y h1 hy
    · exact fun e => nK t (by rw [h1, ← e])
  · rcases mem t y hy with hy | ⟨ht, rfl⟩
    · rcases mem t' y' hy' with hy' | ⟨ht', rfl⟩
      · exact hd.li t t' y y' hy hy' e
      · exact absurd e (nL t y hy)
    · rcases mem t' y' hy' with hy' | ⟨ht', rfl⟩
      · exact absurd e.symm (nL t' y' hy')
      · rw [ht, ht']
  · by_cases e : t = s
    · rw [e, updT_same, List.map_append]
      refine nodup_snoc (hd.nd s) (fun h9 => ?_)
      obtain ⟨y, hy, ey⟩ := List.mem_map.1 h9
      exact nL s y hy ey
    · rw [updT_other _ _ e]
      exact hd.nd t
  · have := hd.pk
    omega

/-- Only the row has turned, the count of writes too. -/
theorem DC.renum (h : DC w p m c S z kc km b x L V D K E C) (k : Chg (fun i => i = p) w w') {x' : Nums} (r : Rw w' p (dkG S z m c x') 86) (hp : ∃ n : Nat, x'.pend = n ∧ n ≤ b) (hpk : x'.pend ≤ (kc : Int)) : DC w' p m c S z kc km b x' L V D K E C := by
  have lr : ∀ t y, y ∈ L t → Rw w' y.2 (bs (C y.2)).toArray 5 ∧ (C y.2).length = z := fun t y hy => ⟨Rw.chg1 (h.lr t y hy).1 k (Rw.ne (h.lr t y hy).1 h.dd.row (by decide)), (h.lr t y hy).2⟩
  have kr : ∀ t g, K t = some g → Rw w' g (bs (C g)).toArray 5 ∧ (C g).length = z := fun t g hg => ⟨Rw.chg1 (h.kr t g hg).1 k (Rw.ne (h.kr t g hg).1 h.dd.row (by decide)), (h.kr t g hg).2⟩
  exact ⟨⟨r, h.dd.ca.kept (grown_of k) (fun e => h.dd.cp (by injection e)) (fun t g hg e => h.dd.vp t (by rw [hg, e])), h.dd.du.kept (grown_of k) (fun e => h.dd.mp (by injection e)), h.dd.mc, fun t y hy => ⟨_, (lr t y hy).2, (lr t y hy).1⟩, fun t g hg => ⟨_, (kr t g hg).2, (kr t g hg).1⟩, h.dd.low, hp, h.dd.ll, h.dd.kk, h.dd.nm⟩, lr, kr, h.ki, h.kl, h.li, h.nd, hpk⟩
end

/-- A disk in the making: its blocks lie from I on, none is J. -/
structure AX (w : World) (I J p m c S z kc km b : Nat) (x : Nums) (A : Nat → List (Nat × List Int)) (F : Nat → Option (List Int)) (L : Nat → List (Nat × Nat)) (V : Nat → Value) (D : DataW Unit) (K : Nat → Option Nat) (E : DataW Unit) (C : Nat → List Int) : Prop where
  dc : DC w p m c S z kc km b x L V D K E C
  vb : ∀ t g, (V t).ownBlock = some g → I ≤ g ∧ g ≠ J
  kb : ∀ t g, K t = some g → I ≤ g ∧ g ≠ J
  lb : ∀ t y, y ∈ L t → I ≤ y.2 ∧ y.2 ≠ J
  ea : ∀ t, (L t).map (fun y => (y.1, C y.2)) = A t
  ef : ∀ t, (K t).map C = F t
  bp : I ≤ p ∧ p ≠ J
  bm : I ≤ m ∧ m ≠ J
  bc : I ≤ c ∧ c ≠ J
def AC (w : World) (I J p m c S z kc km b : Nat) (x : Nums) (A : Nat → List (Nat × List Int)) (F : Nat → Option (List Int)) : Prop := ∃ L V D K E C, AX w I J p m c S z kc km b x A F L V D K E C

section
variable {w0 w w' : World} {I J p m c S z kc km b : Nat} {x : Nums} {A : Nat → List (Nat × List Int)} {F : Nat → Option (List Int)} {L : Nat → List (Nat × Nat)} {V : Nat → Value} {D : DataW Unit} {K : Nat → Option Nat} {E : DataW Unit} {C : Nat → List Int}

theorem AX.mlt (h : AX w I J p m c S z kc km b x A F L V D K E C) : m < w.heap.size := by obtain ⟨es, cl, e⟩ := h.dc.dd.du.map; exact (Array.getElem?_eq_some_iff.1 e).1
theorem AX.clt (h : AX w I J p m c S z kc km b x A F L V D K E C) : c < w.heap.size := by obtain ⟨es, cl, e⟩ := h.dc.dd.ca.map; exact (Array.getElem?_eq_some_iff.1 e).1
theorem AX.frame (h : AX w I J p m c S z kc km b x A F L V D K E C) {T : Nat → Prop} (k : Chg T w w') (hT : ∀ g, g < w.heap.size → I ≤ g ∧ g ≠ J → ¬ T g) : AX w' I J p m c S z kc km b x A F L V D K E C :=
  ⟨h.dc.frame k (hT p h.dc.dd.row.lt h.bp) (hT m h.mlt h.bm) (hT c h.clt h.bc) (fun t g hg => hT g (h.dc.dd.ca.blt t g hg) (h.vb t g hg)) (fun t g hg => hT g (h.dc.kr t g hg).1.lt (h.kb t g hg)) (fun t y hy => hT _ (h.dc.lr t y hy).1.lt (h.lb t y hy)), h.vb, h.kb, h.lb, h.ea, h.ef, h.bp, h.bm, h.bc⟩
theorem AC.frame (h : AC w I J p m c S z kc km b x A F) {T : Nat → Prop} (k : Chg T w w') (hT : ∀ g, g < w.heap.size → I ≤ g ∧ g ≠ J → ¬ T g) : AC w' I J p m c S z kc km b x A F := by
  obtain ⟨L, V, D, K, E, C, h⟩ := h
  exact ⟨L, V, D, K, E, C, h.frame k hT⟩
/-- Another range block. -/
theorem AC.other (h : AC w I J p m c S z kc km b x A F) {J' : Nat} (hJ : w.heap.size ≤ J') : AC w I J' p m c S z kc km b x A F := by
  obtain ⟨L, V, D, K, E, C, h⟩ := h
  have hml := h.mlt
  have hcl := h.clt
  have hpl := h.dc.dd.row.lt
  exact ⟨L, V, D, K, E, C, ⟨h.dc, fun t g hg => ⟨(h.vb t g hg).1, by have := h.dc.dd.ca.blt t g hg; omega⟩, fun t g hg => ⟨(h.kb t g hg).1, by have := (h.dc.kr t g hg).1.lt; omega⟩, fun t y hy => ⟨(h.lb t y hy).1, by have := (h.dc.lr t y hy).1.lt; omega⟩, h.ea, h.ef, ⟨h.bp.1, by omega⟩, ⟨h.bm.1, by omega⟩, ⟨h.bc.1, by omega⟩⟩⟩
theorem AC.row (h : AC w I J p m c S z kc km b x A F) : Rw w p (dkG S z m c x) 86 := by
  obtain ⟨L, V, D, K, E, C, h⟩ := h
  exact h.dc.dd.row

theorem AC.renum (h : AC w I J p m c S z kc km b x A F) (k : Chg (fun i => i = p) w w') {x' : Nums} (r : Rw w' p (dkG S z m c x') 86) (hp : ∃ n : Nat, x'.pend = n ∧ n ≤ b) (hpk : x'.pend ≤ (kc : Int)) : AC w' I J p m c S z kc km b x' A F := by
  obtain ⟨L, V, D, K, E, C, h⟩ := h
  exact ⟨L, V, D, K, E, C, ⟨h.dc.renum k r hp hpk, h.vb, h.kb, h.lb, h.ea, h.ef, h.bp, h.bm, h.bc⟩⟩
theorem AC.lower (h : AC w I J p m c S z kc km b x A F) {I' : Nat} (hI : I' ≤ I) : AC w I' J p m c S z kc km b x A F := by
  obtain ⟨L, V, D, K, E, C, h⟩ := h
  exact ⟨L, V, D, K, E, C, ⟨h.dc, fun t g hg => ⟨Nat.le_trans hI (h.vb t g hg).1, (h.vb t g hg).2⟩, fun t g hg => ⟨Nat.le_trans hI (h.kb t g hg).1, (h.kb t g hg).2⟩, fun t y hy => ⟨Nat.le_trans hI (h.lb t y hy).1, (h.lb t y hy).2⟩, h.ea, h.ef, ⟨Nat.le_trans hI h.bp.1, h.bp.2⟩, ⟨Nat.le_trans hI h.bm.1, h.bm.2⟩, ⟨Nat.le_trans hI h.bc.1, h.bc.2⟩⟩⟩
theorem AC.bms (h : AC w I J p m c S z kc km b x A F) : (I ≤ p ∧ p ≠ J) ∧ (I ≤ m ∧ m ≠ J) ∧ (I ≤ c ∧ c ≠ J) := by
  obtain ⟨L, V, D, K, E, C, h⟩ := h
  exact ⟨h.bp, h.bm, h.bc⟩

theorem AC.put (h : AC w0 I J p m c S z kc km b x A F) (k : Chg (fun _ => False) w0 w) (s : Nat) (hs : s ≤ 65536) {g : Nat} {l : List Int} (hg0 : w0.heap.size ≤ g) (hg : Rw w g (bs l).toArray 5) (hl : l.length = z) (hI : I ≤ w0.heap.size) (hJ : J < w0.heap.size) (hk : kc + km + 1 ≤ b) (hb : b ≤ 4398046511104) :
    ∃ w', (Instr.mapUpdate 80 (.map (some m)) (.int .i64 s) (.slice (some ⟨g, 0, none⟩) z z)).run Try.prog w = .ok () w' ∧ AC w' I J p m c S z kc (km + 1) b x A (updT F s (some l)) ∧ Chg (fun i => i = m) w w' := by
  obtain ⟨L, V, D, K, E, C, h⟩ := h
  have nL : ∀ t y, y ∈ L t → y.2 ≠ g := fun t y hy => by have := (h.dc.lr t y hy).1.lt; omega
  have nK : ∀ t k, K t = some k → k ≠ g := fun t k hk => by have := (h.dc.kr t k hk).1.lt; omega
  have hw := h.frame k (fun _ _ _ h => h)
  obtain ⟨w9, E', hr, hd, ch⟩ := hw.dc.put s hs hg hl nL (fun t e => nK t g e rfl) hk hb
  refine ⟨w9, hr, ⟨L, V, D, _, E', _, ⟨hd, h.vb, fun t k hk => ?_, h.lb, fun t => ?_, fun t => ?_, h.bp, h.bm, h.bc⟩⟩, ch⟩
  · by_cases e : t = s
    · rw [e, updT_same] at hk
      injection hk with hk
      omega
    · rw [updT_other _ _ e] at hk
      exact h.kb t k hk
  · rw [← h.ea t]
    exact List.map_congr_left (fun y hy => by rw [updT_other _ _ (nL t y hy)])
  · by_cases e : t = s
    · rw [e, updT_same, updT_same]
      show some (updT C g l g) = _
      rw [updT_same]
    · rw [updT_other _ _ e, updT_other _ _ e, ← h.ef t]
      cases hKt : K t with
      | none => rfl
      | some k => show some (updT C g l k) = some (C k); rw [updT_other _ _ (nK t k hKt)]

theorem AX.app (h : AX w0 I J p m c S z kc km b x A F L V D K E C) (k : Chg (fun _ => False) w0 w) (s : Nat) (hs : s < S) (hS : S ≤ 65536) (n g : Nat) (a : Addr) (cp ty : Nat) {l : List Int} (hg0 : w0.heap.size ≤ g) (hg : Rw w g (bs l).toArray 5) (hl : l.length = z) (hI : I ≤ w0.heap.size) (hJ : J < w0.heap.size) (ha : ∀ j u, (wcell z (n, g))[j]? = some u → w.cell? (a.add j) = some u) (hlen : (A s).length + 1 ≤ b) (hk : kc + km + 1 ≤ b) (hnb : n ≤ b) (hb : b ≤ 4398046511104) :
    ∃ v' w1 w2, (Builtin.append_ #[88, 88] ty #[V s, .slice (some a) 1 cp]).run Try.prog w = .ok v' w1 ∧ (Instr.mapUpdate 81 (.map (some c)) (.int .i64 s) v').run Try.prog w1 = .ok () w2 ∧ Rw w1 p (dkG S z m c x) 86 ∧ Chg (fun i => some i = (V s).ownBlock) w w1 ∧ Chg (fun i => i = c) w1 w2 ∧ AC w2 I J p m c S z (kc + 1) km b x (updT A s (A s ++ [(n, l)])) F := by
  have nL : ∀ t y, y ∈ L t → y.2 ≠ g := fun t y hy => by have := (h.dc.lr t y hy).1.lt; omega
  have nK : ∀ t k, K t = some k → k ≠ g := fun t k hk => by have := (h.dc.kr t k hk).1.lt; omega
  have hw := h.frame k (fun _ _ _ h => h)
  have hks := k.size
  obtain ⟨v', w1, w2, D', h1, h2, c1, c2, hv, hd⟩ := hw.dc.app s hs hS n g a cp ty hg hl nL (fun t e => nK t g e rfl) ha (by rw [← h.ea s, List.length_map] at hlen; exact hlen) hk hnb hb
  refine ⟨v', w1, w2, h1, h2, ⟨c1.heap_some hw.dc.dd.row.eq (fun e => hw.dc.dd.vp s e.symm)⟩, c1, c2, ⟨_, _, D', K, E, _, ⟨hd, fun t i hi => ?_, h.kb, fun t y hy => ?_, fun t => ?_, fun t => ?_, h.bp, h.bm, h.bc⟩⟩⟩
  · by_cases e : t = s
    · rw [e, updT_same] at hi
      rcases hv with e5 | e5
      · exact h.vb s i (by rw [← e5]; exact hi)
      · rw [hi] at e5
        injection e5 with e5
        omega
    · rw [updT_other _ _ e] at hi
      exact h.vb t i hi
  · by_cases e : t = s
    · rw [e, updT_same] at hy
      rcases List.mem_append.1 hy with hy | hy
      · exact h.lb s y hy
      · rw [List.mem_singleton.1 hy]
        exact ⟨by show I ≤ g; omega, by show g ≠ J; omega⟩
    · rw [updT_other _ _ e] at hy
      exact h.lb t y hy
  · have hmap : ∀ t, (L t).map (fun y => (y.1, updT C g l y.2)) = A t := fun t => by
      rw [← h.ea t]
      exact List.map_congr_left (fun y hy => by rw [updT_other _ _ (nL t y hy)])
    by_cases e : t = s
    · rw [e, updT_same, updT_same, List.map_append, hmap]
      simp [updT_same]
    · rw [updT_other _ _ e, updT_other _ _ e, hmap]
  · rw [← h.ef t]
    cases hKt : K t with
    | none => rfl
    | some k => show some (updT C g l k) = some (C k); rw [updT_other _ _ (nK t k hKt)]
end
end Go.Proofs.Ytddnecfnjnipjaa
