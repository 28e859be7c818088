/-
  The ledger, exactly: lists that are written full at the end, and made longer.
-/
import Derived.Test.YtddnecfnjnipjaaLxE
namespace Go.Proofs.Ytddnecfnjnipjaa
open Go.RowKit

/-- Two lists x and y, made longer out of v and u since the world w0. -/
structure Xp (w0 w : World) (v u x y : Value) (l m m' : List Int) : Prop where
  ch : Chg (fun g => some g = v.ownBlock ∨ some g = u.ownBlock) w0 w
  ox : Own w x (l ++ m)
  oy : Own w y (l ++ m')
  sv : Sv w v l
  su : Sv w u l
  bx : x.ownBlock = v.ownBlock ∨ ∃ g, x.ownBlock = some g ∧ w0.heap.size ≤ g
  bu : y.ownBlock = u.ownBlock ∨ ∃ g, y.ownBlock = some g ∧ w0.heap.size ≤ g
  xy : ∀ g, x.ownBlock = some g → y.ownBlock ≠ some g ∧ u.ownBlock ≠ some g
  vy : ∀ g, v.ownBlock = some g → y.ownBlock ≠ some g ∧ u.ownBlock ≠ some g
  vz : ∃ a c, v = .slice a l.length c ∧ (a = none → c = 0) ∧ ∀ ad, a = some ad → ad.off = 0 ∧ ad.spot = none
  uz : ∃ a c, u = .slice a l.length c ∧ (a = none → c = 0) ∧ ∀ ad, a = some ad → ad.off = 0 ∧ ad.spot = none
  lt : ∀ g, v.ownBlock = some g ∨ u.ownBlock = some g → g < w0.heap.size

section
variable {w0 w w1 w2 : World} {v u x y : Value} {l m m' : List Int}
theorem Xp.symm (h : Xp w0 w v u x y l m m') : Xp w0 w u v y x l m' m :=
  ⟨h.ch.mono (fun _ _ e => e.symm), h.oy, h.ox, h.su, h.sv, h.bu, h.bx, fun g hg => ⟨fun e => (h.xy g e).1 hg, fun e => (h.vy g e).1 hg⟩, fun g hg => ⟨fun e => (h.xy g e).2 hg, fun e => (h.vy g e).2 hg⟩, h.uz, h.vz, fun g e => h.lt g e.symm⟩
theorem Xp.start (ov : Own w0 v l) (ou : Own w0 u l) (hvu : ∀ g, v.ownBlock = some g → u.ownBlock ≠ some g) : Xp w0 w0 v u v u l [] [] := by
  obtain ⟨a, c, e⟩ := Own.form ov
  obtain ⟨a', c', e'⟩ := Own.form ou
  exact ⟨Chg.refl _ _, by rw [List.append_nil]; exact ov, by rw [List.append_nil]; exact ou, ⟨Own.src ov, fun g hg => own_block ov hg⟩, ⟨Own.src ou, fun g hg => own_block ou hg⟩, .inl rfl, .inl rfl, fun g hg => ⟨hvu g hg, hvu g hg⟩, fun g hg => ⟨hvu g hg, hvu g hg⟩, ⟨a, c, e, own_addr ov e⟩, ⟨a', c', e', own_addr ou e'⟩, fun g e => by
    rcases e with e | e
    · exact Own.lt ov e
    · exact Own.lt ou e⟩
theorem Xp.fresh (h : Xp w0 w v u x y l m m') (c : Chg (fun _ => False) w w1) : Xp w0 w1 v u x y l m m' :=
  ⟨h.ch.trans c (fun _ e => e.elim), Own.kept h.ox c (fun _ _ e => e), Own.kept h.oy c (fun _ _ e => e), Sv.kept h.sv c (fun _ _ e => e), Sv.kept h.su c (fun _ _ e => e), h.bx, h.bu, h.xy, h.vy, h.vz, h.uz, h.lt⟩
/-- x is one byte longer. -/
theorem Xp.step (h : Xp w0 w v u x y l m m') {x' : Value} {b : Int} (o2 : Own w2 x' ((l ++ m) ++ [b])) (o2' : Own w2 x (l ++ m)) (k2 : Chg (fun k => some k = x.ownBlock) w w2) (b2 : x'.ownBlock = x.ownBlock ∨ x'.ownBlock = some w.heap.size) : Xp w0 w2 v u x' y l (m ++ [b]) m' := by
  have xnew : ∀ g, x.ownBlock = some g → v.ownBlock = some g ∨ w0.heap.size ≤ g := fun g hg => by
    rcases h.bx with e | ⟨q, e, hq⟩
    · exact .inl (by rw [← e]; exact hg)
    · rw [hg] at e; injection e with e; exact .inr (by omega)
  have x'new : ∀ g, x'.ownBlock = some g → x.ownBlock = some g ∨ g = w.heap.size := fun g hg => by
    rcases b2 with e | e
    · exact .inl (by rw [← e]; exact hg)
    · rw [hg] at e; injection e with e; exact .inr e
  refine ⟨h.ch.trans k2 (fun g e => ?_), by rw [← List.append_assoc]; exact o2, Own.kept h.oy k2 (fun g hg e => (h.xy g e.symm).1 hg), ?_, Sv.kept h.su k2 (fun g hg e => (h.xy g e.symm).2 hg), ?_, h.bu, fun g hg => ?_, h.vy, h.vz, h.uz, h.lt⟩
  · rcases xnew g e.symm with e2 | e2
    · exact .inl (.inl e2.symm)
    · exact .inr e2
  · by_cases hbb : x.ownBlock = v.ownBlock
    · obtain ⟨a, c, e, hz⟩ := h.vz
      exact ⟨src_front o2' e hbb hz.1 hz.2, fun g hg => own_block o2' (by rw [hbb]; exact hg)⟩
    · exact Sv.kept h.sv k2 (fun g hg e => hbb (by rw [hg]; exact e.symm))
  · rcases b2 with e | e
    · rw [e]; exact h.bx
    · exact .inr ⟨_, e, h.ch.size⟩
  · rcases x'new g hg with e | e
    · exact h.xy g e
    · refine ⟨fun e2 => ?_, fun e2 => ?_⟩
      · have := Own.lt h.oy e2; omega
      · have := h.lt g (.inr e2); have := h.ch.size; omega
theorem Xp.step2 (h : Xp w0 w v u x y l m m') {y' : Value} {b : Int} (o2 : Own w2 y' ((l ++ m') ++ [b])) (o2' : Own w2 y (l ++ m')) (k2 : Chg (fun k => some k = y.ownBlock) w w2) (b2 : y'.ownBlock = y.ownBlock ∨ y'.ownBlock = some w.heap.size) : Xp w0 w2 v u x y' l m (m' ++ [b]) := (h.symm.step o2 o2' k2 b2).symm
end

/-- While the lists are made longer: i of n are done. -/
structure Le (w : World) (lg : Nat) (B : Nat → Prop) (a p c d : Value) (t : Int) (na np n i : Nat) (X Y C D E F : List Value) : Prop where
  row : Rw w lg (lrow a p c d t) 41
  ra : SX w 48 a na X
  rp : SX w 99 p np Y
  rc : SX w 48 c (n + i) (C ++ E)
  rd : SX w 48 d (n + i) (D ++ F)
  hn : C.length = n ∧ D.length = n ∧ E.length = i ∧ F.length = i
  sm : na ≤ 4398046511104 ∧ np ≤ 4398046511104 ∧ n ≤ 4398046511104
  ac : ∀ g, a.ownBlock = some g → c.ownBlock ≠ some g ∧ d.ownBlock ≠ some g
  cd : ∀ g, c.ownBlock = some g → d.ownBlock ≠ some g
  bl : B lg
  bo : ∀ g, (c.ownBlock = some g ∨ d.ownBlock = some g) → B g
  x : ∀ (i : Nat) (v : Value), X[i]? = some v → Bk w B 5 v ∧ ∃ n, n ≤ 16777307 ∧ Src w v (marks (i / 2) n)
  y : ∀ (i : Nat) (v : Value), Y[i]? = some v → Bk w B 3 v ∧ ∃ n, n ≤ 4398046511105 ∧ Sn w v n (-1 - ((i / 2 : Nat) : Int))
  s : ∀ (j : Nat) (v u : Value), (C ++ E)[j]? = some v → (D ++ F)[j]? = some u → Bk w B 5 v ∧ Bk w B 5 u ∧ ∃ l, l.length ≤ 16777307 ∧ Src w v l ∧ Src w u l
  own : ∀ (j : Nat) (v u : Value), i ≤ j → C[j]? = some v → D[j]? = some u → ∃ l, l.length ≤ 16777217 ∧ Own w v l ∧ Own w u l
  cc : ∀ (i j : Nat) (v u : Value) (g : Nat), C[i]? = some v → C[j]? = some u → v.ownBlock = some g → u.ownBlock = some g → i = j
  dd : ∀ (i j : Nat) (v u : Value) (g : Nat), D[i]? = some v → D[j]? = some u → v.ownBlock = some g → u.ownBlock = some g → i = j
  xy : ∀ (v u : Value) (g : Nat), v ∈ C → u ∈ D → v.ownBlock = some g → u.ownBlock ≠ some g
  nx : ∀ (v u : Value) (g : Nat), v ∈ X → u ∈ C ++ D → v.ownBlock = some g → u.ownBlock ≠ some g
  ne : ∀ (j : Nat) (v u : Value) (g : Nat), i ≤ j → (C[j]? = some v ∨ D[j]? = some v) → u ∈ E ++ F → v.ownBlock = some g → u.ownBlock ≠ some g

theorem Le.lh {w : World} {lg : Nat} {B : Nat → Prop} {a p c d : Value} {t : Int} {na np n i : Nat} {X Y C D E F : List Value} (h : Le w lg B a p c d t na np n i X Y C D E F) (hi : i ≤ n) : Lh w lg a p c d t na np (n + i) X Y (C ++ E) (D ++ F) :=
  ⟨h.row, h.ra, h.rp, h.rc, h.rd, by have := h.sm; omega, fun i v hi => (h.x i v hi).2, fun i v hi => (h.y i v hi).2, fun j v u hj hk => (h.s j v u hj hk).2.2⟩
theorem Lg.le {w : World} {lg : Nat} {Bl : Nat → Prop} {k : Nat} {a p c d : Value} {t na np nc nd : Nat} {X Y C D : List Value} (h : Lg w lg Bl k a p c d t na np nc nd X Y C D) (hk : k ≤ 2199023255552) {B : Nat → Prop} (hB : ∀ g, Bl g → B g) : Le w lg B a p c d t na np nc 0 X Y C D [] [] := by
  have hcd : nd = nc := by rw [h.rc.1, h.rd.1]; exact h.hold.len.symm
  have hd := h.rd
  rw [hcd] at hd
  have hl := h.ln
  have bk : ∀ {ty : TypeId} {v : Value}, Bk w Bl ty v → Bk w B ty v := fun hb g hg => ⟨hB g (hb g hg).1, (hb g hg).2⟩
  refine ⟨h.row, h.ra, h.rp, by rw [List.append_nil]; exact h.rc, by rw [List.append_nil]; exact hd, ⟨h.rc.1.symm, hd.1.symm, rfl, rfl⟩, by omega, h.ac, h.cd, hB lg h.bl, fun g hg => hB g (h.bo g (.inr (.inr hg))), fun i v hi => ⟨bk (h.hold.x i v hi).1, (h.hold.x i v hi).2⟩, fun i v hi => ⟨bk (h.hold.y i v hi).1, (h.hold.y i v hi).2⟩, fun j v u hj hk => ?_, fun j v u _ hj hk => ?_, h.hold.cc, h.hold.dd, h.hold.xy, h.hold.nx, fun j v u g _ _ hu => by simp at hu⟩
  · rw [List.append_nil] at hj hk
    obtain ⟨b1, b2, l, hl, o1, o2⟩ := h.hold.cd j v u hj hk
    exact ⟨bk b1, bk b2, l, by omega, Own.src o1, Own.src o2⟩
  · obtain ⟨_, _, l, hl, o1, o2⟩ := h.hold.cd j v u hj hk
    exact ⟨l, hl, o1, o2⟩
end Go.Proofs.Ytddnecfnjnipjaa
