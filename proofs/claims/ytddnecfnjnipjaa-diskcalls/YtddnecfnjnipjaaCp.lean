import Derived.Test.YtddnecfnjnipjaaPlH
import Derived.Deep.MidRow
/-
  Two disks, their references and the ledger.
-/
namespace Go.Proofs.Ytddnecfnjnipjaa
open Go.RowKit

/-- A disk and its reference. -/
structure Pc where
  p : Nat
  q : Nat
  S : Nat
  z : Nat
  s : St
  r : Rs
  BD : Nat → Prop
  BR : Nat → Prop
def Pc.bl (x : Pc) : Nat → Prop := fun g => x.BD g ∨ x.BR g
structure Pr (w : World) (b : Nat) (x : Pc) : Prop where
  d : AB w x.BD x.p x.S x.z b x.s.x x.s.A x.s.F
  hf : -1 ≤ x.s.x.fuse ∧ x.s.x.fuse ≤ 9223372036854775807
  r : RB w x.BR x.q x.S x.z b x.r
  dr : ∀ g, x.BD g → ¬ x.BR g
  fs : ∀ t, x.S ≤ t → x.s.F t = none
  re : Re x.z x.s x.r
  hS : x.S ≤ 65536
  hz : x.z ≤ 4096
  z0 : 0 < x.z
  hSz : x.S * x.z ≤ 16777216
def dptr : Option Pc → Value
  | none => .pointer none
  | some x => .pointer (some ⟨x.p, 0, none⟩)
def rptr : Option Pc → Value
  | none => .pointer none
  | some x => .pointer (some ⟨x.q, 0, none⟩)

theorem Pr.low {w : World} {b : Nat} {x : Pc} (h : Pr w b x) : ∀ g, x.bl g → g < w.heap.size := fun g hg => by
  rcases hg with e | e
  · exact h.d.low g e
  · exact h.r.low g e
theorem Pr.frame {w w' : World} {b : Nat} {x : Pc} (h : Pr w b x) {T : Nat → Prop} (ch : Chg T w w') (hT : ∀ g, x.bl g → ¬ T g) : Pr w' b x :=
  ⟨h.d.frame ch (fun g hg => hT g (.inl hg)), h.hf, h.r.frame ch (fun g hg => hT g (.inr hg)), h.dr, h.fs, h.re, h.hS, h.hz, h.z0, h.hSz⟩
theorem Pr.mono {w : World} {b b' : Nat} {x : Pc} (h : Pr w b x) (hb : b ≤ b') : Pr w b' x := ⟨h.d.mono hb, h.hf, h.r.mono hb, h.dr, h.fs, h.re, h.hS, h.hz, h.z0, h.hSz⟩

/-- The story's state. -/
structure PY (w : World) (B lg gD gR b : Nat) (BL : Nat → Prop) (P : Nat → Option Pc) : Prop where
  pr : ∀ k x, P k = some x → Pr w b x
  l : LG w lg BL b
  rowD : Rw w gD #[dptr (P 0), dptr (P 1)] 29
  rowR : Rw w gR #[rptr (P 0), rptr (P 1)] 31
  ap : ∀ j k x y, j ≠ k → P j = some x → P k = some y → ∀ g, x.bl g → ¬ y.bl g
  al : ∀ k x, P k = some x → ∀ g, x.bl g → ¬ BL g
  lo : ∀ k x g, P k = some x → x.bl g → B ≤ g ∧ g ≠ gD ∧ g ≠ gR
  ll : ∀ g, BL g → B ≤ g ∧ g ≠ gD ∧ g ≠ gR
  gg : gD ≠ gR ∧ B ≤ gD ∧ B ≤ gR

section
variable {w w' : World} {B lg gD gR b : Nat} {BL : Nat → Prop} {P : Nat → Option Pc} {k : Nat} {x : Pc}
theorem PY.ts (h : PY w B lg gD gR b BL P) (hk : P k = some x) : TS w x.BD x.BR BL x.p x.q lg x.S x.z b b b x.s x.r := by
  have pr := h.pr k x hk
  exact ⟨pr.d, pr.hf, pr.r, h.l, pr.dr, fun g hg => h.al k x hk g (.inl hg), fun g hg => h.al k x hk g (.inr hg), pr.fs⟩
theorem PY.bd (h : PY w B lg gD gR b BL P) (hk : P k = some x) (hb : b < 2199023255551) : Bd x.S x.z b := by
  have pr := h.pr k x hk
  exact ⟨pr.hS, pr.hz, pr.z0, pr.hSz, hb⟩
theorem PY.frame (h : PY w B lg gD gR b BL P) (ch : Chg (fun _ => False) w w') : PY w' B lg gD gR b BL P :=
  ⟨fun k x hk => (h.pr k x hk).frame ch (fun _ _ h => h), h.l.frame ch (fun _ _ h => h), ⟨ch.heap_some h.rowD.eq (fun h => h)⟩, ⟨ch.heap_some h.rowR.eq (fun h => h)⟩, h.ap, h.al, h.lo, h.ll, h.gg⟩
/-- Behind an act. -/
theorem PY.act (h : PY w B lg gD gR b BL P) (hk : P k = some x) (pt : PT w w' x.BD x.BR BL x.p x.q lg x.S x.z b) : ∃ BL' x', PY w' B lg gD gR (b + 1) BL' (updT P k (some x')) ∧ Chg (fun g => B ≤ g) w w' := by
  obtain ⟨BD', BR', BL', s', r', hD, hR, hL, ts, re⟩ := pt.ex
  have pr := h.pr k x hk
  have hB3 : ∀ g, B3 x.BD x.BR BL g → (x.bl g ∨ BL g) := fun g e => by
    rcases e with e | e | e
    · exact .inl (.inl e)
    · exact .inl (.inr e)
    · exact .inr e
  have b3 : ∀ g, B3 x.BD x.BR BL g → B ≤ g ∧ g ≠ gD ∧ g ≠ gR := fun g e => by
    rcases hB3 g e with e | e
    · exact h.lo k x g hk e
    · exact h.ll g e
  have new : ∀ g, grB (B3 x.BD x.BR BL) w w' g → B ≤ g ∧ g ≠ gD ∧ g ≠ gR := fun g e => by
    rcases e with e | e
    · exact b3 g e
    · have h1 := h.rowD.lt
      have h2 := h.rowR.lt
      have := h.gg.2.1
      exact ⟨by omega, by omega, by omega⟩
  -- the other pair
  have oth : ∀ j y, j ≠ k → P j = some y → ∀ g, y.bl g → ¬ grB (B3 x.BD x.BR BL) w w' g := fun j y hj hy g hg e => by
    rcases e with e | e
    · rcases hB3 g e with e | e
      · exact h.ap j k y x hj hy hk g hg e
      · exact h.al j y hy g hg e
    · have := (h.pr j y hy).low g hg; omega
  have hD' : dptr (some (⟨x.p, x.q, x.S, x.z, s', r', BD', BR'⟩ : Pc)) = dptr (P k) := by rw [hk]; rfl
  have hR' : rptr (some (⟨x.p, x.q, x.S, x.z, s', r', BD', BR'⟩ : Pc)) = rptr (P k) := by rw [hk]; rfl
  have upd : ∀ {f : Option Pc → Value} (y : Pc), f (some y) = f (P k) → ∀ j, f (updT P k (some y) j) = f (P j) := fun {f} y e j => by
    by_cases ej : j = k
    · rw [ej, updT_same]; exact e
    · rw [updT_other _ _ ej]
  refine ⟨BL', ⟨x.p, x.q, x.S, x.z, s', r', BD', BR'⟩, ⟨fun j y hj => ?_, ts.l, ?_, ?_, fun i j y y' hij hi hj g hg e => ?_, fun j y hj g hg e => ?_, fun j y g hj hg => ?_, fun g hg => new g (hL g hg), h.gg⟩, pt.ch.mono (fun g _ e => (b3 g e).1)⟩
  · by_cases e : j = k
    · rw [e, updT_same] at hj
      injection hj with hj
      subst hj
      exact ⟨ts.d, ts.hf, ts.r, ts.dr, ts.fs, re, pr.hS, pr.hz, pr.z0, pr.hSz⟩
    · rw [updT_other _ _ e] at hj
      exact ((h.pr j y hj).frame pt.ch (fun g hg e2 => oth j y e hj g hg (.inl e2))).mono (Nat.le_succ b)
  · rw [upd _ hD' 0, upd _ hD' 1]
    exact ⟨pt.ch.heap_some h.rowD.eq (fun e => (b3 gD e).2.1 rfl)⟩
  · rw [upd _ hR' 0, upd _ hR' 1]
    exact ⟨pt.ch.heap_some h.rowR.eq (fun e => (b3 gR e).2.2 rfl)⟩
  · by_cases e1 : i = k
    · by_cases e2 : j = k
      · exact hij (e1.trans e2.symm)
      · rw [e1, updT_same] at hi
        injection hi with hi
        subst hi
        rw [updT_other _ _ e2] at hj
        rcases hg with hg | hg
        · exact oth j y' e2 hj g e (hD g hg)
        · exact oth j y' e2 hj g e (hR g hg)
    · rw [updT_other _ _ e1] at hi
      by_cases e2 : j = k
      · rw [e2, updT_same] at hj
        injection hj with hj
        subst hj
        rcases e with e | e
        · exact oth i y e1 hi g hg (hD g e)
        · exact oth i y e1 hi g hg (hR g e)
      · rw [updT_other _ _ e2] at hj
        exact h.ap i j y y' hij hi hj g hg e
  · by_cases e1 : j = k
    · rw [e1, updT_same] at hj
      injection hj with hj
      subst hj
      rcases hg with hg | hg
      · exact ts.dl g hg e
      · exact ts.rl g hg e
    · rw [updT_other _ _ e1] at hj
      exact oth j y e1 hj g hg (hL g e)
  · by_cases e1 : j = k
    · rw [e1, updT_same] at hj
      injection hj with hj
      subst hj
      rcases hg with hg | hg
      · exact new g (hD g hg)
      · exact new g (hR g hg)
    · rw [updT_other _ _ e1] at hj
      exact h.lo j y g hj hg
end
end Go.Proofs.Ytddnecfnjnipjaa

/-
  The story: two new ones; a copy takes its place; the lowest bit.
-/
namespace Go.Proofs.Ytddnecfnjnipjaa
open Go.RowKit

theorem and_one_any (x : Int) : bits BinOp.and IntKind.i64 x 1 = 0 ∨ bits BinOp.and IntKind.i64 x 1 = 1 := by
  have e1 : (BitVec.ofInt 64 (1 : Int)).toNat = 1 := by decide
  have e : (BitVec.ofInt 64 x &&& BitVec.ofInt 64 1).toNat = (BitVec.ofInt 64 x).toNat % 2 := by
    rw [BitVec.toNat_and, e1]
    exact Nat.and_two_pow_sub_one_eq_mod _ 1
  have h : bits BinOp.and IntKind.i64 x 1 = IntKind.i64.wrap (((BitVec.ofInt 64 x &&& BitVec.ofInt 64 1).toNat : Nat) : Int) := rfl
  rw [h, e]
  rcases Nat.mod_two_eq_zero_or_one (BitVec.ofInt 64 x).toNat with e2 | e2 <;> rw [e2]
  · exact .inl (by decide)
  · exact .inr (by decide)

/-- A new disk's state; its reference's. -/
def st0 : St := ⟨⟨0, -1, false, 0, 0, 0, 0⟩, fun _ => [], fun _ => none⟩
def rs0 (z : Nat) : Rs := ⟨⟨false, 0, false, 0, 0, 0, 0⟩, fun _ => zs z, []⟩
theorem re0 (z : Nat) : Re z st0 (rs0 z) := ⟨⟨rfl, rfl, fun e => (by cases e), rfl, rfl, rfl, rfl⟩, rfl, fun _ => rfl, fun _ => rfl⟩
theorem RB.made {w : World} {q S z : Nat} (h : Rw w q (rdk S z 0) 52) : RB w (fun g => g = q) q S z 0 (rs0 z) := by
  refine ⟨⟨[], [], .slice none 0 0, .slice none 0 0, fun _ => [], ⟨h, Dl.nil w z, Dl.nil w z, fun g e => by simp [Value.ownBlock] at e, fun d hd => (by cases hd), fun d hd => (by cases hd), fun d hd => (by cases hd), fun d hd => (by cases hd), fun d hd => (by cases hd), List.nodup_nil, fun d hd => (by cases hd), Nat.le_refl _⟩, fun g hg => ?_, fun t => rfl, rfl⟩, fun g hg => by rw [hg]; exact h.lt⟩
  rcases hg with e | e | e | ⟨d, hd, _⟩ | ⟨d, hd, _⟩
  · exact e
  · simp [Value.ownBlock] at e
  · simp [Value.ownBlock] at e
  · cases hd
  · cases hd
/-- A new pair. -/
def pc0 (p q S z m c : Nat) : Pc := ⟨p, q, S, z, st0, rs0 z, fun g => g = p ∨ g = m ∨ g = c, fun g => g = q⟩
theorem Pr.made {w1 w2 : World} {p q S z m c : Nat} (ok : okDisk S z) (d : DK w1 p S z m c 0 0) (hmc : m ≠ c) (bl : Below w1.heap.size w1 w2) (hq : q = w1.heap.size) (r : Rw w2 q (rdk S z 0) 52) : Pr w2 0 (pc0 p q S z m c) := by
  obtain ⟨hf, h1, h2, h3⟩ := ok
  have hb := fits_b hf
  have d1 := AB.made d hmc
  have low := d1.low
  refine ⟨d1.frame (Chg.of_below bl (fun _ => False)) (fun _ _ h => h), (show (-1 : Int) ≤ -1 ∧ (-1 : Int) ≤ 9223372036854775807 from by decide), RB.made r, fun g hg e => ?_, fun _ _ => rfl, re0 z, by show S ≤ 65536; omega, by show z ≤ 4096; omega, by show 0 < z; omega, ?_⟩
  · have := low g hg
    have e : g = q := e
    omega
  · show S * z ≤ 16777216
    have : ((S * z : Nat) : Int) ≤ 16777216 := by rw [Int.natCast_mul]; exact h3
    omega

section
variable {w w' : World} {B lg gD gR b : Nat} {BL : Nat → Prop} {P : Nat → Option Pc} {k : Nat} {x : Pc}
theorem setP (f : Option Pc → Value) (P : Nat → Option Pc) (k : Nat) (hk : k < 2) (y : Pc) : (#[f (P 0), f (P 1)] : Array Value).setIfInBounds k (f (some y)) = #[f (updT P k (some y) 0), f (updT P k (some y) 1)] := by
  match k, hk with
  | 0, _ => rw [updT_same, updT_other _ _ (by decide)]; rfl
  | 1, _ => rw [updT_same, updT_other _ _ (by decide)]; rfl
/-- A copy takes the disk's place. -/
theorem PY.swap (h : PY w B lg gD gR b BL P) (hk : P k = some x) (hk2 : k < 2) {p' : Nat} {Bl' : Nat → Prop} (ch : Chg x.BD w w') (d' : AB w' Bl' p' x.S x.z b x.s.x x.s.A x.s.F) (hB' : ∀ g, Bl' g → w.heap.size ≤ g) :
    PY (w'.setCell ⟨gD, k, none⟩ (.pointer (some ⟨p', 0, none⟩))) B lg gD gR b BL (updT P k (some { x with p := p', BD := Bl' })) ∧ Chg (fun g => B ≤ g) w (w'.setCell ⟨gD, k, none⟩ (.pointer (some ⟨p', 0, none⟩))) := by
  have pr := h.pr k x hk
  have rD : Rw w' gD #[dptr (P 0), dptr (P 1)] 29 := ⟨ch.heap_some h.rowD.eq (fun e => (h.lo k x gD hk (.inl e)).2.1 rfl)⟩
  have rR : Rw w' gR #[rptr (P 0), rptr (P 1)] 31 := ⟨ch.heap_some h.rowR.eq (fun e => (h.lo k x gR hk (.inl e)).2.2 rfl)⟩
  have cs : Chg (fun g => g = gD) w' (w'.setCell ⟨gD, k, none⟩ (.pointer (some ⟨p', 0, none⟩))) := (Chg.refl (fun g => g = gD) w').setCell (.inl rfl) _
  have hD := h.rowD.lt
  have hR := h.rowR.lt
  have new : ∀ g, Bl' g → B ≤ g ∧ g ≠ gD ∧ g ≠ gR := fun g hg => by
    have := hB' g hg
    have := h.gg.2.1
    exact ⟨by omega, by omega, by omega⟩
  have upR : ∀ j, rptr (updT P k (some { x with p := p', BD := Bl' }) j) = rptr (P j) := fun j => by
    by_cases ej : j = k
    · rw [ej, updT_same, hk]; rfl
    · rw [updT_other _ _ ej]
  refine ⟨⟨fun j y hj => ?_, (h.l.frame ch (fun g hg e => h.al k x hk g (.inl e) hg)).frame cs (fun g hg e => (h.ll g hg).2.1 e), ?_, ?_, fun i j y y' hij hi hj g hg e => ?_, fun j y hj g hg e => ?_, fun j y g hj hg => ?_, h.ll, h.gg⟩, (ch.mono (fun g _ e => (h.lo k x g hk (.inl e)).1)).trans cs (fun g e => .inl (by rw [e]; exact h.gg.2.1))⟩
  · by_cases e : j = k
    · rw [e, updT_same] at hj
      injection hj with hj
      subst hj
      exact ⟨d'.frame cs (fun g hg e => (new g hg).2.1 e), pr.hf, (pr.r.frame ch (fun g hg e => pr.dr g e hg)).frame cs (fun g hg e => (h.lo k x g hk (.inr hg)).2.1 e), fun g hg e => (by have := hB' g hg; have := pr.r.low g e; omega), pr.fs, pr.re, pr.hS, pr.hz, pr.z0, pr.hSz⟩
    · rw [updT_other _ _ e] at hj
      exact ((h.pr j y hj).frame ch (fun g hg e2 => h.ap j k y x e hj hk g hg (.inl e2))).frame cs (fun g hg e2 => (h.lo j y g hj hg).2.1 e2)
  · have := Rw.set rD k (dptr (some { x with p := p', BD := Bl' }))
    rw [setP dptr P k hk2] at this
    exact this
  · rw [upR 0, upR 1]
    exact ⟨cs.heap_some rR.eq (fun e => h.gg.1 e.symm)⟩
  · by_cases e1 : i = k
    · by_cases e2 : j = k
      · exact hij (e1.trans e2.symm)
      · rw [e1, updT_same] at hi
        injection hi with hi
        subst hi
        rw [updT_other _ _ e2] at hj
        rcases hg with hg | hg
        · have := hB' g hg
          have := (h.pr j y' hj).low g e
          omega
        · exact h.ap k j x y' (fun e3 => e2 e3.symm) hk hj g (.inr hg) e
    · rw [updT_other _ _ e1] at hi
      by_cases e2 : j = k
      · rw [e2, updT_same] at hj
        injection hj with hj
        subst hj
        rcases e with e | e
        · have := hB' g e
          have := (h.pr i y hi).low g hg
          omega
        · exact h.ap i k y x e1 hi hk g hg (.inr e)
      · rw [updT_other _ _ e2] at hj
        exact h.ap i j y y' hij hi hj g hg e
  · by_cases e1 : j = k
    · rw [e1, updT_same] at hj
      injection hj with hj
      subst hj
      rcases hg with hg | hg
      · have := hB' g hg
        have := h.l.low g e
        omega
      · exact h.al k x hk g (.inr hg) e
    · rw [updT_other _ _ e1] at hj
      exact h.al j y hj g hg e
  · by_cases e1 : j = k
    · rw [e1, updT_same] at hj
      injection hj with hj
      subst hj
      rcases hg with hg | hg
      · exact new g hg
      · exact h.lo k x g hk (.inr hg)
    · rw [updT_other _ _ e1] at hj
      exact h.lo j y g hj hg
end

/-- While the disks are made. -/
structure PN (w : World) (B gD gR : Nat) (P : Nat → Option Pc) : Prop where
  pr : ∀ k x, P k = some x → Pr w 0 x
  rowD : Rw w gD #[dptr (P 0), dptr (P 1)] 29
  rowR : Rw w gR #[rptr (P 0), rptr (P 1)] 31
  ap : ∀ j k x y, j ≠ k → P j = some x → P k = some y → ∀ g, x.bl g → ¬ y.bl g
  lo : ∀ k x g, P k = some x → x.bl g → B ≤ g ∧ g ≠ gD ∧ g ≠ gR
  gg : gD ≠ gR ∧ B ≤ gD ∧ B ≤ gR

section
variable {w w1 w2 : World} {B gD gR : Nat} {P : Nat → Option Pc} {k : Nat}
theorem PN.start {w : World} {B gD gR : Nat} (hD : Rw w gD #[.pointer none, .pointer none] 29) (hR : Rw w gR #[.pointer none, .pointer none] 31) (gg : gD ≠ gR ∧ B ≤ gD ∧ B ≤ gR) : PN w B gD gR (fun _ => none) :=
  ⟨fun k x h => (by cases h), hD, hR, fun j k x y _ h => (by cases h), fun k x g h => (by cases h), gg⟩
theorem PN.frame (h : PN w B gD gR P) (ch : Chg (fun _ => False) w w1) : PN w1 B gD gR P :=
  ⟨fun k x hk => (h.pr k x hk).frame ch (fun _ _ h => h), ⟨ch.heap_some h.rowD.eq (fun h => h)⟩, ⟨ch.heap_some h.rowR.eq (fun h => h)⟩, h.ap, h.lo, h.gg⟩
/-- Two more. -/
theorem PN.put (h : PN w B gD gR P) (_hk : P k = none) (hk2 : k < 2) (ch : Chg (fun _ => False) w w2) {y : Pc} (pr : Pr w2 0 y) (hy : ∀ g, y.bl g → w.heap.size ≤ g) :
    PN ((w2.setCell ⟨gD, k, none⟩ (dptr (some y))).setCell ⟨gR, k, none⟩ (rptr (some y))) B gD gR (updT P k (some y)) ∧ Chg (fun g => B ≤ g) w ((w2.setCell ⟨gD, k, none⟩ (dptr (some y))).setCell ⟨gR, k, none⟩ (rptr (some y))) := by
  have h2 := h.frame ch
  have cs : Chg (fun g => g = gD ∨ g = gR) w2 ((w2.setCell ⟨gD, k, none⟩ (dptr (some y))).setCell ⟨gR, k, none⟩ (rptr (some y))) := ((Chg.refl (fun g => g = gD ∨ g = gR) w2).setCell (.inl (.inl rfl)) _).setCell (.inl (.inr rfl)) _
  have hD := h.rowD.lt
  have hR := h.rowR.lt
  have new : ∀ g, y.bl g → B ≤ g ∧ g ≠ gD ∧ g ≠ gR := fun g hg => by
    have := hy g hg
    have := h.gg.2.1
    exact ⟨by omega, by omega, by omega⟩
  refine ⟨⟨fun j x hj => ?_, ?_, ?_, fun i j x x' hij hi hj g hg e => ?_, fun j x g hj hg => ?_, h.gg⟩, (ch.mono (fun _ _ h => h.elim)).trans cs (fun g e => .inl (by rcases e with e | e; (rw [e]; exact h.gg.2.1); (rw [e]; exact h.gg.2.2)))⟩
  · by_cases e : j = k
    · rw [e, updT_same] at hj
      injection hj with hj
      subst hj
      exact pr.frame cs (fun g hg e => by rcases e with e | e; (exact (new g hg).2.1 e); (exact (new g hg).2.2 e))
    · rw [updT_other _ _ e] at hj
      exact (h2.pr j x hj).frame cs (fun g hg e => by rcases e with e | e; (exact (h.lo j x g hj hg).2.1 e); (exact (h.lo j x g hj hg).2.2 e))
  · have := Rw.set h2.rowD k (dptr (some y))
    rw [setP dptr P k hk2] at this
    exact ⟨((Chg.refl (fun g => g = gR) (w2.setCell ⟨gD, k, none⟩ (dptr (some y)))).setCell (p := ⟨gR, k, none⟩) (.inl rfl) (rptr (some y))).heap_some this.eq (fun e => h.gg.1 e)⟩
  · have r3 : Rw (w2.setCell ⟨gD, k, none⟩ (dptr (some y))) gR #[rptr (P 0), rptr (P 1)] 31 := ⟨((Chg.refl (fun g => g = gD) w2).setCell (p := ⟨gD, k, none⟩) (.inl rfl) (dptr (some y))).heap_some h2.rowR.eq (fun e => h.gg.1 e.symm)⟩
    have := Rw.set r3 k (rptr (some y))
    rw [setP rptr P k hk2] at this
    exact this
  · by_cases e1 : i = k
    · by_cases e2 : j = k
      · exact hij (e1.trans e2.symm)
      · rw [e1, updT_same] at hi
        injection hi with hi
        subst hi
        rw [updT_other _ _ e2] at hj
        have := hy g hg
        have := (h.pr j x' hj).low g e
        omega
    · rw [updT_other _ _ e1] at hi
      by_cases e2 : j = k
      · rw [e2, updT_same] at hj
        injection hj with hj
        subst hj
        have := hy g e
        have := (h.pr i x hi).low g hg
        omega
      · rw [updT_other _ _ e2] at hj
        exact h.ap i j x x' hij hi hj g hg e
  · by_cases e1 : j = k
    · rw [e1, updT_same] at hj
      injection hj with hj
      subst hj
      exact new g hg
    · rw [updT_other _ _ e1] at hj
      exact h.lo j x g hj hg
/-- None is made. -/
theorem PN.nop (h : PN w B gD gR P) (hk : P k = none) (hk2 : k < 2) :
    PN ((w.setCell ⟨gD, k, none⟩ (.pointer none)).setCell ⟨gR, k, none⟩ (.pointer none)) B gD gR P ∧ Chg (fun g => B ≤ g) w ((w.setCell ⟨gD, k, none⟩ (.pointer none)).setCell ⟨gR, k, none⟩ (.pointer none)) := by
  have cs : Chg (fun g => g = gD ∨ g = gR) w ((w.setCell ⟨gD, k, none⟩ (.pointer none)).setCell ⟨gR, k, none⟩ (.pointer none)) := ((Chg.refl (fun g => g = gD ∨ g = gR) w).setCell (.inl (.inl rfl)) _).setCell (.inl (.inr rfl)) _
  have same : ∀ (f : Option Pc → Value), f none = .pointer none → (#[f (P 0), f (P 1)] : Array Value).setIfInBounds k (.pointer none) = #[f (P 0), f (P 1)] := fun f hf => by
    match k, hk2, hk with
    | 0, _, hk => rw [hk, hf]; rfl
    | 1, _, hk => rw [hk, hf]; rfl
  refine ⟨⟨fun j x hj => (h.pr j x hj).frame cs (fun g hg e => by rcases e with e | e; (exact (h.lo j x g hj hg).2.1 e); (exact (h.lo j x g hj hg).2.2 e)), ?_, ?_, h.ap, h.lo, h.gg⟩, cs.mono (fun g _ e => by rcases e with e | e; (rw [e]; exact h.gg.2.1); (rw [e]; exact h.gg.2.2))⟩
  · have := Rw.set h.rowD k (.pointer none)
    rw [same dptr rfl] at this
    exact ⟨((Chg.refl (fun g => g = gR) (w.setCell ⟨gD, k, none⟩ (.pointer none))).setCell (p := ⟨gR, k, none⟩) (.inl rfl) (.pointer none)).heap_some this.eq (fun e => h.gg.1 e)⟩
  · have r3 : Rw (w.setCell ⟨gD, k, none⟩ (.pointer none)) gR #[rptr (P 0), rptr (P 1)] 31 := ⟨((Chg.refl (fun g => g = gD) w).setCell (p := ⟨gD, k, none⟩) (.inl rfl) (.pointer none)).heap_some h.rowR.eq (fun e => h.gg.1 e.symm)⟩
    have := Rw.set r3 k (.pointer none)
    rw [same rptr rfl] at this
    exact this
/-- The ledger is made. -/
theorem PN.ledger (h : PN w B gD gR P) (hB : B ≤ w.heap.size) : PY (w.alloc (.cells #[.slice none 0 0, .slice none 0 0, .slice none 0 0, .slice none 0 0, .int .i64 0] 41)) B w.heap.size gD gR 0 (fun g => g = w.heap.size) P := by
  have ch : Chg (fun _ => False) w (w.alloc (.cells #[.slice none 0 0, .slice none 0 0, .slice none 0 0, .slice none 0 0, .int .i64 0] 41)) := (Chg.refl _ _).alloc _
  have h2 := h.frame ch
  have hD := h.rowD.lt
  have hR := h.rowR.lt
  refine ⟨h2.pr, ⟨.slice none 0 0, .slice none 0 0, .slice none 0 0, .slice none 0 0, 0, 0, 0, 0, 0, [], [], [], [], ⟨⟨heap_alloc_new _ _⟩, SX.nil _ _, SX.nil _ _, SX.nil _ _, SX.nil _ _, fun g e => by simp [Value.ownBlock] at e, fun g e => by simp [Value.ownBlock] at e, rfl, fun g e => by simp [Value.ownBlock] at e, fun g e => by rw [e]; simp, by omega, by omega, Ld.nil _ _⟩⟩, h2.rowD, h2.rowR, h.ap, fun k x hk g hg e => ?_, h.lo, fun g e => ?_, h.gg⟩
  · have := (h.pr k x hk).low g hg
    omega
  · rw [e]
    exact ⟨hB, by omega, by omega⟩
end
end Go.Proofs.Ytddnecfnjnipjaa

/-
  Structs in a block of their own: a field that is an aggregate, stored and loaded.
-/
namespace Go.Proofs.Ytddnecfnjnipjaa
open Go.RowKit

/-- Block g has these cells. -/
structure Blk (w : World) (g : Nat) (cs : List Value) (t : TypeId) : Prop where
  eq : w.heap[g]? = some (.cells cs.toArray t (0, 0))

theorem Blk.lt {w : World} {g : Nat} {cs : List Value} {t : TypeId} (h : Blk w g cs t) : g < w.heap.size := (Array.getElem?_eq_some_iff.1 h.eq).1
theorem Blk.cell {w : World} {g : Nat} {cs : List Value} {t : TypeId} (h : Blk w g cs t) (j : Nat) : w.cell? ⟨g, j, none⟩ = cs[j]? := by
  rw [cell_of_row w g j _ t (0, 0) h.eq]; simp
theorem Blk.fr {w : World} {g : Nat} {cs : List Value} {t : TypeId} (h : Blk w g cs t) (j : Nat) : w.frozen? ⟨g, j, none⟩ = false := frozen_of_row w g j _ t h.eq
theorem Blk.keep {w w' : World} {g : Nat} {cs : List Value} {t : TypeId} {S : Nat → Prop} (h : Blk w g cs t) (c : Chg S w w') (hn : ¬ S g) : Blk w' g cs t := ⟨c.heap_some h.eq hn⟩
theorem Blk.keep0 {w w' : World} {g : Nat} {cs : List Value} {t : TypeId} (h : Blk w g cs t) (b : Below w.heap.size w w') : Blk w' g cs t := by
  exact ⟨by rw [b.block g h.lt]; exact h.eq⟩
theorem Blk.made (w : World) (cs : List Value) (t : TypeId) : Blk (w.alloc (.cells cs.toArray t)) w.heap.size cs t := ⟨heap_alloc_new _ _⟩
theorem Blk.alloc {w : World} {g : Nat} {cs : List Value} {t : TypeId} (h : Blk w g cs t) (ob : Obj) : Blk (w.alloc ob) g cs t := h.keep0 ((Below.refl _ _).alloc (Nat.le_refl _) _)
theorem Blk.drew {w : World} {g : Nat} {cs : List Value} {t : TypeId} (h : Blk w g cs t) : Blk w.drew g cs t := ⟨h.eq⟩
theorem Blk.set {w : World} {g : Nat} {cs : List Value} {t : TypeId} (h : Blk w g cs t) (o : Nat) (v : Value) : Blk (w.setCell ⟨g, o, none⟩ v) g (cs.set o v) t := by
  refine ⟨?_⟩
  rw [heap_setCell_same w g o _ t v h.eq]
  simp
theorem Blk.range {w : World} {g : Nat} {cs : List Value} {t : TypeId} (h : Blk w g cs t) {o : Nat} {vs : List Value} (hv : (cs.drop o).take vs.length = vs) : w.rangeAt g o vs := fun j v hj => by
  rw [h.cell]
  rw [← hv, List.getElem?_take] at hj
  split at hj
  · rw [List.getElem?_drop] at hj; exact hj
  · cases hj
theorem Blk.there {w : World} {g : Nat} {cs : List Value} {t : TypeId} (h : Blk w g cs t) {o n : Nat} (hn : o + n ≤ cs.length) : w.there g o n := fun j hj => by
  rw [h.cell]
  refine ⟨?_, h.fr _⟩
  simp; omega

theorem Blk.setCells {g : Nat} {t : TypeId} : ∀ (vs : List Value) (o : Nat) (w : World) (cs : List Value), Blk w g cs t → o + vs.length ≤ cs.length → Blk (w.setCells g o vs) g (splice cs o vs) t ∧ Chg (fun k => k = g) w (w.setCells g o vs)
  | [], o, w, cs, h, _ => by
    refine ⟨?_, Chg.refl _ _⟩
    simpa [splice, World.setCells] using h
  | v :: vs, o, w, cs, h, hl => by
    simp only [List.length_cons] at hl
    have h1 := h.set o v
    obtain ⟨h2, h3⟩ := Blk.setCells vs (o + 1) _ _ h1 (by simp; omega)
    refine ⟨?_, ((Chg.refl (fun k => k = g) w).setCell (.inl rfl) v).trans h3 (fun _ e => .inl e)⟩
    have e : splice (cs.set o v) (o + 1) vs = splice cs o (v :: vs) := by
      unfold splice
      have ho : o < cs.length := by omega
      rw [List.take_set, List.drop_set_of_lt (by omega), List.take_add_one, List.set_append_right _ _ (by simp; omega)]
      simp only [List.getElem?_eq_getElem ho, Option.toList_some, List.length_take, Nat.min_eq_left (Nat.le_of_lt ho), Nat.sub_self, List.set_cons_zero, List.append_assoc, List.length_cons]
      rw [show o + 1 + vs.length = o + (vs.length + 1) by omega]
      rfl
    rw [e] at h2
    exact h2

section
variable {ops : Array Oper} {rest : List Oper} {op : Oper} {a : Act} {w : World} {Q : Exit → Act → World → Prop}
theorem wpList_store_part (hgd : op.guard = none) (ty : TypeId) (x y : Operand) (ho : op.op = .store ty x y)
    (g o : Nat) (vs : List Value) (hx : a.eval x = .pointer (some ⟨g, o, none⟩)) (hy : a.eval y = .agg vs.toArray) {cs : List Value} {t : TypeId} (hg : Blk w g cs t) (hl : o + vs.length ≤ cs.length)
    (hi : (Try.prog.info? ty).map (·.size) = some vs.length) (h1 : ∀ v ∈ vs, v.oneCell' = true)
    (h : ∀ w', Blk w' g (splice cs o vs) t → Chg (fun k => k = g) w w' → wpList Try.prog ops Q rest (a.put op.dst undef) w') : wpList Try.prog ops Q (op :: rest) a w := by
  obtain ⟨h2, h3⟩ := Blk.setCells vs o w cs hg hl
  exact wpList_store_mid hgd ty x y ho g o vs.toArray hx hy (by rw [List.size_toArray]; exact hg.there hl) (by rw [List.size_toArray]; exact hi) (all_oneCell_toArray h1) (by rw [List.toList_toArray]; exact h _ h2 h3)

theorem wpList_load_part (hgd : op.guard = none) (ty : TypeId) (x : Operand) (ho : op.op = .load ty x)
    (g o : Nat) (vs : List Value) (hx : a.eval x = .pointer (some ⟨g, o, none⟩)) {cs : List Value} {t : TypeId} (hg : Blk w g cs t) (hv : (cs.drop o).take vs.length = vs) {d : TypeDesc} (hu : Try.prog.underlying ty = some d) (hd : d.isRow = true)
    (hi : (Try.prog.info? ty).map (·.size) = some vs.length) (h : wpList Try.prog ops Q rest (a.put op.dst (.agg vs.toArray)) w) : wpList Try.prog ops Q (op :: rest) a w :=
  wpList_load_mid hgd ty x ho g o hx vs d (hg.range hv) hu hd hi h
end

theorem splice_all {α : Type} (L cs : List α) (h : cs.length = L.length) : splice L 0 cs = cs := by simp [splice, h]

theorem PY.mono {w : World} {B lg gD gR b b' : Nat} {BL : Nat → Prop} {P : Nat → Option Pc} (h : PY w B lg gD gR b BL P) (hb : b ≤ b') : PY w B lg gD gR b' BL P :=
  ⟨fun k x hk => (h.pr k x hk).mono hb, h.l.mono hb, h.rowD, h.rowR, h.ap, h.al, h.lo, h.ll, h.gg⟩
/-- powered, whatever the act is. -/
theorem TS.powered {w : World} {BD BR BL : Nat → Prop} {p q lg S z b : Nat} {s : St} {r : Rs} (h : TS w BD BR BL p q lg S z b b b s r) (re : Re z s r) (hb : Bd S z b) (a : Ac) (hk : a.kd = 2 ∨ a.kd = 3 ∨ a.kd = 4 ∨ a.kd = 5 ∨ a.kd = 6) (hn : -9223372036854775808 ≤ a.nm ∧ a.nm ≤ 9223372036854775807) (hfi : 0 ≤ a.fill ∧ a.fill ≤ 255) (hle : -9223372036854775808 ≤ a.less ∧ a.less ≤ 9223372036854775807)
    {kl : List Bool} (hkb : KB w a.ka a.kn kl) (hkn : a.kn ≤ 140737488355328) (hka : ∀ g o, 0 < a.kn → a.ka = some ⟨g, o, none⟩ → ¬ B3 BD BR BL g ∧ g < w.heap.size) :
    Calls Try.prog 10 #[.pointer (some ⟨p, 0, none⟩), .pointer (some ⟨q, 0, none⟩), .agg a.cells.toArray, .pointer (some ⟨lg, 0, none⟩)] w fun e w' => e = .returned (.bool true) ∧ PT w w' BD BR BL p q lg S z b := by
  rcases hk with e | e | e | e | e
  · exact h.powWrite re hb a e hfi hle
  · exact h.powFlush re hb a e
  · exact h.powFuse re hb a e hn
  · exact h.powOff re hb a e
  · exact h.powCrash re hb a e hkb hkn hka
end Go.Proofs.Ytddnecfnjnipjaa

/-
  A copy, while the disk that it was made of goes on.
-/
namespace Go.Proofs.Ytddnecfnjnipjaa
open Go.RowKit

/-- The old disk p has gone on by j calls; the copy p' is as it was made. -/
structure CP (w0 w : World) (BD : Nat → Prop) (p S z b j p' : Nat) (Bl' : Nat → Prop) (s : St) : Prop where
  ch : Chg BD w0 w
  old : ∃ (Bo : Nat → Prop) (so : St), AB w Bo p S z (b + j) so.x so.A so.F ∧ (-1 ≤ so.x.fuse ∧ so.x.fuse ≤ 9223372036854775807) ∧ ∀ g, Bo g → (BD g ∧ g < w0.heap.size) ∨ (w0.heap.size ≤ g ∧ ¬ Bl' g)
  new : AB w Bl' p' S z b s.x s.A s.F
  nb : ∀ g, Bl' g → w0.heap.size ≤ g

section
variable {w0 w w' : World} {BD Bl' : Nat → Prop} {p S z b j p' : Nat} {s : St}
theorem CP.made (h0 : AB w0 BD p S z b s.x s.A s.F) (hf : -1 ≤ s.x.fuse ∧ s.x.fuse ≤ 9223372036854775807) (ch : Chg (fun i => i = p) w0 w) (d : AB w BD p S z b s.x s.A s.F) (hB : ∀ g, Bl' g → w0.heap.size ≤ g) (dn : AB w Bl' p' S z b s.x s.A s.F) : CP w0 w BD p S z b 0 p' Bl' s :=
  ⟨ch.mono (fun g _ e => by rw [e]; exact h0.bp), ⟨BD, s, d, hf, fun g hg => .inl ⟨hg, h0.low g hg⟩⟩, dn, hB⟩
theorem CP.fresh (h : CP w0 w BD p S z b j p' Bl' s) (ch : Chg (fun _ => False) w w') : CP w0 w' BD p S z b j p' Bl' s := by
  obtain ⟨Bo, so, ab, hf, hB⟩ := h.old
  exact ⟨h.ch.trans ch (fun _ e => e.elim), ⟨Bo, so, ab.frame ch (fun _ _ e => e), hf, hB⟩, h.new.frame ch (fun _ _ e => e), h.nb⟩
theorem CP.step (h : CP w0 w BD p S z b j p' Bl' s) {Bo : Nat → Prop} {so : St} (hB : ∀ g, Bo g → (BD g ∧ g < w0.heap.size) ∨ (w0.heap.size ≤ g ∧ ¬ Bl' g)) (po : PoE w w' Bo p S z (b + j) so) : CP w0 w' BD p S z b (j + 1) p' Bl' s := by
  obtain ⟨B2, hB2, h2⟩ := po.ex
  refine ⟨h.ch.trans po.ch (fun g e => ?_), ⟨B2, so, h2, po.bd, fun g hg => ?_⟩, h.new.frame po.ch (fun g hg e => ?_), h.nb⟩
  · rcases hB g e with e | e
    · exact .inl e.1
    · exact .inr e.1
  · rcases hB2 g hg with e | e
    · exact hB g e
    · exact .inr ⟨Nat.le_trans h.ch.size e.1, fun e2 => by have := h.new.low g e2; have := e.1; omega⟩
  · rcases hB g e with e | e
    · have := h.nb g hg; have := e.2; omega
    · exact e.2 hg
theorem CP.write (h : CP w0 w BD p S z b j p' Bl' s) (hS : S ≤ 65536) (hz : z ≤ 4096) (hz0 : 0 < z) (hb : b + j < 4398046511104) {g cp : Nat} {l : List Int} (hs : Src w (.slice (some ⟨g, 0, none⟩) z cp) l) (hl : l.length = z) (hg : g ≠ p) :
    Calls Try.prog 12 #[.pointer (some ⟨p, 0, none⟩), .int .i64 0, .slice (some ⟨g, 0, none⟩) z cp] w fun e w' => (∃ v, e = .returned v) ∧ CP w0 w' BD p S z b (j + 1) p' Bl' s := by
  obtain ⟨Bo, so, ab, hf, hB⟩ := h.old
  refine (ab.aWrite hf hS hz hz0 hb 0 (by omega) (fun _ => ⟨hs, hl⟩) hg).mono ?_
  rintro e w' ⟨rfl, po⟩
  exact ⟨⟨_, rfl⟩, h.step hB po⟩
theorem CP.rot (h : CP w0 w BD p S z b j p' Bl' s) (hS : S ≤ 65536) (hz : z ≤ 4096) (hb : b + j < 4398046511104) (i at_ mask : Int) :
    Calls Try.prog 13 #[.pointer (some ⟨p, 0, none⟩), .int .i64 i, .int .i64 at_, .int .u8 mask] w fun e w' => (∃ v, e = .returned v) ∧ CP w0 w' BD p S z b (j + 1) p' Bl' s := by
  obtain ⟨Bo, so, ab, hf, hB⟩ := h.old
  refine (ab.aRot hf hS hz hb i at_ mask).mono ?_
  rintro e w' ⟨rfl, po⟩
  exact ⟨⟨_, rfl⟩, h.step hB po⟩
theorem CP.fuse (h : CP w0 w BD p S z b j p' Bl' s) (n : Int) (hn1 : -9223372036854775808 ≤ n) (hn2 : n ≤ 9223372036854775807) :
    Calls Try.prog 14 #[.pointer (some ⟨p, 0, none⟩), .int .i64 n] w fun e w' => (∃ v, e = .returned v) ∧ CP w0 w' BD p S z b (j + 1) p' Bl' s := by
  obtain ⟨Bo, so, ab, hf, hB⟩ := h.old
  refine (ab.eFuse hf n hn1 hn2).mono ?_
  rintro e w' ⟨v, rfl, po⟩
  exact ⟨⟨v, rfl⟩, h.step hB po⟩
theorem CP.flush (h : CP w0 w BD p S z b j p' Bl' s) (hS : S ≤ 65536) (hb : b + j < 4398046511104) :
    Calls Try.prog 15 #[.pointer (some ⟨p, 0, none⟩)] w fun e w' => (∃ v, e = .returned v) ∧ CP w0 w' BD p S z b (j + 1) p' Bl' s := by
  obtain ⟨Bo, so, ab, hf, hB⟩ := h.old
  refine (ab.aFlush hf hS hb).mono ?_
  rintro e w' ⟨rfl, po⟩
  exact ⟨⟨_, rfl⟩, h.step hB po⟩
end
end Go.Proofs.Ytddnecfnjnipjaa
