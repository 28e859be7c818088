import Derived.Test.YtddnecfnjnipjaaLxD
import Derived.Test.YtddnecfnjnipjaaDs
/-
  The disk, the reference's disk and the ledger side by side.
-/
namespace Go.Proofs.Ytddnecfnjnipjaa
open Go.RowKit

theorem Lg.frame {w w' : World} {lg : Nat} {Bl : Nat → Prop} {k : Nat} {a p c d : Value} {t na np nc nd : Nat} {X Y C D : List Value} (h : Lg w lg Bl k a p c d t na np nc nd X Y C D) {T : Nat → Prop} (ch : Chg T w w') (hT : ∀ g, Bl g → ¬ T g) : Lg w' lg Bl k a p c d t na np nc nd X Y C D :=
  ⟨⟨ch.heap_some h.row.eq (hT lg h.bl)⟩, h.ra.chg ch (fun g hg => hT g (h.bo g (.inl hg))), h.rp.chg ch (fun g hg => hT g (h.bo g (.inr (.inl hg)))), h.rc.chg ch (fun g hg => hT g (h.bo g (.inr (.inr (.inl hg))))), h.rd.chg ch (fun g hg => hT g (h.bo g (.inr (.inr (.inr hg))))), h.ac, h.cd, h.bl, h.bo, fun g hg => Nat.lt_of_lt_of_le (h.low g hg) ch.size, h.ln, h.ev, h.hold.frame ch (fun g _ hg _ => hT g hg) (fun g _ hg _ => hT g hg) (fun _ h => h)⟩
theorem Lg.mono {w : World} {lg : Nat} {Bl : Nat → Prop} {k k' : Nat} {a p c d : Value} {t na np nc nd : Nat} {X Y C D : List Value} (h : Lg w lg Bl k a p c d t na np nc nd X Y C D) (hk : k ≤ k') : Lg w lg Bl k' a p c d t na np nc nd X Y C D :=
  ⟨h.row, h.ra, h.rp, h.rc, h.rd, h.ac, h.cd, h.bl, h.bo, h.low, by have := h.ln; omega, h.ev, h.hold⟩
/-- The ledger, whatever it holds. -/
def LG (w : World) (lg : Nat) (Bl : Nat → Prop) (k : Nat) : Prop := ∃ a p c d t na np nc nd X Y C D, Lg w lg Bl k a p c d t na np nc nd X Y C D
theorem LG.frame {w w' : World} {lg : Nat} {Bl : Nat → Prop} {k : Nat} (h : LG w lg Bl k) {T : Nat → Prop} (ch : Chg T w w') (hT : ∀ g, Bl g → ¬ T g) : LG w' lg Bl k := by
  obtain ⟨a, p, c, d, t, na, np, nc, nd, X, Y, C, D, h⟩ := h
  exact ⟨a, p, c, d, t, na, np, nc, nd, X, Y, C, D, h.frame ch hT⟩
theorem LG.mono {w : World} {lg : Nat} {Bl : Nat → Prop} {k k' : Nat} (h : LG w lg Bl k) (hk : k ≤ k') : LG w lg Bl k' := by
  obtain ⟨a, p, c, d, t, na, np, nc, nd, X, Y, C, D, h⟩ := h
  exact ⟨a, p, c, d, t, na, np, nc, nd, X, Y, C, D, h.mono hk⟩
theorem LG.low {w : World} {lg : Nat} {Bl : Nat → Prop} {k : Nat} (h : LG w lg Bl k) : ∀ g, Bl g → g < w.heap.size := by
  obtain ⟨a, p, c, d, t, na, np, nc, nd, X, Y, C, D, h⟩ := h
  exact h.low
theorem LG.keep {w : World} {lg : Nat} {Bl : Nat → Prop} {k : Nat} (h : LG w lg Bl k) (hk : k < 2199023255551) {v : Value} {l : List Int} (hv : Own w v l) (hvB : ∀ g, v.ownBlock = some g → ¬ Bl g) (hl : l.length ≤ 16777217) :
    Calls Try.prog 25 #[.pointer (some ⟨lg, 0, none⟩), v] w fun e w' => e = .returned (.tuple #[]) ∧ Chg (fun g => Bl g ∨ some g = v.ownBlock) w w' ∧ LG w' lg (grB (Bv Bl v) w w') (k + 1) := by
  obtain ⟨a, p, c, d, t, na, np, nc, nd, X, Y, C, D, h⟩ := h
  refine (h.keep hk hv hvB hl).mono ?_
  rintro e w9 ⟨rfl, ch, a', c', d', na', nc', nd', X', C', D', h9⟩
  exact ⟨rfl, ch, _, _, _, _, _, _, _, _, _, _, _, _, _, h9⟩
theorem LG.page {w : World} {lg : Nat} {Bl : Nat → Prop} {k : Nat} (h : LG w lg Bl k) (hk : k < 2199023255551) {v : Value} {n : Nat} (hv : Sl w 3 v n) (hvB : ∀ g, v.ownBlock = some g → ¬ Bl g) (hn : n ≤ 4398046511104) :
    Calls Try.prog 49 #[.pointer (some ⟨lg, 0, none⟩), v] w fun e w' => e = .returned (.tuple #[]) ∧ Chg (fun g => Bl g ∨ some g = v.ownBlock) w w' ∧ LG w' lg (grB (Bv Bl v) w w') (k + 1) := by
  obtain ⟨a, p, c, d, t, na, np, nc, nd, X, Y, C, D, h⟩ := h
  refine (h.page hk hv hvB hn).mono ?_
  rintro e w9 ⟨rfl, ch, p', np', Y', h9⟩
  exact ⟨rfl, ch, _, _, _, _, _, _, _, _, _, _, _, _, _, h9⟩
theorem grB.led {BL P : Nat → Prop} {v : Value} {w w3 w4 : World} (hP : ∀ g, BL g → P g) (h0 : w.heap.size ≤ w3.heap.size) (hv : ∀ g, v.ownBlock = some g → w.heap.size ≤ g) (low : ∀ g, grB (Bv BL v) w3 w4 g → g < w4.heap.size) {g : Nat} (hg : grB (Bv BL v) w3 w4 g) : grB P w w4 g := by
  rcases hg with (e | e) | e
  · exact .inl (hP g e)
  · exact .inr ⟨hv g e, low g (.inl (.inr e))⟩
  · exact .inr ⟨Nat.le_trans h0 e.1, e.2⟩

/-- A disk, its reference and the ledger: they share nothing. -/
structure TS (w : World) (BD BR BL : Nat → Prop) (p q lg S z b c k : Nat) (s : St) (r : Rs) : Prop where
  d : AB w BD p S z b s.x s.A s.F
  hf : -1 ≤ s.x.fuse ∧ s.x.fuse ≤ 9223372036854775807
  r : RB w BR q S z c r
  l : LG w lg BL k
  dr : ∀ g, BD g → ¬ BR g
  dl : ∀ g, BD g → ¬ BL g
  rl : ∀ g, BR g → ¬ BL g
  fs : ∀ t, S ≤ t → s.F t = none

section
variable {w w' : World} {BD BR BL : Nat → Prop} {p q lg S z b c k : Nat} {s s' : St} {r r' : Rs}

/-- Blocks of the three. -/
def B3 (BD BR BL : Nat → Prop) : Nat → Prop := fun g => BD g ∨ BR g ∨ BL g
theorem TS.low (h : TS w BD BR BL p q lg S z b c k s r) : ∀ g, B3 BD BR BL g → g < w.heap.size := fun g hg => by
  rcases hg with e | e | e
  · exact h.d.low g e
  · exact h.r.low g e
  · exact h.l.low g e
theorem TS.frame (h : TS w BD BR BL p q lg S z b c k s r) {T : Nat → Prop} (ch : Chg T w w') (hT : ∀ g, B3 BD BR BL g → ¬ T g) : TS w' BD BR BL p q lg S z b c k s r :=
  ⟨h.d.frame ch (fun g hg => hT g (.inl hg)), h.hf, h.r.frame ch (fun g hg => hT g (.inr (.inl hg))), h.l.frame ch (fun g hg => hT g (.inr (.inr hg))), h.dr, h.dl, h.rl, h.fs⟩
theorem TS.fresh (h : TS w BD BR BL p q lg S z b c k s r) (ch : Chg (fun _ => False) w w') : TS w' BD BR BL p q lg S z b c k s r := h.frame ch (fun _ _ h => h)
theorem TS.mono (h : TS w BD BR BL p q lg S z b c k s r) {b' c' k' : Nat} (hb : b ≤ b') (hc : c ≤ c') (hk : k ≤ k') : TS w BD BR BL p q lg S z b' c' k' s r :=
  ⟨h.d.mono hb, h.hf, h.r.mono hc, h.l.mono hk, h.dr, h.dl, h.rl, h.fs⟩
/-- Behind a call on the disk. -/
theorem TS.disk (h : TS w BD BR BL p q lg S z b c k s r) (po : PoE w w' BD p S z b s') (hfs : ∀ t, S ≤ t → s'.F t = none) : ∃ BD', (∀ g, BD' g → grB BD w w' g) ∧ TS w' BD' BR BL p q lg S z (b + 1) c k s' r := by
  obtain ⟨BD', hB, h'⟩ := po.ex
  refine ⟨BD', hB, h', po.bd, h.r.frame po.ch (fun g hg e => h.dr g e hg), h.l.frame po.ch (fun g hg e => h.dl g e hg), fun g hg e => ?_, fun g hg e => ?_, h.rl, hfs⟩
  · rcases hB g hg with e2 | e2
    · exact h.dr g e2 e
    · have := h.r.low g e; omega
  · rcases hB g hg with e2 | e2
    · exact h.dl g e2 e
    · have := h.l.low g e; omega
/-- Behind one that has turned its row alone. -/
theorem TS.row (h : TS w BD BR BL p q lg S z b c k s r) (ch : Chg (fun i => i = p) w w') (h' : AB w' BD p S z b s.x s.A s.F) : TS w' BD BR BL p q lg S z b c k s r :=
  ⟨h', h.hf, h.r.frame ch (fun g hg e => h.dr g (by rw [e]; exact h.d.bp) hg), h.l.frame ch (fun g hg e => h.dl g (by rw [e]; exact h.d.bp) hg), h.dr, h.dl, h.rl, h.fs⟩
/-- Behind a call on the reference's disk. -/
theorem TS.ref (h : TS w BD BR BL p q lg S z b c k s r) (po : PoR w w' BR q S z c r') : ∃ BR', (∀ g, BR' g → grB BR w w' g) ∧ TS w' BD BR' BL p q lg S z b (c + 1) k s r' := by
  obtain ⟨BR', hB, h'⟩ := po.ex
  refine ⟨BR', hB, h.d.frame po.ch (fun g hg => h.dr g hg), h.hf, h', h.l.frame po.ch (fun g hg e => h.rl g e hg), fun g hg e => ?_, h.dl, fun g hg e => ?_, h.fs⟩
  · rcases hB g e with e2 | e2
    · exact h.dr g hg e2
    · have := h.d.low g hg; omega
  · rcases hB g hg with e2 | e2
    · exact h.rl g e2 e
    · have := h.l.low g e; omega
/-- Behind a call on the ledger. -/
theorem TS.led (h : TS w BD BR BL p q lg S z b c k s r) {v : Value} (hv : ∀ g, v.ownBlock = some g → ¬ B3 BD BR BL g) (ch : Chg (fun g => BL g ∨ some g = v.ownBlock) w w') (h' : LG w' lg (grB (Bv BL v) w w') (k + 1)) : TS w' BD BR (grB (Bv BL v) w w') p q lg S z b c (k + 1) s r := by
  refine ⟨h.d.frame ch (fun g hg e => ?_), h.hf, h.r.frame ch (fun g hg e => ?_), h', h.dr, fun g hg e => ?_, fun g hg e => ?_, h.fs⟩
  · rcases e with e | e
    · exact h.dl g hg e
    · exact hv g e.symm (.inl hg)
  · rcases e with e | e
    · exact h.rl g hg e
    · exact hv g e.symm (.inr (.inl hg))
  · rcases e with (e | e) | e
    · exact h.dl g hg e
    · exact hv g e (.inl hg)
    · have := h.d.low g hg; omega
  · rcases e with (e | e) | e
    · exact h.rl g hg e
    · exact hv g e (.inr (.inl hg))
    · have := h.r.low g hg; omega

theorem fs_flush (h : TS w BD BR BL p q lg S z b c k s r) : ∀ t, S ≤ t → (flushF s).F t = none := fun t ht => by
  unfold flushF
  split
  · exact h.fs t ht
  · show lastA (s.A t) (s.F t) = none
    rw [h.d.low' t ht, h.fs t ht]
    rfl
theorem fs_crash (h : TS w BD BR BL p q lg S z b c k s r) (kl : List Bool) (torn at_ : Int) : ∀ t, S ≤ t → (crashF z kl torn at_ s).F t = none := fun t ht => by
  show foldA z (keptN kl torn at_ z) (s.A t) (s.F t) = none
  rw [h.d.low' t ht, h.fs t ht]
  rfl
theorem fs_rot (h : TS w BD BR BL p q lg S z b c k s r) (i at_ mask : Int) : ∀ t, S ≤ t → (rotF S z i at_ mask s).F t = none := fun t ht => by
  unfold rotF
  split
  · next hi =>
    show updT s.F i.toNat _ t = none
    rw [updT_other _ _ (by omega)]
    exact h.fs t ht
  · exact h.fs t ht
theorem fs_read (h : TS w BD BR BL p q lg S z b c k s r) (i : Int) : ∀ t, S ≤ t → (readF S i s).F t = none := fun t ht => by
  unfold readF
  split <;> exact h.fs t ht
theorem fs_write (h : TS w BD BR BL p q lg S z b c k s r) (i : Int) (n : Nat) (l : List Int) : ∀ t, S ≤ t → (writeF S z i n l s).F t = none := fun t ht => by
  unfold writeF
  split
  · split <;> exact h.fs t ht
  · exact h.fs t ht
end

/-- What an act leaves. -/
structure PT (w w' : World) (BD BR BL : Nat → Prop) (p q lg S z b : Nat) : Prop where
  ch : Chg (B3 BD BR BL) w w'
  ex : ∃ BD' BR' BL' s r, (∀ g, BD' g → grB (B3 BD BR BL) w w' g) ∧ (∀ g, BR' g → grB (B3 BD BR BL) w w' g) ∧ (∀ g, BL' g → grB (B3 BD BR BL) w w' g) ∧ TS w' BD' BR' BL' p q lg S z (b + 1) (b + 1) (b + 1) s r ∧ Re z s r
end Go.Proofs.Ytddnecfnjnipjaa

/-
  asked: Read.
-/
namespace Go.Proofs.Ytddnecfnjnipjaa
open Go.RowKit

theorem grB.wide {B B' : Nat → Prop} {w0 w w' w9 : World} (h : ∀ g, B g → B' g) (h0 : w0.heap.size ≤ w.heap.size) (h9 : w'.heap.size ≤ w9.heap.size) {g : Nat} (hg : grB B w w' g) : grB B' w0 w9 g := by
  rcases hg with e | e
  · exact .inl (h g e)
  · exact .inr ⟨by omega, by omega⟩
theorem own_row {w : World} {g n : Nat} {l : List Int} (h : Rw w g (bs l).toArray 5) (hn : n = l.length) (hl : l.length ≤ 16777217) : Own w (.slice (some ⟨g, 0, none⟩) n n) l := by
  subst hn
  exact ⟨by simp [bs], .inr ⟨g, _, _, rfl, Nat.zero_le _, h.eq, Nat.le_refl _, by unfold maxLen; omega, by simp [bs], by rw [Nat.mul_one]; exact List.take_of_length_le (by simp [bs])⟩⟩

def rdE (S : Nat) (i : Int) (s : St) : Int := if 0 ≤ i ∧ i < S then (if s.x.off = true then 32 else 0) else 31
def rdL (S z : Nat) (i : Int) (s : St) : List Int := if (0 ≤ i ∧ i < S) ∧ s.x.off = false then (lastA (s.A i.toNat) (s.F i.toNat)).getD (zs z) else []
theorem lastA_len {z : Nat} {A : List (Nat × List Int)} {F : Option (List Int)} (hA : ∀ y ∈ A, y.2.length = z) (hF : (F.getD (zs z)).length = z) : ((lastA A F).getD (zs z)).length = z := by
  rcases List.eq_nil_or_concat A with rfl | ⟨A', y, rfl⟩
  · exact hF
  · have : lastA (A' ++ [y]) F = some y.2 := by simp [lastA]
    rw [List.concat_eq_append, this]
    exact hA y (by simp)
theorem ReadA.to {w w' : World} {S z : Nat} {i : Int} {s : St} {v : Value} (h : ReadA w w' S z i s v) (hz : z ≤ 4096) (hA : ∀ t y, y ∈ s.A t → y.2.length = z) (hF : ∀ t, ((s.F t).getD (zs z)).length = z) :
    ∃ sl, v = .tuple #[sl, .int .i64 (rdE S i s)] ∧ Own w' sl (rdL S z i s) ∧ (rdL S z i s).length ≤ 4096 ∧ ∀ g, sl.ownBlock = some g → w.heap.size ≤ g := by
  unfold ReadA at h
  unfold rdE rdL
  by_cases hi : 0 ≤ i ∧ i < S
  · rw [if_pos hi] at h
    rw [if_pos hi]
    cases ho : s.x.off with
    | true =>
      rw [ho, if_pos rfl] at h
      exact ⟨_, by rw [h, if_pos rfl], by rw [if_neg (fun e => by cases e.2)]; exact Own.nil _, by rw [if_neg (fun e => by cases e.2)]; simp, fun g e => by simp [Value.ownBlock] at e⟩
    | false =>
      rw [ho, if_neg (by decide)] at h
      obtain ⟨g, rfl, hr, hg⟩ := h
      have hl := lastA_len (hA i.toNat) (hF i.toNat)
      rw [if_neg (by decide), if_pos ⟨hi, rfl⟩]
      exact ⟨_, rfl, own_row hr hl.symm (by omega), by omega, fun g' e => by simp [Value.ownBlock] at e; omega⟩
  · rw [if_neg hi] at h
    rw [if_neg hi, if_neg (fun e => hi e.1)]
    exact ⟨_, h, Own.nil _, by simp, fun g e => by simp [Value.ownBlock] at e⟩

theorem drewN_chg2 (w : World) (n : Nat) : Chg (fun _ => False) w (w.drewN n) := ⟨rfl, rfl, rfl, Nat.le_refl _, fun _ _ _ => rfl⟩

/-- The bounds that every disk keeps. -/
structure Bd (S z b : Nat) : Prop where
  hS : S ≤ 65536
  hz : z ≤ 4096
  z0 : 0 < z
  hSz : S * z ≤ 16777216
  hb : b < 2199023255551

section
variable {w w' : World} {Bl : Nat → Prop} {p S z b : Nat} {s : St}
/-- Read, once more: no block of the disk's is made. -/
theorem AB.aRead2 (h : AB w Bl p S z b s.x s.A s.F) (hS : S ≤ 65536) (hz : z ≤ 4096) (hb : b < 4398046511104) (i : Int) :
    Calls Try.prog 44 #[.pointer (some ⟨p, 0, none⟩), .int .i64 i] w fun e w' => ∃ v, e = .returned v ∧ ReadA w w' S z i s v ∧ Chg (fun g => g = p) w w' ∧ AB w' Bl p S z b (readF S i s).x (readF S i s).A (readF S i s).F := by
  obtain ⟨m, c, kc, km, L, V, D, K, E, C, hd, q⟩ := h.ex
  unfold readF ReadA
  by_cases hi : 0 ≤ i ∧ i < S
  · obtain ⟨j, rfl⟩ : ∃ j : Nat, i = j := ⟨i.toNat, by omega⟩
    cases ho : s.x.off with
    | false =>
      rw [if_pos ⟨hi, rfl⟩]
      refine (h.read ho j (by omega) hS hz (by omega)).mono ?_
      rintro e w9 ⟨g, rfl, hr, hg, ch, h9⟩
      exact ⟨_, rfl, by rw [if_pos hi, if_neg (by decide)]; exact ⟨g, rfl, hr, hg⟩, ch, h9⟩
    | true =>
      rw [if_neg (fun e => by cases e.2)]
      refine (read_off hd.dd.row ho j (by omega) hS).mono ?_
      rintro e w9 ⟨rfl, hr, ch⟩
      exact ⟨_, rfl, by rw [if_pos hi, if_pos rfl], ch, ⟨⟨m, c, kc, km, L, V, D, K, E, C, hd.turn ch hr rfl (Nat.le_refl b), q⟩, h.bp, fun g hg => Nat.lt_of_lt_of_le (h.low g hg) ch.size, h.nb⟩⟩
  · rw [if_neg (fun e => hi e.1)]
    refine (read_sector hd.dd.row i hi).mono ?_
    rintro e w9 ⟨rfl, h9⟩
    subst h9
    exact ⟨_, rfl, by rw [if_neg hi], Chg.refl _ _, h⟩
theorem readF_fuse (S : Nat) (i : Int) (s : St) : (readF S i s).x.fuse = s.x.fuse := by
  unfold readF
  split <;> rfl
end
/-- A call on the disk that turns its row alone. -/
theorem TS.row2 {w w' : World} {BD BR BL : Nat → Prop} {p q lg S z b c k : Nat} {s s' : St} {r : Rs} (h : TS w BD BR BL p q lg S z b c k s r) (ch : Chg (fun i => i = p) w w') (h' : AB w' BD p S z b s'.x s'.A s'.F) (hf : -1 ≤ s'.x.fuse ∧ s'.x.fuse ≤ 9223372036854775807) (fs : ∀ t, S ≤ t → s'.F t = none) : TS w' BD BR BL p q lg S z b c k s' r :=
  ⟨h', hf, h.r.frame ch (fun g hg e => h.dr g (by rw [e]; exact h.d.bp) hg), h.l.frame ch (fun g hg e => h.dl g (by rw [e]; exact h.d.bp) hg), h.dr, h.dl, h.rl, fs⟩

set_option maxRecDepth 100000 in
set_option maxHeartbeats 4000000 in
theorem TS.askedRead {w : World} {BD BR BL : Nat → Prop} {p q lg S z b : Nat} {s : St} {r : Rs} (h : TS w BD BR BL p q lg S z b b b s r) (re : Re z s r) (hb : Bd S z b) (a : Ac) (ha : a.kd = 1) :
    Calls Try.prog 16 #[.pointer (some ⟨p, 0, none⟩), .pointer (some ⟨q, 0, none⟩), .agg a.cells.toArray, .pointer (some ⟨lg, 0, none⟩)] w fun e w' => e = .returned (.bool true) ∧ PT w w' BD BR BL p q lg S z b := by
  obtain ⟨W, hW⟩ : ∃ W, W = w.alloc (.cells a.cells.toArray 44) := ⟨_, rfl⟩
  have c0 : Chg (fun _ => False) w W := by rw [hW]; exact (Chg.refl _ _).alloc _
  have r0 : Rw W w.heap.size a.cells.toArray 44 := by rw [hW]; exact ⟨heap_alloc_new _ _⟩
  have h0 := h.fresh c0
  have hlow := h.low
  have nB : ¬ B3 BD BR BL w.heap.size := fun e => by have := hlow _ e; omega
  have k1 : W.cell? ⟨w.heap.size, 1, none⟩ = some (.int .i64 1) := by rw [← ha]; exact r0.cell 1
  have k2 : W.cell? ⟨w.heap.size, 2, none⟩ = some (.int .i64 a.nm) := r0.cell 2
  have H0 : Hid _ := h0
  have HB : Hid _ := hb
  have RE : Hid _ := re
  have C0 : Hid _ := c0
  have R0 : Hid _ := r0
  have NB : Hid _ := nB
  have HLOW : Hid _ := hlow
  clear h re hb c0 r0 h0 hlow nB
  go_enter Try.func16, Try.ntmps16
  go_upto_region 1 with fail
  rw [← hW]
  clear hW
  go_wp2_with fail
  refine Calls.mono (AB.aRead2 H0.out.d HB.out.hS HB.out.hz (by have := HB.out.hb; omega) a.nm) ?_
  rintro e w1 ⟨v1, rfl, ra, ch, d1⟩
  obtain ⟨sl1, rfl, o1, l1, g1⟩ := ra.to HB.out.hz H0.out.d.lens.1 H0.out.d.lens.2
  have h1 := H0.out.row2 ch d1 (by rw [readF_fuse]; exact H0.out.hf) (fs_read H0.out a.nm)
  have bp := H0.out.d.bp
  have r1 : Rw w1 w.heap.size a.cells.toArray 44 := ⟨ch.heap_some R0.out.eq (fun e => NB.out (.inl (by rw [e]; exact bp)))⟩
  have k2 : w1.cell? ⟨w.heap.size, 2, none⟩ = some (.int .i64 a.nm) := r1.cell 2
  have C1 : Hid (Chg BD W w1) := ch.mono (fun g _ e => by rw [e]; exact bp)
  have O1 : Hid _ := o1
  have L1 : Hid _ := l1
  have G1 : Hid _ := g1
  have H1 : Hid _ := h1
  clear ra ch o1 l1 g1 h1 r1 d1 bp
  go_wp2_with fail
  refine Calls.mono (H1.out.r.read RE.out HB.out.hb HB.out.hz a.nm) ?_
  rintro e w2 ⟨v2, rfl, ra, r', po, re'⟩
  obtain ⟨sl2, rfl, o2, l2, g2⟩ := ra.to HB.out.hz H0.out.d.lens.1 H0.out.d.lens.2
  obtain ⟨BR1, hB2, h2⟩ := H1.out.ref po
  have nb1 : ∀ g, sl1.ownBlock = some g → ¬ B3 BD BR BL g := fun g hg e => by
    have := G1.out g hg
    have := C0.out.size
    have := HLOW.out g e
    omega
  have o12 : Own w2 sl1 (rdL S z a.nm s) := Own.kept O1.out po.ch (fun g hg e => nb1 g hg (.inr (.inl e)))
  have nb2 : ∀ g, sl1.ownBlock = some g → ¬ B3 BD BR1 BL g := fun g hg e => by
    rcases e with e | e | e
    · exact nb1 g hg (.inl e)
    · rcases hB2 g e with e2 | e2
      · exact nb1 g hg (.inr (.inl e2))
      · have := Own.lt O1.out hg; omega
    · exact nb1 g hg (.inr (.inr e))
  have C2 : Hid _ := po.ch
  have O12 : Hid _ := o12
  have O2 : Hid _ := o2
  have H2 : Hid _ := h2
  have HB2 : Hid _ := hB2
  have NB2 : Hid _ := nb2
  have RE2 : Hid _ := re'
  have kd : w2.cell? ⟨w.heap.size, 2, none⟩ = some (.int .i64 a.nm) ∨ True := .inr trivial
  clear ra po o12 o2 h2 hB2 nb1 nb2 re' l2 g2 kd k1 k2
  go_wp2_with fail
  refine Calls.mono (same_src (Own.src O12.out) (Own.src O2.out) (by have := L1.out; omega)) ?_
  rintro e w9 ⟨rfl, j, rfl⟩
  have H3 : Hid _ := H2.out.fresh (drewN_chg2 w2 j)
  go_wp2_with fail
  refine Calls.mono (H3.out.l.keep HB.out.hb (v := sl1) (l := rdL S z a.nm s) O12.out (fun g hg e => NB2.out g hg (.inr (.inr e))) (by have := L1.out; omega)) ?_
  rintro e w4 ⟨rfl, ch, lg4⟩
  have h4 := H3.out.led NB2.out ch lg4
  have FIN : Hid (PT w w4 BD BR BL p q lg S z b) := by
    have s0 := C0.out.size
    have s1 := C1.out.size
    have s2 := C2.out.size
    have s4 : w2.heap.size ≤ w4.heap.size := ch.size
    refine ⟨?_, BD, BR1, _, _, _, fun g hg => .inl (.inl hg), fun g hg => grB.wide (fun _ h => .inr (.inl h)) (by omega) (by omega) (HB2.out g hg), fun g hg => grB.led (fun _ h => .inr (.inr h)) (by show w.heap.size ≤ w2.heap.size; omega) (fun g e => by have := G1.out g e; omega) lg4.low hg, h4.mono (Nat.le_succ _) (Nat.le_refl _) (Nat.le_refl _), RE2.out⟩
    refine (((C0.out.mono (fun _ _ h => h.elim)).trans C1.out (fun g e => .inl (.inl e))).trans C2.out (fun g e => .inl (.inr (.inl e)))).trans (Chg.trans ((drewN_chg2 w2 j).mono (fun _ _ h => h.elim)) ch (fun g e => .inl e)) (fun g e => ?_)
    rcases e with e | e
    · exact .inl (.inr (.inr e))
    · exact .inr (by have := G1.out g e.symm; omega)
  clear ch lg4 h4
  go_wp2_with fail
  go_ret
  exact ⟨rfl, FIN.out⟩
end Go.Proofs.Ytddnecfnjnipjaa
