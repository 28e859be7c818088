import Derived.Test.YtddnecfnjnipjaaDD
import Derived.Test.YtddnecfnjnipjaaFlush
import Derived.Deep.RegionWith
/-
  Flush refused; Off.
-/
namespace Go.Proofs.Ytddnecfnjnipjaa
open Go.RowKit Go.RwLone

theorem burnN_pend (x : Nums) : (burnN x).pend = x.pend := by
  unfold burnN
  split
  · rfl
  · split <;> rfl

set_option maxRecDepth 100000 in
set_option maxHeartbeats 2000000 in
theorem DD.flush_off {w : World} {p m c S z kc km b : Nat} {x : Nums} {L : Nat → List (Nat × Nat)} {V : Nat → Value} {D : DataW Unit} {K : Nat → Option Nat} {E : DataW Unit} (h : DD w p m c S z kc km b x L V D K E) (hf : -1 ≤ x.fuse) (hf2 : x.fuse ≤ 9223372036854775807) (hbu : burnE x = 32) :
    Calls Try.prog 15 #[.pointer (some ⟨p, 0, none⟩)] w fun e w' => e = .returned (.int .i64 32) ∧ Chg (fun i => i = p) w w' ∧ DD w' p m c S z kc km b (burnN x) L V D K E := by
  have hpn := burnN_pend x
  generalize hx1 : burnN x = x1 at hpn
  have r0 := h.row
  have c2 : w.cell? ⟨p, 2, none⟩ = some (.int .i32 0) := Rw.cell r0 2
  have c4 : w.cell? ⟨p, 4, none⟩ = some (.int .u32 0) := Rw.cell r0 4
  have c5 : w.cell? ⟨p, 5, none⟩ = some (.int .u32 0) := Rw.cell r0 5
  have c6 : w.cell? ⟨p, 6, none⟩ = some (.int .i32 0) := Rw.cell r0 6
  have f6 := Rw.fr r0 6
  have f2 := Rw.fr r0 2
  have H : Hid _ := h
  have HB : Hid _ := hbu
  have HP : Hid _ := hpn
  clear h hbu r0 hpn
  go_enter_defers Try.func15, Try.ntmps15
  go_wp2_with fail
  refine (wlock_free Try.rwWLib p 2 _ _ _ c2 c4 c5 c6 f2 f6).mono ?_
  rintro e w' ⟨rfl, rfl⟩
  have R1 : Rw ((w.setCell ⟨p, 2, none⟩ (.int .i32 1)).setCell ⟨p, 6, none⟩ (.int .i32 (-1073741824))) p (heldG S z m c x) 86 := Rw.two H.out.row 2 6 (.int .i32 1) (.int .i32 (-1073741824))
  obtain ⟨w1, hw1⟩ : ∃ w1, w1 = (w.setCell ⟨p, 2, none⟩ (.int .i32 1)).setCell ⟨p, 6, none⟩ (.int .i32 (-1073741824)) := ⟨_, rfl⟩
  rw [← hw1] at R1
  have e1 : (w.setCell ⟨p, 2, none⟩ (.int .i32 1)).setCell ⟨p, 2 + 4, none⟩ (.int .i32 (-1073741824)) = w1 := hw1.symm
  rw [e1]
  have C1 : Hid (Chg (fun i => i = p) w w1) := by rw [hw1]; exact ((Chg.refl (fun i => i = p) w).setCell (.inl rfl) _).setCell (.inl rfl) _
  have BU0 := burn_held R1 hf hf2
  rw [hx1] at BU0
  have BU : Hid _ := BU0
  clear c2 c4 c5 c6 f2 f6 R1 hw1 e1 BU0 hx1
  go_wp2_with fail
  refine Calls.mono BU.out ?_
  rintro e w2 ⟨rfl, r2, ch2⟩
  rw [HB.out]
  have R2 : Hid _ := r2
  have C2 : Hid (Chg (fun i => i = p) w w2) := C1.out.trans ch2 (fun _ e => .inl e)
  clear r2 ch2 BU C1
  go_wp2_with fail
  refine leaves_cons (f := 38) (args := #[.pointer (some ⟨p, 2, none⟩)]) (by simp) (by simp [go_sem]) ?_
  refine (wunlock_deferred Try.rwWLib p 2 _ _ .returning _ (Rw.cell R2.out 2) (Rw.cell R2.out 4) (Rw.cell R2.out 5) (Rw.cell R2.out 6) (Rw.fr R2.out 2) (Rw.fr R2.out 6)).mono ?_
  rintro e u' w'' ⟨rfl, rfl, rfl⟩
  have ch9 : Chg (fun i => i = p) w ((w2.setCell ⟨p, 2 + 4, none⟩ (.int .i32 0)).setCell ⟨p, 2, none⟩ (.int .i32 0)) := (C2.out.setCell (.inl rfl) _).setCell (.inl rfl) _
  exact ⟨_, results_tmp rfl _ _ _, rfl, ch9, H.out.turn ch9 (Rw.two R2.out 6 2 (.int .i32 0) (.int .i32 0)) HP.out (Nat.le_refl _)⟩

theorem DD.off {w : World} {p m c S z kc km b : Nat} {x : Nums} {L : Nat → List (Nat × Nat)} {V : Nat → Value} {D : DataW Unit} {K : Nat → Option Nat} {E : DataW Unit} (h : DD w p m c S z kc km b x L V D K E) :
    Calls Try.prog 28 #[.pointer (some ⟨p, 0, none⟩)] w fun e w' => e = .returned (.bool x.off) ∧ Chg (fun i => i = p) w w' ∧ DD w' p m c S z kc km b x L V D K E := by
  refine (off_row h.row).mono ?_
  rintro e w9 ⟨rfl, hr, ch⟩
  exact ⟨rfl, ch, h.turn ch hr rfl (Nat.le_refl _)⟩

theorem DD.read_off {w : World} {p m c S z kc km b : Nat} {x : Nums} {L : Nat → List (Nat × Nat)} {V : Nat → Value} {D : DataW Unit} {K : Nat → Option Nat} {E : DataW Unit} (h : DD w p m c S z kc km b x L V D K E) (hoff : x.off = true) (s : Nat) (hs : s < S) (hS : S ≤ 65536) :
    Calls Try.prog 44 #[.pointer (some ⟨p, 0, none⟩), .int .i64 s] w fun e w' => e = .returned (.tuple #[.slice none 0 0, .int .i64 32]) ∧ Chg (fun k => k = p) w w' ∧ DD w' p m c S z kc km b x L V D K E := by
  refine (Go.Proofs.Ytddnecfnjnipjaa.read_off h.row hoff s hs hS).mono ?_
  rintro e w9 ⟨rfl, hr, ch⟩
  exact ⟨rfl, ch, h.turn ch hr rfl (Nat.le_refl _)⟩

theorem DD.fuse {w : World} {p m c S z kc km b : Nat} {x : Nums} {L : Nat → List (Nat × Nat)} {V : Nat → Value} {D : DataW Unit} {K : Nat → Option Nat} {E : DataW Unit} (h : DD w p m c S z kc km b x L V D K E) (hoff : x.off = false) (n : Int) (hn : -9223372036854775808 ≤ n) (hn2 : n ≤ 9223372036854775807) :
    Calls Try.prog 14 #[.pointer (some ⟨p, 0, none⟩), .int .i64 n] w fun e w' => e = .returned (.tuple #[]) ∧ Chg (fun k => k = p) w w' ∧ DD w' p m c S z kc km b { x with fuse := max n (-1) } L V D K E := by
  refine (fuse_any h.row n hn hn2).mono ?_
  rintro e w9 ⟨rfl, hr, ch⟩
  rw [if_neg (by rw [hoff]; decide)] at hr
  exact ⟨rfl, ch, h.turn ch hr rfl (Nat.le_refl _)⟩

/-- A new disk. -/
theorem DD.made {w : World} {p m c S z : Nat} (h : DK w p S z m c 0 0) (hmc : m ≠ c) : DD w p m c S z 0 0 0 ⟨0, -1, false, 0, 0, 0, 0⟩ (fun _ => []) (fun _ => .slice none 0 0) (.map []) (fun _ => none) (.map []) :=
  ⟨⟨h.blk⟩, Ca.none h.mc, Du.start h.mm, hmc, fun t y hy => (by cases hy), fun t g hg => (by cases hg), fun t ht => absurd rfl ht, ⟨0, rfl, Nat.le_refl _⟩, fun t => Nat.le_refl _, Nat.le_refl _, fun t y hy => (by cases hy)⟩
end Go.Proofs.Ytddnecfnjnipjaa

/-
  A crash that keeps nothing.
-/
namespace Go.Proofs.Ytddnecfnjnipjaa
open Go.RowKit Go.RwLone

set_option maxRecDepth 100000 in
set_option maxHeartbeats 1000000 in
theorem apply_none {w : World} {p : Nat} (s : Int) (a : Option Addr) (c : Nat) :
    Calls Try.prog 60 #[.pointer (some ⟨p, 0, none⟩), .int .i64 s, .slice a 0 c] w fun e w' => e = .returned (.tuple #[]) ∧ w = w' := by
  go_enter Try.func60, Try.ntmps60
  go_wp2_with fail
  go_end0
  exact ⟨rfl, rfl⟩

set_option maxRecDepth 100000 in
set_option maxHeartbeats 1000000 in
theorem kept_none {w : World} {p : Nat} (n : Nat) (at_ : Int) (_hn : n ≤ 4611686018427387904) :
    Calls Try.prog 61 #[.pointer (some ⟨p, 0, none⟩), .agg #[.slice none 0 0, .int .i64 (-1), .int .i64 at_], .int .i64 n] w fun e w' => e = .returned (.int .i64 0) ∧ Chg (fun _ => False) w w' := by
  have h1 : ((n : Int) == -1) = false := by simp
  have h2 : ¬ ((n : Int) < 0) := by omega
  go_enter Try.func61, Try.ntmps61
  go_wp2_with fail
  go_ret
  exact ⟨rfl, (Chg.refl _ _).alloc _⟩

theorem wcells_get (z : Nat) : ∀ (l : List (Nat × Nat)) (i : Nat) (y : Nat × Nat), l[i]? = some y → (wcells z l)[i * 2]? = some (.int .i64 y.1) ∧ (wcells z l)[i * 2 + 1]? = some (.slice (some ⟨y.2, 0, none⟩) z z)
  | [], i, y, h => by simp at h
  | x :: l, 0, y, h => by
    simp at h
    subst h
    exact ⟨rfl, rfl⟩
  | x :: l, i + 1, y, h => by
    have := wcells_get z l i y (by simpa using h)
    have e : (i + 1) * 2 = i * 2 + 2 := by omega
    rw [e]
    exact this

end Go.Proofs.Ytddnecfnjnipjaa

/-
  A disk between two calls, as the laws see it: how far its fuse has burnt; all its blocks lie above those that came in.
-/
namespace Go.Proofs.Ytddnecfnjnipjaa
open Go.RowKit Go.RwLone

theorem burn_no {x : Nums} (h : x.off = true ∨ x.fuse = 0) : burnE x = 32 ∧ burnN x = { x with off := true } := by
  unfold burnE burnN
  rw [if_pos h, if_pos h]
  exact ⟨rfl, rfl⟩
theorem burn_yes {x : Nums} (h : ¬ (x.off = true ∨ x.fuse = 0)) : burnE x = 0 ∧ (burnN x).off = x.off ∧ (burnN x).fuse = if x.fuse = -1 then -1 else x.fuse - 1 := by
  unfold burnE burnN
  rw [if_neg h, if_neg h]
  refine ⟨rfl, ?_⟩
  split
  · rename_i e
    exact ⟨rfl, e⟩
  · exact ⟨rfl, rfl⟩

section
variable {w w' : World} {N p S z b : Nat} {f : Int} {o : Bool}

end
end Go.Proofs.Ytddnecfnjnipjaa

/-
  The walk of DiskFuses.
-/
namespace Go.Proofs.Ytddnecfnjnipjaa
open Go.RowKit Go.RwLone

theorem src_row {w : World} {g z : Nat} {l : List Int} (h : Rw w g (bs l).toArray 5) (hl : l.length = z) : Src w (.slice (some ⟨g, 0, none⟩) z z) l := by
  subst hl
  refine .inr ⟨⟨g, 0, none⟩, l.length, rfl, fun j u hu => ⟨rfl, ?_⟩⟩
  rw [Nat.zero_add, h.cell, List.getElem?_toArray]
  exact hu

end Go.Proofs.Ytddnecfnjnipjaa
