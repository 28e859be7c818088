/-
  Towers as bytes.
-/
import Derived.Test.YtkchmoapcmageaaTwB
namespace Go.Proofs.Ytkchmoapcmageaa
open Go.RowKit

theorem KdIn.kept {w w' : World} {Av : Nat → Prop} {k : Kd} (h : KdIn w Av k) {S : Nat → Prop} (c : Chg S w w') (hS : ∀ g, Av g → ¬ S g) : KdIn w' Av k :=
  ⟨h.src.keptE c (fun g hg => (h.av g hg).imp (hS g) id), h.av, h.lv, h.ct, h.ad, h.lb⟩
theorem TwIn.kept {w w' : World} {Av : Nat → Prop} {T : Tw} (h : TwIn w Av T) {S : Nat → Prop} (c : Chg S w w') (hS : ∀ g, Av g → ¬ S g) : TwIn w' Av T :=
  ⟨h.src.keptE c (fun g hg => (h.av g hg).imp (hS g) id), h.av, h.vl, h.sn, h.kl, fun i hi => by
    obtain ⟨g, o, e, ha, hr⟩ := h.row i hi
    exact ⟨g, o, e, ha, rangeAt_kept hr c (hS g ha)⟩, fun i hi => (h.kid i hi).kept c hS⟩
theorem TwIn.mono {w : World} {Av Av' : Nat → Prop} {T : Tw} (h : TwIn w Av T) (hA : ∀ g, Av g → Av' g) : TwIn w Av' T :=
  ⟨h.src, fun g hg => (h.av g hg).imp (hA g) id, h.vl, h.sn, h.kl, fun i hi => by
    obtain ⟨g, o, e, ha, hr⟩ := h.row i hi
    exact ⟨g, o, e, hA g ha, hr⟩, fun i hi => by
    have k := h.kid i hi
    exact ⟨k.src, fun g hg => (k.av g hg).imp (hA g) id, k.lv, k.ct, k.ad, k.lb⟩⟩

set_option maxRecDepth 100000 in
set_option maxHeartbeats 1000000 in
theorem bytesTower_any {w : World} {T : Tw} (hT : TwIn w (fun g => g < w.heap.size) T) (hl : T.bytes.length ≤ 70368744177664) :
    Calls Try.prog 54 #[.iface 155 (.agg T.cells.toArray)] w fun e w' => ∃ u, e = .returned u ∧ Made w w' u T.bytes := by
  have c0 : Chg (fun _ => False) w (w.alloc (.cells #[.slice none 0 0] 189)) := (Chg.refl _ _).alloc _
  have HW : Hid (WB (w.alloc (.cells #[.slice none 0 0] 189)) (w.alloc (.cells #[.slice none 0 0] 189)) (fun g => g < w.heap.size) w.heap.size 189 []) :=
    ⟨⟨_, _, WS.new w 189, fun g hg => by simp [Value.ownBlock] at hg⟩, fun e => by omega, Chg.refl _ _, fun g e => by simp; omega⟩
  have HT : Hid (TwIn (w.alloc (.cells #[.slice none 0 0] 189)) (fun g => g < w.heap.size) T) := hT.kept c0 (fun _ _ e => e)
  have C0 : Hid _ := c0
  clear hT c0
  go_enter Try.func54, Try.ntmps54
  go_wp2_with fail
  refine Calls.mono (wTower_any HW.out HT.out (by simp; omega)) ?_
  rintro e w1 ⟨rfl, p1⟩
  have P1 : Hid _ := p1
  obtain ⟨cs, v1, s1, _⟩ := p1.ex
  rw [List.nil_append] at s1
  have S1 : Hid _ := s1
  clear s1 p1
  go_wp2_with fail
  refine Calls.mono (wBytes_any S1.out (by omega)) ?_
  rintro e w2 ⟨u, rfl, m⟩
  have b1 : Below w.heap.size w w1 := by
    have h1 : Chg (fun g => ¬ g < w.heap.size) w w1 := (C0.out.mono (fun _ _ e => e.elim)).trans P1.out.ch (fun _ e => .inl e)
    exact h1.below (Nat.le_refl _) (fun k e => by omega)
  have M : Hid (Made w w2 u T.bytes) := ⟨m.1, b1.trans (m.2.1.mono b1.size), fun k hk => Nat.le_trans b1.size (m.2.2 k hk)⟩
  clear m b1
  go_wp2_with fail
  go_ret
  exact ⟨u, rfl, M.out⟩

theorem Try.size69 : (Try.prog.info? 69).map (·.size) = some 36 := by kernel_rfl
theorem Try.towSz (T : Tw) (h : T.vl.length = 33) : (Try.prog.info? 69).map (·.size) = some T.cells.length := by
  rw [Try.size69]
  simp [Tw.cells, bs, h]
set_option maxRecDepth 100000 in
set_option maxHeartbeats 1000000 in
theorem cTower_any {w : World} {T : Tw} (hT : TwIn w (fun g => g < w.heap.size) T) (hl : T.bytes.length ≤ 70368744177664) :
    Calls Try.prog 24 #[.agg T.cells.toArray] w fun e w' => ∃ u, e = .returned u ∧ Made w w' u T.bytes := by
  have B0 : Hid _ := Blk.made w T.cells 69
  have HT : Hid (TwIn (w.alloc (.cells T.cells.toArray 69)) (fun g => g < (w.alloc (.cells T.cells.toArray 69)).heap.size) T) := (hT.kept (((Chg.refl (fun _ => False) w).alloc _)) (fun _ _ e => e)).mono (fun g e => by simp; omega)
  have HV := hT.vl
  clear hT
  go_enter Try.func24, Try.ntmps24
  go_wp2_with (refine wpList_load_part rfl 69 (.tmp 1) rfl w.heap.size 0 T.cells rfl B0.out (by simp) Try.underlying69 rfl (Try.towSz T HV) ?_)
  refine Calls.mono (bytesTower_any HT.out hl) ?_
  rintro e w2 ⟨u, rfl, m⟩
  have M : Hid _ := m
  clear m
  go_wp2_with fail
  go_ret
  refine ⟨u, rfl, M.out.1, ((Below.refl _ _).alloc (Nat.le_refl _) _).trans (M.out.2.1.mono (by simp)), fun k hk => ?_⟩
  have := M.out.2.2 k hk
  simp at this
  omega
end Go.Proofs.Ytkchmoapcmageaa
