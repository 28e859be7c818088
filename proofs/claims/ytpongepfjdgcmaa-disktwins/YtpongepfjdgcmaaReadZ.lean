/-
  Read over both maps, where the sector has no bytes yet: zeros.
-/
import Derived.Test.YtpongepfjdgcmaaReadB
namespace Go.Proofs.Ytpongepfjdgcmaa
open Go.RowKit Go.RwLone

set_option maxRecDepth 100000 in
set_option maxHeartbeats 2000000 in
theorem read_zero {w : World} {p m c km kc z S : Nat} {x : Nums} {K : Nat → Option Nat} {D : DataW Unit} {L : Nat → List (Nat × Nat)} {V : Nat → Value} {E : DataW Unit} (h : Rw w p (dkG S z m c x) 91) (hoff : x.off = false) (hdu : Du w m km z K D) (hca : Ca w c kc z L V E)
    (hmp : m ≠ p) (hcp : c ≠ p) (hVp : ∀ t, (V t).ownBlock ≠ some p) (s : Nat) (hsS : s < S) (hS : S ≤ 65536) (hLs : (L s).length ≤ 4398046511104) (hlat : latV z (L s) (K s) = .slice none 0 0) (hz : z ≤ 4096) :
    Calls Try.prog 12 #[.pointer (some ⟨p, 0, none⟩), .int .i64 s] w fun e w' => ∃ g, e = .returned (.tuple #[.slice (some ⟨g, 0, none⟩) z z, .int .i64 0]) ∧ Rw w' g (zer z).toArray 5 ∧ w.heap.size ≤ g ∧ Rw w' p (dkG S z m c { x with rd := inc x.rd }) 91 ∧ Chg (fun k => k = p) w w' := by
  have DKh : Calls Try.prog 35 #[.pointer (some ⟨p, 0, none⟩), .int .i64 s] w fun e w' => e = .returned (.bool true) ∧ w = w' := by
    have c0 : w.cell? ⟨p, 0, none⟩ = some (.int .i64 S) := h.cell 0
    clear h hdu hca hlat
    go_enter Try.func35, Try.ntmps35
    go_wp2_with fail
    go_ret
    exact ⟨rfl, rfl⟩
  have HH : Hid _ := DKh
  have c2 : w.cell? ⟨p, 2, none⟩ = some (.int .i32 0) := h.cell 2
  have c5 : w.cell? ⟨p, 5, none⟩ = some (.int .u32 0) := h.cell 5
  have c6 : w.cell? ⟨p, 6, none⟩ = some (.int .i32 0) := h.cell 6
  have f6 := h.fr 6
  have hmk := run_mk z (by omega)
  have R0 : Hid _ := h
  have U0 : Hid _ := hdu
  have A0 : Hid _ := hca
  have LT : Hid _ := hlat
  have VP : Hid _ := hVp
  have OFF : Hid _ := hoff
  clear h DKh hdu hca hlat hVp hoff
  go_enter_defers Try.func12, Try.ntmps12
  go_wp2_with (go_at_call 35; refine Calls.mono HH.out ?_; rintro e w9 ⟨rfl, h9⟩; subst h9)
  refine (rlock_open Try.rwRLib p 2 0 _ _ _ c2 c5 c6 f6 (by rw [wr1]; decide)).mono ?_
  rintro e w' ⟨rfl, rfl⟩
  rw [wr1]
  obtain ⟨w1, hw1⟩ : ∃ w1, w1 = w.setCell ⟨p, 2 + 4, none⟩ (.int .i32 1) := ⟨_, rfl⟩
  rw [← hw1]
  have r1 : Rw w1 p ((dkG S z m c x).setIfInBounds 6 (.int .i32 1)) 91 := by rw [hw1]; exact R0.out.set 6 _
  have hc1 : Chg (fun k => k = p) w w1 := by rw [hw1]; exact (Chg.refl (fun k => k = p) w).setCell (.inl rfl) _
  have C1 : Hid _ := hc1
  have R1 : Hid _ := r1
  have d12 : w1.cell? ⟨p, 12, none⟩ = some (.bool false) := by rw [← OFF.out]; exact r1.cell 12
  have d1 : w1.cell? ⟨p, 1, none⟩ = some (.int .i64 z) := r1.cell 1
  clear c2 c5 c6 f6 hw1 r1 HH hc1
  go_wp2_with fail
  obtain ⟨w2, hw2⟩ : ∃ w2, w2 = w1.alloc (.cells (zer z).toArray 5) := ⟨_, rfl⟩
  rw [← hw2]
  have hb2 : Below w1.heap.size w1 w2 := by rw [hw2]; exact (Below.refl _ _).alloc (Nat.le_refl _) _
  have hsz1 : w.heap.size ≤ w1.heap.size := C1.out.size
  have R2 : Hid _ := Rw.keep R1.out hb2
  have Z2 : Hid (Rw w2 w1.heap.size (zer z).toArray 5) := by rw [hw2]; exact ⟨heap_alloc_new _ _⟩
  have C2 : Hid (Chg (fun k => k = p) w w2) := C1.out.trans (Chg.of_below hb2 (fun _ => False)) (fun _ h => h.elim)
  have plt : p < w1.heap.size := Rw.lt R1.out
  have U2 : Hid _ := Du.kept U0.out (grown_of C2.out) (by intro e; injection e with e; exact hmp e)
  have A2 : Hid _ := Ca.kept A0.out (grown_of C2.out) (by intro e; injection e with e; exact hcp e) (fun t b hb e => VP.out t (by rw [hb, e]))
  clear hw2 R1 C1 d12 d1 hmk hb2
  refine Calls.mono (latestG U2.out A2.out (Rw.cell R2.out 8) (Rw.cell R2.out 9) s (by omega) hLs) ?_
  rintro e w9 ⟨rfl, h9⟩
  subst h9
  rw [LT.out]
  go_wp2_with (refine wpList_copy_nothing rfl (.tmp 27) (.tmp 30) 22 22 rfl 5 Try.underlying22 (by kernel_rfl) _ _ _ _ _ _ rfl rfl (Nat.zero_min _) ?_)
  have R3 : Hid _ := R2.out
  refine Calls.mono (u64add_any ⟨p, 14, none⟩ x.rd 1 w2 (Rw.cell R3.out 14) (Rw.fr R3.out 14)) ?_
  rintro e w9 ⟨q, hq, rfl, rfl⟩
  have HQ : Hid _ := hq
  clear hq
  have K3 : Hid (Rw (w2.setCell ⟨p, 14, none⟩ (.int .u64 q)) p _ 91) := Rw.set R3.out 14 (.int .u64 q)
  go_wp2_with fail
  refine leaves_cons (f := 37) (args := #[.pointer (some ⟨p, 2, none⟩)]) (by simp) (by simp [go_sem]) ?_
  refine (runlock_deferred Try.rwRLib p 2 1 _ _ .returning _ (Rw.cell K3.out 2) (Rw.cell K3.out 4) (Rw.cell K3.out 6) (Rw.fr K3.out 6) (by rw [wr0]; decide)).mono ?_
  rintro e u' w'' ⟨rfl, rfl, rfl⟩
  refine ⟨_, results_tmp2 rfl _ _ _, w1.heap.size, rfl, ?_⟩
  rw [wr0]
  have c4 : Chg (fun k => k = p) w2 ((w2.setCell ⟨p, 14, none⟩ (.int .u64 q)).setCell ⟨p, 2 + 4, none⟩ (.int .i32 0)) := ((Chg.refl (fun k => k = p) w2).setCell (.inl rfl) _).setCell (.inl rfl) _
  have K4 := Rw.set K3.out 6 (.int .i32 0)
  have zr := Rw.chg1 Z2.out c4 (by omega)
  exact ⟨zr, hsz1, by rw [show inc x.rd = q from HQ.out.symm]; exact K4, C2.out.trans c4 (fun _ e => .inl e)⟩
end Go.Proofs.Ytpongepfjdgcmaa
