/-
  Read refused: for the sector, for the power.
-/
import Derived.Test.YtpongepfjdgcmaaReadZ
namespace Go.Proofs.Ytpongepfjdgcmaa
open Go.RowKit Go.RwLone

set_option maxRecDepth 100000 in
set_option maxHeartbeats 2000000 in
theorem read_sector {w : World} {p m c z S : Nat} {x : Nums} (h : Rw w p (dkG S z m c x) 91) (s : Int) (hs : ¬ (0 ≤ s ∧ s < S)) :
    Calls Try.prog 12 #[.pointer (some ⟨p, 0, none⟩), .int .i64 s] w fun e w' => e = .returned (.tuple #[.slice none 0 0, .int .i64 31]) ∧ w = w' := by
  have DKh : Calls Try.prog 35 #[.pointer (some ⟨p, 0, none⟩), .int .i64 s] w fun e w' => e = .returned (.bool false) ∧ w = w' := by
    have c0 : w.cell? ⟨p, 0, none⟩ = some (.int .i64 S) := h.cell 0
    clear h
    by_cases h0 : 0 ≤ s
    · have h1 : ¬ s < S := fun e => hs ⟨h0, e⟩
      clear hs
      go_enter Try.func35, Try.ntmps35
      go_wp2_with fail
      go_ret
      exact ⟨rfl, rfl⟩
    · clear hs
      go_enter Try.func35, Try.ntmps35
      go_wp2_with fail
      go_ret
      exact ⟨rfl, rfl⟩
  have HH : Hid _ := DKh
  clear h DKh
  go_enter_defers Try.func12, Try.ntmps12
  go_wp2_with (go_at_call 35; refine Calls.mono HH.out ?_; rintro e w9 ⟨rfl, h9⟩; subst h9)
  exact ⟨_, results_tmp2 rfl _ _ _, rfl, rfl⟩

set_option maxRecDepth 100000 in
set_option maxHeartbeats 2000000 in
theorem read_off {w : World} {p m c z S : Nat} {x : Nums} (h : Rw w p (dkG S z m c x) 91) (hoff : x.off = true) (s : Nat) (hsS : s < S) (_hS : S ≤ 65536) :
    Calls Try.prog 12 #[.pointer (some ⟨p, 0, none⟩), .int .i64 s] w fun e w' => e = .returned (.tuple #[.slice none 0 0, .int .i64 32]) ∧ Rw w' p (dkG S z m c x) 91 ∧ Chg (fun k => k = p) w w' := by
  have DKh : Calls Try.prog 35 #[.pointer (some ⟨p, 0, none⟩), .int .i64 s] w fun e w' => e = .returned (.bool true) ∧ w = w' := by
    have c0 : w.cell? ⟨p, 0, none⟩ = some (.int .i64 S) := h.cell 0
    clear h
    go_enter Try.func35, Try.ntmps35
    go_wp2_with fail
    go_ret
    exact ⟨rfl, rfl⟩
  have HH : Hid _ := DKh
  have c2 : w.cell? ⟨p, 2, none⟩ = some (.int .i32 0) := h.cell 2
  have c5 : w.cell? ⟨p, 5, none⟩ = some (.int .u32 0) := h.cell 5
  have c6 : w.cell? ⟨p, 6, none⟩ = some (.int .i32 0) := h.cell 6
  have f6 := h.fr 6
  have R0 : Hid _ := h
  have OFF : Hid _ := hoff
  clear h DKh hoff
  go_enter_defers Try.func12, Try.ntmps12
  go_wp2_with (go_at_call 35; refine Calls.mono HH.out ?_; rintro e w9 ⟨rfl, h9⟩; subst h9)
  refine (rlock_open Try.rwRLib p 2 0 _ _ _ c2 c5 c6 f6 (by rw [wr1]; decide)).mono ?_
  rintro e w' ⟨rfl, rfl⟩
  rw [wr1]
  obtain ⟨w1, hw1⟩ : ∃ w1, w1 = w.setCell ⟨p, 2 + 4, none⟩ (.int .i32 1) := ⟨_, rfl⟩
  rw [← hw1]
  have r1 : Rw w1 p ((dkG S z m c x).setIfInBounds 6 (.int .i32 1)) 91 := by rw [hw1]; exact R0.out.set 6 _
  have C1 : Hid (Chg (fun k => k = p) w w1) := by rw [hw1]; exact (Chg.refl (fun k => k = p) w).setCell (.inl rfl) _
  have R1 : Hid _ := r1
  have d12 : w1.cell? ⟨p, 12, none⟩ = some (.bool true) := by rw [← OFF.out]; exact r1.cell 12
  clear c2 c5 c6 f6 hw1 r1 HH
  go_wp2_with fail
  refine leaves_cons (f := 37) (args := #[.pointer (some ⟨p, 2, none⟩)]) (by simp) (by simp [go_sem]) ?_
  refine (runlock_deferred Try.rwRLib p 2 1 _ _ .returning _ (Rw.cell R1.out 2) (Rw.cell R1.out 4) (Rw.cell R1.out 6) (Rw.fr R1.out 6) (by rw [wr0]; decide)).mono ?_
  rintro e u' w'' ⟨rfl, rfl, rfl⟩
  refine ⟨_, results_tmp2 rfl _ _ _, rfl, ?_⟩
  rw [wr0]
  exact ⟨Rw.set R1.out 6 (.int .i32 0), C1.out.setCell (.inl rfl) _⟩
end Go.Proofs.Ytpongepfjdgcmaa
