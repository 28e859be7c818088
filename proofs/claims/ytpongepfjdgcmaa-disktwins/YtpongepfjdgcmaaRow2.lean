/-
  The disk's calls in general: Off; a Write that is refused.
-/
import Derived.Test.YtpongepfjdgcmaaCache
namespace Go.Proofs.Ytpongepfjdgcmaa
open Go.RowKit Go.RwLone

set_option maxRecDepth 100000 in
set_option maxHeartbeats 1000000 in
theorem has_row {w : World} {p : Nat} {cs : Array Value} {S : Int} (h : Rw w p cs 91) (h0 : cs[0]? = some (.int .i64 S)) (i : Int) :
    Calls Try.prog 35 #[.pointer (some ⟨p, 0, none⟩), .int .i64 i] w fun e w' => e = .returned (.bool (decide (0 ≤ i ∧ i < S))) ∧ w = w' := by
  have c0 : w.cell? ⟨p, 0, none⟩ = some (.int .i64 S) := (Rw.cell h 0).trans h0
  clear h h0
  by_cases h1 : 0 ≤ i
  · by_cases h2 : i < S
    · go_enter Try.func35, Try.ntmps35
      go_wp2_with fail
      go_ret
      exact ⟨by simp [h1, h2], rfl⟩
    · go_enter Try.func35, Try.ntmps35
      go_wp2_with fail
      go_ret
      exact ⟨by simp [h2], rfl⟩
  · go_enter Try.func35, Try.ntmps35
    go_wp2_with fail
    go_ret
    exact ⟨by simp; omega, rfl⟩

set_option maxRecDepth 100000 in
set_option maxHeartbeats 2000000 in
theorem off_row {w : World} {p m c : Nat} {s z : Int} {x : Nums} (h : Rw w p (dkG s z m c x) 91) :
    Calls Try.prog 24 #[.pointer (some ⟨p, 0, none⟩)] w fun e w' => e = .returned (.bool x.off) ∧ Rw w' p (dkG s z m c x) 91 ∧ Chg (fun k => k = p) w w' := by
  have c2 : w.cell? ⟨p, 2, none⟩ = some (.int .i32 0) := Rw.cell h 2
  have c5 : w.cell? ⟨p, 5, none⟩ = some (.int .u32 0) := Rw.cell h 5
  have c6 : w.cell? ⟨p, 6, none⟩ = some (.int .i32 0) := Rw.cell h 6
  have f6 := Rw.fr h 6
  have H : Hid _ := h
  clear h
  go_enter_defers Try.func24, Try.ntmps24
  go_wp2_with fail
  refine (rlock_open Try.rwRLib p 2 0 _ _ _ c2 c5 c6 f6 (by rw [wr1]; decide)).mono ?_
  rintro e w' ⟨rfl, rfl⟩
  rw [wr1]
  have R1 := Rw.set H.out 6 (.int .i32 1)
  obtain ⟨w1, hw1⟩ : ∃ w1, w1 = w.setCell ⟨p, 6, none⟩ (.int .i32 1) := ⟨_, rfl⟩
  rw [← hw1] at R1
  have e1 : w.setCell ⟨p, 2 + 4, none⟩ (.int .i32 1) = w1 := hw1.symm
  rw [e1]
  have K1 : Hid _ := R1
  have HW : Hid _ := hw1
  have d12 : w1.cell? ⟨p, 12, none⟩ = some (.bool x.off) := Rw.cell R1 12
  clear c2 c5 c6 f6 R1 hw1 e1
  go_wp2_with fail
  refine leaves_cons (f := 37) (args := #[.pointer (some ⟨p, 2, none⟩)]) (by simp) (by simp [go_sem]) ?_
  refine (runlock_deferred Try.rwRLib p 2 1 _ _ .returning _ (Rw.cell K1.out 2) (Rw.cell K1.out 4) (Rw.cell K1.out 6) (Rw.fr K1.out 6) (by rw [wr0]; decide)).mono ?_
  rintro e u' w'' ⟨rfl, rfl, rfl⟩
  have hc : Chg (fun k => k = p) w w1 := by rw [HW.out]; exact (Chg.refl (fun k => k = p) w).setCell (.inl rfl) _
  refine ⟨_, results_tmp rfl _ _ _, rfl, ?_, hc.setCell (.inl rfl) _⟩
  rw [wr0]
  exact Rw.set K1.out 6 (.int .i32 0)

set_option maxRecDepth 100000 in
set_option maxHeartbeats 2000000 in
theorem write_sector {w : World} {p m c : Nat} {s z : Int} {x : Nums} (h : Rw w p (dkG s z m c x) 91) (i : Int) (ab : Option Addr) (nb cb : Nat) (_hn : (nb : Int) ≤ 9223372036854775807) (hno : ¬ (0 ≤ i ∧ i < s) ∨ ¬ (nb : Int) = z) :
    Calls Try.prog 19 #[.pointer (some ⟨p, 0, none⟩), .int .i64 i, .slice ab nb cb] w fun e w' => e = .returned (.int .i64 31) ∧ w = w' := by
  have HH : Hid _ := has_row h rfl i
  have c1 : w.cell? ⟨p, 1, none⟩ = some (.int .i64 z) := Rw.cell h 1
  clear h
  by_cases hin : 0 ≤ i ∧ i < s
  · have hne : ¬ (nb : Int) = z := hno.resolve_left (fun h => h hin)
    have e9 := HH.out
    rw [decide_eq_true hin] at e9
    have HE : Hid _ := e9
    clear e9 HH hno hin
    go_enter_defers Try.func19, Try.ntmps19
    go_wp2_with (go_at_call 35; refine Calls.mono HE.out ?_; rintro e w9 ⟨rfl, h9⟩; subst h9)
    exact ⟨_, results_tmp rfl _ _ _, rfl, rfl⟩
  · have e9 := HH.out
    rw [decide_eq_false hin] at e9
    have HE : Hid _ := e9
    clear e9 HH hno hin
    go_enter_defers Try.func19, Try.ntmps19
    go_wp2_with (go_at_call 35; refine Calls.mono HE.out ?_; rintro e w9 ⟨rfl, h9⟩; subst h9)
    exact ⟨_, results_tmp rfl _ _ _, rfl, rfl⟩

set_option maxRecDepth 100000 in
set_option maxHeartbeats 2000000 in
theorem write_power {w : World} {p m c : Nat} {s z : Int} {x : Nums} (h : Rw w p (dkG s z m c x) 91) (i : Int) (ab : Option Addr) (nb cb : Nat) (hin : 0 ≤ i ∧ i < s) (hnb : (nb : Int) = z) (hf : -1 ≤ x.fuse) (hf2 : x.fuse ≤ 9223372036854775807) (hb : burnE x = 32) :
    Calls Try.prog 19 #[.pointer (some ⟨p, 0, none⟩), .int .i64 i, .slice ab nb cb] w fun e w' => e = .returned (.int .i64 32) ∧ Rw w' p (dkG s z m c (burnN x)) 91 ∧ Chg (fun k => k = p) w w' := by
  have e9 := has_row h rfl i
  rw [decide_eq_true hin] at e9
  have HE : Hid _ := e9
  have c1 : w.cell? ⟨p, 1, none⟩ = some (.int .i64 nb) := by rw [hnb]; exact Rw.cell h 1
  have c2 : w.cell? ⟨p, 2, none⟩ = some (.int .i32 0) := Rw.cell h 2
  have c4 : w.cell? ⟨p, 4, none⟩ = some (.int .u32 0) := Rw.cell h 4
  have c5 : w.cell? ⟨p, 5, none⟩ = some (.int .u32 0) := Rw.cell h 5
  have c6 : w.cell? ⟨p, 6, none⟩ = some (.int .i32 0) := Rw.cell h 6
  have f6 := Rw.fr h 6
  have f2 := Rw.fr h 2
  have H : Hid _ := h
  have HB : Hid _ := hb
  clear h hb e9 hnb
  go_enter_defers Try.func19, Try.ntmps19
  go_wp2_with (go_at_call 35; refine Calls.mono HE.out ?_; rintro e w9 ⟨rfl, h9⟩; subst h9)
  refine (wlock_free Try.rwWLib p 2 _ _ _ c2 c4 c5 c6 f2 f6).mono ?_
  rintro e w' ⟨rfl, rfl⟩
  have R1 : Rw ((w.setCell ⟨p, 2, none⟩ (.int .i32 1)).setCell ⟨p, 6, none⟩ (.int .i32 (-1073741824))) p (heldG s z m c x) 91 := Rw.two H.out 2 6 (.int .i32 1) (.int .i32 (-1073741824))
  obtain ⟨w1, hw1⟩ : ∃ w1, w1 = (w.setCell ⟨p, 2, none⟩ (.int .i32 1)).setCell ⟨p, 6, none⟩ (.int .i32 (-1073741824)) := ⟨_, rfl⟩
  rw [← hw1] at R1
  have e1 : (w.setCell ⟨p, 2, none⟩ (.int .i32 1)).setCell ⟨p, 2 + 4, none⟩ (.int .i32 (-1073741824)) = w1 := hw1.symm
  rw [e1]
  have C1 : Hid (Chg (fun i => i = p) w w1) := by rw [hw1]; exact ((Chg.refl (fun i => i = p) w).setCell (.inl rfl) _).setCell (.inl rfl) _
  have BU : Hid _ := burn_held R1 hf hf2
  clear c1 c2 c4 c5 c6 f2 f6 R1 hw1 e1 HE
  go_wp2_with fail
  refine Calls.mono BU.out ?_
  rintro e w2 ⟨rfl, r2, ch2⟩
  rw [HB.out]
  have R2 : Hid _ := r2
  have C2 : Hid (Chg (fun i => i = p) w w2) := C1.out.trans ch2 (fun _ e => .inl e)
  clear r2 ch2 BU C1
  go_wp2_with fail
  refine leaves_cons (f := 42) (args := #[.pointer (some ⟨p, 2, none⟩)]) (by simp) (by simp [go_sem]) ?_
  refine (wunlock_deferred Try.rwWLib p 2 _ _ .returning _ (Rw.cell R2.out 2) (Rw.cell R2.out 4) (Rw.cell R2.out 5) (Rw.cell R2.out 6) (Rw.fr R2.out 2) (Rw.fr R2.out 6)).mono ?_
  rintro e u' w'' ⟨rfl, rfl, rfl⟩
  exact ⟨_, results_tmp rfl _ _ _, rfl, Rw.two R2.out 6 2 (.int .i32 0) (.int .i32 0), (C2.out.setCell (.inl rfl) _).setCell (.inl rfl) _⟩
end Go.Proofs.Ytpongepfjdgcmaa
