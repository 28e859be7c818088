/-
  The other calls of a disk on which nothing was written yet.
-/
import Derived.Test.YtddnecfnjnipjaaDisk
namespace Go.Proofs.Ytddnecfnjnipjaa
open Go.RowKit Go.RwLone

/-- What a call that changes nothing leaves. -/
def Stays (w w' : World) (p : Nat) (s z : Int) (m c : Nat) (rd fl : Int) : Prop := DK w' p s z m c rd fl ∧ Chg (fun k => k = p) w w'

theorem range_empty {w : World} {c : Nat} (h : w.heap[c]? = some (.map #[] 0)) : ∃ w', (Instr.range 81 (.map (some c))).run Try.prog w = .ok (.pointer (some ⟨w.heap.size, 0, none⟩)) w' ∧ (∀ ty, (Instr.next (.pointer (some ⟨w.heap.size, 0, none⟩)) false ty).run Try.prog w' = .ok (.tuple #[.bool false]) w') ∧ Below w.heap.size w w' := by
  obtain ⟨w', hr, hg, hw, _⟩ := (owns_empty h).range (t := 81) (e := 88) keyed3 Try.underlying81
  refine ⟨w', hr, fun ty => ?_, ⟨hw.os, hw.tape, hw.output, hw.size, fun k hk => hw.block k hk (by simp)⟩⟩
  rcases hg.next keyed3 ty with ⟨_, _, h1⟩ | ⟨_, _, kl, _, _, _, _, hl, _⟩
  · exact h1
  · simp [Maps.has] at hl

set_option maxRecDepth 100000 in
set_option maxHeartbeats 1000000 in
theorem sectors_any {w : World} {p : Nat} {s z : Int} {m c : Nat} {rd fl : Int} (h : DK w p s z m c rd fl) :
    Calls Try.prog 55 #[.pointer (some ⟨p, 0, none⟩)] w fun e w' => e = .returned (.int .i64 s) ∧ w = w' := by
  have h0 : w.cell? ⟨p, 0, none⟩ = some (.int .i64 s) := h.cell 0
  clear h
  go_enter Try.func55, Try.ntmps55
  go_wp2_with fail
  go_ret
  exact ⟨rfl, rfl⟩
set_option maxRecDepth 100000 in
set_option maxHeartbeats 1000000 in
theorem size_any {w : World} {p : Nat} {s z : Int} {m c : Nat} {rd fl : Int} (h : DK w p s z m c rd fl) :
    Calls Try.prog 56 #[.pointer (some ⟨p, 0, none⟩)] w fun e w' => e = .returned (.int .i64 z) ∧ w = w' := by
  have h0 : w.cell? ⟨p, 1, none⟩ = some (.int .i64 z) := h.cell 1
  clear h
  go_enter Try.func56, Try.ntmps56
  go_wp2_with fail
  go_ret
  exact ⟨rfl, rfl⟩

set_option maxRecDepth 100000 in
set_option maxHeartbeats 2000000 in
theorem off_any {w : World} {p : Nat} {s z : Int} {m c : Nat} {rd fl : Int} (h : DK w p s z m c rd fl) :
    Calls Try.prog 28 #[.pointer (some ⟨p, 0, none⟩)] w fun e w' => e = .returned (.bool false) ∧ Stays w w' p s z m c rd fl := by
  have c2 : w.cell? ⟨p, 2, none⟩ = some (.int .i32 0) := h.cell 2
  have c5 : w.cell? ⟨p, 5, none⟩ = some (.int .u32 0) := h.cell 5
  have c6 : w.cell? ⟨p, 6, none⟩ = some (.int .i32 0) := h.cell 6
  have f6 := h.fr 6
  have HD : Hid _ := h
  clear h
  go_enter_defers Try.func28, Try.ntmps28
  go_wp2_with fail
  refine (rlock_open Try.rwRLib p 2 0 _ _ _ c2 c5 c6 f6 (by rw [wr1]; decide)).mono ?_
  rintro e w' ⟨rfl, rfl⟩
  rw [wr1]
  have R1 := Rw.set (DK.rw HD.out) 6 (.int .i32 1)
  obtain ⟨w1, hw1⟩ : ∃ w1, w1 = w.setCell ⟨p, 6, none⟩ (.int .i32 1) := ⟨_, rfl⟩
  rw [← hw1] at R1
  have e1 : w.setCell ⟨p, 2 + 4, none⟩ (.int .i32 1) = w1 := hw1.symm
  rw [e1]
  have K1 : Hid _ := R1
  have HW : Hid _ := hw1
  have d12 : w1.cell? ⟨p, 12, none⟩ = some (.bool false) := Rw.cell R1 12
  clear c2 c5 c6 f6 R1 hw1 e1
  go_wp2_with fail
  refine leaves_cons (f := 32) (args := #[.pointer (some ⟨p, 2, none⟩)]) (by simp) (by simp [go_sem]) ?_
  refine (runlock_deferred Try.rwRLib p 2 1 _ _ .returning _ (Rw.cell K1.out 2) (Rw.cell K1.out 4) (Rw.cell K1.out 6) (Rw.fr K1.out 6) (by rw [wr0]; decide)).mono ?_
  rintro e u' w'' ⟨rfl, rfl, rfl⟩
  refine ⟨_, results_tmp rfl _ _ _, rfl, ?_⟩
  rw [wr0]
  have K4 := Rw.set K1.out 6 (.int .i32 0)
  have hc : Chg (fun k => k = p) w w1 := by rw [HW.out]; exact (Chg.refl (fun k => k = p) w).setCell (.inl rfl) _
  refine ⟨⟨K4.eq, ?_, ?_, HD.out.pm, HD.out.pc⟩, hc.setCell (.inl rfl) _⟩
  · rw [heap_set_ne _ _ _ _ HD.out.pm, HW.out, heap_set_ne _ _ _ _ HD.out.pm]; exact HD.out.mm
  · rw [heap_set_ne _ _ _ _ HD.out.pc, HW.out, heap_set_ne _ _ _ _ HD.out.pc]; exact HD.out.mc

theorem info3 : (Try.prog.info? 3).map (fun i => (i.zero, i.size, i.bytes)) = some (some (.int .i64 0), 1, 8) := by kernel_rfl
theorem mk39 (w : World) : (Instr.makeSlice 99 (.int .i64 0) (.int .i64 0)).run Try.prog w = .ok (.slice (some ⟨w.heap.size, 0, none⟩) 0 0) (w.alloc (.cells #[] 3)) := by
  obtain ⟨i0, hi, hz0, hz1, hz2⟩ := info_parts info3
  have := run_make (P := Try.prog) w 99 3 i0 (.int .i64 0) Try.underlying99 hi hz0 .i64 .i64 0 0 (by omega) (Int.le_refl _) (by rw [hz2]; omega) (by omega)
  have e : madeCells (Value.int .i64 0).cells (Int.toNat 0 * i0.size) = #[] := by
    apply Array.ext_getElem?
    intro i
    simp [madeCells]
  rw [this, e]
  rfl

set_option maxRecDepth 100000 in
set_option maxHeartbeats 2000000 in
theorem pending_any {w : World} {p : Nat} {s z : Int} {m c : Nat} {rd fl : Int} (h : DK w p s z m c rd fl) :
    Calls Try.prog 46 #[.pointer (some ⟨p, 0, none⟩)] w fun e w' => ∃ a, e = .returned (.slice a 0 0) ∧ Stays w w' p s z m c rd fl := by
  have c2 : w.cell? ⟨p, 2, none⟩ = some (.int .i32 0) := h.cell 2
  have c5 : w.cell? ⟨p, 5, none⟩ = some (.int .u32 0) := h.cell 5
  have c6 : w.cell? ⟨p, 6, none⟩ = some (.int .i32 0) := h.cell 6
  have f6 := h.fr 6
  have HD : Hid _ := h
  have hmk := mk39
  clear h
  go_enter_defers Try.func46, Try.ntmps46
  go_wp2_with fail
  refine (rlock_open Try.rwRLib p 2 0 _ _ _ c2 c5 c6 f6 (by rw [wr1]; decide)).mono ?_
  rintro e w' ⟨rfl, rfl⟩
  rw [wr1]
  have R1 := Rw.set (DK.rw HD.out) 6 (.int .i32 1)
  obtain ⟨w1, hw1⟩ : ∃ w1, w1 = w.setCell ⟨p, 6, none⟩ (.int .i32 1) := ⟨_, rfl⟩
  rw [← hw1] at R1
  have e1 : w.setCell ⟨p, 2 + 4, none⟩ (.int .i32 1) = w1 := hw1.symm
  rw [e1]
  have K1 : Hid _ := R1
  have hc1 : Chg (fun k => k = p) w w1 := by rw [hw1]; exact (Chg.refl (fun k => k = p) w).setCell (.inl rfl) _
  have hm1 : w1.heap[m]? = some (.map #[] 0) := by rw [hw1, heap_set_ne _ _ _ _ HD.out.pm]; exact HD.out.mm
  have hn1 : w1.heap[c]? = some (.map #[] 0) := by rw [hw1, heap_set_ne _ _ _ _ HD.out.pc]; exact HD.out.mc
  have C1 : Hid _ := hc1
  have M1 : Hid _ := hm1
  have N1 : Hid _ := hn1
  have d10 : w1.cell? ⟨p, 10, none⟩ = some (.int .i64 0) := Rw.cell R1 10
  have hb2 : Below w1.heap.size w1 (w1.alloc (.cells #[] 3)) := (Below.refl _ _).alloc (Nat.le_refl _) _
  have K2 : Hid (Rw (w1.alloc (.cells #[] 3)) p _ 86) := Rw.keep R1 hb2
  have d9 : (w1.alloc (.cells #[] 3)).cell? ⟨p, 9, none⟩ = some (.map (some c)) := Rw.cell K2.out 9
  obtain ⟨w3, hr3, hx3, hb3⟩ := range_empty (w := w1.alloc (.cells #[] 3)) (c := c) (by rw [hb2.block c (Array.getElem?_eq_some_iff.1 hn1).1]; exact hn1)
  have B3 : Hid (Below w1.heap.size w1 w3) := hb2.trans (hb3.mono (by simp))
  rw [World.size_alloc] at hr3 hx3
  clear c2 c5 c6 f6 R1 hw1 e1 hc1 hm1 hn1 hb2 hb3
  go_wp2_with fail
  refine wp_loop_rounds 1 ?_
  rw [rounds_succ]
  go_wp2_with fail
  have K3 : Hid (Rw w3 p _ 86) := Rw.keep K1.out B3.out
  refine leaves_cons (f := 32) (args := #[.pointer (some ⟨p, 2, none⟩)]) (by simp) (by simp [go_sem]) ?_
  refine (runlock_deferred Try.rwRLib p 2 1 _ _ .returning _ (Rw.cell K3.out 2) (Rw.cell K3.out 4) (Rw.cell K3.out 6) (Rw.fr K3.out 6) (by rw [wr0]; decide)).mono ?_
  rintro e u' w'' ⟨rfl, rfl, rfl⟩
  refine ⟨_, results_tmp rfl _ _ _, _, rfl, ?_⟩
  rw [wr0]
  have K4 := Rw.set K3.out 6 (.int .i32 0)
  have hc : Chg (fun k => k = p) w w3 := C1.out.trans (Chg.of_below B3.out (fun _ => False)) (fun _ h => h.elim)
  refine ⟨⟨K4.eq, ?_, ?_, HD.out.pm, HD.out.pc⟩, hc.setCell (.inl rfl) _⟩
  · rw [heap_set_ne _ _ _ _ HD.out.pm, B3.out.block m (Array.getElem?_eq_some_iff.1 M1.out).1]; exact M1.out
  · rw [heap_set_ne _ _ _ _ HD.out.pc, B3.out.block c (Array.getElem?_eq_some_iff.1 N1.out).1]; exact N1.out

set_option maxRecDepth 100000 in
set_option maxHeartbeats 1000000 in
theorem burn_any {w : World} {p : Nat} (h11 : w.cell? ⟨p, 11, none⟩ = some (.int .i64 (-1))) (h12 : w.cell? ⟨p, 12, none⟩ = some (.bool false)) :
    Calls Try.prog 39 #[.pointer (some ⟨p, 0, none⟩)] w fun e w' => e = .returned (.int .i64 0) ∧ w = w' := by
  go_enter Try.func39, Try.ntmps39
  go_wp2_with fail
  go_ret
  exact ⟨rfl, rfl⟩

set_option maxRecDepth 100000 in
set_option maxHeartbeats 1000000 in
theorem empty_any {w : World} {p : Nat} {cs : Array Value} (h : Rw w p cs 86) (x9 x10 : Value) (h9 : cs[9]? = some x9) (h10 : cs[10]? = some x10) :
    Calls Try.prog 43 #[.pointer (some ⟨p, 0, none⟩)] w fun e w' => e = .returned (.tuple #[]) ∧ Rw w' p ((cs.setIfInBounds 9 (.map (some w.heap.size))).setIfInBounds 10 (.int .i64 0)) 86 ∧ Chg (fun k => k = p) w w' := by
  have hmm := @run_makeMap Try.prog
  have b1 : Below w.heap.size w (w.alloc (.map #[] 0)) := (Below.refl _ _).alloc (Nat.le_refl _) _
  have r1 := Rw.keep h b1
  have r2 := Rw.set r1 9 (.map (some w.heap.size))
  have r3 := Rw.set r2 10 (.int .i64 0)
  have k9 : (w.alloc (.map #[] 0)).cell? ⟨p, 9, none⟩ = some x9 := (Rw.cell r1 9).trans h9
  have f9 := Rw.fr r1 9
  have k10 : ((w.alloc (.map #[] 0)).setCell ⟨p, 9, none⟩ (.map (some w.heap.size))).cell? ⟨p, 10, none⟩ = some x10 := by
    rw [Rw.cell r2 10, Array.getElem?_setIfInBounds_ne (by decide)]; exact h10
  have f10 := Rw.fr r2 10
  have R3 : Hid _ := r3
  clear h r1 r2 r3 b1
  go_enter Try.func43, Try.ntmps43
  go_wp2_with fail
  exact bodyPost_end (results_none rfl _ _ _) rfl ⟨rfl, R3.out, (((Chg.refl (fun k => k = p) w).alloc _).setCell (.inl rfl) _).setCell (.inl rfl) _⟩

set_option maxRecDepth 100000 in
set_option maxHeartbeats 2000000 in
theorem flush_any {w : World} {p : Nat} {s z : Int} {m c : Nat} {rd fl : Int} (h : DK w p s z m c rd fl) :
    Calls Try.prog 15 #[.pointer (some ⟨p, 0, none⟩)] w fun e w' => e = .returned (.int .i64 0) ∧ Chg (fun k => k = p) w w' := by
  have c2 : w.cell? ⟨p, 2, none⟩ = some (.int .i32 0) := h.cell 2
  have c4 : w.cell? ⟨p, 4, none⟩ = some (.int .u32 0) := h.cell 4
  have c5 : w.cell? ⟨p, 5, none⟩ = some (.int .u32 0) := h.cell 5
  have c6 : w.cell? ⟨p, 6, none⟩ = some (.int .i32 0) := h.cell 6
  have f6 := h.fr 6
  have f2 := h.fr 2
  have HD : Hid _ := h
  clear h
  go_enter_defers Try.func15, Try.ntmps15
  go_wp2_with fail
  refine (wlock_free Try.rwWLib p 2 _ _ _ c2 c4 c5 c6 f2 f6).mono ?_
  rintro e w' ⟨rfl, rfl⟩
  have R1 := Rw.set (Rw.set (DK.rw HD.out) 2 (.int .i32 1)) 6 (.int .i32 (-1073741824))
  obtain ⟨w1, hw1⟩ : ∃ w1, w1 = (w.setCell ⟨p, 2, none⟩ (.int .i32 1)).setCell ⟨p, 6, none⟩ (.int .i32 (-1073741824)) := ⟨_, rfl⟩
  rw [← hw1] at R1
  have e1 : (w.setCell ⟨p, 2, none⟩ (.int .i32 1)).setCell ⟨p, 2 + 4, none⟩ (.int .i32 (-1073741824)) = w1 := hw1.symm
  rw [e1]
  have K1 : Hid _ := R1
  have C1 : Hid (Chg (fun k => k = p) w w1) := by rw [hw1]; exact ((Chg.refl (fun k => k = p) w).setCell (.inl rfl) _).setCell (.inl rfl) _
  have hn1 : w1.heap[c]? = some (.map #[] 0) := by rw [hw1, heap_set_ne _ _ _ _ HD.out.pc, heap_set_ne _ _ _ _ HD.out.pc]; exact HD.out.mc
  have d9 : w1.cell? ⟨p, 9, none⟩ = some (.map (some c)) := Rw.cell R1 9
  obtain ⟨w3, hr3, hx3, hb3⟩ := range_empty hn1
  have B3 : Hid _ := hb3
  have BU : Hid _ := burn_any (Rw.cell R1 11) (Rw.cell R1 12)
  clear c2 c4 c5 c6 f2 f6 R1 hw1 e1 hn1 hb3
  go_wp2_with (go_at_call 39; refine Calls.mono BU.out ?_; rintro e w9 ⟨rfl, h9⟩; subst h9)
  refine wp_loop_rounds 1 ?_
  rw [rounds_succ]
  go_wp2_with fail
  have K3 := Rw.keep K1.out B3.out
  refine Calls.mono (empty_any K3 _ _ rfl rfl) ?_
  rintro e w4 ⟨rfl, r4, ch4⟩
  have K4 : Hid _ := r4
  have C4 : Hid (Chg (fun k => k = p) w w4) := (C1.out.trans (Chg.of_below B3.out (fun _ => False)) (fun _ h => h.elim)).trans ch4 (fun _ e => .inl e)
  clear K3 r4 ch4 hr3 hx3
  go_wp2_with fail
  refine Calls.mono (u64add_any ⟨p, 16, none⟩ fl 1 w4 (Rw.cell K4.out 16) (Rw.fr K4.out 16)) ?_
  rintro e w9 ⟨q, -, rfl, rfl⟩
  have K5 : Hid (Rw (w4.setCell ⟨p, 16, none⟩ (.int .u64 q)) p _ 86) := Rw.set K4.out 16 (.int .u64 q)
  go_wp2_with fail
  refine leaves_cons (f := 38) (args := #[.pointer (some ⟨p, 2, none⟩)]) (by simp) (by simp [go_sem]) ?_
  refine (wunlock_deferred Try.rwWLib p 2 _ _ .returning _ (Rw.cell K5.out 2) (Rw.cell K5.out 4) (Rw.cell K5.out 5) (Rw.cell K5.out 6) (Rw.fr K5.out 2) (Rw.fr K5.out 6)).mono ?_
  rintro e u' w'' ⟨rfl, rfl, rfl⟩
  exact ⟨_, results_tmp rfl _ _ _, rfl, ((C4.out.setCell (.inl rfl) _).setCell (.inl rfl) _).setCell (.inl rfl) _⟩
end Go.Proofs.Ytddnecfnjnipjaa
