/-
  A disk on which nothing was written yet: its cells, and the walks of its calls.
-/
import Derived.Test.YtddnecfnjnipjaaLocks
import Derived.Conc.RwLoneW
import Derived.Deep.MidRow
import Derived.Laws.CopyOwn
import Derived.Maps.RangeWalk
namespace Go.Proofs.Ytddnecfnjnipjaa
open Go.RowKit Go.RwLone

/-- The cells of a disk of which no sector was written. -/
def dk (s z : Int) (m c : Nat) (rd fl : Int) : Array Value := #[.int .i64 s, .int .i64 z, .int .i32 0, .int .u32 0, .int .u32 0, .int .u32 0, .int .i32 0, .int .i32 0, .map (some m), .map (some c), .int .i64 0, .int .i64 (-1), .bool false, .int .i64 0, .int .u64 rd, .int .u64 0, .int .u64 fl]

structure DK (w : World) (p : Nat) (s z : Int) (m c : Nat) (rd fl : Int) : Prop where
  blk : w.heap[p]? = some (.cells (dk s z m c rd fl) 86 (0, 0))
  mm : w.heap[m]? = some (.map #[] 0)
  mc : w.heap[c]? = some (.map #[] 0)
  pm : m ≠ p
  pc : c ≠ p

section
variable {w w' : World} {p : Nat} {s z : Int} {m c : Nat} {rd fl : Int}
theorem DK.cell (h : DK w p s z m c rd fl) (j : Nat) : w.cell? ⟨p, j, none⟩ = (dk s z m c rd fl)[j]? := cell_of_row w p j _ 86 (0, 0) h.blk
theorem DK.fr (h : DK w p s z m c rd fl) (j : Nat) : w.frozen? ⟨p, j, none⟩ = false := frozen_of_row w p j _ 86 h.blk
theorem DK.lt (h : DK w p s z m c rd fl) : p < w.heap.size := (Array.getElem?_eq_some_iff.1 h.blk).1
theorem DK.keep (h : DK w p s z m c rd fl) (b : Below w.heap.size w w') : DK w' p s z m c rd fl :=
  ⟨by rw [b.block _ h.lt]; exact h.blk, by rw [b.block _ (Array.getElem?_eq_some_iff.1 h.mm).1]; exact h.mm, by rw [b.block _ (Array.getElem?_eq_some_iff.1 h.mc).1]; exact h.mc, h.pm, h.pc⟩
end

set_option maxRecDepth 100000 in
set_option maxHeartbeats 1000000 in
theorem u64add_any (a : Addr) (x y : Int) (w : World) (hc : w.cell? a = some (.int .u64 x)) (hz : w.frozen? a = false) :
    Calls Try.prog 40 #[.pointer (some a), .int .u64 y] w fun e w' => ∃ s, s = IntKind.u64.wrap (x + y) ∧ e = .returned (.int .u64 s) ∧ w' = w.setCell a (.int .u64 s) := by
  have hadd := run_call_add (P := Try.prog) Try.func78 (by kernel_rfl) (by kernel_rfl) (by kernel_rfl) .u64 (by kernel_rfl) (y := y) (s := IntKind.u64.wrap (x + y)) hc hz (by simp [go_sem])
  go_enter Try.func40, Try.ntmps40
  go_wp2
  go_ret
  exact ⟨_, rfl, rfl, rfl⟩

/-- A counter, one further. -/
def inc (x : Int) : Int := IntKind.u64.wrap (x + 1)

/-- An element that is no slice. -/
def nilElem : Value → Option (DataW Unit × List MemPlace)
  | .slice none 0 0 => some (.nil, [])
  | _ => none
theorem nilElem_inv {v : Value} {y : DataW Unit × List MemPlace} (h : nilElem v = some y) : v = .slice none 0 0 := by
  unfold nilElem at h
  split at h
  · rfl
  · cases h
theorem keyed3 : Maps.Keyed Try.prog 3 := Maps.int_keyed Try.underlying3
theorem owns_empty {w : World} {m : Nat} (h : w.heap[m]? = some (.map #[] 0)) : w.ownsMap Try.prog 3 nilElem m 0 (.map []) :=
  ⟨#[], 0, h, ⟨by simp, MapKept.stamped_empty 0, by simp⟩, Nat.le_refl _, rfl⟩
theorem look81 (w : World) (m : Nat) (i : Int) (hi : (Lit.int .i64 i).wf = true) (h : w.heap[m]? = some (.map #[] 0)) : (Instr.lookup 80 (.map (some m)) (.int .i64 i) false).run Try.prog w = .ok (.slice none 0 0) w := by
  obtain ⟨v, ps, h1, h2⟩ := (owns_empty h).lookup (t := 80) (e := 48) keyed3 Try.underlying80 (z := .slice none 0 0) (by kernel_rfl) (zd := .nil) (zp := []) rfl (Maps.keyOf_int_mk Try.underlying3 hi)
  rw [h1, nilElem_inv h2]
theorem look82 (w : World) (m : Nat) (i : Int) (hi : (Lit.int .i64 i).wf = true) (h : w.heap[m]? = some (.map #[] 0)) : (Instr.lookup 81 (.map (some m)) (.int .i64 i) false).run Try.prog w = .ok (.slice none 0 0) w := by
  obtain ⟨v, ps, h1, h2⟩ := (owns_empty h).lookup (t := 81) (e := 88) keyed3 Try.underlying81 (z := .slice none 0 0) (by kernel_rfl) (zd := .nil) (zp := []) rfl (Maps.keyOf_int_mk Try.underlying3 hi)
  rw [h1, nilElem_inv h2]

/-- Zeros. -/
def zer (n : Nat) : List Value := List.replicate n (.int .u8 0)
theorem made_zer (n : Nat) : madeCells (Value.int .u8 0).cells (n * 1) = (zer n).toArray := by
  apply Array.ext_getElem?
  intro i
  simp [madeCells, zer, Value.cells]
  by_cases h : i < n <;> simp [h, Nat.mod_one]
theorem run_mk (n : Nat) (h : n ≤ 140737488355328) (w : World) : (Instr.makeSlice 48 (.int .i64 n) (.int .i64 n)).run Try.prog w = .ok (.slice (some ⟨w.heap.size, 0, none⟩) n n) (w.alloc (.cells (zer n).toArray 5)) := by
  obtain ⟨i0, hi, hz0, hz1, hz2⟩ := info_parts info5
  have := run_make (P := Try.prog) w 48 5 i0 (.int .u8 0) Try.underlying48 hi hz0 .i64 .i64 n n (by omega) (Int.le_refl _) (by rw [hz2]; omega) (by omega)
  rw [this, hz1, Int.toNat_natCast, made_zer]

set_option maxRecDepth 100000 in
set_option maxHeartbeats 1000000 in
theorem has_any {w : World} {p : Nat} {s z : Int} {m c : Nat} {rd fl : Int} (h : DK w p s z m c rd fl) (i : Int) :
    Calls Try.prog 36 #[.pointer (some ⟨p, 0, none⟩), .int .i64 i] w fun e w' => e = .returned (.bool (decide (0 ≤ i ∧ i < s))) ∧ w' = w := by
  have h0 : w.cell? ⟨p, 0, none⟩ = some (.int .i64 s) := h.cell 0
  clear h
  by_cases h1 : 0 ≤ i
  · by_cases h2 : i < s
    · go_enter Try.func36, Try.ntmps36
      go_wp2_with fail
      go_ret
      exact ⟨by simp [h1, h2], rfl⟩
    · go_enter Try.func36, Try.ntmps36
      go_wp2_with fail
      go_ret
      exact ⟨by simp [h2], rfl⟩
  · go_enter Try.func36, Try.ntmps36
    go_wp2_with fail
    go_ret
    exact ⟨by simp; omega, rfl⟩

set_option maxRecDepth 100000 in
set_option maxHeartbeats 1000000 in
theorem latest_any {w : World} {p m c : Nat} (hm : w.heap[m]? = some (.map #[] 0)) (hc : w.heap[c]? = some (.map #[] 0)) (h8 : w.cell? ⟨p, 8, none⟩ = some (.map (some m))) (h9 : w.cell? ⟨p, 9, none⟩ = some (.map (some c))) (i : Int) (hi : (Lit.int .i64 i).wf = true) :
    Calls Try.prog 42 #[.pointer (some ⟨p, 0, none⟩), .int .i64 i] w fun e w' => e = .returned (.slice none 0 0) ∧ w' = w := by
  have k1 := look81 w m i hi hm
  have k2 := look82 w c i hi hc
  go_enter Try.func42, Try.ntmps42
  go_wp2_with fail
  go_ret
  exact ⟨rfl, rfl⟩

theorem wr1 : wrap32 (0 + 1) = 1 := by simp [wrap32]
theorem wr0 : wrap32 (1 + -1) = 0 := by simp [wrap32]
/-- A block's cells. -/
structure Rw (w : World) (p : Nat) (cs : Array Value) (t : TypeId) : Prop where
  eq : w.heap[p]? = some (.cells cs t (0, 0))
section
variable {w w' : World} {p : Nat} {cs : Array Value} {t : TypeId}
theorem Rw.cell (h : Rw w p cs t) (j : Nat) : w.cell? ⟨p, j, none⟩ = cs[j]? := cell_of_row w p j _ t (0, 0) h.eq
theorem Rw.fr (h : Rw w p cs t) (j : Nat) : w.frozen? ⟨p, j, none⟩ = false := frozen_of_row w p j _ t h.eq
theorem Rw.lt (h : Rw w p cs t) : p < w.heap.size := (Array.getElem?_eq_some_iff.1 h.eq).1
theorem Rw.set (h : Rw w p cs t) (j : Nat) (v : Value) : Rw (w.setCell ⟨p, j, none⟩ v) p (cs.setIfInBounds j v) t := ⟨heap_setCell_same w p j cs t v h.eq⟩
theorem Rw.keep (h : Rw w p cs t) (b : Below w.heap.size w w') : Rw w' p cs t := ⟨by rw [b.block _ h.lt]; exact h.eq⟩
theorem Rw.alloc (h : Rw w p cs t) (o : Obj) : Rw (w.alloc o) p cs t := h.keep ((Below.refl _ _).alloc (Nat.le_refl _) _)
theorem heap_set_ne (w : World) (p j : Nat) (v : Value) {k : Nat} (h : k ≠ p) : (w.setCell ⟨p, j, none⟩ v).heap[k]? = w.heap[k]? := heap_setCell_other w ⟨p, j, none⟩ k v h
end
theorem DK.rw {w : World} {p : Nat} {s z : Int} {m c : Nat} {rd fl : Int} (h : DK w p s z m c rd fl) : Rw w p (dk s z m c rd fl) 86 := ⟨h.blk⟩
def zs (n : Nat) : List Int := List.replicate n 0
theorem bs_zs (n : Nat) : bs (zs n) = zer n := by simp [bs, zs, zer]

/-- What Read leaves of a disk on which nothing was written. -/
def ReadsZ (w w' : World) (p : Nat) (s : Int) (n : Nat) (m c : Nat) (fl : Int) (v : Value) : Prop :=
  (∃ rd', DK w' p s n m c rd' fl) ∧ Chg (fun k => k = p) w w' ∧ ∃ g, v = .slice (some ⟨g, 0, none⟩) n n ∧ w.heap.size ≤ g ∧ Rw w' g (zer n).toArray 5

set_option maxRecDepth 100000 in
set_option maxHeartbeats 2000000 in
theorem read_yes {w : World} {p : Nat} {s : Int} {n : Nat} {m c : Nat} {rd fl : Int} (h : DK w p s n m c rd fl) (hn : n ≤ 4096) (i : Int) (h0 : 0 ≤ i) (h1 : i < s) (hs : s ≤ 65536) :
    Calls Try.prog 44 #[.pointer (some ⟨p, 0, none⟩), .int .i64 i] w fun e w' => ∃ v, e = .returned (.tuple #[v, .int .i64 0]) ∧ ReadsZ w w' p s n m c fl v := by
  have hhas := has_any h i
  rw [decide_eq_true ⟨h0, h1⟩] at hhas
  have HH : Hid _ := hhas
  have hwf : (Lit.int .i64 i).wf = true := WalkArith.wf_i64 (by omega)
  have r0 := h.rw
  have c2 : w.cell? ⟨p, 2, none⟩ = some (.int .i32 0) := h.cell 2
  have c4 : w.cell? ⟨p, 4, none⟩ = some (.int .u32 0) := h.cell 4
  have c5 : w.cell? ⟨p, 5, none⟩ = some (.int .u32 0) := h.cell 5
  have c6 : w.cell? ⟨p, 6, none⟩ = some (.int .i32 0) := h.cell 6
  have f6 := h.fr 6
  have hmk := run_mk n (by omega)
  have HD : Hid _ := h
  have R0 : Hid _ := r0
  clear h r0 hhas
  go_enter_defers Try.func44, Try.ntmps44
  go_wp2_with (first | (go_at_call 36; refine Calls.mono HH.out ?_; rintro e w9 ⟨rfl, h9⟩; have h9 := h9.symm; subst h9))
  refine (rlock_open Try.rwRLib p 2 0 _ _ _ c2 c5 c6 f6 (by rw [wr1]; decide)).mono ?_
  rintro e w' ⟨rfl, rfl⟩
  rw [wr1]
  obtain ⟨w1, hw1⟩ : ∃ w1, w1 = w.setCell ⟨p, 2 + 4, none⟩ (.int .i32 1) := ⟨_, rfl⟩
  rw [← hw1]
  have r1 : Rw w1 p ((dk s n m c rd fl).setIfInBounds 6 (.int .i32 1)) 86 := by rw [hw1]; exact R0.out.set 6 _
  have m1 : w1.heap[m]? = some (.map #[] 0) := by rw [hw1, heap_set_ne _ _ _ _ HD.out.pm]; exact HD.out.mm
  have n1 : w1.heap[c]? = some (.map #[] 0) := by rw [hw1, heap_set_ne _ _ _ _ HD.out.pc]; exact HD.out.mc
  have C1 : Hid (Chg (fun k => k = p) w w1) := by rw [hw1]; exact (Chg.refl (fun k => k = p) w).setCell (.inl rfl) _
  have R1 : Hid _ := r1
  have M1 : Hid _ := m1
  have N1 : Hid _ := n1
  have d12 : w1.cell? ⟨p, 12, none⟩ = some (.bool false) := r1.cell 12
  have d1 : w1.cell? ⟨p, 1, none⟩ = some (.int .i64 n) := r1.cell 1
  clear c2 c4 c5 c6 f6 hw1 r1 m1 n1 R0 HH
  go_wp2_with fail
  obtain ⟨w2, hw2⟩ : ∃ w2, w2 = w1.alloc (.cells (zer n).toArray 5) := ⟨_, rfl⟩
  rw [← hw2]
  have hsz1 : w.heap.size ≤ w1.heap.size := C1.out.size
  have R2 : Hid (Rw w2 p ((dk s n m c rd fl).setIfInBounds 6 (.int .i32 1)) 86) := by rw [hw2]; exact R1.out.alloc _
  have G2 : Hid (Rw w2 w1.heap.size (zer n).toArray 5) := by rw [hw2]; exact ⟨heap_alloc_new _ _⟩
  have M2 : Hid (w2.heap[m]? = some (.map #[] 0)) := by rw [hw2, Below.heap_alloc _ _ _ (Array.getElem?_eq_some_iff.1 M1.out).1]; exact M1.out
  have N2 : Hid (w2.heap[c]? = some (.map #[] 0)) := by rw [hw2, Below.heap_alloc _ _ _ (Array.getElem?_eq_some_iff.1 N1.out).1]; exact N1.out
  have C2 : Hid (Chg (fun k => k = p) w w2) := by rw [hw2]; exact C1.out.alloc _
  have pne : p ≠ w1.heap.size := Nat.ne_of_lt R1.out.lt
  clear hw2 R1 M1 N1 C1 d12 d1 hmk
  refine Calls.mono (latest_any M2.out N2.out (R2.out.cell 8) (R2.out.cell 9) i hwf) ?_
  rintro e w9 ⟨rfl, h9⟩
  have h9 := h9.symm
  subst h9
  go_wp2_with (refine wpList_copy_nothing rfl (.tmp 27) (.tmp 30) 48 48 rfl 5 Try.underlying48 (by kernel_rfl) _ _ _ _ _ _ rfl rfl (Nat.zero_min _) ?_)
  refine Calls.mono (u64add_any ⟨p, 14, none⟩ rd 1 w2 (R2.out.cell 14) (R2.out.fr 14)) ?_
  rintro e w9 ⟨q, -, rfl, rfl⟩
  have R3 := Rw.set R2.out 14 (.int .u64 q)
  have K3 : Hid (Rw (w2.setCell ⟨p, 14, none⟩ (.int .u64 q)) p _ 86) := R3
  have c2 := Rw.cell R3 2
  have c4 := Rw.cell R3 4
  have c6 := Rw.cell R3 6
  have f6 := Rw.fr R3 6
  clear R3
  go_wp2_with fail
  refine leaves_cons (f := 32) (args := #[.pointer (some ⟨p, 2, none⟩)]) (by simp) (by simp [go_sem]) ?_
  refine (runlock_deferred Try.rwRLib p 2 1 _ _ .returning _ c2 c4 c6 f6 (by rw [wr0]; decide)).mono ?_
  rintro e u' w'' ⟨rfl, rfl, rfl⟩
  refine ⟨_, results_tmp2 rfl _ _ _, _, rfl, ?_⟩
  rw [wr0]
  have K4 := Rw.set K3.out 6 (.int .i32 0)
  refine ⟨⟨q, K4.eq, ?_, ?_, HD.out.pm, HD.out.pc⟩, (C2.out.setCell (.inl rfl) _).setCell (.inl rfl) _, w1.heap.size, rfl, hsz1, ⟨?_⟩⟩
  · rw [heap_set_ne _ _ _ _ HD.out.pm, heap_set_ne _ _ _ _ HD.out.pm]; exact M2.out
  · rw [heap_set_ne _ _ _ _ HD.out.pc, heap_set_ne _ _ _ _ HD.out.pc]; exact N2.out
  · rw [heap_set_ne _ _ _ _ pne.symm, heap_set_ne _ _ _ _ pne.symm]; exact G2.out.eq

set_option maxRecDepth 100000 in
set_option maxHeartbeats 2000000 in
theorem read_no {w : World} {p : Nat} {s z : Int} {m c : Nat} {rd fl : Int} (h : DK w p s z m c rd fl) (i : Int) (h0 : ¬ (0 ≤ i ∧ i < s)) :
    Calls Try.prog 44 #[.pointer (some ⟨p, 0, none⟩), .int .i64 i] w fun e w' => e = .returned (.tuple #[.slice none 0 0, .int .i64 31]) ∧ w = w' := by
  have hhas := has_any h i
  rw [decide_eq_false h0] at hhas
  have HH : Hid _ := hhas
  clear h hhas h0
  go_enter_defers Try.func44, Try.ntmps44
  go_wp2_with (go_at_call 36; refine Calls.mono HH.out ?_; rintro e w9 ⟨rfl, h9⟩; have h9 := h9.symm; subst h9)
  exact ⟨_, results_tmp2 rfl _ _ _, rfl, rfl⟩
end Go.Proofs.Ytddnecfnjnipjaa
