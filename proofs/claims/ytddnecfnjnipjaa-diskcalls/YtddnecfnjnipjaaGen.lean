/-
  A disk's row in general: Fuse, burn, Off; what the laws make their bytes of.
-/
import Derived.Test.YtddnecfnjnipjaaLoadA
import Derived.Deep.Cut
namespace Go.Proofs.Ytddnecfnjnipjaa
open Go.RowKit Go.RwLone

/-- The numbers of a disk. -/
structure Nums where
  pend : Int
  fuse : Int
  off : Bool
  era : Int
  rd : Int
  wr : Int
  fl : Int

/-- A disk's cells: s sectors of z bytes, its maps in blocks m and c. -/
def dkG (s z : Int) (m c : Nat) (x : Nums) : Array Value := #[.int .i64 s, .int .i64 z, .int .i32 0, .int .u32 0, .int .u32 0, .int .u32 0, .int .i32 0, .int .i32 0, .map (some m), .map (some c), .int .i64 x.pend, .int .i64 x.fuse, .bool x.off, .int .i64 x.era, .int .u64 x.rd, .int .u64 x.wr, .int .u64 x.fl]

/-- What burn leaves of the numbers, and what it answers. -/
def burnN (x : Nums) : Nums := if x.off ∨ x.fuse = 0 then { x with off := true } else if x.fuse = -1 then x else { x with fuse := x.fuse - 1 }
def burnE (x : Nums) : Int := if x.off ∨ x.fuse = 0 then 32 else 0

section
variable {w : World} {p : Nat} {cs : Array Value}
theorem Rw.two (h : Rw w p cs 86) (i j : Nat) (u v : Value) : Rw ((w.setCell ⟨p, i, none⟩ u).setCell ⟨p, j, none⟩ v) p ((cs.setIfInBounds i u).setIfInBounds j v) 86 := Rw.set (Rw.set h i u) j v
end

/-- The row while its writer's lock is held. -/
def heldG (s z : Int) (m c : Nat) (x : Nums) : Array Value := ((dkG s z m c x).setIfInBounds 2 (.int .i32 1)).setIfInBounds 6 (.int .i32 (-1073741824))

set_option maxRecDepth 100000 in
set_option maxHeartbeats 2000000 in
theorem burn_held {w : World} {p m c : Nat} {s z : Int} {x : Nums} (h : Rw w p (heldG s z m c x) 86) (hf : -1 ≤ x.fuse) (hf2 : x.fuse ≤ 9223372036854775807) :
    Calls Try.prog 39 #[.pointer (some ⟨p, 0, none⟩)] w fun e w' => e = .returned (.int .i64 (burnE x)) ∧ Rw w' p (heldG s z m c (burnN x)) 86 ∧ Chg (fun k => k = p) w w' := by
  obtain ⟨pend, fuse, off, era, rd, wr, fl⟩ := x
  simp only at hf hf2
  have h11 : w.cell? ⟨p, 11, none⟩ = some (.int .i64 fuse) := Rw.cell h 11
  have h12 : w.cell? ⟨p, 12, none⟩ = some (.bool off) := Rw.cell h 12
  have f11 := Rw.fr h 11
  have f12 := Rw.fr h 12
  have H : Hid _ := h
  clear h
  by_cases h0 : fuse = 0
  · subst h0
    have k12 : (w.setCell ⟨p, 12, none⟩ (.bool true)).cell? ⟨p, 12, none⟩ = some (.bool true) := Rw.cell (Rw.set H.out 12 (.bool true)) 12
    go_enter Try.func39, Try.ntmps39
    go_wp2_with fail
    go_ret
    refine ⟨by simp [burnE], ?_, (Chg.refl (fun k => k = p) w).setCell (.inl rfl) _⟩
    have e : burnN ⟨pend, 0, off, era, rd, wr, fl⟩ = ⟨pend, 0, true, era, rd, wr, fl⟩ := by simp [burnN]
    rw [e]
    exact Rw.set H.out 12 (.bool true)
  · cases off with
    | true =>
      go_enter Try.func39, Try.ntmps39
      go_wp2_with fail
      go_ret
      refine ⟨by simp [burnE], ?_, Chg.refl _ _⟩
      have e : burnN ⟨pend, fuse, true, era, rd, wr, fl⟩ = ⟨pend, fuse, true, era, rd, wr, fl⟩ := by simp [burnN]
      rw [e]
      exact H.out
    | false =>
      by_cases h1 : fuse = -1
      · subst h1
        go_enter Try.func39, Try.ntmps39
        go_wp2_with fail
        go_ret
        refine ⟨by simp [burnE], ?_, Chg.refl _ _⟩
        have e : burnN ⟨pend, -1, false, era, rd, wr, fl⟩ = ⟨pend, -1, false, era, rd, wr, fl⟩ := by simp [burnN]
        rw [e]
        exact H.out
      · go_enter Try.func39, Try.ntmps39
        go_wp2_with fail
        go_ret
        refine ⟨by simp [burnE, h0], ?_, (Chg.refl (fun k => k = p) w).setCell (.inl rfl) _⟩
        have e : burnN ⟨pend, fuse, false, era, rd, wr, fl⟩ = ⟨pend, fuse - 1, false, era, rd, wr, fl⟩ := by simp [burnN, h0, h1]
        rw [e]
        exact Rw.set H.out 11 (.int .i64 (fuse - 1))

set_option maxRecDepth 100000 in
set_option maxHeartbeats 2000000 in
theorem fuse_any {w : World} {p m c : Nat} {s z : Int} {x : Nums} (h : Rw w p (dkG s z m c x) 86) (n : Int) (_hn : -9223372036854775808 ≤ n) (_hn2 : n ≤ 9223372036854775807) :
    Calls Try.prog 14 #[.pointer (some ⟨p, 0, none⟩), .int .i64 n] w fun e w' => e = .returned (.tuple #[]) ∧ Rw w' p (dkG s z m c (if x.off then x else { x with fuse := max n (-1) })) 86 ∧ Chg (fun k => k = p) w w' := by
  obtain ⟨pend, fuse, off, era, rd, wr, fl⟩ := x
  have c2 : w.cell? ⟨p, 2, none⟩ = some (.int .i32 0) := Rw.cell h 2
  have c4 : w.cell? ⟨p, 4, none⟩ = some (.int .u32 0) := Rw.cell h 4
  have c5 : w.cell? ⟨p, 5, none⟩ = some (.int .u32 0) := Rw.cell h 5
  have c6 : w.cell? ⟨p, 6, none⟩ = some (.int .i32 0) := Rw.cell h 6
  have f6 := Rw.fr h 6
  have f2 := Rw.fr h 2
  have H : Hid _ := h
  clear h
  go_enter_defers Try.func14, Try.ntmps14
  go_wp2_with fail
  refine (wlock_free Try.rwWLib p 2 _ _ _ c2 c4 c5 c6 f2 f6).mono ?_
  rintro e w' ⟨rfl, rfl⟩
  have R1 := Rw.two H.out 2 6 (.int .i32 1) (.int .i32 (-1073741824))
  obtain ⟨w1, hw1⟩ : ∃ w1, w1 = (w.setCell ⟨p, 2, none⟩ (.int .i32 1)).setCell ⟨p, 6, none⟩ (.int .i32 (-1073741824)) := ⟨_, rfl⟩
  rw [← hw1] at R1
  have e1 : (w.setCell ⟨p, 2, none⟩ (.int .i32 1)).setCell ⟨p, 2 + 4, none⟩ (.int .i32 (-1073741824)) = w1 := hw1.symm
  rw [e1]
  have K1 : Hid _ := R1
  have C1 : Hid (Chg (fun k => k = p) w w1) := by rw [hw1]; exact ((Chg.refl (fun k => k = p) w).setCell (.inl rfl) _).setCell (.inl rfl) _
  have d12 : w1.cell? ⟨p, 12, none⟩ = some (.bool off) := Rw.cell R1 12
  have d11 : w1.cell? ⟨p, 11, none⟩ = some (.int .i64 fuse) := Rw.cell R1 11
  have f11 := Rw.fr R1 11
  clear c2 c4 c5 c6 f2 f6 R1 hw1 e1
  cases off with
  | true =>
    go_wp2_with fail
    refine leaves_cons (f := 38) (args := #[.pointer (some ⟨p, 2, none⟩)]) (by simp) (by simp [go_sem]) ?_
    refine (wunlock_deferred Try.rwWLib p 2 _ _ .returning _ (Rw.cell K1.out 2) (Rw.cell K1.out 4) (Rw.cell K1.out 5) (Rw.cell K1.out 6) (Rw.fr K1.out 2) (Rw.fr K1.out 6)).mono ?_
    rintro e u' w'' ⟨rfl, rfl, rfl⟩
    exact ⟨_, results_none rfl _ _ _, rfl, Rw.two K1.out 6 2 (.int .i32 0) (.int .i32 0), (C1.out.setCell (.inl rfl) _).setCell (.inl rfl) _⟩
  | false =>
    have fin : ∀ v : Int, v = max n (-1) → CallsD Try.prog 38 #[.pointer (some ⟨p, 2, none⟩)] .returning (w1.setCell ⟨p, 11, none⟩ (.int .i64 v)) fun e u' w'' => e = .returned (.tuple #[]) ∧ u' = .returning ∧ Rw w'' p (dkG s z m c ⟨pend, max n (-1), false, era, rd, wr, fl⟩) 86 ∧ Chg (fun k => k = p) w w'' := by
      intro v hv
      have K2 := Rw.set K1.out 11 (.int .i64 v)
      refine (wunlock_deferred Try.rwWLib p 2 _ _ .returning _ (Rw.cell K2 2) (Rw.cell K2 4) (Rw.cell K2 5) (Rw.cell K2 6) (Rw.fr K2 2) (Rw.fr K2 6)).mono ?_
      rintro e u' w'' ⟨rfl, rfl, rfl⟩
      refine ⟨rfl, rfl, ?_, ((C1.out.setCell (.inl rfl) _).setCell (.inl rfl) _).setCell (.inl rfl) _⟩
      rw [← hv]
      exact Rw.two K2 6 2 (.int .i32 0) (.int .i32 0)
    have FIN : Hid _ := fin
    clear fin
    go_wp2_with fail
    all_goals (refine leaves_cons (f := 38) (args := #[.pointer (some ⟨p, 2, none⟩)]) (by simp) (by simp [go_sem]) ?_; refine CallsD.mono (FIN.out _ (by omega)) ?_; rintro e u2 w2 ⟨rfl, rfl, hr, hc⟩; exact ⟨_, results_none rfl _ _ _, rfl, hr, hc⟩)

/-- An act's cells. -/
def actC (on kd nm fill less at_ mask : Int) (kp : Value) (torn : Int) : List Value := [.int .i64 on, .int .i64 kd, .int .i64 nm, .int .u8 fill, .int .i64 less, .int .i64 at_, .int .u8 mask, kp, .int .i64 torn]
/-- The bytes of a write. -/
def byteW (fill : Int) (k : Nat) : Int := (fill + ((k : Int) % 7) * 31) % 256
def wrB (fill : Int) (n : Nat) : List Int := (List.range n).map (byteW fill)
theorem wrB_len (fill : Int) (n : Nat) : (wrB fill n).length = n := by simp [wrB]
theorem wrB_put (fill : Int) (n k : Nat) (h : k < n) : ((bs (wrB fill k) ++ zer (n - k)).toArray).setIfInBounds k (.int .u8 (byteW fill k)) = (bs (wrB fill (k + 1)) ++ zer (n - (k + 1))).toArray := by
  have e : zer (n - k) = .int .u8 0 :: zer (n - (k + 1)) := by
    unfold zer
    rw [show n - k = (n - (k + 1)) + 1 by omega, List.replicate_succ]
  rw [e, List.setIfInBounds_toArray, List.set_append_right _ _ (by simp [bs, wrB])]
  simp [bs, wrB, List.range_succ]

set_option maxRecDepth 100000 in
set_option maxHeartbeats 2000000 in
theorem written_fit {w : World} (z : Int) (on kd nm fill less at_ mask : Int) (kp : Value) (torn : Int) (n : Nat) (hn : z - less = n) (hn2 : n ≤ 8192) (_hz0 : 0 ≤ z) (_hz : z ≤ 8192) (_hf : 0 ≤ fill ∧ fill ≤ 255) :
    Calls Try.prog 22 #[.int .i64 z, .agg (actC on kd nm fill less at_ mask kp torn).toArray] w fun e w' => ∃ g, e = .returned (.slice (some ⟨g, 0, none⟩) n n) ∧ Rw w' g (bs (wrB fill n)).toArray 5 ∧ w.heap.size ≤ g ∧ Below w.heap.size w w' := by
  have hmk := run_mk n (by omega)
  obtain ⟨W, hW⟩ : ∃ W, W = w.alloc (.cells (actC on kd nm fill less at_ mask kp torn).toArray 44) := ⟨_, rfl⟩
  have R0 : Hid (Rw W w.heap.size (actC on kd nm fill less at_ mask kp torn).toArray 44) := by rw [hW]; exact ⟨heap_alloc_new _ _⟩
  have B0 : Hid (Below w.heap.size w W) := by rw [hW]; exact (Below.refl _ _).alloc (Nat.le_refl _) _
  have HWS : Hid (W.heap.size = w.heap.size + 1) := by show W.heap.size = _; rw [hW]; simp
  have d4 : W.cell? ⟨w.heap.size, 4, none⟩ = some (.int .i64 less) := Rw.cell R0.out 4
  go_enter Try.func22, Try.ntmps22
  go_upto_region 1 with fail
  rw [← hW]
  clear hW
  have hWs : W.heap.size = w.heap.size + 1 := HWS.out
  go_wp2_with fail
  have S0 : Hid (Rw (W.alloc (.cells (zer n).toArray 5)) (w.heap.size + 1) (bs (wrB fill 0) ++ zer (n - 0)).toArray 5 ∧ Rw (W.alloc (.cells (zer n).toArray 5)) w.heap.size (actC on kd nm fill less at_ mask kp torn).toArray 44 ∧ Below w.heap.size w (W.alloc (.cells (zer n).toArray 5))) := by
    refine ⟨?_, Rw.alloc R0.out _, Below.alloc B0.out B0.out.size _⟩
    have := heap_alloc_new W (.cells (zer n).toArray 5)
    rw [hWs] at this
    exact ⟨by simpa [wrB, bs] using this⟩
  obtain ⟨W1, hW1⟩ : ∃ W1, W1 = W.alloc (.cells (zer n).toArray 5) := ⟨_, rfl⟩
  rw [← hW1] at S0 ⊢
  clear hW1 hmk d4
  go_loopw [7] (fun x wr => ∃ k : Nat, k ≤ n ∧ x = .int .i64 k ∧ Rw wr (w.heap.size + 1) (bs (wrB fill k) ++ zer (n - k)).toArray 5 ∧ Rw wr w.heap.size (actC on kd nm fill less at_ mask kp torn).toArray 44 ∧ Below w.heap.size w wr) (fun x _ => n - (intOf x).toNat)
  case atStart => exact ⟨0, Nat.zero_le _, rfl, S0.out⟩
  case round =>
    obtain ⟨k, hk, rfl, h1, h2, h3⟩ := hrel
    by_cases hlt : k < n
    · have d3 : wr.cell? ⟨w.heap.size, 3, none⟩ = some (.int .u8 fill) := Rw.cell h2 3
      have dk : wr.cell? ⟨w.heap.size + 1, k, none⟩ = some (.int .u8 0) := by
        rw [Rw.cell h1 k, List.getElem?_toArray, List.getElem?_append_right (by simp [bs, wrB])]
        have : k - (bs (wrB fill k)).length = 0 := by simp [bs, wrB]
        rw [this]
        unfold zer
        rw [List.getElem?_replicate_of_lt (by omega)]
      have fk := Rw.fr h1 k
      have R1 : Hid _ := Rw.set h1 k (.int .u8 (byteW fill k))
      have R2 : Hid _ := h2
      have B2 : Hid _ := h3
      clear h1 h2 h3
      go_wp2_with fail
      go_roundw
      case rel =>
        have ch : Chg (fun i => i = w.heap.size + 1) wr (wr.setCell ⟨w.heap.size + 1, k, none⟩ (.int .u8 (byteW fill k))) := (Chg.refl (fun i => i = w.heap.size + 1) wr).setCell (.inl rfl) _
        refine ⟨k + 1, by omega, by go_num, ?_, Rw.chg1 R2.out ch (by omega), B2.out.trans (ch.below B2.out.size (fun i e => by omega))⟩
        have := R1.out
        rw [wrB_put fill n k hlt] at this
        exact this
      case measure => simp [intOf]; omega
    · have hkn : k = n := by omega
      subst hkn
      have R1 : Hid _ := h1
      have B2 : Hid _ := h3
      clear h1 h2 h3
      go_wp2_with fail
      go_ret
      refine ⟨_, rfl, ?_, Nat.le_succ _, B2.out⟩
      have := R1.out
      rw [Nat.sub_self] at this
      simpa [zer] using this
end Go.Proofs.Ytddnecfnjnipjaa
