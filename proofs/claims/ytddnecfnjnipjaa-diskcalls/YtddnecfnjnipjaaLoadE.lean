/-
  Image of a disk that was loaded; its other calls.
-/
import Derived.Test.YtddnecfnjnipjaaCache
import Derived.Deep.Cut
namespace Go.Proofs.Ytddnecfnjnipjaa
open Go.RowKit Go.RwLone

/-- An element, by its block. -/
def mkE (z : Nat) : Option Nat → Value
  | none => .slice none 0 0
  | some g => .slice (some ⟨g, 0, none⟩) z z
theorem mkE_inv (z : Nat) (v : Value) (y : DataW Unit × List MemPlace) (h : blkElem z v = some y) : ∃ c, v = mkE z c := by
  unfold blkElem at h
  split at h
  · exact ⟨none, rfl⟩
  · rename_i g n c
    split at h
    · rename_i hh
      obtain ⟨rfl, rfl⟩ := hh
      exact ⟨some g, rfl⟩
    · cases h
  · cases h
theorem mkE_block {z g : Nat} {c : Option Nat} {y : DataW Unit × List MemPlace} (h : blkElem z (mkE z c) = some y) (hy : y.1 = .lit (.int .i64 g)) : mkE z c = .slice (some ⟨g, 0, none⟩) z z := by
  obtain ⟨y1, y2⟩ := y
  simp only at hy
  subst hy
  exact blkElem_inv h

/-- While it ranges. -/
structure IM (w wr : World) (p m c : Nat) (rd : Int) (S z I : Nat) (gs : Nat → Nat) (D : DataW Unit) (T : List Int) (left : Lit → Bool) (cnt : Nat) : Prop where
  rg : wr.ranges Try.prog 3 (blkElem z) m (I + 1) S D left cnt
  row : Rw wr p ((dk S z m c rd 0).setIfInBounds 6 (.int .i32 1)) 86
  blk : ∀ i, i < S → Rw wr (gs i) (bs (piece T z i)).toArray 5
  im : Rw wr I (bs (img T z S left)).toArray 5
  mc : wr.heap[c]? = some (.map #[] 0)
  sub : ∀ kl, left kl = true → Maps.has D kl = true
  ch : Chg (fun k => k = p) w wr

set_option maxRecDepth 100000 in
set_option maxHeartbeats 4000000 in
theorem imageL {w : World} {p m c S z : Nat} {rd : Int} {gs : Nat → Nat} {D : DataW Unit} {T : List Int} (h : LD w p m c rd S z gs D T) (hz : z ≤ 4096) (hz0 : 0 < z) (hT : T.length = S * z) (_hS : S ≤ 65536) (hb : S * z ≤ 16777216) :
    Calls Try.prog 50 #[.pointer (some ⟨p, 0, none⟩)] w fun e w' => ∃ g, e = .returned (.slice (some ⟨g, 0, none⟩) (S * z) (S * z)) ∧ Rw w' g (bs T).toArray 5 ∧ LD w' p m c rd S z gs D T ∧ Chg (fun k => k = p) w w' := by
  obtain ⟨N, hN⟩ : ∃ N, N = S * z := ⟨_, rfl⟩
  have hmul : (S : Int) * (z : Int) = (N : Int) := by rw [hN, Int.natCast_mul]
  rw [← hN] at hb ⊢
  have r0 := h.row
  have c2 : w.cell? ⟨p, 2, none⟩ = some (.int .i32 0) := r0.cell 2
  have c5 : w.cell? ⟨p, 5, none⟩ = some (.int .u32 0) := r0.cell 5
  have c6 : w.cell? ⟨p, 6, none⟩ = some (.int .i32 0) := r0.cell 6
  have f6 := r0.fr 6
  have hmk := run_mk N (by omega)
  have HD : Hid _ := h
  have R0 : Hid _ := r0
  have HN : Hid _ := hN
  have HT : Hid _ := hT
  clear h r0 hN hT
  go_enter_defers Try.func50, Try.ntmps50
  go_wp2_with fail
  refine (rlock_open Try.rwRLib p 2 0 _ _ _ c2 c5 c6 f6 (by rw [wr1]; decide)).mono ?_
  rintro e w' ⟨rfl, rfl⟩
  rw [wr1]
  obtain ⟨w1, hw1⟩ : ∃ w1, w1 = w.setCell ⟨p, 2 + 4, none⟩ (.int .i32 1) := ⟨_, rfl⟩
  rw [← hw1]
  have r1 : Rw w1 p ((dk S z m c rd 0).setIfInBounds 6 (.int .i32 1)) 86 := by rw [hw1]; exact R0.out.set 6 _
  have hc1 : Chg (fun k => k = p) w w1 := by rw [hw1]; exact (Chg.refl (fun k => k = p) w).setCell (.inl rfl) _
  have C1 : Hid _ := hc1
  have R1 : Hid _ := r1
  have M1 : Hid _ := Mp.chg HD.out.mp hc1 HD.out.pm
  have N1 : Hid (w1.heap[c]? = some (.map #[] 0)) := hc1.heap_some HD.out.mc HD.out.pc
  have G1 : Hid (∀ j, j < S → Rw w1 (gs j) (bs (piece T z j)).toArray 5) := fun j hj => Rw.chg1 (HD.out.blk j hj) hc1 (Rw.ne (HD.out.blk j hj) R0.out (by decide))
  clear c2 c5 c6 f6 hw1 r1 R0 hc1
  go_upto_region 3 with fail
  refine wp_region_noPanic ?_
  refine wp_region_held_drew (S := fun w' => w'.cell? ⟨p, 0, none⟩ = some (.int .i64 S) ∧ w'.cell? ⟨p, 1, none⟩ = some (.int .i64 z)) (by kernel_rfl) ⟨Rw.cell R1.out 0, Rw.cell R1.out 1⟩ (fun hH => ?_)
  refine wpAnyH_take (i := 0) (v := .pointer (some ⟨p, 0, none⟩)) rfl (by kernel_rfl) (by kernel_rfl) (by kernel_rfl) (fun _ _ _ h => h) (Or.inl ⟨by rfl, fun w' _ => by go_simp⟩) hH ?_
  refine wpAnyH_take (i := 1) (v := .pointer (some ⟨p, 0, none⟩)) rfl (by kernel_rfl) (by kernel_rfl) (by kernel_rfl) (fun _ _ _ h => h) (Or.inl ⟨by rfl, fun w' _ => by go_simp⟩) hH ?_
  refine wpAnyH_take (i := 2) (v := .pointer (some ⟨p, 0, none⟩)) rfl (by kernel_rfl) (by kernel_rfl) (by kernel_rfl) (fun _ _ _ h => h) (Or.inl ⟨by rfl, fun w' _ => by go_simp⟩) hH ?_
  refine wpAnyH_take (i := 3) (v := .int .i64 S) rfl (by kernel_rfl) (by kernel_rfl) (by kernel_rfl) (fun _ _ _ h => h) (Or.inl ⟨by rfl, fun w' hw' => by have h2 := hw'.1; go_simp⟩) hH ?_
  refine wpAnyH_take (i := 4) (v := .pointer (some ⟨p, 0, none⟩)) rfl (by kernel_rfl) (by kernel_rfl) (by kernel_rfl) (fun _ _ _ h => h) (Or.inl ⟨by rfl, fun w' _ => by go_simp⟩) hH ?_
  refine wpAnyH_take (i := 5) (v := .pointer (some ⟨p, 0, none⟩)) rfl (by kernel_rfl) (by kernel_rfl) (by kernel_rfl) (fun _ _ _ h => h) (Or.inl ⟨by rfl, fun w' _ => by go_simp⟩) hH ?_
  refine wpAnyH_take (i := 6) (v := .pointer (some ⟨p, 1, none⟩)) rfl (by kernel_rfl) (by kernel_rfl) (by kernel_rfl) (fun _ _ _ h => h) (Or.inl ⟨by rfl, fun w' _ => by go_simp⟩) hH ?_
  refine wpAnyH_take (i := 7) (v := .int .i64 z) rfl (by kernel_rfl) (by kernel_rfl) (by kernel_rfl) (fun _ _ _ h => h) (Or.inl ⟨by rfl, fun w' hw' => by have h2 := hw'.2; go_simp⟩) hH ?_
  refine wpAnyH_take (i := 8) (v := .int .i64 N) rfl (by kernel_rfl) (by kernel_rfl) (by kernel_rfl) (fun _ _ _ h => h) (Or.inl ⟨by rfl, fun w' _ => by go_simp; exact IntWalk.i64_in _ (by omega)⟩) hH ?_
  refine wpAnyH_ready (rs := [9]) (by kernel_rfl) (by simp) ?_
  refine AllReadyH.cons rfl (fun K hK => ?_) AllReadyH.nil
  go_simp
  obtain ⟨w2, hw2⟩ : ∃ w2, w2 = (w1.alloc (.cells (zer N).toArray 5)).drew := ⟨_, rfl⟩
  have hb2 : Below w1.heap.size w1 w2 := by rw [hw2]; exact ((Below.refl _ _).alloc (Nat.le_refl _) _).drew
  have R2 : Hid _ := Rw.keep R1.out hb2
  have I2 : Hid (Rw w2 w1.heap.size (zer N).toArray 5) := by rw [hw2]; exact ⟨heap_alloc_new _ _⟩
  have hs2 : w2.heap.size = w1.heap.size + 1 := by rw [hw2]; show (w1.alloc _).heap.size = _; simp
  rw [← hw2]
  have M2 : Hid (Mp w2 m S z gs D) := by rw [hw2]; exact ⟨(M1.out.own.alloc _).drew, M1.out.at_, M1.out.has⟩
  clear hw2
  refine hK.out _ _ ⟨Rw.cell R2.out 0, Rw.cell R2.out 1⟩ (fun hS2 => ?_)
  clear hK K
  refine wpAnyH_ready (rs := [10]) (by kernel_rfl) (by simp) ?_
  refine AllReadyH.cons rfl (fun K hK => ?_) AllReadyH.nil
  go_simp
  refine hK.out _ _ hS2 (fun _ => ?_)
  clear hK K
  refine wpAnyH_done (by kernel_rfl) (NoPanic.normal ?_) _
  have N2 : Hid (w2.heap[c]? = some (.map #[] 0)) := by rw [hb2.block _ (Array.getElem?_eq_some_iff.1 N1.out).1]; exact N1.out
  have G2 : Hid (∀ j, j < S → Rw w2 (gs j) (bs (piece T z j)).toArray 5 ∧ gs j < w1.heap.size) := fun j hj => ⟨Rw.keep (G1.out j hj) hb2, Rw.lt (G1.out j hj)⟩
  have C2 : Hid (Chg (fun k => k = p) w w2) := C1.out.trans (Chg.of_below hb2 (fun _ => False)) (fun _ h => h.elim)
  have plt : p < w1.heap.size := Rw.lt R1.out
  have hsw : w.heap.size ≤ w1.heap.size := C1.out.size
  have mlt : m < w1.heap.size := Mp.lt M1.out
  have clt : c < w1.heap.size := (Array.getElem?_eq_some_iff.1 N1.out).1
  have d8 : w2.cell? ⟨p, 8, none⟩ = some (.map (some m)) := Rw.cell R2.out 8
  clear hb2 hS2 hH hmk R1 M1 N1 C1 G1
  go_wp2_with (first | (at_range; refine wpList_range_own _ rfl (.tmp 26) 80 rfl 3 48 keyed3 Try.underlying80 (blkElem z) m S D rfl M2.out.own ?_; intro w0 hrg0 hg0 hs0; have RG0 : Hid _ := hrg0; have HG0 : Hid _ := hg0; have HS0 : Hid _ := hs0; clear hrg0 hg0 hs0) | go_in)
  try go_frame
  have hb0 : Below w2.heap.size w2 w0 := ⟨HG0.out.os, HG0.out.tape, HG0.out.output, HG0.out.size, fun k hk => HG0.out.block k hk (by simp)⟩
  have K0 : Hid (IM w w0 p m c rd S z w1.heap.size gs D T (Maps.has D) (Maps.size D)) := by
    refine ⟨by have := RG0.out; rw [hs2] at this; exact this, Rw.keep R2.out hb0, fun i hi => Rw.keep (G2.out i hi).1 hb0, ?_, by rw [hb0.block _ (Array.getElem?_eq_some_iff.1 N2.out).1]; exact N2.out, fun _ h => h, C2.out.trans (Chg.of_below hb0 (fun _ => False)) (fun _ h => h.elim)⟩
    rw [img_start T z S (Maps.has D) (fun i hi => (HD.out.mp.has _).2 ⟨i, hi, rfl⟩), ← HN.out]
    exact Rw.keep I2.out hb0
  rw [hs2]
  have GL : Hid (∀ j, j < S → gs j < w1.heap.size) := fun j hj => (G2.out j hj).2
  clear hb0 RG0 HG0 HS0 R2 I2 M2 N2 G2 C2 d8
  go_loopw [4] (fun _ wr => ∃ left cnt, IM w wr p m c rd S z w1.heap.size gs D T left cnt) (fun _ wr => wr.rangeLeft m (w1.heap.size + 1))
  case atStart => exact ⟨_, _, K0.out⟩
  case round =>
    obtain ⟨left, cnt, him⟩ := hrel
    have HI : Hid _ := him
    clear him
    go_wp2_with (first | (at_next; refine wpList_next_ranges _ rfl (.tmp 27) rfl 3 keyed3 (blkElem z) (Value.int .i64) (mkE z) (fun key kl hkey => by obtain ⟨x, rfl, _⟩ := Maps.keyOf_int_inv Try.underlying3 hkey; exact ⟨x, rfl⟩) (mkE_inv z) m (w1.heap.size + 1) S D left cnt rfl HI.out.rg ?_ ?_) | go_in)
    · intro _ hl0
      have e9 := img_end T z S left HT.out hl0
      have im9 := HI.out.im
      rw [e9] at im9
      have IM9 : Hid _ := im9
      clear hl0 e9 im9
      go_wp2_with fail
      refine leaves_cons (f := 32) (args := #[.pointer (some ⟨p, 2, none⟩)]) (by simp) (by simp [go_sem]) ?_
      refine (runlock_deferred Try.rwRLib p 2 1 _ _ .returning _ (Rw.cell HI.out.row 2) (Rw.cell HI.out.row 4) (Rw.cell HI.out.row 6) (Rw.fr HI.out.row 6) (by rw [wr0]; decide)).mono ?_
      rintro e u' w'' ⟨rfl, rfl, rfl⟩
      refine ⟨_, results_tmp rfl _ _ _, w1.heap.size, rfl, ?_⟩
      rw [wr0]
      have c4 : Chg (fun k => k = p) wr (wr.setCell ⟨p, 2 + 4, none⟩ (.int .i32 0)) := (Chg.refl (fun k => k = p) wr).setCell (.inl rfl) _
      have K4 := Rw.set HI.out.row 6 (.int .i32 0)
      refine ⟨Rw.chg1 IM9.out c4 (by omega), ⟨K4, Mp.chg ⟨HI.out.rg.owns, HD.out.mp.at_, HD.out.mp.has⟩ c4 HD.out.pm, c4.heap_some HI.out.mc HD.out.pc, fun j hj => Rw.chg1 (HI.out.blk j hj) c4 (Rw.ne (HD.out.blk j hj) HD.out.row (by decide)), HD.out.pm, HD.out.pc⟩, HI.out.ch.trans c4 (fun _ e => .inl e)⟩
    · intro x e0 kl y1 y2 wn cnt1 hkey hlk hv hat hrg1 hlt hg1 hs1 hen
      obtain ⟨i, hi, hkl⟩ := (HD.out.mp.has kl).1 (HI.out.sub kl hlk)
      obtain ⟨x', ex, ekl, _⟩ := Maps.keyOf_int_inv Try.underlying3 hkey
      rw [hkl] at ekl
      injection ekl with _ ekl
      injection ex with _ ex
      have hxi : x = (i : Int) := by omega
      have hy1 : y1 = .lit (.int .i64 (gs i)) := by rw [← hat .nil, hkl]; exact HD.out.mp.at_ i hi
      have hE := mkE_block (y := (y1, y2)) hv hy1
      rw [hE, hxi] at hen
      rw [hE, hxi]
      have hp := piece_len HT.out hi
      obtain ⟨L, hL⟩ : ∃ L, L = i * z := ⟨_, rfl⟩
      have hm1 : (i : Int) * (z : Int) = (L : Int) := by rw [hL, Int.natCast_mul]
      have hLz : L + z ≤ N := by
        have := Nat.mul_le_mul_right z hi
        rw [Nat.succ_mul, ← hL, ← HN.out] at this
        exact this
      have hne : ¬ N = L := by omega
      have hch1 : Chg (fun k => k = w1.heap.size + 1) wr wn := ⟨hg1.os, hg1.tape, hg1.output, hg1.size, fun k hk hn => hg1.block k hk (by simpa using hn)⟩
      have row1 := Rw.chg1 HI.out.row hch1 (by omega)
      have d1 : wn.cell? ⟨p, 1, none⟩ = some (.int .i64 z) := Rw.cell row1 1
      have IN : Hid _ := Rw.chg1 HI.out.im hch1 (by omega)
      have GN : Hid _ := Rw.chg1 (HI.out.blk i hi) hch1 (by have := GL.out i hi; omega)
      have HC1 : Hid _ := hch1
      have HRG : Hid _ := hrg1
      have HP : Hid _ := hp
      have HLL : Hid _ := hL
      have HKL : Hid _ := hkl
      have HLT : Hid _ := hlt
      clear hrg1 hg1 hs1 hat hv hy1 hkey hlk hE hxi ekl ex hch1 row1 hp hL hkl hlt
      go_wp2_with (refine wpList_copy_to rfl (.tmp 40) (.tmp 41) rfl w1.heap.size L (N - L) (N - L) ⟨gs i, 0, none⟩ z z rfl rfl IN.out (bs (piece T z i)) (by rw [bs_len, HP.out]; exact (Nat.min_eq_left (by omega)).symm) (fun j v hv => by rw [addr_add, Nat.zero_add, Rw.cell GN.out j]; simpa using hv) (by rw [bs_len, bs_len, HP.out, img_len, ← HN.out]; exact hLz) (bs_one _) ?_; intro w5 r5 c5; have R5 : Hid _ := r5; have C5 : Hid _ := c5; clear r5 c5; try go_frame)
      have K5 : Hid (IM w w5 p m c rd S z w1.heap.size gs D T (fun y => left y && !y.sameKey kl) cnt1) := by
        have r5 := R5.out
        rw [HLL.out, img_step T z S left hz0 HT.out i hi] at r5
        refine ⟨World.ranges.kept HRG.out (grown_of C5.out) (by simp; omega) (by simp), Rw.chg1 (Rw.chg1 HI.out.row HC1.out (by omega)) C5.out (by omega), fun j hj => Rw.chg1 (Rw.chg1 (HI.out.blk j hj) HC1.out (by have := GL.out j hj; omega)) C5.out (by have := GL.out j hj; omega), ?_, C5.out.heap_some (HC1.out.heap_some HI.out.mc (by omega)) (by omega), fun kl2 h => HI.out.sub kl2 (by simp at h; exact h.1), ?_⟩
        · rw [HKL.out]; exact r5
        · exact (HI.out.ch.trans HC1.out (fun k e => .inr (by omega))).trans C5.out (fun k e => .inr (by omega))
      go_roundw
      case rel => exact ⟨_, _, K5.out⟩
      case measure => rw [K5.out.rg.left_eq, HI.out.rg.left_eq]; exact HLT.out
end Go.Proofs.Ytddnecfnjnipjaa
