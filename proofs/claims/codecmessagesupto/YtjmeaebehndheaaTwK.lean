import Derived.Test.YtjmeaebehndheaaEq
import Derived.Test.YtjmeaebehndheaaTwA
/-
  The reading of a leaf: the code's way.
-/
namespace Go.Proofs.Ytjmeaebehndheaa
open Go.RowKit

theorem leafC_one (n : Nat) (z : List Int) : ∀ u ∈ leafC n z, u.oneCell' = true := by
  intro u hu
  rcases List.mem_cons.1 hu with rfl | hu
  · rfl
  · exact bs_one z u hu
theorem leafC_put (n : Nat) (z y : List Int) (h : z.length = y.length) : splice (leafC n z) 1 (bs y) = leafC n y := by
  unfold splice leafC
  simp [bs, h, Nat.add_comm]
theorem Try.sumSz (z : List Int) (h : z.length = 32) : (Try.prog.info? 31).map (·.size) = some (bs z).length := by rw [Try.sz31, bs_len, h]

/-- The greatest number of a version. -/
abbrev maxN : Nat := 4611686018427387904

/-- What reading a leaf gives: the number, the label, how far, what went wrong. -/
def leafS (T : List Int) (a : Nat) (err : Int) : Nat × List Int × Nat × Int :=
  ((uintS T a err maxN).1, pad 32 (pL T (uintS T a err maxN).2.1 (uintS T a err maxN).2.2 32), pA T (uintS T a err maxN).2.1 (uintS T a err maxN).2.2 32, pE T (uintS T a err maxN).2.1 (uintS T a err maxN).2.2 32)

set_option maxRecDepth 100000 in
set_option maxHeartbeats 1000000 in
theorem rNumber_any {w : World} {p : Nat} {t : TypeId} {tv : Value} {T : List Int} {a : Nat} {err : Int} (h : RS w p t tv T a err) :
    Calls Try.prog 101 #[.pointer (some ⟨p, 0, none⟩)] w fun e w' => e = .returned (.int .u64 (uintS T a err maxN).1) ∧ RP w w' p t tv T (uintS T a err maxN).2.1 (uintS T a err maxN).2.2 := by
  have H : Hid _ := rUint_any h maxN (by decide)
  clear h
  go_enter Try.func101, Try.ntmps101
  go_wp2_with fail
  refine Calls.mono H.out ?_
  rintro e w1 ⟨rfl, r⟩
  have R : Hid _ := r
  clear r
  go_wp2_with fail
  go_ret
  exact ⟨rfl, R.out⟩

set_option maxRecDepth 100000 in
set_option maxHeartbeats 1000000 in
theorem leaf_any {w : World} {p : Nat} {t : TypeId} {tv : Value} {T : List Int} {a : Nat} {err : Int} (h : RS w p t tv T a err) :
    Calls Try.prog 84 #[.pointer (some ⟨p, 0, none⟩)] w fun e w' => e = .returned (.agg (leafC (leafS T a err).1 (leafS T a err).2.1).toArray) ∧ RP w w' p t tv T (leafS T a err).2.2.1 (leafS T a err).2.2.2 := by
  unfold leafS
  have A0 := At.start h
  clear h
  obtain ⟨U, a1, e1, hu⟩ : ∃ U a1 e1, uintS T a err maxN = (U, a1, e1) := ⟨_, _, _, rfl⟩
  have NC : ∀ w', RS w' p t tv T a err → _ := fun w' h => rNumber_any h
  simp only [hu] at NC ⊢
  have SC : ∀ w', RS w' p t tv T a1 e1 → _ := fun w' h => rSum_any h
  obtain ⟨z, hz⟩ : ∃ z, z = pad 32 (pL T a1 e1 32) := ⟨_, rfl⟩
  have HZ : z.length = 32 := by rw [hz]; exact pad_len (pL_len T a1 e1 32)
  simp only [← hz] at SC ⊢
  clear hz hu
  obtain ⟨W0, hW0⟩ : ∃ W0, W0 = (w.alloc (.cells (leafC 0 (List.replicate 32 0)).toArray 71)).alloc (.cells (leafC 0 (List.replicate 32 0)).toArray 71) := ⟨_, rfl⟩
  have A1 : Hid (At w W0 p t tv T a err) := by rw [hW0]; exact (A0.alloc _).alloc _
  have B1 : Hid (Blk W0 w.heap.size (leafC 0 (List.replicate 32 0)) 71) := by rw [hW0]; exact (Blk.made w _ 71).alloc _
  have B2 : Hid (Blk W0 (w.heap.size + 1) (leafC 0 (List.replicate 32 0)) 71) := by
    rw [hW0]
    have := Blk.made (w.alloc (.cells (leafC 0 (List.replicate 32 0)).toArray 71)) (leafC 0 (List.replicate 32 0)) 71
    rwa [World.size_alloc] at this
  have HC : Hid _ := NC W0 A1.out.rp.1
  have HS : Hid _ := SC
  rw [hW0] at HC
  have HW : Hid _ := hW0
  clear A0 NC SC hW0
  go_enter Try.func84, Try.ntmps84
  go_wp2_with fail
  refine Calls.mono HC.out ?_
  rintro e w1 ⟨rfl, r1⟩
  rw [← HW.out] at r1
  have A2 : Hid _ := A1.out.call r1
  have C1 : Hid _ := A1.out.blk B1.out (Nat.le_refl _) r1
  have C2 : Hid _ := A1.out.blk B2.out (Nat.le_succ _) r1
  have hc : w1.cell? ⟨w.heap.size + 1, 0, none⟩ = some (.int .u64 0) := C2.out.cell 0
  have hf : w1.frozen? ⟨w.heap.size + 1, 0, none⟩ = false := C2.out.fr 0
  clear r1 HC HW A1 B1 B2
  go_wp2_with fail
  have A3 : Hid _ := A2.out.set (g := w.heap.size + 1) (Nat.le_succ _) 0 (.int .u64 U)
  have D2 : Hid _ := C2.out.set 0 (.int .u64 U)
  have D1 : Hid _ := C1.out.keep ((Chg.refl (fun k => k = w.heap.size + 1) w1).setCell (p := ⟨w.heap.size + 1, 0, none⟩) (.inl rfl) (.int .u64 U)) (by omega)
  refine Calls.mono (HS.out _ A3.out.rp.1) ?_
  rintro e w2 ⟨rfl, r2⟩
  have A4 : Hid _ := A3.out.call r2
  have E1 : Hid _ := A3.out.blk D1.out (Nat.le_refl _) r2
  have E2 : Hid (Blk w2 (w.heap.size + 1) (leafC U (List.replicate 32 0)) 71) := A3.out.blk D2.out (Nat.le_succ _) r2
  clear r2 A2 A3 C1 C2 D1 D2 HS hc hf
  go_wp2_with (first | (refine wpList_store_part rfl 31 (.tmp 11) (.tmp 10) rfl (w.heap.size + 1) 1 (bs z) rfl rfl E2.out (by simp [leafC, bs, HZ]) (Try.sumSz z HZ) (bs_one z) ?_; intro w3 b3 c3; rw [leafC_put _ _ _ (by simp [HZ])] at b3; have F2 : Hid _ := b3; have F1 : Hid _ := E1.out.keep c3 (by omega); have A5 : Hid _ := A4.out.chg c3 (Nat.le_succ _); clear b3 c3) | (refine wpList_load_part rfl 71 (.tmp 3) rfl (w.heap.size + 1) 0 (leafC U z) rfl F2.out (by simp) Try.underlying71 rfl (Try.leafSz U z HZ) ?_) | (refine wpList_store_part rfl 71 (.tmp 2) (.tmp 12) rfl w.heap.size 0 (leafC U z) rfl rfl F1.out (by simp [leafC, bs, HZ]) (Try.leafSz U z HZ) (leafC_one U z) ?_; intro w4 b4 c4; rw [splice_all _ _ (by simp [leafC, bs, HZ])] at b4; have G1 : Hid _ := b4; have A6 : Hid _ := A5.out.chg c4 (Nat.le_refl _); clear b4 c4))
  refine bodyPost_ret (v := .agg (leafC U z).toArray) (results_row1 rfl _ _ w.heap.size 71 _ _ _ rfl G1.out.eq Try.underlying71 rfl (Try.leafSz U z HZ)) rfl ⟨rfl, A6.out.rp⟩
theorem put0 (x : List Int) (m n : Nat) (h : m = x.length + n) : splice (bs (List.replicate m 0)) 0 (bs x) = bs (x ++ List.replicate n 0) := by
  subst h
  simp [splice, bs]
theorem put1 (x y u : List Int) (k : Nat) (hk : x.length = k) (h : u.length = y.length) : splice (bs (x ++ u)) k (bs y) = bs (x ++ y) := by
  subst hk
  have e : bs x = (bs x).take x.length := by rw [← bs_len x, List.take_length]
  unfold splice
  rw [bs_app, bs_app, List.take_append_of_le_length (by simp [bs]), ← e, List.drop_eq_nil_of_le (by simp [bs, h]), List.append_nil]

/-- What reading a limb gives, and a fork: the bytes, how far, what went wrong. -/
def limbS (T : List Int) (a : Nat) (err : Int) : List Int × Nat × Int :=
  (pad 33 (pL T a err 33) ++ pad 32 (pL T (pA T a err 33) (pE T a err 33) 32), pA T (pA T a err 33) (pE T a err 33) 32, pE T (pA T a err 33) (pE T a err 33) 32)
theorem limbS_len (T : List Int) (a : Nat) (err : Int) : (limbS T a err).1.length = 65 := by
  simp only [limbS, List.length_append]
  have h1 : (pad 33 (pL T a err 33)).length = 33 := pad_len (pL_len T a err 33)
  have h2 : (pad 32 (pL T (pA T a err 33) (pE T a err 33) 32)).length = 32 := pad_len (pL_len T (pA T a err 33) (pE T a err 33) 32)
  omega
def forkS (T : List Int) (a : Nat) (err : Int) : List Int × Nat × Int :=
  ((limbS T a err).1 ++ (limbS T (limbS T a err).2.1 (limbS T a err).2.2).1, (limbS T (limbS T a err).2.1 (limbS T a err).2.2).2.1, (limbS T (limbS T a err).2.1 (limbS T a err).2.2).2.2)
theorem forkS_len (T : List Int) (a : Nat) (err : Int) : (forkS T a err).1.length = 130 := by
  simp only [forkS, List.length_append, limbS_len]

set_option maxRecDepth 100000 in
set_option maxHeartbeats 2000000 in
theorem limb_any {w : World} {p : Nat} {t : TypeId} {tv : Value} {T : List Int} {a : Nat} {err : Int} (h : RS w p t tv T a err) :
    Calls Try.prog 116 #[.pointer (some ⟨p, 0, none⟩)] w fun e w' => e = .returned (.agg (bs (limbS T a err).1).toArray) ∧ RP w w' p t tv T (limbS T a err).2.1 (limbS T a err).2.2 := by
  unfold limbS
  have A0 := At.start h
  clear h
  have NC : ∀ w', RS w' p t tv T a err → _ := fun w' h => rAddr_any h
  obtain ⟨a1, ha1⟩ : ∃ a1, a1 = pA T a err 33 := ⟨_, rfl⟩
  obtain ⟨e1, he1⟩ : ∃ e1, e1 = pE T a err 33 := ⟨_, rfl⟩
  obtain ⟨x, hx⟩ : ∃ x, x = pad 33 (pL T a err 33) := ⟨_, rfl⟩
  have HX : x.length = 33 := by rw [hx]; exact pad_len (pL_len T a err 33)
  simp only [← ha1, ← he1, ← hx] at NC ⊢
  have SC : ∀ w', RS w' p t tv T a1 e1 → _ := fun w' h => rSum_any h
  obtain ⟨y, hy⟩ : ∃ y, y = pad 32 (pL T a1 e1 32) := ⟨_, rfl⟩
  have HY : y.length = 32 := by rw [hy]; exact pad_len (pL_len T a1 e1 32)
  simp only [← hy] at SC ⊢
  clear ha1 he1 hx hy
  obtain ⟨W0, hW0⟩ : ∃ W0, W0 = (w.alloc (.cells (bs (List.replicate 65 0)).toArray 73)).alloc (.cells (bs (List.replicate 65 0)).toArray 73) := ⟨_, rfl⟩
  have A1 : Hid (At w W0 p t tv T a err) := by rw [hW0]; exact (A0.alloc _).alloc _
  have B1 : Hid (Blk W0 w.heap.size (bs (List.replicate 65 0)) 73) := by rw [hW0]; exact (Blk.made w _ 73).alloc _
  have B2 : Hid (Blk W0 (w.heap.size + 1) (bs (List.replicate 65 0)) 73) := by
    rw [hW0]
    have := Blk.made (w.alloc (.cells (bs (List.replicate 65 0)).toArray 73)) (bs (List.replicate 65 0)) 73
    rwa [World.size_alloc] at this
  have HC : Hid _ := NC W0 A1.out.rp.1
  have HS : Hid _ := SC
  rw [hW0] at HC
  have HW : Hid _ := hW0
  have LXY : (x ++ y).length = 65 := by simp [HX, HY]
  obtain ⟨xy, hxy⟩ : ∃ xy, xy = x ++ y := ⟨_, rfl⟩
  rw [← hxy] at LXY ⊢
  have HXY : Hid _ := hxy
  clear A0 NC SC hW0 hxy
  go_enter Try.func116, Try.ntmps116
  go_wp2_with fail
  refine Calls.mono HC.out ?_
  rintro e w1 ⟨rfl, r1⟩
  rw [← HW.out] at r1
  have A2 : Hid _ := A1.out.call r1
  have C1 : Hid _ := A1.out.blk B1.out (Nat.le_refl _) r1
  have C2 : Hid _ := A1.out.blk B2.out (Nat.le_succ _) r1
  clear r1 HC HW A1 B1 B2
  go_wp2_with (refine wpList_store_part rfl 33 (.tmp 8) (.tmp 7) rfl (w.heap.size + 1) 0 (bs x) rfl rfl C2.out (by simp [bs, HX]) (Try.addrSz x HX) (bs_one x) ?_; intro w3 b3 c3; rw [put0 x 65 32 (by rw [HX])] at b3; have D2 : Hid _ := b3; have D1 : Hid _ := C1.out.keep c3 (by omega); have A3 : Hid _ := A2.out.chg c3 (Nat.le_succ _); clear b3 c3 C1 C2)
  refine Calls.mono (HS.out _ A3.out.rp.1) ?_
  rintro e w2 ⟨rfl, r2⟩
  have A4 : Hid _ := A3.out.call r2
  have E1 : Hid _ := A3.out.blk D1.out (Nat.le_refl _) r2
  have E2 : Hid _ := A3.out.blk D2.out (Nat.le_succ _) r2
  clear r2 A2 A3 D1 D2 HS
  go_wp2_with (first | (refine wpList_store_part rfl 31 (.tmp 13) (.tmp 12) rfl (w.heap.size + 1) 33 (bs y) rfl rfl E2.out (by simp [bs, HX, HY]) (Try.sumSz' y HY) (bs_one y) ?_; intro w3 b3 c3; rw [put1 x y _ 33 HX (by simp [HY]), ← HXY.out] at b3; have F2 : Hid _ := b3; have F1 : Hid _ := E1.out.keep c3 (by omega); have A5 : Hid _ := A4.out.chg c3 (Nat.le_succ _); clear b3 c3) | (refine wpList_load_part rfl 73 (.tmp 3) rfl (w.heap.size + 1) 0 (bs xy) rfl F2.out (by simp) Try.underlying73 rfl (Try.limbSz xy LXY) ?_) | (refine wpList_store_part rfl 73 (.tmp 2) (.tmp 14) rfl w.heap.size 0 (bs xy) rfl rfl F1.out (by simp [bs, LXY]) (Try.limbSz xy LXY) (bs_one xy) ?_; intro w4 b4 c4; rw [splice_all _ _ (by simp [bs, LXY])] at b4; have G1 : Hid _ := b4; have A6 : Hid _ := A5.out.chg c4 (Nat.le_refl _); clear b4 c4))
  exact bodyPost_ret (v := .agg (bs xy).toArray) (results_row1 rfl _ _ w.heap.size 73 _ _ _ rfl G1.out.eq Try.underlying73 rfl (Try.limbSz xy LXY)) rfl ⟨rfl, A6.out.rp⟩

set_option maxRecDepth 100000 in
set_option maxHeartbeats 2000000 in
theorem fork_any {w : World} {p : Nat} {t : TypeId} {tv : Value} {T : List Int} {a : Nat} {err : Int} (h : RS w p t tv T a err) :
    Calls Try.prog 86 #[.pointer (some ⟨p, 0, none⟩)] w fun e w' => e = .returned (.agg (bs (forkS T a err).1).toArray) ∧ RP w w' p t tv T (forkS T a err).2.1 (forkS T a err).2.2 := by
  unfold forkS
  have A0 := At.start h
  clear h
  have NC : ∀ w', RS w' p t tv T a err → _ := fun w' h => limb_any h
  obtain ⟨x, a1, e1, hl⟩ : ∃ x a1 e1, limbS T a err = (x, a1, e1) := ⟨_, _, _, rfl⟩
  have HX : x.length = 65 := by have := limbS_len T a err; rwa [hl] at this
  simp only [hl] at NC ⊢
  have SC : ∀ w', RS w' p t tv T a1 e1 → _ := fun w' h => limb_any h
  obtain ⟨y, a2, e2, hm⟩ : ∃ x a2 e2, limbS T a1 e1 = (x, a2, e2) := ⟨_, _, _, rfl⟩
  have HY : y.length = 65 := by have := limbS_len T a1 e1; rwa [hm] at this
  simp only [hm] at SC ⊢
  clear hl hm
  obtain ⟨W0, hW0⟩ : ∃ W0, W0 = (w.alloc (.cells (bs (List.replicate 130 0)).toArray 75)).alloc (.cells (bs (List.replicate 130 0)).toArray 75) := ⟨_, rfl⟩
  have A1 : Hid (At w W0 p t tv T a err) := by rw [hW0]; exact (A0.alloc _).alloc _
  have B1 : Hid (Blk W0 w.heap.size (bs (List.replicate 130 0)) 75) := by rw [hW0]; exact (Blk.made w _ 75).alloc _
  have B2 : Hid (Blk W0 (w.heap.size + 1) (bs (List.replicate 130 0)) 75) := by
    rw [hW0]
    have := Blk.made (w.alloc (.cells (bs (List.replicate 130 0)).toArray 75)) (bs (List.replicate 130 0)) 75
    rwa [World.size_alloc] at this
  have HC : Hid _ := NC W0 A1.out.rp.1
  have HS : Hid _ := SC
  rw [hW0] at HC
  have HW : Hid _ := hW0
  have LXY : (x ++ y).length = 130 := by simp [HX, HY]
  obtain ⟨xy, hxy⟩ : ∃ xy, xy = x ++ y := ⟨_, rfl⟩
  rw [← hxy] at LXY ⊢
  have HXY : Hid _ := hxy
  clear A0 NC SC hW0 hxy
  go_enter Try.func86, Try.ntmps86
  go_wp2_with fail
  refine Calls.mono HC.out ?_
  rintro e w1 ⟨rfl, r1⟩
  rw [← HW.out] at r1
  have A2 : Hid _ := A1.out.call r1
  have C1 : Hid _ := A1.out.blk B1.out (Nat.le_refl _) r1
  have C2 : Hid _ := A1.out.blk B2.out (Nat.le_succ _) r1
  clear r1 HC HW A1 B1 B2
  go_wp2_with (refine wpList_store_part rfl 73 (.tmp 6) (.tmp 5) rfl (w.heap.size + 1) 0 (bs x) rfl rfl C2.out (by simp [bs, HX]) (Try.limbSz x HX) (bs_one x) ?_; intro w3 b3 c3; rw [put0 x 130 65 (by rw [HX])] at b3; have D2 : Hid _ := b3; have D1 : Hid _ := C1.out.keep c3 (by omega); have A3 : Hid _ := A2.out.chg c3 (Nat.le_succ _); clear b3 c3 C1 C2)
  refine Calls.mono (HS.out _ A3.out.rp.1) ?_
  rintro e w2 ⟨rfl, r2⟩
  have A4 : Hid _ := A3.out.call r2
  have E1 : Hid _ := A3.out.blk D1.out (Nat.le_refl _) r2
  have E2 : Hid _ := A3.out.blk D2.out (Nat.le_succ _) r2
  clear r2 A2 A3 D1 D2 HS
  go_wp2_with (first | (refine wpList_store_part rfl 73 (.tmp 9) (.tmp 8) rfl (w.heap.size + 1) 65 (bs y) rfl rfl E2.out (by simp [bs, HX, HY]) (Try.limbSz y HY) (bs_one y) ?_; intro w3 b3 c3; rw [put1 x y _ 65 HX (by simp [HY]), ← HXY.out] at b3; have F2 : Hid _ := b3; have F1 : Hid _ := E1.out.keep c3 (by omega); have A5 : Hid _ := A4.out.chg c3 (Nat.le_succ _); clear b3 c3) | (refine wpList_load_part rfl 75 (.tmp 3) rfl (w.heap.size + 1) 0 (bs xy) rfl F2.out (by simp) Try.underlying75 rfl (Try.forkSz xy LXY) ?_) | (refine wpList_store_part rfl 75 (.tmp 2) (.tmp 10) rfl w.heap.size 0 (bs xy) rfl rfl F1.out (by simp [bs, LXY]) (Try.forkSz xy LXY) (bs_one xy) ?_; intro w4 b4 c4; rw [splice_all _ _ (by simp [bs, LXY])] at b4; have G1 : Hid _ := b4; have A6 : Hid _ := A5.out.chg c4 (Nat.le_refl _); clear b4 c4))
  exact bodyPost_ret (v := .agg (bs xy).toArray) (results_row1 rfl _ _ w.heap.size 75 _ _ _ rfl G1.out.eq Try.underlying75 rfl (Try.forkSz xy LXY)) rfl ⟨rfl, A6.out.rp⟩
end Go.Proofs.Ytjmeaebehndheaa

/-
  The reading of towers: flags, keys, levels, kids.
-/
namespace Go.Proofs.Ytjmeaebehndheaa
open Go.RowKit

/-- A flag, a level: what it is, how far, what went wrong. -/
def flagS (T : List Int) (a : Nat) (err : Int) : Bool × Nat × Int :=
  (decide (lowN (pL T a err 1) = 1), pA T a err 1, if 1 < lowN (pL T a err 1) then failE (pE T a err 1) 22 else pE T a err 1)
def levelS (T : List Int) (a : Nat) (err : Int) : Nat × Nat × Int :=
  (lowN (pL T a err 1), pA T a err 1, if 23 < lowN (pL T a err 1) then failE (pE T a err 1) 21 else pE T a err 1)
theorem low1 {w : World} {p : Nat} {t : TypeId} {tv : Value} {T : List Int} {a : Nat} {err : Int} (h : RS w p t tv T a err) : lowN (pL T a err 1) < 256 := by
  have hb : Byts (pL T a err 1) := by
    unfold pL
    split
    · intro y hy
      exact h.byt y (List.mem_of_mem_drop (List.mem_of_mem_take hy))
    · intro y hy
      cases hy
  have h1 := lowN_lt hb
  have h2 : (pL T a err 1).length ≤ 1 := by have := pL_len T a err 1; simpa using this
  have h3 : 256 ^ (pL T a err 1).length ≤ 256 ^ 1 := Nat.pow_le_pow_right (by decide) h2
  omega

set_option maxRecDepth 100000 in
set_option maxHeartbeats 1000000 in
theorem rFlag_any {w : World} {p : Nat} {t : TypeId} {tv : Value} {T : List Int} {a : Nat} {err : Int} (h : RS w p t tv T a err) :
    Calls Try.prog 112 #[.pointer (some ⟨p, 0, none⟩)] w fun e w' => e = .returned (.bool (flagS T a err).1) ∧ RP w w' p t tv T (flagS T a err).2.1 (flagS T a err).2.2 := by
  have hb := low1 h
  unfold flagS
  have H : Hid _ := rByte_any h
  clear h
  obtain ⟨b, hbb⟩ : ∃ b, b = lowN (pL T a err 1) := ⟨_, rfl⟩
  rw [← hbb] at H hb ⊢
  clear hbb
  have hbe : ((b : Int) == 1) = decide (b = 1) := by
    by_cases h : b = 1
    · subst h; rfl
    · rw [decide_eq_false h]; exact beq_false_of_ne (by omega)
  have HBE : Hid _ := hbe
  clear hbe
  by_cases h1 : 1 < b
  · go_enter Try.func112, Try.ntmps112
    go_wp2_with fail
    refine Calls.mono H.out ?_
    rintro e w1 ⟨rfl, r⟩
    have R : Hid _ := r
    have FF : Hid _ := rFail_any r.1 22
    clear r
    go_wp2_with fail
    refine Calls.mono FF.out ?_
    rintro e w2 ⟨rfl, r2⟩
    have R2 : Hid _ := RP.trans R.out r2
    clear r2
    go_wp2_with fail
    go_ret
    refine ⟨?_, ?_⟩
    · show Ending.returned (.bool ((b : Int) == 1)) = _
      rw [HBE.out]
    · try rw [if_pos h1]
      exact R2.out
  · go_enter Try.func112, Try.ntmps112
    go_wp2_with fail
    refine Calls.mono H.out ?_
    rintro e w1 ⟨rfl, r⟩
    have R : Hid _ := r
    clear r
    go_wp2_with fail
    go_ret
    refine ⟨?_, ?_⟩
    · show Ending.returned (.bool ((b : Int) == 1)) = _
      rw [HBE.out]
    · try rw [if_neg h1]
      exact R.out

set_option maxRecDepth 100000 in
set_option maxHeartbeats 1000000 in
theorem rLevel_any {w : World} {p : Nat} {t : TypeId} {tv : Value} {T : List Int} {a : Nat} {err : Int} (h : RS w p t tv T a err) :
    Calls Try.prog 126 #[.pointer (some ⟨p, 0, none⟩)] w fun e w' => e = .returned (.int .i64 (levelS T a err).1) ∧ RP w w' p t tv T (levelS T a err).2.1 (levelS T a err).2.2 := by
  have hb := low1 h
  unfold levelS
  have H : Hid _ := rByte_any h
  clear h
  obtain ⟨b, hbb⟩ : ∃ b, b = lowN (pL T a err 1) := ⟨_, rfl⟩
  rw [← hbb] at H hb ⊢
  clear hbb
  by_cases h1 : 23 < b
  · go_enter Try.func126, Try.ntmps126
    go_wp2_with fail
    refine Calls.mono H.out ?_
    rintro e w1 ⟨rfl, r⟩
    have R : Hid _ := r
    have FF : Hid _ := rFail_any r.1 21
    clear r
    go_wp2_with fail
    refine Calls.mono FF.out ?_
    rintro e w2 ⟨rfl, r2⟩
    have R2 : Hid _ := RP.trans R.out r2
    clear r2
    go_wp2_with fail
    go_ret
    refine ⟨?_, ?_⟩
    · rfl
    · try rw [if_pos h1]
      exact R2.out
  · go_enter Try.func126, Try.ntmps126
    go_wp2_with fail
    refine Calls.mono H.out ?_
    rintro e w1 ⟨rfl, r⟩
    have R : Hid _ := r
    clear r
    go_wp2_with fail
    go_ret
    refine ⟨?_, ?_⟩
    · rfl
    · try rw [if_neg h1]
      exact R.out

set_option maxRecDepth 100000 in
set_option maxHeartbeats 1000000 in
theorem rKey_any {w : World} {p : Nat} {t : TypeId} {tv : Value} {T : List Int} {a : Nat} {err : Int} (h : RS w p t tv T a err) :
    Calls Try.prog 113 #[.pointer (some ⟨p, 0, none⟩)] w fun e w' => ∃ s, e = .returned s ∧ Own w' s (textS T a err 1024).1 ∧ RP w w' p t tv T (textS T a err 1024).2.1 (textS T a err 1024).2.2 ∧ ∀ k, s.ownBlock = some k → w.heap.size ≤ k := by
  have H : Hid _ := rText_any h 1024 (by decide) (by decide)
  clear h
  go_enter Try.func113, Try.ntmps113
  go_wp2_with fail
  refine Calls.mono H.out ?_
  rintro e w1 ⟨s, rfl, o, r, hs⟩
  have O : Hid _ := o
  have R : Hid _ := r
  have HS : Hid _ := hs
  obtain ⟨sa, sc, hf⟩ := Own.form o
  clear o r hs
  subst hf
  go_wp2_with fail
  go_ret
  exact ⟨_, rfl, O.out, R.out, HS.out⟩
end Go.Proofs.Ytjmeaebehndheaa

/-
  The reading of a kid.
-/
namespace Go.Proofs.Ytjmeaebehndheaa
open Go.RowKit

/-- A kid's cells. -/
def kdC (lv : Nat) (s : Value) (ct : Nat) (z : List Int) : List Value := .int .i64 lv :: s :: .int .u64 ct :: bs z
theorem kdC_len (lv : Nat) (s : Value) (ct : Nat) (z : List Int) : (kdC lv s ct z).length = z.length + 3 := by simp [kdC, bs]
theorem kdC_one (lv : Nat) {s : Value} (hs : s.oneCell' = true) (ct : Nat) (z : List Int) : ∀ u ∈ kdC lv s ct z, u.oneCell' = true := by
  intro u hu
  simp only [kdC, List.mem_cons] at hu
  rcases hu with rfl | rfl | rfl | hu
  · rfl
  · exact hs
  · rfl
  · exact bs_one _ u hu
theorem Try.size155 : (Try.prog.info? 156).map (·.size) = some 68 := by kernel_rfl
theorem Try.kdSz (lv : Nat) (s : Value) (ct : Nat) (z : List Int) (h : z.length = 65) : (Try.prog.info? 156).map (·.size) = some (kdC lv s ct z).length := by rw [Try.size155, kdC_len, h]
theorem kdC_put0 (lv : Nat) (s : Value) (ct : Nat) (x : List Int) (h : x.length = 33) : splice (kdC lv s ct (List.replicate 65 0)) 3 (bs x) = kdC lv s ct (x ++ List.replicate 32 0) := by
  unfold splice kdC
  simp [bs, h]
theorem kdC_put1 (lv : Nat) (s : Value) (ct : Nat) (x y : List Int) (h : x.length = 33) (h2 : y.length = 32) : splice (kdC lv s ct (x ++ List.replicate 32 0)) 36 (bs y) = kdC lv s ct (x ++ y) := by
  unfold splice kdC
  simp [bs, h, h2]

/-- What reading a kid gives. -/
structure KS where
  lv : Nat
  kl : List Int
  ct : Nat
  z : List Int
  at_ : Nat
  err : Int
def kidS (T : List Int) (a : Nat) (err : Int) : KS :=
  let L := levelS T a err
  let K := textS T L.2.1 L.2.2 1024
  let U := uintS T K.2.1 K.2.2 maxN
  ⟨L.1, K.1, U.1, (limbS T U.2.1 U.2.2).1, (limbS T U.2.1 U.2.2).2.1, (limbS T U.2.1 U.2.2).2.2⟩
theorem kidS_len (T : List Int) (a : Nat) (err : Int) : (kidS T a err).z.length = 65 := limbS_len _ _ _

set_option maxRecDepth 100000 in
set_option maxHeartbeats 4000000 in
theorem kid_any {w : World} {p : Nat} {t : TypeId} {tv : Value} {T : List Int} {a : Nat} {err : Int} (h : RS w p t tv T a err) :
    Calls Try.prog 115 #[.pointer (some ⟨p, 0, none⟩)] w fun e w' => ∃ s, e = .returned (.agg (kdC (kidS T a err).lv s (kidS T a err).ct (kidS T a err).z).toArray) ∧ s.oneCell' = true ∧ Own w' s (kidS T a err).kl ∧ RP w w' p t tv T (kidS T a err).at_ (kidS T a err).err ∧ ∀ k, s.ownBlock = some k → w.heap.size ≤ k := by
  unfold kidS limbS
  have A0 := At.start h
  have hlt := h.lt
  clear h
  obtain ⟨L, a1, e1, hL⟩ : ∃ L a1 e1, levelS T a err = (L, a1, e1) := ⟨_, _, _, rfl⟩
  have C1 : ∀ w', RS w' p t tv T a err → _ := fun w' h => rLevel_any h
  simp only [hL] at C1 ⊢
  obtain ⟨kb, a2, e2, hK⟩ : ∃ kb a2 e2, textS T a1 e1 1024 = (kb, a2, e2) := ⟨_, _, _, rfl⟩
  have C2 : ∀ w', RS w' p t tv T a1 e1 → _ := fun w' h => rKey_any h
  simp only [hK] at C2 ⊢
  obtain ⟨U, a3, e3, hU⟩ : ∃ U a3 e3, uintS T a2 e2 maxN = (U, a3, e3) := ⟨_, _, _, rfl⟩
  have C3 : ∀ w', RS w' p t tv T a2 e2 → _ := fun w' h => rNumber_any h
  simp only [hU] at C3 ⊢
  have C4 : ∀ w', RS w' p t tv T a3 e3 → _ := fun w' h => rAddr_any h
  obtain ⟨a4, ha4⟩ : ∃ a4, a4 = pA T a3 e3 33 := ⟨_, rfl⟩
  obtain ⟨e4, he4⟩ : ∃ e4, e4 = pE T a3 e3 33 := ⟨_, rfl⟩
  obtain ⟨x, hx⟩ : ∃ x, x = pad 33 (pL T a3 e3 33) := ⟨_, rfl⟩
  have HX : x.length = 33 := by rw [hx]; exact pad_len (pL_len T a3 e3 33)
  simp only [← ha4, ← he4, ← hx] at C4 ⊢
  have C5 : ∀ w', RS w' p t tv T a4 e4 → _ := fun w' h => rSum_any h
  obtain ⟨y, hy⟩ : ∃ y, y = pad 32 (pL T a4 e4 32) := ⟨_, rfl⟩
  have HY : y.length = 32 := by rw [hy]; exact pad_len (pL_len T a4 e4 32)
  simp only [← hy] at C5 ⊢
  obtain ⟨a5, ha5⟩ : ∃ a5, a5 = pA T a4 e4 32 := ⟨_, rfl⟩
  obtain ⟨e5, he5⟩ : ∃ e5, e5 = pE T a4 e4 32 := ⟨_, rfl⟩
  simp only [← ha5, ← he5] at C5 ⊢
  clear hL hK hU ha4 he4 hx hy ha5 he5
  have XY : (x ++ y).length = 65 := by simp [HX, HY]
  obtain ⟨xy, hxy⟩ : ∃ xy, xy = x ++ y := ⟨_, rfl⟩
  rw [← hxy] at XY ⊢
  have HXY : Hid _ := hxy
  clear hxy
  obtain ⟨W0, hW0⟩ : ∃ W0, W0 = (w.alloc (.cells (kdC 0 (.slice none 0 0) 0 (List.replicate 65 0)).toArray 156)).alloc (.cells (kdC 0 (.slice none 0 0) 0 (List.replicate 65 0)).toArray 156) := ⟨_, rfl⟩
  have A1 : Hid (At w W0 p t tv T a err) := by rw [hW0]; exact (A0.alloc _).alloc _
  have B1 : Hid (Blk W0 w.heap.size (kdC 0 (.slice none 0 0) 0 (List.replicate 65 0)) 156) := by rw [hW0]; exact (Blk.made w _ 156).alloc _
  have B2 : Hid (Blk W0 (w.heap.size + 1) (kdC 0 (.slice none 0 0) 0 (List.replicate 65 0)) 156) := by
    rw [hW0]
    have := Blk.made (w.alloc (.cells (kdC 0 (.slice none 0 0) 0 (List.replicate 65 0)).toArray 156)) (kdC 0 (.slice none 0 0) 0 (List.replicate 65 0)) 156
    rwa [World.size_alloc] at this
  have SZ : W0.heap.size = w.heap.size + 2 := by rw [hW0]; simp
  have HC : Hid _ := C1 W0 A1.out.rp.1
  have H2 : Hid _ := C2
  have H3 : Hid _ := C3
  have H4 : Hid _ := C4
  have H5 : Hid _ := C5
  rw [hW0] at HC
  have HW : Hid _ := hW0
  have SZ0 : Hid _ := SZ
  clear A0 C1 C2 C3 C4 C5 hW0 SZ
  go_enter Try.func115, Try.ntmps115
  go_wp2_with fail
  refine Calls.mono HC.out ?_
  rintro e w1 ⟨rfl, r1⟩
  rw [← HW.out] at r1
  have s1 : w.heap.size + 2 ≤ w1.heap.size := by have := r1.2.size; have := SZ0.out; omega
  have S1 : Hid _ := s1
  have A2 : Hid _ := A1.out.call r1
  have D1 : Hid _ := A1.out.blk B1.out (Nat.le_refl _) r1
  have D2 : Hid _ := A1.out.blk B2.out (Nat.le_succ _) r1
  have hc : w1.cell? ⟨w.heap.size + 1, 0, none⟩ = some (.int .i64 0) := D2.out.cell 0
  have hf : w1.frozen? ⟨w.heap.size + 1, 0, none⟩ = false := D2.out.fr 0
  clear r1 HC HW A1 B1 B2
  go_wp2_with fail
  have A3 : Hid _ := A2.out.set (g := w.heap.size + 1) (Nat.le_succ _) 0 (.int .i64 L)
  have E2 : Hid (Blk (w1.setCell ⟨w.heap.size + 1, 0, none⟩ (.int .i64 L)) (w.heap.size + 1) (kdC L (.slice none 0 0) 0 (List.replicate 65 0)) 156) := D2.out.set 0 (.int .i64 L)
  have E1 : Hid _ := D1.out.keep ((Chg.refl (fun k => k = w.heap.size + 1) w1).setCell (p := ⟨w.heap.size + 1, 0, none⟩) (.inl rfl) (.int .i64 L)) (by omega)
  refine Calls.mono (H2.out _ A3.out.rp.1) ?_
  rintro e w2 ⟨s, rfl, o2, r2, hs2⟩
  obtain ⟨sa, sc, hsf⟩ := Own.form o2
  have hs3 : ∀ k, s.ownBlock = some k → w.heap.size + 2 ≤ k := fun k hk => by have h9 := hs2 k hk; simp at h9; omega
  have HS : Hid _ := hs3
  have O2 : Hid _ := o2
  have HSF : Hid _ := hsf
  have A4 : Hid _ := A3.out.call r2
  have F1 : Hid _ := A3.out.blk E1.out (Nat.le_refl _) r2
  have F2 : Hid _ := A3.out.blk E2.out (Nat.le_succ _) r2
  rw [hsf]
  obtain ⟨n, hn⟩ : ∃ n, n = kb.length := ⟨_, rfl⟩
  rw [← hn] at HSF ⊢
  have hc2 : w2.cell? ⟨w.heap.size + 1, 1, none⟩ = some (.slice none 0 0) := F2.out.cell 1
  have hf2 : w2.frozen? ⟨w.heap.size + 1, 1, none⟩ = false := F2.out.fr 1
  clear hsf o2 r2 hs2 hs3 hc hf A2 A3 D1 D2 E1 E2 H2 hn
  go_wp2_with fail
  have G0 : Hid (Chg (fun k => k = w.heap.size + 1) w2 (w2.setCell ⟨w.heap.size + 1, 1, none⟩ (.slice sa n sc))) := (Chg.refl (fun k => k = w.heap.size + 1) w2).setCell (p := ⟨w.heap.size + 1, 1, none⟩) (.inl rfl) _
  have A5 : Hid _ := A4.out.set (g := w.heap.size + 1) (Nat.le_succ _) 1 (.slice sa n sc)
  have G2 : Hid (Blk (w2.setCell ⟨w.heap.size + 1, 1, none⟩ (.slice sa n sc)) (w.heap.size + 1) (kdC L (.slice sa n sc) 0 (List.replicate 65 0)) 156) := F2.out.set 1 (.slice sa n sc)
  have G1 : Hid _ := F1.out.keep G0.out (by omega)
  have O3 : Hid _ := Own.kept O2.out G0.out (fun k hk e => by have := HS.out k hk; omega)
  refine Calls.mono (H3.out _ A5.out.rp.1) ?_
  rintro e w3 ⟨rfl, r3⟩
  have A6 : Hid _ := A5.out.call r3
  have J1 : Hid _ := A5.out.blk G1.out (Nat.le_refl _) r3
  have J2 : Hid _ := A5.out.blk G2.out (Nat.le_succ _) r3
  have O4 : Hid _ := Own.kept O3.out r3.2 (fun k hk e => by have := HS.out k hk; omega)
  have hc3 : w3.cell? ⟨w.heap.size + 1, 2, none⟩ = some (.int .u64 0) := J2.out.cell 2
  have hf3 : w3.frozen? ⟨w.heap.size + 1, 2, none⟩ = false := J2.out.fr 2
  clear r3 hc2 hf2 G0 A4 A5 F1 F2 G1 G2 O2 O3 H3
  go_wp2_with fail
  have G0 : Hid (Chg (fun k => k = w.heap.size + 1) w3 (w3.setCell ⟨w.heap.size + 1, 2, none⟩ (.int .u64 U))) := (Chg.refl (fun k => k = w.heap.size + 1) w3).setCell (p := ⟨w.heap.size + 1, 2, none⟩) (.inl rfl) _
  have A7 : Hid _ := A6.out.set (g := w.heap.size + 1) (Nat.le_succ _) 2 (.int .u64 U)
  have K2 : Hid (Blk (w3.setCell ⟨w.heap.size + 1, 2, none⟩ (.int .u64 U)) (w.heap.size + 1) (kdC L (.slice sa n sc) U (List.replicate 65 0)) 156) := J2.out.set 2 (.int .u64 U)
  have K1 : Hid _ := J1.out.keep G0.out (by omega)
  have O5 : Hid _ := Own.kept O4.out G0.out (fun k hk e => by have := HS.out k hk; omega)
  refine Calls.mono (H4.out _ A7.out.rp.1) ?_
  rintro e w4 ⟨rfl, r4⟩
  have A8 : Hid _ := A7.out.call r4
  have M1 : Hid _ := A7.out.blk K1.out (Nat.le_refl _) r4
  have M2 : Hid _ := A7.out.blk K2.out (Nat.le_succ _) r4
  have O6 : Hid _ := Own.kept O5.out r4.2 (fun k hk e => by have := HS.out k hk; omega)
  clear r4 hc3 hf3 G0 A6 A7 J1 J2 K1 K2 O4 O5 H4
  go_wp2_with (refine wpList_store_part rfl 33 (.tmp 17) (.tmp 16) rfl (w.heap.size + 1) 3 (bs x) rfl rfl M2.out (by simp [kdC, bs, HX]) (Try.addrSz x HX) (bs_one x) ?_; intro w5 b5 c5; rw [kdC_put0 _ _ _ _ HX] at b5; have N2 : Hid _ := b5; have N1 : Hid _ := M1.out.keep c5 (by omega); have A9 : Hid _ := A8.out.chg c5 (Nat.le_succ _); have O7 : Hid _ := Own.kept O6.out c5 (fun k hk e => by have := HS.out k hk; omega); clear b5 c5 M1 M2 O6)
  refine Calls.mono (H5.out _ A9.out.rp.1) ?_
  rintro e w6 ⟨rfl, r6⟩
  have A10 : Hid _ := A9.out.call r6
  have P1 : Hid _ := A9.out.blk N1.out (Nat.le_refl _) r6
  have P2 : Hid _ := A9.out.blk N2.out (Nat.le_succ _) r6
  have O8 : Hid _ := Own.kept O7.out r6.2 (fun k hk e => by have := HS.out k hk; omega)
  clear r6 A8 A9 N1 N2 O7 H5
  go_wp2_with (first
    | (refine wpList_store_part rfl 31 (.tmp 22) (.tmp 21) rfl (w.heap.size + 1) 36 (bs y) rfl rfl P2.out (by simp [kdC, bs, HX, HY]) (Try.sumSz' y HY) (bs_one y) ?_; intro w7 b7 c7; rw [kdC_put1 _ _ _ _ _ HX HY, ← HXY.out] at b7; have Q2 : Hid _ := b7; have Q1 : Hid _ := P1.out.keep c7 (by omega); have A11 : Hid _ := A10.out.chg c7 (Nat.le_succ _); have O9 : Hid _ := Own.kept O8.out c7 (fun k hk e => by have := HS.out k hk; omega); clear b7 c7)
    | (refine wpList_load_part rfl 156 (.tmp 3) rfl (w.heap.size + 1) 0 (kdC L (.slice sa n sc) U xy) rfl Q2.out (by simp) Try.underlying156 rfl (Try.kdSz _ _ _ _ XY) ?_)
    | (refine wpList_store_part rfl 156 (.tmp 2) (.tmp 23) rfl w.heap.size 0 (kdC L (.slice sa n sc) U xy) rfl rfl Q1.out (by simp [kdC, bs, XY]) (Try.kdSz _ _ _ _ XY) (kdC_one _ rfl _ _) ?_; intro w8 b8 c8; rw [splice_all _ _ (by simp [kdC, bs, XY])] at b8; have R1 : Hid _ := b8; have A12 : Hid _ := A11.out.chg c8 (Nat.le_refl _); have O10 : Hid _ := Own.kept O9.out c8 (fun k hk e => by have := HS.out k hk; omega); clear b8 c8))
  refine bodyPost_ret (v := .agg (kdC L (.slice sa n sc) U xy).toArray) (results_row1 rfl _ _ w.heap.size 156 _ _ _ rfl R1.out.eq Try.underlying156 rfl (Try.kdSz _ _ _ _ XY)) rfl ⟨.slice sa n sc, rfl, rfl, ?_, A12.out.rp, fun k hk => ?_⟩
  · have h9 := O10.out
    rw [HSF.out] at h9
    exact h9
  · have h9 := HS.out k (by rw [HSF.out]; exact hk)
    omega
end Go.Proofs.Ytjmeaebehndheaa
