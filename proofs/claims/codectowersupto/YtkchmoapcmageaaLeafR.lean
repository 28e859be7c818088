/-
  The reading of a leaf: the code's way.
-/
import Derived.Test.YtkchmoapcmageaaAt
import Derived.Test.YtkchmoapcmageaaLeafW
import Derived.Test.YtkchmoapcmageaaEq
namespace Go.Proofs.Ytkchmoapcmageaa
open Go.RowKit

theorem leafC_one (n : Nat) (z : List Int) : ∀ u ∈ leafC n z, u.oneCell' = true := by
  intro u hu
  rcases List.mem_cons.1 hu with rfl | hu
  · rfl
  · exact bs_one z u hu
theorem leafC_put (n : Nat) (z y : List Int) (h : z.length = y.length) : splice (leafC n z) 1 (bs y) = leafC n y := by
  unfold splice leafC
  simp [bs, h, Nat.add_comm]
theorem Try.sumSz (z : List Int) (h : z.length = 32) : (Try.prog.info? 31).map (·.size) = some (bs z).length := by rw [Try.sz31, bs_len, h]

/-- The greatest number of a version. -/
abbrev maxN : Nat := 4611686018427387904

/-- What reading a leaf gives: the number, the label, how far, what went wrong. -/
def leafS (T : List Int) (a : Nat) (err : Int) : Nat × List Int × Nat × Int :=
  ((uintS T a err maxN).1, pad 32 (pL T (uintS T a err maxN).2.1 (uintS T a err maxN).2.2 32), pA T (uintS T a err maxN).2.1 (uintS T a err maxN).2.2 32, pE T (uintS T a err maxN).2.1 (uintS T a err maxN).2.2 32)

set_option maxRecDepth 100000 in
set_option maxHeartbeats 1000000 in
theorem rNumber_any {w : World} {p : Nat} {t : TypeId} {tv : Value} {T : List Int} {a : Nat} {err : Int} (h : RS w p t tv T a err) :
    Calls Try.prog 101 #[.pointer (some ⟨p, 0, none⟩)] w fun e w' => e = .returned (.int .u64 (uintS T a err maxN).1) ∧ RP w w' p t tv T (uintS T a err maxN).2.1 (uintS T a err maxN).2.2 := by
  have H : Hid _ := rUint_any h maxN (by decide)
  clear h
  go_enter Try.func101, Try.ntmps101
  go_wp2_with fail
  refine Calls.mono H.out ?_
  rintro e w1 ⟨rfl, r⟩
  have R : Hid _ := r
  clear r
  go_wp2_with fail
  go_ret
  exact ⟨rfl, R.out⟩

set_option maxRecDepth 100000 in
set_option maxHeartbeats 1000000 in
theorem leaf_any {w : World} {p : Nat} {t : TypeId} {tv : Value} {T : List Int} {a : Nat} {err : Int} (h : RS w p t tv T a err) :
    Calls Try.prog 84 #[.pointer (some ⟨p, 0, none⟩)] w fun e w' => e = .returned (.agg (leafC (leafS T a err).1 (leafS T a err).2.1).toArray) ∧ RP w w' p t tv T (leafS T a err).2.2.1 (leafS T a err).2.2.2 := by
  unfold leafS
  have A0 := At.start h
  clear h
  obtain ⟨U, a1, e1, hu⟩ : ∃ U a1 e1, uintS T a err maxN = (U, a1, e1) := ⟨_, _, _, rfl⟩
  have NC : ∀ w', RS w' p t tv T a err → _ := fun w' h => rNumber_any h
  simp only [hu] at NC ⊢
  have SC : ∀ w', RS w' p t tv T a1 e1 → _ := fun w' h => rSum_any h
  obtain ⟨z, hz⟩ : ∃ z, z = pad 32 (pL T a1 e1 32) := ⟨_, rfl⟩
  have HZ : z.length = 32 := by rw [hz]; exact pad_len (pL_len T a1 e1 32)
  simp only [← hz] at SC ⊢
  clear hz hu
  obtain ⟨W0, hW0⟩ : ∃ W0, W0 = (w.alloc (.cells (leafC 0 (List.replicate 32 0)).toArray 71)).alloc (.cells (leafC 0 (List.replicate 32 0)).toArray 71) := ⟨_, rfl⟩
  have A1 : Hid (At w W0 p t tv T a err) := by rw [hW0]; exact (A0.alloc _).alloc _
  have B1 : Hid (Blk W0 w.heap.size (leafC 0 (List.replicate 32 0)) 71) := by rw [hW0]; exact (Blk.made w _ 71).alloc _
  have B2 : Hid (Blk W0 (w.heap.size + 1) (leafC 0 (List.replicate 32 0)) 71) := by
    rw [hW0]
    have := Blk.made (w.alloc (.cells (leafC 0 (List.replicate 32 0)).toArray 71)) (leafC 0 (List.replicate 32 0)) 71
    rwa [World.size_alloc] at this
  have HC : Hid _ := NC W0 A1.out.rp.1
  have HS : Hid _ := SC
  rw [hW0] at HC
  have HW : Hid _ := hW0
  clear A0 NC SC hW0
  go_enter Try.func84, Try.ntmps84
  go_wp2_with fail
  refine Calls.mono HC.out ?_
  rintro e w1 ⟨rfl, r1⟩
  rw [← HW.out] at r1
  have A2 : Hid _ := A1.out.call r1
  have C1 : Hid _ := A1.out.blk B1.out (Nat.le_refl _) r1
  have C2 : Hid _ := A1.out.blk B2.out (Nat.le_succ _) r1
  have hc : w1.cell? ⟨w.heap.size + 1, 0, none⟩ = some (.int .u64 0) := C2.out.cell 0
  have hf : w1.frozen? ⟨w.heap.size + 1, 0, none⟩ = false := C2.out.fr 0
  clear r1 HC HW A1 B1 B2
  go_wp2_with fail
  have A3 : Hid _ := A2.out.set (g := w.heap.size + 1) (Nat.le_succ _) 0 (.int .u64 U)
  have D2 : Hid _ := C2.out.set 0 (.int .u64 U)
  have D1 : Hid _ := C1.out.keep ((Chg.refl (fun k => k = w.heap.size + 1) w1).setCell (p := ⟨w.heap.size + 1, 0, none⟩) (.inl rfl) (.int .u64 U)) (by omega)
  refine Calls.mono (HS.out _ A3.out.rp.1) ?_
  rintro e w2 ⟨rfl, r2⟩
  have A4 : Hid _ := A3.out.call r2
  have E1 : Hid _ := A3.out.blk D1.out (Nat.le_refl _) r2
  have E2 : Hid (Blk w2 (w.heap.size + 1) (leafC U (List.replicate 32 0)) 71) := A3.out.blk D2.out (Nat.le_succ _) r2
  clear r2 A2 A3 C1 C2 D1 D2 HS hc hf
  go_wp2_with (first | (refine wpList_store_part rfl 31 (.tmp 11) (.tmp 10) rfl (w.heap.size + 1) 1 (bs z) rfl rfl E2.out (by simp [leafC, bs, HZ]) (Try.sumSz z HZ) (bs_one z) ?_; intro w3 b3 c3; rw [leafC_put _ _ _ (by simp [HZ])] at b3; have F2 : Hid _ := b3; have F1 : Hid _ := E1.out.keep c3 (by omega); have A5 : Hid _ := A4.out.chg c3 (Nat.le_succ _); clear b3 c3) | (refine wpList_load_part rfl 71 (.tmp 3) rfl (w.heap.size + 1) 0 (leafC U z) rfl F2.out (by simp) Try.underlying71 rfl (Try.leafSz U z HZ) ?_) | (refine wpList_store_part rfl 71 (.tmp 2) (.tmp 12) rfl w.heap.size 0 (leafC U z) rfl rfl F1.out (by simp [leafC, bs, HZ]) (Try.leafSz U z HZ) (leafC_one U z) ?_; intro w4 b4 c4; rw [splice_all _ _ (by simp [leafC, bs, HZ])] at b4; have G1 : Hid _ := b4; have A6 : Hid _ := A5.out.chg c4 (Nat.le_refl _); clear b4 c4))
  refine bodyPost_ret (v := .agg (leafC U z).toArray) (results_row1 rfl _ _ w.heap.size 71 _ _ _ rfl G1.out.eq Try.underlying71 rfl (Try.leafSz U z HZ)) rfl ⟨rfl, A6.out.rp⟩
theorem put0 (x : List Int) (m n : Nat) (h : m = x.length + n) : splice (bs (List.replicate m 0)) 0 (bs x) = bs (x ++ List.replicate n 0) := by
  subst h
  simp [splice, bs]
theorem put1 (x y u : List Int) (k : Nat) (hk : x.length = k) (h : u.length = y.length) : splice (bs (x ++ u)) k (bs y) = bs (x ++ y) := by
  subst hk
  have e : bs x = (bs x).take x.length := by rw [← bs_len x, List.take_length]
  unfold splice
  rw [bs_app, bs_app, List.take_append_of_le_length (by simp [bs]), ← e, List.drop_eq_nil_of_le (by simp [bs, h]), List.append_nil]

/-- What reading a limb gives, and a fork: the bytes, how far, what went wrong. -/
def limbS (T : List Int) (a : Nat) (err : Int) : List Int × Nat × Int :=
  (pad 33 (pL T a err 33) ++ pad 32 (pL T (pA T a err 33) (pE T a err 33) 32), pA T (pA T a err 33) (pE T a err 33) 32, pE T (pA T a err 33) (pE T a err 33) 32)
theorem limbS_len (T : List Int) (a : Nat) (err : Int) : (limbS T a err).1.length = 65 := by
  simp only [limbS, List.length_append]
  have h1 : (pad 33 (pL T a err 33)).length = 33 := pad_len (pL_len T a err 33)
  have h2 : (pad 32 (pL T (pA T a err 33) (pE T a err 33) 32)).length = 32 := pad_len (pL_len T (pA T a err 33) (pE T a err 33) 32)
  omega
def forkS (T : List Int) (a : Nat) (err : Int) : List Int × Nat × Int :=
  ((limbS T a err).1 ++ (limbS T (limbS T a err).2.1 (limbS T a err).2.2).1, (limbS T (limbS T a err).2.1 (limbS T a err).2.2).2.1, (limbS T (limbS T a err).2.1 (limbS T a err).2.2).2.2)
theorem forkS_len (T : List Int) (a : Nat) (err : Int) : (forkS T a err).1.length = 130 := by
  simp only [forkS, List.length_append, limbS_len]

set_option maxRecDepth 100000 in
set_option maxHeartbeats 2000000 in
theorem limb_any {w : World} {p : Nat} {t : TypeId} {tv : Value} {T : List Int} {a : Nat} {err : Int} (h : RS w p t tv T a err) :
    Calls Try.prog 116 #[.pointer (some ⟨p, 0, none⟩)] w fun e w' => e = .returned (.agg (bs (limbS T a err).1).toArray) ∧ RP w w' p t tv T (limbS T a err).2.1 (limbS T a err).2.2 := by
  unfold limbS
  have A0 := At.start h
  clear h
  have NC : ∀ w', RS w' p t tv T a err → _ := fun w' h => rAddr_any h
  obtain ⟨a1, ha1⟩ : ∃ a1, a1 = pA T a err 33 := ⟨_, rfl⟩
  obtain ⟨e1, he1⟩ : ∃ e1, e1 = pE T a err 33 := ⟨_, rfl⟩
  obtain ⟨x, hx⟩ : ∃ x, x = pad 33 (pL T a err 33) := ⟨_, rfl⟩
  have HX : x.length = 33 := by rw [hx]; exact pad_len (pL_len T a err 33)
  simp only [← ha1, ← he1, ← hx] at NC ⊢
  have SC : ∀ w', RS w' p t tv T a1 e1 → _ := fun w' h => rSum_any h
  obtain ⟨y, hy⟩ : ∃ y, y = pad 32 (pL T a1 e1 32) := ⟨_, rfl⟩
  have HY : y.length = 32 := by rw [hy]; exact pad_len (pL_len T a1 e1 32)
  simp only [← hy] at SC ⊢
  clear ha1 he1 hx hy
  obtain ⟨W0, hW0⟩ : ∃ W0, W0 = (w.alloc (.cells (bs (List.replicate 65 0)).toArray 73)).alloc (.cells (bs (List.replicate 65 0)).toArray 73) := ⟨_, rfl⟩
  have A1 : Hid (At w W0 p t tv T a err) := by rw [hW0]; exact (A0.alloc _).alloc _
  have B1 : Hid (Blk W0 w.heap.size (bs (List.replicate 65 0)) 73) := by rw [hW0]; exact (Blk.made w _ 73).alloc _
  have B2 : Hid (Blk W0 (w.heap.size + 1) (bs (List.replicate 65 0)) 73) := by
    rw [hW0]
    have := Blk.made (w.alloc (.cells (bs (List.replicate 65 0)).toArray 73)) (bs (List.replicate 65 0)) 73
    rwa [World.size_alloc] at this
  have HC : Hid _ := NC W0 A1.out.rp.1
  have HS : Hid _ := SC
  rw [hW0] at HC
  have HW : Hid _ := hW0
  have LXY : (x ++ y).length = 65 := by simp [HX, HY]
  obtain ⟨xy, hxy⟩ : ∃ xy, xy = x ++ y := ⟨_, rfl⟩
  rw [← hxy] at LXY ⊢
  have HXY : Hid _ := hxy
  clear A0 NC SC hW0 hxy
  go_enter Try.func116, Try.ntmps116
  go_wp2_with fail
  refine Calls.mono HC.out ?_
  rintro e w1 ⟨rfl, r1⟩
  rw [← HW.out] at r1
  have A2 : Hid _ := A1.out.call r1
  have C1 : Hid _ := A1.out.blk B1.out (Nat.le_refl _) r1
  have C2 : Hid _ := A1.out.blk B2.out (Nat.le_succ _) r1
  clear r1 HC HW A1 B1 B2
  go_wp2_with (refine wpList_store_part rfl 33 (.tmp 8) (.tmp 7) rfl (w.heap.size + 1) 0 (bs x) rfl rfl C2.out (by simp [bs, HX]) (Try.addrSz x HX) (bs_one x) ?_; intro w3 b3 c3; rw [put0 x 65 32 (by rw [HX])] at b3; have D2 : Hid _ := b3; have D1 : Hid _ := C1.out.keep c3 (by omega); have A3 : Hid _ := A2.out.chg c3 (Nat.le_succ _); clear b3 c3 C1 C2)
  refine Calls.mono (HS.out _ A3.out.rp.1) ?_
  rintro e w2 ⟨rfl, r2⟩
  have A4 : Hid _ := A3.out.call r2
  have E1 : Hid _ := A3.out.blk D1.out (Nat.le_refl _) r2
  have E2 : Hid _ := A3.out.blk D2.out (Nat.le_succ _) r2
  clear r2 A2 A3 D1 D2 HS
  go_wp2_with (first | (refine wpList_store_part rfl 31 (.tmp 13) (.tmp 12) rfl (w.heap.size + 1) 33 (bs y) rfl rfl E2.out (by simp [bs, HX, HY]) (Try.sumSz' y HY) (bs_one y) ?_; intro w3 b3 c3; rw [put1 x y _ 33 HX (by simp [HY]), ← HXY.out] at b3; have F2 : Hid _ := b3; have F1 : Hid _ := E1.out.keep c3 (by omega); have A5 : Hid _ := A4.out.chg c3 (Nat.le_succ _); clear b3 c3) | (refine wpList_load_part rfl 73 (.tmp 3) rfl (w.heap.size + 1) 0 (bs xy) rfl F2.out (by simp) Try.underlying73 rfl (Try.limbSz xy LXY) ?_) | (refine wpList_store_part rfl 73 (.tmp 2) (.tmp 14) rfl w.heap.size 0 (bs xy) rfl rfl F1.out (by simp [bs, LXY]) (Try.limbSz xy LXY) (bs_one xy) ?_; intro w4 b4 c4; rw [splice_all _ _ (by simp [bs, LXY])] at b4; have G1 : Hid _ := b4; have A6 : Hid _ := A5.out.chg c4 (Nat.le_refl _); clear b4 c4))
  exact bodyPost_ret (v := .agg (bs xy).toArray) (results_row1 rfl _ _ w.heap.size 73 _ _ _ rfl G1.out.eq Try.underlying73 rfl (Try.limbSz xy LXY)) rfl ⟨rfl, A6.out.rp⟩

set_option maxRecDepth 100000 in
set_option maxHeartbeats 2000000 in
theorem fork_any {w : World} {p : Nat} {t : TypeId} {tv : Value} {T : List Int} {a : Nat} {err : Int} (h : RS w p t tv T a err) :
    Calls Try.prog 86 #[.pointer (some ⟨p, 0, none⟩)] w fun e w' => e = .returned (.agg (bs (forkS T a err).1).toArray) ∧ RP w w' p t tv T (forkS T a err).2.1 (forkS T a err).2.2 := by
  unfold forkS
  have A0 := At.start h
  clear h
  have NC : ∀ w', RS w' p t tv T a err → _ := fun w' h => limb_any h
  obtain ⟨x, a1, e1, hl⟩ : ∃ x a1 e1, limbS T a err = (x, a1, e1) := ⟨_, _, _, rfl⟩
  have HX : x.length = 65 := by have := limbS_len T a err; rwa [hl] at this
  simp only [hl] at NC ⊢
  have SC : ∀ w', RS w' p t tv T a1 e1 → _ := fun w' h => limb_any h
  obtain ⟨y, a2, e2, hm⟩ : ∃ x a2 e2, limbS T a1 e1 = (x, a2, e2) := ⟨_, _, _, rfl⟩
  have HY : y.length = 65 := by have := limbS_len T a1 e1; rwa [hm] at this
  simp only [hm] at SC ⊢
  clear hl hm
  obtain ⟨W0, hW0⟩ : ∃ W0, W0 = (w.alloc (.cells (bs (List.replicate 130 0)).toArray 75)).alloc (.cells (bs (List.replicate 130 0)).toArray 75) := ⟨_, rfl⟩
  have A1 : Hid (At w W0 p t tv T a err) := by rw [hW0]; exact (A0.alloc _).alloc _
  have B1 : Hid (Blk W0 w.heap.size (bs (List.replicate 130 0)) 75) := by rw [hW0]; exact (Blk.made w _ 75).alloc _
  have B2 : Hid (Blk W0 (w.heap.size + 1) (bs (List.replicate 130 0)) 75) := by
    rw [hW0]
    have := Blk.made (w.alloc (.cells (bs (List.replicate 130 0)).toArray 75)) (bs (List.replicate 130 0)) 75
    rwa [World.size_alloc] at this
  have HC : Hid _ := NC W0 A1.out.rp.1
  have HS : Hid _ := SC
  rw [hW0] at HC
  have HW : Hid _ := hW0
  have LXY : (x ++ y).length = 130 := by simp [HX, HY]
  obtain ⟨xy, hxy⟩ : ∃ xy, xy = x ++ y := ⟨_, rfl⟩
  rw [← hxy] at LXY ⊢
  have HXY : Hid _ := hxy
  clear A0 NC SC hW0 hxy
  go_enter Try.func86, Try.ntmps86
  go_wp2_with fail
  refine Calls.mono HC.out ?_
  rintro e w1 ⟨rfl, r1⟩
  rw [← HW.out] at r1
  have A2 : Hid _ := A1.out.call r1
  have C1 : Hid _ := A1.out.blk B1.out (Nat.le_refl _) r1
  have C2 : Hid _ := A1.out.blk B2.out (Nat.le_succ _) r1
  clear r1 HC HW A1 B1 B2
  go_wp2_with (refine wpList_store_part rfl 73 (.tmp 6) (.tmp 5) rfl (w.heap.size + 1) 0 (bs x) rfl rfl C2.out (by simp [bs, HX]) (Try.limbSz x HX) (bs_one x) ?_; intro w3 b3 c3; rw [put0 x 130 65 (by rw [HX])] at b3; have D2 : Hid _ := b3; have D1 : Hid _ := C1.out.keep c3 (by omega); have A3 : Hid _ := A2.out.chg c3 (Nat.le_succ _); clear b3 c3 C1 C2)
  refine Calls.mono (HS.out _ A3.out.rp.1) ?_
  rintro e w2 ⟨rfl, r2⟩
  have A4 : Hid _ := A3.out.call r2
  have E1 : Hid _ := A3.out.blk D1.out (Nat.le_refl _) r2
  have E2 : Hid _ := A3.out.blk D2.out (Nat.le_succ _) r2
  clear r2 A2 A3 D1 D2 HS
  go_wp2_with (first | (refine wpList_store_part rfl 73 (.tmp 9) (.tmp 8) rfl (w.heap.size + 1) 65 (bs y) rfl rfl E2.out (by simp [bs, HX, HY]) (Try.limbSz y HY) (bs_one y) ?_; intro w3 b3 c3; rw [put1 x y _ 65 HX (by simp [HY]), ← HXY.out] at b3; have F2 : Hid _ := b3; have F1 : Hid _ := E1.out.keep c3 (by omega); have A5 : Hid _ := A4.out.chg c3 (Nat.le_succ _); clear b3 c3) | (refine wpList_load_part rfl 75 (.tmp 3) rfl (w.heap.size + 1) 0 (bs xy) rfl F2.out (by simp) Try.underlying75 rfl (Try.forkSz xy LXY) ?_) | (refine wpList_store_part rfl 75 (.tmp 2) (.tmp 10) rfl w.heap.size 0 (bs xy) rfl rfl F1.out (by simp [bs, LXY]) (Try.forkSz xy LXY) (bs_one xy) ?_; intro w4 b4 c4; rw [splice_all _ _ (by simp [bs, LXY])] at b4; have G1 : Hid _ := b4; have A6 : Hid _ := A5.out.chg c4 (Nat.le_refl _); clear b4 c4))
  exact bodyPost_ret (v := .agg (bs xy).toArray) (results_row1 rfl _ _ w.heap.size 75 _ _ _ rfl G1.out.eq Try.underlying75 rfl (Try.forkSz xy LXY)) rfl ⟨rfl, A6.out.rp⟩
end Go.Proofs.Ytkchmoapcmageaa
