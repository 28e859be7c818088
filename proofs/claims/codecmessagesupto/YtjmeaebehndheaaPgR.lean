import Derived.Test.YtjmeaebehndheaaTwB
import Derived.Test.YtjmeaebehndheaaPgL
import Derived.Test.YtjmeaebehndheaaTwT
/-
  Towers as bytes.
-/
namespace Go.Proofs.Ytjmeaebehndheaa
open Go.RowKit

theorem KdIn.kept {w w' : World} {Av : Nat → Prop} {k : Kd} (h : KdIn w Av k) {S : Nat → Prop} (c : Chg S w w') (hS : ∀ g, Av g → ¬ S g) : KdIn w' Av k :=
  ⟨h.src.keptE c (fun g hg => (h.av g hg).imp (hS g) id), h.av, h.lv, h.ct, h.ad, h.lb⟩
theorem TwIn.kept {w w' : World} {Av : Nat → Prop} {T : Tw} (h : TwIn w Av T) {S : Nat → Prop} (c : Chg S w w') (hS : ∀ g, Av g → ¬ S g) : TwIn w' Av T :=
  ⟨h.src.keptE c (fun g hg => (h.av g hg).imp (hS g) id), h.av, h.vl, h.sn, h.kl, fun i hi => by
    obtain ⟨g, o, e, ha, hr⟩ := h.row i hi
    exact ⟨g, o, e, ha, rangeAt_kept hr c (hS g ha)⟩, fun i hi => (h.kid i hi).kept c hS⟩
theorem TwIn.mono {w : World} {Av Av' : Nat → Prop} {T : Tw} (h : TwIn w Av T) (hA : ∀ g, Av g → Av' g) : TwIn w Av' T :=
  ⟨h.src, fun g hg => (h.av g hg).imp (hA g) id, h.vl, h.sn, h.kl, fun i hi => by
    obtain ⟨g, o, e, ha, hr⟩ := h.row i hi
    exact ⟨g, o, e, hA g ha, hr⟩, fun i hi => by
    have k := h.kid i hi
    exact ⟨k.src, fun g hg => (k.av g hg).imp (hA g) id, k.lv, k.ct, k.ad, k.lb⟩⟩

set_option maxRecDepth 100000 in
set_option maxHeartbeats 1000000 in
theorem bytesTower_any {w : World} {T : Tw} (hT : TwIn w (fun g => g < w.heap.size) T) (hl : T.bytes.length ≤ 70368744177664) :
    Calls Try.prog 54 #[.iface 157 (.agg T.cells.toArray)] w fun e w' => ∃ u, e = .returned u ∧ Made w w' u T.bytes := by
  have c0 : Chg (fun _ => False) w (w.alloc (.cells #[.slice none 0 0] 191)) := (Chg.refl _ _).alloc _
  have HW : Hid (WB (w.alloc (.cells #[.slice none 0 0] 191)) (w.alloc (.cells #[.slice none 0 0] 191)) (fun g => g < w.heap.size) w.heap.size 191 []) :=
    ⟨⟨_, _, WS.new w 191, fun g hg => by simp [Value.ownBlock] at hg⟩, fun e => by omega, Chg.refl _ _, fun g e => by simp; omega⟩
  have HT : Hid (TwIn (w.alloc (.cells #[.slice none 0 0] 191)) (fun g => g < w.heap.size) T) := hT.kept c0 (fun _ _ e => e)
  have C0 : Hid _ := c0
  clear hT c0
  go_enter Try.func54, Try.ntmps54
  go_wp2_with fail
  refine Calls.mono (wTower_any HW.out HT.out (by simp; omega)) ?_
  rintro e w1 ⟨rfl, p1⟩
  have P1 : Hid _ := p1
  obtain ⟨cs, v1, s1, _⟩ := p1.ex
  rw [List.nil_append] at s1
  have S1 : Hid _ := s1
  clear s1 p1
  go_wp2_with fail
  refine Calls.mono (wBytes_any S1.out (by omega)) ?_
  rintro e w2 ⟨u, rfl, m⟩
  have b1 : Below w.heap.size w w1 := by
    have h1 : Chg (fun g => ¬ g < w.heap.size) w w1 := (C0.out.mono (fun _ _ e => e.elim)).trans P1.out.ch (fun _ e => .inl e)
    exact h1.below (Nat.le_refl _) (fun k e => by omega)
  have M : Hid (Made w w2 u T.bytes) := ⟨m.1, b1.trans (m.2.1.mono b1.size), fun k hk => Nat.le_trans b1.size (m.2.2 k hk)⟩
  clear m b1
  go_wp2_with fail
  go_ret
  exact ⟨u, rfl, M.out⟩

theorem Try.size69 : (Try.prog.info? 69).map (·.size) = some 36 := by kernel_rfl
theorem Try.towSz (T : Tw) (h : T.vl.length = 33) : (Try.prog.info? 69).map (·.size) = some T.cells.length := by
  rw [Try.size69]
  simp [Tw.cells, bs, h]
set_option maxRecDepth 100000 in
set_option maxHeartbeats 1000000 in
theorem cTower_any {w : World} {T : Tw} (hT : TwIn w (fun g => g < w.heap.size) T) (hl : T.bytes.length ≤ 70368744177664) :
    Calls Try.prog 24 #[.agg T.cells.toArray] w fun e w' => ∃ u, e = .returned u ∧ Made w w' u T.bytes := by
  have B0 : Hid _ := Blk.made w T.cells 69
  have HT : Hid (TwIn (w.alloc (.cells T.cells.toArray 69)) (fun g => g < (w.alloc (.cells T.cells.toArray 69)).heap.size) T) := (hT.kept (((Chg.refl (fun _ => False) w).alloc _)) (fun _ _ e => e)).mono (fun g e => by simp; omega)
  have HV := hT.vl
  clear hT
  go_enter Try.func24, Try.ntmps24
  go_wp2_with (refine wpList_load_part rfl 69 (.tmp 1) rfl w.heap.size 0 T.cells rfl B0.out (by simp) Try.underlying69 rfl (Try.towSz T HV) ?_)
  refine Calls.mono (bytesTower_any HT.out hl) ?_
  rintro e w2 ⟨u, rfl, m⟩
  have M : Hid _ := m
  clear m
  go_wp2_with fail
  go_ret
  refine ⟨u, rfl, M.out.1, ((Below.refl _ _).alloc (Nat.le_refl _) _).trans (M.out.2.1.mono (by simp)), fun k hk => ?_⟩
  have := M.out.2.2 k hk
  simp at this
  omega
end Go.Proofs.Ytjmeaebehndheaa

/-
  The reading of marks, versions and peaks.
-/
namespace Go.Proofs.Ytjmeaebehndheaa
open Go.RowKit

def mkC (s u : Nat) : List Value := [.int .u64 s, .int .i64 u]
def markE (T : List Int) (a : Nat) (err : Int) : List Value × Nat × Int :=
  let U := uintS T a err maxN
  let V := uintS T U.2.1 U.2.2 4194304
  (mkC U.1 V.1, V.2.1, V.2.2)
def peakE (T : List Int) (a : Nat) (err : Int) : List Value × Nat × Int :=
  let U := uintS T a err maxN
  let L := limbS T U.2.1 U.2.2
  (leafC U.1 L.1, L.2.1, L.2.2)
def vsC (n : Nat) (x : List Int) (c : Nat) (y : List Int) : List Value := .int .u64 n :: (bs x ++ .int .u64 c :: bs y)
def versE (T : List Int) (a : Nat) (err : Int) : List Value × Nat × Int :=
  let U := uintS T a err maxN
  let A := pA T U.2.1 U.2.2 33
  let E := pE T U.2.1 U.2.2 33
  let V := uintS T A E maxN
  (vsC U.1 (pad 33 (pL T U.2.1 U.2.2 33)) V.1 (pad 32 (pL T V.2.1 V.2.2 32)), pA T V.2.1 V.2.2 32, pE T V.2.1 V.2.2 32)
theorem vsC_len (n : Nat) (x : List Int) (c : Nat) (y : List Int) : (vsC n x c y).length = x.length + y.length + 2 := by simp [vsC, bs]; omega
theorem vsC_one (n : Nat) (x : List Int) (c : Nat) (y : List Int) : ∀ u ∈ vsC n x c y, u.oneCell' = true := by
  intro u hu
  simp only [vsC, List.mem_cons, List.mem_append] at hu
  rcases hu with rfl | hu | rfl | hu
  · rfl
  · exact bs_one _ u hu
  · rfl
  · exact bs_one _ u hu
theorem mkC_one (s u : Nat) : ∀ v ∈ mkC s u, v.oneCell' = true := by
  intro v hv
  simp only [mkC, List.mem_cons, List.not_mem_nil, or_false] at hv
  rcases hv with rfl | rfl <;> rfl
theorem vsC_putx (n : Nat) (u x : List Int) (c : Nat) (y : List Int) (h : u.length = x.length) : splice (vsC n u c y) 1 (bs x) = vsC n x c y := by
  have h2 : (bs u).length = (bs x).length := by rw [bs_len, bs_len, h]
  unfold splice vsC
  rw [show 1 + (bs x).length = (bs u).length + 1 by omega]
  simp
theorem vsC_putc (n : Nat) (x : List Int) (c d : Nat) (y : List Int) (h : x.length = 33) : (vsC n x c y).set 34 (.int .u64 d) = vsC n x d y := by
  unfold vsC
  rw [List.set_cons_succ, List.set_append_right _ _ (by rw [bs_len]; omega), bs_len, h]
  rfl
theorem vsC_puty (n : Nat) (x : List Int) (c : Nat) (u y : List Int) (hx : x.length = 33) (h : u.length = y.length) : splice (vsC n x c u) 35 (bs y) = vsC n x c y := by
  have e : vsC n x c u = vsC n x c [] ++ bs u := by simp [vsC, bs]
  have e2 : vsC n x c y = vsC n x c [] ++ bs y := by simp [vsC, bs]
  have l : (vsC n x c []).length = 35 := by rw [vsC_len, hx]; rfl
  unfold splice
  rw [e, e2, List.take_left' l, List.drop_of_length_le (by rw [List.length_append, l, bs_len, bs_len]; omega), List.append_nil]
theorem vsC_at (n : Nat) (x : List Int) (c : Nat) (y : List Int) (h : x.length = 33) : (vsC n x c y)[34]? = some (.int .u64 c) := by
  show (bs x ++ .int .u64 c :: bs y)[33]? = _
  rw [List.getElem?_append_right (by rw [bs_len]; omega), bs_len, h]
  rfl
theorem Try.size124 : (Try.prog.info? 126).map (·.size) = some 2 := by kernel_rfl
theorem Try.size128 : (Try.prog.info? 130).map (·.size) = some 67 := by kernel_rfl
theorem Try.size130 : (Try.prog.info? 132).map (·.size) = some 66 := by kernel_rfl
theorem Try.markSz (s u : Nat) : (Try.prog.info? 126).map (·.size) = some (mkC s u).length := Try.size124
theorem Try.versSz (n : Nat) (x : List Int) (c : Nat) (y : List Int) (hx : x.length = 33) (hy : y.length = 32) : (Try.prog.info? 130).map (·.size) = some (vsC n x c y).length := by rw [Try.size128, vsC_len, hx, hy]
theorem Try.peakSz (n : Nat) (z : List Int) (h : z.length = 65) : (Try.prog.info? 132).map (·.size) = some (leafC n z).length := by rw [Try.size130, leafC_len, h]

set_option maxRecDepth 100000 in
set_option maxHeartbeats 4000000 in
theorem mark_any {w : World} {p : Nat} {t : TypeId} {tv : Value} {T : List Int} {a : Nat} {err : Int} (h : RS w p t tv T a err) :
    Calls Try.prog 103 #[.pointer (some ⟨p, 0, none⟩)] w fun e w' => e = .returned (.agg (markE T a err).1.toArray) ∧ RP w w' p t tv T (markE T a err).2.1 (markE T a err).2.2 := by
  unfold markE
  have A0 := At.start h
  clear h
  obtain ⟨U, a1, e1, hU⟩ : ∃ U a1 e1, uintS T a err maxN = (U, a1, e1) := ⟨_, _, _, rfl⟩
  have C0 : ∀ w', RS w' p t tv T a err → _ := fun w' h => rNumber_any h
  simp only [hU] at C0 ⊢
  have VM := uintS_most T a1 e1 4194304
  obtain ⟨V, a2, e2, hV⟩ : ∃ V a2 e2, uintS T a1 e1 4194304 = (V, a2, e2) := ⟨_, _, _, rfl⟩
  have C1 : ∀ w', RS w' p t tv T a1 e1 → _ := fun w' h => rUint_any h 4194304 (by decide)
  simp only [hV] at C1 VM ⊢
  clear hU hV
  obtain ⟨W0, hW0⟩ : ∃ W0, W0 = (w.alloc (.cells (mkC 0 0).toArray 126)).alloc (.cells (mkC 0 0).toArray 126) := ⟨_, rfl⟩
  have P0 : Hid (At w W0 p t tv T a err) := by rw [hW0]; exact (A0.alloc _).alloc _
  have R0 : Hid (Blk W0 w.heap.size (mkC 0 0) 126) := by rw [hW0]; exact (Blk.made w _ 126).alloc _
  have L0 : Hid (Blk W0 (w.heap.size + 1) (mkC 0 0) 126) := by
    rw [hW0]
    have := Blk.made (w.alloc (.cells (mkC 0 0).toArray 126)) (mkC 0 0) 126
    rwa [World.size_alloc] at this
  have HC : Hid _ := C0 W0 P0.out.rp.1
  have H1 : Hid _ := C1
  rw [hW0] at HC
  have HW : Hid _ := hW0
  clear A0 hW0 C0 C1
  go_enter Try.func103, Try.ntmps103
  go_wp2_with fail
  refine Calls.mono HC.out ?_
  rintro e w1 ⟨rfl, r1⟩
  rw [← HW.out] at r1
  have Q0 : Hid _ := P0.out.call r1
  have S0 : Hid _ := P0.out.blk R0.out (Nat.le_refl _) r1
  have M0 : Hid _ := P0.out.blk L0.out (Nat.le_succ _) r1
  clear r1 P0 R0 L0 HC HW
  have hc0 : w1.cell? ⟨w.heap.size + 1, 0, none⟩ = some (.int .u64 0) := M0.out.cell 0
  have hf0 : w1.frozen? ⟨w.heap.size + 1, 0, none⟩ = false := M0.out.fr 0
  go_wp2_with fail
  have P1 : Hid _ := Q0.out.set (g := w.heap.size + 1) (Nat.le_succ _) 0 (.int .u64 U)
  have L1 : Hid (Blk (w1.setCell ⟨w.heap.size + 1, 0, none⟩ (.int .u64 U)) (w.heap.size + 1) (mkC U 0) 126) := (M0.out.set 0 (.int .u64 U))
  have R1 : Hid _ := S0.out.keep ((Chg.refl (fun k => k = w.heap.size + 1) w1).setCell (p := ⟨w.heap.size + 1, 0, none⟩) (.inl rfl) (.int .u64 U)) (by omega)
  clear Q0 S0 M0 hc0 hf0
  refine Calls.mono (H1.out _ P1.out.rp.1) ?_
  rintro e w2 ⟨rfl, r1⟩
  have Q1 : Hid _ := P1.out.call r1
  have S1 : Hid _ := P1.out.blk R1.out (Nat.le_refl _) r1
  have M1 : Hid _ := P1.out.blk L1.out (Nat.le_succ _) r1
  clear r1 P1 R1 L1 H1
  have hc1 : w2.cell? ⟨w.heap.size + 1, 1, none⟩ = some (.int .i64 0) := M1.out.cell 1
  have hf1 : w2.frozen? ⟨w.heap.size + 1, 1, none⟩ = false := M1.out.fr 1
  have P2 : Hid _ := Q1.out.set (g := w.heap.size + 1) (Nat.le_succ _) 1 (.int .i64 V)
  have L2 : Hid (Blk (w2.setCell ⟨w.heap.size + 1, 1, none⟩ (.int .i64 V)) (w.heap.size + 1) (mkC U V) 126) := (M1.out.set 1 (.int .i64 V))
  have R2 : Hid _ := S1.out.keep ((Chg.refl (fun k => k = w.heap.size + 1) w2).setCell (p := ⟨w.heap.size + 1, 1, none⟩) (.inl rfl) (.int .i64 V)) (by omega)
  clear Q1 S1 M1
  go_wp2_with (first
    | (refine wpList_load_part rfl 126 (.tmp 3) rfl (w.heap.size + 1) 0 (mkC U V) rfl L2.out (by simp) Try.underlying126 rfl (Try.markSz U V) ?_)
    | (refine wpList_store_part rfl 126 (.tmp 2) (.tmp 13) rfl w.heap.size 0 (mkC U V) rfl rfl R2.out (by simp [mkC]) (Try.markSz U V) (mkC_one U V) ?_; intro w8 b8 c8; rw [splice_all _ _ (by simp [mkC])] at b8; have RR : Hid _ := b8; have PP : Hid _ := P2.out.chg c8 (Nat.le_refl _); clear b8 c8))
  exact bodyPost_ret (v := .agg (mkC U V).toArray) (results_row1 rfl _ _ w.heap.size 126 _ _ _ rfl RR.out.eq Try.underlying126 rfl (Try.markSz U V)) rfl ⟨rfl, PP.out.rp⟩

set_option maxRecDepth 100000 in
set_option maxHeartbeats 4000000 in
theorem version_any {w : World} {p : Nat} {t : TypeId} {tv : Value} {T : List Int} {a : Nat} {err : Int} (h : RS w p t tv T a err) :
    Calls Try.prog 105 #[.pointer (some ⟨p, 0, none⟩)] w fun e w' => e = .returned (.agg (versE T a err).1.toArray) ∧ RP w w' p t tv T (versE T a err).2.1 (versE T a err).2.2 := by
  unfold versE
  have A0 := At.start h
  clear h
  obtain ⟨U, a1, e1, hU⟩ : ∃ U a1 e1, uintS T a err maxN = (U, a1, e1) := ⟨_, _, _, rfl⟩
  have C0 : ∀ w', RS w' p t tv T a err → _ := fun w' h => rNumber_any h
  simp only [hU] at C0 ⊢
  have C1 : ∀ w', RS w' p t tv T a1 e1 → _ := fun w' h => rAddr_any h
  obtain ⟨a2, ha2⟩ : ∃ a2, a2 = pA T a1 e1 33 := ⟨_, rfl⟩
  obtain ⟨e2, he2⟩ : ∃ e2, e2 = pE T a1 e1 33 := ⟨_, rfl⟩
  obtain ⟨x, hx⟩ : ∃ x, x = pad 33 (pL T a1 e1 33) := ⟨_, rfl⟩
  have HX : x.length = 33 := by rw [hx]; exact pad_len (pL_len T a1 e1 33)
  simp only [← ha2, ← he2, ← hx] at C1 ⊢
  obtain ⟨V, a3, e3, hV⟩ : ∃ V a3 e3, uintS T a2 e2 maxN = (V, a3, e3) := ⟨_, _, _, rfl⟩
  have C2 : ∀ w', RS w' p t tv T a2 e2 → _ := fun w' h => rNumber_any h
  simp only [hV] at C2 ⊢
  have C3 : ∀ w', RS w' p t tv T a3 e3 → _ := fun w' h => rSum_any h
  obtain ⟨y, hy⟩ : ∃ y, y = pad 32 (pL T a3 e3 32) := ⟨_, rfl⟩
  have HY : y.length = 32 := by rw [hy]; exact pad_len (pL_len T a3 e3 32)
  simp only [← hy] at C3 ⊢
  clear hU hV ha2 he2 hx hy
  obtain ⟨W0, hW0⟩ : ∃ W0, W0 = (w.alloc (.cells (vsC 0 (List.replicate 33 0) 0 (List.replicate 32 0)).toArray 130)).alloc (.cells (vsC 0 (List.replicate 33 0) 0 (List.replicate 32 0)).toArray 130) := ⟨_, rfl⟩
  have P0 : Hid (At w W0 p t tv T a err) := by rw [hW0]; exact (A0.alloc _).alloc _
  have R0 : Hid (Blk W0 w.heap.size (vsC 0 (List.replicate 33 0) 0 (List.replicate 32 0)) 130) := by rw [hW0]; exact (Blk.made w _ 130).alloc _
  have L0 : Hid (Blk W0 (w.heap.size + 1) (vsC 0 (List.replicate 33 0) 0 (List.replicate 32 0)) 130) := by
    rw [hW0]
    have := Blk.made (w.alloc (.cells (vsC 0 (List.replicate 33 0) 0 (List.replicate 32 0)).toArray 130)) (vsC 0 (List.replicate 33 0) 0 (List.replicate 32 0)) 130
    rwa [World.size_alloc] at this
  have HC : Hid _ := C0 W0 P0.out.rp.1
  have H1 : Hid _ := C1
  have H2 : Hid _ := C2
  have H3 : Hid _ := C3
  rw [hW0] at HC
  have HW : Hid _ := hW0
  clear A0 hW0 C0 C1 C2 C3
  go_enter Try.func105, Try.ntmps105
  go_wp2_with fail
  refine Calls.mono HC.out ?_
  rintro e w1 ⟨rfl, r1⟩
  rw [← HW.out] at r1
  have Q0 : Hid _ := P0.out.call r1
  have S0 : Hid _ := P0.out.blk R0.out (Nat.le_refl _) r1
  have M0 : Hid _ := P0.out.blk L0.out (Nat.le_succ _) r1
  clear r1 P0 R0 L0 HC HW
  have hc0 : w1.cell? ⟨w.heap.size + 1, 0, none⟩ = some (.int .u64 0) := M0.out.cell 0
  have hf0 : w1.frozen? ⟨w.heap.size + 1, 0, none⟩ = false := M0.out.fr 0
  go_wp2_with fail
  have P1 : Hid _ := Q0.out.set (g := w.heap.size + 1) (Nat.le_succ _) 0 (.int .u64 U)
  have L1 : Hid (Blk (w1.setCell ⟨w.heap.size + 1, 0, none⟩ (.int .u64 U)) (w.heap.size + 1) (vsC U (List.replicate 33 0) 0 (List.replicate 32 0)) 130) := (M0.out.set 0 (.int .u64 U))
  have R1 : Hid _ := S0.out.keep ((Chg.refl (fun k => k = w.heap.size + 1) w1).setCell (p := ⟨w.heap.size + 1, 0, none⟩) (.inl rfl) (.int .u64 U)) (by omega)
  clear Q0 S0 M0 hc0 hf0
  refine Calls.mono (H1.out _ P1.out.rp.1) ?_
  rintro e w2 ⟨rfl, r1⟩
  have Q1 : Hid _ := P1.out.call r1
  have S1 : Hid _ := P1.out.blk R1.out (Nat.le_refl _) r1
  have M1 : Hid _ := P1.out.blk L1.out (Nat.le_succ _) r1
  clear r1 P1 R1 L1 H1
  go_wp2_with (refine wpList_store_part rfl 33 (.tmp 12) (.tmp 10) rfl (w.heap.size + 1) 1 (bs x) rfl rfl M1.out (by simp [vsC, bs, HX]) (Try.addrSz x HX) (bs_one x) ?_; intro y1 b7 c7; rw [vsC_putx _ _ _ _ _ (by simp [HX])] at b7; have L2 : Hid _ := b7; have R2 : Hid _ := S1.out.keep c7 (by omega); have P2 : Hid _ := Q1.out.chg c7 (Nat.le_succ _); clear b7 c7)
  clear Q1 S1 M1
  refine Calls.mono (H2.out _ P2.out.rp.1) ?_
  rintro e w3 ⟨rfl, r1⟩
  have Q2 : Hid _ := P2.out.call r1
  have S2 : Hid _ := P2.out.blk R2.out (Nat.le_refl _) r1
  have M2 : Hid _ := P2.out.blk L2.out (Nat.le_succ _) r1
  clear r1 P2 R2 L2 H2
  have hc2 : w3.cell? ⟨w.heap.size + 1, 34, none⟩ = some (.int .u64 0) := by rw [M2.out.cell]; exact vsC_at _ _ _ _ HX
  have hf2 : w3.frozen? ⟨w.heap.size + 1, 34, none⟩ = false := M2.out.fr 34
  go_wp2_with fail
  have P3 : Hid _ := Q2.out.set (g := w.heap.size + 1) (Nat.le_succ _) 34 (.int .u64 V)
  have L3 : Hid (Blk (w3.setCell ⟨w.heap.size + 1, 34, none⟩ (.int .u64 V)) (w.heap.size + 1) (vsC U x V (List.replicate 32 0)) 130) := by have h9 := (M2.out.set 34 (.int .u64 V)); rwa [vsC_putc _ _ _ _ _ HX] at h9
  have R3 : Hid _ := S2.out.keep ((Chg.refl (fun k => k = w.heap.size + 1) w3).setCell (p := ⟨w.heap.size + 1, 34, none⟩) (.inl rfl) (.int .u64 V)) (by omega)
  clear Q2 S2 M2 hc2 hf2
  refine Calls.mono (H3.out _ P3.out.rp.1) ?_
  rintro e w4 ⟨rfl, r1⟩
  have Q3 : Hid _ := P3.out.call r1
  have S3 : Hid _ := P3.out.blk R3.out (Nat.le_refl _) r1
  have M3 : Hid _ := P3.out.blk L3.out (Nat.le_succ _) r1
  clear r1 P3 R3 L3 H3
  go_wp2_with (first
    | (refine wpList_store_part rfl 31 (.tmp 22) (.tmp 20) rfl (w.heap.size + 1) 35 (bs y) rfl rfl M3.out (by simp [vsC, bs, HX, HY]) (Try.sumSz' y HY) (bs_one y) ?_; intro y3 b7 c7; rw [vsC_puty _ _ _ _ _ HX (by simp [HY])] at b7; have L4 : Hid _ := b7; have R4 : Hid _ := S3.out.keep c7 (by omega); have P4 : Hid _ := Q3.out.chg c7 (Nat.le_succ _); clear b7 c7)
    | (refine wpList_load_part rfl 130 (.tmp 3) rfl (w.heap.size + 1) 0 (vsC U x V y) rfl L4.out (by simp) Try.underlying130 rfl (Try.versSz U x V y HX HY) ?_)
    | (refine wpList_store_part rfl 130 (.tmp 2) (.tmp 23) rfl w.heap.size 0 (vsC U x V y) rfl rfl R4.out (by simp [vsC, bs, HX, HY]) (Try.versSz U x V y HX HY) (vsC_one U x V y) ?_; intro w8 b8 c8; rw [splice_all _ _ (by simp [vsC, bs, HX, HY])] at b8; have RR : Hid _ := b8; have PP : Hid _ := P4.out.chg c8 (Nat.le_refl _); clear b8 c8))
  exact bodyPost_ret (v := .agg (vsC U x V y).toArray) (results_row1 rfl _ _ w.heap.size 130 _ _ _ rfl RR.out.eq Try.underlying130 rfl (Try.versSz U x V y HX HY)) rfl ⟨rfl, PP.out.rp⟩

set_option maxRecDepth 100000 in
set_option maxHeartbeats 4000000 in
theorem peak_any {w : World} {p : Nat} {t : TypeId} {tv : Value} {T : List Int} {a : Nat} {err : Int} (h : RS w p t tv T a err) :
    Calls Try.prog 107 #[.pointer (some ⟨p, 0, none⟩)] w fun e w' => e = .returned (.agg (peakE T a err).1.toArray) ∧ RP w w' p t tv T (peakE T a err).2.1 (peakE T a err).2.2 := by
  unfold peakE
  have A0 := At.start h
  clear h
  obtain ⟨U, a1, e1, hU⟩ : ∃ U a1 e1, uintS T a err maxN = (U, a1, e1) := ⟨_, _, _, rfl⟩
  have C0 : ∀ w', RS w' p t tv T a err → _ := fun w' h => rNumber_any h
  simp only [hU] at C0 ⊢
  have C1 : ∀ w', RS w' p t tv T a1 e1 → _ := fun w' h => limb_any h
  have LL := limbS_len T a1 e1
  obtain ⟨z, a2, e2, hz⟩ : ∃ z a2 e2, limbS T a1 e1 = (z, a2, e2) := ⟨_, _, _, rfl⟩
  simp only [hz] at C1 LL ⊢
  clear hU hz
  obtain ⟨W0, hW0⟩ : ∃ W0, W0 = (w.alloc (.cells (leafC 0 (List.replicate 65 0)).toArray 132)).alloc (.cells (leafC 0 (List.replicate 65 0)).toArray 132) := ⟨_, rfl⟩
  have P0 : Hid (At w W0 p t tv T a err) := by rw [hW0]; exact (A0.alloc _).alloc _
  have R0 : Hid (Blk W0 w.heap.size (leafC 0 (List.replicate 65 0)) 132) := by rw [hW0]; exact (Blk.made w _ 132).alloc _
  have L0 : Hid (Blk W0 (w.heap.size + 1) (leafC 0 (List.replicate 65 0)) 132) := by
    rw [hW0]
    have := Blk.made (w.alloc (.cells (leafC 0 (List.replicate 65 0)).toArray 132)) (leafC 0 (List.replicate 65 0)) 132
    rwa [World.size_alloc] at this
  have HC : Hid _ := C0 W0 P0.out.rp.1
  have H1 : Hid _ := C1
  rw [hW0] at HC
  have HW : Hid _ := hW0
  clear A0 hW0 C0 C1
  go_enter Try.func107, Try.ntmps107
  go_wp2_with fail
  refine Calls.mono HC.out ?_
  rintro e w1 ⟨rfl, r1⟩
  rw [← HW.out] at r1
  have Q0 : Hid _ := P0.out.call r1
  have S0 : Hid _ := P0.out.blk R0.out (Nat.le_refl _) r1
  have M0 : Hid _ := P0.out.blk L0.out (Nat.le_succ _) r1
  clear r1 P0 R0 L0 HC HW
  have hc0 : w1.cell? ⟨w.heap.size + 1, 0, none⟩ = some (.int .u64 0) := M0.out.cell 0
  have hf0 : w1.frozen? ⟨w.heap.size + 1, 0, none⟩ = false := M0.out.fr 0
  go_wp2_with fail
  have P1 : Hid _ := Q0.out.set (g := w.heap.size + 1) (Nat.le_succ _) 0 (.int .u64 U)
  have L1 : Hid (Blk (w1.setCell ⟨w.heap.size + 1, 0, none⟩ (.int .u64 U)) (w.heap.size + 1) (leafC U (List.replicate 65 0)) 132) := (M0.out.set 0 (.int .u64 U))
  have R1 : Hid _ := S0.out.keep ((Chg.refl (fun k => k = w.heap.size + 1) w1).setCell (p := ⟨w.heap.size + 1, 0, none⟩) (.inl rfl) (.int .u64 U)) (by omega)
  clear Q0 S0 M0 hc0 hf0
  refine Calls.mono (H1.out _ P1.out.rp.1) ?_
  rintro e w2 ⟨rfl, r1⟩
  have Q1 : Hid _ := P1.out.call r1
  have S1 : Hid _ := P1.out.blk R1.out (Nat.le_refl _) r1
  have M1 : Hid _ := P1.out.blk L1.out (Nat.le_succ _) r1
  clear r1 P1 R1 L1 H1
  go_wp2_with (first
    | (refine wpList_store_part rfl 73 (.tmp 9) (.tmp 8) rfl (w.heap.size + 1) 1 (bs z) rfl rfl M1.out (by simp [leafC, bs, LL]) (Try.limbSz z LL) (bs_one z) ?_; intro y1 b7 c7; rw [leafC_put _ _ _ (by simp [LL])] at b7; have L2 : Hid _ := b7; have R2 : Hid _ := S1.out.keep c7 (by omega); have P2 : Hid _ := Q1.out.chg c7 (Nat.le_succ _); clear b7 c7)
    | (refine wpList_load_part rfl 132 (.tmp 3) rfl (w.heap.size + 1) 0 (leafC U z) rfl L2.out (by simp) Try.underlying132 rfl (Try.peakSz U z LL) ?_)
    | (refine wpList_store_part rfl 132 (.tmp 2) (.tmp 10) rfl w.heap.size 0 (leafC U z) rfl rfl R2.out (by simp [leafC, bs, LL]) (Try.peakSz U z LL) (leafC_one U z) ?_; intro w8 b8 c8; rw [splice_all _ _ (by simp [leafC, bs, LL])] at b8; have RR : Hid _ := b8; have PP : Hid _ := P2.out.chg c8 (Nat.le_refl _); clear b8 c8))
  exact bodyPost_ret (v := .agg (leafC U z).toArray) (results_row1 rfl _ _ w.heap.size 132 _ _ _ rfl RR.out.eq Try.underlying132 rfl (Try.peakSz U z LL)) rfl ⟨rfl, PP.out.rp⟩

end Go.Proofs.Ytjmeaebehndheaa
