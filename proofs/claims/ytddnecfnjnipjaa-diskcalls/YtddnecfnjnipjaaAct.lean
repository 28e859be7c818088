import Derived.Test.YtddnecfnjnipjaaPend
import Derived.Test.YtddnecfnjnipjaaRot
/-
  Image over whatever is durable.
-/
namespace Go.Proofs.Ytddnecfnjnipjaa
open Go.RowKit Go.RwLone

theorem img_begin (T : List Int) (z S : Nat) (_hz : 0 < z) (left : Lit → Bool) (h : ∀ i : Nat, i < S → left (kI i) = false → ∀ j, j / z = i → T.getD j 0 = 0) : bs (img T z S left) = zer (S * z) := by
  unfold img bs zer
  rw [List.map_map]
  apply List.ext_getElem (by simp)
  intro j h1 h2
  have hj : j < S * z := by simpa using h1
  have hjS := Nat.div_lt_of_lt_mul (show j < z * S by rw [Nat.mul_comm]; exact hj)
  simp only [List.getElem_map, List.getElem_range, Function.comp, List.getElem_replicate]
  cases hl : left (kI (j / z)) with
  | true => simp
  | false =>
    rw [if_neg (by decide), h (j / z) hjS hl j rfl]

/-- While it ranges. -/
structure IN2 (w wr : World) (p m c : Nat) (x : Nums) (S z I km : Nat) (K : Nat → Option Nat) (C : Nat → List Int) (D : DataW Unit) (T : List Int) (left : Lit → Bool) (cnt : Nat) : Prop where
  rg : wr.ranges Try.prog 3 (blkElem z) m (I + 1) km D left cnt
  row : Rw wr p ((dkG S z m c x).setIfInBounds 6 (.int .i32 1)) 86
  blk : ∀ t g, K t = some g → Rw wr g (bs (C g)).toArray 5
  im : Rw wr I (bs (img T z S left)).toArray 5
  sub : ∀ kl, left kl = true → Maps.has D kl = true
  ch : Chg (fun k => k = p) w wr

set_option maxRecDepth 100000 in
set_option maxHeartbeats 4000000 in
theorem imageG {w : World} {p m c S z km : Nat} {x : Nums} {K : Nat → Option Nat} {C : Nat → List Int} {D : DataW Unit} {T : List Int} (h : Rw w p (dkG S z m c x) 86) (hdu : Du w m km z K D) (hmp : m ≠ p) (hkr : ∀ t g, K t = some g → Rw w g (bs (C g)).toArray 5 ∧ (C g).length = z) (hks : ∀ t g, K t = some g → t < S ∧ piece T z t = C g) (hkn : ∀ t, t < S → K t = none → ∀ j, j / z = t → T.getD j 0 = 0) (hz : z ≤ 4096) (hz0 : 0 < z) (hT : T.length = S * z) (hb : S * z ≤ 16777216) :
    Calls Try.prog 50 #[.pointer (some ⟨p, 0, none⟩)] w fun e w' => ∃ g, e = .returned (.slice (some ⟨g, 0, none⟩) (S * z) (S * z)) ∧ Rw w' g (bs T).toArray 5 ∧ w.heap.size ≤ g ∧ Rw w' p (dkG S z m c x) 86 ∧ Chg (fun k => k = p) w w' := by
  obtain ⟨N, hN⟩ : ∃ N, N = S * z := ⟨_, rfl⟩
  have hmul : (S : Int) * (z : Int) = (N : Int) := by rw [hN, Int.natCast_mul]
  rw [← hN] at hb ⊢
  have r0 := h
  have c2 : w.cell? ⟨p, 2, none⟩ = some (.int .i32 0) := r0.cell 2
  have c5 : w.cell? ⟨p, 5, none⟩ = some (.int .u32 0) := r0.cell 5
  have c6 : w.cell? ⟨p, 6, none⟩ = some (.int .i32 0) := r0.cell 6
  have f6 := r0.fr 6
  have hmk := run_mk N (by omega)
  have HDU : Hid _ := hdu
  have HKR : Hid _ := hkr
  have HKS : Hid _ := hks
  have HKNN : Hid _ := hkn
  have R0 : Hid _ := r0
  have HN : Hid _ := hN
  have HT : Hid _ := hT
  clear h r0 hN hT hdu hkr hks hkn
  go_enter_defers Try.func50, Try.ntmps50
  go_wp2_with fail
  refine (rlock_open Try.rwRLib p 2 0 _ _ _ c2 c5 c6 f6 (by rw [wr1]; decide)).mono ?_
  rintro e w' ⟨rfl, rfl⟩
  rw [wr1]
  obtain ⟨w1, hw1⟩ : ∃ w1, w1 = w.setCell ⟨p, 2 + 4, none⟩ (.int .i32 1) := ⟨_, rfl⟩
  rw [← hw1]
  have r1 : Rw w1 p ((dkG S z m c x).setIfInBounds 6 (.int .i32 1)) 86 := by rw [hw1]; exact R0.out.set 6 _
  have hc1 : Chg (fun k => k = p) w w1 := by rw [hw1]; exact (Chg.refl (fun k => k = p) w).setCell (.inl rfl) _
  have C1 : Hid _ := hc1
  have R1 : Hid _ := r1
  have M1 : Hid (Du w1 m km z K D) := HDU.out.kept (grown_of hc1) (fun e => hmp (by injection e))
  have G1 : Hid (∀ t g, K t = some g → Rw w1 g (bs (C g)).toArray 5) := fun t g hg => Rw.chg1 (HKR.out t g hg).1 hc1 (Rw.ne (HKR.out t g hg).1 R0.out (by decide))
  clear c2 c5 c6 f6 hw1 r1 R0 hc1
  go_upto_region 3 with fail
  refine wp_region_noPanic ?_
  refine wp_region_held_drew (S := fun w' => w'.cell? ⟨p, 0, none⟩ = some (.int .i64 S) ∧ w'.cell? ⟨p, 1, none⟩ = some (.int .i64 z)) (by kernel_rfl) ⟨Rw.cell R1.out 0, Rw.cell R1.out 1⟩ (fun hH => ?_)
  refine wpAnyH_take (i := 0) (v := .pointer (some ⟨p, 0, none⟩)) rfl (by kernel_rfl) (by kernel_rfl) (by kernel_rfl) (fun _ _ _ h => h) (Or.inl ⟨by rfl, fun w' _ => by go_simp⟩) hH ?_
  refine wpAnyH_take (i := 1) (v := .pointer (some ⟨p, 0, none⟩)) rfl (by kernel_rfl) (by kernel_rfl) (by kernel_rfl) (fun _ _ _ h => h) (Or.inl ⟨by rfl, fun w' _ => by go_simp⟩) hH ?_
  refine wpAnyH_take (i := 2) (v := .pointer (some ⟨p, 0, none⟩)) rfl (by kernel_rfl) (by kernel_rfl) (by kernel_rfl) (fun _ _ _ h => h) (Or.inl ⟨by rfl, fun w' _ => by go_simp⟩) hH ?_
  refine wpAnyH_take (i := 3) (v := .int .i64 S) rfl (by kernel_rfl) (by kernel_rfl) (by kernel_rfl) (fun _ _ _ h => h) (Or.inl ⟨by rfl, fun w' hw' => by have h2 := hw'.1; go_simp⟩) hH ?_
  refine wpAnyH_take (i := 4) (v := .pointer (some ⟨p, 0, none⟩)) rfl (by kernel_rfl) (by kernel_rfl) (by kernel_rfl) (fun _ _ _ h => h) (Or.inl ⟨by rfl, fun w' _ => by go_simp⟩) hH ?_
  refine wpAnyH_take (i := 5) (v := .pointer (some ⟨p, 0, none⟩)) rfl (by kernel_rfl) (by kernel_rfl) (by kernel_rfl) (fun _ _ _ h => h) (Or.inl ⟨by rfl, fun w' _ => by go_simp⟩) hH ?_
  refine wpAnyH_take (i := 6) (v := .pointer (some ⟨p, 1, none⟩)) rfl (by kernel_rfl) (by kernel_rfl) (by kernel_rfl) (fun _ _ _ h => h) (Or.inl ⟨by rfl, fun w' _ => by go_simp⟩) hH ?_
  refine wpAnyH_take (i := 7) (v := .int .i64 z) rfl (by kernel_rfl) (by kernel_rfl) (by kernel_rfl) (fun _ _ _ h => h) (Or.inl ⟨by rfl, fun w' hw' => by have h2 := hw'.2; go_simp⟩) hH ?_
  refine wpAnyH_take (i := 8) (v := .int .i64 N) rfl (by kernel_rfl) (by kernel_rfl) (by kernel_rfl) (fun _ _ _ h => h) (Or.inl ⟨by rfl, fun w' _ => by go_simp; exact IntWalk.i64_in _ (by omega)⟩) hH ?_
  refine wpAnyH_ready (rs := [9]) (by kernel_rfl) (by simp) ?_
  refine AllReadyH.cons rfl (fun KK hKK => ?_) AllReadyH.nil
  go_simp
  obtain ⟨w2, hw2⟩ : ∃ w2, w2 = (w1.alloc (.cells (zer N).toArray 5)).drew := ⟨_, rfl⟩
  have hb2 : Below w1.heap.size w1 w2 := by rw [hw2]; exact ((Below.refl _ _).alloc (Nat.le_refl _) _).drew
  have R2 : Hid _ := Rw.keep R1.out hb2
  have I2 : Hid (Rw w2 w1.heap.size (zer N).toArray 5) := by rw [hw2]; exact ⟨heap_alloc_new _ _⟩
  have hs2 : w2.heap.size = w1.heap.size + 1 := by rw [hw2]; show (w1.alloc _).heap.size = _; simp
  rw [← hw2]
  have M2 : Hid (Du w2 m km z K D) := by rw [hw2]; exact ⟨(M1.out.own.alloc _).drew, M1.out.at_, M1.out.has⟩
  clear hw2
  refine hKK.out _ _ ⟨Rw.cell R2.out 0, Rw.cell R2.out 1⟩ (fun hS2 => ?_)
  clear hKK KK
  refine wpAnyH_ready (rs := [10]) (by kernel_rfl) (by simp) ?_
  refine AllReadyH.cons rfl (fun KK hKK => ?_) AllReadyH.nil
  go_simp
  refine hKK.out _ _ hS2 (fun _ => ?_)
  clear hKK KK
  refine wpAnyH_done (by kernel_rfl) (NoPanic.normal ?_) _
  have G2 : Hid (∀ t g, K t = some g → Rw w2 g (bs (C g)).toArray 5 ∧ g < w1.heap.size) := fun t g hg => ⟨Rw.keep (G1.out t g hg) hb2, Rw.lt (G1.out t g hg)⟩
  have C2 : Hid (Chg (fun k => k = p) w w2) := C1.out.trans (Chg.of_below hb2 (fun _ => False)) (fun _ h => h.elim)
  have plt : p < w1.heap.size := Rw.lt R1.out
  have hsw : w.heap.size ≤ w1.heap.size := C1.out.size
  have mlt : m < w1.heap.size := M1.out.own.lt
  have d8 : w2.cell? ⟨p, 8, none⟩ = some (.map (some m)) := Rw.cell R2.out 8
  clear hb2 hS2 hH hmk R1 M1 C1 G1
  go_wp2_with (first | (at_range; refine wpList_range_own _ rfl (.tmp 26) 80 rfl 3 48 keyed3 Try.underlying80 (blkElem z) m km D rfl M2.out.own ?_; intro w0 hrg0 hg0 hs0; have RG0 : Hid _ := hrg0; have HG0 : Hid _ := hg0; have HS0 : Hid _ := hs0; clear hrg0 hg0 hs0) | go_in)
  try go_frame
  have hb0 : Below w2.heap.size w2 w0 := ⟨HG0.out.os, HG0.out.tape, HG0.out.output, HG0.out.size, fun k hk => HG0.out.block k hk (by simp)⟩
  have K0 : Hid (IN2 w w0 p m c x S z w1.heap.size km K C D T (Maps.has D) (Maps.size D)) := by
    refine ⟨by have := RG0.out; rw [hs2] at this; exact this, Rw.keep R2.out hb0, fun t g hg => Rw.keep (G2.out t g hg).1 hb0, ?_, fun _ h => h, C2.out.trans (Chg.of_below hb0 (fun _ => False)) (fun _ h => h.elim)⟩
    rw [img_begin T z S hz0 (Maps.has D) (fun i hi hl => HKNN.out i hi (Classical.byContradiction fun e => by rw [(HDU.out.has _).2 ⟨i, rfl, e⟩] at hl; cases hl)), ← HN.out]
    exact Rw.keep I2.out hb0
  rw [hs2]
  have GL : Hid (∀ t g, K t = some g → g < w1.heap.size) := fun t g hg => (G2.out t g hg).2
  clear hb0 RG0 HG0 HS0 R2 I2 M2 G2 C2 d8
  go_loopw [4] (fun _ wr => ∃ left cnt, IN2 w wr p m c x S z w1.heap.size km K C D T left cnt) (fun _ wr => wr.rangeLeft m (w1.heap.size + 1))
  case atStart => exact ⟨_, _, K0.out⟩
  case round =>
    obtain ⟨left, cnt, him⟩ := hrel
    have HI : Hid _ := him
    clear him
    go_wp2_with (first | (at_next; refine wpList_next_ranges _ rfl (.tmp 27) rfl 3 keyed3 (blkElem z) (Value.int .i64) (mkE z) (fun key kl hkey => by obtain ⟨x9, rfl, _⟩ := Maps.keyOf_int_inv Try.underlying3 hkey; exact ⟨x9, rfl⟩) (mkE_inv z) m (w1.heap.size + 1) km D left cnt rfl HI.out.rg ?_ ?_) | go_in)
    · intro _ hl0
      have e9 := img_end T z S left HT.out hl0
      have im9 := HI.out.im
      rw [e9] at im9
      have IM9 : Hid _ := im9
      clear hl0 e9 im9
      go_wp2_with fail
      refine leaves_cons (f := 32) (args := #[.pointer (some ⟨p, 2, none⟩)]) (by simp) (by simp [go_sem]) ?_
      refine (runlock_deferred Try.rwRLib p 2 1 _ _ .returning _ (Rw.cell HI.out.row 2) (Rw.cell HI.out.row 4) (Rw.cell HI.out.row 6) (Rw.fr HI.out.row 6) (by rw [wr0]; decide)).mono ?_
      rintro e u' w'' ⟨rfl, rfl, rfl⟩
      refine ⟨_, results_tmp rfl _ _ _, w1.heap.size, rfl, ?_⟩
      rw [wr0]
      have c4 : Chg (fun k => k = p) wr (wr.setCell ⟨p, 2 + 4, none⟩ (.int .i32 0)) := (Chg.refl (fun k => k = p) wr).setCell (.inl rfl) _
      have K4 := Rw.set HI.out.row 6 (.int .i32 0)
      exact ⟨Rw.chg1 IM9.out c4 (by omega), hsw, K4, HI.out.ch.trans c4 (fun _ e => .inl e)⟩
    · intro x0 e0 kl y1 y2 wn cnt1 hkey hlk hv hat hrg1 hlt hg1 hs1 hen
      obtain ⟨i, hkl, hKi⟩ := (HDU.out.has kl).1 (HI.out.sub kl hlk)
      obtain ⟨gi, hgi⟩ : ∃ gi, K i = some gi := Option.ne_none_iff_exists'.1 hKi
      obtain ⟨hi, hpc⟩ := HKS.out i gi hgi
      obtain ⟨x', ex, ekl, _⟩ := Maps.keyOf_int_inv Try.underlying3 hkey
      rw [hkl] at ekl
      injection ekl with _ ekl
      injection ex with _ ex
      have hxi : x0 = (i : Int) := by omega
      have hy1 : y1 = .lit (.int .i64 gi) := by rw [← hat .nil, hkl, HDU.out.at_ i, hgi]; rfl
      have hE := mkE_block (y := (y1, y2)) hv hy1
      rw [hE, hxi] at hen
      rw [hE, hxi]
      have hp := piece_len HT.out hi
      obtain ⟨L, hL⟩ : ∃ L, L = i * z := ⟨_, rfl⟩
      have hm1 : (i : Int) * (z : Int) = (L : Int) := by rw [hL, Int.natCast_mul]
      have hLz : L + z ≤ N := by
        have := Nat.mul_le_mul_right z hi
        rw [Nat.succ_mul, ← hL, ← HN.out] at this
        exact this
      have hne : ¬ N = L := by omega
      have hch1 : Chg (fun k => k = w1.heap.size + 1) wr wn := ⟨hg1.os, hg1.tape, hg1.output, hg1.size, fun k hk hn => hg1.block k hk (by simpa using hn)⟩
      have row1 := Rw.chg1 HI.out.row hch1 (by omega)
      have d1 : wn.cell? ⟨p, 1, none⟩ = some (.int .i64 z) := Rw.cell row1 1
      have IN : Hid _ := Rw.chg1 HI.out.im hch1 (by omega)
      have gn0 := Rw.chg1 (HI.out.blk i gi hgi) hch1 (by have := GL.out i gi hgi; omega)
      rw [← hpc] at gn0
      have GN : Hid _ := gn0
      have HC1 : Hid _ := hch1
      have HRG : Hid _ := hrg1
      have HP : Hid _ := hp
      have HLL : Hid _ := hL
      have HKL : Hid _ := hkl
      have HLT : Hid _ := hlt
      clear hrg1 hg1 hs1 hat hv hy1 hkey hlk hE hxi ekl ex hch1 row1 hp hL hkl hlt gn0 hpc hKi
      go_wp2_with (refine wpList_copy_to rfl (.tmp 40) (.tmp 41) rfl w1.heap.size L (N - L) (N - L) ⟨gi, 0, none⟩ z z rfl rfl IN.out (bs (piece T z i)) (by rw [bs_len, HP.out]; exact (Nat.min_eq_left (by omega)).symm) (fun j v hv => by rw [addr_add, Nat.zero_add, Rw.cell GN.out j]; simpa using hv) (by rw [bs_len, bs_len, HP.out, img_len, ← HN.out]; exact hLz) (bs_one _) ?_; intro w5 r5 c5; have R5 : Hid _ := r5; have C5 : Hid _ := c5; clear r5 c5; try go_frame)
      have K5 : Hid (IN2 w w5 p m c x S z w1.heap.size km K C D T (fun y => left y && !y.sameKey kl) cnt1) := by
        have r5 := R5.out
        rw [HLL.out, img_step T z S left hz0 HT.out i hi] at r5
        refine ⟨World.ranges.kept HRG.out (grown_of C5.out) (by simp; omega) (by simp), Rw.chg1 (Rw.chg1 HI.out.row HC1.out (by omega)) C5.out (by omega), fun t g hg => Rw.chg1 (Rw.chg1 (HI.out.blk t g hg) HC1.out (by have := GL.out t g hg; omega)) C5.out (by have := GL.out t g hg; omega), ?_, fun kl2 h => HI.out.sub kl2 (by simp at h; exact h.1), ?_⟩
        · rw [HKL.out]; exact r5
        · exact (HI.out.ch.trans HC1.out (fun k e => .inr (by omega))).trans C5.out (fun k e => .inr (by omega))
      go_roundw
      case rel => exact ⟨_, _, K5.out⟩
      case measure => rw [K5.out.rg.left_eq, HI.out.rg.left_eq]; exact HLT.out

/-- The image of what is durable. -/
def imgT (z S : Nat) (F : Nat → Option (List Int)) : List Int := (List.range (S * z)).map fun j => ((F (j / z)).getD (zs z)).getD (j % z) 0
theorem imgT_len (z S : Nat) (F : Nat → Option (List Int)) : (imgT z S F).length = S * z := by simp [imgT]
theorem imgT_piece {z S : Nat} {F : Nat → Option (List Int)} {t : Nat} {l : List Int} (hz : 0 < z) (ht : t < S) (hF : (F t).getD (zs z) = l) (hl : l.length = z) : piece (imgT z S F) z t = l := by
  have h1 : (t + 1) * z ≤ S * z := Nat.mul_le_mul_right z ht
  rw [Nat.add_mul, Nat.one_mul] at h1
  apply List.ext_getElem (by rw [piece_len (imgT_len z S F) ht, hl])
  intro j h2 h3
  have hj : j < z := by omega
  have e1 : (t * z + j) / z = t := by rw [Nat.mul_comm, Nat.mul_add_div hz, Nat.div_eq_of_lt hj]; omega
  have e2 : (t * z + j) % z = j := by rw [Nat.mul_comm, Nat.mul_add_mod, Nat.mod_eq_of_lt hj]
  simp only [piece, imgT, List.getElem_take, List.getElem_drop, List.getElem_map, List.getElem_range, e1, e2, hF]
  rw [List.getD_eq_getElem?_getD, List.getElem?_eq_getElem h3]
  rfl

end Go.Proofs.Ytddnecfnjnipjaa

/-
  A disk while other rows turn; acts in memory, a list of them that grows.
-/
namespace Go.Proofs.Ytddnecfnjnipjaa
open Go.RowKit Go.RwLone

section
variable {w w' : World} {N p S z b pn : Nat} {A : Nat → List (Nat × List Int)} {F : Nat → Option (List Int)} {row : Option Nat}

end

/-- An act. -/
structure Ac where
  on : Int
  kd : Int
  nm : Int
  fill : Int
  less : Int
  at_ : Int
  mask : Int
  ka : Option Addr
  kn : Nat
  kc : Nat
  torn : Int
def Ac.cells (a : Ac) : List Value := actC a.on a.kd a.nm a.fill a.less a.at_ a.mask (.slice a.ka a.kn a.kc) a.torn
theorem Ac.len (a : Ac) : a.cells.length = 9 := rfl
theorem Ac.one (a : Ac) : ∀ u ∈ a.cells, u.oneCell' = true := by
  intro u hu
  simp only [Ac.cells, actC, List.mem_cons, List.not_mem_nil, or_false] at hu
  rcases hu with rfl | rfl | rfl | rfl | rfl | rfl | rfl | rfl | rfl <;> rfl

/-- A list of acts in memory. -/
structure Acs (w : World) (a : Option Addr) (N : Nat) (ac : Nat → Ac) : Prop where
  row : ∀ i, i < N → ∃ g o, a = some ⟨g, o, none⟩ ∧ ∀ j v, (ac i).cells[j]? = some v → w.cell? ⟨g, o + i * 9 + j, none⟩ = some v
  nm : ∀ i, i < N → -9223372036854775808 ≤ (ac i).nm ∧ (ac i).nm ≤ 9223372036854775807
  fl : ∀ i, i < N → 0 ≤ (ac i).fill ∧ (ac i).fill ≤ 255

/-- The cells of the first acts. -/
def dcells (dn : Nat → Ac) (j : Nat) : List Value := (List.range j).flatMap fun k => (dn k).cells
theorem dcells_next (dn : Nat → Ac) (j : Nat) : dcells dn (j + 1) = dcells dn j ++ (dn j).cells := by simp [dcells, List.range_succ]
theorem dcells_len (dn : Nat → Ac) (j : Nat) : (dcells dn j).length = j * 9 := by
  induction j with
  | zero => rfl
  | succ j ih => rw [dcells_next, List.length_append, ih, Ac.len]; omega
theorem dcells_get (dn : Nat → Ac) : ∀ (n j q : Nat) (v : Value), j < n → (dn j).cells[q]? = some v → (dcells dn n)[j * 9 + q]? = some v
  | 0, j, _, _, h, _ => by omega
  | n + 1, j, q, v, h, hv => by
    have hq : q < 9 := (List.getElem?_eq_some_iff.1 hv).1
    rw [dcells_next]
    by_cases e : j = n
    · subst e
      rw [List.getElem?_append_right (by rw [dcells_len]; omega), dcells_len, Nat.add_sub_cancel_left]
      exact hv
    · rw [List.getElem?_append_left (by rw [dcells_len]; omega)]
      exact dcells_get dn n j q v (by omega) hv

theorem info45 : (Try.prog.info? 44).map (fun i => (i.zero, i.size, i.bytes)) = some (some (.agg #[.int .i64 0, .int .i64 0, .int .i64 0, .int .u8 0, .int .i64 0, .int .i64 0, .int .u8 0, .slice none 0 0, .int .i64 0]), 9, 88) := by kernel_rfl

/-- One act more. -/
theorem run_appD (w : World) (ty : TypeId) {v : Value} {n : Nat} {xs : List Value} (hv : w.ownsRow 0 44 9 v n xs) (a : Addr) (c : Nat) (d : Ac) (ha : ∀ j u, d.cells[j]? = some u → w.cell? (a.add j) = some u) (hn : (n + 1) * 88 ≤ 140737488355328) :
    ∃ v' w', (Builtin.append_ #[23, 23] ty #[v, .slice (some a) 1 c]).run Try.prog w = .ok v' w' ∧ w'.ownsRow 0 44 9 v' (n + 1) (xs ++ d.cells) ∧ w.grownBy w' v.ownBlock ∧ (v'.ownBlock = v.ownBlock ∨ v'.ownBlock = some w.heap.size) := by
  obtain ⟨i0, hi, hz0, hz1, hz2⟩ := info_parts info45
  obtain ⟨v', w1, h1, h2, h3, h4, h5⟩ := run_append_own_at (P := Try.prog) w 0 23 ty 44 i0 _ 9 88 Try.underlying23 hi hz0 hz1 hz2 rfl (by decide) v n xs hv a 1 c d.cells rfl ha d.one (by unfold maxLen; omega) (by omega) (Nat.zero_le _)
  exact ⟨v', w1, h1, h2, h3, h5⟩

theorem wpList_appD {ops : Array Oper} {rest : List Oper} {o : Oper} {a : Act} {w : World} {Q : Exit → Act → World → Prop} (hgd : o.guard = none) (s x : Operand)
    (ho : o.op = .call { callee := .builtin .append, args := #[s, x], argTypes := #[23, 23] })
    {v : Value} {n : Nat} {xs : List Value} {ad : Addr} {c : Nat} {d : Ac} (hs : a.eval s = v) (hx : a.eval x = .slice (some ad) 1 c) (hv : w.ownsRow 0 44 9 v n xs) (ha : ∀ j u, d.cells[j]? = some u → w.cell? (ad.add j) = some u) (hn : (n + 1) * 88 ≤ 140737488355328)
    (h : ∀ v' w', w'.ownsRow 0 44 9 v' (n + 1) (xs ++ d.cells) → w.grownBy w' v.ownBlock → (v'.ownBlock = v.ownBlock ∨ v'.ownBlock = some w.heap.size) → wpList Try.prog ops Q rest (a.put o.dst v') w') :
    wpList Try.prog ops Q (o :: rest) a w := by
  refine wpList_plain hgd fun K hK => ?_
  obtain ⟨v', w', hr, h2, h3, h5⟩ := run_appD w o.type hv ad c d ha hn
  unfold Oper.wp execOp
  simp only [ho, resolve, invoke, builtin, Sem.run_bind, Sem.run_pure, Result.andThen_ok, List.map_toArray, List.map_cons, List.map_nil, hs, hx, hr]
  exact hK _ _ (h v' w' h2 h3 h5)

theorem row45 {w : World} {v : Value} {n : Nat} {xs : List Value} (h : w.ownsRow 0 44 9 v n xs) {g : Nat} (hg : v.ownBlock = some g) : ∃ cur, Rw w g cur 44 := by
  rcases h.2 with ⟨e, _⟩ | ⟨b, cap, cur, e, _, hgg, _⟩
  · rw [e] at hg; simp [Value.ownBlock] at hg
  · rw [e] at hg
    simp [Value.ownBlock] at hg
    exact ⟨cur, by rw [← hg]; exact ⟨hgg⟩⟩
end Go.Proofs.Ytddnecfnjnipjaa

/-
  A disk as what it holds, beside a block of bytes that is not its own.
-/
namespace Go.Proofs.Ytddnecfnjnipjaa
open Go.RowKit Go.RwLone

section
variable {w w' : World} {N G p S z b : Nat} {x : Nums} {A : Nat → List (Nat × List Int)} {F : Nat → Option (List Int)}

end

end Go.Proofs.Ytddnecfnjnipjaa

/-
  One act on a disk, whatever it is.
-/
namespace Go.Proofs.Ytddnecfnjnipjaa
open Go.RowKit Go.RwLone

set_option maxRecDepth 100000 in
set_option maxHeartbeats 2000000 in
theorem written_none {w : World} (z : Int) (on kd nm fill less at_ mask : Int) (kp : Value) (torn : Int) (hn : ¬ (0 ≤ z - less ∧ z - less ≤ 8192)) (hz0 : 0 ≤ z) (hz : z ≤ 8192) (hl1 : -9223372036854775808 ≤ less) (hl2 : less ≤ 9223372036854775807) :
    Calls Try.prog 22 #[.int .i64 z, .agg (actC on kd nm fill less at_ mask kp torn).toArray] w fun e w' => ∃ g, e = .returned (.slice (some ⟨g, 0, none⟩) 0 0) ∧ w.heap.size ≤ g ∧ Below w.heap.size w w' := by
  have hmk : ∀ w : World, (Instr.makeSlice 48 (.int .i64 0) (.int .i64 0)).run Try.prog w = .ok (.slice (some ⟨w.heap.size, 0, none⟩) 0 0) (w.alloc (.cells (zer 0).toArray 5)) := fun w => run_mk 0 (by omega) w
  obtain ⟨v, hv⟩ : ∃ v, wrap64 (z - less) = v := ⟨_, rfl⟩
  have hv2 : v < 0 ∨ (¬ v < 0 ∧ 8192 < v) := by
    rw [← hv]
    unfold wrap64
    omega
  obtain ⟨W, hW⟩ : ∃ W, W = w.alloc (.cells (actC on kd nm fill less at_ mask kp torn).toArray 44) := ⟨_, rfl⟩
  have R0 : Hid (Rw W w.heap.size (actC on kd nm fill less at_ mask kp torn).toArray 44) := by rw [hW]; exact ⟨heap_alloc_new _ _⟩
  have B0 : Hid (Below w.heap.size w W) := by rw [hW]; exact (Below.refl _ _).alloc (Nat.le_refl _) _
  have d4 : W.cell? ⟨w.heap.size, 4, none⟩ = some (.int .i64 less) := Rw.cell R0.out 4
  clear hn
  rcases hv2 with h1 | ⟨h1, h2⟩
  · go_enter Try.func22, Try.ntmps22
    go_upto_region 1 with fail
    rw [← hW]
    clear hW
    go_wp2_with fail
    refine wp_loop_rounds 1 ?_
    rw [rounds_succ]
    go_wp2_with fail
    go_ret
    exact ⟨_, rfl, B0.out.size, B0.out.alloc B0.out.size _⟩
  · go_enter Try.func22, Try.ntmps22
    go_upto_region 1 with fail
    rw [← hW]
    clear hW
    go_wp2_with fail
    refine wp_loop_rounds 1 ?_
    rw [rounds_succ]
    go_wp2_with fail
    go_ret
    exact ⟨_, rfl, B0.out.size, B0.out.alloc B0.out.size _⟩

section
variable {w w' : World} {N G p S z b : Nat} {x : Nums} {A : Nat → List (Nat × List Int)} {F : Nat → Option (List Int)} {kd nm : Int}

theorem burnN_bd {x : Nums} (h : -1 ≤ x.fuse ∧ x.fuse ≤ 9223372036854775807) : -1 ≤ (burnN x).fuse ∧ (burnN x).fuse ≤ 9223372036854775807 := by
  unfold burnN
  split
  · exact h
  · split
    · exact h
    · rename_i h1 h2
      simp only
      simp only [not_or] at h1
      omega

end

end Go.Proofs.Ytddnecfnjnipjaa
