/-
  breakPatternsOrdered.
-/
import Derived.Test.YtnfcmpffihmnmaaSgH
namespace Go.Proofs.Ytnfcmpffihmnmaa
open Go.RowKit

/-- The state behind t rounds. -/
def bs (a L M I : Nat) (d : Array Int) : Nat → UInt64 × Array Int
  | 0 => (UInt64.ofNat L, d)
  | t + 1 => Sort.breakStep a L M (bs a L M I d t) (I + t)

theorem bs_size (a L M I : Nat) (d : Array Int) : ∀ t, (bs a L M I d t).2.size = d.size
  | 0 => rfl
  | t + 1 => by
    show (Sort.swp _ _ _).size = _
    rw [swp_size]
    exact bs_size a L M I d t

theorem bs_eq (d : Array Int) (a b : Nat) (h : b - a ≥ 8) : Sort.breakPatterns d a b = (bs a (b - a) (1 <<< Sort.bitsLen (b - a)) (a + (b - a) / 4 * 2 - 1) d 3).2 := by
  unfold Sort.breakPatterns
  simp only [if_pos h, bs, Nat.add_zero]

set_option maxRecDepth 100000 in
set_option maxHeartbeats 4000000 in
theorem brk_any {w : World} {g n cap a b : Nat} {d : Array Int} (h : RU w g d) (hn : d.size = n) (hn2 : n < 65536) (hab : a + 8 ≤ b) (hb : b ≤ n) :
    Calls Try.prog 36 #[.slice (some ⟨g, 0, none⟩) n cap, .int .i64 a, .int .i64 b] w fun e w' => e = .returned (.tuple #[]) ∧ RU w' g (Sort.breakPatterns d a b) ∧ (Sort.breakPatterns d a b).size = n ∧ Chg (fun k => k = g) w w' := by
  obtain ⟨L, hL⟩ : ∃ L, L = b - a := ⟨_, rfl⟩
  have HB : Hid ((b : Int) - (a : Int) = (L : Int)) := (by omega : (b : Int) - (a : Int) = (L : Int))
  obtain ⟨I, hI⟩ : ∃ I, I = a + L / 4 * 2 - 1 := ⟨_, rfl⟩
  have HI : Hid ((a : Int) + (L : Int) / 4 * 2 - 1 = (I : Int)) := (by omega : (a : Int) + (L : Int) / 4 * 2 - 1 = (I : Int))
  obtain ⟨M, hM⟩ : ∃ M, M = 1 <<< Sort.bitsLen L := ⟨_, rfl⟩
  have m1 : M ≤ 2 * L := by rw [hM, Nat.one_shiftLeft]; exact Sort.two_pow_bitsLen_le (by omega)
  have m2 : 0 < M := by rw [hM, Nat.one_shiftLeft]; exact Nat.two_pow_pos _
  have PW : Hid _ := pow_any L (by omega)
  rw [← hM] at PW
  obtain ⟨D, hD⟩ : ∃ D : Nat → UInt64 × Array Int, D = bs a L M I d := ⟨_, rfl⟩
  have EQ : Sort.breakPatterns d a b = (D 3).2 := by
    rw [bs_eq d a b (by omega), ← hL, ← hM, ← hI, ← hD]
  have sz : ∀ t, (D t).2.size = n := fun t => by rw [hD, bs_size, hn]
  have d0 : D 0 = (UInt64.ofNat L, d) := by rw [hD]; rfl
  have dS : ∀ t, D (t + 1) = Sort.breakStep a L M (D t) (I + t) := fun t => by rw [hD]; rfl
  rw [EQ]
  have DD : Hid _ := And.intro sz (And.intro d0 dS)
  obtain ⟨r, hr⟩ : ∃ r, w.heap.size = r := ⟨_, rfl⟩
  have hgr : g < r := by rw [← hr]; exact h.lt
  have hI2 : I + 2 < a + L := by omega
  have hI3 : a ≤ I := by omega
  have haL : a + L ≤ n := by omega
  have hL8 : 8 ≤ L := by omega
  have b0 : RU (w.alloc (.cells #[.int .u64 L] 113)) g d ∧ Blk (w.alloc (.cells #[.int .u64 L] 113)) r [.int .u64 L] 113 ∧ Chg (fun k => k = g) w (w.alloc (.cells #[.int .u64 L] 113)) := by
    have c1 : Chg (fun _ => False) w (w.alloc (.cells #[.int .u64 L] 113)) := (Chg.refl (fun _ => False) w).alloc _
    refine ⟨h.keep c1 (fun h => h), ?_, c1.mono (fun _ _ h => h.elim)⟩
    rw [← hr]
    exact Blk.made w [.int .u64 L] 113
  have B0 : Hid _ := b0
  have IX : Hid _ := hI
  have HR : Hid _ := hr
  clear h hn hL hI hM hr EQ hD sz d0 dS b0
  go_enter Try.func36, Try.ntmps36
  go_upto_region 1 with fail
  rw [HB.out]
  go_upto_region 4 with (go_at_call 46; refine Calls.mono (PW.out _) ?_; rintro e w1 ⟨rfl, rfl⟩)
  rw [HR.out]
  clear PW
  go_wp2_with fail
  rw [HI.out]
  go_loopw [9] (fun si wr => ∃ t : Nat, si = .int .i64 ((I : Int) + (t : Int)) ∧ t ≤ 3 ∧ Hid (RU wr g (D t).2 ∧ Blk wr r [.int .u64 ((D t).1.toNat : Nat)] 113 ∧ Chg (fun k => k = g) w wr)) (fun si _ => ((I : Int) + 3 - intOf si).toNat)
  case atStart =>
    have e0 := DD.out.2.1
    refine ⟨0, by go_num, by omega, ?_⟩
    show RU _ g (D 0).2 ∧ Blk _ r [.int .u64 ((D 0).1.toNat : Nat)] 113 ∧ _
    rw [e0]
    refine ⟨B0.out.1, ?_, B0.out.2.2⟩
    show Blk _ r [.int .u64 ((UInt64.ofNat L).toNat : Nat)] 113
    rw [show (UInt64.ofNat L).toNat = L by simp [UInt64.toNat_ofNat']; omega]
    exact B0.out.2.1
  case round =>
    obtain ⟨t, rfl, ht, hid⟩ := hrel
    clear B0
    by_cases t3 : t = 3
    · subst t3
      have gd : ¬ ((I : Int) + ((3 : Nat) : Int) ≤ (a : Int) + (L : Int) / 4 * 2 + 1) := by have := IX.out; omega
      have R : Hid (RU wr g (D 3).2 ∧ (D 3).2.size = n ∧ Chg (fun k => k = g) w wr) := ⟨hid.out.1, DD.out.1 3, hid.out.2.2⟩
      clear hid
      go_wp2_with fail
      exact ⟨rfl, _, results_none rfl _ _ _, rfl, R.out⟩
    · have gd : (I : Int) + (t : Int) ≤ (a : Int) + (L : Int) / 4 * 2 + 1 := by have := IX.out; omega
      have s1 := DD.out.1 t
      have sS := DD.out.2.2 t
      obtain ⟨X, hX⟩ : ∃ X, X = (D t).1.toNat := ⟨_, rfl⟩
      have lX : X < 18446744073709551616 := by rw [hX]; exact UInt64.toNat_lt _
      obtain ⟨e, he⟩ : ∃ e, e = (D t).2 := ⟨_, rfl⟩
      have q := hid.out
      rw [← hX, ← he] at q
      rw [← he] at s1
      obtain ⟨Y, hY⟩ : ∃ Y, Y = Sort.xorNextN X := ⟨_, rfl⟩
      have lY : Y < 18446744073709551616 := by rw [hY]; exact Sort.xorNextN_lt X lX
      have NX := next_any q.2.1 lX
      rw [← hY] at NX
      obtain ⟨o, ho⟩ : ∃ o, o = Y &&& (M - 1) := ⟨_, rfl⟩
      have lo : o < M := by rw [ho]; have := @Nat.and_le_right Y (M - 1); omega
      have eo : bits .and .u64 (Y : Int) ((M : Int) - 1) = (o : Int) := by
        rw [show ((M : Int) - 1) = ((M - 1 : Nat) : Int) by omega, bits_and_u64_nat _ _ lY (by omega), ho]
      obtain ⟨c, hc⟩ : ∃ c, c = if o ≥ L then o - L else o := ⟨_, rfl⟩
      have lc : c < L := by rw [hc]; split <;> omega
      have hS : D (t + 1) = (Sort.xorNext (D t).1, Sort.swp e (I + t) (a + c)) := by
        rw [sS, he, hc, ho, hY, hX, ← Sort.xorNext_toNat]
        rfl
      have hS1 : (D (t + 1)).1.toNat = Y := by rw [hS, hY, hX]; exact Sort.xorNext_toNat _
      have hS2 : (D (t + 1)).2 = Sort.swp e (I + t) (a + c) := by rw [hS]
      obtain ⟨i, hi⟩ : ∃ i, i = I + t := ⟨_, rfl⟩
      obtain ⟨j, hj⟩ : ∃ j, j = a + c := ⟨_, rfl⟩
      rw [← hi, ← hj] at hS2
      have ei : (I : Int) + (t : Int) = (i : Int) := by omega
      have li : i < n := by omega
      have lj : j < n := by omega
      have ri := Sort.swp e i j
      have NY : Hid (∀ w1, Blk w1 r [.int .u64 Y] 113 ∧ Chg (fun k => k = r) wr w1 → RU w1 g e ∧ (∀ v, RU v g (Sort.swp e i j) → Chg (fun k => k = g) w1 v → RU v g (D (t + 1)).2 ∧ Blk v r [.int .u64 ((D (t + 1)).1.toNat : Nat)] 113 ∧ Chg (fun k => k = g) w v)) := fun w1 hw => by
        refine ⟨q.1.keep hw.2 (by omega), fun v hv kv => ?_⟩
        rw [hS1, hS2]
        refine ⟨hv, hw.1.keep kv (by omega), (q.2.2.trans hw.2 (fun k e => .inr (by rw [HR.out]; omega))).trans kv (fun _ h => .inl h)⟩
      have N1 : Hid _ := NX
      have ES : Hid _ := s1
      have HC : Hid _ := hc
      have VJ : Hid ((a : Int) + (c : Int) = (j : Int)) := (by omega : (a : Int) + (c : Int) = (j : Int))
      have VI : Hid _ := hi
      rw [ei] at gd ⊢
      clear hid q sS hX he hY NX ho hc hS hS1 hS2 s1 hi hj ri ei
      go_upto_region 8 with (go_at_call 47; refine Calls.mono N1.out ?_; rintro e1 w1 ⟨rfl, m1⟩; have M1 : Hid _ := NY.out _ m1; clear m1)
      by_cases oL : L ≤ o
      · have CO : Hid ((o : Int) - (L : Int) = (c : Int)) := (by have := HC.out; rw [if_pos oL] at this; omega : (o : Int) - (L : Int) = (c : Int))
        go_upto_region 10 with fail
        rw [CO.out]
        have k0 := M1.out.1.cell (i := i) (by rw [ES.out]; exact li)
        have k1 := M1.out.1.cell (i := j) (by rw [ES.out]; exact lj)
        have f0 := M1.out.1.fr i
        have f1 := M1.out.1.fr j
        have vj : IntKind.i64.wrap ((a : Int) + (c : Int)) = (j : Int) := by rw [IntKind.wrap_i64]; have := VJ.out; omega
        have vt : ((a : Int) + (c : Int)).toNat = j := by have := VJ.out; omega
        have vl : a + c < n := by have := VJ.out; omega
        have p0 : (i : Int) < (n : Int) := by omega
        have p1 : (j : Int) < (n : Int) := by omega
        obtain ⟨x0, hx0⟩ : ∃ x, e[i]! = x := ⟨_, rfl⟩
        obtain ⟨x1, hx1⟩ : ∃ x, e[j]! = x := ⟨_, rfl⟩
        rw [hx0] at k0
        rw [hx1] at k1
        have SW : Hid _ := M1.out.1.swp (i := i) (j := j) (by rw [ES.out]; exact li) (by rw [ES.out]; exact lj)
        rw [hx0, hx1] at SW
        have RW : Hid _ := M1.out.2 (((w1.setCell ⟨g, i, none⟩ (.int .u64 x1)).setCell ⟨g, j, none⟩ (.int .u64 x0)).drew) (RU.drewN SW.out 1) ((((Chg.refl (fun k => k = g) w1).setCell (p := ⟨g, i, none⟩) (.inl rfl) _).setCell (p := ⟨g, j, none⟩) (.inl rfl) _).drew)
        clear M1 SW hx0 hx1 N1 NY
        by_cases ij : i = j
        · subst ij
          have hxx : x1 = x0 := by rw [k0] at k1; injection k1 with k1; injection k1 with _ k1; exact k1.symm
          subst hxx
          clear k1
          go_region
          go_wp2_with fail
          go_roundw
          case rel => exact ⟨t + 1, by have := VI.out; go_num, by omega, RW.out⟩
          case measure => have := VI.out; simp [intOf]; omega
        · have ji : ¬ (j = i) := fun h => ij h.symm
          go_region
          go_wp2_with fail
          go_roundw
          case rel => exact ⟨t + 1, by have := VI.out; go_num, by omega, RW.out⟩
          case measure => have := VI.out; simp [intOf]; omega
      · have CO : Hid (o = c) := (by have := HC.out; rw [if_neg (by omega)] at this; exact this.symm : o = c)
        go_upto_region 10 with fail
        rw [CO.out]
        have k0 := M1.out.1.cell (i := i) (by rw [ES.out]; exact li)
        have k1 := M1.out.1.cell (i := j) (by rw [ES.out]; exact lj)
        have f0 := M1.out.1.fr i
        have f1 := M1.out.1.fr j
        have vj : IntKind.i64.wrap ((a : Int) + (c : Int)) = (j : Int) := by rw [IntKind.wrap_i64]; have := VJ.out; omega
        have vt : ((a : Int) + (c : Int)).toNat = j := by have := VJ.out; omega
        have vl : a + c < n := by have := VJ.out; omega
        have p0 : (i : Int) < (n : Int) := by omega
        have p1 : (j : Int) < (n : Int) := by omega
        obtain ⟨x0, hx0⟩ : ∃ x, e[i]! = x := ⟨_, rfl⟩
        obtain ⟨x1, hx1⟩ : ∃ x, e[j]! = x := ⟨_, rfl⟩
        rw [hx0] at k0
        rw [hx1] at k1
        have SW : Hid _ := M1.out.1.swp (i := i) (j := j) (by rw [ES.out]; exact li) (by rw [ES.out]; exact lj)
        rw [hx0, hx1] at SW
        have RW : Hid _ := M1.out.2 (((w1.setCell ⟨g, i, none⟩ (.int .u64 x1)).setCell ⟨g, j, none⟩ (.int .u64 x0)).drew) (RU.drewN SW.out 1) ((((Chg.refl (fun k => k = g) w1).setCell (p := ⟨g, i, none⟩) (.inl rfl) _).setCell (p := ⟨g, j, none⟩) (.inl rfl) _).drew)
        clear M1 SW hx0 hx1 N1 NY
        by_cases ij : i = j
        · subst ij
          have hxx : x1 = x0 := by rw [k0] at k1; injection k1 with k1; injection k1 with _ k1; exact k1.symm
          subst hxx
          clear k1
          go_region
          go_wp2_with fail
          go_roundw
          case rel => exact ⟨t + 1, by have := VI.out; go_num, by omega, RW.out⟩
          case measure => have := VI.out; simp [intOf]; omega
        · have ji : ¬ (j = i) := fun h => ij h.symm
          go_region
          go_wp2_with fail
          go_roundw
          case rel => exact ⟨t + 1, by have := VI.out; go_num, by omega, RW.out⟩
          case measure => have := VI.out; simp [intOf]; omega

end Go.Proofs.Ytnfcmpffihmnmaa
