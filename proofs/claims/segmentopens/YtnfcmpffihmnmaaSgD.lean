/-
  heapSortOrdered.
-/
import Derived.Test.YtnfcmpffihmnmaaSgC
namespace Go.Proofs.Ytnfcmpffihmnmaa
open Go.RowKit

theorem sift_sz (hi first root : Nat) (d : Array Int) : (Sort.siftDown ltI hi first root d).size = d.size := sift_size hi first (hi - root) root d (Nat.le_refl _)

set_option maxRecDepth 100000 in
set_option maxHeartbeats 8000000 in
theorem heap_any {w : World} {g n cap : Nat} {d : Array Int} (h : RU w g d) (hn : d.size = n) (hn2 : n ≤ 1099511627776) (a b : Nat) (hab : a < b) (hbn : b ≤ n) :
    Calls Try.prog 35 #[.slice (some ⟨g, 0, none⟩) n cap, .int .i64 a, .int .i64 b] w fun e w' => e = .returned (.tuple #[]) ∧ RU w' g (Sort.heapSort ltI d a b) ∧ (Sort.heapSort ltI d a b).size = n ∧ Chg (fun k => k = g) w w' := by
  have H0 : Hid _ := h
  have HN : Hid _ := hn
  obtain ⟨hi, hhi⟩ : ∃ hi, hi = b - a := ⟨_, rfl⟩
  have HI : Hid ((b : Int) - (a : Int) = (hi : Int)) := (by omega : (b : Int) - (a : Int) = (hi : Int))
  obtain ⟨K, hK⟩ : ∃ K, K = (hi - 1) / 2 := ⟨_, rfl⟩
  have HK : Hid (((hi : Int) - 1) / 2 = (K : Int)) := (by omega : ((hi : Int) - 1) / 2 = (K : Int))
  have HP : Hid (Sort.heapSort ltI d a b = Sort.heapPop ltI a hi (Sort.heapBuild ltI hi a (K + 1) d)) := by
    show Sort.heapSort ltI d a b = _
    unfold Sort.heapSort
    rw [hhi, hK, hhi]
  have h1 : a + hi ≤ n := by omega
  have h2 : 0 < hi := by omega
  have h3 : K < n := by omega
  have v1 : IntKind.i64.wrap (K : Int) = (K : Int) := by rw [IntKind.wrap_i64]; omega
  clear h hn hhi hK
  go_enter Try.func35, Try.ntmps35
  go_upto_region 3 with fail
  rw [HI.out]
  go_wp2_with fail
  go_loopw [9] (fun si wr => ∃ (k : Nat) (e : Array Int), si = .int .i64 ((k : Int) - 1) ∧ k ≤ n ∧ Hid (RU wr g e ∧ e.size = n ∧ Sort.heapBuild ltI hi a k e = Sort.heapBuild ltI hi a (K + 1) d ∧ Chg (fun k => k = g) w wr)) (fun si _ => (intOf si + 1).toNat)
  case atStart => exact ⟨K + 1, d, by have := HK.out; go_num, by omega, H0.out, HN.out, rfl, Chg.refl _ _⟩
  case round =>
    obtain ⟨k, e, rfl, hkn, hid⟩ := hrel
    clear H0 HN
    cases k with
    | succ j =>
      obtain ⟨q1, q2, q3, q4⟩ := hid.out
      have ej : ((j + 1 : Nat) : Int) - 1 = (j : Int) := by omega
      rw [ej]
      have SF : Hid _ := sift_any (cap := cap) q1 q2 hn2 j hi a h1 (by omega)
      have R : Hid (∀ w2, RU w2 g (Sort.siftDown ltI hi a j e) → Chg (fun k => k = g) wr w2 → RU w2 g (Sort.siftDown ltI hi a j e) ∧ (Sort.siftDown ltI hi a j e).size = n ∧ Sort.heapBuild ltI hi a j (Sort.siftDown ltI hi a j e) = Sort.heapBuild ltI hi a (K + 1) d ∧ Chg (fun k => k = g) w w2) := fun w2 r k2 => ⟨r, by rw [sift_sz]; exact q2, by rw [← q3]; rfl, q4.trans k2 (fun _ h => .inl h)⟩
      have j0 : (0 : Int) ≤ (j : Int) := by omega
      clear hid q1 q2 q3 q4 ej
      go_wp2_with (go_at_call 45; refine Calls.mono SF.out ?_; rintro e' w2 ⟨rfl, r2, k2⟩; have R2 : Hid _ := R.out _ r2 k2; clear r2 k2)
      go_roundw
      case rel => exact ⟨j, _, by go_num, by omega, R2.out⟩
      case measure => simp [intOf]
    | zero =>
      obtain ⟨q1, q2, q3, q4⟩ := hid.out
      have q3' : e = Sort.heapBuild ltI hi a (K + 1) d := q3
      have S0 : Hid _ := And.intro q1 (And.intro q2 (And.intro q3' q4))
      have m0 : ¬ ((0 : Int) ≤ ((0 : Nat) : Int) - 1) := by omega
      clear hid q1 q2 q3 q4 q3'
      go_wp2_with fail
      go_loopw [10] (fun si wq => ∃ (k : Nat) (f : Array Int), si = .int .i64 ((k : Int) - 1) ∧ k ≤ hi ∧ Hid (RU wq g f ∧ f.size = n ∧ Sort.heapPop ltI a k f = Sort.heapSort ltI d a b ∧ Chg (fun k => k = g) w wq)) (fun si _ => (intOf si + 1).toNat)
      case atStart => exact ⟨hi, e, by go_num, Nat.le_refl _, S0.out.1, S0.out.2.1, by rw [HP.out, S0.out.2.2.1], S0.out.2.2.2⟩
      case round =>
        obtain ⟨k, f, rfl, hkh, hid⟩ := hrel
        clear S0
        cases k with
        | succ j =>
          obtain ⟨q1, q2, q3, q4⟩ := hid.out
          have ej : ((j + 1 : Nat) : Int) - 1 = (j : Int) := by omega
          rw [ej]
          have k0 := q1.cell (i := a) (by omega)
          have k1 := q1.cell (i := a + j) (by omega)
          have f0 := q1.fr a
          have f1 := q1.fr (a + j)
          obtain ⟨x0, hx0⟩ : ∃ x, f[a]! = x := ⟨_, rfl⟩
          obtain ⟨x1, hx1⟩ : ∃ x, f[a + j]! = x := ⟨_, rfl⟩
          rw [hx0] at k0
          rw [hx1] at k1
          have j0 : (0 : Int) ≤ (j : Int) := by omega
          have u0 : a < n := by omega
          have u1 : a + j < n := by omega
          have p0 : (a : Int) < (n : Int) := by omega
          have p1 : (a : Int) + (j : Int) < (n : Int) := by omega
          have t1 : ((a : Int) + (j : Int)).toNat = a + j := by omega
          have v3 : IntKind.i64.wrap ((a : Int) + (j : Int)) = (a : Int) + (j : Int) := by rw [IntKind.wrap_i64]; omega
          have SF : Hid (∀ w2, RU w2 g (Sort.swp f a (a + j)) → Calls Try.prog 45 #[.slice (some ⟨g, 0, none⟩) n cap, .int .i64 (0 : Nat), .int .i64 j, .int .i64 a] w2 fun e w' => e = .returned (.tuple #[]) ∧ RU w' g (Sort.siftDown ltI j a 0 (Sort.swp f a (a + j))) ∧ Chg (fun k => k = g) w2 w') := fun w2 r => sift_any (cap := cap) r (by rw [swp_size]; exact q2) hn2 0 j a (by omega) (by omega)
          have RW : Hid (RU (((wr.setCell ⟨g, a, none⟩ (.int .u64 x1)).setCell ⟨g, a + j, none⟩ (.int .u64 x0)).drew) g (Sort.swp f a (a + j)) ∧ Chg (fun k => k = g) w (((wr.setCell ⟨g, a, none⟩ (.int .u64 x1)).setCell ⟨g, a + j, none⟩ (.int .u64 x0)).drew)) := by
            have := q1.swp (i := a) (j := a + j) (by omega) (by omega)
            rw [hx0, hx1] at this
            exact ⟨this.drewN 1, ((q4.setCell (p := ⟨g, a, none⟩) (.inl rfl) _).setCell (p := ⟨g, a + j, none⟩) (.inl rfl) _).drew⟩
          have R : Hid ((Sort.siftDown ltI j a 0 (Sort.swp f a (a + j))).size = n ∧ Sort.heapPop ltI a j (Sort.siftDown ltI j a 0 (Sort.swp f a (a + j))) = Sort.heapSort ltI d a b) := ⟨by rw [sift_sz, swp_size]; exact q2, by rw [← q3]; rfl⟩
          clear hid q1 q2 q3 q4 ej
          by_cases hj0 : j = 0
          · subst hj0
            have hxx : x0 = x1 := by rw [← hx0, ← hx1]; rfl
            subst hxx
            clear hx0 hx1
            simp only [Nat.add_zero] at k1 f1 u1 t1 RW R SF
            go_wp2_with fail
            go_region
            generalize ((wr.setCell ⟨g, a, none⟩ (.int .u64 x0)).setCell ⟨g, a, none⟩ (.int .u64 x0)).drew = w3 at RW ⊢
            go_wp2_with (go_at_call 45; refine Calls.mono (SF.out _ RW.out.1) ?_; rintro e' w2 ⟨rfl, r2, k2⟩; have R2 : Hid _ := And.intro r2 (And.intro R.out.1 (And.intro R.out.2 (Chg.trans RW.out.2 k2 (fun _ h => .inl h)))); clear r2 k2)
            go_roundw
            case rel => exact ⟨0, _, by go_num, by omega, R2.out⟩
            case measure => simp [intOf]
          · clear hx0 hx1
            have e0 : ¬ (a = a + j) := by omega
            have e1 : ¬ (a + j = a) := by omega
            go_wp2_with fail
            go_region
            generalize ((wr.setCell ⟨g, a, none⟩ (.int .u64 x1)).setCell ⟨g, a + j, none⟩ (.int .u64 x0)).drew = w3 at RW ⊢
            go_wp2_with (go_at_call 45; refine Calls.mono (SF.out _ RW.out.1) ?_; rintro e' w2 ⟨rfl, r2, k2⟩; have R2 : Hid _ := And.intro r2 (And.intro R.out.1 (And.intro R.out.2 (Chg.trans RW.out.2 k2 (fun _ h => .inl h)))); clear r2 k2)
            go_roundw
            case rel => exact ⟨j, _, by go_num, by omega, R2.out⟩
            case measure => simp [intOf]
        | zero =>
          obtain ⟨q1, q2, q3, q4⟩ := hid.out
          have q3' : f = Sort.heapSort ltI d a b := q3
          rw [q3'] at q1 q2
          have R : Hid _ := And.intro q1 (And.intro q2 q4)
          have m0 : ¬ ((0 : Int) ≤ ((0 : Nat) : Int) - 1) := by omega
          clear hid q1 q2 q3 q4 q3'
          go_wp2_with fail
          exact ⟨rfl, _, results_none rfl _ _ _, rfl, R.out⟩
end Go.Proofs.Ytnfcmpffihmnmaa
