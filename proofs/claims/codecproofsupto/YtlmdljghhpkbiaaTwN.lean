/-
  What was written is read back; what goes on behind it is not seen.
-/
import Derived.Test.YtlmdljghhpkbiaaTwB
import Derived.Test.YtlmdljghhpkbiaaTwT
namespace Go.Proofs.Ytlmdljghhpkbiaa
open Go.RowKit

theorem num_back : ∀ (f n k acc : Nat) (R : List Int), n < f → n < 128 ^ (9 - k) → k ≤ 9 → (0 < k → 0 < n) → numG (numB n ++ R) k acc = (0, acc + n * 128 ^ k, k + (numB n).length) := by
  intro f
  induction f with
  | zero => intro n k acc R hf; omega
  | succ f ih =>
    intro n k acc R hf hb hk h0
    by_cases hn : n < 128
    · rw [numB_lo hn]
      have h9 : ¬ (k = 9 ∧ 1 < (n : Int)) := fun e => by
        have e1 := e.1
        subst e1
        have : n < 1 := by simpa using hb
        omega
      rw [List.singleton_append, numG_last h9 (by omega) (by omega)]
      have e : ((n : Int) % 128).toNat = n := by omega
      rw [e]
      rfl
    · rw [numB_hi (by omega), List.cons_append]
      have hk8 : k < 8 := by
        rcases Nat.lt_or_ge k 8 with e | e
        · exact e
        · exfalso
          have h1 : 9 - k ≤ 1 := by omega
          have h2 : 128 ^ (9 - k) ≤ 128 ^ 1 := Nat.pow_le_pow_right (by decide) h1
          omega
      have hc : ((((n % 128 + 128 : Nat) : Int)) % 128).toNat = n % 128 := by omega
      rw [numG_more (by omega) (by omega) (by omega), hc]
      have hd : n / 128 < 128 ^ (9 - (k + 1)) := by
        rw [Nat.div_lt_iff_lt_mul (by omega), ← Nat.pow_succ]
        rw [show (9 - (k + 1)).succ = 9 - k by omega]
        exact hb
      rw [ih (n / 128) (k + 1) _ R (by omega) hd (by omega) (fun _ => by omega)]
      have e1 : acc + n % 128 * 128 ^ k + n / 128 * 128 ^ (k + 1) = acc + n * 128 ^ k := by
        have e2 : n / 128 * 128 ^ (k + 1) = (n / 128 * 128) * 128 ^ k := by rw [Nat.pow_succ]; ac_rfl
        rw [e2, Nat.add_assoc, ← Nat.add_mul]
        congr 2
        omega
      rw [e1, List.length_cons]
      congr 2
      omega
theorem num_ext : ∀ (P R : List Int) (k acc n u : Nat), numG P k acc = (0, n, u) → numG (P ++ R) k acc = (0, n, u) ∧ u ≤ k + P.length := by
  intro P
  induction P with
  | nil => intro R k acc n u h; rw [numG_nil] at h; simp at h
  | cons c P ih =>
    intro R k acc n u h
    rw [List.cons_append]
    by_cases h1 : k = 9 ∧ 1 < c
    · rw [numG_long h1.1 h1.2] at h
      simp at h
    · by_cases h2 : 0 < k ∧ c = 0
      · rw [numG_form h1 h2.1 h2.2] at h
        simp at h
      · by_cases h3 : c < 128
        · rw [numG_last h1 h2 h3] at h ⊢
          refine ⟨h, ?_⟩
          simp only [Prod.mk.injEq] at h
          simp
          omega
        · rw [numG_more h1 h2 h3] at h ⊢
          obtain ⟨h4, h5⟩ := ih R _ _ n u h
          refine ⟨h4, ?_⟩
          simp
          omega

section
variable {A R : List Int}
theorem drop_at (A x R : List Int) : (A ++ x ++ R).drop A.length = x ++ R := by rw [List.append_assoc, List.drop_left]
theorem uint_back (n most : Nat) (h : n ≤ most) (hn : n < 9223372036854775808) : uintS (A ++ numB n ++ R) A.length 0 most = (n, A.length + (numB n).length, 0) := by
  refine uintS_ok ?_ (by omega)
  rw [drop_at, num_back (n + 1) n 0 0 R (by omega) (by simpa using hn) (by omega) (by omega)]
  simp
theorem text_back (x : List Int) (most : Nat) (h : x.length ≤ most) (hx : x.length < 9223372036854775808) : textS (A ++ (numB x.length ++ x) ++ R) A.length 0 most = (x, A.length + (numB x.length ++ x).length, 0) := by
  have e : numG ((A ++ (numB x.length ++ x) ++ R).drop A.length) 0 0 = (0, x.length, (numB x.length).length) := by
    rw [drop_at, List.append_assoc, num_back (x.length + 1) x.length 0 0 (x ++ R) (by omega) (by simpa using hx) (by omega) (by omega)]
    simp
  unfold textS
  rw [if_pos rfl, e]
  simp only [if_true]
  rw [if_neg (by omega), if_neg (by simp; omega)]
  have e2 : (A ++ (numB x.length ++ x) ++ R).drop (A.length + (numB x.length).length) = x ++ R := by
    rw [← List.drop_drop, drop_at, List.append_assoc, List.drop_left]
  rw [e2, List.take_left' rfl]
  simp [Nat.add_assoc]
theorem p_back (x : List Int) : pL (A ++ x ++ R) A.length 0 x.length = x ∧ pA (A ++ x ++ R) A.length 0 x.length = A.length + x.length ∧ pE (A ++ x ++ R) A.length 0 x.length = 0 := by
  have hc : (0 : Int) ≤ x.length ∧ (x.length : Int) ≤ ((A ++ x ++ R).length : Int) - A.length := by simp; omega
  unfold pL pA pE
  rw [if_pos ⟨rfl, hc⟩, if_pos ⟨rfl, hc⟩, if_neg (fun e => e.2 hc), drop_at]
  refine ⟨?_, by simp, rfl⟩
  rw [Int.toNat_natCast, List.take_left' rfl]
theorem byte_back (b : Nat) : lowN (pL (A ++ [(b : Int)] ++ R) A.length 0 1) = b ∧ pA (A ++ [(b : Int)] ++ R) A.length 0 1 = A.length + 1 ∧ pE (A ++ [(b : Int)] ++ R) A.length 0 1 = 0 := by
  obtain ⟨h1, h2, h3⟩ := p_back (A := A) (R := R) [(b : Int)]
  have h1 : pL (A ++ [(b : Int)] ++ R) A.length 0 1 = [(b : Int)] := h1
  exact ⟨by rw [h1]; simp [lowN], h2, h3⟩
end

/-- A kid within its bounds. -/
structure KdFit (k : Kd) : Prop where
  lv : 0 ≤ k.lv ∧ k.lv ≤ 23
  kl : k.kl.length ≤ 1024
  ct : k.ct ≤ 4611686018427387904
  ad : k.ad.length = 33
  lb : k.lb.length = 32
def KS.dat (k : KS) : Nat × List Int × Nat × List Int := (k.lv, k.kl, k.ct, k.z)
def Kd.dat (k : Kd) : Nat × List Int × Nat × List Int := (k.lv.toNat, k.kl, k.ct, k.ad ++ k.lb)
theorem kid_back {A R : List Int} {k : Kd} (h : KdFit k) : (kidS (A ++ k.bytes ++ R) A.length 0).dat = k.dat ∧ (kidS (A ++ k.bytes ++ R) A.length 0).at_ = A.length + k.bytes.length ∧ (kidS (A ++ k.bytes ++ R) A.length 0).err = 0 := by
  obtain ⟨b, hb⟩ : ∃ b : Nat, k.lv = b := ⟨k.lv.toNat, by have := h.lv.1; omega⟩
  have hb23 : b ≤ 23 := by have := h.lv.2; omega
  have hm : k.lv % 256 = (b : Int) := by omega
  have e0 : A ++ k.bytes ++ R = A ++ [(b : Int)] ++ ((numB k.kl.length ++ k.kl) ++ numB k.ct ++ k.ad ++ k.lb ++ R) := by simp [Kd.bytes, hm]
  have e1 : A ++ k.bytes ++ R = (A ++ [(b : Int)]) ++ (numB k.kl.length ++ k.kl) ++ (numB k.ct ++ k.ad ++ k.lb ++ R) := by simp [Kd.bytes, hm]
  have e2 : A ++ k.bytes ++ R = (A ++ [(b : Int)] ++ (numB k.kl.length ++ k.kl)) ++ numB k.ct ++ (k.ad ++ k.lb ++ R) := by simp [Kd.bytes, hm]
  have e3 : A ++ k.bytes ++ R = (A ++ [(b : Int)] ++ (numB k.kl.length ++ k.kl) ++ numB k.ct) ++ k.ad ++ (k.lb ++ R) := by simp [Kd.bytes, hm]
  have e4 : A ++ k.bytes ++ R = (A ++ [(b : Int)] ++ (numB k.kl.length ++ k.kl) ++ numB k.ct ++ k.ad) ++ k.lb ++ R := by simp [Kd.bytes, hm]
  have hl : levelS (A ++ k.bytes ++ R) A.length 0 = (b, (A ++ [(b : Int)]).length, 0) := by
    obtain ⟨p1, p2, p3⟩ := byte_back (A := A) (R := (numB k.kl.length ++ k.kl) ++ numB k.ct ++ k.ad ++ k.lb ++ R) b
    unfold levelS
    rw [e0, p1, p2, p3, if_neg (by omega)]
    simp
  have ht : textS (A ++ k.bytes ++ R) (A ++ [(b : Int)]).length 0 1024 = (k.kl, (A ++ [(b : Int)] ++ (numB k.kl.length ++ k.kl)).length, 0) := by
    have h9 := text_back (A := A ++ [(b : Int)]) (R := numB k.ct ++ k.ad ++ k.lb ++ R) k.kl 1024 h.kl (by have := h.kl; omega)
    rw [← e1] at h9
    rw [show textS (A ++ k.bytes ++ R) (A ++ [(b : Int)]).length 0 1024 = _ from h9]
    simp
    omega
  have hu : uintS (A ++ k.bytes ++ R) (A ++ [(b : Int)] ++ (numB k.kl.length ++ k.kl)).length 0 maxN = (k.ct, (A ++ [(b : Int)] ++ (numB k.kl.length ++ k.kl) ++ numB k.ct).length, 0) := by
    rw [e2, uint_back k.ct maxN h.ct (by have := h.ct; omega)]
    simp
    omega
  obtain ⟨x1, x2, x3⟩ := p_back (A := A ++ [(b : Int)] ++ (numB k.kl.length ++ k.kl) ++ numB k.ct) (R := k.lb ++ R) k.ad
  rw [← e3, h.ad] at x1 x2 x3
  obtain ⟨y1, y2, y3⟩ := p_back (A := A ++ [(b : Int)] ++ (numB k.kl.length ++ k.kl) ++ numB k.ct ++ k.ad) (R := R) k.lb
  rw [← e4, h.lb] at y1 y2 y3
  have x2' : pA (A ++ k.bytes ++ R) (A ++ [(b : Int)] ++ (numB k.kl.length ++ k.kl) ++ numB k.ct).length 0 33 = (A ++ [(b : Int)] ++ (numB k.kl.length ++ k.kl) ++ numB k.ct ++ k.ad).length := by
    have : pA (A ++ k.bytes ++ R) (A ++ [(b : Int)] ++ (numB k.kl.length ++ k.kl) ++ numB k.ct).length 0 33 = _ := x2
    rw [this]
    simp only [List.length_append, h.ad]
  have x1' : pL (A ++ k.bytes ++ R) (A ++ [(b : Int)] ++ (numB k.kl.length ++ k.kl) ++ numB k.ct).length 0 33 = k.ad := x1
  have x3' : pE (A ++ k.bytes ++ R) (A ++ [(b : Int)] ++ (numB k.kl.length ++ k.kl) ++ numB k.ct).length 0 33 = 0 := x3
  have y1' : pL (A ++ k.bytes ++ R) (A ++ [(b : Int)] ++ (numB k.kl.length ++ k.kl) ++ numB k.ct ++ k.ad).length 0 32 = k.lb := y1
  have y2' : pA (A ++ k.bytes ++ R) (A ++ [(b : Int)] ++ (numB k.kl.length ++ k.kl) ++ numB k.ct ++ k.ad).length 0 32 = A.length + k.bytes.length := by
    have : pA (A ++ k.bytes ++ R) (A ++ [(b : Int)] ++ (numB k.kl.length ++ k.kl) ++ numB k.ct ++ k.ad).length 0 32 = _ := y2
    rw [this]
    simp [Kd.bytes, h.lb]
    omega
  have y3' : pE (A ++ k.bytes ++ R) (A ++ [(b : Int)] ++ (numB k.kl.length ++ k.kl) ++ numB k.ct ++ k.ad).length 0 32 = 0 := y3
  unfold kidS limbS KS.dat Kd.dat
  simp only [hl, ht, hu, x1', x2', x3', y1', y2', y3', pad_full h.ad, pad_full h.lb]
  simp [hb]
theorem many_back {R : List Int} : ∀ (l : List Kd) (A : List Int), (∀ k, k ∈ l → KdFit k) → (manyS (A ++ l.flatMap Kd.bytes ++ R) l.length A.length 0).1.map KS.dat = l.map Kd.dat ∧ (manyS (A ++ l.flatMap Kd.bytes ++ R) l.length A.length 0).2 = (A.length + (l.flatMap Kd.bytes).length, 0)
  | [], A, _ => by simp [manyS]
  | k :: l, A, h => by
    have e : A ++ (k :: l).flatMap Kd.bytes ++ R = A ++ k.bytes ++ (l.flatMap Kd.bytes ++ R) := by simp
    have e2 : A ++ (k :: l).flatMap Kd.bytes ++ R = (A ++ k.bytes) ++ l.flatMap Kd.bytes ++ R := by simp
    obtain ⟨h1, h2, h3⟩ := kid_back (A := A) (R := l.flatMap Kd.bytes ++ R) (h k (List.mem_cons_self ..))
    rw [← e] at h1 h2 h3
    obtain ⟨i1, i2⟩ := many_back (R := R) l (A ++ k.bytes) (fun q hq => h q (List.mem_cons_of_mem _ hq))
    rw [← e2, List.length_append] at i1 i2
    rw [List.length_cons, manyS_step, h2, h3]
    refine ⟨?_, ?_⟩
    · rw [List.map_cons, List.map_cons, h1, i1]
    · rw [i2]
      simp [Nat.add_assoc]

/-- A tower within its bounds. -/
structure TwFit (T : Tw) : Prop where
  kl : T.kl.length ≤ 1024
  vl : T.vl.length = 33
  sn : T.sn ≤ 24
  kid : ∀ i, i < T.sn → KdFit (T.ks i)
  head : T.hd = true → T.kl = [] ∧ T.vl = List.replicate 33 0
def Tw.kids (T : Tw) : List Kd := (List.range T.sn).map T.ks
theorem kidsB_flat (ks : Nat → Kd) : ∀ n, kidsB ks n = ((List.range n).map ks).flatMap Kd.bytes
  | 0 => rfl
  | n + 1 => by rw [kidsB, kidsB_flat ks n, List.range_succ]; simp
theorem tower_back {R : List Int} {T : Tw} (h : TwFit T) : (towerS (T.bytes ++ R) 0 0).hd = T.hd ∧ (towerS (T.bytes ++ R) 0 0).kl = T.kl ∧ (towerS (T.bytes ++ R) 0 0).vl = T.vl ∧ (towerS (T.bytes ++ R) 0 0).ks.map KS.dat = T.kids.map Kd.dat ∧ (towerS (T.bytes ++ R) 0 0).at_ = T.bytes.length ∧ (towerS (T.bytes ++ R) 0 0).err = 0 := by
  obtain ⟨b, hb⟩ : ∃ b : Nat, b = (if T.hd then 1 else 0) := ⟨_, rfl⟩
  have hbi : (if T.hd = true then (1 : Int) else 0) = (b : Int) := by rw [hb]; split <;> rfl
  have hF : flagS (T.bytes ++ R) 0 0 = (T.hd, 1, 0) := by
    have e : T.bytes ++ R = [] ++ [(b : Int)] ++ (T.own ++ numB T.sn ++ kidsB T.ks T.sn ++ R) := by simp [Tw.bytes, hbi]
    obtain ⟨p1, p2, p3⟩ := byte_back (A := []) (R := T.own ++ numB T.sn ++ kidsB T.ks T.sn ++ R) b
    unfold flagS
    rw [e]
    simp only [List.length_nil] at p1 p2 p3
    rw [p1, p2, p3, if_neg (by rw [hb]; split <;> omega)]
    cases hh : T.hd <;> simp [hb, hh]
  have hO : ownS (T.bytes ++ R) 1 0 T.hd = (T.kl, T.vl, ([(b : Int)] ++ T.own).length, 0) := by
    unfold ownS
    cases hh : T.hd with
    | true =>
      obtain ⟨k1, k2⟩ := h.head hh
      simp [k1, k2, Tw.own, hh]
    | false =>
      have e1 : T.bytes ++ R = [(b : Int)] ++ (numB T.kl.length ++ T.kl) ++ (T.vl ++ numB T.sn ++ kidsB T.ks T.sn ++ R) := by simp [Tw.bytes, Tw.own, hh, hb]
      have e2 : T.bytes ++ R = ([(b : Int)] ++ (numB T.kl.length ++ T.kl)) ++ T.vl ++ (numB T.sn ++ kidsB T.ks T.sn ++ R) := by simp [Tw.bytes, Tw.own, hh, hb]
      have ht : textS (T.bytes ++ R) 1 0 1024 = (T.kl, ([(b : Int)] ++ (numB T.kl.length ++ T.kl)).length, 0) := by
        have := text_back (A := [(b : Int)]) (R := T.vl ++ numB T.sn ++ kidsB T.ks T.sn ++ R) T.kl 1024 h.kl (by have := h.kl; omega)
        rw [← e1] at this
        rw [show textS (T.bytes ++ R) 1 0 1024 = _ from this]
        simp
        omega
      obtain ⟨x1, x2, x3⟩ := p_back (A := [(b : Int)] ++ (numB T.kl.length ++ T.kl)) (R := numB T.sn ++ kidsB T.ks T.sn ++ R) T.vl
      rw [← e2, h.vl] at x1 x2 x3
      have x1' : pL (T.bytes ++ R) ([(b : Int)] ++ (numB T.kl.length ++ T.kl)).length 0 33 = T.vl := x1
      have x2' : pA (T.bytes ++ R) ([(b : Int)] ++ (numB T.kl.length ++ T.kl)).length 0 33 = ([(b : Int)] ++ (numB T.kl.length ++ T.kl)).length + 33 := x2
      have x3' : pE (T.bytes ++ R) ([(b : Int)] ++ (numB T.kl.length ++ T.kl)).length 0 33 = 0 := x3
      simp only [Bool.false_eq_true, if_false, ht, x1', x2', x3', pad_full h.vl]
      simp [Tw.own, hh, h.vl]
      omega
  have e3 : T.bytes ++ R = ([(b : Int)] ++ T.own) ++ numB T.sn ++ (kidsB T.ks T.sn ++ R) := by simp [Tw.bytes, hbi]
  have e4 : T.bytes ++ R = ([(b : Int)] ++ T.own ++ numB T.sn) ++ T.kids.flatMap Kd.bytes ++ R := by simp [Tw.bytes, hbi, kidsB_flat, Tw.kids]
  have hU : uintS (T.bytes ++ R) ([(b : Int)] ++ T.own).length 0 24 = (T.sn, ([(b : Int)] ++ T.own ++ numB T.sn).length, 0) := by
    rw [e3, uint_back T.sn 24 h.sn (by have := h.sn; omega)]
    simp
    omega
  have kl : T.kids.length = T.sn := by simp [Tw.kids]
  obtain ⟨m1, m2⟩ := many_back (R := R) T.kids ([(b : Int)] ++ T.own ++ numB T.sn) (fun k hk => by
    simp only [Tw.kids, List.mem_map, List.mem_range] at hk
    obtain ⟨i, hi, rfl⟩ := hk
    exact h.kid i hi)
  rw [← e4, kl] at m1 m2
  unfold towerS
  simp only [hF, hO, hU]
  refine ⟨trivial, trivial, trivial, m1, ?_, ?_⟩
  · rw [m2]
    simp [Tw.bytes, kidsB_flat, Tw.kids]
    omega
  · rw [m2]
end Go.Proofs.Ytlmdljghhpkbiaa
