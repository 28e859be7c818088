/-
  Going up and going down: the plain functions, and their walks.
-/
import Derived.Test.YtpkcabbfblhekaaAhead
namespace Go.Proofs.Ytpkcabbfblhekaa
open Go.RowKit

/-- Which goes ahead? -/
def lt (od : E → E → Int) (a b : E) : Bool := decide (od a b < 0)

/-- Up from place i: the things, and how often two were compared. -/
def riseF (od : E → E → Int) : Nat → Nat → List E → List E × Nat
  | 0, _, H => (H, 0)
  | f + 1, i, H => if i = 0 then (H, 0) else if lt od (nth H i) (nth H ((i - 1) / 2)) = true then ((riseF od f ((i - 1) / 2) (sw H i ((i - 1) / 2))).1, (riseF od f ((i - 1) / 2) (sw H i ((i - 1) / 2))).2 + 1) else (H, 1)

theorem riseF_zero (od : E → E → Int) (f : Nat) (H : List E) : riseF od f 0 H = (H, 0) := by cases f <;> rfl
theorem riseF_stop (od : E → E → Int) {f i : Nat} {H : List E} (hi : i ≤ f) (h0 : i ≠ 0) (h : lt od (nth H i) (nth H ((i - 1) / 2)) = false) : riseF od f i H = (H, 1) := by
  obtain ⟨f, rfl⟩ : ∃ k, f = k + 1 := ⟨f - 1, by omega⟩
  simp [riseF, h0, h]
theorem riseF_go (od : E → E → Int) {f i : Nat} {H : List E} (hi : i ≤ f) (h0 : i ≠ 0) (h : lt od (nth H i) (nth H ((i - 1) / 2)) = true) :
    riseF od f i H = ((riseF od (f - 1) ((i - 1) / 2) (sw H i ((i - 1) / 2))).1, (riseF od (f - 1) ((i - 1) / 2) (sw H i ((i - 1) / 2))).2 + 1) := by
  obtain ⟨f, rfl⟩ : ∃ k, f = k + 1 := ⟨f - 1, by omega⟩
  simp [riseF, h0, h]
theorem riseF_len (od : E → E → Int) : ∀ (f i : Nat) (H : List E), (riseF od f i H).1.length = H.length
  | 0, _, _ => rfl
  | f + 1, i, H => by
    unfold riseF
    split
    · rfl
    · split
      · rw [riseF_len od f]; exact sw_len _ _ _
      · rfl

set_option maxRecDepth 100000 in
set_option maxHeartbeats 2000000 in
theorem rise_any {w : World} {p : Nat} {f : Value} {g n cap : Nat} {H : List E} {sp : List Value} {came : Nat} {S : Nat → Prop} {I : Nat → World → Prop} {od : E → E → Int} {one : Nat} (O : Od f S I od one)
    (h : Hp w p f g n cap H sp came) (hp : ¬ S p) (hg : ¬ S g) (i c : Nat) (hi : i < n) (hn : n ≤ 1099511627776) (hI : I c w) (hc : c + i < 4611686018427387904) (h1 : one ≤ 1) :
    Calls Try.prog 33 #[.pointer (some ⟨p, 0, none⟩), .int .i64 i] w fun e w' => e = .returned (.tuple #[]) ∧ Hp w' p f g n cap (riseF od i i H).1 sp came ∧ I (c + one * (riseF od i i H).2) w' ∧ Chg (fun k => k = g ∨ S k) w w' := by
  have OO : Hid _ := O
  have HP : Hid _ := h
  have HI : Hid _ := hI
  have NP : Hid _ := hp
  have NG : Hid _ := hg
  clear O h hI hp hg
  go_enter Try.func33, Try.ntmps33
  go_wp2_with fail
  go_loopg [1] (i + 1) (fun gk si wr => ∃ (j m k : Nat) (G : List E), si = .int .i64 j ∧ j < n ∧ j ≤ m ∧ j < gk ∧ j + k ≤ i ∧ Hid (Hp wr p f g n cap G sp came ∧ I (c + one * k) wr ∧ Chg (fun k => k = g ∨ S k) w wr ∧ riseF od i i H = ((riseF od m j G).1, (riseF od m j G).2 + k)))
  case atStart => exact ⟨i, i, 0, H, rfl, hi, Nat.le_refl _, by omega, by omega, HP.out, by rw [Nat.mul_zero, Nat.add_zero]; exact HI.out, Chg.refl _ _, rfl⟩
  case round =>
    obtain ⟨j, m, k, G, rfl, hj, hm, hgk, hk, hid⟩ := hrel
    obtain ⟨hp, hi2, hch, heq⟩ := hid.out
    clear hid
    by_cases h0 : j = 0
    · subst h0
      have A1 : Hid _ := hp
      have A2 : Hid _ := hi2
      have A3 : Hid _ := hch
      have A4 : Hid _ := heq
      clear hp hi2 hch heq HP HI
      go_wp2_with fail
      go_end0
      rw [A4.out, riseF_zero]
      refine ⟨rfl, A1.out, ?_, A3.out⟩
      rw [Nat.zero_add]
      exact A2.out
    · have hpar : (j - 1) / 2 < n := by omega
      obtain ⟨q, hq⟩ : ∃ q, (j - 1) / 2 = q := ⟨_, rfl⟩
      have hq2 : (((j : Int) - 1).tdiv 2) = (q : Int) := by rw [Int.tdiv_eq_ediv_of_nonneg (by omega)]; omega
      have hjq : j ≠ q := by omega
      have hql : q < j := by omega
      have hj1 : (0 : Int) < (j : Int) := by omega
      rw [hq] at hpar
      have hk' : one * k ≤ k := by
        rcases Nat.eq_zero_or_pos one with h | h
        · subst h; omega
        · have : one = 1 := by omega
          subst this; omega
      have AH : Hid _ := ahead_any OO.out hp j q (c + one * k) hj hpar hi2 (by omega)
      have A1 : Hid _ := hp
      have A3 : Hid _ := hch
      have A4 : Hid _ := heq
      clear hp hi2 hch heq HP HI
      obtain ⟨b, hb⟩ : ∃ b, decide (od (nth G j) (nth G q) < 0) = b := ⟨_, rfl⟩
      have B1 : Hid (lt od (nth G j) (nth G q) = b) := hb
      rw [hb] at AH
      have Q1 : Hid _ := hq
      clear hb hq
      cases b with
      | false =>
        go_wp2_with (go_at_call 42; refine Calls.mono AH.out ?_; rintro e w2 ⟨rfl, i2, ch2⟩; have I2 : Hid _ := i2; have C2 : Hid _ := ch2; clear i2 ch2)
        refine bodyPost_ret (results_none rfl _ _ _) rfl ?_
        have hs : riseF od m j G = (G, 1) := riseF_stop od hm h0 (by rw [Q1.out]; exact B1.out)
        rw [A4.out, hs]
        refine ⟨rfl, A1.out.keep C2.out NP.out NG.out, ?_, A3.out.trans C2.out (fun _ h => .inl (.inr h))⟩
        have := I2.out
        rwa [show c + one * k + one = c + one * (1 + k) by rw [Nat.mul_add, Nat.mul_one]; omega] at this
      | true =>
        go_wp2_with (first | (go_at_call 42; refine Calls.mono AH.out ?_; rintro e w2 ⟨rfl, i2, ch2⟩; have I2 : Hid _ := i2; have C2 : Hid _ := ch2; clear i2 ch2) | (go_at_call 43; refine Calls.mono (exchange_any (Hp.keep A1.out C2.out NP.out NG.out) j q hj hpar hjq) ?_; rintro e w3 ⟨rfl, p3, ch3⟩; have P3 : Hid _ := p3; have C3 : Hid _ := ch3; clear p3 ch3))
        go_roundg (q + 1)
        case measure => omega
        case rel =>
          refine ⟨q, m - 1, k + 1, sw G j q, rfl, hpar, by omega, by omega, by omega, P3.out, ?_, (A3.out.trans C2.out (fun _ h => .inl (.inr h))).trans C3.out (fun _ h => .inl (.inl h)), ?_⟩
          · have h9 : I (c + one * (k + 1)) w2 := by
              have := I2.out
              rwa [show c + one * k + one = c + one * (k + 1) by rw [Nat.mul_add, Nat.mul_one]; omega] at this
            exact OO.out.keep h9 C3.out (fun x hx hs => NG.out (hx ▸ hs))
          · have hs := riseF_go od hm h0 (by rw [Q1.out]; exact B1.out)
            rw [A4.out, hs, Q1.out]
            simp only
            rw [Nat.add_assoc, Nat.add_comm 1 k]

end Go.Proofs.Ytpkcabbfblhekaa
