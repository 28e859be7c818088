/-
  Going down.
-/
import Derived.Test.YtpkcabbfblhekaaRise
namespace Go.Proofs.Ytpkcabbfblhekaa
open Go.RowKit

/-- Which kid goes down's way: the earlier of the two. -/
def kidOf (od : E → E → Int) (H : List E) (i : Nat) : Nat := if 2 * i + 2 < H.length then (if lt od (nth H (2 * i + 2)) (nth H (2 * i + 1)) = true then 2 * i + 2 else 2 * i + 1) else 2 * i + 1
def kidC (H : List E) (i : Nat) : Nat := if 2 * i + 2 < H.length then 1 else 0

/-- Down from place i: the things, and how often two were compared. -/
def sinkF (od : E → E → Int) : Nat → Nat → List E → List E × Nat
  | 0, _, H => (H, 0)
  | f + 1, i, H => if H.length ≤ 2 * i + 1 then (H, 0) else if lt od (nth H (kidOf od H i)) (nth H i) = true then ((sinkF od f (kidOf od H i) (sw H i (kidOf od H i))).1, (sinkF od f (kidOf od H i) (sw H i (kidOf od H i))).2 + (kidC H i + 1)) else (H, kidC H i + 1)

theorem sinkF_end (od : E → E → Int) {f i : Nat} {H : List E} (h : H.length ≤ 2 * i + 1) : sinkF od f i H = (H, 0) := by cases f <;> simp [sinkF, h]
theorem sinkF_stop (od : E → E → Int) {f i : Nat} {H : List E} (hf : H.length - i ≤ f) (h : ¬ H.length ≤ 2 * i + 1) (hl : lt od (nth H (kidOf od H i)) (nth H i) = false) : sinkF od f i H = (H, kidC H i + 1) := by
  obtain ⟨f, rfl⟩ : ∃ k, f = k + 1 := ⟨f - 1, by omega⟩
  unfold sinkF
  rw [if_neg h, hl]
  rfl
theorem sinkF_go (od : E → E → Int) {f i : Nat} {H : List E} (hf : H.length - i ≤ f) (h : ¬ H.length ≤ 2 * i + 1) (hl : lt od (nth H (kidOf od H i)) (nth H i) = true) :
    sinkF od f i H = ((sinkF od (f - 1) (kidOf od H i) (sw H i (kidOf od H i))).1, (sinkF od (f - 1) (kidOf od H i) (sw H i (kidOf od H i))).2 + (kidC H i + 1)) := by
  obtain ⟨f, rfl⟩ : ∃ k, f = k + 1 := ⟨f - 1, by omega⟩
  rw [sinkF, if_neg h, if_pos hl]
  rfl
theorem sinkF_len (od : E → E → Int) : ∀ (f i : Nat) (H : List E), (sinkF od f i H).1.length = H.length
  | 0, _, _ => rfl
  | f + 1, i, H => by
    rw [sinkF]
    split
    · rfl
    · split
      · rw [sinkF_len od f]; exact sw_len _ _ _
      · rfl
theorem kidOf_gt (od : E → E → Int) (H : List E) (i : Nat) : i < kidOf od H i ∧ kidOf od H i ≤ 2 * i + 2 := by unfold kidOf; split <;> (try split) <;> omega
theorem kidOf_lt (od : E → E → Int) {H : List E} {i : Nat} (h : ¬ H.length ≤ 2 * i + 1) : kidOf od H i < H.length := by unfold kidOf; split <;> (try split) <;> omega

set_option maxRecDepth 100000 in
set_option maxHeartbeats 2000000 in
theorem sink_any {w : World} {p : Nat} {f : Value} {g n cap : Nat} {H : List E} {sp : List Value} {came : Nat} {S : Nat → Prop} {I : Nat → World → Prop} {od : E → E → Int} {one : Nat} (O : Od f S I od one)
    (h : Hp w p f g n cap H sp came) (hp : ¬ S p) (hg : ¬ S g) (c : Nat) (hn : n ≤ 1099511627776) (hI : I c w) (hc : c + 2 * n + 2 < 4611686018427387904) (h1 : one ≤ 1) :
    Calls Try.prog 34 #[.pointer (some ⟨p, 0, none⟩), .int .i64 0] w fun e w' => e = .returned (.tuple #[]) ∧ Hp w' p f g n cap (sinkF od n 0 H).1 sp came ∧ I (c + one * (sinkF od n 0 H).2) w' ∧ Chg (fun k => k = g ∨ S k) w w' := by
  have OO : Hid _ := O
  have HP : Hid _ := h
  have HI : Hid _ := hI
  have NP : Hid _ := hp
  have NG : Hid _ := hg
  clear O h hI hp hg
  go_enter Try.func34, Try.ntmps34
  go_wp2_with fail
  go_loopg [1] (n + 1) (fun gk si wr => ∃ (j m k : Nat) (G : List E), si = .int .i64 j ∧ n - j ≤ m ∧ n < gk + j ∧ j ≤ n ∧ k ≤ 2 * j ∧ Hid (Hp wr p f g n cap G sp came ∧ I (c + one * k) wr ∧ Chg (fun k => k = g ∨ S k) w wr ∧ sinkF od n 0 H = ((sinkF od m j G).1, (sinkF od m j G).2 + k)))
  case atStart => exact ⟨0, n, 0, H, rfl, by omega, by omega, by omega, by omega, HP.out, by rw [Nat.mul_zero, Nat.add_zero]; exact HI.out, Chg.refl _ _, rfl⟩
  case round =>
    obtain ⟨j, m, k, G, rfl, hm, hgk, hjn, hk, hid⟩ := hrel
    obtain ⟨hp, hi2, hch, heq⟩ := hid.out
    have hlen : G.length = n := hp.len
    clear hid
    have c1 : wr.cell? ⟨p, 1, none⟩ = some (.slice (some ⟨g, 0, none⟩) n cap) := hp.blk.cell 1
    have hk' : one * k ≤ k := by
      rcases Nat.eq_zero_or_pos one with h | h
      · subst h; omega
      · have : one = 1 := by omega
        subst this; omega
    by_cases h0 : n ≤ 2 * j + 1
    · have A1 : Hid _ := hp
      have A2 : Hid _ := hi2
      have A3 : Hid _ := hch
      have A4 : Hid _ := heq
      have A5 : Hid _ := hlen
      clear hp hi2 hch heq HP HI hlen
      have h0' : (n : Int) ≤ 2 * (j : Int) + 1 := by omega
      go_wp2_with fail
      refine bodyPost_ret (results_none rfl _ _ _) rfl ?_
      rw [A4.out, sinkF_end od (by rw [A5.out]; exact h0)]
      refine ⟨rfl, A1.out, ?_, A3.out⟩
      rw [Nat.zero_add]
      exact A2.out
    · have hj : j < n := by omega
      have h0' : ¬ ((n : Int) ≤ 2 * (j : Int) + 1) := by omega
      have h0'' : 2 * (j : Int) + 1 < (n : Int) := by omega
      obtain ⟨q, hq⟩ : ∃ q, kidOf od G j = q := ⟨_, rfl⟩
      have hqn : q < n := by rw [← hq, ← hlen]; exact kidOf_lt od (by rw [hlen]; exact h0)
      have hqj : j < q := by rw [← hq]; exact (kidOf_gt od G j).1
      have hjq : j ≠ q := by omega
      obtain ⟨b, hb⟩ : ∃ b, decide (od (nth G q) (nth G j) < 0) = b := ⟨_, rfl⟩
      have B1 : Hid (lt od (nth G q) (nth G j) = b) := hb
      by_cases h2 : 2 * j + 2 < n
      · have h2' : 2 * (j : Int) + 1 + 1 < (n : Int) := by omega
        obtain ⟨d, hd⟩ : ∃ d, decide (od (nth G (2 * j + 2)) (nth G (2 * j + 1)) < 0) = d := ⟨_, rfl⟩
        have hd2 : q = if d then 2 * j + 2 else 2 * j + 1 := by
          rw [← hq]; unfold kidOf lt; rw [if_pos (by rw [hlen]; exact h2), hd]
        have hkc : kidC G j = 1 := by unfold kidC; rw [if_pos (by rw [hlen]; exact h2)]
        have AH : Hid _ := ahead_any OO.out hp (2 * j + 2) (2 * j + 1) (c + one * k) h2 (by omega) hi2 (by omega)
        rw [hd, show ((2 * j + 2 : Nat) : Int) = 2 * (j : Int) + 1 + 1 by omega, show ((2 * j + 1 : Nat) : Int) = 2 * (j : Int) + 1 by omega] at AH
        have A1 : Hid _ := hp
        have A3 : Hid _ := hch
        have A4 : Hid _ := heq
        have A5 : Hid _ := hlen
        have Q1 : Hid _ := hq
        have K1 : Hid _ := hkc
        have B0 : Hid _ := hb
        clear hp hi2 hch heq HP HI hlen hq hb hd hkc
        cases d with
        | false =>
          simp only [Bool.false_eq_true, if_false] at hd2
          have QI : Hid ((q : Int) = 2 * (j : Int) + 1) := (by omega : (q : Int) = 2 * (j : Int) + 1)
          clear hd2
          cases b with
          | false =>
            go_wp2_with (first | (go_at_call 42; refine Calls.mono AH.out ?_; rintro e w2 ⟨rfl, i2, ch2⟩; have I2 : Hid _ := i2; have C2 : Hid _ := ch2; clear i2 ch2; have AG : Hid _ := ahead_any OO.out (Hp.keep A1.out C2.out NP.out NG.out) q j (c + one * k + one) hqn hj I2.out (by omega); rw [B0.out, QI.out] at AG; clear AH) | (go_at_call 42; refine Calls.mono AG.out ?_; rintro e w3 ⟨rfl, i3, ch3⟩; have I3 : Hid _ := i3; have C3 : Hid _ := ch3; clear i3 ch3))
            refine bodyPost_ret (results_none rfl _ _ _) rfl ?_
            have hs := sinkF_stop (f := m) od (by rw [A5.out]; exact hm) (by rw [A5.out]; exact h0) (by rw [Q1.out]; exact B1.out)
            rw [A4.out, hs, K1.out]
            refine ⟨rfl, (Hp.keep (Hp.keep A1.out C2.out NP.out NG.out) C3.out NP.out NG.out), ?_, ((A3.out.trans C2.out (fun _ h => .inl (.inr h))).trans C3.out (fun _ h => .inl (.inr h)))⟩
            have hcc : c + one * k + one + one = c + one * (k + 2) := by rw [Nat.mul_add]; omega
            have h9 := I3.out
            rw [hcc] at h9
            simpa [Nat.add_comm] using h9
          | true =>
            go_wp2_with (first | (go_at_call 42; refine Calls.mono AH.out ?_; rintro e w2 ⟨rfl, i2, ch2⟩; have I2 : Hid _ := i2; have C2 : Hid _ := ch2; clear i2 ch2; have AG : Hid _ := ahead_any OO.out (Hp.keep A1.out C2.out NP.out NG.out) q j (c + one * k + one) hqn hj I2.out (by omega); rw [B0.out, QI.out] at AG; clear AH) | (go_at_call 42; refine Calls.mono AG.out ?_; rintro e w3 ⟨rfl, i3, ch3⟩; have I3 : Hid _ := i3; have C3 : Hid _ := ch3; clear i3 ch3) | (go_at_call 43; have EX : Hid _ := exchange_any (Hp.keep (Hp.keep A1.out C2.out NP.out NG.out) C3.out NP.out NG.out) j q hj hqn hjq; rw [QI.out] at EX; refine Calls.mono EX.out ?_; clear EX; rintro e w4 ⟨rfl, p4, ch4⟩; have P4 : Hid _ := p4; have C4 : Hid _ := ch4; clear p4 ch4))
            go_roundg (n + 1 - q)
            case measure => omega
            case rel =>
              refine ⟨q, m - 1, k + 2, sw G j q, by rw [QI.out], by omega, by omega, by omega, by omega, P4.out, ?_, ((A3.out.trans C2.out (fun _ h => .inl (.inr h))).trans C3.out (fun _ h => .inl (.inr h))).trans C4.out (fun _ h => .inl (.inl h)), ?_⟩
              · have hcc : c + one * k + one + one = c + one * (k + 2) := by rw [Nat.mul_add]; omega
                have h9 := I3.out
                rw [hcc] at h9
                exact OO.out.keep h9 C4.out (fun x hx hs => NG.out (hx ▸ hs))
              · have hs := sinkF_go (f := m) od (by rw [A5.out]; exact hm) (by rw [A5.out]; exact h0) (by rw [Q1.out]; exact B1.out)
                rw [A4.out, hs, Q1.out, K1.out]
                simp only
                rw [Nat.add_assoc, show 1 + 1 + k = k + 2 by omega]
        | true =>
          simp only [if_true] at hd2
          have QI : Hid ((q : Int) = 2 * (j : Int) + 1 + 1) := (by omega : (q : Int) = 2 * (j : Int) + 1 + 1)
          clear hd2
          cases b with
          | false =>
            go_wp2_with (first | (go_at_call 42; refine Calls.mono AH.out ?_; rintro e w2 ⟨rfl, i2, ch2⟩; have I2 : Hid _ := i2; have C2 : Hid _ := ch2; clear i2 ch2; have AG : Hid _ := ahead_any OO.out (Hp.keep A1.out C2.out NP.out NG.out) q j (c + one * k + one) hqn hj I2.out (by omega); rw [B0.out, QI.out] at AG; clear AH) | (go_at_call 42; refine Calls.mono AG.out ?_; rintro e w3 ⟨rfl, i3, ch3⟩; have I3 : Hid _ := i3; have C3 : Hid _ := ch3; clear i3 ch3))
            refine bodyPost_ret (results_none rfl _ _ _) rfl ?_
            have hs := sinkF_stop (f := m) od (by rw [A5.out]; exact hm) (by rw [A5.out]; exact h0) (by rw [Q1.out]; exact B1.out)
            rw [A4.out, hs, K1.out]
            refine ⟨rfl, (Hp.keep (Hp.keep A1.out C2.out NP.out NG.out) C3.out NP.out NG.out), ?_, ((A3.out.trans C2.out (fun _ h => .inl (.inr h))).trans C3.out (fun _ h => .inl (.inr h)))⟩
            have hcc : c + one * k + one + one = c + one * (k + 2) := by rw [Nat.mul_add]; omega
            have h9 := I3.out
            rw [hcc] at h9
            simpa [Nat.add_comm] using h9
          | true =>
            go_wp2_with (first | (go_at_call 42; refine Calls.mono AH.out ?_; rintro e w2 ⟨rfl, i2, ch2⟩; have I2 : Hid _ := i2; have C2 : Hid _ := ch2; clear i2 ch2; have AG : Hid _ := ahead_any OO.out (Hp.keep A1.out C2.out NP.out NG.out) q j (c + one * k + one) hqn hj I2.out (by omega); rw [B0.out, QI.out] at AG; clear AH) | (go_at_call 42; refine Calls.mono AG.out ?_; rintro e w3 ⟨rfl, i3, ch3⟩; have I3 : Hid _ := i3; have C3 : Hid _ := ch3; clear i3 ch3) | (go_at_call 43; have EX : Hid _ := exchange_any (Hp.keep (Hp.keep A1.out C2.out NP.out NG.out) C3.out NP.out NG.out) j q hj hqn hjq; rw [QI.out] at EX; refine Calls.mono EX.out ?_; clear EX; rintro e w4 ⟨rfl, p4, ch4⟩; have P4 : Hid _ := p4; have C4 : Hid _ := ch4; clear p4 ch4))
            go_roundg (n + 1 - q)
            case measure => omega
            case rel =>
              refine ⟨q, m - 1, k + 2, sw G j q, by rw [QI.out], by omega, by omega, by omega, by omega, P4.out, ?_, ((A3.out.trans C2.out (fun _ h => .inl (.inr h))).trans C3.out (fun _ h => .inl (.inr h))).trans C4.out (fun _ h => .inl (.inl h)), ?_⟩
              · have hcc : c + one * k + one + one = c + one * (k + 2) := by rw [Nat.mul_add]; omega
                have h9 := I3.out
                rw [hcc] at h9
                exact OO.out.keep h9 C4.out (fun x hx hs => NG.out (hx ▸ hs))
              · have hs := sinkF_go (f := m) od (by rw [A5.out]; exact hm) (by rw [A5.out]; exact h0) (by rw [Q1.out]; exact B1.out)
                rw [A4.out, hs, Q1.out, K1.out]
                simp only
                rw [Nat.add_assoc, show 1 + 1 + k = k + 2 by omega]
      · have h2' : decide (2 * (j : Int) + 1 + 1 < (n : Int)) = false := decide_eq_false (by omega)
        have hd2 : q = 2 * j + 1 := by rw [← hq]; unfold kidOf; rw [if_neg (by rw [hlen]; exact h2)]
        have hkc : kidC G j = 0 := by unfold kidC; rw [if_neg (by rw [hlen]; exact h2)]
        have QI : Hid ((q : Int) = 2 * (j : Int) + 1) := (by omega : (q : Int) = 2 * (j : Int) + 1)
        clear hd2
        have AG : Hid _ := ahead_any OO.out hp q j (c + one * k) hqn hj hi2 (by omega)
        rw [hb, QI.out] at AG
        have A1 : Hid _ := hp
        have A3 : Hid _ := hch
        have A4 : Hid _ := heq
        have A5 : Hid _ := hlen
        have Q1 : Hid _ := hq
        have K1 : Hid _ := hkc
        clear hp hi2 hch heq HP HI hlen hq hb hkc
        cases b with
        | false =>
          go_wp2_with (first | (go_at_call 42; refine Calls.mono AG.out ?_; rintro e w3 ⟨rfl, i3, ch3⟩; have I3 : Hid _ := i3; have C3 : Hid _ := ch3; clear i3 ch3))
          refine bodyPost_ret (results_none rfl _ _ _) rfl ?_
          have hs := sinkF_stop (f := m) od (by rw [A5.out]; exact hm) (by rw [A5.out]; exact h0) (by rw [Q1.out]; exact B1.out)
          rw [A4.out, hs, K1.out]
          refine ⟨rfl, (Hp.keep A1.out C3.out NP.out NG.out), ?_, (A3.out.trans C3.out (fun _ h => .inl (.inr h)))⟩
          have hcc : c + one * k + one = c + one * (k + 1) := by rw [Nat.mul_add]; omega
          have h9 := I3.out
          rw [hcc] at h9
          simpa [Nat.add_comm] using h9
        | true =>
          go_wp2_with (first | (go_at_call 42; refine Calls.mono AG.out ?_; rintro e w3 ⟨rfl, i3, ch3⟩; have I3 : Hid _ := i3; have C3 : Hid _ := ch3; clear i3 ch3) | (go_at_call 43; have EX : Hid _ := exchange_any (Hp.keep A1.out C3.out NP.out NG.out) j q hj hqn hjq; rw [QI.out] at EX; refine Calls.mono EX.out ?_; clear EX; rintro e w4 ⟨rfl, p4, ch4⟩; have P4 : Hid _ := p4; have C4 : Hid _ := ch4; clear p4 ch4))
          go_roundg (n + 1 - q)
          case measure => omega
          case rel =>
            refine ⟨q, m - 1, k + 1, sw G j q, by rw [QI.out], by omega, by omega, by omega, by omega, P4.out, ?_, (A3.out.trans C3.out (fun _ h => .inl (.inr h))).trans C4.out (fun _ h => .inl (.inl h)), ?_⟩
            · have hcc : c + one * k + one = c + one * (k + 1) := by rw [Nat.mul_add]; omega
              have h9 := I3.out
              rw [hcc] at h9
              exact OO.out.keep h9 C4.out (fun x hx hs => NG.out (hx ▸ hs))
            · have hs := sinkF_go (f := m) od (by rw [A5.out]; exact hm) (by rw [A5.out]; exact h0) (by rw [Q1.out]; exact B1.out)
              rw [A4.out, hs, Q1.out, K1.out]
              simp only
              rw [Nat.add_assoc, show 0 + 1 + k = k + 1 by omega]

end Go.Proofs.Ytpkcabbfblhekaa
