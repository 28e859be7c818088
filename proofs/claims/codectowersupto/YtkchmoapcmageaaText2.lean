/-
  The walks of a Reader's Text and of NewReader.
-/
import Derived.Test.YtkchmoapcmageaaUint
import Derived.Test.YtkchmoapcmageaaText
namespace Go.Proofs.Ytkchmoapcmageaa
open Go.RowKit

theorem uintS_le {T : List Int} {a : Nat} {err : Int} {most : Nat} (hb : Byts T) (ha : a ≤ T.length) : (uintS T a err most).1 ≤ most ∧ (uintS T a err most).2.1 ≤ T.length := by
  by_cases he : err = 0
  · subst he
    obtain ⟨e, n, u, hg⟩ : ∃ e n u, numG (T.drop a) 0 0 = (e, n, u) := ⟨_, _, _, rfl⟩
    by_cases he : e = 0
    · subst he
      have hu := (numG_fits (T.drop a) 0 0 n u (Byts.drop hb a) (by omega) (by omega) hg).1
      simp only [List.length_drop] at hu
      by_cases hm : most < n
      · rw [uintS_long hg hm]; exact ⟨Nat.zero_le _, ha⟩
      · rw [uintS_ok hg hm]; exact ⟨by show n ≤ most; omega, by show a + u ≤ _; omega⟩
    · rw [uintS_bad hg he]; exact ⟨Nat.zero_le _, ha⟩
  · rw [uintS_err he]; exact ⟨Nat.zero_le _, ha⟩

/-- What the code's way of Text comes to. -/
theorem textC {T : List Int} {a : Nat} {err most : Int} (hb : Byts T) (_ha : a ≤ T.length) (N A : Nat) (E E2 : Int) (hU : uintS T a err (max most 0).toNat = (N, A, E)) (hE : E2 = if most < 0 then failE E 21 else E) :
    pL T A E2 N = (textS T a err most).1 ∧ (if pE T A E2 N = 0 then pA T A E2 N else a) = (textS T a err most).2.1 ∧ pE T A E2 N = (textS T a err most).2.2 := by
  have bad : ∀ (x : Int), ¬ x = 0 → A = a → E2 = x → textS T a err most = ([], a, x) → pL T A E2 N = (textS T a err most).1 ∧ (if pE T A E2 N = 0 then pA T A E2 N else a) = (textS T a err most).2.1 ∧ pE T A E2 N = (textS T a err most).2.2 := by
    intro x hx hA he ht
    subst he
    obtain ⟨e1, e2, e3⟩ := p_err (T := T) (a := A) (n := (N : Int)) hx
    rw [ht, e1, e2, e3, if_neg hx]
    exact ⟨rfl, rfl, rfl⟩
  by_cases he : err = 0
  · subst he
    obtain ⟨e, n, u, hg⟩ : ∃ e n u, numG (T.drop a) 0 0 = (e, n, u) := ⟨_, _, _, rfl⟩
    by_cases he : e = 0
    · subst he
      have hu := (numG_fits (T.drop a) 0 0 n u (Byts.drop hb a) (by omega) (by omega) hg).1
      simp only [List.length_drop] at hu
      by_cases hm0 : most < 0
      · rw [if_pos hm0] at hE
        by_cases hm : (max most 0).toNat < n
        · rw [uintS_long hg hm] at hU
          injection hU with h1 hU
          injection hU with h2 h3
          subst h1 h2 h3
          exact bad 21 (by decide) rfl (by rw [hE]; rfl) (textS_long hg (.inl hm0))
        · rw [uintS_ok hg hm] at hU
          injection hU with h1 hU
          injection hU with h2 h3
          subst h1 h2 h3
          rw [failE_yes] at hE
          subst hE
          obtain ⟨e1, e2, e3⟩ := p_err (T := T) (a := a + u) (n := (n : Int)) (err := 21) (by decide)
          rw [textS_long hg (.inl hm0), e1, e2, e3, if_neg (by decide)]
          exact ⟨rfl, rfl, rfl⟩
      · rw [if_neg hm0] at hE
        by_cases hm : (max most 0).toNat < n
        · rw [uintS_long hg hm] at hU
          injection hU with h1 hU
          injection hU with h2 h3
          subst h1 h2 h3
          exact bad 21 (by decide) rfl hE (textS_long hg (.inr (by omega)))
        · rw [uintS_ok hg hm] at hU
          injection hU with h1 hU
          injection hU with h2 h3
          subst h1 h2 h3 hE
          have hmn : ¬ (most < 0 ∨ most < n) := by omega
          by_cases hsh : T.length < a + u + n
          · obtain ⟨e1, e2, e3⟩ := p_bad (T := T) (a := a + u) (n := (n : Int)) (by omega)
            rw [textS_short hg hmn hsh, e1, e2, e3, if_neg (by decide)]
            exact ⟨rfl, rfl, rfl⟩
          · obtain ⟨e1, e2, e3⟩ := p_good (T := T) (a := a + u) (m := n) (by omega) (by omega)
            rw [textS_ok hg hmn hsh, e1, e2, e3, if_pos rfl]
            exact ⟨rfl, rfl, rfl⟩
    · rw [uintS_bad hg he] at hU
      injection hU with h1 hU
      injection hU with h2 h3
      subst h1 h2 h3
      refine bad e he rfl ?_ (textS_bad hg he)
      rw [hE]; split
      · exact failE_no _ he
      · rfl
  · rw [uintS_err he] at hU
    injection hU with h1 hU
    injection hU with h2 h3
    subst h1 h2 h3
    refine bad err he rfl ?_ (textS_err he)
    rw [hE]; split
    · exact failE_no _ he
    · rfl

set_option maxRecDepth 100000 in
set_option maxHeartbeats 4000000 in
theorem rText_any {w : World} {p : Nat} {t : TypeId} {tv : Value} {T : List Int} {a : Nat} {err : Int} (h : RS w p t tv T a err) (most : Int) (hm : most ≤ 9223372036854775807) (hm2 : -9223372036854775808 ≤ most) :
    Calls Try.prog 68 #[.pointer (some ⟨p, 0, none⟩), .int .i64 most] w fun e w' => ∃ s, e = .returned s ∧ Own w' s (textS T a err most).1 ∧ RP w w' p t tv T (textS T a err most).2.1 (textS T a err most).2.2 ∧ ∀ k, s.ownBlock = some k → w.heap.size ≤ k := by
  obtain ⟨M, hMe⟩ : ∃ M : Nat, M = (max most 0).toNat := ⟨_, rfl⟩
  obtain ⟨N, A, E, hU⟩ : ∃ N A E, uintS T a err M = (N, A, E) := ⟨_, _, _, rfl⟩
  obtain ⟨E2, hE⟩ : ∃ E2, E2 = if most < 0 then failE E 21 else E := ⟨_, rfl⟩
  have hle2 := uintS_le (err := err) (most := M) h.byt h.le
  rw [hU] at hle2
  obtain ⟨hN, hA⟩ := hle2
  have hN : N ≤ M := hN
  have hMb : M ≤ 9223372036854775807 := by omega
  have TC : Hid _ := textC (T := T) (a := a) (err := err) (most := most) h.byt h.le N A E E2 (by rw [← hMe]; exact hU) hE
  have UU := rUint_any h M (by omega)
  rw [hU] at UU
  have HU : Hid _ := UU
  have k1 := h.c1
  obtain ⟨R, hR⟩ : ∃ R, R = textS T a err most := ⟨_, rfl⟩
  rw [← hR] at TC ⊢
  have hle := h.le
  have hp0 := h.lt
  clear UU hR hU
  by_cases hm0 : most < 0
  · rw [if_pos hm0] at hE
    have HE : Hid _ := hE
    obtain rfl : M = 0 := by omega
    clear hE hMe h
    go_enter Try.func68, Try.ntmps68
    go_wp2_with fail
    refine Calls.mono HU.out ?_
    rintro e w1 ⟨rfl, P1⟩
    have P1 : RP w w1 p t tv T A E := P1
    have HP1 : Hid _ := P1
    clear P1 HU
    go_wp2_with fail
    refine (rFail_any HP1.out.1 21).mono ?_
    rintro e w2 ⟨rfl, P2⟩
    rw [← HE.out] at P2
    have PX : Hid _ := P2
    have PY : Chg (fun k => k = p) w w2 := HP1.out.2.trans P2.2 (fun _ e => .inl e)
    clear P2
    go_wp2_with fail
    refine (rRaw_any PX.out.1 N).mono ?_
    rintro e w3 ⟨s3, rfl, o3, r3, b3⟩
    obtain ⟨t1, t2, t3⟩ := TC.out
    rw [t1] at o3
    obtain ⟨X, hX⟩ : ∃ X, X = pE T A E2 N := ⟨_, rfl⟩
    rw [← hX] at r3 t2 t3
    have c2 := r3.1.c2
    have c1 := r3.1.c1
    have fr := r3.1.fr 1
    have O3 : Hid _ := o3
    have R3 : Hid _ := r3
    have CH : Hid (Chg (fun k => k = p) w w3) := PY.trans r3.2 (fun _ e => .inl e)
    have B3 : Hid (∀ k, s3.ownBlock = some k → w.heap.size ≤ k) := fun k hk => Nat.le_trans PY.size (b3 k hk)
    have T2 : Hid _ := t2
    have T3 : Hid _ := t3
    clear o3 r3 b3 t1 t2 t3 hX TC
    by_cases hx0 : X = 0
    · have HX0 : Hid _ := hx0
      go_wp2_with fail
      go_ret
      refine ⟨_, rfl, O3.out, ?_, B3.out⟩
      rw [← T2.out, ← T3.out, if_pos HX0.out]
      exact ⟨R3.out.1, CH.out⟩
    · go_wp2_with fail
      go_ret
      refine ⟨_, rfl, Own.kept O3.out ((Chg.refl (fun k => k = p) w3).setCell (.inl rfl) _) (fun k hk e => by have := B3.out k hk; omega), ?_, B3.out⟩
      rw [← T2.out, ← T3.out, if_neg hx0]
      exact ⟨RS.setAt R3.out.1 a hle, CH.out.setCell (.inl rfl) _⟩
  · rw [if_neg hm0] at hE
    subst hE
    have hMi : most = (M : Int) := by omega
    clear hMe h
    subst hMi
    go_enter Try.func68, Try.ntmps68
    go_wp2_with fail
    refine Calls.mono HU.out ?_
    rintro e w1 ⟨rfl, P1⟩
    have P1 : RP w w1 p t tv T A E2 := P1
    have PX : Hid _ := P1
    have PY : Chg (fun k => k = p) w w1 := P1.2
    clear P1 HU
    go_wp2_with fail
    refine (rRaw_any PX.out.1 N).mono ?_
    rintro e w3 ⟨s3, rfl, o3, r3, b3⟩
    obtain ⟨t1, t2, t3⟩ := TC.out
    rw [t1] at o3
    obtain ⟨X, hX⟩ : ∃ X, X = pE T A E2 N := ⟨_, rfl⟩
    rw [← hX] at r3 t2 t3
    have c2 := r3.1.c2
    have c1 := r3.1.c1
    have fr := r3.1.fr 1
    have O3 : Hid _ := o3
    have R3 : Hid _ := r3
    have CH : Hid (Chg (fun k => k = p) w w3) := PY.trans r3.2 (fun _ e => .inl e)
    have B3 : Hid (∀ k, s3.ownBlock = some k → w.heap.size ≤ k) := fun k hk => Nat.le_trans PY.size (b3 k hk)
    have T2 : Hid _ := t2
    have T3 : Hid _ := t3
    clear o3 r3 b3 t1 t2 t3 hX TC
    by_cases hx0 : X = 0
    · have HX0 : Hid _ := hx0
      go_wp2_with fail
      go_ret
      refine ⟨_, rfl, O3.out, ?_, B3.out⟩
      rw [← T2.out, ← T3.out, if_pos HX0.out]
      exact ⟨R3.out.1, CH.out⟩
    · go_wp2_with fail
      go_ret
      refine ⟨_, rfl, Own.kept O3.out ((Chg.refl (fun k => k = p) w3).setCell (.inl rfl) _) (fun k hk e => by have := B3.out k hk; omega), ?_, B3.out⟩
      rw [← T2.out, ← T3.out, if_neg hx0]
      exact ⟨RS.setAt R3.out.1 a hle, CH.out.setCell (.inl rfl) _⟩

set_option maxRecDepth 100000 in
set_option maxHeartbeats 1000000 in
theorem newReader_any {w : World} {s : Value} {T : List Int} (hs : Src w s T) (hb : Byts T) (hl : T.length ≤ 140737488355328) :
    Calls Try.prog 20 #[s] w fun e w' => ∃ p tv, e = .returned (.pointer (some ⟨p, 0, none⟩)) ∧ RS w' p 143 tv T 0 0 ∧ Own w' tv T ∧ Below w.heap.size w w' ∧ w.heap.size ≤ p ∧ ∀ k, tv.ownBlock = some k → w.heap.size ≤ k := by
  have HS : Hid _ := hs
  obtain ⟨a0, c0, hs2⟩ := hs.form
  subst hs2
  clear hs
  go_enter Try.func20, Try.ntmps20
  go_wp2_with fail
  refine (clone_any HS.out hl).mono ?_
  rintro e w1 ⟨v1, rfl, M1⟩
  obtain ⟨b0, d0, hv, hcap⟩ : ∃ a c, v1 = .slice a T.length c ∧ T.length ≤ c ∧ c ≤ 9223372036854775807 := by
    rcases M1.1.2 with ⟨rfl, h0⟩ | ⟨g, cap, cur, rfl, _, _, h1, h2, _⟩
    · exact ⟨none, 0, by rw [h0], by omega, by omega⟩
    · exact ⟨_, _, rfl, h1, by unfold maxLen at h2; omega⟩
  have HM : Hid _ := M1
  subst hv
  clear M1
  go_wp2_with fail
  go_ret
  refine ⟨_, _, rfl, ⟨heap_alloc_new _ _, Own.src (Own.alloc HM.out.1 _), fun e => ?_, Nat.zero_le _, hl, hb, _, _, rfl, hcap⟩, Own.alloc HM.out.1 _, HM.out.2.1.alloc HM.out.2.1.size _, HM.out.2.1.size, HM.out.2.2⟩
  have := Own.lt HM.out.1 e
  omega
end Go.Proofs.Ytkchmoapcmageaa
