/-
  The walks of a Reader's take and of the reference's piece.
-/
import Derived.Test.YtjmeaebehndheaaRd
import Derived.Deep.Cut
namespace Go.Proofs.Ytjmeaebehndheaa
open Go.RowKit

/-- May n bytes be taken? What is taken, and what is left behind. -/
def pok (T : List Int) (a : Nat) (n : Int) : Prop := 0 ≤ n ∧ n ≤ (T.length : Int) - a
def pL (T : List Int) (a : Nat) (err n : Int) : List Int := if err = 0 ∧ 0 ≤ n ∧ n ≤ (T.length : Int) - a then (T.drop a).take n.toNat else []
def pA (T : List Int) (a : Nat) (err n : Int) : Nat := if err = 0 ∧ 0 ≤ n ∧ n ≤ (T.length : Int) - a then a + n.toNat else a
def pE (T : List Int) (a : Nat) (err n : Int) : Int := if err = 0 ∧ ¬ (0 ≤ n ∧ n ≤ (T.length : Int) - a) then 20 else err
theorem p_err {T : List Int} {a : Nat} {err n : Int} (h : ¬ err = 0) : pL T a err n = [] ∧ pA T a err n = a ∧ pE T a err n = err := by simp [pL, pA, pE, h]
theorem p_bad {T : List Int} {a : Nat} {n : Int} (h : n < 0 ∨ (T.length : Int) - a < n) : pL T a 0 n = [] ∧ pA T a 0 n = a ∧ pE T a 0 n = 20 := by
  have h2 : ¬ (0 ≤ n ∧ n ≤ (T.length : Int) - a) := by omega
  unfold pL pA pE
  rw [if_neg (fun h => h2 h.2), if_neg (fun h => h2 h.2), if_pos ⟨rfl, h2⟩]
  exact ⟨rfl, rfl, rfl⟩
theorem p_good {T : List Int} {a m : Nat} (h : m ≤ T.length - a) (ha : a ≤ T.length) : pL T a 0 m = (T.drop a).take m ∧ pA T a 0 m = a + m ∧ pE T a 0 m = 0 := by
  have h2 : (0 : Int) ≤ m ∧ (m : Int) ≤ (T.length : Int) - a := by omega
  unfold pL pA pE
  rw [if_pos ⟨rfl, h2⟩, if_pos ⟨rfl, h2⟩, if_neg (fun h => h.2 h2)]
  exact ⟨by simp, by simp, rfl⟩

/-- The slice of a slice. -/
theorem Src.cut {w : World} {a0 : Option Addr} {n c : Nat} {T : List Int} (h : Src w (.slice a0 n c) T) (lo m : Nat) (hm : lo + m ≤ T.length) (hcap : T.length ≤ c) :
    Src w (.slice (if c = lo then a0 else a0.map (fun x => x.add lo)) (lo + m - lo) (c - lo)) ((T.drop lo).take m) ∧ ∀ k, (Value.slice (if c = lo then a0 else a0.map (fun x => x.add lo)) (lo + m - lo) (c - lo)).ownBlock = some k → (Value.slice a0 n c).ownBlock = some k := by
  have hl : ((T.drop lo).take m).length = lo + m - lo := by simp; omega
  rcases h with ⟨e, rfl⟩ | ⟨ad, c2, e, hc⟩
  · injection e with e1 e2 e3
    subst e1 e3
    obtain rfl : lo = 0 := by simp at hm; omega
    obtain rfl : m = 0 := by simp at hm; omega
    exact ⟨.inl ⟨by simp, by simp⟩, fun k hk => by simp [Value.ownBlock] at hk⟩
  · injection e with e1 e2 e3
    subst e1
    have hblk : ∀ x : Addr, (x.add lo).block = x.block := fun x => by unfold Addr.add; split <;> rfl
    constructor
    · by_cases ec : c = lo
      · rw [if_pos ec]
        refine .inr ⟨ad, _, by rw [hl], fun j u hu => ?_⟩
        have := (List.getElem?_eq_some_iff.1 hu).1
        rw [bs_len, hl] at this
        omega
      · rw [if_neg ec]
        refine .inr ⟨ad.add lo, _, by rw [hl]; rfl, fun j u hu => ?_⟩
        have hj : j < m := by have := (List.getElem?_eq_some_iff.1 hu).1; rw [bs_len, hl] at this; omega
        rw [bs_get _ _ (by omega)] at hu
        obtain ⟨h1, h2⟩ := hc (lo + j) _ (bs_get T (lo + j) (by omega))
        obtain ⟨g, o, sp⟩ := ad
        simp only at h1 h2
        subst h1
        have e3 : ((T.drop lo).take m)[j]'(by omega) = T[lo + j]'(by omega) := by simp
        rw [e3] at hu
        rw [← hu, addr_add]
        exact ⟨rfl, by simpa [Nat.add_assoc] using h2⟩
    · intro k hk
      by_cases ec : c = lo
      · rw [if_pos ec] at hk; exact hk
      · rw [if_neg ec] at hk
        simp only [Option.map_some, Value.ownBlock, hblk] at hk ⊢
        exact hk

set_option maxRecDepth 100000 in
set_option maxHeartbeats 1000000 in
theorem take_any {w : World} {p : Nat} {t : TypeId} {tv : Value} {T : List Int} {a : Nat} {err : Int} (h : RS w p t tv T a err) (n : Int) :
    Calls Try.prog 109 #[.pointer (some ⟨p, 0, none⟩), .int .i64 n] w fun e w' => ∃ s, e = .returned s ∧ Src w' s (pL T a err n) ∧ RP w w' p t tv T (pA T a err n) (pE T a err n) ∧ ∀ k, s.ownBlock = some k → tv.ownBlock = some k := by
  have hle := h.le
  have hbig := h.big
  have H : Hid _ := h
  by_cases hok : 0 ≤ n ∧ n ≤ (T.length : Int) - a
  · obtain ⟨hn0, hn1⟩ := hok
    obtain ⟨m, rfl⟩ : ∃ m : Nat, n = m := ⟨n.toNat, by omega⟩
    clear h
    by_cases he : err = 0
    · subst he
      go_enter Try.func109, Try.ntmps109
      go_wp2_with fail
      refine (rLeft_any H.out).mono ?_
      rintro e w1 ⟨rfl, n1, rfl⟩
      have H1 := RS.drewN H.out n1
      have h2 := H1.c2
      have h1 := H1.c1
      have hf := H1.fr 1
      go_upto_region 6 with fail
      have R2 : RS ((w.drewN n1).setCell ⟨p, 1, none⟩ (.int .i64 ((a : Int) + m))) p t tv T (a + m) 0 := by
        have := RS.setAt H1 (a + m) (by omega)
        rwa [Int.natCast_add] at this
      have k0 : ∀ j, (((w.drewN n1).setCell ⟨p, 1, none⟩ (.int .i64 ((a : Int) + m))).drewN j).cell? ⟨p, 0, none⟩ = some tv := fun j => R2.c0
      have k1 : ∀ j, (((w.drewN n1).setCell ⟨p, 1, none⟩ (.int .i64 ((a : Int) + m))).drewN j).cell? ⟨p, 1, none⟩ = some (.int .i64 ((a : Int) + m)) := fun j => by have := R2.c1; rwa [Int.natCast_add] at this
      obtain ⟨a0, c0, hv, hcap1, hcap2⟩ := R2.cap
      subst hv
      have hch : Chg (fun k => k = p) w ((w.drewN n1).setCell ⟨p, 1, none⟩ (.int .i64 ((a : Int) + m))) := (drewN_chg w n1 (fun k => k = p)).setCell (.inl rfl) _
      have HR : Hid _ := R2
      have HC : Hid _ := hch
      clear R2 hch H1 h1 h2 hf
      obtain ⟨e1, e2, e3⟩ := p_good (T := T) (a := a) (m := m) (by omega) hle
      have E1 : Hid _ := e1
      have E2 : Hid _ := e2
      have E3 : Hid _ := e3
      clear e1 e2 e3
      have hcut := Src.cut (RS.src HR.out) a m (by omega) hcap1
      by_cases hca : c0 = a
      · subst c0
        rw [if_pos rfl, Nat.sub_self] at hcut
        have HCUT : Hid _ := hcut
        clear hcut
        go_quiet (fail)
        go_wp2_with fail
        go_ret
        refine ⟨_, rfl, ?_, ?_, HCUT.out.2⟩
        · rw [E1.out]; exact HCUT.out.1
        · rw [E2.out, E3.out]
          exact ⟨RS.drewN HR.out _, HC.out.trans (drewN_chg _ _ (fun _ => False)) (fun _ h => h.elim)⟩
      · rw [if_neg hca] at hcut
        have HCUT : Hid _ := hcut
        clear hcut
        go_quiet (fail)
        go_wp2_with fail
        go_ret
        refine ⟨_, rfl, ?_, ?_, HCUT.out.2⟩
        · rw [E1.out]; exact HCUT.out.1
        · rw [E2.out, E3.out]
          exact ⟨RS.drewN HR.out _, HC.out.trans (drewN_chg _ _ (fun _ => False)) (fun _ h => h.elim)⟩
    · obtain ⟨e1, e2, e3⟩ := p_err (T := T) (a := a) (n := (m : Int)) he
      have E1 : Hid _ := e1
      have E2 : Hid _ := e2
      have E3 : Hid _ := e3
      clear e1 e2 e3
      have h2 : ∀ j, (w.drewN j).cell? ⟨p, 2, none⟩ = some (.int .i64 err) := fun j => RS.c2 (RS.drewN H.out j)
      go_enter Try.func109, Try.ntmps109
      go_wp2_with fail
      refine (rLeft_any H.out).mono ?_
      rintro e w1 ⟨rfl, n1, rfl⟩
      go_wp2_with fail
      go_ret
      refine ⟨_, rfl, ?_, ?_, fun k hk => by cases hk⟩
      · rw [E1.out]; exact .inl ⟨rfl, rfl⟩
      · rw [E2.out, E3.out]; exact ⟨RS.drewN H.out _, drewN_chg _ _ _⟩
  · have hbad : n < 0 ∨ (T.length : Int) - a < n := by omega
    clear h hok
    have key : pL T a err n = [] ∧ pA T a err n = a ∧ pE T a err n = failE err 20 ∧ ¬ failE err 20 = 0 := by
      by_cases he : err = 0
      · subst he; obtain ⟨x, y, z⟩ := p_bad hbad; exact ⟨x, y, by rw [z]; rfl, by rw [failE_yes]; decide⟩
      · obtain ⟨x, y, z⟩ := p_err (T := T) (a := a) (n := n) he; exact ⟨x, y, by rw [z, failE_no _ he], by rw [failE_no _ he]; exact he⟩
    obtain ⟨e1, e2, e3, hne⟩ := key
    have E1 : Hid _ := e1
    have E2 : Hid _ := e2
    have E3 : Hid _ := e3
    clear e1 e2 e3
    obtain ⟨er, her⟩ : ∃ er, er = failE err 20 := ⟨_, rfl⟩
    rw [← her] at hne
    have HE : Hid _ := her
    clear her
    by_cases hn : n < 0
    · go_enter Try.func109, Try.ntmps109
      go_wp2_with fail
      refine (rFail_any H.out 20).mono ?_
      rintro e w1 ⟨rfl, P1⟩
      rw [← HE.out] at P1
      have h2 := P1.1.c2
      have R1 : Hid _ := P1
      clear P1
      go_wp2_with fail
      go_ret
      refine ⟨_, rfl, ?_, ?_, fun k hk => by cases hk⟩
      · rw [E1.out]; exact .inl ⟨rfl, rfl⟩
      · rw [E2.out, E3.out, ← HE.out]; exact R1.out
    · have hn2 : (T.length : Int) - a < n := by omega
      go_enter Try.func109, Try.ntmps109
      go_wp2_with fail
      refine (rLeft_any H.out).mono ?_
      rintro e w1 ⟨rfl, n1, rfl⟩
      go_wp2_with fail
      refine (rFail_any (RS.drewN H.out n1) 20).mono ?_
      rintro e w1 ⟨rfl, P1⟩
      rw [← HE.out] at P1
      have h2 := P1.1.c2
      have R1 : Hid _ := P1
      clear P1
      go_wp2_with fail
      go_ret
      refine ⟨_, rfl, ?_, ?_, fun k hk => by cases hk⟩
      · rw [E1.out]; exact .inl ⟨rfl, rfl⟩
      · rw [E2.out, E3.out, ← HE.out]; exact ⟨R1.out.1, (drewN_chg w n1 _).trans R1.out.2 (fun _ e => .inl e)⟩

set_option maxRecDepth 100000 in
set_option maxHeartbeats 1000000 in
theorem piece_any {w : World} {p : Nat} {t : TypeId} {tv : Value} {T : List Int} {a : Nat} {err : Int} (h : RS w p t tv T a err) (n : Int) :
    Calls Try.prog 110 #[.pointer (some ⟨p, 0, none⟩), .int .i64 n] w fun e w' => ∃ s, e = .returned s ∧ Own w' s (pL T a err n) ∧ RP w w' p t tv T (pA T a err n) (pE T a err n) ∧ ∀ k, s.ownBlock = some k → w.heap.size ≤ k := by
  have hle := h.le
  have hbig := h.big
  have H : Hid _ := h
  have k0 : ∀ j, (w.drewN j).cell? ⟨p, 0, none⟩ = some tv := fun j => RS.c0 (RS.drewN H.out j)
  have k1 : ∀ j, (w.drewN j).cell? ⟨p, 1, none⟩ = some (.int .i64 a) := fun j => RS.c1 (RS.drewN H.out j)
  have k2 : ∀ j, (w.drewN j).cell? ⟨p, 2, none⟩ = some (.int .i64 err) := fun j => RS.c2 (RS.drewN H.out j)
  have f1 : ∀ j, (w.drewN j).frozen? ⟨p, 1, none⟩ = false := fun j => RS.fr (RS.drewN H.out j) 1
  have f2 : ∀ j, (w.drewN j).frozen? ⟨p, 2, none⟩ = false := fun j => RS.fr (RS.drewN H.out j) 2
  obtain ⟨a0, c0, hv, hcap1, hcap2⟩ := h.cap
  subst hv
  clear h
  by_cases he : err = 0
  · subst he
    by_cases hok : 0 ≤ n ∧ n ≤ (T.length : Int) - a
    · obtain ⟨hn0, hn1⟩ := hok
      obtain ⟨m, rfl⟩ : ∃ m : Nat, n = m := ⟨n.toNat, by omega⟩
      have hd1 : decide ((m : Int) < 0) = false := by simp
      obtain ⟨e1, e2, e3⟩ := p_good (T := T) (a := a) (m := m) (by omega) hle
      have E1 : Hid _ := e1
      have E2 : Hid _ := e2
      have E3 : Hid _ := e3
      clear e1 e2 e3
      have hcut := Src.cut (RS.src H.out) a m (by omega) hcap1
      have hcl : ((T.drop a).take m).length ≤ 140737488355328 := by simp; omega
      by_cases hca : c0 = a
      · subst c0
        rw [if_pos rfl, Nat.sub_self, Nat.add_sub_cancel_left] at hcut
        have HCUT : Hid _ := hcut
        clear hcut
        go_enter Try.func110, Try.ntmps110
        go_wp2_with fail
        go_quiet (fail)
        go_wp2_with fail
        go_quiet (fail)
        go_wp2_with fail
        have R3 : ∀ N, RS ((w.drewN N).setCell ⟨p, 1, none⟩ (.int .i64 ((a : Int) + m))) p t _ T (a + m) 0 := fun N => by
          have := RS.setAt (RS.drewN H.out N) (a + m) (by omega)
          rwa [Int.natCast_add] at this
        have C3 : ∀ N, Chg (fun k => k = p) w ((w.drewN N).setCell ⟨p, 1, none⟩ (.int .i64 ((a : Int) + m))) := fun N => (drewN_chg w N (fun k => k = p)).setCell (.inl rfl) _
        refine (copy_any (Src.kept HCUT.out.1 (C3 _) (fun k hk e => RS.ne H.out (by rw [← e]; exact HCUT.out.2 k hk))) hcl).mono ?_
        rintro e w4 ⟨v4, rfl, M4⟩
        have R4 : Hid _ := RS.keep0 (R3 _) M4.2.1
        have C4 : Hid _ := (C3 _).trans (Chg.of_below M4.2.1 (fun _ => False)) (fun _ h => h.elim)
        have O4 : Hid _ := M4
        clear R3 C3 M4
        go_wp2_with fail
        go_ret
        refine ⟨_, rfl, ?_, ?_, fun k hk => ?_⟩
        · rw [E1.out]; exact O4.out.1
        · rw [E2.out, E3.out]; exact ⟨R4.out, C4.out⟩
        · have := O4.out.2.2 k hk
          simpa using this
      · rw [if_neg hca, Nat.add_sub_cancel_left] at hcut
        have HCUT : Hid _ := hcut
        clear hcut
        go_enter Try.func110, Try.ntmps110
        go_wp2_with fail
        go_quiet (fail)
        go_wp2_with fail
        go_quiet (fail)
        go_wp2_with fail
        have R3 : ∀ N, RS ((w.drewN N).setCell ⟨p, 1, none⟩ (.int .i64 ((a : Int) + m))) p t _ T (a + m) 0 := fun N => by
          have := RS.setAt (RS.drewN H.out N) (a + m) (by omega)
          rwa [Int.natCast_add] at this
        have C3 : ∀ N, Chg (fun k => k = p) w ((w.drewN N).setCell ⟨p, 1, none⟩ (.int .i64 ((a : Int) + m))) := fun N => (drewN_chg w N (fun k => k = p)).setCell (.inl rfl) _
        refine (copy_any (Src.kept HCUT.out.1 (C3 _) (fun k hk e => RS.ne H.out (by rw [← e]; exact HCUT.out.2 k hk))) hcl).mono ?_
        rintro e w4 ⟨v4, rfl, M4⟩
        have R4 : Hid _ := RS.keep0 (R3 _) M4.2.1
        have C4 : Hid _ := (C3 _).trans (Chg.of_below M4.2.1 (fun _ => False)) (fun _ h => h.elim)
        have O4 : Hid _ := M4
        clear R3 C3 M4
        go_wp2_with fail
        go_ret
        refine ⟨_, rfl, ?_, ?_, fun k hk => ?_⟩
        · rw [E1.out]; exact O4.out.1
        · rw [E2.out, E3.out]; exact ⟨R4.out, C4.out⟩
        · have := O4.out.2.2 k hk
          simpa using this
    · have hbad : n < 0 ∨ (T.length : Int) - a < n := by omega
      obtain ⟨e1, e2, e3⟩ := p_bad hbad
      have E1 : Hid _ := e1
      have E2 : Hid _ := e2
      have E3 : Hid _ := e3
      clear e1 e2 e3
      by_cases hn : n < 0
      · have hd1 : decide (n < 0) = true := by simpa using hn
        go_enter Try.func110, Try.ntmps110
        go_wp2_with fail
        go_quiet (fail)
        go_wp2_with fail
        go_ret
        refine ⟨_, rfl, ?_, ?_, fun k hk => by cases hk⟩
        · rw [E1.out]; exact Own.nil _
        · rw [E2.out, E3.out]; exact ⟨RS.setErr (RS.drewN H.out _) 20, (drewN_chg w _ (fun k => k = p)).setCell (.inl rfl) _⟩
      · have hd1 : decide (n < 0) = false := by simpa using hn
        have hd2 : decide ((T.length : Int) - a < n) = true := by simp; omega
        go_enter Try.func110, Try.ntmps110
        go_wp2_with fail
        go_quiet (fail)
        go_wp2_with fail
        go_ret
        refine ⟨_, rfl, ?_, ?_, fun k hk => by cases hk⟩
        · rw [E1.out]; exact Own.nil _
        · rw [E2.out, E3.out]; exact ⟨RS.setErr (RS.drewN H.out _) 20, (drewN_chg w _ (fun k => k = p)).setCell (.inl rfl) _⟩
  · obtain ⟨e1, e2, e3⟩ := p_err (T := T) (a := a) (n := n) he
    have E1 : Hid _ := e1
    have E2 : Hid _ := e2
    have E3 : Hid _ := e3
    clear e1 e2 e3
    have heb : (err == 0) = false := by simpa using he
    go_enter Try.func110, Try.ntmps110
    go_wp2_with fail
    go_quiet (fail)
    go_wp2_with fail
    go_ret
    refine ⟨_, rfl, ?_, ?_, fun k hk => by cases hk⟩
    · rw [E1.out]; exact Own.nil _
    · rw [E2.out, E3.out]; exact ⟨RS.drewN H.out _, drewN_chg _ _ _⟩
end Go.Proofs.Ytjmeaebehndheaa
