/-
  The walks of the reference's Uint, and of a Reader's.
-/
import Derived.Test.YtjmeaebehndheaaNum
import Derived.ScopeJumps
import Derived.WalkMore
namespace Go.Proofs.Ytjmeaebehndheaa
open Go.RowKit

/-- What Uint answers and leaves. -/
def uintS (T : List Int) (a : Nat) (err : Int) (most : Nat) : Nat × Nat × Int :=
  if err = 0 then (match numG (T.drop a) 0 0 with | (e, n, u) => if e = 0 then (if most < n then (0, a, 21) else (n, a + u, 0)) else (0, a, e)) else (0, a, err)
theorem uintS_err {T : List Int} {a : Nat} {err : Int} {most : Nat} (h : ¬ err = 0) : uintS T a err most = (0, a, err) := by simp [uintS, h]
theorem uintS_bad {T : List Int} {a : Nat} {most : Nat} {e : Int} {n u : Nat} (h : numG (T.drop a) 0 0 = (e, n, u)) (he : ¬ e = 0) : uintS T a 0 most = (0, a, e) := by simp [uintS, h, he]
theorem uintS_long {T : List Int} {a : Nat} {most n u : Nat} (h : numG (T.drop a) 0 0 = (0, n, u)) (he : most < n) : uintS T a 0 most = (0, a, 21) := by simp [uintS, h, he]
theorem uintS_ok {T : List Int} {a : Nat} {most n u : Nat} (h : numG (T.drop a) 0 0 = (0, n, u)) (he : ¬ most < n) : uintS T a 0 most = (n, a + u, 0) := by simp [uintS, h, he]
theorem Byts.drop {l : List Int} (h : Byts l) (j : Nat) : Byts (l.drop j) := fun y hy => h y (List.mem_of_mem_drop hy)

set_option maxRecDepth 100000 in
set_option maxHeartbeats 4000000 in
theorem xUint_any {w : World} {p : Nat} {t : TypeId} {tv : Value} {T : List Int} {a : Nat} {err : Int} (h : RS w p t tv T a err) (most : Nat) (_hm : most < 18446744073709551616) :
    Calls Try.prog 65 #[.pointer (some ⟨p, 0, none⟩), .int .u64 most] w fun e w' => e = .returned (.int .u64 (uintS T a err most).1) ∧ RP w w' p t tv T (uintS T a err most).2.1 (uintS T a err most).2.2 := by
  have H : Hid _ := h
  have hle := h.le
  have hbig := h.big
  have k0 : ∀ j, (w.drewN j).cell? ⟨p, 0, none⟩ = some tv := fun j => RS.c0 (RS.drewN H.out j)
  have k1 : ∀ j, (w.drewN j).cell? ⟨p, 1, none⟩ = some (.int .i64 a) := fun j => RS.c1 (RS.drewN H.out j)
  have k2 : ∀ j, (w.drewN j).cell? ⟨p, 2, none⟩ = some (.int .i64 err) := fun j => RS.c2 (RS.drewN H.out j)
  have k2' := h.c2
  have f1 : ∀ j, (w.drewN j).frozen? ⟨p, 1, none⟩ = false := fun j => RS.fr (RS.drewN H.out j) 1
  have f2 : ∀ j, (w.drewN j).frozen? ⟨p, 2, none⟩ = false := fun j => RS.fr (RS.drewN H.out j) 2
  have hnum : Hid (∀ j, Calls Try.prog 111 #[tv, .int .i64 a] (w.drewN j) fun e w' => e = .returned (.tuple (numR T a).toArray) ∧ w' = w.drewN j) := fun j => number_any (Src.drewN h.src j) h.byt a h.le h.big
  have hfit := fun n u e => numG_fits (T.drop a) 0 0 n u (Byts.drop h.byt a) (by omega) (by omega) e
  obtain ⟨b0, d0, hv⟩ := h.src.form
  subst hv
  clear h
  obtain ⟨A, hA⟩ : ∃ A, A = uintS T a err most := ⟨_, rfl⟩
  rw [← hA]
  have HA : Hid _ := hA
  clear hA
  by_cases he : err = 0
  · subst he
    obtain ⟨e, n, u, hg⟩ : ∃ e n u, numG (T.drop a) 0 0 = (e, n, u) := ⟨_, _, _, rfl⟩
    by_cases he : e = 0
    · subst he
      obtain ⟨hu, hn⟩ := hfit n u hg
      simp only [List.length_drop] at hu
      rw [numR_ok hg] at hnum
      by_cases hmn : most < n
      · have E : Hid _ := HA.out.trans (uintS_long hg hmn)
        clear hg hfit
        go_enter Try.func65, Try.ntmps65
        go_wp2_with fail
        go_quiet ((go_at_call 111; exact Calls.quiet_of_same (hnum.out _)))
        go_wp2_with fail
        go_ret
        refine ⟨by rw [E.out]; rfl, ?_⟩
        rw [E.out]
        exact ⟨RS.setErr (RS.drewN H.out _) 21, (drewN_chg w _ (fun k => k = p)).setCell (.inl rfl) _⟩
      · have E : Hid _ := HA.out.trans (uintS_ok hg hmn)
        clear hg hfit
        go_enter Try.func65, Try.ntmps65
        go_wp2_with fail
        go_quiet ((go_at_call 111; exact Calls.quiet_of_same (hnum.out _)))
        go_wp2_with fail
        go_ret
        refine ⟨by rw [E.out]; rfl, ?_⟩
        rw [E.out]
        refine ⟨?_, (drewN_chg w _ (fun k => k = p)).setCell (.inl rfl) _⟩
        have := RS.setAt (RS.drewN H.out nq) (a + u) (by omega)
        rwa [Int.natCast_add] at this
    · rw [numR_err hg he] at hnum
      have E : Hid _ := HA.out.trans (uintS_bad hg he)
      clear hg hfit
      go_enter Try.func65, Try.ntmps65
      go_wp2_with fail
      go_quiet ((go_at_call 111; exact Calls.quiet_of_same (hnum.out _)))
      go_wp2_with fail
      go_ret
      refine ⟨by rw [E.out]; rfl, ?_⟩
      rw [E.out]
      exact ⟨RS.setErr (RS.drewN H.out _) e, (drewN_chg w _ (fun k => k = p)).setCell (.inl rfl) _⟩
  · have E : Hid _ := HA.out.trans (uintS_err he)
    go_enter Try.func65, Try.ntmps65
    go_wp2_with fail
    go_ret
    refine ⟨by rw [E.out]; rfl, ?_⟩
    rw [E.out]
    exact RS.refl H.out

theorem and127 {c : Int} (h0 : 0 ≤ c) (h1 : c ≤ 255) : bits .and .u8 c 127 = c % 128 := by
  have key : ∀ j : Fin 256, bits .and .u8 ((j.val : Nat) : Int) 127 = ((j.val % 128 : Nat) : Int) := by decide +kernel
  have := key ⟨c.toNat, by omega⟩
  simp only at this
  rw [show c = ((c.toNat : Nat) : Int) by omega, this]
  omega
theorem or_num {acc K : Nat} {c : Int} (_hc : 0 ≤ c) (h : acc < 128 ^ K) (hb : acc + (c % 128).toNat * 128 ^ K < 18446744073709551616) : bits .or .u64 (acc : Int) ((c % 128) * ((128 ^ K : Nat) : Int)) = ((acc + (c % 128).toNat * 128 ^ K : Nat) : Int) := by
  have e1 : (c % 128) * ((128 ^ K : Nat) : Int) = (((c % 128).toNat * 128 ^ K : Nat) : Int) := by rw [Int.natCast_mul, Int.toNat_of_nonneg (by omega)]
  rw [e1, u64_or_nat _ _ (by omega) (by omega)]
  have e2 : 128 ^ K = 2 ^ (7 * K) := by rw [Nat.pow_mul]
  have e3 := Nat.shiftLeft_add_eq_or_of_lt (i := 7 * K) (b := acc) (by rw [← e2]; exact h) (c % 128).toNat
  rw [Nat.shiftLeft_eq, ← e2] at e3
  rw [Nat.or_comm, ← e3, Nat.add_comm]

end Go.Proofs.Ytjmeaebehndheaa
