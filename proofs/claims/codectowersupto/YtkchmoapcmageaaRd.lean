/-
  Readers in memory, and the walks of their smallest calls.
-/
import Derived.Test.YtkchmoapcmageaaRef
namespace Go.Proofs.Ytkchmoapcmageaa
open Go.RowKit

/-- Each is a byte. -/
def Byts (l : List Int) : Prop := ∀ y ∈ l, 0 ≤ y ∧ y ≤ 255

/-- What End tells; what Fail leaves. -/
def endE (T : List Int) (a : Nat) (err : Int) : Int := if err = 0 ∧ a < T.length then 23 else err
def failE (err c : Int) : Int := if err = 0 then c else err
theorem endE_yes {T : List Int} {a : Nat} (h : a < T.length) : endE T a 0 = 23 := by simp [endE, h]
theorem endE_no {T : List Int} {a : Nat} (h : ¬ a < T.length) : endE T a 0 = 0 := by simp [endE]; omega
theorem endE_err {T : List Int} {a : Nat} {err : Int} (h : ¬ err = 0) : endE T a err = err := by simp [endE, h]
theorem failE_yes (c : Int) : failE 0 c = c := rfl
theorem failE_no {err : Int} (c : Int) (h : ¬ err = 0) : failE err c = err := by simp [failE, h]

/-- A Reader lies in block p: its bytes, how many were taken, what went wrong. -/
structure RS (w : World) (p : Nat) (t : TypeId) (tv : Value) (T : List Int) (at_ : Nat) (err : Int) : Prop where
  blk : w.heap[p]? = some (.cells #[tv, .int .i64 at_, .int .i64 err] t (0, 0))
  src : Src w tv T
  ne : tv.ownBlock ≠ some p
  le : at_ ≤ T.length
  big : T.length ≤ 140737488355328
  byt : Byts T
  cap : ∃ a c, tv = .slice a T.length c ∧ T.length ≤ c ∧ c ≤ 9223372036854775807

/-- What a call leaves. -/
def RP (w w' : World) (p : Nat) (t : TypeId) (tv : Value) (T : List Int) (at_ : Nat) (err : Int) : Prop := RS w' p t tv T at_ err ∧ Chg (fun k => k = p) w w'

section
variable {w w' : World} {p : Nat} {t : TypeId} {tv : Value} {T : List Int} {at_ : Nat} {err : Int}
theorem RS.c0 (h : RS w p t tv T at_ err) : w.cell? ⟨p, 0, none⟩ = some tv := by rw [cell_of_row w p 0 _ t (0, 0) h.blk]; rfl
theorem RS.c1 (h : RS w p t tv T at_ err) : w.cell? ⟨p, 1, none⟩ = some (.int .i64 at_) := by rw [cell_of_row w p 1 _ t (0, 0) h.blk]; rfl
theorem RS.c2 (h : RS w p t tv T at_ err) : w.cell? ⟨p, 2, none⟩ = some (.int .i64 err) := by rw [cell_of_row w p 2 _ t (0, 0) h.blk]; rfl
theorem RS.fr (h : RS w p t tv T at_ err) (j : Nat) : w.frozen? ⟨p, j, none⟩ = false := frozen_of_row w p j _ t h.blk
theorem RS.lt (h : RS w p t tv T at_ err) : p < w.heap.size := (Array.getElem?_eq_some_iff.1 h.blk).1
theorem RS.refl (h : RS w p t tv T at_ err) : RP w w p t tv T at_ err := ⟨h, Chg.refl _ _⟩
theorem RS.drewN (h : RS w p t tv T at_ err) (n : Nat) : RS (w.drewN n) p t tv T at_ err := ⟨h.blk, h.src, h.ne, h.le, h.big, h.byt, h.cap⟩
theorem RS.setErr (h : RS w p t tv T at_ err) (e : Int) : RS (w.setCell ⟨p, 2, none⟩ (.int .i64 e)) p t tv T at_ e :=
  ⟨by rw [heap_setCell_same w p 2 _ t _ h.blk]; rfl, h.src.kept ((Chg.refl (fun k => k = p) w).setCell (.inl rfl) _) (fun k hk e => h.ne (by rw [hk, e])), h.ne, h.le, h.big, h.byt, h.cap⟩
theorem RS.setAt (h : RS w p t tv T at_ err) (b : Nat) (hb : b ≤ T.length) : RS (w.setCell ⟨p, 1, none⟩ (.int .i64 b)) p t tv T b err :=
  ⟨by rw [heap_setCell_same w p 1 _ t _ h.blk]; rfl, h.src.kept ((Chg.refl (fun k => k = p) w).setCell (.inl rfl) _) (fun k hk e => h.ne (by rw [hk, e])), h.ne, hb, h.big, h.byt, h.cap⟩
theorem RS.keep {S : Nat → Prop} (h : RS w p t tv T at_ err) (c : Chg S w w') (hp : ¬ S p) (ht : ∀ k, tv.ownBlock = some k → ¬ S k) : RS w' p t tv T at_ err :=
  ⟨c.heap_some h.blk hp, h.src.kept c ht, h.ne, h.le, h.big, h.byt, h.cap⟩
theorem RS.keep0 (h : RS w p t tv T at_ err) (c : Below w.heap.size w w') : RS w' p t tv T at_ err := h.keep (Chg.of_below c (fun _ => False)) (fun h => h) (fun _ _ h => h)
end

theorem RP.trans {w w1 w2 : World} {p : Nat} {t : TypeId} {tv : Value} {T : List Int} {at1 at2 : Nat} {e1 e2 : Int} (h : RP w w1 p t tv T at1 e1) (k : RP w1 w2 p t tv T at2 e2) : RP w w2 p t tv T at2 e2 :=
  ⟨k.1, h.2.trans k.2 (fun _ e => .inl e)⟩

set_option maxRecDepth 100000 in
set_option maxHeartbeats 1000000 in
theorem rLeft_any {w : World} {p : Nat} {t : TypeId} {tv : Value} {T : List Int} {a : Nat} {err : Int} (h : RS w p t tv T a err) :
    Calls Try.prog 76 #[.pointer (some ⟨p, 0, none⟩)] w fun e w' => e = .returned (.int .i64 ((T.length : Int) - a)) ∧ ∃ n, w' = w.drewN n := by
  obtain ⟨b0, d0, hv⟩ := h.src.form
  have h0 : ∀ n, (w.drewN n).cell? ⟨p, 0, none⟩ = some tv := fun n => h.c0
  have h1 : ∀ n, (w.drewN n).cell? ⟨p, 1, none⟩ = some (.int .i64 a) := fun n => h.c1
  have hle := h.le
  have hbig := h.big
  subst hv
  clear h
  go_enter Try.func76, Try.ntmps76
  go_wp2_with fail
  go_quiet (fail)
  go_wp2_with fail
  go_ret
  exact ⟨rfl, _, rfl⟩

set_option maxRecDepth 100000 in
set_option maxHeartbeats 1000000 in
theorem rFail_any {w : World} {p : Nat} {t : TypeId} {tv : Value} {T : List Int} {a : Nat} {err : Int} (h : RS w p t tv T a err) (c : Int) :
    Calls Try.prog 74 #[.pointer (some ⟨p, 0, none⟩), .int .i64 c] w fun e w' => e = .returned (.tuple #[]) ∧ RP w w' p t tv T a (failE err c) := by
  have h2 := h.c2
  have hf := h.fr 2
  have H : Hid _ := h
  clear h
  by_cases he : err = 0
  · subst he
    go_enter Try.func74, Try.ntmps74
    go_wp2_with fail
    exact bodyPost_end (results_none rfl _ _ _) rfl ⟨rfl, by rw [failE_yes]; exact ⟨RS.setErr H.out c, (Chg.refl (fun k => k = p) w).setCell (.inl rfl) _⟩⟩
  · go_enter Try.func74, Try.ntmps74
    go_wp2_with fail
    exact bodyPost_end (results_none rfl _ _ _) rfl ⟨rfl, by rw [failE_no c he]; exact RS.refl H.out⟩

set_option maxRecDepth 100000 in
set_option maxHeartbeats 1000000 in
theorem rEnd_any {w : World} {p : Nat} {t : TypeId} {tv : Value} {T : List Int} {a : Nat} {err : Int} (h : RS w p t tv T a err) :
    Calls Try.prog 79 #[.pointer (some ⟨p, 0, none⟩)] w fun e w' => e = .returned (.int .i64 (endE T a err)) ∧ ∃ n, w' = w.drewN n := by
  have h2 : ∀ n, (w.drewN n).cell? ⟨p, 2, none⟩ = some (.int .i64 err) := fun n => h.c2
  have h2' := h.c2
  have hle := h.le
  have hbig := h.big
  have H : Hid _ := h
  clear h
  by_cases he : err = 0
  · subst he
    by_cases hl : a < T.length
    · go_enter Try.func79, Try.ntmps79
      go_wp2_with fail
      refine (rLeft_any H.out).mono ?_
      rintro e w1 ⟨rfl, n, rfl⟩
      go_wp2_with fail
      go_ret
      exact ⟨by rw [endE_yes hl]; rfl, n, rfl⟩
    · go_enter Try.func79, Try.ntmps79
      go_wp2_with fail
      refine (rLeft_any H.out).mono ?_
      rintro e w1 ⟨rfl, n, rfl⟩
      go_wp2_with fail
      go_ret
      exact ⟨by rw [endE_no hl]; rfl, n, rfl⟩
  · go_enter Try.func79, Try.ntmps79
    go_wp2_with fail
    go_ret
    exact ⟨by rw [endE_err he]; rfl, 0, rfl⟩

set_option maxRecDepth 100000 in
set_option maxHeartbeats 1000000 in
theorem rErr_any {w : World} {p : Nat} {t : TypeId} {tv : Value} {T : List Int} {a : Nat} {err : Int} (h : RS w p t tv T a err) :
    Calls Try.prog 78 #[.pointer (some ⟨p, 0, none⟩)] w fun e w' => e = .returned (.int .i64 err) ∧ w' = w := by
  have h2 := h.c2
  clear h
  go_enter Try.func78, Try.ntmps78
  go_wp2_with fail
  go_ret
  exact ⟨rfl, rfl⟩

set_option maxRecDepth 100000 in
set_option maxHeartbeats 1000000 in
theorem xLeft_any {w : World} {p : Nat} {t : TypeId} {tv : Value} {T : List Int} {a : Nat} {err : Int} (h : RS w p t tv T a err) :
    Calls Try.prog 77 #[.pointer (some ⟨p, 0, none⟩)] w fun e w' => e = .returned (.int .i64 ((T.length : Int) - a)) ∧ ∃ n, w' = w.drewN n := by
  obtain ⟨b0, d0, hv⟩ := h.src.form
  have h0 : ∀ n, (w.drewN n).cell? ⟨p, 0, none⟩ = some tv := fun n => h.c0
  have h1 : ∀ n, (w.drewN n).cell? ⟨p, 1, none⟩ = some (.int .i64 a) := fun n => h.c1
  have hle := h.le
  have hbig := h.big
  subst hv
  clear h
  go_enter Try.func77, Try.ntmps77
  go_wp2_with fail
  go_quiet (fail)
  go_wp2_with fail
  go_ret
  exact ⟨rfl, _, rfl⟩

set_option maxRecDepth 100000 in
set_option maxHeartbeats 1000000 in
theorem xFail_any {w : World} {p : Nat} {t : TypeId} {tv : Value} {T : List Int} {a : Nat} {err : Int} (h : RS w p t tv T a err) (c : Int) :
    Calls Try.prog 75 #[.pointer (some ⟨p, 0, none⟩), .int .i64 c] w fun e w' => e = .returned (.tuple #[]) ∧ RP w w' p t tv T a (failE err c) := by
  have h2 := h.c2
  have hf := h.fr 2
  have H : Hid _ := h
  clear h
  by_cases he : err = 0
  · subst he
    go_enter Try.func75, Try.ntmps75
    go_wp2_with fail
    exact bodyPost_end (results_none rfl _ _ _) rfl ⟨rfl, by rw [failE_yes]; exact ⟨RS.setErr H.out c, (Chg.refl (fun k => k = p) w).setCell (.inl rfl) _⟩⟩
  · go_enter Try.func75, Try.ntmps75
    go_wp2_with fail
    exact bodyPost_end (results_none rfl _ _ _) rfl ⟨rfl, by rw [failE_no c he]; exact RS.refl H.out⟩

set_option maxRecDepth 100000 in
set_option maxHeartbeats 1000000 in
theorem xEnd_any {w : World} {p : Nat} {t : TypeId} {tv : Value} {T : List Int} {a : Nat} {err : Int} (h : RS w p t tv T a err) :
    Calls Try.prog 80 #[.pointer (some ⟨p, 0, none⟩)] w fun e w' => e = .returned (.int .i64 (endE T a err)) ∧ ∃ n, w' = w.drewN n := by
  have h2 : ∀ n, (w.drewN n).cell? ⟨p, 2, none⟩ = some (.int .i64 err) := fun n => h.c2
  have h2' := h.c2
  have hle := h.le
  have hbig := h.big
  have H : Hid _ := h
  clear h
  by_cases he : err = 0
  · subst he
    by_cases hl : a < T.length
    · go_enter Try.func80, Try.ntmps80
      go_wp2_with fail
      refine (xLeft_any H.out).mono ?_
      rintro e w1 ⟨rfl, n, rfl⟩
      go_wp2_with fail
      go_ret
      exact ⟨by rw [endE_yes hl]; rfl, n, rfl⟩
    · go_enter Try.func80, Try.ntmps80
      go_wp2_with fail
      refine (xLeft_any H.out).mono ?_
      rintro e w1 ⟨rfl, n, rfl⟩
      go_wp2_with fail
      go_ret
      exact ⟨by rw [endE_no hl]; rfl, n, rfl⟩
  · go_enter Try.func80, Try.ntmps80
    go_wp2_with fail
    go_ret
    exact ⟨by rw [endE_err he]; rfl, 0, rfl⟩
end Go.Proofs.Ytkchmoapcmageaa
