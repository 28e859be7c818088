/-
  One turn of HeapTurns.
-/
import Derived.Test.YtpkcabbfblhekaaRef2
import Derived.Test.YtpkcabbfblhekaaSwap
namespace Go.Proofs.Ytpkcabbfblhekaa
open Go.RowKit

set_option maxRecDepth 100000 in
set_option maxHeartbeats 2000000 in
theorem same_any {w : World} {s t : Value} {L : List (Int × Int)} (hs : Ths w s L) (ht : Ths w t L) (hl : L.length ≤ 2097152) :
    Calls Try.prog 19 #[s, t] w fun e w' => e = .returned (.bool true) ∧ Chg (fun _ => False) w w' := by
  obtain ⟨sa, sc, rfl⟩ := hs.form
  obtain ⟨ta, tc, rfl⟩ := ht.form
  have EQ := eql26
  have HS : Hid _ := hs
  have HT : Hid _ := ht
  have hbb : ((L.length : Int) != (L.length : Int)) = false := by simp
  clear hs ht
  go_enter Try.func19, Try.ntmps19
  go_wp2_with fail
  go_loopg [5] (L.length + 1) (fun gk i wr => ∃ j : Nat, i = .int .i64 j ∧ j ≤ L.length ∧ L.length < gk + j ∧ Hid (Chg (fun _ => False) w wr))
  case atStart => exact ⟨0, rfl, by omega, by omega, Chg.refl _ _⟩
  case round =>
    obtain ⟨j, rfl, hj, hgk, hch⟩ := hrel
    by_cases h0 : j = L.length
    · subst h0
      go_wp2_with fail
      go_ret
      exact ⟨rfl, hch.out⟩
    · have hjl : (j : Int) < (L.length : Int) := by omega
      obtain ⟨b, o, c, hs1, hc⟩ := Ths.at (Ths.keep HS.out hch.out (fun _ _ h => h)) (i := j) (by omega)
      obtain ⟨b', o', c', ht1, hc'⟩ := Ths.at (Ths.keep HT.out hch.out (fun _ _ h => h)) (i := j) (by omega)
      injection hs1 with e1 _ e3
      injection ht1 with e4 _ e6
      subst e1 e3 e4 e6
      obtain ⟨x0, x1⟩ := hc j (by omega)
      obtain ⟨y0, y1⟩ := hc' j (by omega)
      obtain ⟨x, hx⟩ : ∃ x, tnth L j = x := ⟨_, rfl⟩
      rw [hx] at x0 x1 y0 y1
      obtain ⟨xk, xn⟩ := x
      simp only at x0 x1 y0 y1
      clear hc hc' hx
      go_wp2_with fail
      go_quiet (fail)
      go_wp2_with fail
      go_roundg (L.length - j)
      case measure => omega
      case rel => exact ⟨j + 1, by go_num, by omega, by omega, ⟨hch.out.os, hch.out.tape, hch.out.output, hch.out.size, hch.out.block⟩⟩

/-- The two kinds of heaps. -/
def fB (all : Bool) : Value := if all then .nilFunc else .func (.func 11) #[] #[]
def oneB (all : Bool) : Nat := if all then 0 else 1
theorem od_B (all : Bool) : Od (fB all) (fun _ => False) (fun _ _ => True) (odB all) (oneB all) := by
  cases all with
  | true => exact od_nil
  | false => exact od_cmp cmp_byK
theorem oneB_le (all : Bool) : oneB all ≤ 1 := by cases all <;> decide

/-- A heap and the law's own list beside it. -/
structure TS (w : World) (all : Bool) (p : Nat) (v : Value) (H : List E) (came : Nat) (lv : Value) (l : List (Int × Int)) : Prop where
  hq : Hq w p (fB all) v H came
  ho : HO (odB all) H
  fo : ∃ R, Follows H came l R
  own : OwnT w lv l
  np : lv.ownBlock ≠ some p
  nv : ∀ k, lv.ownBlock = some k → v.ownBlock ≠ some k
  cm : H.length ≤ came

theorem TS.len {w : World} {all : Bool} {p : Nat} {v : Value} {H : List E} {came : Nat} {lv : Value} {l : List (Int × Int)} (h : TS w all p v H came lv l) : H.length = l.length := by obtain ⟨R, hR⟩ := h.fo; exact hR.len
/-- What Peek and Pop answer is right. -/
theorem TS.right {w : World} {all : Bool} {p : Nat} {v : Value} {H : List E} {came : Nat} {lv : Value} {l : List (Int × Int)} (h : TS w all p v H came lv l) : tookR (nth H 0).th (decide (0 < H.length)) l all := by
  obtain ⟨R, hR⟩ := h.fo
  have hl := hR.len
  by_cases h0 : 0 < H.length
  · obtain ⟨m, h1, h2, h3⟩ := hR.first h.ho (by omega)
    have hRl : R.length = l.length := by rw [← hR.list, List.length_map]
    refine .inr ⟨m, h1, by omega, decide_eq_true h0, ?_⟩
    rw [h3, ← hR.list, th_nth h2]
  · have e1 : H = [] := List.eq_nil_of_length_eq_zero (by omega)
    have e2 : l = [] := List.eq_nil_of_length_eq_zero (by omega)
    exact .inl ⟨e2, decide_eq_false h0, by rw [e1]; rfl⟩
theorem TS.keep {w w' : World} {all : Bool} {p : Nat} {v : Value} {H : List E} {came : Nat} {lv : Value} {l : List (Int × Int)} (h : TS w all p v H came lv l) (k : Chg (fun _ => False) w w') : TS w' all p v H came lv l :=
  ⟨h.hq.keep k (fun h => h) (fun _ _ h => h), h.ho, h.fo, h.own.keep k (fun _ _ h => h), h.np, h.nv, h.cm⟩

/-- Peek, whatever is there. -/
theorem peek_any {w : World} {p : Nat} {f v : Value} {H : List E} {came : Nat} (h1 : Hq w p f v H came) : Calls Try.prog 15 #[.pointer (some ⟨p, 0, none⟩)] w fun e w' => e = .returned (.tuple #[two (nth H 0).th, .bool (decide (0 < H.length))]) ∧ Chg (fun _ => False) w w' := by
  by_cases h0 : 0 < H.length
  · rcases h1.cases with ⟨_, rfl⟩ | ⟨g, cap, sp, rfl, hp⟩
    · simp at h0
    · rw [decide_eq_true h0]
      exact peek_some hp h0
  · have : H = [] := List.eq_nil_of_length_eq_zero (by omega)
    subst this
    exact peek_none h1
/-- Pop, whatever is there. -/
theorem pop_any {w : World} {p : Nat} {f v : Value} {H : List E} {came : Nat} {od : E → E → Int} {one : Nat} (O : Od f (fun _ => False) (fun _ _ => True) od one) (h1 : Hq w p f v H came) (hn : H.length ≤ 2097152) (ho : one ≤ 1) :
    Calls Try.prog 16 #[.pointer (some ⟨p, 0, none⟩)] w fun e w' => e = .returned (.tuple #[two (nth H 0).th, .bool (decide (0 < H.length))]) ∧ Stt w w' p f v.ownBlock (if 0 < H.length then (popF od H).1 else H) came 0 (fun _ => False) (fun _ _ => True) := by
  by_cases h0 : 0 < H.length
  · rcases h1.cases with ⟨_, rfl⟩ | ⟨g, cap, sp, rfl, hp⟩
    · simp at h0
    · rw [decide_eq_true h0, if_pos h0]
      refine (pop_some O hp (fun h => h) (fun h => h) 0 (H.length - 1) (by omega) (by omega) trivial (by omega) ho).mono ?_
      rintro e w9 ⟨rfl, ⟨v', hv1, hv2⟩, _, hch⟩
      refine ⟨rfl, ⟨v', hv1, fun k hk => ?_⟩, trivial, hch.mono (fun i _ hi => ?_)⟩
      · rcases hv2 k hk with e | e
        · exact .inl (by rw [e]; rfl)
        · exact .inr e
      · rcases hi with e | e | e
        · exact .inl e
        · exact .inr (.inl (by rw [e]; rfl))
        · exact e.elim
  · have : H = [] := List.eq_nil_of_length_eq_zero (by omega)
    subst this
    refine (pop_none h1).mono ?_
    rintro e w9 ⟨rfl, k⟩
    exact ⟨rfl, ⟨v, h1.keep k (fun h => h) (fun _ _ h => h), fun k hk => .inl hk.symm⟩, trivial, k.mono (fun _ _ h => h.elim)⟩

end Go.Proofs.Ytpkcabbfblhekaa
