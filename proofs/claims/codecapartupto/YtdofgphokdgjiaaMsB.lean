/-
  Messages: what is read without a fault to the end is just what would be written.
-/
import Derived.Test.YtdofgphokdgjiaaMsX
import Derived.Test.YtdofgphokdgjiaaPrB
namespace Go.Proofs.Ytdofgphokdgjiaa
open Go.RowKit

def ints (c : List Value) : List Int := c.map intOf
theorem ints_bs (z : List Int) : ints (bs z) = z := by simp [ints, bs, intOf, Function.comp_def]
def txB (l : List Int) : List Int := numB l.length ++ l
/-- Bytes, out of what was read. -/
def spB (op : Bool) (lo hi : List Int) : List Int := [if op then 1 else 0] ++ txB lo ++ (if op then [] else txB hi)
def chB (c : List Int × Bool × List Int × Bool × List Int) : List Int := [(if c.2.1 then 1 else 0) + (if c.2.2.2.1 then 2 else 0)] ++ txB c.1 ++ (if c.2.1 then txB c.2.2.1 else []) ++ (if c.2.2.2.1 then txB c.2.2.2.2 else [])
def ChS.dt (o : ChS) : List Int × Bool × List Int × Bool × List Int := (o.kl, o.had, o.ol, o.has, o.nl)
def msgB (S : MsS) : List Int :=
  [(S.ki : Int)] ++ (if S.ki = 2 then numB S.ver ++ spB S.op S.lo S.hi else if S.ki = 3 then numB S.ver else if S.ki = 4 then numB S.oth else if S.ki = 5 then numB S.oth ++ numB S.ver
  else if S.ki = 11 then numB S.ver ++ (S.lb ++ (numB S.ct ++ (numB S.hs ++ S.hl))) else if S.ki = 12 then txB S.bo
  else if S.ki = 13 ∨ S.ki = 14 then numB S.pa.length ++ (S.pa.map ints).flatten else if S.ki = 15 then numB S.ch.length ++ (S.ch.map (fun c => chB c.dt)).flatten
  else if S.ki = 19 then numB S.co else [])
theorem flagS_bad {T : List Int} {a : Nat} {e : Int} (x : ¬ e = 0) : ¬ (flagS T a e).2.2 = 0 := by
  unfold flagS
  simp only
  split
  · exact fun h => fail_zero (by decide) h
  · exact fun h => p_bad2 x h
theorem flag_form {T : List Int} (hb : Byts T) {a b : Nat} {F : Bool} (h : flagS T a 0 = (F, b, 0)) : T.drop a = [if F then 1 else 0] ++ T.drop b := by
  unfold flagS at h
  simp only [Prod.mk.injEq] at h
  obtain ⟨r1, r2, r3⟩ := h
  split at r3
  · exact (fail_zero (by decide) r3).elim
  · next hk =>
    have q := byte_form hb r3
    rw [r2] at q
    rw [q, ← r1]
    congr 2
    by_cases h1 : lowN (pL T a 0 1) = 1
    · simp [h1]
    · have h0 : lowN (pL T a 0 1) = 0 := by omega
      simp [h0]
theorem span_bad {T : List Int} {a : Nat} {e : Int} (x : ¬ e = 0) : ¬ (spanS T a e).err = 0 := by
  have h1 := text_bad (T := T) (a := (flagS T a e).2.1) (m := 1025) (flagS_bad (T := T) (a := a) x)
  unfold spanS
  simp only
  split
  · exact h1
  · exact text_bad h1
theorem span_form {T : List Int} (hb : Byts T) {a : Nat} (h : (spanS T a 0).err = 0) : T.drop a = spB (spanS T a 0).op (spanS T a 0).lo (spanS T a 0).hi ++ T.drop (spanS T a 0).at_ := by
  unfold spanS at h ⊢
  simp only at h ⊢
  obtain ⟨F, a1, e1, hF⟩ : ∃ L b c, flagS T a 0 = (L, b, c) := ⟨_, _, _, rfl⟩
  simp only [hF] at h ⊢
  obtain ⟨L, a2, e2, hL⟩ : ∃ L b c, textS T a1 e1 1025 = (L, b, c) := ⟨_, _, _, rfl⟩
  simp only [hL] at h ⊢
  cases F with
  | true =>
    rw [if_pos rfl] at h ⊢
    simp only at h ⊢
    subst h
    have z1 : e1 = 0 := Classical.byContradiction fun y => text_bad y (by rw [hL])
    subst z1
    rw [flag_form hb hF, text_form hb hL]
    simp [spB, txB]
  | false =>
    rw [if_neg (by decide)] at h ⊢
    simp only at h ⊢
    obtain ⟨M, a3, e3, hM⟩ : ∃ L b c, textS T a2 e2 1025 = (L, b, c) := ⟨_, _, _, rfl⟩
    simp only [hM] at h ⊢
    subst h
    have z2 : e2 = 0 := Classical.byContradiction fun y => text_bad y (by rw [hM])
    subst z2
    have z1 : e1 = 0 := Classical.byContradiction fun y => text_bad y (by rw [hL])
    subst z1
    rw [flag_form hb hF, text_form hb hL, text_form hb hM]
    simp [spB, txB]
theorem opt_bad {b : Bool} {T : List Int} {a : Nat} {e : Int} (x : ¬ e = 0) : ¬ (optS b T a e).2.2 = 0 := by
  unfold optS
  split
  · exact text_bad x
  · exact x
theorem opt_form {T : List Int} (hb : Byts T) {b : Bool} {a a1 : Nat} {x : List Int} (h : optS b T a 0 = (x, a1, 0)) : T.drop a = (if b then txB x else []) ++ T.drop a1 := by
  unfold optS at h
  cases b with
  | true =>
    rw [if_pos rfl] at h
    rw [text_form hb h]
    rfl
  | false =>
    rw [if_neg (by decide)] at h
    simp only [Prod.mk.injEq] at h
    rw [h.2.1]
    rfl
theorem ch_form {T : List Int} (hb : Byts T) {a : Nat} (h : (chS T a 0).err = 0) : T.drop a = chB (chS T a 0).dt ++ T.drop (chS T a 0).at_ := by
  unfold chS at h ⊢
  simp only at h ⊢
  obtain ⟨K, hK⟩ : ∃ K, K = lowN (pL T a 0 1) := ⟨_, rfl⟩
  obtain ⟨a1, ha1⟩ : ∃ a1, a1 = pA T a 0 1 := ⟨_, rfl⟩
  obtain ⟨e0, he0⟩ : ∃ e1, e1 = pE T a 0 1 := ⟨_, rfl⟩
  have q0 : e0 = 0 → T.drop a = [(K : Int)] ++ T.drop a1 := fun e => by
    rw [hK, ha1]
    exact byte_form hb (by rw [← he0]; exact e)
  simp only [← hK, ← ha1, ← he0] at h ⊢
  clear hK ha1 he0
  obtain ⟨e1, he1⟩ : ∃ e1, e1 = if K = 0 ∨ 3 < K then failE e0 22 else e0 := ⟨_, rfl⟩
  simp only [← he1] at h ⊢
  obtain ⟨L, a2, e2, hL⟩ : ∃ L b c, textS T a1 e1 1024 = (L, b, c) := ⟨_, _, _, rfl⟩
  simp only [hL] at h ⊢
  obtain ⟨O, a3, e3, hO⟩ : ∃ L b c, optS (bits .and .u8 (K : Int) 1 != 0) T a2 e2 = (L, b, c) := ⟨_, _, _, rfl⟩
  simp only [hO] at h ⊢
  obtain ⟨M, a4, e4, hM⟩ : ∃ L b c, optS (bits .and .u8 (K : Int) 2 != 0) T a3 e3 = (L, b, c) := ⟨_, _, _, rfl⟩
  simp only [hM] at h ⊢
  subst h
  have z3 : e3 = 0 := Classical.byContradiction fun y => opt_bad y (by rw [hM])
  subst z3
  have z2 : e2 = 0 := Classical.byContradiction fun y => opt_bad y (by rw [hO])
  subst z2
  have z1 : e1 = 0 := Classical.byContradiction fun y => text_bad y (by rw [hL])
  subst z1
  have hk : ¬ (K = 0 ∨ 3 < K) := fun x => by
    rw [if_pos x] at he1
    exact fail_zero (by decide) he1.symm
  rw [if_neg hk] at he1
  have q := q0 he1.symm
  have b1 : T.drop a = [(K : Int)] ++ (txB L ++ ((if (bits .and .u8 (K : Int) 1 != 0) then txB O else []) ++ ((if (bits .and .u8 (K : Int) 2 != 0) then txB M else []) ++ T.drop a4))) := by
    rw [q, text_form hb hL, opt_form hb hO, opt_form hb hM]
    simp [txB]
  have hks : K = 1 ∨ K = 2 ∨ K = 3 := by omega
  rcases hks with k | k | k
  · subst k
    rw [b1]
    have x1 : (bits .and .u8 ((1 : Nat) : Int) 1 != 0) = true := by decide
    have x2 : (bits .and .u8 ((1 : Nat) : Int) 2 != 0) = false := by decide
    rw [x1, x2]
    simp [chB, ChS.dt]
  · subst k
    rw [b1]
    have x1 : (bits .and .u8 ((2 : Nat) : Int) 1 != 0) = false := by decide
    have x2 : (bits .and .u8 ((2 : Nat) : Int) 2 != 0) = true := by decide
    rw [x1, x2]
    simp [chB, ChS.dt]
  · subst k
    rw [b1]
    have x1 : (bits .and .u8 ((3 : Nat) : Int) 1 != 0) = true := by decide
    have x2 : (bits .and .u8 ((3 : Nat) : Int) 2 != 0) = true := by decide
    rw [x1, x2]
    simp [chB, ChS.dt]
theorem many_form {T : List Int} : ∀ (n a : Nat) (e : Int), (manyE sumE T n a e).2.2 = 0 → T.drop a = ((manyE sumE T n a e).1.map ints).flatten ++ T.drop (manyE sumE T n a e).2.1 ∧ (manyE sumE T n a e).1.length = n
  | 0, a, e, _ => ⟨rfl, rfl⟩
  | n + 1, a, e, h => by
    by_cases he : e = 0
    · subst he
      rw [manyE_step] at h ⊢
      simp only at h ⊢
      have he2 : (sumE T a 0).2.2 = 0 := Classical.byContradiction fun x => by
        rw [manyE_err x] at h
        exact x h
      obtain ⟨i1, i2⟩ := many_form n _ _ h
      have q := sum_form (T := T) (a := a) he2
      refine ⟨?_, by rw [List.length_cons, i2]⟩
      rw [q]
      show pad 32 (pL T a 0 32) ++ T.drop (sumE T a 0).2.1 = _
      rw [i1, List.map_cons, List.flatten_cons]
      show _ = ints (bs (pad 32 (pL T a 0 32))) ++ _ ++ _
      rw [ints_bs, List.append_assoc]
    · rw [manyE_err he] at h
      exact absurd h he
theorem manyC_form {T : List Int} (hb : Byts T) : ∀ (n a : Nat) (e : Int), (manyC T n a e).2.2 = 0 → T.drop a = ((manyC T n a e).1.map (fun c => chB c.dt)).flatten ++ T.drop (manyC T n a e).2.1 ∧ (manyC T n a e).1.length = n
  | 0, a, e, _ => ⟨rfl, rfl⟩
  | n + 1, a, e, h => by
    by_cases he : e = 0
    · subst he
      rw [manyC_step] at h ⊢
      simp only at h ⊢
      have he2 : (chS T a 0).err = 0 := Classical.byContradiction fun x => by
        rw [manyC_err x] at h
        exact x h
      obtain ⟨i1, i2⟩ := manyC_form hb n _ _ h
      refine ⟨?_, by rw [List.length_cons, i2]⟩
      rw [ch_form hb he2, i1]
      simp
    · rw [manyC_err he] at h
      exact absurd h he
theorem msg_form {T : List Int} (hb : Byts T) {a : Nat} (h : (msgS T a 0).err = 0) : T.drop a = msgB (msgS T a 0) ++ T.drop (msgS T a 0).at_ := by
  unfold msgS at h ⊢
  simp only at h ⊢
  obtain ⟨K, hK⟩ : ∃ K, K = lowN (pL T a 0 1) := ⟨_, rfl⟩
  obtain ⟨a1, ha1⟩ : ∃ a1, a1 = pA T a 0 1 := ⟨_, rfl⟩
  obtain ⟨e1, he1⟩ : ∃ e1, e1 = pE T a 0 1 := ⟨_, rfl⟩
  have q0 : e1 = 0 → T.drop a = [(K : Int)] ++ T.drop a1 := fun e => by
    rw [hK, ha1]
    exact byte_form hb (by rw [← he1]; exact e)
  simp only [← hK, ← ha1, ← he1] at h ⊢
  clear hK ha1 he1
  split at h
  · next c =>
    subst c
    rw [if_pos rfl]
    rw [q0 h]
    simp [msgB]
  next c1 =>
  rw [if_neg c1]
  split at h
  · next c =>
    subst c
    rw [if_pos rfl]
    obtain ⟨U, a2, e2, hU⟩ : ∃ L b c, uintS T a1 e1 maxN = (L, b, c) := ⟨_, _, _, rfl⟩
    simp only [hU] at h ⊢
    have z2 : e2 = 0 := Classical.byContradiction fun y => span_bad y h
    subst z2
    have z1 : e1 = 0 := Classical.byContradiction fun y => uint_bad y (by rw [hU])
    subst z1
    rw [q0 rfl, uint_form hb hU, span_form hb h]
    simp [msgB]
  next c2 =>
  rw [if_neg c2]
  split at h
  · next c =>
    subst c
    rw [if_pos rfl]
    obtain ⟨U, a2, e2, hU⟩ : ∃ L b c, uintS T a1 e1 maxN = (L, b, c) := ⟨_, _, _, rfl⟩
    simp only [hU] at h ⊢
    subst h
    have z1 : e1 = 0 := Classical.byContradiction fun y => uint_bad y (by rw [hU])
    subst z1
    rw [q0 rfl, uint_form hb hU]
    simp [msgB]
  next c3 =>
  rw [if_neg c3]
  split at h
  · next c =>
    subst c
    rw [if_pos rfl]
    obtain ⟨U, a2, e2, hU⟩ : ∃ L b c, uintS T a1 e1 4611686018427387905 = (L, b, c) := ⟨_, _, _, rfl⟩
    simp only [hU] at h ⊢
    subst h
    have z1 : e1 = 0 := Classical.byContradiction fun y => uint_bad y (by rw [hU])
    subst z1
    rw [q0 rfl, uint_form hb hU]
    simp [msgB]
  next c4 =>
  rw [if_neg c4]
  split at h
  · next c =>
    subst c
    rw [if_pos rfl]
    obtain ⟨U, a2, e2, hU⟩ : ∃ L b c, uintS T a1 e1 maxN = (L, b, c) := ⟨_, _, _, rfl⟩
    simp only [hU] at h ⊢
    obtain ⟨V, a3, e3, hV⟩ : ∃ L b c, uintS T a2 e2 maxN = (L, b, c) := ⟨_, _, _, rfl⟩
    simp only [hV] at h ⊢
    subst h
    have z2 : e2 = 0 := Classical.byContradiction fun y => uint_bad y (by rw [hV])
    subst z2
    have z1 : e1 = 0 := Classical.byContradiction fun y => uint_bad y (by rw [hU])
    subst z1
    rw [q0 rfl, uint_form hb hU, uint_form hb hV]
    simp [msgB]
  next c5 =>
  rw [if_neg c5]
  split at h
  · next c =>
    subst c
    rw [if_pos rfl]
    obtain ⟨U, a2, e2, hU⟩ : ∃ L b c, uintS T a1 e1 maxN = (L, b, c) := ⟨_, _, _, rfl⟩
    simp only [hU] at h ⊢
    obtain ⟨V, a3, e3, hV⟩ : ∃ L b c, uintS T (pA T a2 e2 32) (pE T a2 e2 32) maxN = (L, b, c) := ⟨_, _, _, rfl⟩
    simp only [hV] at h ⊢
    obtain ⟨X, a4, e4, hX⟩ : ∃ L b c, uintS T a3 e3 4611686018427387905 = (L, b, c) := ⟨_, _, _, rfl⟩
    simp only [hX] at h ⊢
    have z4 : e4 = 0 := Classical.byContradiction fun y => p_bad2 y h
    subst z4
    have z3 : e3 = 0 := Classical.byContradiction fun y => uint_bad y (by rw [hX])
    subst z3
    have zp : pE T a2 e2 32 = 0 := Classical.byContradiction fun y => uint_bad y (by rw [hV])
    have z2 : e2 = 0 := Classical.byContradiction fun y => p_bad2 y zp
    subst z2
    rw [zp] at hV
    have z1 : e1 = 0 := Classical.byContradiction fun y => uint_bad y (by rw [hU])
    subst z1
    rw [q0 rfl, uint_form hb hU, sum_form zp, uint_form hb hV, uint_form hb hX, sum_form h]
    simp [msgB]
  next c11 =>
  rw [if_neg c11]
  split at h
  · next c =>
    subst c
    rw [if_pos rfl]
    obtain ⟨U, a2, e2, hU⟩ : ∃ L b c, textS T a1 e1 4194304 = (L, b, c) := ⟨_, _, _, rfl⟩
    simp only [hU] at h ⊢
    subst h
    have z1 : e1 = 0 := Classical.byContradiction fun y => text_bad y (by rw [hU])
    subst z1
    rw [q0 rfl, text_form hb hU]
    simp [msgB, txB]
  next c12 =>
  rw [if_neg c12]
  split at h
  · next c =>
    rw [if_pos c]
    obtain ⟨U, a2, e2, hU⟩ : ∃ L b c, uintS T a1 e1 128 = (L, b, c) := ⟨_, _, _, rfl⟩
    simp only [hU] at h ⊢
    have z2 : e2 = 0 := Classical.byContradiction fun y => by
      rw [manyE_err y] at h
      exact y h
    subst z2
    have z1 : e1 = 0 := Classical.byContradiction fun y => uint_bad y (by rw [hU])
    subst z1
    obtain ⟨m1, m2⟩ := many_form _ _ _ h
    rw [q0 rfl, uint_form hb hU, m1]
    simp [msgB, c, c2, c3, c4, c5, c11, c12, m2]
  next c13 =>
  rw [if_neg c13]
  split at h
  · next c =>
    subst c
    rw [if_pos rfl]
    obtain ⟨U, a2, e2, hU⟩ : ∃ L b c, uintS T a1 e1 4194304 = (L, b, c) := ⟨_, _, _, rfl⟩
    simp only [hU] at h ⊢
    have z2 : e2 = 0 := Classical.byContradiction fun y => by
      rw [manyC_err y] at h
      exact y h
    subst z2
    have z1 : e1 = 0 := Classical.byContradiction fun y => uint_bad y (by rw [hU])
    subst z1
    obtain ⟨m1, m2⟩ := manyC_form hb _ _ _ h
    rw [q0 rfl, uint_form hb hU, m1]
    simp [msgB, m2]
  next c15 =>
  rw [if_neg c15]
  split at h
  · next c =>
    subst c
    rw [if_pos rfl]
    obtain ⟨U, a2, e2, hU⟩ : ∃ L b c, uintS T a1 e1 999 = (L, b, c) := ⟨_, _, _, rfl⟩
    simp only [hU] at h ⊢
    subst h
    have z1 : e1 = 0 := Classical.byContradiction fun y => uint_bad y (by rw [hU])
    subst z1
    rw [q0 rfl, uint_form hb hU]
    simp [msgB]
  · exact (fail_zero (by decide) h).elim
/-- One form: what is taken is just what would be written. -/
theorem msg_whole {T : List Int} (hb : Byts T) (h : msgE T = 0) : T = msgB (msgS T 0 0) := by
  unfold msgE at h
  have he : (msgS T 0 0).err = 0 := Classical.byContradiction fun x => by
    rw [endE_err x] at h
    exact x h
  rw [he] at h
  have hl : ¬ (msgS T 0 0).at_ < T.length := fun x => by
    rw [endE_yes x] at h
    exact absurd h (by decide)
  have q := msg_form hb he
  rw [List.drop_zero, List.drop_of_length_le (l := T) (i := (msgS T 0 0).at_) (by omega), List.append_nil] at q
  exact q
end Go.Proofs.Ytdofgphokdgjiaa
