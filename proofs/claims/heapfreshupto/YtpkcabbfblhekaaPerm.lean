/-
  What a heap holds, as a permutation; the first thing of a list in the order of coming is the heap's first.
-/
import Derived.Test.YtpkcabbfblhekaaPure
namespace Go.Proofs.Ytpkcabbfblhekaa

theorem sw_perm {H : List E} {i j : Nat} (hi : i < H.length) (hj : j < H.length) : (sw H i j).Perm H := by
  have h := Array.swap_perm (xs := H.toArray) (i := i) (j := j) (by simpa using hi) (by simpa using hj)
  have e : (H.toArray.swap i j (by simpa using hi) (by simpa using hj)).toList = sw H i j := by
    unfold sw nth
    simp [Array.swap, List.getD_eq_getElem?_getD, hi, hj]
  have h2 := Array.perm_iff_toList_perm.1 h
  rw [e] at h2
  simpa using h2
theorem riseF_perm (od : E → E → Int) : ∀ (f i : Nat) (H : List E), i < H.length → (riseF od f i H).1.Perm H
  | 0, _, _, _ => List.Perm.refl _
  | f + 1, i, H, hi => by
    unfold riseF
    split
    · exact List.Perm.refl _
    · split
      · exact (riseF_perm od f _ _ (by rw [sw_len]; omega)).trans (sw_perm hi (by omega))
      · exact List.Perm.refl _
theorem sinkF_perm (od : E → E → Int) : ∀ (f i : Nat) (H : List E), i < H.length → (sinkF od f i H).1.Perm H
  | 0, _, _, _ => List.Perm.refl _
  | f + 1, i, H, hi => by
    rw [sinkF]
    split
    · exact List.Perm.refl _
    · rename_i h0
      split
      · exact (sinkF_perm od f _ _ (by rw [sw_len]; exact kidOf_lt od h0)).trans (sw_perm hi (kidOf_lt od h0))
      · exact List.Perm.refl _
theorem push1_perm (od : E → E → Int) (H : List E) (came : Nat) (a : Int × Int) : (push1 od H came a).1.Perm (H ++ [⟨a.1, a.2, (came : Int) + 1⟩]) :=
  riseF_perm od _ _ _ (by simp)
theorem popT_perm {H : List E} {m : Nat} (h : H.length = m + 1) : H.Perm (nth H 0 :: popT H m) := by
  match H, h with
  | a :: T, h =>
    have hT : T.length = m := by simpa using h
    have e0 : nth (a :: T) 0 = a := rfl
    rw [e0]
    refine List.Perm.cons a ?_
    unfold popT
    rw [List.set_cons_zero]
    cases m with
    | zero =>
      have : T = [] := List.eq_nil_of_length_eq_zero hT
      rw [this]; exact List.Perm.refl _
    | succ m =>
      rw [List.take_succ_cons]
      have e1 : nth (a :: T) (m + 1) = T[m]'(by omega) := by unfold nth; simp [List.getD_eq_getElem?_getD, hT]
      rw [e1]
      have e2 : T = T.take m ++ [T[m]'(by omega)] := by
        have := List.take_append_drop m T
        rw [List.drop_eq_getElem_cons (by omega), List.drop_eq_nil_of_le (by omega)] at this
        exact this.symm
      have e3 : (T.take m ++ [T[m]'(by omega)]).Perm (T[m]'(by omega) :: T.take m) := List.perm_append_singleton _ _
      exact (List.Perm.of_eq e2).trans e3
theorem popF_perm (od : E → E → Int) {H : List E} (h : 0 < H.length) : H.Perm (nth H 0 :: (popF od H).1) := by
  obtain ⟨m, hm⟩ : ∃ m, H.length = m + 1 := ⟨H.length - 1, by omega⟩
  have h1 := popT_perm hm
  refine h1.trans (List.Perm.cons _ ?_)
  unfold popF
  rw [hm, Nat.add_sub_cancel]
  rcases Nat.eq_zero_or_pos m with h0 | h0
  · subst h0
    rw [sinkF_end od (by rw [popT_len hm]; omega)]
  · exact (sinkF_perm od _ _ _ (by rw [popT_len hm]; exact h0)).symm
theorem swapF_perm (od : E → E → Int) {H : List E} (h : 0 < H.length) (e : E) : ∃ X, H.Perm (nth H 0 :: X) ∧ (swapF od H e).1.Perm (e :: X) := by
  match H, h with
  | a :: T, _ =>
    exact ⟨T, List.Perm.refl _, sinkF_perm od _ _ _ (by simp)⟩

/-- The order of a heap without a compare. -/
def odN : E → E → Int := fun a b => cmpI a.num b.num
def odB (all : Bool) : E → E → Int := if all then odN else odF (fun a b => cmpI a.k b.k)
theorem lt_B (all : Bool) (a b : E) : lt (odB all) a b = decide ((all = false ∧ a.k < b.k) ∨ ((all = true ∨ a.k = b.k) ∧ a.num < b.num)) := by
  unfold lt odB
  apply decide_eq_decide.2
  cases all with
  | true =>
    simp only [if_true]
    unfold odN
    by_cases h3 : a.num < b.num
    · rw [cmpI_lt h3]; simp [h3]
    · by_cases h4 : b.num < a.num
      · rw [cmpI_gt h4]; simp; omega
      · rw [cmpI_eq h3 h4]; simp; omega
  | false =>
    simp only [Bool.false_eq_true, if_false]
    unfold odF
    by_cases h1 : a.k < b.k
    · simp only [cmpI_lt h1]; simp; omega
    · by_cases h2 : b.k < a.k
      · simp only [cmpI_gt h2]; simp; omega
      · simp only [cmpI_eq h1 h2, if_true]
        by_cases h3 : a.num < b.num
        · rw [cmpI_lt h3]; simp; omega
        · by_cases h4 : b.num < a.num
          · rw [cmpI_gt h4]; simp; omega
          · rw [cmpI_eq h3 h4]; simp; omega
theorem tot_B (all : Bool) : Tot (odB all) := by
  refine ⟨fun a b h => ?_, fun a b c h1 h2 => ?_⟩
  · rw [lt_B] at h ⊢
    have h := of_decide_eq_true h
    refine decide_eq_false ?_
    cases all <;> simp at h ⊢ <;> omega
  · rw [lt_B] at h1 h2 ⊢
    have h1 := of_decide_eq_false h1
    have h2 := of_decide_eq_false h2
    refine decide_eq_false ?_
    cases all <;> simp at h1 h2 ⊢ <;> omega

/-- Does a go ahead of b? -/
def bef (all : Bool) (a b : Int × Int) : Bool := !all && decide (a.1 < b.1)
def tnth (l : List (Int × Int)) (i : Nat) : Int × Int := l.getD i (0, 0)
/-- The place of the first thing among the first n. -/
def firstU (all : Bool) (l : List (Int × Int)) : Nat → Int
  | 0 => -1
  | i + 1 => if firstU all l i < 0 ∨ bef all (tnth l i) (tnth l (firstU all l i).toNat) = true then (i : Int) else firstU all l i

theorem firstU_spec (all : Bool) (l : List (Int × Int)) : ∀ n, 0 < n → ∃ m : Nat, firstU all l n = (m : Int) ∧ m < n ∧ (∀ j, j < n → bef all (tnth l j) (tnth l m) = false) ∧ (∀ j, j < m → bef all (tnth l m) (tnth l j) = true)
  | 0, h => absurd h (by omega)
  | 1, _ => ⟨0, by simp [firstU], by omega, fun j hj => by
      have : j = 0 := by omega
      subst this; simp [bef], fun j hj => by omega⟩
  | n + 2, _ => by
    obtain ⟨m, h1, h2, h3, h4⟩ := firstU_spec all l (n + 1) (by omega)
    rw [firstU, h1]
    by_cases hb : bef all (tnth l (n + 1)) (tnth l m) = true
    · refine ⟨n + 1, by rw [if_pos (.inr (by simpa using hb))], by omega, fun j hj => ?_, fun j hj => ?_⟩
      · by_cases hj1 : j = n + 1
        · subst hj1; simp [bef]
        · have := h3 j (by omega)
          unfold bef at this hb ⊢
          cases all <;> simp at this hb ⊢
          omega
      · have := h3 j (by omega)
        unfold bef at this hb ⊢
        cases all <;> simp at this hb ⊢
        omega
    · refine ⟨m, by rw [if_neg (by rintro (h | h); omega; exact hb (by simpa using h))], by omega, fun j hj => ?_, h4⟩
      by_cases hj1 : j = n + 1
      · subst hj1; simpa using hb
      · exact h3 j (by omega)

/-- The law's own list l, in the order of coming: the heap's things H by their numbers. -/
structure Follows (H : List E) (came : Nat) (l : List (Int × Int)) (R : List E) : Prop where
  perm : H.Perm R
  list : R.map E.th = l
  inc : R.Pairwise (fun a b => a.num < b.num)
  low : ∀ e ∈ R, e.num ≤ (came : Int)

theorem Follows.len {H : List E} {came : Nat} {l : List (Int × Int)} {R : List E} (h : Follows H came l R) : H.length = l.length := by rw [h.perm.length_eq, ← h.list, List.length_map]
theorem Follows.nil : Follows [] 0 [] [] := ⟨List.Perm.refl _, rfl, List.Pairwise.nil, fun _ h => by cases h⟩

theorem th_nth {R : List E} {i : Nat} (h : i < R.length) : tnth (R.map E.th) i = (nth R i).th := by
  unfold tnth nth
  rw [List.getD_eq_getElem?_getD, List.getD_eq_getElem?_getD, List.getElem?_map, List.getElem?_eq_getElem h]; rfl
theorem nth_inc {R : List E} (h : R.Pairwise (fun a b => a.num < b.num)) {i j : Nat} (hij : i < j) (hj : j < R.length) : (nth R i).num < (nth R j).num := by
  have hi : i < R.length := by omega
  have := List.pairwise_iff_getElem.1 h i j hi hj hij
  unfold nth
  rw [List.getD_eq_getElem?_getD, List.getD_eq_getElem?_getD, List.getElem?_eq_getElem hi, List.getElem?_eq_getElem hj]
  exact this

/-- THE HEAP's FIRST IS THE LIST's FIRST. -/
theorem Follows.first {all : Bool} {H : List E} {came : Nat} {l : List (Int × Int)} {R : List E} (h : Follows H came l R) (ho : HO (odB all) H) (hl : 0 < l.length) :
    ∃ m : Nat, firstU all l l.length = (m : Int) ∧ m < R.length ∧ nth H 0 = nth R m := by
  obtain ⟨m, h1, h2, h3, h4⟩ := firstU_spec all l l.length hl
  have hRl : R.length = l.length := by rw [← h.list, List.length_map]
  have hHl := h.len
  refine ⟨m, h1, by omega, ?_⟩
  have hmem : nth H 0 ∈ R := h.perm.mem_iff.1 (nth_mem (by omega))
  obtain ⟨r, hr, er⟩ := List.mem_iff_getElem.1 hmem
  have er' : nth R r = nth H 0 := by unfold nth at er ⊢; rw [List.getD_eq_getElem?_getD, List.getElem?_eq_getElem hr]; exact er
  rw [← er']
  by_cases hrm : r = m
  · rw [hrm]
  · exfalso
    -- the heap's first goes not behind R m
    have hmH : nth R m ∈ H := h.perm.mem_iff.2 (nth_mem (by omega))
    obtain ⟨i, hi, ei⟩ := List.mem_iff_getElem.1 hmH
    have ei' : nth H i = nth R m := by unfold nth at ei ⊢; rw [List.getD_eq_getElem?_getD, List.getElem?_eq_getElem hi]; exact ei
    have hf := ho.first (tot_B all) i hi
    rw [ei', ← er', lt_B] at hf
    have hf := of_decide_eq_false hf
    have b1 := h3 r (by omega)
    rw [← h.list, th_nth (by omega), th_nth (by omega)] at b1
    unfold bef E.th at b1
    rcases Nat.lt_or_gt_of_ne hrm with hlt | hgt
    · have b2 := h4 r hlt
      rw [← h.list, th_nth (by omega), th_nth (by omega)] at b2
      unfold bef E.th at b2
      cases all <;> simp at b1 b2 hf
      omega
    · have hn := nth_inc h.inc hgt (by omega)
      cases all <;> simp at b1 hf
      · omega
      · omega

/-- A list but for its place i. -/
def wo {α : Type} (l : List α) (i : Nat) : List α := l.take i ++ l.drop (i + 1)
theorem wo_map (R : List E) (m : Nat) : (wo R m).map E.th = wo (R.map E.th) m := by unfold wo; rw [List.map_append, List.map_take, List.map_drop]
theorem wo_split {R : List E} {m : Nat} (hm : m < R.length) : R = R.take m ++ R[m] :: R.drop (m + 1) := by
  have := List.take_append_drop m R
  rw [List.drop_eq_getElem_cons hm] at this
  exact this.symm
theorem wo_sub {R : List E} {m : Nat} (hm : m < R.length) : (wo R m).Sublist R := by
  have h : (wo R m).Sublist (R.take m ++ R[m] :: R.drop (m + 1)) := List.Sublist.append (List.Sublist.refl _) (List.sublist_cons_self _ _)
  rwa [← wo_split hm] at h

theorem Follows.pop {H H' : List E} {came : Nat} {l : List (Int × Int)} {R : List E} (h : Follows H came l R) {m : Nat} (hm : m < R.length) {x : E} (hx : x = nth R m) (hp : H.Perm (x :: H')) : Follows H' came (wo l m) (wo R m) := by
  have hR : R.Perm (x :: wo R m) := by
    have h1 : x = R[m] := by rw [hx]; unfold nth; rw [List.getD_eq_getElem?_getD, List.getElem?_eq_getElem hm]; rfl
    rw [h1]
    exact (List.Perm.of_eq (wo_split hm)).trans List.perm_middle
  refine ⟨List.Perm.cons_inv (hp.symm.trans (h.perm.trans hR)), by rw [← h.list, wo_map], h.inc.sublist (wo_sub hm), fun e he => h.low e ((wo_sub hm).mem he)⟩

theorem Follows.push {H H' : List E} {came : Nat} {l : List (Int × Int)} {R : List E} (h : Follows H came l R) (a : Int × Int) (hp : H'.Perm (H ++ [⟨a.1, a.2, (came : Int) + 1⟩])) : Follows H' (came + 1) (l ++ [a]) (R ++ [⟨a.1, a.2, (came : Int) + 1⟩]) := by
  refine ⟨hp.trans (h.perm.append_right _), by rw [List.map_append, h.list]; rfl, ?_, fun e he => ?_⟩
  · rw [List.pairwise_append]
    refine ⟨h.inc, List.pairwise_singleton _ _, fun x hx y hy => ?_⟩
    have : y = ⟨a.1, a.2, (came : Int) + 1⟩ := by simpa using hy
    subst this
    have := h.low x hx
    show x.num < (came : Int) + 1
    omega
  · rcases List.mem_append.1 he with he | he
    · have := h.low e he; omega
    · have : e = ⟨a.1, a.2, (came : Int) + 1⟩ := by simpa using he
      subst this
      show (came : Int) + 1 ≤ ((came + 1 : Nat) : Int)
      omega
theorem Follows.pushes (od : E → E → Int) : ∀ (L : List (Int × Int)) {H : List E} {came : Nat} {l : List (Int × Int)} {R : List E}, Follows H came l R → ∃ R', Follows (pushF od L H came).1 (came + L.length) (l ++ L) R'
  | [], _, _, _, R, h => ⟨R, by simpa [pushF] using h⟩
  | a :: L, H, came, l, R, h => by
    obtain ⟨R', h'⟩ := Follows.pushes od L (h.push a (push1_perm od H came a))
    refine ⟨R', ?_⟩
    have e1 : came + (a :: L).length = came + 1 + L.length := by simp; omega
    have e2 : l ++ a :: L = l ++ [a] ++ L := by simp
    rw [e1, e2]
    exact h'

end Go.Proofs.Ytpkcabbfblhekaa
