/-
  Sorted lists: what draining a heap gives, and the k least of a list.
-/
import Derived.Test.YtpkcabbfblhekaaLeB
namespace Go.Proofs.Ytpkcabbfblhekaa

/-- In order. -/
def Srt (od : E → E → Int) (l : List E) : Prop := l.Pairwise (fun a b => lt od b a = false)

theorem srt_unique {od : E → E → Int} : ∀ {l1 l2 : List E}, l1.Perm l2 → Srt od l1 → Srt od l2 → (∀ a ∈ l1, ∀ b ∈ l1, lt od a b = false → lt od b a = false → a = b) → l1 = l2
  | [], l2, hp, _, _, _ => by rw [List.nil_perm.1 hp]
  | a :: t1, [], hp, _, _, _ => by have := hp.length_eq; simp at this
  | a :: t1, b :: t2, hp, h1, h2, anti => by
    have h1' := List.pairwise_cons.1 h1
    have h2' := List.pairwise_cons.1 h2
    have hab : a = b := by
      have ha : a ∈ b :: t2 := hp.mem_iff.1 List.mem_cons_self
      have hb : b ∈ a :: t1 := hp.mem_iff.2 List.mem_cons_self
      rcases List.mem_cons.1 ha with e | ha
      · exact e
      · rcases List.mem_cons.1 hb with e | hb
        · exact e.symm
        · exact anti a List.mem_cons_self b (List.mem_cons_of_mem _ hb) (h2'.1 a ha) (h1'.1 b hb)
    subst hab
    rw [srt_unique (List.Perm.cons_inv hp) h1'.2 h2'.2 (fun x hx y hy => anti x (List.mem_cons_of_mem _ hx) y (List.mem_cons_of_mem _ hy))]

/-- The heap's things, one by one, with their numbers. -/
def drE (od : E → E → Int) : Nat → List E → List E
  | 0, _ => []
  | m + 1, H => nth H 0 :: drE od m (popF od H).1
theorem drF_E (od : E → E → Int) : ∀ (m : Nat) (H : List E), (drF od m H).1 = (drE od m H).map E.th
  | 0, _ => rfl
  | m + 1, H => by simp [drF, drE, drF_E od m]
theorem drE_perm (od : E → E → Int) : ∀ (m : Nat) (H : List E), H.length = m → (drE od m H).Perm H
  | 0, H, h => by rw [List.eq_nil_of_length_eq_zero h]; exact List.Perm.refl _
  | m + 1, H, h => by
    have h1 := drE_perm od m (popF od H).1 (by rw [popF_len]; omega)
    exact (h1.cons _).trans (popF_perm od (by omega)).symm
theorem drE_srt {od : E → E → Int} (T : Tot od) : ∀ (m : Nat) (H : List E), H.length = m → HO od H → Srt od (drE od m H)
  | 0, _, _, _ => List.Pairwise.nil
  | m + 1, H, h, ho => by
    have hl : (popF od H).1.length = m := by rw [popF_len]; omega
    refine List.pairwise_cons.2 ⟨fun b hb => ?_, drE_srt T m _ hl (popF_HO T ho (by omega))⟩
    have hb' : b ∈ H := popF_mem od ((drE_perm od m _ hl).mem_iff.1 hb)
    obtain ⟨i, hi, ei⟩ := List.mem_iff_getElem.1 hb'
    have := ho.first T i hi
    unfold nth at this ⊢
    rw [List.getD_eq_getElem?_getD, List.getElem?_eq_getElem hi] at this
    rw [← ei]
    exact this

/-- Things in the order of their coming, with their numbers from b on. -/
def xs : Int → List (Int × Int) → List E
  | _, [] => []
  | b, a :: L => ⟨a.1, a.2, b⟩ :: xs (b + 1) L
theorem xs_low : ∀ (b : Int) (L : List (Int × Int)), ∀ e ∈ xs b L, b ≤ e.num
  | _, [], _, h => by simp [xs] at h
  | b, a :: L, e, h => by
    rcases List.mem_cons.1 h with rfl | h
    · exact Int.le_refl _
    · have := xs_low (b + 1) L e h; omega
theorem xs_inc : ∀ (b : Int) (L : List (Int × Int)), (xs b L).Pairwise (fun x y => x.num < y.num)
  | _, [] => List.Pairwise.nil
  | b, a :: L => List.pairwise_cons.2 ⟨fun e he => by have := xs_low (b + 1) L e he; show b < e.num; omega, xs_inc (b + 1) L⟩
theorem xs_app : ∀ (b : Int) (L M : List (Int × Int)), xs b (L ++ M) = xs b L ++ xs (b + L.length) M
  | b, [], M => by simp [xs]
  | b, a :: L, M => by
    rw [List.cons_append, xs, xs, xs_app (b + 1) L M, List.cons_append]
    congr 3
    simp
    omega
theorem xs_len : ∀ (b : Int) (L : List (Int × Int)), (xs b L).length = L.length
  | _, [] => rfl
  | b, a :: L => by simp [xs, xs_len (b + 1) L]

theorem num_inj : ∀ {l : List E}, l.Pairwise (fun x y => x.num < y.num) → ∀ a ∈ l, ∀ b ∈ l, a.num = b.num → a = b
  | [], _, a, ha, _, _, _ => by cases ha
  | x :: l, h, a, ha, b, hb, e => by
    obtain ⟨h1, h2⟩ := List.pairwise_cons.1 h
    rcases List.mem_cons.1 ha with ea | ma
    · rcases List.mem_cons.1 hb with eb | mb
      · rw [ea, eb]
      · have := h1 b mb
        rw [ea] at e
        omega
    · rcases List.mem_cons.1 hb with eb | mb
      · have := h1 a ma
        rw [eb] at e
        omega
      · exact num_inj h2 a ma b mb e

theorem pushF_xs (od : E → E → Int) : ∀ (L : List (Int × Int)) (H : List E) (came : Nat), (pushF od L H came).1.Perm (H ++ xs ((came : Int) + 1) L)
  | [], H, came => by simp [pushF, xs]
  | a :: L, H, came => by
    have h1 := pushF_xs od L (push1 od H came a).1 (came + 1)
    have h2 := push1_perm od H came a
    have e : (((came + 1 : Nat)) : Int) + 1 = (came : Int) + 1 + 1 := by omega
    rw [e] at h1
    refine h1.trans ((h2.append_right _).trans ?_)
    rw [List.append_assoc]
    exact List.Perm.refl _

theorem anti_B (all : Bool) {a b : E} (h1 : lt (odB all) a b = false) (h2 : lt (odB all) b a = false) : a.num = b.num := by
  rw [lt_B] at h1 h2
  have h1 := of_decide_eq_false h1
  have h2 := of_decide_eq_false h2
  cases all <;> simp at h1 h2 <;> omega

def sh (e : E) : E := ⟨e.k, e.n, e.num + 1⟩
theorem lt_sh (all : Bool) (a b : E) : lt (odB all) (sh a) (sh b) = lt (odB all) a b := by
  rw [lt_B, lt_B]
  apply decide_eq_decide.2
  unfold sh
  simp
theorem xs_sh : ∀ (b : Int) (L : List (Int × Int)), (xs b L).map sh = xs (b + 1) L
  | _, [] => rfl
  | b, a :: L => by rw [xs, xs, List.map_cons, xs_sh (b + 1) L]; rfl

/-- What Sort gives: a sorted list of all. -/
theorem sort_is (all : Bool) (L : List (Int × Int)) {s : List E} (hp : s.Perm (xs 0 L)) (hs : Srt (odB all) s) : (drF (odB all) L.length (pushF (odB all) L [] 0).1).1 = s.map E.th := by
  have hl : (pushF (odB all) L [] 0).1.length = L.length := by rw [pushF_len]; simp
  have h1 := drE_perm (odB all) L.length (pushF (odB all) L [] 0).1 hl
  have h2 := pushF_xs (odB all) L [] 0
  have h3 : (s.map sh).Perm (drE (odB all) L.length (pushF (odB all) L [] 0).1) := by
    refine ((hp.map sh).trans ?_).trans (h1.trans h2).symm
    rw [xs_sh]
    exact List.Perm.refl _
  have h4 : Srt (odB all) (s.map sh) := by
    unfold Srt
    rw [List.pairwise_map]
    exact hs.imp (fun {a b} h => by rw [lt_sh]; exact h)
  have h5 := drE_srt (tot_B all) L.length _ hl (pushF_HO (tot_B all) L 0 (HO.nil _))
  have h6 : s.map sh = drE (odB all) L.length (pushF (odB all) L [] 0).1 := by
    refine srt_unique h3 h4 h5 (fun a ha b hb q1 q2 => ?_)
    have ma : a ∈ xs (0 + 1) L := by rw [← xs_sh]; exact (hp.map sh).mem_iff.1 ha
    have mb : b ∈ xs (0 + 1) L := by rw [← xs_sh]; exact (hp.map sh).mem_iff.1 hb
    exact num_inj (xs_inc _ L) a ma b mb (anti_B all q1 q2)
  rw [drF_E, ← h6, List.map_map]
  rfl

namespace V

theorem lt_back {od : Go.Proofs.Ytpkcabbfblhekaa.E → Go.Proofs.Ytpkcabbfblhekaa.E → Int} {a b : E} (h : lt (odF (odBk od)) a b = false) : Go.Proofs.Ytpkcabbfblhekaa.lt od b.inn a.inn = false := by
  unfold lt odF odBk at h
  unfold Go.Proofs.Ytpkcabbfblhekaa.lt
  have h := of_decide_eq_false h
  refine decide_eq_false (fun hn => h ?_)
  rw [if_neg (by omega)]
  exact hn

theorem lt_V (all : Bool) (a b : E) : lt (odF (odBk (odB all))) a b = decide ((all = false ∧ b.k < a.k) ∨ ((all = true ∨ a.k = b.k) ∧ (b.i < a.i ∨ (a.i = b.i ∧ a.num < b.num)))) := by
  unfold lt odF odBk odB
  apply decide_eq_decide.2
  cases all with
  | true =>
    simp only [if_true]
    unfold odN E.inn
    simp only
    by_cases h3 : b.i < a.i
    · rw [cmpI_lt h3]; simp; omega
    · by_cases h4 : a.i < b.i
      · rw [cmpI_gt h4]; simp; omega
      · rw [cmpI_eq h3 h4]
        simp only [if_true]
        by_cases h5 : a.num < b.num
        · rw [cmpI_lt h5]; simp; omega
        · by_cases h6 : b.num < a.num
          · rw [cmpI_gt h6]; simp; omega
          · rw [cmpI_eq h5 h6]; simp; omega
  | false =>
    simp only [Bool.false_eq_true, if_false]
    unfold Go.Proofs.Ytpkcabbfblhekaa.odF E.inn
    simp only
    by_cases h1 : b.k < a.k
    · simp only [cmpI_lt h1]; simp; omega
    · by_cases h2 : a.k < b.k
      · simp only [cmpI_gt h2]; simp; omega
      · simp only [cmpI_eq h1 h2, if_true]
        by_cases h3 : b.i < a.i
        · rw [cmpI_lt h3]; simp; omega
        · by_cases h4 : a.i < b.i
          · rw [cmpI_gt h4]; simp; omega
          · rw [cmpI_eq h3 h4]
            simp only [if_true]
            by_cases h5 : a.num < b.num
            · rw [cmpI_lt h5]; simp; omega
            · by_cases h6 : b.num < a.num
              · rw [cmpI_gt h6]; simp; omega
              · rw [cmpI_eq h5 h6]; simp; omega

theorem tot_V (all : Bool) : Tot (odF (odBk (odB all))) := by
  refine ⟨fun a b h => ?_, fun a b c h1 h2 => ?_⟩
  · rw [lt_V] at h ⊢
    have h := of_decide_eq_true h
    refine decide_eq_false ?_
    cases all <;> simp at h ⊢ <;> omega
  · rw [lt_V] at h1 h2 ⊢
    have h1 := of_decide_eq_false h1
    have h2 := of_decide_eq_false h2
    refine decide_eq_false ?_
    cases all <;> simp at h1 h2 ⊢ <;> omega

/-- The heap's things, one by one, with their numbers. -/
def drE (od : E → E → Int) : Nat → List E → List E
  | 0, _ => []
  | m + 1, H => nth H 0 :: drE od m (popF od H).1
theorem drF_E (od : E → E → Int) : ∀ (m : Nat) (H : List E), (drF od m H).1 = (drE od m H).map E.th
  | 0, _ => rfl
  | m + 1, H => by simp [drF, drE, drF_E od m]
theorem drE_perm (od : E → E → Int) : ∀ (m : Nat) (H : List E), H.length = m → (drE od m H).Perm H
  | 0, H, h => by rw [List.eq_nil_of_length_eq_zero h]; exact List.Perm.refl _
  | m + 1, H, h => by
    have h1 := drE_perm od m (popF od H).1 (by rw [popF_len]; omega)
    exact (h1.cons _).trans (popF_perm od (by omega)).symm
theorem drE_srt {od : E → E → Int} (T : Tot od) : ∀ (m : Nat) (H : List E), H.length = m → HO od H → (drE od m H).Pairwise (fun a b => lt od b a = false)
  | 0, _, _, _ => List.Pairwise.nil
  | m + 1, H, h, ho => by
    have hl : (popF od H).1.length = m := by rw [popF_len]; omega
    refine List.pairwise_cons.2 ⟨fun b hb => ?_, drE_srt T m _ hl (popF_HO T ho (by omega))⟩
    have hb' : b ∈ H := popF_mem od ((drE_perm od m _ hl).mem_iff.1 hb)
    obtain ⟨i, hi, ei⟩ := List.mem_iff_getElem.1 hb'
    have := ho.first T i hi
    unfold nth at this ⊢
    rw [List.getD_eq_getElem?_getD, List.getElem?_eq_getElem hi] at this
    rw [← ei]
    exact this

/-- The k least of the things that came. -/
structure LS (all : Bool) (k : Nat) (X : List Go.Proofs.Ytpkcabbfblhekaa.E) (H : List E) : Prop where
  ho : HO (odF (odBk (odB all))) H
  len : H.length = min k X.length
  sp : ∃ Y : List Go.Proofs.Ytpkcabbfblhekaa.E, X.Perm (H.map E.inn ++ Y) ∧ ∀ h ∈ H.map E.inn, ∀ y ∈ Y, Go.Proofs.Ytpkcabbfblhekaa.lt (odB all) y h = false

theorem LS.root {all : Bool} {k : Nat} {X : List Go.Proofs.Ytpkcabbfblhekaa.E} {H : List E} (h : LS all k X H) : ∀ e ∈ H.map E.inn, Go.Proofs.Ytpkcabbfblhekaa.lt (odB all) (nth H 0).inn e = false := fun e he => by
  obtain ⟨d, hd, rfl⟩ := List.mem_map.1 he
  obtain ⟨i, hi, ei⟩ := List.mem_iff_getElem.1 hd
  have := h.ho.first (tot_V all) i hi
  have e2 : nth H i = d := by unfold nth; rw [List.getD_eq_getElem?_getD, List.getElem?_eq_getElem hi]; exact ei
  rw [e2] at this
  exact lt_back this

theorem LS.lb {all : Bool} (k : Nat) : ∀ (L P : List (Int × Int)) (H : List E) (came : Nat), LS all k (xs 0 P) H → LS all k (xs 0 (P ++ L)) (lbF (odB all) k L P.length H came).1
  | [], P, H, came, h => by simpa [lbF] using h
  | a :: L, P, H, came, h => by
    have hX : xs 0 (P ++ [a]) = xs 0 P ++ [⟨a.1, a.2, (P.length : Int)⟩] := by rw [xs_app]; simp [xs]
    have hXl := xs_len 0 P
    have hgo : ∀ H' : List E, ∀ came' : Nat, LS all k (xs 0 (P ++ [a])) H' → LS all k (xs 0 (P ++ a :: L)) (lbF (odB all) k L (P.length + 1) H' came').1 := fun H' came' h' => by
      have := LS.lb k L (P ++ [a]) H' came' h'
      rw [List.append_assoc, List.length_append] at this
      exact this
    obtain ⟨Y, hp, hy⟩ := h.sp
    have hlen := h.len
    have hpl := hp.length_eq
    rw [List.length_append, List.length_map] at hpl
    unfold lbF
    split
    · rename_i hlt
      refine hgo _ _ ⟨pushF_HO (tot_V all) _ came h.ho, ?_, ?_⟩
      · rw [pushF_len, hX, List.length_append, List.length_singleton, List.length_singleton]; omega
      · have hY : Y = [] := List.eq_nil_of_length_eq_zero (by omega)
        subst hY
        have q : (pushF (odF (odBk (odB all))) [(a.1, a.2, (P.length : Int))] H came).1.Perm (H ++ [⟨a.1, a.2, (P.length : Int), (came : Int) + 1⟩]) := push1_perm _ H came (a.1, a.2, (P.length : Int))
        refine ⟨[], ?_, fun _ _ y hy => by cases hy⟩
        rw [List.append_nil] at hp ⊢
        rw [hX]
        refine (hp.append_right _).trans ?_
        have := (q.map E.inn).symm
        rw [List.map_append] at this
        exact this
    · rename_i hlt
      have hHk : H.length = k := by omega
      split
      · rename_i hc
        by_cases hk0 : k = 0
        · -- nothing is kept
          have hH : H = [] := List.eq_nil_of_length_eq_zero (by omega)
          subst hH
          refine hgo _ _ ⟨?_, ?_, ?_⟩
          · intro j _ hj
            rw [swapF_len] at hj
            simp at hj
          · rw [swapF_len, hX, List.length_append]; simp; omega
          · refine ⟨Y ++ [⟨a.1, a.2, (P.length : Int)⟩], ?_, ?_⟩
            · have e : (swapF (odF (odBk (odB all))) [] ⟨a.1, a.2, (P.length : Int), (came : Int) + 1⟩).1 = [] := List.eq_nil_of_length_eq_zero (by rw [swapF_len]; rfl)
              rw [e, hX]
              exact hp.append_right _
            · have e : (swapF (odF (odBk (odB all))) [] ⟨a.1, a.2, (P.length : Int), (came : Int) + 1⟩).1 = [] := List.eq_nil_of_length_eq_zero (by rw [swapF_len]; rfl)
              rw [e]
              intro h hh
              cases hh
        · have h0 : 0 < H.length := by omega
          obtain ⟨Z, z1, z2⟩ := swapF_perm (odF (odBk (odB all))) h0 ⟨a.1, a.2, (P.length : Int), (came : Int) + 1⟩
          have hroot := h.root
          refine hgo _ _ ⟨swapF_HO (tot_V all) h.ho h0 _, ?_, ?_⟩
          · rw [swapF_len, hX, List.length_append, List.length_singleton]; omega
          · refine ⟨(nth H 0).inn :: Y, ?_, ?_⟩
            · rw [hX]
              have w1 : (H.map E.inn).Perm ((nth H 0).inn :: Z.map E.inn) := z1.map E.inn
              have w2 : ((swapF (odF (odBk (odB all))) H ⟨a.1, a.2, (P.length : Int), (came : Int) + 1⟩).1.map E.inn).Perm (⟨a.1, a.2, (P.length : Int)⟩ :: Z.map E.inn) := z2.map E.inn
              refine ((hp.trans (w1.append_right Y)).append_right _).trans ?_
              refine List.Perm.trans ?_ (w2.append_right _).symm
              rw [List.cons_append, List.cons_append, List.cons_append]
              refine ((List.perm_append_comm (l₁ := Z.map E.inn ++ Y) (l₂ := [⟨a.1, a.2, (P.length : Int)⟩])).cons _).trans ?_
              have m1 : ((nth H 0).inn :: (Z.map E.inn ++ Y)).Perm (Z.map E.inn ++ (nth H 0).inn :: Y) := List.perm_middle.symm
              exact (List.Perm.swap _ _ (Z.map E.inn ++ Y)).trans (m1.cons _)
            · intro e he y hy'
              have he' : e ∈ (⟨a.1, a.2, (P.length : Int)⟩ : Go.Proofs.Ytpkcabbfblhekaa.E) :: Z.map E.inn := (z2.map E.inn).mem_iff.1 he
              have hZ : ∀ d ∈ Z.map E.inn, d ∈ H.map E.inn := fun d hd => (z1.map E.inn).mem_iff.2 (List.mem_cons_of_mem _ hd)
              have hr0 : (nth H 0).inn ∈ H.map E.inn := (z1.map E.inn).mem_iff.2 List.mem_cons_self
              rcases List.mem_cons.1 he' with rfl | he'
              · have hx : Go.Proofs.Ytpkcabbfblhekaa.lt (odB all) (nth H 0).inn ⟨a.1, a.2, (P.length : Int)⟩ = false := (tot_B all).asym _ _ hc
                rcases List.mem_cons.1 hy' with rfl | hy'
                · exact hx
                · exact (tot_B all).trans _ _ _ hx (hy _ hr0 y hy')
              · rcases List.mem_cons.1 hy' with rfl | hy'
                · exact hroot e (hZ e he')
                · exact hy e (hZ e he') y hy'
      · rename_i hc
        have hc' : Go.Proofs.Ytpkcabbfblhekaa.lt (odB all) ⟨a.1, a.2, (P.length : Int)⟩ (nth H 0).inn = false := by simpa using hc
        have hroot := h.root
        refine hgo _ _ ⟨h.ho, ?_, ?_⟩
        · rw [hX, List.length_append, List.length_singleton]; omega
        · refine ⟨Y ++ [⟨a.1, a.2, (P.length : Int)⟩], ?_, fun e he y hy' => ?_⟩
          · rw [hX, ← List.append_assoc]
            exact hp.append_right _
          · rcases List.mem_append.1 hy' with hy' | hy'
            · exact hy e he y hy'
            · have : y = ⟨a.1, a.2, (P.length : Int)⟩ := by simpa using hy'
              subst this
              exact (tot_B all).trans _ _ _ (hroot e he) hc'
end V

/-- A sorted list of a list. -/
theorem srt_some (all : Bool) : ∀ Y : List E, ∃ u, u.Perm Y ∧ Srt (odB all) u
  | [] => ⟨[], List.Perm.refl _, List.Pairwise.nil⟩
  | y :: Y => by
    obtain ⟨u, h1, h2⟩ := srt_some all Y
    have ins : ∀ (u : List E), Srt (odB all) u → ∃ v, v.Perm (y :: u) ∧ Srt (odB all) v := by
      intro u
      induction u with
      | nil => intro _; exact ⟨[y], List.Perm.refl _, List.pairwise_singleton _ _⟩
      | cons x u ih =>
        intro hs
        obtain ⟨s1, s2⟩ := List.pairwise_cons.1 hs
        by_cases hxy : lt (odB all) x y = true
        · obtain ⟨v, v1, v2⟩ := ih s2
          refine ⟨x :: v, (v1.cons x).trans (List.Perm.swap _ _ _), List.pairwise_cons.2 ⟨fun b hb => ?_, v2⟩⟩
          rcases List.mem_cons.1 (v1.mem_iff.1 hb) with rfl | hb
          · exact (tot_B all).asym _ _ hxy
          · exact s1 b hb
        · have hxy' : lt (odB all) x y = false := by simpa using hxy
          refine ⟨y :: x :: u, List.Perm.refl _, List.pairwise_cons.2 ⟨fun b hb => ?_, hs⟩⟩
          rcases List.mem_cons.1 hb with rfl | hb
          · exact hxy'
          · exact (tot_B all).trans _ _ _ hxy' (s1 b hb)
    obtain ⟨v, v1, v2⟩ := ins u h2
    exact ⟨v, v1.trans (h1.cons y), v2⟩

/-- LEAST IS THE FRONT OF SORT. -/
theorem least_is (all : Bool) (L : List (Int × Int)) (k : Nat) (hk : k ≤ L.length) : leastL (odB all) L k = (drF (odB all) L.length (pushF (odB all) L [] 0).1).1.take k := by
  have h0 : V.LS all k (xs 0 []) [] := ⟨fun j _ h => by simp at h, by simp [xs], ⟨[], List.Perm.refl _, fun _ h => by cases h⟩⟩
  have h1 := V.LS.lb (all := all) k L [] [] 0 h0
  rw [List.nil_append] at h1
  have hHl : (V.lbF (odB all) k L ([] : List (Int × Int)).length [] 0).1.length = k := by rw [h1.len, xs_len]; omega
  have e0 : ([] : List (Int × Int)).length = 0 := rfl
  rw [e0] at h1 hHl
  obtain ⟨H, hH⟩ : ∃ H, H = (V.lbF (odB all) k L 0 [] 0).1 := ⟨_, rfl⟩
  rw [← hH] at h1 hHl
  obtain ⟨Y, hp, hy⟩ := h1.sp
  obtain ⟨u, u1, u2⟩ := srt_some all Y
  obtain ⟨t, ht⟩ : ∃ t, t = ((V.drE (V.odF (V.odBk (odB all))) k H).map V.E.inn).reverse := ⟨_, rfl⟩
  have t1 : t.Perm (H.map V.E.inn) := by rw [ht]; exact (List.reverse_perm _).trans ((V.drE_perm _ k H hHl).map _)
  have t2 : Srt (odB all) t := by
    rw [ht]
    unfold Srt
    rw [List.pairwise_reverse, List.pairwise_map]
    exact (V.drE_srt (V.tot_V all) k H hHl h1.ho).imp (fun {a b} h => V.lt_back h)
  have s1 : (t ++ u).Perm (xs 0 L) := (t1.append u1).trans hp.symm
  have s2 : Srt (odB all) (t ++ u) := List.pairwise_append.2 ⟨t2, u2, fun a ha b hb => hy a (t1.mem_iff.1 ha) b (u1.mem_iff.1 hb)⟩
  rw [sort_is all L s1 s2, List.map_append, List.take_left' (by rw [List.length_map, ht, List.length_reverse, List.length_map, (V.drE_perm _ k H hHl).length_eq, hHl])]
  unfold leastL
  rw [← hH, V.drF_E, ht, List.map_reverse, List.map_map, List.map_map]
  rfl

end Go.Proofs.Ytpkcabbfblhekaa
