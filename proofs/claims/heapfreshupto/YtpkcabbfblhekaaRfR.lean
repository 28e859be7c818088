/-
  A region that draws its order, within a round: one walk an operation.
-/
import Derived.Test.YtpkcabbfblhekaaRfD
namespace Go.Proofs.Ytpkcabbfblhekaa
open Go.RowKit

/-- How many are not listed yet. -/
def unl (N : Nat) (listed : Array Bool) : Nat := ((List.range N).filter fun i => !listed.getD i true).length

theorem unl_set {N : Nat} {listed : Array Bool} {i : Nat} (hi : i < N) (h : listed.getD i true = false) : unl N (listed.setIfInBounds i true) < unl N listed := by
  have hs : i < listed.size := by
    rcases Nat.lt_or_ge i listed.size with h' | h'
    · exact h'
    · simp [Array.getElem?_eq_none h'] at h
  have hsub : ((List.range N).filter fun j => !(listed.setIfInBounds i true).getD j true) = (((List.range N).filter fun j => !listed.getD j true).filter fun j => decide (j ≠ i)).filter fun j => !(listed.setIfInBounds i true).getD j true := by
    rw [List.filter_filter, List.filter_filter]
    refine List.filter_congr (fun j _ => ?_)
    by_cases e : j = i
    · subst e
      simp [hs]
    · have e' : i ≠ j := fun h => e h.symm
      simp [e, Array.getElem?_setIfInBounds_ne e']
  have h1 : unl N (listed.setIfInBounds i true) ≤ (((List.range N).filter fun j => !listed.getD j true).filter fun j => decide (j ≠ i)).length := by
    unfold unl
    rw [hsub]
    exact List.length_filter_le _ _
  have hm : i ∈ (List.range N).filter fun j => !listed.getD j true := by
    rw [List.mem_filter]
    exact ⟨List.mem_range.2 hi, by rw [h]; rfl⟩
  have h2 : (((List.range N).filter fun j => !listed.getD j true).filter fun j => decide (j ≠ i)).length < ((List.range N).filter fun j => !listed.getD j true).length := by
    refine Nat.lt_of_le_of_ne (List.length_filter_le _ _) (fun e => ?_)
    have := List.length_filter_eq_length_iff.1 e i hm
    simp at this
  exact Nat.lt_of_le_of_lt h1 h2

theorem wpAnyIn_inv {F : Fence} {n : Nat} {P : Program} {md : Region.Mode} {ops : Array Oper} {Q : Exit → Act → World → Prop} (J : (Nat → Bool) → Act → World → Prop)
    (hb : ∀ (i : Nat) (o : Oper), ops[i]? = some o → ∀ e ∈ o.after, Region.binds md e = true → e.on < i)
    (hd : ∀ d a w, J d a w → (∀ i, i < ops.size → d i = true) → Q .normal a w)
    (hstep : ∀ d a w (i : Nat) (o : Oper), J d a w → d i = false → ops[i]? = some o → (∀ e ∈ o.after, Region.binds md e = true → d e.on = true) →
      ∀ K' : Act → World → Prop, (∀ a w, J (fun j => if j = i then true else d j) a w → K' a w) → if Region.wanted o (yielded ops a.tmps) = true then Oper.wpIn F n P o a w K' Q else (∀ f, o.about P w a.eval = some f → F.fn f) ∧ K' (a.put o.dst undef) w) :
    ∀ (fuel : Nat) (listed : Array Bool) (d : Nat → Bool) (a : Act) (w : World), listed.size = ops.size → (∀ i, i < ops.size → listed.getD i true = d i) → unl ops.size listed ≤ fuel → J d a w → wpAnyIn F n P md ops Q fuel listed a w := by
  have hmem : ∀ {listed : Array Bool} {i : Nat}, i ∈ Region.ready md ops listed ↔ listed.getD i true = false ∧ ∃ o, ops[i]? = some o ∧ ∀ e ∈ o.after, Region.binds md e = true → listed.getD e.on false = true := fun {listed i} => mem_ready
  have hdone : ∀ (listed : Array Bool) (d : Nat → Bool) (a : Act) (w : World), listed.size = ops.size → (∀ i, i < ops.size → listed.getD i true = d i) → J d a w → Region.ready md ops listed = [] → Q .normal a w := by
    intro listed d a w hsz hl hJ hr
    refine hd d a w hJ (fun i => ?_)
    induction i using Nat.strongRecOn with
    | _ i ih =>
      intro hi
      rcases hdi : d i with _ | _
      · exfalso
        have ho : ops[i]? = some ops[i] := Array.getElem?_eq_getElem hi
        have : i ∈ Region.ready md ops listed := hmem.2 ⟨(hl i hi).trans hdi, _, ho, fun e he hbe => by
          have h1 := hb i _ ho e he hbe
          have h2 := ih e.on h1 (by omega)
          have h3 := hl e.on (by omega)
          rw [h2] at h3
          have h4 : e.on < listed.size := by omega
          simp [h4] at h3 ⊢
          exact h3⟩
        rw [hr] at this
        cases this
      · rfl
  intro fuel
  induction fuel with
  | zero =>
    intro listed d a w hsz hl hu hJ
    have hr : Region.ready md ops listed = [] := by
      cases hr : Region.ready md ops listed with
      | nil => rfl
      | cons i rs =>
        exfalso
        obtain ⟨h1, o, h2, _⟩ := hmem.1 (show i ∈ Region.ready md ops listed by rw [hr]; exact List.mem_cons_self)
        have hi : i < ops.size := (Array.getElem?_eq_some_iff.1 h2).1
        have := unl_set hi h1
        omega
    exact ⟨hr, hdone listed d a w hsz hl hJ hr⟩
  | succ fuel ih =>
    intro listed d a w hsz hl hu hJ
    refine ⟨hdone listed d a w hsz hl hJ, fun i hi => ?_⟩
    obtain ⟨h1, o, h2, h3⟩ := hmem.1 hi
    have hi' : i < ops.size := (Array.getElem?_eq_some_iff.1 h2).1
    have hdi : d i = false := (hl i hi').symm.trans h1
    have := hstep d a w i o hJ hdi h2 (fun e he hbe => by
      have h4 := h3 e he hbe
      have h5 := hb i o h2 e he hbe
      have h6 := hl e.on (by omega)
      have h7 : e.on < listed.size := by omega
      simp [h7] at h4 h6
      rw [← h6]; exact h4) (wpAnyIn F n P md ops Q fuel (listed.setIfInBounds i true)) (fun a' w' hJ' => ih _ _ a' w' (by simp [hsz]) (fun j hj => by
        by_cases e : j = i
        · subst e
          have : j < listed.size := by omega
          simp [this]
        · have e' : i ≠ j := fun h => e h.symm
          have h8 := hl j hj
          simp only [e, if_false]
          rw [← h8]
          simp [Array.getElem?_setIfInBounds_ne e']) (by have := unl_set hi' h1; omega) hJ')
    unfold wpOpIn
    rw [h2]
    simp only
    split
    · rename_i hw; rw [if_pos hw] at this; exact this
    · rename_i hw; rw [if_neg hw] at this; exact this

theorem ex_y {q : (Nat → Value) → Prop} (k : Nat) (l : List Value) (h : q (fun i => l.getD (i - k) undef)) : ∃ y, q y := ⟨_, h⟩

theorem after_of {md : Region.Mode} {ops : Array Oper} (h : (List.range ops.size).all (fun i => ((ops[i]?).map fun o => o.after.all fun e => !Region.binds md e || decide (e.on < i)).getD true) = true) :
    ∀ (i : Nat) (o : Oper), ops[i]? = some o → ∀ e ∈ o.after, Region.binds md e = true → e.on < i := by
  intro i o ho e he hbe
  have hi : i < ops.size := (Array.getElem?_eq_some_iff.1 ho).1
  have h1 := List.all_eq_true.1 h i (List.mem_range.2 hi)
  rw [ho] at h1
  have h2 : (o.after.all fun e => !Region.binds md e || decide (e.on < i)) = true := h1
  have h3 := Array.all_eq_true'.1 h2 e he
  rw [hbe] at h3
  simpa using h3

theorem region_round {F : Fence} {n : Nat} {P : Program} {id : Nat} {ops : Array Oper} {Q : Exit → Act → World → Prop} {a : Act} {w : World} (hm : P.follows .mixedOrders = true) (J : (Nat → Bool) → Act → World → Prop) (h0 : J (fun _ => false) a w.drew)
    (hb : ∀ (i : Nat) (o : Oper), ops[i]? = some o → ∀ e ∈ o.after, Region.binds .any e = true → e.on < i)
    (hd : ∀ d a w, J d a w → (∀ i, i < ops.size → d i = true) → Q .normal a w)
    (hstep : ∀ d a w (i : Nat) (o : Oper), J d a w → d i = false → ops[i]? = some o → (∀ e ∈ o.after, Region.binds .any e = true → d e.on = true) →
      ∀ K' : Act → World → Prop, (∀ a w, J (fun j => if j = i then true else d j) a w → K' a w) → if Region.wanted o (yielded ops a.tmps) = true then Oper.wpIn F n P o a w K' Q else (∀ f, o.about P w a.eval = some f → F.fn f) ∧ K' (a.put o.dst undef) w) :
    (Code.region id ops true).wpIn F n P Q a w := by
  refine wpIn_region_any hm ?_
  refine wpAnyIn_inv J hb hd hstep ops.size _ (fun _ => false) a _ (by simp) (fun i hi => by simp [hi]) ?_ h0
  exact Nat.le_trans (List.length_filter_le _ _) (by simp)

end Go.Proofs.Ytpkcabbfblhekaa
