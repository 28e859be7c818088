import Derived.Test.YtbfbjjfjeiihbaaRfR
/-
  A region that draws its order, in a plain walk: one walk an operation.
-/
namespace Go.Proofs.Ytbfbjjfjeiihbaa
open Go.RowKit

theorem wpAny_inv {P : Program} {md : Region.Mode} {ops : Array Oper} {Q : Exit → Act → World → Prop} (J : (Nat → Bool) → Act → World → Prop)
    (hb : ∀ (i : Nat) (o : Oper), ops[i]? = some o → ∀ e ∈ o.after, Region.binds md e = true → e.on < i)
    (hd : ∀ d a w, J d a w → (∀ i, i < ops.size → d i = true) → Q .normal a w)
    (hstep : ∀ d a w (i : Nat) (o : Oper), J d a w → d i = false → ops[i]? = some o → (∀ e ∈ o.after, Region.binds md e = true → d e.on = true) →
      ∀ K' : Act → World → Prop, (∀ a w, J (fun j => if j = i then true else d j) a w → K' a w) → if Region.wanted o (yielded ops a.tmps) = true then Oper.wp P o a w K' Q else K' (a.put o.dst undef) w) :
    ∀ (fuel : Nat) (listed : Array Bool) (d : Nat → Bool) (a : Act) (w : World), listed.size = ops.size → (∀ i, i < ops.size → listed.getD i true = d i) → unl ops.size listed ≤ fuel → J d a w → wpAny P md ops Q fuel listed a w := by
  have hmem : ∀ {listed : Array Bool} {i : Nat}, i ∈ Region.ready md ops listed ↔ listed.getD i true = false ∧ ∃ o, ops[i]? = some o ∧ ∀ e ∈ o.after, Region.binds md e = true → listed.getD e.on false = true := fun {listed i} => mem_ready
  have hdone : ∀ (listed : Array Bool) (d : Nat → Bool) (a : Act) (w : World), listed.size = ops.size → (∀ i, i < ops.size → listed.getD i true = d i) → J d a w → Region.ready md ops listed = [] → Q .normal a w := by
    intro listed d a w hsz hl hJ hr
    refine hd d a w hJ (fun i => ?_)
    induction i using Nat.strongRecOn with
    | _ i ih =>
      intro hi
      rcases hdi : d i with _ | _
      · exfalso
        have ho : ops[i]? = some ops[i] := Array.getElem?_eq_getElem hi
        have : i ∈ Region.ready md ops listed := hmem.2 ⟨(hl i hi).trans hdi, _, ho, fun e he hbe => by
          have h1 := hb i _ ho e he hbe
          have h2 := ih e.on h1 (by omega)
          have h3 := hl e.on (by omega)
          rw [h2] at h3
          have h4 : e.on < listed.size := by omega
          simp [h4] at h3 ⊢
          exact h3⟩
        rw [hr] at this
        cases this
      · rfl
  intro fuel
  induction fuel with
  | zero =>
    intro listed d a w hsz hl hu hJ
    have hr : Region.ready md ops listed = [] := by
      cases hr : Region.ready md ops listed with
      | nil => rfl
      | cons i rs =>
        exfalso
        obtain ⟨h1, o, h2, _⟩ := hmem.1 (show i ∈ Region.ready md ops listed by rw [hr]; exact List.mem_cons_self)
        have hi : i < ops.size := (Array.getElem?_eq_some_iff.1 h2).1
        have := unl_set hi h1
        omega
    exact ⟨hr, hdone listed d a w hsz hl hJ hr⟩
  | succ fuel ih =>
    intro listed d a w hsz hl hu hJ
    refine ⟨hdone listed d a w hsz hl hJ, fun i hi => ?_⟩
    obtain ⟨h1, o, h2, h3⟩ := hmem.1 hi
    have hi' : i < ops.size := (Array.getElem?_eq_some_iff.1 h2).1
    have hdi : d i = false := (hl i hi').symm.trans h1
    have := hstep d a w i o hJ hdi h2 (fun e he hbe => by
      have h4 := h3 e he hbe
      have h5 := hb i o h2 e he hbe
      have h6 := hl e.on (by omega)
      have h7 : e.on < listed.size := by omega
      simp [h7] at h4 h6
      rw [← h6]; exact h4) (wpAny P md ops Q fuel (listed.setIfInBounds i true)) (fun a' w' hJ' => ih _ _ a' w' (by simp [hsz]) (fun j hj => by
        by_cases e : j = i
        · subst e
          have : j < listed.size := by omega
          simp [this]
        · have e' : i ≠ j := fun h => e h.symm
          have h8 := hl j hj
          simp only [e, if_false]
          rw [← h8]
          simp [Array.getElem?_setIfInBounds_ne e']) (by have := unl_set hi' h1; omega) hJ')
    unfold wpOp
    rw [h2]
    simp only
    split
    · rename_i hw; rw [if_pos hw] at this; exact .inl this
    · rename_i hw; rw [if_neg hw] at this; exact this

theorem region_plain {P : Program} {id : Nat} {ops : Array Oper} {Q : Exit → Act → World → Prop} {a : Act} {w : World} (hm : P.follows .mixedOrders = true) (J : (Nat → Bool) → Act → World → Prop) (h0 : J (fun _ => false) a w.drew)
    (hb : ∀ (i : Nat) (o : Oper), ops[i]? = some o → ∀ e ∈ o.after, Region.binds .any e = true → e.on < i)
    (hd : ∀ d a w, J d a w → (∀ i, i < ops.size → d i = true) → Q .normal a w)
    (hstep : ∀ d a w (i : Nat) (o : Oper), J d a w → d i = false → ops[i]? = some o → (∀ e ∈ o.after, Region.binds .any e = true → d e.on = true) →
      ∀ K' : Act → World → Prop, (∀ a w, J (fun j => if j = i then true else d j) a w → K' a w) → if Region.wanted o (yielded ops a.tmps) = true then Oper.wp P o a w K' Q else K' (a.put o.dst undef) w) :
    (Code.region id ops true).wp P Q a w := by
  refine wp_region_any hm ?_
  refine wpAny_inv J hb hd hstep ops.size _ (fun _ => false) a _ (by simp) (fun i hi => by simp [hi]) ?_ h0
  exact Nat.le_trans (List.length_filter_le _ _) (by simp)

end Go.Proofs.Ytbfbjjfjeiihbaa

/-
  A region that draws its order, over a frame that is a letter: each operation that is done has its value in its slot.
-/
namespace Go.Proofs.Ytbfbjjfjeiihbaa
open Go.RowKit

/-- What stands while a region is done in whatever order. -/
structure RJ (n : Nat) (sl : Nat → Nat) (m : Nat) (fx : List (Nat × Value)) (Φ : Nat → World → Value → Prop) (C : World → Prop) (d : Nat → Bool) (b : Act) (w : World) : Prop where
  sz : b.tmps.size = n
  df : b.defers = []
  fix : ∀ x ∈ fx, b.tmps.getD x.1 undef = x.2
  val : ∀ i, i < m → d i = true → Φ i w (b.tmps.getD (sl i) undef)
  ch : C w

theorem RJ.put {n : Nat} {sl : Nat → Nat} {m : Nat} {fx : List (Nat × Value)} {Φ : Nat → World → Value → Prop} {C : World → Prop} {d : Nat → Bool} {b : Act} {w w' : World} (h : RJ n sl m fx Φ C d b w) (i : Nat) {s : Nat} {v : Value}
    (hs : s = sl i) (hn : sl i < n) (hj : ∀ j, j < m → j ≠ i → sl j ≠ sl i) (hf : ∀ x ∈ fx, x.1 ≠ sl i) (hv : Φ i w' v) (hC : C w') (hm : ∀ j u, Φ j w u → Φ j w' u) :
    RJ n sl m fx Φ C (fun j => if j = i then true else d j) (b.put (some s) v) w' := by
  subst hs
  have get : ∀ t, t ≠ sl i → (b.tmps.setIfInBounds (sl i) v).getD t undef = b.tmps.getD t undef := fun t ht => by
    rw [Array.getD_eq_getD_getElem?, Array.getD_eq_getD_getElem?, Array.getElem?_setIfInBounds_ne (fun e => ht e.symm)]
  have got : (b.tmps.setIfInBounds (sl i) v).getD (sl i) undef = v := by
    have : sl i < b.tmps.size := by rw [h.sz]; exact hn
    rw [Array.getD_eq_getD_getElem?]
    simp [this]
  refine ⟨by show (b.tmps.setIfInBounds _ _).size = n; rw [Array.size_setIfInBounds, h.sz], h.df, fun x hx => ?_, fun j hjm hd => ?_, hC⟩
  · show (b.tmps.setIfInBounds _ _).getD _ _ = _
    rw [get _ (hf x hx)]
    exact h.fix x hx
  · show Φ j w' ((b.tmps.setIfInBounds _ _).getD _ _)
    by_cases e : j = i
    · rw [e, got]; exact hv
    · rw [get _ (hj j hjm e)]
      have hd' : (if j = i then true else d j) = true := hd
      rw [if_neg e] at hd'
      exact hm j _ (h.val j hjm hd')

theorem yield_of {ops : Array Oper} {T : Array Value} {j s : Nat} {t : Bool} (ho : ((ops[j]?).bind (·.dst)) = some s) (hs : s < T.size) (hv : T.getD s undef = .bool t) : yielded ops T j = some t := by
  unfold yielded
  rw [ho]
  have e : T[s]? = some (.bool t) := by
    rw [Array.getD_eq_getD_getElem?] at hv
    rw [Array.getElem?_eq_getElem hs] at hv ⊢
    simpa using hv
  show (match T[s]? with | some (.bool b) => some b | _ => none) = some t
  rw [e]

/-- A region within a code. -/
def regIn (n : Nat) : Code → Option (Array Oper)
  | .region id ops _ => if id = n then some ops else none
  | .seq a b => match regIn n a with
    | some o => some o
    | none => regIn n b
  | _ => none

end Go.Proofs.Ytbfbjjfjeiihbaa
