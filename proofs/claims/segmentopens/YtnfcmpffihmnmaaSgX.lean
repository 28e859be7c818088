/-
  A region that draws its order, over a frame that is a letter; an append that makes a new list.
-/
import Derived.Test.YtnfcmpffihmnmaaSgW
import Derived.Shelf.RegionOpen
namespace Go.Proofs.Ytnfcmpffihmnmaa
open Go.RowKit

/-- How many are not listed yet. -/
def unl (N : Nat) (listed : Array Bool) : Nat := ((List.range N).filter fun i => !listed.getD i true).length
theorem unl_set {N : Nat} {listed : Array Bool} {i : Nat} (hi : i < N) (h : listed.getD i true = false) : unl N (listed.setIfInBounds i true) < unl N listed := by
  have hs : i < listed.size := by
    rcases Nat.lt_or_ge i listed.size with h' | h'
    · exact h'
    · simp [Array.getElem?_eq_none h'] at h
  have hsub : ((List.range N).filter fun j => !(listed.setIfInBounds i true).getD j true) = (((List.range N).filter fun j => !listed.getD j true).filter fun j => decide (j ≠ i)).filter fun j => !(listed.setIfInBounds i true).getD j true := by
    rw [List.filter_filter, List.filter_filter]
    refine List.filter_congr (fun j _ => ?_)
    by_cases e : j = i
    · subst e
      simp [hs]
    · have e' : i ≠ j := fun h => e h.symm
      simp [e, Array.getElem?_setIfInBounds_ne e']
  have h1 : unl N (listed.setIfInBounds i true) ≤ (((List.range N).filter fun j => !listed.getD j true).filter fun j => decide (j ≠ i)).length := by
    unfold unl
    rw [hsub]
    exact List.length_filter_le _ _
  have hm : i ∈ (List.range N).filter fun j => !listed.getD j true := by
    rw [List.mem_filter]
    exact ⟨List.mem_range.2 hi, by rw [h]; rfl⟩
  have h2 : (((List.range N).filter fun j => !listed.getD j true).filter fun j => decide (j ≠ i)).length < ((List.range N).filter fun j => !listed.getD j true).length := by
    refine Nat.lt_of_le_of_ne (List.length_filter_le _ _) (fun e => ?_)
    have := List.length_filter_eq_length_iff.1 e i hm
    simp at this
  exact Nat.lt_of_le_of_lt h1 h2
theorem after_of {md : Region.Mode} {ops : Array Oper} (h : (List.range ops.size).all (fun i => ((ops[i]?).map fun o => o.after.all fun e => !Region.binds md e || decide (e.on < i)).getD true) = true) :
    ∀ (i : Nat) (o : Oper), ops[i]? = some o → ∀ e ∈ o.after, Region.binds md e = true → e.on < i := by
  intro i o ho e he hbe
  have hi : i < ops.size := (Array.getElem?_eq_some_iff.1 ho).1
  have h1 := List.all_eq_true.1 h i (List.mem_range.2 hi)
  rw [ho] at h1
  have h2 : (o.after.all fun e => !Region.binds md e || decide (e.on < i)) = true := h1
  have h3 := Array.all_eq_true'.1 h2 e he
  rw [hbe] at h3
  simpa using h3

theorem wpAny_inv {P : Program} {md : Region.Mode} {ops : Array Oper} {Q : Exit → Act → World → Prop} (J : (Nat → Bool) → Act → World → Prop)
    (hb : ∀ (i : Nat) (o : Oper), ops[i]? = some o → ∀ e ∈ o.after, Region.binds md e = true → e.on < i)
    (hd : ∀ d a w, J d a w → (∀ i, i < ops.size → d i = true) → Q .normal a w)
    (hstep : ∀ d a w (i : Nat) (o : Oper), J d a w → d i = false → ops[i]? = some o → (∀ e ∈ o.after, Region.binds md e = true → d e.on = true) →
      ∀ K' : Act → World → Prop, (∀ a w, J (fun j => if j = i then true else d j) a w → K' a w) → if Region.wanted o (yielded ops a.tmps) = true then Oper.wp P o a w K' Q else K' (a.put o.dst undef) w) :
    ∀ (fuel : Nat) (listed : Array Bool) (d : Nat → Bool) (a : Act) (w : World), listed.size = ops.size → (∀ i, i < ops.size → listed.getD i true = d i) → unl ops.size listed ≤ fuel → J d a w → wpAny P md ops Q fuel listed a w := by
  have hmem : ∀ {listed : Array Bool} {i : Nat}, i ∈ Region.ready md ops listed ↔ listed.getD i true = false ∧ ∃ o, ops[i]? = some o ∧ ∀ e ∈ o.after, Region.binds md e = true → listed.getD e.on false = true := fun {listed i} => mem_ready
  have hdone : ∀ (listed : Array Bool) (d : Nat → Bool) (a : Act) (w : World), listed.size = ops.size → (∀ i, i < ops.size → listed.getD i true = d i) → J d a w → Region.ready md ops listed = [] → Q .normal a w := by
    intro listed d a w hsz hl hJ hr
    refine hd d a w hJ (fun i => ?_)
    induction i using Nat.strongRecOn with
    | _ i ih =>
      intro hi
      rcases hdi : d i with _ | _
      · exfalso
        have ho : ops[i]? = some ops[i] := Array.getElem?_eq_getElem hi
        have : i ∈ Region.ready md ops listed := hmem.2 ⟨(hl i hi).trans hdi, _, ho, fun e he hbe => by
          have h1 := hb i _ ho e he hbe
          have h2 := ih e.on h1 (by omega)
          have h3 := hl e.on (by omega)
          rw [h2] at h3
          have h4 : e.on < listed.size := by omega
          simp [h4] at h3 ⊢
          exact h3⟩
        rw [hr] at this
        cases this
      · rfl
  intro fuel
  induction fuel with
  | zero =>
    intro listed d a w hsz hl hu hJ
    have hr : Region.ready md ops listed = [] := by
      cases hr : Region.ready md ops listed with
      | nil => rfl
      | cons i rs =>
        exfalso
        obtain ⟨h1, o, h2, _⟩ := hmem.1 (show i ∈ Region.ready md ops listed by rw [hr]; exact List.mem_cons_self)
        have hi : i < ops.size := (Array.getElem?_eq_some_iff.1 h2).1
        have := unl_set hi h1
        omega
    exact ⟨hr, hdone listed d a w hsz hl hJ hr⟩
  | succ fuel ih =>
    intro listed d a w hsz hl hu hJ
    refine ⟨hdone listed d a w hsz hl hJ, fun i hi => ?_⟩
    obtain ⟨h1, o, h2, h3⟩ := hmem.1 hi
    have hi' : i < ops.size := (Array.getElem?_eq_some_iff.1 h2).1
    have hdi : d i = false := (hl i hi').symm.trans h1
    have := hstep d a w i o hJ hdi h2 (fun e he hbe => by
      have h4 := h3 e he hbe
      have h5 := hb i o h2 e he hbe
      have h6 := hl e.on (by omega)
      have h7 : e.on < listed.size := by omega
      simp [h7] at h4 h6
      rw [← h6]; exact h4) (wpAny P md ops Q fuel (listed.setIfInBounds i true)) (fun a' w' hJ' => ih _ _ a' w' (by simp [hsz]) (fun j hj => by
        by_cases e : j = i
        · subst e
          have : j < listed.size := by omega
          simp [this]
        · have e' : i ≠ j := fun h => e h.symm
          have h8 := hl j hj
          simp only [e, if_false]
          rw [← h8]
          simp [Array.getElem?_setIfInBounds_ne e']) (by have := unl_set hi' h1; omega) hJ')
    unfold wpOp
    rw [h2]
    simp only
    split
    · rename_i hw; rw [if_pos hw] at this; exact .inl this
    · rename_i hw; rw [if_neg hw] at this; exact this
theorem region_plain {P : Program} {id : Nat} {ops : Array Oper} {Q : Exit → Act → World → Prop} {a : Act} {w : World} (hm : P.follows .mixedOrders = true) (J : (Nat → Bool) → Act → World → Prop) (h0 : J (fun _ => false) a w.drew)
    (hb : ∀ (i : Nat) (o : Oper), ops[i]? = some o → ∀ e ∈ o.after, Region.binds .any e = true → e.on < i)
    (hd : ∀ d a w, J d a w → (∀ i, i < ops.size → d i = true) → Q .normal a w)
    (hstep : ∀ d a w (i : Nat) (o : Oper), J d a w → d i = false → ops[i]? = some o → (∀ e ∈ o.after, Region.binds .any e = true → d e.on = true) →
      ∀ K' : Act → World → Prop, (∀ a w, J (fun j => if j = i then true else d j) a w → K' a w) → if Region.wanted o (yielded ops a.tmps) = true then Oper.wp P o a w K' Q else K' (a.put o.dst undef) w) :
    (Code.region id ops true).wp P Q a w := by
  refine wp_region_any hm ?_
  refine wpAny_inv J hb hd hstep ops.size _ (fun _ => false) a _ (by simp) (fun i hi => by simp [hi]) ?_ h0
  exact Nat.le_trans (List.length_filter_le _ _) (by simp)

/-- What stands while a region is done in whatever order. -/
structure RJ (n : Nat) (sl : Nat → Nat) (m : Nat) (fx : List (Nat × Value)) (Φ : Nat → World → Value → Prop) (C : World → Prop) (d : Nat → Bool) (b : Act) (w : World) : Prop where
  sz : b.tmps.size = n
  df : b.defers = []
  fix : ∀ x ∈ fx, b.tmps.getD x.1 undef = x.2
  val : ∀ i, i < m → d i = true → Φ i w (b.tmps.getD (sl i) undef)
  ch : C w
theorem RJ.put {n : Nat} {sl : Nat → Nat} {m : Nat} {fx : List (Nat × Value)} {Φ : Nat → World → Value → Prop} {C : World → Prop} {d : Nat → Bool} {b : Act} {w w' : World} (h : RJ n sl m fx Φ C d b w) (i : Nat) {s : Nat} {v : Value}
    (hs : s = sl i) (hn : sl i < n) (hj : ∀ j, j < m → j ≠ i → sl j ≠ sl i) (hf : ∀ x ∈ fx, x.1 ≠ sl i) (hv : Φ i w' v) (hC : C w') (hm : ∀ j u, j < m → Φ j w u → Φ j w' u) :
    RJ n sl m fx Φ C (fun j => if j = i then true else d j) (b.put (some s) v) w' := by
  subst hs
  have get : ∀ t, t ≠ sl i → (b.tmps.setIfInBounds (sl i) v).getD t undef = b.tmps.getD t undef := fun t ht => by
    rw [Array.getD_eq_getD_getElem?, Array.getD_eq_getD_getElem?, Array.getElem?_setIfInBounds_ne (fun e => ht e.symm)]
  have got : (b.tmps.setIfInBounds (sl i) v).getD (sl i) undef = v := by
    have : sl i < b.tmps.size := by rw [h.sz]; exact hn
    rw [Array.getD_eq_getD_getElem?]
    simp [this]
  refine ⟨by show (b.tmps.setIfInBounds _ _).size = n; rw [Array.size_setIfInBounds, h.sz], h.df, fun x hx => ?_, fun j hjm hd => ?_, hC⟩
  · show (b.tmps.setIfInBounds _ _).getD _ _ = _
    rw [get _ (hf x hx)]
    exact h.fix x hx
  · show Φ j w' ((b.tmps.setIfInBounds _ _).getD _ _)
    by_cases e : j = i
    · rw [e, got]; exact hv
    · rw [get _ (hj j hjm e)]
      have hd' : (if j = i then true else d j) = true := hd
      rw [if_neg e] at hd'
      exact hm j _ hjm (h.val j hjm hd')
/-- An operation that has no slot. -/
theorem RJ.put0 {n : Nat} {sl : Nat → Nat} {m : Nat} {fx : List (Nat × Value)} {Φ : Nat → World → Value → Prop} {C : World → Prop} {d : Nat → Bool} {b : Act} {w w' : World} (h : RJ n sl m fx Φ C d b w) (i : Nat)
    (hv : ∀ u, Φ i w' u) (hC : C w') (hm : ∀ j u, j < m → j ≠ i → Φ j w u → Φ j w' u) :
    RJ n sl m fx Φ C (fun j => if j = i then true else d j) b w' := by
  refine ⟨h.sz, h.df, h.fix, fun j hjm hd => ?_, hC⟩
  by_cases e : j = i
  · rw [e]; exact hv _
  · have hd' : (if j = i then true else d j) = true := hd
    rw [if_neg e] at hd'
    exact hm j _ hjm e (h.val j hjm hd')
theorem yield_of {ops : Array Oper} {T : Array Value} {j s : Nat} {t : Bool} (ho : ((ops[j]?).bind (·.dst)) = some s) (hs : s < T.size) (hv : T.getD s undef = .bool t) : yielded ops T j = some t := by
  unfold yielded
  rw [ho]
  have e : T[s]? = some (.bool t) := by
    rw [Array.getD_eq_getD_getElem?] at hv
    rw [Array.getElem?_eq_getElem hs] at hv ⊢
    simpa using hv
  show (match T[s]? with | some (.bool b) => some b | _ => none) = some t
  rw [e]
/-- A region within a code. -/
def regIn (n : Nat) : Code → Option (Array Oper)
  | .region id ops _ => if id = n then some ops else none
  | .seq a b => match regIn n a with
    | some o => some o
    | none => regIn n b
  | _ => none

theorem want_of {o : Oper} {y : Nat → Option Bool} {j : Nat} {t : Bool} (hg : o.guard = some (j, t)) (hy : y j = some t) : Region.wanted o y = true := by
  unfold Region.wanted
  rw [hg]
  simp [hy]
theorem want_all {o : Oper} {y : Nat → Option Bool} (hg : o.guard = none) : Region.wanted o y = true := by
  unfold Region.wanted
  rw [hg]


/-- Records appended to an empty list: they lie in a new block. -/
theorem app_fresh {w : World} {ty sz sl by_ n c : Nat} {Z : Value} {f : Nat → List Value} {Av : Nat → Prop} {a : Addr} (hu : Try.prog.underlying sl = some (.slice ty)) (hi0 : (Try.prog.info? ty).map (fun i => (i.zero, i.size, i.bytes)) = some (some Z, sz, by_))
    (hf : ∀ i, (f i).length = sz) (hr : RowsIn w Av (some a) n sz f) (hb : n * by_ ≤ 140737488355328) (hb2 : n ≤ 9223372036854775807) (h0 : 0 < n) (b : Nat) (ty2 : TypeId) :
    ∃ cc w', (Builtin.append_ #[sl, sl] ty2 #[.slice (some ⟨b, 0, none⟩) 0 0, .slice (some a) n c]).run Try.prog w = .ok (.slice (some ⟨w.heap.size, 0, none⟩) n cc) w' ∧ NL w' w.heap.size (some ⟨w.heap.size, 0, none⟩) n sz f ∧ Chg (fun _ => False) w w' := by
  obtain ⟨i0, hi, hz0, hz1, hz2⟩ := info_parts hi0
  subst hz1
  subst hz2
  have hr1 := run_append_grow (P := Try.prog) w sl ty2 ty i0 Z hu hi hz0 ⟨b, 0, none⟩ 0 0 [] (by simp) (fun j u hj => by simp at hj) a n c (cellsF f n) (cellsF_len hf n) (fun k u hk => by
      obtain ⟨i, j, q1, q2, q3⟩ := cellsF_inv hf n k u hk
      obtain ⟨g, o, e, _, hg⟩ := hr i q1
      cases e
      rw [addr_add, q2, ← Nat.add_assoc]
      exact hg j u q3) (by omega) (by omega) (growslice_fits (by omega) (by rw [Nat.zero_add]; exact hb))
  rw [Nat.zero_add] at hr1
  refine ⟨_, _, hr1, ⟨fun i hi => ⟨w.heap.size, 0, rfl, Nat.le_refl _, fun j u hu => ?_⟩, w.heap.size, rfl, Nat.le_refl _⟩, ((Chg.refl _ _).drew).alloc _⟩
  rw [cell_of_row _ w.heap.size _ _ _ _ (heap_alloc_new w.drew _)]
  have h1 := cellsF_at hf n i j u hi hu
  have h2 := (List.getElem?_eq_some_iff.1 h1).1
  simp only [Nat.zero_add, List.append_toArray, List.nil_append]
  rw [Array.getElem?_append_left (by simpa using h2)]
  simpa using h1
end Go.Proofs.Ytnfcmpffihmnmaa
