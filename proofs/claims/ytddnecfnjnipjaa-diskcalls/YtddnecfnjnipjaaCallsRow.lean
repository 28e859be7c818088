import Derived.Test.YtddnecfnjnipjaaPlN
import Derived.Test.YtddnecfnjnipjaaOpenK
import Derived.SizedLaws
import Derived.ChangeOld
/-
  A story that came in, opened; how long its lists are.
-/
namespace Go.Proofs.Ytddnecfnjnipjaa
open Go.ChangeShapes Go.WideShapes Go.ChangeAt Go.RowKit

theorem Try.c22 : Try.prog.cellsOf 22 = 2 := by kernel_rfl
theorem Try.c23 : Try.prog.cellsOf 23 = 1 := by kernel_rfl
theorem Try.c25 : Try.prog.cellsOf 25 = 5 := by kernel_rfl
theorem Try.b4 : Try.prog.bytesOf 4 = 1 := by kernel_rfl

section
variable {H : Type} {P : Program}
theorem weights_all {e : TypeId} : ∀ {ds : List (DataW H)} {j : Nat} {d : DataW H}, ds[j]? = some d → ∀ n ∈ d.weights P e, n ∈ DataW.weightsAll P e ds
  | d0 :: ds, 0, d, hd, n, hn => by
    simp only [List.getElem?_cons_zero, Option.some.injEq] at hd
    subst hd
    simp only [DataW.weightsAll, List.mem_append]
    exact Or.inl hn
  | d0 :: ds, j + 1, d, hd, n, hn => by
    simp only [List.getElem?_cons_succ] at hd
    simp only [DataW.weightsAll, List.mem_append]
    exact Or.inr (weights_all hd n hn)
  | [], _, _, hd, _, _ => by simp at hd
theorem weights_field {t ft : TypeId} {fs : Array Field} {parts : List (DataW H)} {j : Nat} {d : DataW H} (hu : P.underlying t = some (.struct fs)) (hf : (fs.toList.map (·.type))[j]? = some ft) (hd : parts[j]? = some d) : ∀ n ∈ d.weights P ft, n ∈ (DataW.agg parts).weights P t := fun n hn => by
  simp only [DataW.weights, hu]
  exact DataW.weights_mem_each hf hd n hn
theorem weights_elem {t e : TypeId} {elems spare : List (DataW H)} {j : Nat} {d : DataW H} (hu : P.underlying t = some (.slice e)) (hd : elems[j]? = some d) : ∀ n ∈ d.weights P e, n ∈ (DataW.slice elems spare).weights P t := fun n hn => by
  simp only [DataW.weights, hu, List.mem_cons, List.mem_append]
  exact .inr (.inl (weights_all hd n hn))
theorem weights_slice {t e : TypeId} {elems spare : List (DataW H)} (hu : P.underlying t = some (.slice e)) : (elems.length + spare.length) * P.bytesOf e ∈ (DataW.slice elems spare).weights P t := by
  simp [DataW.weights, hu]
end

section
variable {H : Type} {enc : TypeId × Value → H} {W : World} {sp : Nat → Bool} {held : Bool} {fuel : Nat} {cs : List Value} {x : DataW H × List MemPlace}

theorem kb_len {a : Option Addr} {N c : Nat} (h : DataW.trod enc Try.prog W 0 sp held fuel 42 [.slice a N c] = some x) : N = 0 ∨ N ∈ x.1.weights Try.prog 42 ∨ ∃ m, N ≤ m ∧ m ∈ x.1.weights Try.prog 42 := by
  rcases Go.Deep.open_slice Try.underlying42 h with ⟨e, rfl⟩ | ⟨a', len, cap, m, n, D, Pl, e, _, hl, hcap, hm, rfl, hc⟩
  · injection e with e _
    injection e with _ e _
    exact .inl e
  · injection e with e _
    injection e with _ e _
    refine .inr (.inr ⟨_, ?_, weights_slice Try.underlying42⟩)
    rw [Try.b4]
    simp
    omega

set_option maxRecDepth 100000 in
/-- How many bools act i has. -/
theorem kn_of {a : Option Addr} {N c : Nat} {ac : Nat → Ac} (h : DataW.trod enc Try.prog W 0 sp held fuel 23 [.slice a N c] = some x) (hac : Acs W a N ac) {i : Nat} (hi : i < N) : (ac i).kn = 0 ∨ ∃ m, (ac i).kn ≤ m ∧ m ∈ x.1.weights Try.prog 23 := by
  rcases Go.Deep.open_slice Try.underlying23 h with ⟨e, rfl⟩ | ⟨a', len, cap, m, n, D, Pl, e, _, hl, hcap, hm, rfl, hc⟩
  · injection e with e _
    injection e with _ e _
    omega
  · injection e with e _
    injection e with e1 e2 e3
    subst e2
    have hlm : N ≤ m := by rw [hm]; split <;> omega
    obtain ⟨cs', h1, h2⟩ := hc i (by omega)
    obtain ⟨g, o, ea, hcell⟩ := hac.row i hi
    rw [e1] at ea
    injection ea with ea
    subst ea
    rw [Try.c45] at h1
    obtain ⟨b, kl, rfl, _⟩ := op_act2 h2
    obtain ⟨_, h4, h5⟩ := World.cells?_some h1
    have h6 := h5 7 (by omega)
    have h7 := hcell 7 _ rfl
    rw [addr_add, addr_add] at h6
    have h8 : (b.cells)[7]? = some (.slice (ac i).ka (ac i).kn (ac i).kc) := by rw [← h6, h7]
    have h9 : Value.slice b.ka b.kn b.kc = .slice (ac i).ka (ac i).kn (ac i).kc := Option.some.inj h8
    injection h9 with _ h9 _
    rw [← h9]
    obtain ⟨xs, m2, _, hx, _, hxs, hel⟩ := DataW.trod_struct Try.underlying44 h2
    have hxs : xs.length = 9 := hxs
    have e7 : DataW.trod enc Try.prog W 0 sp held m2 42 [.slice b.ka b.kn b.kc] = xs[7]? := hel 7 _ rfl
    have g7 : xs[7]? = some (xs[7]'(by omega)) := List.getElem?_eq_getElem (by omega)
    rw [g7] at e7
    have hD : D i = .agg (xs.map (·.1)) := congrArg (·.1) hx
    have up : ∀ q, q ∈ (xs[7]'(by omega)).1.weights Try.prog 42 → q ∈ (DataW.slice ((List.range N).map D) ((List.range (m - N)).map fun j => D (N + j))).weights Try.prog 23 := fun q hq => by
      refine weights_elem Try.underlying23 (j := i) (d := D i) (by simp [hi]) q ?_
      rw [hD]
      exact weights_field Try.underlying44 (j := 7) (ft := 42) rfl (by rw [List.getElem?_map, g7]; rfl) q hq
    rcases kb_len e7 with e | e | ⟨q, hq, e⟩
    · exact .inl e
    · exact .inr ⟨_, Nat.le_refl _, up _ e⟩
    · exact .inr ⟨q, hq, up _ e⟩

theorem five {cs : List Value} (h : cs.length = 5) : ∃ v0 v1 v2 v3 v4, cs = [v0, v1, v2, v3, v4] := by
  match cs, h with
  | [v0, v1, v2, v3, v4], _ => exact ⟨v0, v1, v2, v3, v4, rfl⟩

set_option maxRecDepth 100000 in
theorem op_two {v0 v1 : Value} (h : DataW.trod enc Try.prog W 0 sp held fuel 22 [v0, v1] = some x) : ∃ n0 n1 : Int, v0 = .int .i64 n0 ∧ v1 = .int .i64 n1 := by
  obtain ⟨xs, m, _, _, _, hxs, hel⟩ := DataW.trod_array Try.underlying22 h
  have g : ∀ i, (h : i < 2) → xs[i]? = some (xs[i]'(by omega)) := fun i h => List.getElem?_eq_getElem (by omega)
  have e0 := hel 0 (by omega)
  have e1 := hel 1 (by omega)
  rw [Try.c3, g 0 (by omega)] at e0
  rw [Try.c3, g 1 (by omega)] at e1
  obtain ⟨n0, c0, _, _⟩ := DataW.trod_int Try.underlying3 e0
  obtain ⟨n1, c1, _, _⟩ := DataW.trod_int Try.underlying3 e1
  have c0 : [v0] = [.int .i64 n0] := c0
  have c1 : [v1] = [.int .i64 n1] := c1
  simp only [List.cons.injEq, and_true] at c0 c1
  exact ⟨n0, n1, c0, c1⟩

set_option maxRecDepth 100000 in
theorem op_story (h : DataW.trod enc Try.prog W 0 sp held fuel 25 cs = some x) : ∃ (s0 s1 z0 z1 : Int) (a : Option Addr) (N c : Nat) (ac : Nat → Ac) (kls : Nat → List Bool), cs = [.int .i64 s0, .int .i64 s1, .int .i64 z0, .int .i64 z1, .slice a N c] ∧ Acs W a N ac ∧ (∀ i, i < N → KB W (ac i).ka (ac i).kn (kls i)) ∧ (∀ i, i < N → -9223372036854775808 ≤ (ac i).less ∧ (ac i).less ≤ 9223372036854775807) ∧ (N = 0 ∨ ∃ m, N * 88 ≤ m ∧ m ∈ x.1.weights Try.prog 25) ∧ ∀ i, i < N → (ac i).kn = 0 ∨ ∃ m, (ac i).kn ≤ m ∧ m ∈ x.1.weights Try.prog 25 := by
  obtain ⟨xs, m, _, rfl, hl, hxs, hel⟩ := DataW.trod_struct Try.underlying25 h
  have hxs : xs.length = 3 := hxs
  rw [Try.c25] at hl
  obtain ⟨v0, v1, v2, v3, v4, rfl⟩ := five hl
  have g : ∀ i, (h : i < 3) → xs[i]? = some (xs[i]'(by omega)) := fun i h => List.getElem?_eq_getElem (by omega)
  have e0 : DataW.trod enc Try.prog W 0 sp held m 22 [v0, v1] = xs[0]? := hel 0 _ rfl
  have e1 : DataW.trod enc Try.prog W 0 sp held m 22 [v2, v3] = xs[1]? := hel 1 _ rfl
  have e2 : DataW.trod enc Try.prog W 0 sp held m 23 [v4] = xs[2]? := hel 2 _ rfl
  rw [g 0 (by omega)] at e0
  rw [g 1 (by omega)] at e1
  rw [g 2 (by omega)] at e2
  obtain ⟨s0, s1, rfl, rfl⟩ := op_two e0
  obtain ⟨z0, z1, rfl, rfl⟩ := op_two e1
  obtain ⟨a, N, c, ac, kls, hv, hac, hkb, hls, lT⟩ := op_acts2 e2
  have hv : v4 = .slice a N c := by injection hv
  subst hv
  have up : ∀ q, q ∈ (xs[2]'(by omega)).1.weights Try.prog 23 → q ∈ (DataW.agg (xs.map (·.1))).weights Try.prog 25 := fun q hq =>
    weights_field Try.underlying25 (j := 2) (ft := 23) rfl (by rw [List.getElem?_map, g 2 (by omega)]; rfl) q hq
  refine ⟨s0, s1, z0, z1, a, N, c, ac, kls, rfl, hac, hkb, hls, ?_, fun i hi => ?_⟩
  · rcases lT with e | ⟨elems, spare, e, hl⟩
    · exact .inl e
    · refine .inr ⟨(elems.length + spare.length) * Try.prog.bytesOf 44, ?_, up _ ?_⟩
      · rw [Try.b45, ← hl]; omega
      · rw [e]; exact weights_slice Try.underlying23
  · rcases kn_of e2 hac hi with e | ⟨q, hq, e⟩
    · exact .inl e
    · exact .inr ⟨q, hq, up q e⟩
end

set_option maxRecDepth 100000 in
theorem okWide_struct {W : World} {base : Nat} {t : TypeId} {v : Value} {fs : Array Field} (hu : Try.prog.underlying t = some (.struct fs)) (hv : Value.okWide Try.prog W .any base t v) : ∃ cs : List Value, v = .agg cs.toArray := by
  obtain ⟨cs, rfl, _, _⟩ : ∃ cs, v = .agg cs ∧ cs.size = Try.prog.cellsOf t ∧ Row.okWide Try.prog W .any base t cs := by
    simpa [Value.okWide, hu] using hv
  exact ⟨cs.toList, by simp⟩
end Go.Proofs.Ytddnecfnjnipjaa

/-
  DiskCalls: the row, proved out of the walk.
-/
namespace Go.Proofs.Ytddnecfnjnipjaa
open Go.ChangeShapes Go.WideShapes Go.ChangeAt Go.RowKit

theorem AcK.box {w : World} {aa : Option Addr} {NN : Nat} {ac : Nat → Ac} {kls : Nat → List Bool} (h : AcK w w.heap.size aa NN ac kls) (ob : Obj) : AcK (w.alloc ob) (w.alloc ob).heap.size aa NN ac kls := by
  have bl : Below w.heap.size w (w.alloc ob) := (Below.refl _ _).alloc (Nat.le_refl _) _
  exact ⟨⟨fun i hi => h.cell bl hi, h.acs.nm, h.acs.fl⟩, fun i hi => h.kept bl hi, h.ls, Nat.le_refl _⟩

set_option maxRecDepth 100000 in
set_option maxHeartbeats 2000000 in
theorem calls_any {w : World} (s0 s1 z0 z1 : Int) {aa : Option Addr} {NN acp : Nat} {ac : Nat → Ac} {kls : Nat → List Bool} (hac : AcK w w.heap.size aa NN ac kls) (hkn : ∀ i, i < NN → (ac i).kn ≤ 140737488355328) (hNN : NN < 2199023255551) :
    Calls Try.prog 6 #[.agg (storyC s0 s1 z0 z1 (.slice aa NN acp)).toArray] w fun e w' => e = .returned (.bool true) ∧ Below w.heap.size w w' := by
  have HAC : Hid _ := hac.box (.cells (storyC s0 s1 z0 z1 (.slice aa NN acp)).toArray 25)
  have HKN : Hid _ := hkn
  have BL : Hid _ := ((Below.refl w.heap.size w).alloc (Nat.le_refl _) (.cells (storyC s0 s1 z0 z1 (.slice aa NN acp)).toArray 25))
  clear hac hkn
  go_enter Try.func6, Try.ntmps6
  go_wp2_with (refine wpList_load_part rfl 25 (.tmp 1) rfl w.heap.size 0 (storyC s0 s1 z0 z1 (.slice aa NN acp)) rfl (Blk.made _ _ _) (by simp [storyC]) Try.underlying25 rfl (by kernel_rfl) ?_)
  refine Calls.mono (plays_all s0 s1 z0 z1 HAC.out HKN.out hNN) ?_
  rintro e w1 ⟨rfl, b1⟩
  have B1 : Hid _ := BL.out.trans (b1.mono BL.out.size)
  clear b1
  go_wp2_with fail
  go_ret
  exact ⟨rfl, B1.out⟩

set_option maxRecDepth 100000 in
theorem calls_lifted (os : Os) (started : os.Started) (H : Type) (enc : TypeId × Value → H) :
    ReturnsInHanded {} Try.checked os 6 .any (Rows.diskCallsSpec.pre6 enc Try.prog Try.f6 Rows.diskCallsRow.domain false) (Rows.diskCallsSpec.post enc Try.prog Try.f6 false true false false) := by
  refine returnsInHanded_of_change_sized (C := Try.checked) ownA started (by kernel_rfl) Try.func6
    (ChangeSpec.witness6 (enc := enc) (C := Try.checked) false ⟨#[], #[.agg (storyC 0 0 0 0 (.slice none 0 0)).toArray], []⟩ 8 (by kernel_rfl) (by kernel_rfl) (by kernel_rfl) (by kernel_rfl)) ?_
  intro W base args ds gs before hval0 hW hcnd hsz _
  have hval : ∀ (j : Nat) t v, Try.f6.params[j]? = some t → args[j]? = some v → Value.okWide Try.prog W .any base t v := hval0
  have hW' := hW
  obtain ⟨p, q, hA0, hV, rfl, hfz, hnd⟩ := hW
  have hA : DataW.TrodAll enc Try.prog W 0 (fun _ => true) true Try.f6.params.toList args.toList ds p := hA0
  rw [Try.params6] at hA hval
  obtain ⟨v0, vs0, d0, ds0, p0, q0, hargs, rfl, rfl, h0, r0⟩ := trodAll_cons hA
  obtain ⟨rfl, rfl, rfl⟩ := trodAll_nil r0
  obtain rfl : args = #[v0] := by cases args; simp_all
  obtain ⟨rfl, rfl⟩ := trodVars_none hV
  have k0 := h0
  have lt0 : ∀ x ∈ p0, x.block < W.heap.size := by obtain ⟨m, hm⟩ := k0; exact DataW.trod_lt m _ _ _ hm
  obtain ⟨f0, hf0⟩ := h0
  obtain ⟨cs, rfl⟩ := okWide_struct Try.underlying25 (hval 0 25 v0 rfl rfl)
  obtain ⟨s0, s1, z0, z1, a, NN, c, ac, kls, hcs, hac, hkb, hls, hN, hk⟩ := op_story hf0
  have hcs : cs = storyC s0 s1 z0 z1 (.slice a NN c) := hcs
  subst hcs
  have wt : ∀ m, m ∈ d0.weights Try.prog 25 → m ≤ 140737488351232 := fun m hm => by
    have h1 := List.all_eq_true.1 hsz m (DataW.weights_mem_each (j := 0) (t := 25) (d := d0) rfl rfl m hm)
    have h2 : m ≤ reachBytes := by simpa using h1
    unfold reachBytes at h2
    omega
  have hNN : NN < 2199023255551 := by
    rcases hN with e | ⟨m, h1, h2⟩
    · omega
    · have := wt m h2
      omega
  have hkn : ∀ i, i < NN → (ac i).kn ≤ 140737488355328 := fun i hi => by
    rcases hk i hi with e | ⟨m, h1, h2⟩
    · omega
    · have := wt m h2
      omega
  clear hA0 hval0
  refine (calls_any s0 s1 z0 z1 ⟨hac, hkb, hls, Nat.le_refl _⟩ hkn hNN).mono fun e W' ⟨he, bel⟩ => ?_
  subst he
  exact ⟨_, rfl, _, _, _, [], _, [], hW', trodAll_mk1 (shut_bool Try.underlying4 _), (trodAll_cons_mk (Below.trod laidOutA (by kernel_rfl) (of_decide_eq_true (by kernel_rfl)) k0 bel lt0) trodAll_mk0), rfl, bel.frame _, fun h => by cases h⟩

theorem diskCalls_holds : Rows.DiskCallsSaid :=
  OpenClaim.holds_of_wide 6 Try.f6 rfl rfl rfl rfl rfl rfl rfl ⟨rfl, rfl, rfl, rfl, rfl⟩ rfl rfl rfl rfl rfl (by kernel_rfl) Try.func6 (by kernel_rfl)
    (of_decide_eq_true (by kernel_rfl)) (by unfold Func.isWrapper; first | (rw [if_pos (by decide +kernel)]; kernel_rfl) | (rw [if_neg (by decide +kernel)]; exact ⟨rfl, rfl⟩))
    (fun os started H enc _ => calls_lifted os started H enc)
end Go.Proofs.Ytddnecfnjnipjaa
