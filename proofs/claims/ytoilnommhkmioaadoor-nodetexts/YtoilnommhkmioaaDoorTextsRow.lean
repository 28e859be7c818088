/-
  NodeTexts: the row and its card, proved out of the walk.
-/
import Derived.Test.YtoilnommhkmioaaDoorTexts
import Derived.Test.YtoilnommhkmioaaDoorOpen
namespace Go.Proofs.YtoilnommhkmioaaDoor
open Go.ChangeShapes Go.WideShapes Go.ChangeAt Go.RowKit

theorem door_met (os : Os) (args : Array Value) : laidMetH Tryd.prog laidT ((World.doorLaid Tryd.prog 400 os).forCall (fun _ _ => 0) ⟨#[], args, []⟩).memory :=
  laidMetH_of_parts3 (fuel := 8) (laidMet_of_run' 8 (by kernel_rfl) (by kernel_rfl)) (by kernel_rfl) (by kernel_rfl)

theorem bytes_len {H : Type} {ts : List TypeId} {ds : List (DataW H)} {j : Nat} {d : DataW H} {T : List Int} (hsz : (DataW.weightsEach Tryd.prog ts ds).all (· ≤ reachBytes) = true) (ht : ts[j]? = some 22) (hd : ds[j]? = some d) (lT : T = [] ∨ ∃ elems spare, d = .slice elems spare ∧ elems.length = T.length) : T.length + 200 ≤ 140737488355328 := by
  rcases lT with rfl | ⟨elems, spare, rfl, hl⟩
  · simp
  · have := sized_slice hsz (j := j) (t := 22) (e := 5) (elems := elems) (spare := spare) ht hd Tryd.underlying22
    rw [Tryd.bytes5] at this
    unfold reachBytes at this
    omega
theorem kid_len {H : Type} {ts : List TypeId} {ds : List (DataW H)} {j : Nat} {d : DataW H} {T : List Int} (hsz : (DataW.weightsEach Tryd.prog ts ds).all (· ≤ reachBytes) = true) (ht : ts[j]? = some 29) (hd : ds[j]? = some d) (lT : T = [] ∨ ∃ d0 d2 d3 d4 elems spare, d = .agg [d0, .slice elems spare, d2, d3, d4] ∧ elems.length = T.length) : T.length + 200 ≤ 140737488355328 := by
  rcases lT with rfl | ⟨d0, d2, d3, d4, elems, spare, rfl, hl⟩
  · simp
  · have := List.all_eq_true.1 hsz _ (DataW.weights_mem_each ht hd ((elems.length + spare.length) * Tryd.prog.bytesOf 5) (by
      rw [DataW.weights, Tryd.underlying29]
      exact DataW.weights_mem_each (j := 1) (t := 22) rfl rfl _ (by simp [DataW.weights, Tryd.underlying22])))
    rw [Tryd.bytes5] at this
    have := of_decide_eq_true this
    unfold reachBytes at this
    omega

set_option maxRecDepth 100000 in
theorem texts_lifted (os : Os) (started : os.Started) (H : Type) (enc : TypeId × Value → H) :
    ReturnsInHanded {} Tryd.checked os 4 .any (fun w args => (Rows.nodeTextsSpec.pre enc Tryd.prog Tryd.f4 [] false w args ∧ laidMetH Tryd.prog laidT w) ∧ sizedMet enc Tryd.prog Tryd.f4 (OpenSpec.ofChange Rows.nodeTextsSpec) false w args)
      (Rows.nodeTextsSpec.post enc Tryd.prog Tryd.f4 false true false false) := by
  refine returnsInHanded_of_change_and (C := Tryd.checked) (X := fun w _ => laidMetH Tryd.prog laidT w) (fun _ _ _ hh h => h.of_heap hh) ownS started (by kernel_rfl) Tryd.func4
    (ChangeSpec.witness_shaped (enc := enc) (C := Tryd.checked) (os := os) (X := fun w _ => laidMetH Tryd.prog laidT w) false (World.doorLaid Tryd.prog 400 os) #[.slice none 0 0, .agg (kidC 0 0 (.slice none 0 0) (List.replicate 33 0) (List.replicate 32 0)).toArray, .agg (bs (List.replicate 32 0)).toArray, .int .u64 0] 8 rfl (World.shaped_of_RefB (by kernel_rfl) (by kernel_rfl)) (by kernel_rfl) (by kernel_rfl) (by kernel_rfl) (door_met os _)) ?_
  intro W base args ds gs before hval0 hW _ hsz hL _
  have hval : ∀ (j : Nat) t v, Tryd.f4.params[j]? = some t → args[j]? = some v → Value.okWide Tryd.prog W .any base t v := hval0
  have hW' := hW
  obtain ⟨p, q, hA0, hV, rfl, hfz, hnd⟩ := hW
  have hA : DataW.TrodAll enc Tryd.prog W 0 (fun _ => true) true Tryd.f4.params.toList args.toList ds p := hA0
  rw [Tryd.params4] at hA hval
  obtain ⟨v0, vs0, d0, ds0, p0, q0, hargs, rfl, rfl, h0, r0⟩ := trodAll_cons hA
  obtain ⟨v2, vs2, d2, ds2, p2, q2, rfl, rfl, rfl, h2, r2⟩ := trodAll_cons r0
  obtain ⟨v3, vs3, d3, ds3, p3, q3, rfl, rfl, rfl, h3, r3⟩ := trodAll_cons r2
  obtain ⟨v4, vs4, d4, ds4, p4, q4, rfl, rfl, rfl, h4, r4⟩ := trodAll_cons r3
  obtain ⟨rfl, rfl, rfl⟩ := trodAll_nil r4
  obtain rfl : args = #[v0, v2, v3, v4] := by cases args; simp_all
  obtain ⟨rfl, rfl⟩ := trodVars_none hV
  have k0 := h0
  have k2 := h2
  have k3 := h3
  have k4 := h4
  have lt0 : ∀ x ∈ p0, x.block < W.heap.size := by obtain ⟨m, hm⟩ := k0; exact DataW.trod_lt m _ _ _ hm
  have lt2 : ∀ x ∈ p2, x.block < W.heap.size := by obtain ⟨m, hm⟩ := k2; exact DataW.trod_lt m _ _ _ hm
  have lt3 : ∀ x ∈ p3, x.block < W.heap.size := by obtain ⟨m, hm⟩ := k3; exact DataW.trod_lt m _ _ _ hm
  have lt4 : ∀ x ∈ p4, x.block < W.heap.size := by obtain ⟨m, hm⟩ := k4; exact DataW.trod_lt m _ _ _ hm
  obtain ⟨f0, hf0⟩ := h0
  obtain ⟨f2, hf2⟩ := h2
  obtain ⟨f3, hf3⟩ := h3
  obtain ⟨f4, hf4⟩ := h4
  obtain ⟨a0, b0, c0, rfl⟩ := okWide_slice Tryd.underlying22 (hval 0 22 v0 rfl rfl)
  obtain ⟨cs2, rfl⟩ := okWide_struct Tryd.underlying29 (hval 1 29 v2 rfl rfl)
  obtain ⟨cs3, rfl⟩ := okWide_array Tryd.underlying25 (hval 2 25 v3 rfl rfl)
  obtain ⟨n, rfl⟩ := okWide_int Tryd.underlying23 (hval 3 23 v4 rfl rfl)
  obtain ⟨u0, m1, hu0, s1, _, _, l1⟩ := op_bytes3 hf0
  obtain ⟨lv, cn, kv, m, ad, y, e2, hlv, c0', c1', had, hy, sm, lm⟩ := op_kid (cs := cs2) hf2
  obtain ⟨x, hx, e3, _⟩ := op_sumS (cs := cs3) hf3
  have g0 : [Value.slice a0 b0 c0] = [u0] := hu0
  injection g0 with g0 _
  subst g0 e2 e3
  obtain ⟨n', g4, _, hn⟩ := DataW.trod_int Tryd.underlying23 hf4
  have g4 : [Value.int .u64 n] = [Value.int .u64 n'] := g4
  injection g4 with g4 _
  injection g4 with _ g4
  subst g4
  have bn := bounds_u64 hn
  obtain ⟨nn, rfl⟩ : ∃ k : Nat, n = (k : Int) := ⟨n.toNat, by omega⟩
  obtain ⟨cc, rfl⟩ : ∃ k : Nat, cn = (k : Int) := ⟨cn.toNat, by omega⟩
  have T := tags_of_laid hL
  have z1 : m1.length + 200 ≤ 140737488355328 := bytes_len hsz (j := 0) rfl rfl l1
  have z3 : m.length + 200 ≤ 140737488355328 := kid_len hsz (j := 1) rfl rfl lm
  clear hA0 hval0
  refine (texts_any T s1 sm lv cc nn hlv (by omega) (by omega) ad y x had hy hx z1 z3).mono fun e W' ⟨he, bel⟩ => ?_
  subst he
  exact ⟨_, rfl, _, _, _, [], _, [], hW', trodAll_mk1 (shut_bool Tryd.underlying4 _), trodAll_cons_mk (Below.trod laidOutS (by kernel_rfl) (of_decide_eq_true (by kernel_rfl)) k0 bel lt0) (trodAll_cons_mk (Below.trod laidOutS (by kernel_rfl) (of_decide_eq_true (by kernel_rfl)) k2 bel lt2) (trodAll_cons_mk (Below.trod laidOutS (by kernel_rfl) (of_decide_eq_true (by kernel_rfl)) k3 bel lt3) (trodAll_cons_mk (Below.trod laidOutS (by kernel_rfl) (of_decide_eq_true (by kernel_rfl)) k4 bel lt4) trodAll_mk0))), rfl, bel.frame _, fun h => by cases h⟩

theorem nodeTexts_said : Rows.NodeTextsSaid :=
  OpenClaim.holds_of_wide 4 Tryd.f4 rfl rfl rfl rfl rfl rfl rfl ⟨rfl, rfl, rfl, rfl, rfl⟩ rfl rfl rfl rfl rfl (by kernel_rfl) Tryd.func4 (by kernel_rfl)
    (of_decide_eq_true (by kernel_rfl)) (by unfold Func.isWrapper; first | (rw [if_pos (by decide +kernel)]; kernel_rfl) | (rw [if_neg (by decide +kernel)]; exact ⟨rfl, rfl⟩))
    (fun os started H enc _ => texts_lifted os started H enc)

theorem nodeTexts_holds : Rows.NodeTextsCardSaid :=
  Claim7.holds_tied_plain_at .later [] [.data] true (true, "e0d7fcd91ead3d5dbfec08e6425b2726b925e9dc844450f09956d94bde415501") false
    nodeTexts_said (fun _ h => by cases h) (by kernel_rfl) (fun _ h => by cases h) nodeTexts_row_tie rfl ⟨rfl, rfl⟩ (by kernel_rfl) rfl
    (fun f fn hf hfn => by
      obtain rfl : f = 4 := Option.some.inj ((show Tryd.prog.funcNamed "witness/witnesslaw7.NodeTexts" = some 4 by kernel_rfl).symm.trans hf) |>.symm
      obtain rfl : fn = Tryd.f4 := (Option.some.inj (Tryd.func4.symm.trans hfn)).symm
      exact ⟨by kernel_rfl, fun j t ht => by
        rw [Tryd.params4] at ht
        have hm : t ∈ [22, 29, 25, 23] := by simpa using Array.mem_of_getElem? ht
        have hall : ([22, 29, 25, 23].all fun u => !Tryd.prog.wantsStandIn u) = true := by kernel_rfl
        exact (show Tryd.prog.wantsStandIn t = false by simpa using List.all_eq_true.1 hall t hm)⟩)
    (by kernel_rfl)
end Go.Proofs.YtoilnommhkmioaaDoor
