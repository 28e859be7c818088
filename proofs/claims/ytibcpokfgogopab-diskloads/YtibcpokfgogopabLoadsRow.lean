/-
  DiskLoads: the row, proved out of the walk.
-/
import Derived.Test.YtibcpokfgogopabLoads2
import Derived.ProofKit
import Derived.OpenShut
import Derived.ChangeSlices
import Derived.ChangeOld
import Derived.SizedLaws
namespace Go.Proofs.Ytibcpokfgogopab
open Go.ChangeShapes Go.WideShapes Go.ChangeAt Go.RowKit

theorem own : ownKnob Try.prog.godebug = none := by kernel_rfl
theorem laidOut : laidOutB Try.prog = true := by kernel_rfl
theorem Try.cells5 : Try.prog.cellsOf 5 = 1 := by kernel_rfl
theorem Try.bytes5 : Try.prog.bytesOf 5 = 1 := by kernel_rfl

section
variable {H : Type} {enc : TypeId × Value → H} {W : World} {sp : Nat → Bool} {held : Bool} {fuel : Nat} {cs : List Value} {x : DataW H × List MemPlace}

theorem op_bytes3 (h : DataW.trod enc Try.prog W 0 sp held fuel 22 cs = some x) : ∃ (v : Value) (l : List Int), cs = [v] ∧ Src W v l ∧ (∀ y ∈ l, 0 ≤ y ∧ y ≤ 255) ∧ (∃ a c, v = .slice a l.length c ∧ l.length ≤ c ∧ c ≤ 9223372036854775807) ∧ (l = [] ∨ ∃ elems spare, x.1 = .slice elems spare ∧ elems.length = l.length) := by
  rcases ChangeShapes.open_ints Try.underlying22 Try.underlying5 Try.cells5 h with ⟨rfl, rfl⟩ | ⟨a, len, cap, zs, rfl, _, hl, hcap, hzl, rfl, hc, hw⟩
  · refine ⟨_, [], rfl, .inl ⟨rfl, rfl⟩, ?_, ⟨none, 0, rfl, Nat.le_refl _, by omega⟩, .inl rfl⟩
    intro y hy
    cases hy
  · have hlz : len ≤ zs.length := by rw [hzl]; split <;> omega
    have htl : (zs.take len).length = len := by rw [List.length_take]; omega
    refine ⟨_, zs.take len, rfl, .inr ⟨a, cap, by rw [htl], fun j u hu => ?_⟩, fun y hy => bounds_u8 (hw y (List.mem_of_mem_take hy)), ⟨some a, cap, by rw [htl], by omega, by unfold maxLen at hcap; omega⟩, .inr ⟨_, _, rfl, ?_⟩⟩
    · have hj : j < len := by have := (List.getElem?_eq_some_iff.1 hu).1; rw [bs_len, htl] at this; exact this
      have hcj := hc j (by omega)
      have hc0 := hc 0 (by omega)
      have hs : a.spot = none := by simpa [Addr.add] using World.cell?_spot hc0
      refine ⟨hs, ?_⟩
      obtain ⟨b, o, s⟩ := a
      simp only at hs
      subst hs
      rw [addr_add] at hcj
      rw [hcj, ← hu, bs_get _ _ (by omega)]
      simp only [List.getElem_take]
      rw [List.getD_eq_getElem?_getD, List.getElem?_eq_getElem (by omega)]
      rfl
    · simp [ChangeShapes.lits]

end

theorem loads_any {w : World} {a : Option Addr} {N cap : Nat} {z : Int} {T : List Int} (hs : Src w (.slice a N cap) T) (hN : T.length = N) (hcA : N ≤ cap) (hcB : cap ≤ 9223372036854775807) (hbig : N + 1 ≤ 140737488355328) :
    Calls Try.prog 3 #[.slice a N cap, .int .i64 z] w fun e w' => e = .returned (.bool true) ∧ Below w.heap.size w w' := by
  by_cases h : ∃ S zn, okLoad N z S zn
  · obtain ⟨S, zn, rfl, hT, hk⟩ := h
    have hz := fits_b hk.1
    have hS1 := hk.2.1
    have hpos : 0 < T.length := by
      rw [hN, hT]
      exact Nat.mul_pos (by omega) (by omega)
    obtain ⟨g0, o0, rfl, _⟩ := Src.at hs 0 hpos
    exact loads_yes hs hN hcA hcB hT hk
  · exact loads_no hs hN hbig h

set_option maxRecDepth 100000 in
theorem diskLoads_lifted (os : Os) (started : os.Started) (H : Type) (enc : TypeId × Value → H) :
    ReturnsInHanded {} Try.checked os 3 .any (Rows.diskLoadsSpec.pre6 enc Try.prog Try.f3 Rows.diskLoadsRow.domain false) (Rows.diskLoadsSpec.post enc Try.prog Try.f3 false true false false) := by
  refine returnsInHanded_of_change_sized (C := Try.checked) own started (by kernel_rfl) Try.func3
    (ChangeSpec.witness6 (enc := enc) (C := Try.checked) false ⟨#[], #[.slice none 0 0, .int .i64 0], []⟩ 8 (by kernel_rfl) (by kernel_rfl) (by kernel_rfl) (by kernel_rfl)) ?_
  intro W base args ds gs before hval0 hW hcnd hsz _
  have hval : ∀ (j : Nat) t v, Try.f3.params[j]? = some t → args[j]? = some v → Value.okWide Try.prog W .any base t v := hval0
  have hW' := hW
  obtain ⟨p, q, hA0, hV, rfl, hfz, hnd⟩ := hW
  have hA : DataW.TrodAll enc Try.prog W 0 (fun _ => true) true Try.f3.params.toList args.toList ds p := hA0
  rw [Try.params3] at hA hval
  obtain ⟨v0, vs0, d0, ds0, p0, q0, hargs, rfl, rfl, h0, r0⟩ := trodAll_cons hA
  obtain ⟨v1, vs1, d1, ds1, p1, q1, rfl, rfl, rfl, h1, r1⟩ := trodAll_cons r0
  obtain ⟨rfl, rfl, rfl⟩ := trodAll_nil r1
  obtain rfl : args = #[v0, v1] := by cases args; simp_all
  obtain ⟨rfl, rfl⟩ := trodVars_none hV
  have k0 := h0
  have k1 := h1
  have lt0 : ∀ x ∈ p0, x.block < W.heap.size := by obtain ⟨m, hm⟩ := k0; exact DataW.trod_lt m _ _ _ hm
  have lt1 : ∀ x ∈ p1, x.block < W.heap.size := by obtain ⟨m, hm⟩ := k1; exact DataW.trod_lt m _ _ _ hm
  obtain ⟨f0, hf0⟩ := h0
  obtain ⟨u0, T, hu0, sT, _, cT, lT⟩ := op_bytes3 hf0
  obtain ⟨s0, s1, s2, rfl⟩ := okWide_slice Try.underlying22 (hval 0 22 v0 rfl rfl)
  obtain ⟨z, rfl⟩ := okWide_int Try.underlying3 (hval 1 3 v1 rfl rfl)
  have g0 : [Value.slice s0 s1 s2] = [u0] := hu0
  injection g0 with g0 _
  subst g0
  have hlen : T.length + 1 ≤ 140737488355328 := by
    rcases lT with rfl | ⟨elems, spare, e, hl⟩
    · simp
    · have e : d0 = .slice elems spare := e
      have := sized_slice hsz (j := 0) (t := 22) (e := 5) (elems := elems) (spare := spare) rfl (by simp [e]) Try.underlying22
      have b5 : Try.checked.prog.bytesOf 5 = 1 := Try.bytes5
      rw [b5] at this
      unfold reachBytes at this
      omega
  obtain ⟨a, c, e, hc1, hc2⟩ := cT
  injection e with e1 e2 e3
  subst e1 e3
  clear hA0 hval0
  refine (loads_any sT e2.symm (by omega) hc2 (by omega)).mono fun e W' ⟨he, bel⟩ => ?_
  subst he
  exact ⟨_, rfl, _, _, _, [], _, [], hW', trodAll_mk1 (shut_bool Try.underlying4 _), (trodAll_cons_mk (Below.trod laidOut (by kernel_rfl) (of_decide_eq_true (by kernel_rfl)) k0 bel lt0) (trodAll_cons_mk (Below.trod laidOut (by kernel_rfl) (of_decide_eq_true (by kernel_rfl)) k1 bel lt1) trodAll_mk0)), rfl, bel.frame _, fun h => by cases h⟩

theorem diskLoads_holds : Rows.DiskLoadsSaid :=
  OpenClaim.holds_of_wide 3 Try.f3 rfl rfl rfl rfl rfl rfl rfl ⟨rfl, rfl, rfl, rfl, rfl⟩ rfl rfl rfl rfl rfl (by kernel_rfl) Try.func3 (by kernel_rfl)
    (of_decide_eq_true (by kernel_rfl)) (by unfold Func.isWrapper; first | (rw [if_pos (by decide +kernel)]; kernel_rfl) | (rw [if_neg (by decide +kernel)]; exact ⟨rfl, rfl⟩))
    (fun os started H enc _ => diskLoads_lifted os started H enc)
end Go.Proofs.Ytibcpokfgogopab
