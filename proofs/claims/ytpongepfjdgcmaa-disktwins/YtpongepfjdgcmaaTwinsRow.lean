/-
  DiskTwins: the row, proved out of the walk.
-/
import Derived.Test.YtpongepfjdgcmaaTwins
import Derived.Test.YtpongepfjdgcmaaOpenK
import Derived.SizedLaws
import Derived.ChangeOld
namespace Go.Proofs.Ytpongepfjdgcmaa
open Go.ChangeShapes Go.WideShapes Go.ChangeAt Go.RowKit

set_option maxRecDepth 100000 in
theorem twins_lifted (os : Os) (started : os.Started) (H : Type) (enc : TypeId × Value → H) :
    ReturnsInHanded {} Try.checked os 8 .any (Rows.diskTwinsSpec.pre6 enc Try.prog Try.f8 Rows.diskTwinsRow.domain false) (Rows.diskTwinsSpec.post enc Try.prog Try.f8 false true false false) := by
  refine returnsInHanded_of_change_sized (C := Try.checked) ownA started (by kernel_rfl) Try.func8
    (ChangeSpec.witness6 (enc := enc) (C := Try.checked) false ⟨#[], #[.int .i64 0, .int .i64 0, .slice none 0 0, .slice none 0 0], []⟩ 8 (by kernel_rfl) (by kernel_rfl) (by kernel_rfl) (by kernel_rfl)) ?_
  intro W base args ds gs before hval0 hW hcnd hsz _
  have hval : ∀ (j : Nat) t v, Try.f8.params[j]? = some t → args[j]? = some v → Value.okWide Try.prog W .any base t v := hval0
  have hW' := hW
  obtain ⟨p, q, hA0, hV, rfl, hfz, hnd⟩ := hW
  have hA : DataW.TrodAll enc Try.prog W 0 (fun _ => true) true Try.f8.params.toList args.toList ds p := hA0
  rw [Try.params8] at hA hval
  obtain ⟨v0, vs0, d0, ds0, p0, q0, hargs, rfl, rfl, h0, r0⟩ := trodAll_cons hA
  obtain ⟨v1, vs1, d1, ds1, p1, q1, rfl, rfl, rfl, h1, r1⟩ := trodAll_cons r0
  obtain ⟨v2, vs2, d2, ds2, p2, q2, rfl, rfl, rfl, h2, r2⟩ := trodAll_cons r1
  obtain ⟨v3, vs3, d3, ds3, p3, q3, rfl, rfl, rfl, h3, r3⟩ := trodAll_cons r2
  obtain ⟨rfl, rfl, rfl⟩ := trodAll_nil r3
  obtain rfl : args = #[v0, v1, v2, v3] := by cases args; simp_all
  obtain ⟨rfl, rfl⟩ := trodVars_none hV
  have k0 := h0
  have k1 := h1
  have k2 := h2
  have k3 := h3
  have lt0 : ∀ x ∈ p0, x.block < W.heap.size := by obtain ⟨m, hm⟩ := k0; exact DataW.trod_lt m _ _ _ hm
  have lt1 : ∀ x ∈ p1, x.block < W.heap.size := by obtain ⟨m, hm⟩ := k1; exact DataW.trod_lt m _ _ _ hm
  have lt2 : ∀ x ∈ p2, x.block < W.heap.size := by obtain ⟨m, hm⟩ := k2; exact DataW.trod_lt m _ _ _ hm
  have lt3 : ∀ x ∈ p3, x.block < W.heap.size := by obtain ⟨m, hm⟩ := k3; exact DataW.trod_lt m _ _ _ hm
  obtain ⟨f2, hf2⟩ := h2
  obtain ⟨f3, hf3⟩ := h3
  obtain ⟨s, rfl⟩ := okWide_int Try.underlying3 (hval 0 3 v0 rfl rfl)
  obtain ⟨z, rfl⟩ := okWide_int Try.underlying3 (hval 1 3 v1 rfl rfl)
  obtain ⟨a', N', c', rfl⟩ := okWide_slice Try.underlying42 (hval 2 42 v2 rfl rfl)
  obtain ⟨b', M', e', rfl⟩ := okWide_slice Try.underlying42 (hval 3 42 v3 rfl rfl)
  obtain ⟨a, N, c, ac, kls, hcs, hac, hkb, hlsA, lT⟩ := op_acts2 hf2
  obtain ⟨a2, N2, c2, ac2, kls2, hcs5, hac2, hkb2, hlsB, lT2⟩ := op_acts2 hf3
  have hcs2 : [Value.slice a' N' c'] = [Value.slice a N c] := hcs
  injection hcs2 with hcs2 _
  injection hcs2 with e1 e2 e4
  subst e1 e2 e4
  have hcs6 : [Value.slice b' M' e'] = [Value.slice a2 N2 c2] := hcs5
  injection hcs6 with hcs6 _
  injection hcs6 with e1 e2 e4
  subst e1 e2 e4
  have b5 : Try.checked.prog.bytesOf 45 = 88 := Try.b45
  have hlen : N' * 88 ≤ 140737488351232 := by
    rcases lT with rfl | ⟨elems, spare, e, hl⟩
    · omega
    · have e : d2 = .slice elems spare := e
      have := sized_slice hsz (j := 2) (t := 42) (e := 45) (elems := elems) (spare := spare) rfl (by simp [e]) Try.underlying42
      rw [b5] at this
      unfold reachBytes at this
      omega
  have hlen2 : M' * 88 ≤ 140737488351232 := by
    rcases lT2 with rfl | ⟨elems, spare, e, hl⟩
    · omega
    · have e : d3 = .slice elems spare := e
      have := sized_slice hsz (j := 3) (t := 42) (e := 45) (elems := elems) (spare := spare) rfl (by simp [e]) Try.underlying42
      rw [b5] at this
      unfold reachBytes at this
      omega
  clear hA0 hval0
  refine (twins_any s z (c1 := c') ⟨hac, hkb, hlsA, Nat.le_refl _⟩ hlen (c2 := e') ⟨hac2, hkb2, hlsB, Nat.le_refl _⟩ hlen2).mono fun e W' ⟨he, bel⟩ => ?_
  subst he
  exact ⟨_, rfl, _, _, _, [], _, [], hW', trodAll_mk1 (shut_bool Try.underlying4 _), (trodAll_cons_mk (Below.trod laidOutA (by kernel_rfl) (of_decide_eq_true (by kernel_rfl)) k0 bel lt0) (trodAll_cons_mk (Below.trod laidOutA (by kernel_rfl) (of_decide_eq_true (by kernel_rfl)) k1 bel lt1) (trodAll_cons_mk (Below.trod laidOutA (by kernel_rfl) (of_decide_eq_true (by kernel_rfl)) k2 bel lt2) (trodAll_cons_mk (Below.trod laidOutA (by kernel_rfl) (of_decide_eq_true (by kernel_rfl)) k3 bel lt3) trodAll_mk0)))), rfl, bel.frame _, fun h => by cases h⟩

theorem diskTwins_holds : Rows.DiskTwinsSaid :=
  OpenClaim.holds_of_wide 8 Try.f8 rfl rfl rfl rfl rfl rfl rfl ⟨rfl, rfl, rfl, rfl, rfl⟩ rfl rfl rfl rfl rfl (by kernel_rfl) Try.func8 (by kernel_rfl)
    (of_decide_eq_true (by kernel_rfl)) (by unfold Func.isWrapper; first | (rw [if_pos (by decide +kernel)]; kernel_rfl) | (rw [if_neg (by decide +kernel)]; exact ⟨rfl, rfl⟩))
    (fun os started H enc _ => twins_lifted os started H enc)
end Go.Proofs.Ytpongepfjdgcmaa
