/-
  DiskImages: the row, proved out of the walk.
-/
import Derived.Test.YtddnecfnjnipjaaPlK
import Derived.Test.YtddnecfnjnipjaaPlO
namespace Go.Proofs.Ytddnecfnjnipjaa
open Go.ChangeShapes Go.WideShapes Go.ChangeAt Go.RowKit

theorem AcK.box {w : World} {aa : Option Addr} {NN : Nat} {ac : Nat → Ac} {kls : Nat → List Bool} (h : AcK w w.heap.size aa NN ac kls) (ob : Obj) : AcK (w.alloc ob) (w.alloc ob).heap.size aa NN ac kls := by
  have bl : Below w.heap.size w (w.alloc ob) := (Below.refl _ _).alloc (Nat.le_refl _) _
  exact ⟨⟨fun i hi => h.cell bl hi, h.acs.nm, h.acs.fl⟩, fun i hi => h.kept bl hi, h.ls, Nat.le_refl _⟩

set_option maxRecDepth 100000 in
set_option maxHeartbeats 2000000 in
theorem images_any {w : World} (s0 s1 z0 z1 : Int) {aa : Option Addr} {NN acp : Nat} {ac : Nat → Ac} {kls : Nat → List Bool} (hac : AcK w w.heap.size aa NN ac kls) (hkn : ∀ i, i < NN → (ac i).kn ≤ 140737488355328) (hNN : NN < 2199023255551) :
    Calls Try.prog 5 #[.agg (storyC s0 s1 z0 z1 (.slice aa NN acp)).toArray] w fun e w' => e = .returned (.bool true) ∧ Below w.heap.size w w' := by
  have HAC : Hid _ := hac.box (.cells (storyC s0 s1 z0 z1 (.slice aa NN acp)).toArray 25)
  have HKN : Hid _ := hkn
  have BL : Hid _ := ((Below.refl w.heap.size w).alloc (Nat.le_refl _) (.cells (storyC s0 s1 z0 z1 (.slice aa NN acp)).toArray 25))
  clear hac hkn
  go_enter Try.func5, Try.ntmps5
  go_wp2_with (refine wpList_load_part rfl 25 (.tmp 1) rfl w.heap.size 0 (storyC s0 s1 z0 z1 (.slice aa NN acp)) rfl (Blk.made _ _ _) (by simp [storyC]) Try.underlying25 rfl (by kernel_rfl) ?_)
  refine Calls.mono (plays_any s0 s1 z0 z1 6 9 HAC.out HKN.out hNN (by decide)) ?_
  rintro e w1 ⟨rfl, b1⟩
  have B1 : Hid _ := BL.out.trans (b1.mono BL.out.size)
  clear b1
  go_wp2_with fail
  go_ret
  exact ⟨rfl, B1.out⟩

set_option maxRecDepth 100000 in
theorem images_lifted (os : Os) (started : os.Started) (H : Type) (enc : TypeId × Value → H) :
    ReturnsInHanded {} Try.checked os 5 .any (Rows.diskImagesSpec.pre6 enc Try.prog Try.f5 Rows.diskImagesRow.domain false) (Rows.diskImagesSpec.post enc Try.prog Try.f5 false true false false) := by
  refine returnsInHanded_of_change_sized (C := Try.checked) ownA started (by kernel_rfl) Try.func5
    (ChangeSpec.witness6 (enc := enc) (C := Try.checked) false ⟨#[], #[.agg (storyC 0 0 0 0 (.slice none 0 0)).toArray], []⟩ 8 (by kernel_rfl) (by kernel_rfl) (by kernel_rfl) (by kernel_rfl)) ?_
  intro W base args ds gs before hval0 hW hcnd hsz _
  have hval : ∀ (j : Nat) t v, Try.f5.params[j]? = some t → args[j]? = some v → Value.okWide Try.prog W .any base t v := hval0
  have hW' := hW
  obtain ⟨p, q, hA0, hV, rfl, hfz, hnd⟩ := hW
  have hA : DataW.TrodAll enc Try.prog W 0 (fun _ => true) true Try.f5.params.toList args.toList ds p := hA0
  rw [Try.params5] at hA hval
  obtain ⟨v0, vs0, d0, ds0, p0, q0, hargs, rfl, rfl, h0, r0⟩ := trodAll_cons hA
  obtain ⟨rfl, rfl, rfl⟩ := trodAll_nil r0
  obtain rfl : args = #[v0] := by cases args; simp_all
  obtain ⟨rfl, rfl⟩ := trodVars_none hV
  have k0 := h0
  have lt0 : ∀ x ∈ p0, x.block < W.heap.size := by obtain ⟨m, hm⟩ := k0; exact DataW.trod_lt m _ _ _ hm
  obtain ⟨f0, hf0⟩ := h0
  obtain ⟨cs, rfl⟩ := okWide_struct Try.underlying25 (hval 0 25 v0 rfl rfl)
  obtain ⟨s0, s1, z0, z1, a, NN, c, ac, kls, hcs, hac, hkb, hls, hN, hk⟩ := op_story hf0
  have hcs : cs = storyC s0 s1 z0 z1 (.slice a NN c) := hcs
  subst hcs
  have wt : ∀ m, m ∈ d0.weights Try.prog 25 → m ≤ 140737488351232 := fun m hm => by
    have h1 := List.all_eq_true.1 hsz m (DataW.weights_mem_each (j := 0) (t := 25) (d := d0) rfl rfl m hm)
    have h2 : m ≤ reachBytes := by simpa using h1
    unfold reachBytes at h2
    omega
  have hNN : NN < 2199023255551 := by
    rcases hN with e | ⟨m, h1, h2⟩
    · omega
    · have := wt m h2
      omega
  have hkn : ∀ i, i < NN → (ac i).kn ≤ 140737488355328 := fun i hi => by
    rcases hk i hi with e | ⟨m, h1, h2⟩
    · omega
    · have := wt m h2
      omega
  clear hA0 hval0
  refine (images_any s0 s1 z0 z1 ⟨hac, hkb, hls, Nat.le_refl _⟩ hkn hNN).mono fun e W' ⟨he, bel⟩ => ?_
  subst he
  exact ⟨_, rfl, _, _, _, [], _, [], hW', trodAll_mk1 (shut_bool Try.underlying4 _), (trodAll_cons_mk (Below.trod laidOutA (by kernel_rfl) (of_decide_eq_true (by kernel_rfl)) k0 bel lt0) trodAll_mk0), rfl, bel.frame _, fun h => by cases h⟩

theorem diskImages_holds : Rows.DiskImagesSaid :=
  OpenClaim.holds_of_wide 5 Try.f5 rfl rfl rfl rfl rfl rfl rfl ⟨rfl, rfl, rfl, rfl, rfl⟩ rfl rfl rfl rfl rfl (by kernel_rfl) Try.func5 (by kernel_rfl)
    (of_decide_eq_true (by kernel_rfl)) (by unfold Func.isWrapper; first | (rw [if_pos (by decide +kernel)]; kernel_rfl) | (rw [if_neg (by decide +kernel)]; exact ⟨rfl, rfl⟩))
    (fun os started H enc _ => images_lifted os started H enc)
end Go.Proofs.Ytddnecfnjnipjaa
