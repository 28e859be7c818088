/-
  AuditCleans: the row, proved out of the walk.
-/
import Derived.Test.YtbdopdmjjfceoaaClean
import Derived.ProofKit
import Derived.OpenShut
import Derived.ChangeSlices
import Derived.ChangeOld
import Derived.Below
namespace Go.Proofs.Ytbdopdmjjfceoaa
open Go.ChangeShapes Go.WideShapes Go.ChangeAt Go.RowKit

theorem ownKn : ownKnob Try.prog.godebug = none := by kernel_rfl
theorem laidOutS : laidOutB Try.prog = true := by kernel_rfl
theorem Try.c3 : Try.prog.cellsOf 3 = 1 := by kernel_rfl
theorem Try.c22 : Try.prog.cellsOf 22 = 1 := by kernel_rfl
theorem Try.c23 : Try.prog.cellsOf 23 = 1 := by kernel_rfl
theorem Try.c25 : Try.prog.cellsOf 25 = 7 := by kernel_rfl

theorem cutOne {cs : List Value} {k : Nat} {v : Value} (hv : (cs.drop k).take 1 = [v]) : cs.drop k = v :: cs.drop (k + 1) := by
  have hlt : k < cs.length := by
    rcases Nat.lt_or_ge k cs.length with h | h
    · exact h
    · rw [List.drop_of_length_le h] at hv; simp at hv
  rw [List.drop_eq_getElem_cons hlt] at hv ⊢
  injection hv with hv _
  rw [hv]

/-- A report that came in: five ints, a uint64, a slice, whatever they are. -/
theorem op_report {H : Type} {enc : TypeId × Value → H} {W : World} {sp : Nat → Bool} {held : Bool} {fuel : Nat} {cs : List Value} {x : DataW H × List MemPlace}
    (h : DataW.trod enc Try.prog W 0 sp held fuel 25 cs = some x) : ∃ (s a b c d k : Int) (A : Option Addr) (n m : Nat), cs = rep s a b c d k A n m := by
  obtain ⟨xs, m, _, _, hl, hxs, hel⟩ := DataW.trod_struct Try.underlying25 h
  have hxs : xs.length = 7 := hxs
  rw [Try.c25] at hl
  have e0 : DataW.trod enc Try.prog W 0 sp held m 3 ((cs.drop 0).take (Try.prog.cellsOf 3)) = xs[0]? := hel 0 _ rfl
  have e1 : DataW.trod enc Try.prog W 0 sp held m 3 ((cs.drop 1).take (Try.prog.cellsOf 3)) = xs[1]? := hel 1 _ rfl
  have e2 : DataW.trod enc Try.prog W 0 sp held m 3 ((cs.drop 2).take (Try.prog.cellsOf 3)) = xs[2]? := hel 2 _ rfl
  have e3 : DataW.trod enc Try.prog W 0 sp held m 3 ((cs.drop 3).take (Try.prog.cellsOf 3)) = xs[3]? := hel 3 _ rfl
  have e4 : DataW.trod enc Try.prog W 0 sp held m 3 ((cs.drop 4).take (Try.prog.cellsOf 3)) = xs[4]? := hel 4 _ rfl
  have e5 : DataW.trod enc Try.prog W 0 sp held m 22 ((cs.drop 5).take (Try.prog.cellsOf 22)) = xs[5]? := hel 5 _ rfl
  have e6 : DataW.trod enc Try.prog W 0 sp held m 23 ((cs.drop 6).take (Try.prog.cellsOf 23)) = xs[6]? := hel 6 _ rfl
  rw [Try.c3] at e0 e1 e2 e3 e4
  rw [Try.c22] at e5
  rw [Try.c23] at e6
  rw [List.getElem?_eq_getElem (by omega)] at e0 e1 e2 e3 e4 e5 e6
  obtain ⟨n0, c0, _, _⟩ := DataW.trod_int Try.underlying3 e0
  obtain ⟨n1, c1, _, _⟩ := DataW.trod_int Try.underlying3 e1
  obtain ⟨n2, c2, _, _⟩ := DataW.trod_int Try.underlying3 e2
  obtain ⟨n3, c3, _, _⟩ := DataW.trod_int Try.underlying3 e3
  obtain ⟨n4, c4, _, _⟩ := DataW.trod_int Try.underlying3 e4
  obtain ⟨n5, c5, _, _⟩ := DataW.trod_int Try.underlying22 e5
  have six : ∃ (A : Option Addr) (n c : Nat), (cs.drop 6).take 1 = [.slice A n c] := by
    rcases DataW.trod_slice Try.underlying23 e6 with ⟨c6, _⟩ | ⟨a, len, cap, _, _, _, _, c6, _⟩
    · exact ⟨_, _, _, c6⟩
    · exact ⟨_, _, _, c6⟩
  obtain ⟨A, n, c, c6⟩ := six
  refine ⟨n0, n1, n2, n3, n4, n5, A, n, c, ?_⟩
  have d0 := cutOne c0
  have d1 := cutOne c1
  have d2 := cutOne c2
  have d3 := cutOne c3
  have d4 := cutOne c4
  have d5 := cutOne c5
  have d6 := cutOne c6
  have last : cs.drop (6 + 1) = [] := List.drop_of_length_le (by omega)
  rw [last] at d6
  rw [List.drop_zero] at d0
  show cs = [.int .i64 n0, .int .i64 n1, .int .i64 n2, .int .i64 n3, .int .i64 n4, .int .u64 n5, .slice A n c]
  rw [d0, d1, d2, d3, d4, d5, d6]

set_option maxRecDepth 100000 in
theorem okWide_struct {W : World} {base : Nat} {t : TypeId} {v : Value} {fs : Array Field} (hu : Try.prog.underlying t = some (.struct fs)) (hv : Value.okWide Try.prog W .any base t v) : ∃ cs : List Value, v = .agg cs.toArray := by
  obtain ⟨cs, rfl, _, _⟩ : ∃ cs, v = .agg cs ∧ cs.size = Try.prog.cellsOf t ∧ Row.okWide Try.prog W .any base t cs := by
    simpa [Value.okWide, hu] using hv
  exact ⟨cs.toList, by simp⟩

set_option maxRecDepth 100000 in
theorem cleans_lifted (os : Os) (started : os.Started) (H : Type) (enc : TypeId × Value → H) :
    ReturnsInHanded {} Try.checked os 3 .any (Rows.auditCleansSpec.pre6 enc Try.prog Try.f3 Rows.auditCleansRow.domain false) (Rows.auditCleansSpec.post enc Try.prog Try.f3 false true false false) := by
  refine returnsInHanded_of_change (C := Try.checked) ownKn started (by kernel_rfl) Try.func3
    (ChangeSpec.witness6 (enc := enc) (C := Try.checked) false ⟨#[], #[.agg (rep 0 0 0 0 0 0 none 0 0).toArray], []⟩ 3 (by kernel_rfl) (by kernel_rfl) (by kernel_rfl) (by kernel_rfl)) ?_
  intro W base args ds gs before hval0 hW hcnd _
  have hval : ∀ (j : Nat) t v, Try.f3.params[j]? = some t → args[j]? = some v → Value.okWide Try.prog W .any base t v := hval0
  have hW' := hW
  obtain ⟨p, q, hA0, hV, rfl, hfz, hnd⟩ := hW
  have hA : DataW.TrodAll enc Try.prog W 0 (fun _ => true) true Try.f3.params.toList args.toList ds p := hA0
  rw [Try.params3] at hA hval
  obtain ⟨v0, vs0, d0, ds0, p0, q0, hargs, rfl, rfl, h0, r0⟩ := trodAll_cons hA
  obtain ⟨rfl, rfl, rfl⟩ := trodAll_nil r0
  obtain rfl : args = #[v0] := by cases args; simp_all
  obtain ⟨rfl, rfl⟩ := trodVars_none hV
  have k0 := h0
  have lt0 : ∀ x ∈ p0, x.block < W.heap.size := by obtain ⟨m, hm⟩ := k0; exact DataW.trod_lt m _ _ _ hm
  obtain ⟨f0, hf0⟩ := h0
  obtain ⟨c0, rfl⟩ := okWide_struct Try.underlying25 (hval 0 25 v0 rfl rfl)
  obtain ⟨s, a, b, c, d, k, A, n, m, e0⟩ := op_report (cs := c0) hf0
  subst e0
  clear hA0 hval0
  refine (law_any s a b c d k A n m W).mono fun e W' ⟨he, bel⟩ => ?_
  subst he
  exact ⟨_, rfl, _, _, _, [], _, [], hW', trodAll_mk1 (shut_bool Try.underlying4 _), trodAll_cons_mk (Below.trod laidOutS (by kernel_rfl) (of_decide_eq_true (by kernel_rfl)) k0 bel lt0) trodAll_mk0, rfl, bel.frame _, fun h => by cases h⟩

theorem auditCleans_holds : Rows.AuditCleansSaid :=
  OpenClaim.holds_of_wide 3 Try.f3 rfl rfl rfl rfl rfl rfl rfl ⟨rfl, rfl, rfl, rfl, rfl⟩ rfl rfl rfl rfl rfl (by kernel_rfl) Try.func3 (by kernel_rfl)
    (of_decide_eq_true (by kernel_rfl)) (by unfold Func.isWrapper; first | (rw [if_pos (by decide +kernel)]; kernel_rfl) | (rw [if_neg (by decide +kernel)]; exact ⟨rfl, rfl⟩))
    (fun os started H enc _ => cleans_lifted os started H enc)

end Go.Proofs.Ytbdopdmjjfceoaa
