/-
  Drain's own function: Pop and yield in turns.
-/
import Derived.Test.YtpkcabbfblhekaaRfL
import Derived.RangeFuncNested
import Derived.RangeFuncBound
import Derived.RangeFuncCalls
import Derived.Shelf.RegionOpen
import Derived.OwnWalkIn
import Derived.TacticsInMore
import Derived.LoopNIn
import Derived.LoopIn
namespace Go.Proofs.Ytpkcabbfblhekaa
open Go.RowKit Go.Shelf
attribute [local go_sem] Oper.semAt_some

theorem roundsIn_inv {F : Fence} {n : Nat} {P : Program} {c : Code} {Q : Exit → Act → World → Prop} (I : Nat → Act → World → Prop)
    (round : ∀ m a w, I m a w → c.wpIn F n P (Exit.then (fun a' w' => ∃ m', m' < m ∧ I m' a' w') Q) a w) : ∀ k m a w, m < k → I m a w → Code.roundsIn F n P c Q k a w
  | 0, _, _, _, h, _ => absurd h (Nat.not_lt_zero _)
  | k + 1, m, a, w, h, hi => by
    refine wpIn_mono (round m a w hi) ?_
    rintro e a' w' hq
    cases e with
    | normal =>
      obtain ⟨m', hm', hi'⟩ := hq
      exact roundsIn_inv I round k m' a' w' (by omega) hi'
    | exit id => exact hq
    | goto t => exact hq
    | ret => exact hq
    | panic ch => exact hq
    | outgrown => exact hq

def twoV (a : Int × Int) : Value := .agg #[.int .i64 a.1, .int .i64 a.2]

set_option maxRecDepth 100000 in
set_option maxHeartbeats 2000000 in
theorem drn_any (b p : Nat) : Drn Try.prog 44 16 #[.pointer (some ⟨b, 0, none⟩)] p twoV (fun W => W.cell? ⟨b, 0, none⟩ = some (.pointer (some ⟨p, 0, none⟩))) := by
  intro l J M E X hbx sJ sM sE sX hpop hy m W hJ
  refine callsIn_of_wp Try.func44 rfl trivial ?_ rfl
  simp only [Try.ntmps44, List.size_toArray, List.length_cons, List.length_nil, Nat.reduceAdd, Nat.reduceSub, Array.replicate_succ, Array.replicate_zero, List.push_toArray, List.append_toArray, List.nil_append, List.cons_append]
  gi_wp2
  refine wpIn_loop_rounds (m + 1) (roundsIn_inv (fun m a w => ∃ x2 x3 x4 x5 x6 x7 x8 x9 x10 x11 x12 x13 x14 x15 x16 x17 : Value, a = { tmps := #[.func (.yield l) #[] #[], .pointer (some ⟨b, 0, none⟩), x2, x3, x4, x5, x6, x7, x8, x9, x10, x11, x12, x13, x14, x15, x16, x17], defers := [] } ∧ J m w) ?_ (m + 1) m _ _ (by omega) ⟨_, _, _, _, _, _, _, _, _, _, _, _, _, _, _, _, rfl, hJ⟩)
  rintro m a w ⟨x2, x3, x4, x5, x6, x7, x8, x9, x10, x11, x12, x13, x14, x15, x16, x17, rfl, hJ⟩
  have hb := hbx m w hJ
  have PP : Hid _ := (callsIn_wide (n := 0)).2 (hpop m w hJ)
  clear hJ
  gi_wp2
  refine ⟨trivial, rfl, ?_⟩
  refine CallsIn.mono PP.out ?_
  rintro e w1 (⟨⟨xk, xn⟩, rfl, hm⟩ | ⟨⟨xk, xn⟩, rfl, he⟩)
  · unfold twoV
    have hm2 := sM _ _ _ _ ((Chg.refl (fun _ => False) w1).alloc (.cells #[.int .i64 xk, .int .i64 xn] 26)) hm
    obtain ⟨fn, tmps, assign, body, hyr, hR⟩ := hy _ _ _ hm2
    unfold twoV at hyr
    dsimp only at hyr
    gi_wp2
    refine ⟨rfl, ?_⟩
    refine hR.mono ?_
    rintro e W' (⟨rfl, m', hm', hJ'⟩ | ⟨rfl, hx⟩)
    · gi_wp2
      exact ⟨m', hm', _, _, _, _, _, _, _, _, _, _, _, _, _, _, _, _, rfl, hJ'⟩
    · gi_wp2
      refine bodyPost_ret (results_none rfl _ _ _) rfl ?_
      exact ⟨⟨_, rfl⟩, .inr hx⟩
  · unfold twoV
    have he2 := sE _ _ ((Chg.refl (fun _ => False) w1).alloc (.cells #[.int .i64 xk, .int .i64 xn] 26)) he
    gi_wp2
    refine ⟨fun _ h => (by cases h), ?_⟩
    gi_wp2
    refine bodyPost_ret (results_none rfl _ _ _) rfl ?_
    exact ⟨⟨_, rfl⟩, .inl he2⟩

end Go.Proofs.Ytpkcabbfblhekaa
