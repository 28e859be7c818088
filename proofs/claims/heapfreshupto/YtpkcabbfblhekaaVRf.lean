/-
  Draining the heap of numbered things; its compare.
-/
import Derived.Test.YtpkcabbfblhekaaVPerm
import Derived.Test.YtpkcabbfblhekaaVSwap
import Derived.Test.YtpkcabbfblhekaaRfD
namespace Go.Proofs.Ytpkcabbfblhekaa.V
open Go.RowKit Go.Shelf
attribute [local go_sem] Oper.semAt_some

set_option maxRecDepth 100000 in
set_option maxHeartbeats 2000000 in
theorem drn_any (b p : Nat) : Drn Try.prog 52 53 #[.pointer (some ⟨b, 0, none⟩)] p two (fun W => W.cell? ⟨b, 0, none⟩ = some (.pointer (some ⟨p, 0, none⟩))) := by
  intro l J M E X hbx sJ sM sE sX hpop hy m W hJ
  refine callsIn_of_wp Try.func52 rfl trivial ?_ rfl
  simp only [Try.ntmps52, List.size_toArray, List.length_cons, List.length_nil, Nat.reduceAdd, Nat.reduceSub, Array.replicate_succ, Array.replicate_zero, List.push_toArray, List.append_toArray, List.nil_append, List.cons_append]
  gi_wp2
  refine wpIn_loop_rounds (m + 1) (roundsIn_inv (fun m a w => ∃ x2 x3 x4 x5 x6 x7 x8 x9 x10 x11 x12 x13 x14 x15 x16 x17 : Value, a = { tmps := #[.func (.yield l) #[] #[], .pointer (some ⟨b, 0, none⟩), x2, x3, x4, x5, x6, x7, x8, x9, x10, x11, x12, x13, x14, x15, x16, x17], defers := [] } ∧ J m w) ?_ (m + 1) m _ _ (by omega) ⟨_, _, _, _, _, _, _, _, _, _, _, _, _, _, _, _, rfl, hJ⟩)
  rintro m a w ⟨x2, x3, x4, x5, x6, x7, x8, x9, x10, x11, x12, x13, x14, x15, x16, x17, rfl, hJ⟩
  have hb := hbx m w hJ
  have PP : Hid _ := (callsIn_wide (n := 0)).2 (hpop m w hJ)
  clear hJ
  gi_wp2
  refine ⟨trivial, rfl, ?_⟩
  refine CallsIn.mono PP.out ?_
  rintro e w1 (⟨⟨xk, xn, xi⟩, rfl, hm⟩ | ⟨⟨xk, xn, xi⟩, rfl, he⟩)
  · unfold two
    have hm2 := sM _ _ _ _ ((Chg.refl (fun _ => False) w1).alloc (.cells #[.int .i64 xk, .int .i64 xn, .int .i64 xi] 63)) hm
    obtain ⟨fn, tmps, assign, body, hyr, hR⟩ := hy _ _ _ hm2
    unfold two at hyr
    dsimp only at hyr
    gi_wp2
    refine ⟨rfl, ?_⟩
    refine hR.mono ?_
    rintro e W' (⟨rfl, m', hm', hJ'⟩ | ⟨rfl, hx⟩)
    · gi_wp2
      exact ⟨m', hm', _, _, _, _, _, _, _, _, _, _, _, _, _, _, _, _, rfl, hJ'⟩
    · gi_wp2
      refine bodyPost_ret (results_none rfl _ _ _) rfl ?_
      exact ⟨⟨_, rfl⟩, .inr hx⟩
  · unfold two
    have he2 := sE _ _ ((Chg.refl (fun _ => False) w1).alloc (.cells #[.int .i64 xk, .int .i64 xn, .int .i64 xi] 63)) he
    gi_wp2
    refine ⟨fun _ h => (by cases h), ?_⟩
    gi_wp2
    refine bodyPost_ret (results_none rfl _ _ _) rfl ?_
    exact ⟨⟨_, rfl⟩, .inl he2⟩

set_option maxRecDepth 100000 in
theorem drain_any (p : Nat) (w : World) : Calls Try.prog 38 #[.pointer (some ⟨p, 0, none⟩)] w fun e w' => e = .returned (.func (.func 52) #[] #[.pointer (some ⟨w.heap.size, 0, none⟩)]) ∧ w' = w.alloc (.cells #[.pointer (some ⟨p, 0, none⟩)] 71) := by
  go_enter Try.func38, Try.ntmps38
  go_wp2_with fail
  go_ret
  exact ⟨rfl, rfl⟩

/-- The numbered thing within. -/
def E.inn (e : E) : Go.Proofs.Ytpkcabbfblhekaa.E := ⟨e.k, e.n, e.i⟩

set_option maxRecDepth 100000 in
set_option maxHeartbeats 2000000 in
/-- The compare of leastBackwards: the other way round. -/
theorem back_any {f : Value} {S : Nat → Prop} {I : Nat → World → Prop} {od : Go.Proofs.Ytpkcabbfblhekaa.E → Go.Proofs.Ytpkcabbfblhekaa.E → Int} {one : Nat} (O : Go.Proofs.Ytpkcabbfblhekaa.Od f S I od one) (q : Nat)
    (w : World) (c : Nat) (a b : E) (hI : I c w) (hq : Blk w q [f] 27) (hc : c < 4611686018427387904) : Calls Try.prog 46 #[a.two, b.two, .pointer (some ⟨q, 0, none⟩)] w fun e w' => e = .returned (.int .i64 (od b.inn a.inn)) ∧ I (c + one) w' ∧ Chg S w w' := by
  have hlt : q < w.heap.size := hq.lt
  have c0 : w.cell? ⟨q, 0, none⟩ = some f := hq.cell 0
  obtain ⟨w1, hw1⟩ : ∃ w1, w1 = (w.alloc (.cells #[.int .i64 a.k, .int .i64 a.n, .int .i64 a.i] 63)).alloc (.cells #[.int .i64 b.k, .int .i64 b.n, .int .i64 b.i] 63) := ⟨_, rfl⟩
  have hc1 : Chg (fun _ => False) w w1 := by rw [hw1]; exact ((Chg.refl _ _).alloc _).alloc _
  have RN : Hid _ := O.run w1 c b.inn a.inn (O.keep hI hc1 (fun _ h => h.elim)) hc
  unfold E.inn Go.Proofs.Ytpkcabbfblhekaa.E.val at RN
  unfold E.inn
  have W1 : Hid _ := hw1
  have C1 : Hid _ := hc1
  unfold E.two
  clear O hI hq hw1 hc1
  go_enter Try.func46, Try.ntmps46
  go_wp2_with fail
  rw [← W1.out]
  refine Calls.mono RN.out ?_
  rintro e w2 ⟨rfl, i2, ch2⟩
  have I2 : Hid _ := i2
  have C2 : Hid _ := ch2
  clear i2 ch2 RN
  go_wp2_with fail
  go_ret
  exact ⟨rfl, I2.out, (C1.out.mono (fun _ _ h => h.elim)).trans C2.out (fun _ h => .inl h)⟩

/-- What is known of the compare's counts, and of the box that it reads. -/
def Ib (I : Nat → World → Prop) (q : Nat) (f : Value) (c : Nat) (w : World) : Prop := (∃ c0, c0 ≤ c ∧ I c0 w) ∧ Blk w q [f] 27
def odBk (od : Go.Proofs.Ytpkcabbfblhekaa.E → Go.Proofs.Ytpkcabbfblhekaa.E → Int) (a b : E) : Int := od b.inn a.inn

theorem od_back {f : Value} {S : Nat → Prop} {I : Nat → World → Prop} {od : Go.Proofs.Ytpkcabbfblhekaa.E → Go.Proofs.Ytpkcabbfblhekaa.E → Int} {one : Nat} (O : Go.Proofs.Ytpkcabbfblhekaa.Od f S I od one) (h1 : one ≤ 1) (q : Nat) (hq : ¬ S q) :
    Od (.func (.func 46) #[] #[.pointer (some ⟨q, 0, none⟩)]) (fun k => S k ∨ k = q) (Ib I q f) (odF (odBk od)) 1 := by
  refine od_cmp ⟨fun args w => rfl, fun w c a b ⟨⟨c0, hc0, hI⟩, hb⟩ hc => ?_, fun {w w' c T} ⟨⟨c0, hc0, hI⟩, hb⟩ hch hT => ⟨⟨c0, hc0, O.keep hI hch (fun k hk hs => hT k hk (.inl hs))⟩, hb.keep hch (fun hk => hT q hk (.inr rfl))⟩, fun {w c k} ⟨⟨c0, _, hI⟩, hb⟩ hk => ?_⟩
  · refine (back_any O q w c0 a b hI hb (by omega)).mono ?_
    rintro e w' ⟨h2, h3, h4⟩
    exact ⟨h2, ⟨⟨c0 + one, by omega, h3⟩, hb.keep h4 hq⟩, h4.mono (fun _ _ h => .inl h)⟩
  · rcases hk with hk | rfl
    · exact O.low hI hk
    · exact hb.lt

end Go.Proofs.Ytpkcabbfblhekaa.V
