/-
  The codec writes pages, whatever their numbers are.
-/
import Derived.Test.YtfkjgfelgiogeaaPgI
import Derived.Test.YtfkjgfelgiogeaaPgC
namespace Go.Proofs.Ytfkjgfelgiogeaa
open Go.RowKit

theorem Pg.lenI {w : World} {Av : Nat → Prop} {P : Pg} (hP : PgIn w Av P) (hF : PgSm P) : 0 < P.bytesI.length ∧ P.bytesI.length ≤ 300000000 := by
  have t1 := numB_ten hP.la
  have t2 := numB_ten (n := u64 P.wi) (u64_lt _)
  have t3 := numB_ten hP.se
  have t4 := numB_ten (n := P.mn) (by have := hF.mn; omega)
  have t5 := numB_ten (n := P.vn) (by have := hF.vn; omega)
  have t6 := numB_ten hP.sz
  have t7 := numB_ten (n := P.pn) (by have := hF.pn; omega)
  have k1 : (recsB P.mBI P.mn).length ≤ P.mn * 20 := recsB_len _ (fun i hi => by have q1 := (hP.em i hi).1; have e1 := numB_ten q1; have e2 := numB_ten (u64_lt (P.ms i).us); simp only [Pg.mBI, Mk.bytesI, List.length_append]; omega)
  have k2 : (recsB P.vB P.vn).length ≤ P.vn * 85 := recsB_len _ (fun i hi => by have q1 := hP.vk i hi; have e1 := numB_ten q1.1; have e2 := numB_ten q1.2.2.1; have e3 := q1.2.1; have e4 := q1.2.2.2; simp only [Pg.vB, Vs.bytes, List.length_append]; omega)
  have k3 : (recsB P.pB P.pn).length ≤ P.pn * 75 := recsB_len _ (fun i hi => by have q1 := hP.pk i hi; have e1 := numB_ten q1.1; have e3 := q1.2.1; have e4 := q1.2.2; simp only [Pg.pB, Pk.bytes, List.length_append]; omega)
  have a1 := hF.mn
  have a2 := hF.vn
  have a3 := hF.pn
  have p1 := numB_pos P.la
  simp only [Pg.bytesI, List.length_append]
  omega
set_option maxRecDepth 100000 in
set_option maxHeartbeats 1000000 in
theorem bytesPageI_any {w : World} {T : Pg} (hT : PgIn w (fun g => g < w.heap.size) T) (hF : PgSm T) (hl : T.bytesI.length ≤ 300000000) :
    Calls Try.prog 53 #[.iface 131 (.agg T.cells.toArray)] w fun e w' => ∃ u, e = .returned u ∧ Made w w' u T.bytesI := by
  have c0 : Chg (fun _ => False) w (w.alloc (.cells #[.slice none 0 0] 188)) := (Chg.refl _ _).alloc _
  have HW : Hid (WB (w.alloc (.cells #[.slice none 0 0] 188)) (w.alloc (.cells #[.slice none 0 0] 188)) (fun g => g < w.heap.size) w.heap.size 188 []) :=
    ⟨⟨_, _, WS.new w 188, fun g hg => by simp [Value.ownBlock] at hg⟩, fun e => by omega, Chg.refl _ _, fun g e => by simp; omega⟩
  have HT : Hid (PgIn (w.alloc (.cells #[.slice none 0 0] 188)) (fun g => g < w.heap.size) T) := hT.kept c0 (fun _ _ e => e)
  have C0 : Hid _ := c0
  clear hT c0
  go_enter Try.func53, Try.ntmps53
  go_wp2_with fail
  refine Calls.mono (wPageI_any HW.out HT.out hF (by simp)) ?_
  rintro e w1 ⟨rfl, p1⟩
  have P1 : Hid _ := p1
  obtain ⟨cs, v1, s1, _⟩ := p1.ex
  rw [List.nil_append] at s1
  have S1 : Hid _ := s1
  clear s1 p1
  go_wp2_with fail
  refine Calls.mono (wBytes_any S1.out (by omega)) ?_
  rintro e w2 ⟨u, rfl, m⟩
  have b1 : Below w.heap.size w w1 := by
    have h1 : Chg (fun g => ¬ g < w.heap.size) w w1 := (C0.out.mono (fun _ _ e => e.elim)).trans P1.out.ch (fun _ e => .inl e)
    exact h1.below (Nat.le_refl _) (fun k e => by omega)
  have M : Hid (Made w w2 u T.bytesI) := ⟨m.1, b1.trans (m.2.1.mono b1.size), fun k hk => Nat.le_trans b1.size (m.2.2 k hk)⟩
  clear m b1
  go_wp2_with fail
  go_ret
  exact ⟨u, rfl, M.out⟩
set_option maxRecDepth 100000 in
set_option maxHeartbeats 1000000 in
theorem cPageI_any {w : World} {T : Pg} (hT : PgIn w (fun g => g < w.heap.size) T) (hF : PgSm T) :
    Calls Try.prog 17 #[.agg T.cells.toArray] w fun e w' => ∃ u, e = .returned u ∧ Made w w' u T.bytesI := by
  have hl := (Pg.lenI hT hF).2
  have B0 : Hid _ := Blk.made w T.cells 51
  have HT : Hid (PgIn (w.alloc (.cells T.cells.toArray 51)) (fun g => g < (w.alloc (.cells T.cells.toArray 51)).heap.size) T) := (hT.kept (((Chg.refl (fun _ => False) w).alloc _)) (fun _ _ e => e)).mono (fun g e => by simp; omega)
  clear hT
  go_enter Try.func17, Try.ntmps17
  go_wp2_with (refine wpList_load_part rfl 51 (.tmp 1) rfl w.heap.size 0 T.cells rfl B0.out (by simp) Try.underlying51 rfl (Try.pgSzP T) ?_)
  refine Calls.mono (bytesPageI_any HT.out hF hl) ?_
  rintro e w2 ⟨u, rfl, m⟩
  have M : Hid _ := m
  clear m
  go_wp2_with fail
  go_ret
  refine ⟨u, rfl, M.out.1, ((Below.refl _ _).alloc (Nat.le_refl _) _).trans (M.out.2.1.mono (by simp)), fun k hk => ?_⟩
  have := M.out.2.2 k hk
  simp at this
  omega
end Go.Proofs.Ytfkjgfelgiogeaa
