/-
  Pending where nothing is in the cache.
-/
import Derived.Test.YtjliibiohgcaeaaAbs
namespace Go.Proofs.Ytjliibiohgcaeaa
open Go.RowKit Go.RwLone

theorem range_none {w : World} {c k z : Nat} {L : Nat → List (Nat × Nat)} {V : Nat → Value} {D : DataW Unit} (h : Ca w c k z L V D) (hL : ∀ t, L t = []) : ∃ w', (Instr.range 82 (.map (some c))).run Try.prog w = .ok (.pointer (some ⟨w.heap.size, 0, none⟩)) w' ∧ (∀ ty, (Instr.next (.pointer (some ⟨w.heap.size, 0, none⟩)) false ty).run Try.prog w' = .ok (.tuple #[.bool false]) w') ∧ Below w.heap.size w w' := by
  obtain ⟨w', hr, hg, hw, _⟩ := h.own.range (t := 82) (e := 91) keyed3 Try.underlying82
  refine ⟨w', hr, fun ty => ?_, ⟨hw.os, hw.tape, hw.output, hw.size, fun k hk => hw.block k hk (by simp)⟩⟩
  rcases hg.next keyed3 ty with ⟨_, _, h1⟩ | ⟨_, _, kl, _, _, _, _, hl, _⟩
  · exact h1
  · obtain ⟨s, _, hs⟩ := (h.has kl).1 hl
    exact absurd (hL s) hs

set_option maxRecDepth 100000 in
set_option maxHeartbeats 2000000 in
theorem pending_none {w : World} {p m c S z kc km b : Nat} {x : Nums} {L : Nat → List (Nat × Nat)} {V : Nat → Value} {D : DataW Unit} {K : Nat → Option Nat} {E : DataW Unit} (h : DD w p m c S z kc km b x L V D K E) (hL : ∀ t, L t = []) (hx : x.pend = 0) :
    Calls Try.prog 16 #[.pointer (some ⟨p, 0, none⟩)] w fun e w' => ∃ a, e = .returned (.slice a 0 0) ∧ Rw w' p (dkG S z m c x) 87 ∧ Chg (fun k => k = p) w w' := by
  have r0 := h.row
  have c2 : w.cell? ⟨p, 2, none⟩ = some (.int .i32 0) := r0.cell 2
  have c5 : w.cell? ⟨p, 5, none⟩ = some (.int .u32 0) := r0.cell 5
  have c6 : w.cell? ⟨p, 6, none⟩ = some (.int .i32 0) := r0.cell 6
  have f6 := r0.fr 6
  have HD : Hid _ := h
  have HL : Hid _ := hL
  have hmk := mk39
  clear h r0 hL
  go_enter_defers Try.func16, Try.ntmps16
  go_wp2_with fail
  refine (rlock_open Try.rwRLib p 2 0 _ _ _ c2 c5 c6 f6 (by rw [wr1]; decide)).mono ?_
  rintro e w' ⟨rfl, rfl⟩
  rw [wr1]
  have R1 := Rw.set HD.out.row 6 (.int .i32 1)
  obtain ⟨w1, hw1⟩ : ∃ w1, w1 = w.setCell ⟨p, 6, none⟩ (.int .i32 1) := ⟨_, rfl⟩
  rw [← hw1] at R1
  have e1 : w.setCell ⟨p, 2 + 4, none⟩ (.int .i32 1) = w1 := hw1.symm
  rw [e1]
  have K1 : Hid _ := R1
  have hc1 : Chg (fun k => k = p) w w1 := by rw [hw1]; exact (Chg.refl (fun k => k = p) w).setCell (.inl rfl) _
  have hca1 : Ca w1 c kc z L V D := HD.out.ca.kept (grown_of hc1) (fun e => HD.out.cp (by injection e)) (fun t g hg e => HD.out.vp t (by rw [hg, e]))
  have C1 : Hid _ := hc1
  have d10 : w1.cell? ⟨p, 10, none⟩ = some (.int .i64 0) := by
    have := Rw.cell R1 10
    rw [this]
    show some (Value.int .i64 x.pend) = _
    rw [hx]
  have hb2 : Below w1.heap.size w1 (w1.alloc (.cells #[] 3)) := (Below.refl _ _).alloc (Nat.le_refl _) _
  have K2 : Hid (Rw (w1.alloc (.cells #[] 3)) p _ 87) := Rw.keep R1 hb2
  have d9 : (w1.alloc (.cells #[] 3)).cell? ⟨p, 9, none⟩ = some (.map (some c)) := Rw.cell K2.out 9
  have hca2 : Ca (w1.alloc (.cells #[] 3)) c kc z L V D := hca1.kept (row := none) ⟨hb2.os, hb2.tape, hb2.output, hb2.size, fun k hk _ => hb2.block k hk⟩ (by simp) (by simp)
  obtain ⟨w3, hr3, hx3, hb3⟩ := range_none hca2 HL.out
  have B3 : Hid (Below w1.heap.size w1 w3) := hb2.trans (hb3.mono (by simp))
  rw [World.size_alloc] at hr3 hx3
  clear c2 c5 c6 f6 R1 hw1 e1 hc1 hca1 hca2 hb2 hb3
  go_wp2_with fail
  refine wp_loop_rounds 1 ?_
  rw [rounds_succ]
  go_wp2_with fail
  have K3 : Hid (Rw w3 p _ 87) := Rw.keep K1.out B3.out
  refine leaves_cons (f := 34) (args := #[.pointer (some ⟨p, 2, none⟩)]) (by simp) (by simp [go_sem]) ?_
  refine (runlock_deferred Try.rwRLib p 2 1 _ _ .returning _ (Rw.cell K3.out 2) (Rw.cell K3.out 4) (Rw.cell K3.out 6) (Rw.fr K3.out 6) (by rw [wr0]; decide)).mono ?_
  rintro e u' w'' ⟨rfl, rfl, rfl⟩
  refine ⟨_, results_tmp rfl _ _ _, _, rfl, ?_⟩
  rw [wr0]
  have K4 := Rw.set K3.out 6 (.int .i32 0)
  have hc : Chg (fun k => k = p) w w3 := C1.out.trans (Chg.of_below B3.out (fun _ => False)) (fun _ h => h.elim)
  exact ⟨K4, hc.setCell (.inl rfl) _⟩

theorem AD.pending {w : World} {N p S z b : Nat} {x : Nums} {F : Nat → Option (List Int)} (h : AD w N p S z b x (fun _ => []) F) (hN : N ≤ w.heap.size) (hx : x.pend = 0) :
    Calls Try.prog 16 #[.pointer (some ⟨p, 0, none⟩)] w fun e w' => ∃ a, e = .returned (.slice a 0 0) ∧ Below N w w' ∧ Oth w w' ∧ AD w' N p S z b x (fun _ => []) F := by
  obtain ⟨m, c, kc, km, L, V, D, K, E, C, hd, hm, hc, hV, hK, hL, hA, hF⟩ := h.ex
  have hp := h.np
  refine (pending_none hd.dd (fun t => List.map_eq_nil_iff.1 (hA t)) hx).mono ?_
  rintro e w9 ⟨a, rfl, hr, ch⟩
  exact ⟨a, rfl, ch.below hN (fun i e => by omega), Oth.chg ch (fun i e => oth_row hd.dd.row e), ⟨⟨m, c, kc, km, L, V, D, K, E, C, hd.turn ch hr rfl (Nat.le_refl _), hm, hc, hV, hK, hL, hA, hF⟩, hp⟩⟩

/-- The power is on and no fuse burns; pn writes are in the cache. -/
structure AP (w : World) (N p S z b pn : Nat) (A : Nat → List (Nat × List Int)) (F : Nat → Option (List Int)) : Prop where
  ex : ∃ x : Nums, x.fuse = -1 ∧ x.off = false ∧ x.pend = pn ∧ AD w N p S z b x A F

theorem burn_on {x : Nums} (h1 : x.fuse = -1) (h2 : x.off = false) : burnE x = 0 ∧ burnN x = x := by
  have hx : ¬ (x.off = true ∨ x.fuse = 0) := by rw [h1, h2]; simp
  unfold burnE burnN
  rw [if_neg hx, if_neg hx, if_pos h1]
  exact ⟨rfl, rfl⟩

section
variable {w w' : World} {N p S z b pn : Nat} {A : Nat → List (Nat × List Int)} {F : Nat → Option (List Int)}
theorem AP.lt (h : AP w N p S z b pn A F) : p < w.heap.size := by
  obtain ⟨x, _, _, _, hd⟩ := h.ex
  exact hd.lt
theorem AP.more (h : AP w N p S z b pn A F) (k : Chg (fun _ => False) w w') : AP w' N p S z b pn A F := by
  obtain ⟨x, h1, h2, h3, hd⟩ := h.ex
  exact ⟨x, h1, h2, h3, hd.more k⟩
theorem AP.mono (h : AP w N p S z b pn A F) {b' : Nat} (hb : b ≤ b') : AP w N p S z b' pn A F := by
  obtain ⟨x, h1, h2, h3, hd⟩ := h.ex
  exact ⟨x, h1, h2, h3, hd.mono hb⟩
theorem AP.made {m c : Nat} (h : DK w p S z m c 0 0) (hmc : m ≠ c) (hp : N ≤ p) (hm : N ≤ m) (hc : N ≤ c) : AP w N p S z 0 0 (fun _ => []) (fun _ => none) :=
  ⟨_, rfl, rfl, rfl, AD.made h hmc hp hm hc⟩
theorem AP.read (h : AP w N p S z b pn A F) (hN : N ≤ w.heap.size) (s : Nat) (hs : s < S) (hS : S ≤ 65536) (hz : z ≤ 4096) (hb : b ≤ 4398046511104) :
    Calls Try.prog 12 #[.pointer (some ⟨p, 0, none⟩), .int .i64 s] w fun e w' => ∃ g, e = .returned (.tuple #[.slice (some ⟨g, 0, none⟩) z z, .int .i64 0]) ∧ Rw w' g (bs ((lastA (A s) (F s)).getD (zs z))).toArray 5 ∧ w.heap.size ≤ g ∧ Below N w w' ∧ Oth w w' ∧ AP w' N p S z b pn A F := by
  obtain ⟨x, h1, h2, h3, hd⟩ := h.ex
  refine (hd.read hN h2 s hs hS hz hb).mono ?_
  rintro e w9 ⟨g, q, rfl, hg, hl, bl, ot, h9⟩
  exact ⟨g, rfl, hg, hl, bl, ot, ⟨{ x with rd := q }, h1, h2, h3, h9⟩⟩
theorem AP.write (h : AP w N p S z b pn A F) (hN : N ≤ w.heap.size) {l : List Int} {ab : Option Addr} {cb : Nat} (hs : Src w (.slice ab z cb) l) (hl : l.length = z) (hz0 : 0 < z) (hz : z ≤ 4096) (s : Nat) (hsS : s < S) (hS : S ≤ 65536) (hb : b < 4398046511104) (hsp : (Value.slice ab z cb).ownBlock ≠ some p) :
    Calls Try.prog 19 #[.pointer (some ⟨p, 0, none⟩), .int .i64 s, .slice ab z cb] w fun e w' => e = .returned (.int .i64 0) ∧ Below N w w' ∧ Oth w w' ∧ AP w' N p S z (b + 1) (pn + 1) (updT A s (A s ++ [(pn, l)])) F := by
  obtain ⟨x, h1, h2, h3, hd⟩ := h.ex
  obtain ⟨e1, e2⟩ := burn_on h1 h2
  refine (hd.write hN hs hl hz0 hz s hsS hS hb (by omega) (by omega) e1 hsp h3).mono ?_
  rintro e w9 ⟨rfl, bl, ot, q, h9⟩
  rw [e2] at h9
  exact ⟨rfl, bl, ot, ⟨{ x with pend := ((pn + 1 : Nat) : Int), wr := q }, h1, h2, rfl, h9⟩⟩
theorem AP.flush (h : AP w N p S z b pn A F) (hN : N ≤ w.heap.size) (hS : S ≤ 65536) (hb : b ≤ 4398046511104) :
    Calls Try.prog 21 #[.pointer (some ⟨p, 0, none⟩)] w fun e w' => e = .returned (.int .i64 0) ∧ Below N w w' ∧ Oth w w' ∧ AP w' N p S z b 0 (fun _ => []) (fun t => lastA (A t) (F t)) := by
  obtain ⟨x, h1, h2, h3, hd⟩ := h.ex
  obtain ⟨e1, e2⟩ := burn_on h1 h2
  refine (hd.flush hN hS hb (by omega) (by omega) e1).mono ?_
  rintro e w9 ⟨rfl, bl, ot, q, h9⟩
  rw [e2] at h9
  exact ⟨rfl, bl, ot, ⟨{ x with pend := 0, fl := q }, h1, h2, rfl, h9⟩⟩
theorem AP.crash (h : AP w N p S z b pn A F) (hN : N ≤ w.heap.size) (hS : S ≤ 65536) (hb : b ≤ 4398046511104) (hz : z ≤ 4096) {a : Option Addr} {n cN : Nat} {kl : List Bool} (hk : KB w a n kl) (hka : ∀ g o, 0 < n → a = some ⟨g, o, none⟩ → g < N) (torn at_ : Int) :
    Calls Try.prog 22 #[.pointer (some ⟨p, 0, none⟩), .agg #[.slice a n cN, .int .i64 torn, .int .i64 at_]] w fun e w' => e = .returned (.tuple #[]) ∧ Below N w w' ∧ Oth w w' ∧ AP w' N p S z b 0 (fun _ => []) (fun t => foldA z (keptN kl torn at_ z) (A t) (F t)) := by
  obtain ⟨x, h1, h2, h3, hd⟩ := h.ex
  refine (hd.crash hN hS hb hz hk hka torn at_).mono ?_
  rintro e w9 ⟨rfl, bl, ot, era, h9⟩
  exact ⟨rfl, bl, ot, ⟨{ x with pend := 0, fuse := -1, off := false, era := era }, rfl, rfl, rfl, h9⟩⟩
theorem AP.pending (h : AP w N p S z b 0 (fun _ => []) F) (hN : N ≤ w.heap.size) :
    Calls Try.prog 16 #[.pointer (some ⟨p, 0, none⟩)] w fun e w' => ∃ a, e = .returned (.slice a 0 0) ∧ Below N w w' ∧ Oth w w' ∧ AP w' N p S z b 0 (fun _ => []) F := by
  obtain ⟨x, h1, h2, h3, hd⟩ := h.ex
  refine (hd.pending hN h3).mono ?_
  rintro e w9 ⟨a, rfl, bl, ot, h9⟩
  exact ⟨a, rfl, bl, ot, ⟨_, h1, h2, h3, h9⟩⟩
end
end Go.Proofs.Ytjliibiohgcaeaa
