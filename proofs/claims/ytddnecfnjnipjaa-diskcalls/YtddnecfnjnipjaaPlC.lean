/-
  asked: Pending, Image.
-/
import Derived.Test.YtddnecfnjnipjaaPlB
namespace Go.Proofs.Ytddnecfnjnipjaa
open Go.RowKit

set_option maxRecDepth 100000 in
set_option maxHeartbeats 1000000 in
theorem same_intsP {w : World} {g n : Nat} {v : Value} {P : List Nat} (h : Rw w g (pcells P).toArray 3) (h' : OwnP w v P) (hn : P.length = n) (hb : n ≤ 4398046511104) :
    Calls Try.prog 48 #[.slice (some ⟨g, 0, none⟩) n n, v] w fun e w' => e = .returned (.bool true) ∧ ∃ m, w' = w.drewN m := by
  have hcell : ∀ (k : Nat) (hk : k < P.length), ∃ g2, (∃ c, v = .slice (some ⟨g2, 0, none⟩) n c) ∧ w.cell? ⟨g2, k, none⟩ = some (.int .i64 (P[k]'hk)) := fun k hk => by
    rcases owns_form h' with ⟨_, h0⟩ | ⟨g2, c, e⟩
    · omega
    · refine ⟨g2, ⟨c, by rw [e, hn]⟩, ?_⟩
      have := World.ownsRow.cells h' (g := g2) (by rw [e]; rfl) k (.int .i64 (P[k]'hk)) (by simp [pcells, hk])
      rwa [addr_add, Nat.zero_add] at this
  obtain ⟨va, vc, hvf⟩ : ∃ a c, v = .slice a n c := by
    rcases owns_form h' with ⟨e, h0⟩ | ⟨g2, c, e⟩
    · exact ⟨none, 0, by rw [e, ← hn, h0]⟩
    · exact ⟨_, _, by rw [e, hn]⟩
  subst hvf
  have H : Hid _ := h
  have HC : Hid _ := hcell
  have HN : Hid _ := hn
  clear h h' hn hcell
  go_enter Try.func48, Try.ntmps48
  go_wp2_with fail
  go_loopw [5] (fun x wr => ∃ (k j : Nat), x = .int .i64 k ∧ wr = w.drewN j ∧ k ≤ n) (fun x _ => n - (intOf x).toNat)
  case atStart => exact ⟨0, 0, rfl, rfl, Nat.zero_le _⟩
  case round =>
    obtain ⟨k, j, rfl, rfl, hk⟩ := hrel
    by_cases hlt : k < n
    · have hkl : k < P.length := by have := HN.out; omega
      have hc1 := pcells_get H.out (k := k) hkl
      obtain ⟨g2, ⟨c2, e2⟩, hc2⟩ := HC.out k hkl
      injection e2 with e2 _ e3
      subst e2 e3
      obtain ⟨v, hv⟩ : ∃ v : Nat, v = P[k]'hkl := ⟨_, rfl⟩
      rw [← hv] at hc1 hc2
      have hc1' : ∀ n, (w.drewN n).cell? ⟨g, k, none⟩ = some (.int .i64 v) := fun n => hc1
      have hc2' : ∀ n, (w.drewN n).cell? ⟨g2, k, none⟩ = some (.int .i64 v) := fun n => hc2
      clear hc1 hc2 hv hkl
      go_wp2_with fail
      go_quiet (fail)
      go_wp2_with fail
      go_roundw
      case rel => exact ⟨k + 1, _, by go_num, rfl, by omega⟩
      case measure => simp [intOf]; omega
    · go_wp2_with fail
      go_ret
      exact ⟨rfl, _, rfl⟩

theorem sl_row {w : World} {g n : Nat} {cs : List Value} (h : Rw w g cs.toArray 3) (hn : cs.length = n) (hl : n ≤ 4398046511104) : Sl w 3 (.slice (some ⟨g, 0, none⟩) n n) n :=
  ⟨cs, by rw [hn, Nat.mul_one], .inr ⟨g, n, _, rfl, Nat.zero_le _, h.eq, Nat.le_refl _, by unfold maxLen; omega, by simp [hn], by rw [Nat.mul_one]; exact List.take_of_length_le (by simp [hn])⟩⟩
theorem RB.qlen {w : World} {Bl : Nat → Prop} {q S z b : Nat} {r : Rs} (h : RB w Bl q S z b r) : r.Q.length ≤ b := by
  obtain ⟨dl, cl, dv, cv, C, hd, hbl, hU, hQ⟩ := h.ex
  rw [← hQ, List.length_map]
  have := hd.len
  omega

set_option maxRecDepth 100000 in
set_option maxHeartbeats 4000000 in
theorem TS.askedPending {w : World} {BD BR BL : Nat → Prop} {p q lg S z b : Nat} {s : St} {r : Rs} (h : TS w BD BR BL p q lg S z b b b s r) (re : Re z s r) (hb : Bd S z b) (a : Ac) (ha : a.kd = 7) :
    Calls Try.prog 16 #[.pointer (some ⟨p, 0, none⟩), .pointer (some ⟨q, 0, none⟩), .agg a.cells.toArray, .pointer (some ⟨lg, 0, none⟩)] w fun e w' => e = .returned (.bool true) ∧ PT w w' BD BR BL p q lg S z b := by
  obtain ⟨W, hW⟩ : ∃ W, W = w.alloc (.cells a.cells.toArray 44) := ⟨_, rfl⟩
  have c0 : Chg (fun _ => False) w W := by rw [hW]; exact (Chg.refl _ _).alloc _
  have r0 : Rw W w.heap.size a.cells.toArray 44 := by rw [hW]; exact ⟨heap_alloc_new _ _⟩
  have h0 := h.fresh c0
  have hlow := h.low
  have nB : ¬ B3 BD BR BL w.heap.size := fun e => by have := hlow _ e; omega
  have k1 : W.cell? ⟨w.heap.size, 1, none⟩ = some (.int .i64 7) := by rw [← ha]; exact r0.cell 1
  have H0 : Hid _ := h0
  have HB : Hid _ := hb
  have RE : Hid _ := re
  have C0 : Hid _ := c0
  have R0 : Hid _ := r0
  have NB : Hid _ := nB
  have HLOW : Hid _ := hlow
  clear h re hb c0 r0 h0 hlow nB
  go_enter Try.func16, Try.ntmps16
  go_upto_region 1 with fail
  rw [← hW]
  clear hW
  have hq := H0.out.r.qlen
  have hpn := RE.out.pend
  obtain ⟨n, hn⟩ : ∃ n, n = r.Q.length := ⟨_, rfl⟩
  rw [← hn] at hq hpn
  have hbb := HB.out.hb
  go_wp2_with fail
  refine Calls.mono (AB.pending H0.out.d (n := n) (by omega) hpn (by omega)) ?_
  rintro e w1 ⟨g, P, rfl, hg, hr, hP, ch, d1⟩
  have hPP : P = r.Q.map Prod.fst := by
    refine Pl.uniq (n := (n : Int)) (A := s.A) hP ?_
    have := pl_qA r.Q
    rw [← hn] at this
    rw [show s.A = qA r.Q from funext RE.out.A]
    exact this
  have hPl : P.length = n := by have := hP.len; omega
  have h1 := H0.out.row ch d1
  have bp := H0.out.d.bp
  have C1 : Hid (Chg BD W w1) := ch.mono (fun g _ e => by rw [e]; exact bp)
  have HG : Hid _ := hg
  have HR : Hid _ := hr
  have HPL : Hid _ := hPl
  have HPP : Hid _ := hPP
  have H1 : Hid _ := h1
  have HN : Hid _ := hn
  clear hg hr hP ch d1 hPP hPl h1 bp hn hpn k1
  go_wp2_with fail
  refine Calls.mono (H1.out.r.pending HB.out.hb) ?_
  rintro e w2 ⟨v2, rfl, o2, g2, po⟩
  rw [← HPP.out] at o2
  obtain ⟨BR1, hB2, h2⟩ := H1.out.ref po
  have nb1 : ¬ B3 BD BR BL g := fun e => by
    have := HG.out
    have := C0.out.size
    have := HLOW.out g e
    omega
  have r2 : Rw w2 g (pcells P).toArray 3 := ⟨po.ch.heap_some HR.out.eq (fun e => nb1 (.inr (.inl e)))⟩
  have nb2 : ∀ g', (Value.slice (some ⟨g, 0, none⟩) n n).ownBlock = some g' → ¬ B3 BD BR1 BL g' := fun g' hg' e => by
    have eg : g = g' := by simpa [Value.ownBlock] using hg'
    subst eg
    rcases e with e | e | e
    · exact nb1 (.inl e)
    · rcases hB2 g e with e2 | e2
      · exact nb1 (.inr (.inl e2))
      · have := HR.out.lt; omega
    · exact nb1 (.inr (.inr e))
  have C2 : Hid _ := po.ch
  have R2 : Hid _ := r2
  have O2 : Hid _ := o2
  have H2 : Hid _ := h2
  have HB2 : Hid _ := hB2
  have NB2 : Hid _ := nb2
  clear po r2 o2 h2 hB2 nb1 nb2 g2
  go_wp2_with fail
  refine Calls.mono (same_intsP R2.out O2.out HPL.out (by omega)) ?_
  rintro e w9 ⟨rfl, j, rfl⟩
  have H3 : Hid _ := H2.out.fresh (drewN_chg2 w2 j)
  go_wp2_with fail
  refine Calls.mono (H3.out.l.page HB.out.hb (v := .slice (some ⟨g, 0, none⟩) n n) (n := n) (sl_row (w := w2.drewN j) (cs := pcells P) ⟨R2.out.eq⟩ (by rw [pcells_len]; exact HPL.out) (by omega)) (fun g hg e => NB2.out g hg (.inr (.inr e))) (by omega)) ?_
  rintro e w4 ⟨rfl, ch, lg4⟩
  have h4 := H3.out.led NB2.out ch lg4
  have FIN : Hid (PT w w4 BD BR BL p q lg S z b) := by
    have s0 := C0.out.size
    have s1 := C1.out.size
    have s2 := C2.out.size
    have s4 : w2.heap.size ≤ w4.heap.size := ch.size
    refine ⟨?_, BD, BR1, _, _, _, fun g hg => .inl (.inl hg), fun g hg => grB.wide (fun _ h => .inr (.inl h)) (by omega) (by omega) (HB2.out g hg), fun gx hg => grB.led (fun _ h => .inr (.inr h)) (by show w.heap.size ≤ w2.heap.size; omega) (fun g' e => by have eg : g = g' := (by simpa [Value.ownBlock] using e); have := HG.out; omega) lg4.low hg, h4.mono (Nat.le_succ _) (Nat.le_refl _) (Nat.le_refl _), RE.out⟩
    refine (((C0.out.mono (fun _ _ h => h.elim)).trans C1.out (fun g e => .inl (.inl e))).trans C2.out (fun g e => .inl (.inr (.inl e)))).trans (Chg.trans ((drewN_chg2 w2 j).mono (fun _ _ h => h.elim)) ch (fun g e => .inl e)) (fun g' e => ?_)
    rcases e with e | e
    · exact .inl (.inr (.inr e))
    · have eg : g' = g := by simpa [Value.ownBlock] using e
      exact .inr (by have := HG.out; omega)
  clear ch lg4 h4
  go_wp2_with fail
  go_ret
  exact ⟨rfl, FIN.out⟩

set_option maxRecDepth 100000 in
set_option maxHeartbeats 4000000 in
theorem TS.askedImage {w : World} {BD BR BL : Nat → Prop} {p q lg S z b : Nat} {s : St} {r : Rs} (h : TS w BD BR BL p q lg S z b b b s r) (re : Re z s r) (hb : Bd S z b) (a : Ac) (ha : a.kd = 8) :
    Calls Try.prog 16 #[.pointer (some ⟨p, 0, none⟩), .pointer (some ⟨q, 0, none⟩), .agg a.cells.toArray, .pointer (some ⟨lg, 0, none⟩)] w fun e w' => e = .returned (.bool true) ∧ PT w w' BD BR BL p q lg S z b := by
  obtain ⟨W, hW⟩ : ∃ W, W = w.alloc (.cells a.cells.toArray 44) := ⟨_, rfl⟩
  have c0 : Chg (fun _ => False) w W := by rw [hW]; exact (Chg.refl _ _).alloc _
  have r0 : Rw W w.heap.size a.cells.toArray 44 := by rw [hW]; exact ⟨heap_alloc_new _ _⟩
  have h0 := h.fresh c0
  have hlow := h.low
  have nB : ¬ B3 BD BR BL w.heap.size := fun e => by have := hlow _ e; omega
  have k1 : W.cell? ⟨w.heap.size, 1, none⟩ = some (.int .i64 8) := by rw [← ha]; exact r0.cell 1
  have H0 : Hid _ := h0
  have HB : Hid _ := hb
  have RE : Hid _ := re
  have C0 : Hid _ := c0
  have R0 : Hid _ := r0
  have NB : Hid _ := nB
  have HLOW : Hid _ := hlow
  clear h re hb c0 r0 h0 hlow nB
  go_enter Try.func16, Try.ntmps16
  go_upto_region 1 with fail
  rw [← hW]
  clear hW
  go_wp2_with fail
  refine Calls.mono (AB.image H0.out.d H0.out.fs HB.out.hz HB.out.z0 HB.out.hSz) ?_
  rintro e w1 ⟨g, rfl, hr, hg, ch, d1⟩
  have h1 := H0.out.row ch d1
  have bp := H0.out.d.bp
  have C1 : Hid (Chg BD W w1) := ch.mono (fun g _ e => by rw [e]; exact bp)
  have HG : Hid _ := hg
  have HR : Hid _ := hr
  have H1 : Hid _ := h1
  have HIL : Hid ((imgT z S s.F).length = S * z) := imgT_len z S s.F
  have hSz := HB.out.hSz
  obtain ⟨m, hm⟩ : ∃ m, m = S * z := ⟨_, rfl⟩
  have HM : Hid _ := hm
  rw [← hm] at hSz ⊢
  clear hg hr ch d1 h1 bp k1 hm
  go_wp2_with fail
  refine Calls.mono (H1.out.r.image RE.out HB.out.hb HB.out.hz HB.out.z0 HB.out.hSz) ?_
  rintro e w2 ⟨rfl, r2', po⟩
  obtain ⟨BR1, hB2, h2⟩ := H1.out.ref po
  have nb1 : ¬ B3 BD BR BL g := fun e => by
    have := HG.out
    have := C0.out.size
    have := HLOW.out g e
    omega
  have r2 : Rw w2 g (bs (imgT z S s.F)).toArray 5 := ⟨po.ch.heap_some HR.out.eq (fun e => nb1 (.inr (.inl e)))⟩
  have nb2 : ∀ g', (Value.slice (some ⟨g, 0, none⟩) m m).ownBlock = some g' → ¬ B3 BD BR1 BL g' := fun g' hg' e => by
    have eg : g = g' := by simpa [Value.ownBlock] using hg'
    subst eg
    rcases e with e | e | e
    · exact nb1 (.inl e)
    · rcases hB2 g e with e2 | e2
      · exact nb1 (.inr (.inl e2))
      · have := HR.out.lt; omega
    · exact nb1 (.inr (.inr e))
  have C2 : Hid _ := po.ch
  have O1 : Hid (Own w2 (.slice (some ⟨g, 0, none⟩) m m) (imgT z S s.F)) := own_row r2 (by rw [HIL.out]; exact HM.out) (by rw [HIL.out, ← HM.out]; omega)
  have O2 : Hid (Own w2 (.slice (some ⟨w1.heap.size, 0, none⟩) m m) (imgT z S s.F)) := own_row r2' (by rw [HIL.out]; exact HM.out) (by rw [HIL.out, ← HM.out]; omega)
  have H2 : Hid _ := h2
  have HB2 : Hid _ := hB2
  have NB2 : Hid _ := nb2
  rw [← HM.out]
  clear po r2 r2' h2 hB2 nb1 nb2
  go_wp2_with fail
  refine Calls.mono (same_src (Own.src O1.out) (Own.src O2.out) (by rw [HIL.out, ← HM.out]; omega)) ?_
  rintro e w9 ⟨rfl, j, rfl⟩
  have H3 : Hid _ := H2.out.fresh (drewN_chg2 w2 j)
  go_wp2_with fail
  refine Calls.mono (H3.out.l.keep HB.out.hb (v := .slice (some ⟨g, 0, none⟩) m m) (l := imgT z S s.F) O1.out (fun g hg e => NB2.out g hg (.inr (.inr e))) (by rw [HIL.out, ← HM.out]; omega)) ?_
  rintro e w4 ⟨rfl, ch, lg4⟩
  have h4 := H3.out.led NB2.out ch lg4
  have FIN : Hid (PT w w4 BD BR BL p q lg S z b) := by
    have s0 := C0.out.size
    have s1 := C1.out.size
    have s2 := C2.out.size
    have s4 : w2.heap.size ≤ w4.heap.size := ch.size
    refine ⟨?_, BD, BR1, _, _, _, fun g hg => .inl (.inl hg), fun g hg => grB.wide (fun _ h => .inr (.inl h)) (by omega) (by omega) (HB2.out g hg), fun gx hg => grB.led (fun _ h => .inr (.inr h)) (by show w.heap.size ≤ w2.heap.size; omega) (fun g' e => by have eg : g = g' := (by simpa [Value.ownBlock] using e); have := HG.out; omega) lg4.low hg, h4.mono (Nat.le_succ _) (Nat.le_refl _) (Nat.le_refl _), RE.out⟩
    refine (((C0.out.mono (fun _ _ h => h.elim)).trans C1.out (fun g e => .inl (.inl e))).trans C2.out (fun g e => .inl (.inr (.inl e)))).trans (Chg.trans ((drewN_chg2 w2 j).mono (fun _ _ h => h.elim)) ch (fun g e => .inl e)) (fun g' e => ?_)
    rcases e with e | e
    · exact .inl (.inr (.inr e))
    · have eg : g' = g := by simpa [Value.ownBlock] using e
      exact .inr (by have := HG.out; omega)
  clear ch lg4 h4
  go_wp2_with fail
  go_ret
  exact ⟨rfl, FIN.out⟩
end Go.Proofs.Ytddnecfnjnipjaa
