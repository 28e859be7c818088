/-
  The reference reads proofs.
-/
import Derived.Test.YtlmdljghhpkbiaaPrV
import Derived.Test.YtlmdljghhpkbiaaPrC
namespace Go.Proofs.Ytlmdljghhpkbiaa
open Go.RowKit

/-- The reference under way with a proof. -/
structure UR (w : World) (s : Value) (T : List Int) (v : Value) (L : List (OpS × Value × Value)) (wr : World) (a : Nat) (err : Int) (ct : Nat) : Prop where
  rs : RS wr (w.heap.size + 1) 64 s T a err
  res : Blk wr w.heap.size prZ 98
  row : Blk wr (w.heap.size + 2) (prC ct v) 98
  om : OM wr (w.heap.size + 3) v L
  be : Below w.heap.size w wr
  sz : w.heap.size + 3 ≤ wr.heap.size
  sl : ∀ k, s.ownBlock = some k → k < w.heap.size
section
variable {w wr w' : World} {s v : Value} {T : List Int} {L : List (OpS × Value × Value)} {a a1 ct : Nat} {err e1 : Int}
theorem OM.none (w : World) (B : Nat) : OM w B (.slice none 0 0) [] := ⟨⟨World.ownsRow_nil w 0 111 37, fun c hc => (by cases hc)⟩, fun o ho => (by cases ho), fun g hg => by simp [Value.ownBlock] at hg, fun o ho => (by cases ho), List.Pairwise.nil, fun o ho => (by cases ho)⟩
theorem UR.start (h : In w s T) : UR w s T (.slice none 0 0) [] (((w.alloc (.cells prZ.toArray 98)).alloc (.cells #[s, .int .i64 0, .int .i64 0] 64)).alloc (.cells prZ.toArray 98)) 0 0 0 := by
  have hb1 : Below w.heap.size w (w.alloc (.cells prZ.toArray 98)) := (Below.refl _ _).alloc (Nat.le_refl _) _
  have hb2 : Below w.heap.size w ((w.alloc (.cells prZ.toArray 98)).alloc (.cells #[s, .int .i64 0, .int .i64 0] 64)) := hb1.alloc (by simp) _
  have h1 := In.at h 64 hb1
  rw [World.size_alloc] at h1
  refine ⟨(h1.alloc _).rp.1, ((Blk.made w _ 98).alloc _).alloc _, ?_, OM.none _ _, hb2.alloc (by simp; omega) _, by simp, fun k hk => h.lt k hk⟩
  have := Blk.made ((w.alloc (.cells prZ.toArray 98)).alloc (.cells #[s, .int .i64 0, .int .i64 0] 64)) prZ 98
  rw [World.size_alloc, World.size_alloc] at this
  exact this
theorem OM.notRow {B g : Nat} (h : OM w B v L) {S : Nat → Prop} (c : Chg S w w') {cs : List Value} {t : TypeId} (hS : ∀ k, S k → k = g) (hb : Blk w g cs t) (ht : t ≠ 111 ∧ t ≠ 5) : OM w' B v L := h.kept c (fun k cur t' e hk => by
  rw [hS k e, hb.eq] at hk
  injection hk with hk
  injection hk with _ hk
  rw [← hk]
  exact ht)
theorem UR.call (h : UR w s T v L wr a err ct) (r : RP wr w' (w.heap.size + 1) 64 s T a1 e1) : UR w s T v L w' a1 e1 ct :=
  ⟨r.1, h.res.keep r.2 (by omega), h.row.keep r.2 (by omega), h.om.kept r.2 (fun g cur t e hg => by
    rw [e, h.rs.blk] at hg
    injection hg with hg
    injection hg with _ hg
    rw [← hg]
    decide), h.be.trans (r.2.below (Nat.le_trans (by omega) h.sz) (fun k e => by omega)), Nat.le_trans h.sz r.2.size, h.sl⟩
theorem UR.drewN (h : UR w s T v L wr a err ct) (n : Nat) : UR w s T v L (wr.drewN n) a err ct :=
  ⟨h.rs.drewN n, Blk.drewN h.res n, Blk.drewN h.row n, h.om.fresh (drewN_chg wr n _), below_drewN h.be n, h.sz, h.sl⟩
theorem UR.setct (h : UR w s T v L wr a err ct) (n : Nat) : UR w s T v L (wr.setCell ⟨w.heap.size + 2, 0, none⟩ (.int .u64 n)) a err n := by
  have c : Chg (fun k => k = w.heap.size + 2) wr (wr.setCell ⟨w.heap.size + 2, 0, none⟩ (.int .u64 n)) := (Chg.refl (fun k => k = w.heap.size + 2) wr).setCell (p := ⟨w.heap.size + 2, 0, none⟩) (.inl rfl) _
  exact ⟨h.rs.keep c (by omega) (fun k hk e => by have := h.sl k hk; omega), h.res.keep c (by omega), h.row.set 0 (.int .u64 n), h.om.notRow c (fun _ e => e) h.row (by decide), h.be.trans (c.below (Nat.le_trans (by omega) h.sz) (fun k e => by omega)), Nat.le_trans h.sz c.size, h.sl⟩
theorem UR.op (h : UR w s T v L wr a 0 ct) {e : Ending} {w6 : World} (hq : XOpQ wr w6 (w.heap.size + 1) s T (opS T a 0) e) (hb : L.length + 1 ≤ 5000000) :
    ∃ (o : OpS × Value × Value) (v7 : Value) (w7 : World), o.1 = opS T a 0 ∧ e = .returned (.agg (ocOf o).toArray) ∧ (ocOf o).length = 37 ∧ Blk w6 (w.heap.size + 2) (prC ct v) 98 ∧ (Builtin.append_ #[96, 96] 96 #[v, .slice (some ⟨w6.heap.size, 0, none⟩) 1 1]).run Try.prog (w6.alloc (.cells (ocOf o).toArray 111)) = .ok v7 w7 ∧ Blk w7 (w.heap.size + 2) (prC ct v) 98 ∧ UR w s T v7 (L ++ [o]) (w7.setCell ⟨w.heap.size + 2, 1, none⟩ v7) (opS T a 0).at_ (opS T a 0).err ct := by
  obtain ⟨s1, v2, rfl, ho1, o1, o2, rp, hz2, hn2⟩ := hq.ex
  have h6 := h.call rp
  obtain ⟨v7, w7, hr7, om7, c7⟩ := h6.om.add (o := (opS T a 0, s1, v2)) o1 o2 ho1.1 ho1.2 (opS_len _ _ _) (fun g hg => Nat.le_trans h.sz (hn2 g hg)) h6.sz hb (C := wr.heap.size) (fun g hg => hn2 g hg) (fun q hq g hg => by obtain ⟨a, b, _, _⟩ := h.om.own q hq; rcases hg with hg | hg; exact a.lt hg; exact b.lt hg) hz2
  have hS : ∀ g, some g = v.ownBlock → w.heap.size + 3 ≤ g := fun g e => h.om.nb g e.symm
  have row7 : Blk w7 (w.heap.size + 2) (prC ct v) 98 := h6.row.keep c7 (fun e => by have := hS _ e; omega)
  have c8 : Chg (fun k => k = w.heap.size + 2) w7 (w7.setCell ⟨w.heap.size + 2, 1, none⟩ v7) := (Chg.refl (fun k => k = w.heap.size + 2) w7).setCell (p := ⟨w.heap.size + 2, 1, none⟩) (.inl rfl) _
  refine ⟨(opS T a 0, s1, v2), v7, w7, rfl, rfl, by rw [ocOf, opC_len, opS_len], h6.row, hr7, row7, ?_⟩
  have rs7 : RS w7 (w.heap.size + 1) 64 s T (opS T a 0).at_ (opS T a 0).err := h6.rs.keep c7 (fun e => by have := hS _ e; omega) (fun k hk e => by have := hS _ e; have := h.sl k hk; omega)
  exact ⟨rs7.keep c8 (by omega) (fun k hk e => by have := h.sl k hk; omega), (h6.res.keep c7 (fun e => by have := hS _ e; omega)).keep c8 (by omega), row7.set 1 v7, om7.notRow c8 (fun _ e => e) row7 (by decide), (h6.be.trans (c7.below (Nat.le_trans (by omega) h6.sz) (fun k e => by have := hS k e; omega))).trans (c8.below (Nat.le_trans (Nat.le_trans (by omega) h6.sz) c7.size) (fun k e => by omega)), Nat.le_trans h6.sz (Nat.le_trans c7.size c8.size), h.sl⟩
end
theorem opsL_at {T : List Int} : ∀ (f a : Nat) (e : Int), (opsL T f a e).2.2 = 0 → T.length < a + f → T.length ≤ (opsL T f a e).2.1
  | 0, a, e, _, h => by simp only [opsL]; omega
  | f + 1, a, e, h0, h => by
    by_cases hc : e = 0 ∧ a < T.length
    · obtain ⟨rfl, hc⟩ := hc
      rw [opsL_step hc] at h0 ⊢
      have := opS_up T a hc
      exact opsL_at f _ _ h0 (by omega)
    · rw [opsL_stop hc] at h0 ⊢
      simp only at h0 ⊢
      subst h0
      omega
theorem proofE_eq {T : List Int} : proofE T = (opsL T (T.length + 1) (uintS T 0 0 maxN).2.1 (uintS T 0 0 maxN).2.2).2.2 := by
  unfold proofE proofS
  simp only
  obtain ⟨U, a, e, hU⟩ : ∃ U a e, uintS T 0 0 maxN = (U, a, e) := ⟨_, _, _, rfl⟩
  simp only [hU]
  obtain ⟨X, hX⟩ : ∃ X, X = opsL T (T.length + 1) a e := ⟨_, rfl⟩
  rw [← hX]
  by_cases h0 : X.2.2 = 0
  · rw [if_pos h0]
    have hat : T.length ≤ X.2.1 := by
      rw [hX] at h0 ⊢
      exact opsL_at _ _ _ h0 (by omega)
    rw [h0]
    unfold endE
    simp only
    rw [if_neg (by omega)]
  · rw [if_neg h0]
    by_cases he : e = 0
    · unfold endE failE
      simp [he, h0]
    · have h1 : X.2.2 = e := by rw [hX, opsL_stop (fun q => he q.1)]
      rw [h1]
      unfold endE failE
      simp [he]

def measU (w wr : World) (n : Nat) : Nat := match wr.cell? ⟨w.heap.size + 1, 1, none⟩ with | some u => n - (intOf u).toNat | none => 0
theorem UR.meas {w wr : World} {s v : Value} {T : List Int} {L : List (OpS × Value × Value)} {a ct : Nat} {err : Int} (h : UR w s T v L wr a err ct) (n : Nat) : measU w wr n = n - a := by
  unfold measU
  rw [h.rs.c1]
  simp [intOf]
set_option maxRecDepth 100000 in
set_option maxHeartbeats 16000000 in
theorem xReadProof_any {w : World} {s : Value} {T : List Int} (h : In w s T) (hT : T.length ≤ 4194304) :
    Calls Try.prog 37 #[s] w fun e w' => ∃ C, e = .returned (.tuple #[.agg C.toArray, .int .i64 (proofE T)]) ∧ Below w.heap.size w w' ∧ (C.length = prZ.length ∧ ∀ u ∈ C, u.oneCell' = true) ∧ (proofE T = 0 → PrIs w' w.heap.size (proofS T 0 0) C) ∧ (¬ proofE T = 0 → C = prZ) := by
  have X0 : Hid _ := UR.start h
  have HPS : Hid (proofE T = 0 → (proofS T 0 0).ct = (uintS T 0 0 maxN).1 ∧ (proofS T 0 0).ops = (opsL T (T.length + 1) (uintS T 0 0 maxN).2.1 (uintS T 0 0 maxN).2.2).1) := fun e => by
    rw [proofE_eq] at e
    unfold proofS
    simp only
    rw [if_pos e]
    exact ⟨rfl, rfl⟩
  obtain ⟨E, hE⟩ : ∃ E, E = proofE T := ⟨_, rfl⟩
  obtain ⟨S, hS⟩ : ∃ S, S = proofS T 0 0 := ⟨_, rfl⟩
  have hE2 := hE
  rw [proofE_eq] at hE2
  rw [← hE, ← hS]
  rw [← hE, ← hS] at HPS
  have HC : Hid _ := xNumberV X0.out.rs
  obtain ⟨U, a1, e1, hU⟩ : ∃ U b c, uintS T 0 0 maxN = (U, b, c) := ⟨_, _, _, rfl⟩
  simp only [hU] at HC HPS hE2
  have HE : Hid _ := hE2
  obtain ⟨sa, sc, hsf, _⟩ := h.cap
  have hgt : ¬ (4194304 : Int) < (T.length : Int) := by omega
  clear h hE hE2 hS hU
  subst hsf
  go_enter Try.func37, Try.ntmps37
  go_wp2_with fail
  refine Calls.mono HC.out ?_
  rintro e w1 ⟨rfl, r1⟩
  have X1 : Hid _ := X0.out.call r1
  clear r1 HC X0
  have hc : w1.cell? ⟨w.heap.size + 2, 0, none⟩ = some (.int .u64 0) := X1.out.row.cell 0
  have hf : w1.frozen? ⟨w.heap.size + 2, 0, none⟩ = false := X1.out.row.fr 0
  go_upto_region 6 with fail
  obtain ⟨w2, hw2⟩ : ∃ w2, w2 = w1.setCell ⟨w.heap.size + 2, 0, none⟩ (.int .u64 U) := ⟨_, rfl⟩
  have X2 : Hid _ := X1.out.setct U
  rw [← hw2] at X2 ⊢
  clear hw2 hc hf X1 hgt
  go_loopw [] (fun wr => ∃ (aj f : Nat) (ej : Int) (v : Value) (L : List (OpS × Value × Value)), Hid (UR w (.slice sa T.length sc) T v L wr aj ej U ∧ opsL T (T.length + 1) a1 e1 = (L.map Prod.fst ++ (opsL T f aj ej).1, (opsL T f aj ej).2) ∧ T.length < aj + f ∧ L.length ≤ aj)) (fun wr => measU w wr T.length)
  case atStart => exact ⟨a1, T.length + 1, e1, _, [], X2.out, by simp, by omega, Nat.zero_le _⟩
  case round =>
    obtain ⟨aj, f, ej, v, L, hid⟩ := hrel
    have XJ : Hid _ := hid.out.1
    have HD : Hid _ := hid.out.2.1
    have HF : Hid _ := hid.out.2.2.1
    have HLL : Hid _ := hid.out.2.2.2
    clear hid
    have kc : wr.cell? ⟨w.heap.size + 1, 2, none⟩ = some (.int .i64 ej) := XJ.out.rs.c2
    have jle := XJ.out.rs.le
    by_cases he : ej = 0
    · subst he
      have HLF : Hid _ := xLeft_any XJ.out.rs
      by_cases hlt : aj < T.length
      · have hlt2 : (0 : Int) < (T.length : Int) - (aj : Int) := by omega
        have up := opS_up T aj hlt
        obtain ⟨f', rfl⟩ : ∃ f', f = f' + 1 := ⟨f - 1, by have := HF.out; omega⟩
        obtain ⟨va, vc, hvf⟩ := XJ.out.om.form
        obtain ⟨vn, hvn⟩ : ∃ vn, vn = L.length := ⟨_, rfl⟩
        rw [← hvn] at hvf
        subst hvf
        clear hvn
        go_upto_region 7 with (go_at_call 77; refine Calls.mono HLF.out ?_; rintro e wq ⟨rfl, nq, hwq⟩; have XK : Hid (UR w (.slice sa T.length sc) T (.slice va vn vc) L wq aj 0 U) := (by rw [hwq]; exact XJ.out.drewN nq); clear hwq HLF)
        have XD : Hid (UR w (.slice sa T.length sc) T (.slice va vn vc) L wq.drew aj 0 U) := XK.out.drewN 1
        have QA : Hid (wq.drew.cell? ⟨w.heap.size + 2, 1, none⟩ = some (.slice va vn vc)) := XD.out.row.cell 1
        refine wp_region_held_drew (S := fun _ => True) (by kernel_rfl) trivial (fun _ => ?_)
        refine wpAnyH_take (i := 0) (v := .pointer (some ⟨w.heap.size + 2, 1, none⟩)) rfl (by kernel_rfl) (by kernel_rfl) (by kernel_rfl) (fun _ _ _ h => h) (Or.inl ⟨by rfl, fun w' _ => by go_simp⟩) trivial ?_
        refine wpAnyH_take (i := 2) (v := .pointer (some ⟨w.heap.size + 1, 0, none⟩)) rfl (by kernel_rfl) (by kernel_rfl) (by kernel_rfl) (fun _ _ _ h => h) (Or.inl ⟨by rfl, fun w' _ => by go_simp⟩) trivial ?_
        refine wpAnyH_ready (rs := [1, 3]) (by kernel_rfl) (by simp) ?_
        refine AllReadyH.cons rfl (fun KK hKK => ?_) (AllReadyH.cons rfl (fun KK hKK => ?_) AllReadyH.nil)
        · have q4 := QA.out
          go_simp
          refine hKK.out _ _ trivial (fun _ => ?_)
          clear hKK KK q4
          refine wpAnyH_ready (rs := [3]) (by kernel_rfl) (by simp) ?_
          refine AllReadyH.cons rfl (fun KK hKK => ?_) AllReadyH.nil
          go_simp
          refine Calls.mono (xReadOp_any XD.out.rs) ?_
          intro e w6 hq
          obtain ⟨o, v7, w7, ho, hee, LC, row6, hr7, row7, ur8⟩ := XD.out.op hq (by have := HLL.out; omega)
          subst hee
          obtain ⟨ya, yc, hyf⟩ := ur8.om.form
          obtain ⟨ln, hln⟩ : ∃ ln, ln = (L ++ [o]).length := ⟨_, rfl⟩
          rw [← hln] at hyf
          subst hyf
          obtain ⟨w8, hw8⟩ : ∃ w8, w8 = w7.setCell ⟨w.heap.size + 2, 1, none⟩ (.slice ya ln yc) := ⟨_, rfl⟩
          rw [← hw8] at ur8
          have FIN : Hid (UR w (.slice sa T.length sc) T (.slice ya ln yc) (L ++ [o]) w8 (opS T aj 0).at_ (opS T aj 0).err U ∧ opsL T (T.length + 1) a1 e1 = ((L ++ [o]).map Prod.fst ++ (opsL T f' (opS T aj 0).at_ (opS T aj 0).err).1, (opsL T f' (opS T aj 0).at_ (opS T aj 0).err).2) ∧ T.length < (opS T aj 0).at_ + f' ∧ (L ++ [o]).length ≤ (opS T aj 0).at_) := by
            refine ⟨ur8, ?_, by have := HF.out; omega, by have := HLL.out; rw [List.length_append, List.length_singleton]; omega⟩
            rw [HD.out, opsL_step hlt, ← ho]
            simp
          have HW8 : Hid _ := hw8
          have QB : Hid (w6.cell? ⟨w.heap.size + 2, 1, none⟩ = some (.slice va vn vc)) := row6.cell 1
          have QC : Hid ((w6.alloc (.cells (ocOf o).toArray 111)).cell? ⟨w.heap.size + 2, 1, none⟩ = some (.slice va vn vc)) := (row6.alloc _).cell 1
          have Q7 : Hid (w7.cell? ⟨w.heap.size + 2, 1, none⟩ = some (.slice va vn vc)) := row7.cell 1
          have F7 : Hid (w7.frozen? ⟨w.heap.size + 2, 1, none⟩ = false) := row7.fr 1
          have HR7 : Hid _ := hr7
          clear hq ho hln row6 hr7 row7 ur8 hw8
          refine hKK.out _ _ trivial (fun _ => ?_)
          clear hKK KK
          refine wpAnyH_ready (rs := [4]) (by kernel_rfl) (by simp) ?_
          refine AllReadyH.cons rfl (fun KK hKK => ?_) AllReadyH.nil
          refine step_buildP (sl := 96) Try.underlying96 info219 (by decide) (by decide) rfl (.tmp 29) rfl (C := ocOf o) (by kernel_rfl) LC ?_
          refine hKK.out _ _ trivial (fun _ => ?_)
          clear hKK KK
          refine wpAnyH_ready (rs := [5]) (by kernel_rfl) (by simp) ?_
          refine AllReadyH.cons rfl (fun KK hKK => ?_) AllReadyH.nil
          refine step_appP #[96, 96] rfl (.tmp 27) (.tmp 30) rfl (v := .slice va vn vc) (u := .slice (some ⟨w6.heap.size, 0, none⟩) 1 1) (by kernel_rfl) (by kernel_rfl) HR7.out ?_
          refine hKK.out _ _ trivial (fun _ => ?_)
          clear hKK KK
          refine wpAnyH_take (i := 6) (v := .pointer (some ⟨w.heap.size + 2, 1, none⟩)) rfl (by kernel_rfl) (by kernel_rfl) (by kernel_rfl) (fun _ _ _ h => h) (Or.inl ⟨by rfl, fun w' _ => by go_simp⟩) trivial ?_
          refine wpAnyH_ready (rs := [7]) (by kernel_rfl) (by simp) ?_
          refine AllReadyH.cons rfl (fun KK hKK => ?_) AllReadyH.nil
          have s7 := Q7.out
          have f7 := F7.out
          go_simp
          refine hKK.out _ _ trivial (fun _ => ?_)
          clear hKK KK s7 f7
          refine wpAnyH_done (by kernel_rfl) ?_ _
          rw [← HW8.out]
          go_wp2_with fail
          go_roundw
          case rel => exact ⟨_, f', _, _, L ++ [o], FIN.out⟩
          case measure => rw [UR.meas FIN.out.1, UR.meas XJ.out]; omega
        · go_simp
          refine Calls.mono (xReadOp_any XD.out.rs) ?_
          intro e w6 hq
          obtain ⟨o, v7, w7, ho, hee, LC, row6, hr7, row7, ur8⟩ := XD.out.op hq (by have := HLL.out; omega)
          subst hee
          obtain ⟨ya, yc, hyf⟩ := ur8.om.form
          obtain ⟨ln, hln⟩ : ∃ ln, ln = (L ++ [o]).length := ⟨_, rfl⟩
          rw [← hln] at hyf
          subst hyf
          obtain ⟨w8, hw8⟩ : ∃ w8, w8 = w7.setCell ⟨w.heap.size + 2, 1, none⟩ (.slice ya ln yc) := ⟨_, rfl⟩
          rw [← hw8] at ur8
          have FIN : Hid (UR w (.slice sa T.length sc) T (.slice ya ln yc) (L ++ [o]) w8 (opS T aj 0).at_ (opS T aj 0).err U ∧ opsL T (T.length + 1) a1 e1 = ((L ++ [o]).map Prod.fst ++ (opsL T f' (opS T aj 0).at_ (opS T aj 0).err).1, (opsL T f' (opS T aj 0).at_ (opS T aj 0).err).2) ∧ T.length < (opS T aj 0).at_ + f' ∧ (L ++ [o]).length ≤ (opS T aj 0).at_) := by
            refine ⟨ur8, ?_, by have := HF.out; omega, by have := HLL.out; rw [List.length_append, List.length_singleton]; omega⟩
            rw [HD.out, opsL_step hlt, ← ho]
            simp
          have HW8 : Hid _ := hw8
          have QB : Hid (w6.cell? ⟨w.heap.size + 2, 1, none⟩ = some (.slice va vn vc)) := row6.cell 1
          have QC : Hid ((w6.alloc (.cells (ocOf o).toArray 111)).cell? ⟨w.heap.size + 2, 1, none⟩ = some (.slice va vn vc)) := (row6.alloc _).cell 1
          have Q7 : Hid (w7.cell? ⟨w.heap.size + 2, 1, none⟩ = some (.slice va vn vc)) := row7.cell 1
          have F7 : Hid (w7.frozen? ⟨w.heap.size + 2, 1, none⟩ = false) := row7.fr 1
          have HR7 : Hid _ := hr7
          clear hq ho hln row6 hr7 row7 ur8 hw8
          refine hKK.out _ _ trivial (fun _ => ?_)
          clear hKK KK
          refine wpAnyH_ready (rs := [1, 4]) (by kernel_rfl) (by simp) ?_
          refine AllReadyH.cons rfl (fun KK hKK => ?_) (AllReadyH.cons rfl (fun KK hKK => ?_) AllReadyH.nil)
          · have q4 := QB.out
            go_simp
            refine hKK.out _ _ trivial (fun _ => ?_)
            clear hKK KK q4
            refine wpAnyH_ready (rs := [4]) (by kernel_rfl) (by simp) ?_
            refine AllReadyH.cons rfl (fun KK hKK => ?_) AllReadyH.nil
            refine step_buildP (sl := 96) Try.underlying96 info219 (by decide) (by decide) rfl (.tmp 29) rfl (C := ocOf o) (by kernel_rfl) LC ?_
            refine hKK.out _ _ trivial (fun _ => ?_)
            clear hKK KK
            refine wpAnyH_ready (rs := [5]) (by kernel_rfl) (by simp) ?_
            refine AllReadyH.cons rfl (fun KK hKK => ?_) AllReadyH.nil
            refine step_appP #[96, 96] rfl (.tmp 27) (.tmp 30) rfl (v := .slice va vn vc) (u := .slice (some ⟨w6.heap.size, 0, none⟩) 1 1) (by kernel_rfl) (by kernel_rfl) HR7.out ?_
            refine hKK.out _ _ trivial (fun _ => ?_)
            clear hKK KK
            refine wpAnyH_take (i := 6) (v := .pointer (some ⟨w.heap.size + 2, 1, none⟩)) rfl (by kernel_rfl) (by kernel_rfl) (by kernel_rfl) (fun _ _ _ h => h) (Or.inl ⟨by rfl, fun w' _ => by go_simp⟩) trivial ?_
            refine wpAnyH_ready (rs := [7]) (by kernel_rfl) (by simp) ?_
            refine AllReadyH.cons rfl (fun KK hKK => ?_) AllReadyH.nil
            have s7 := Q7.out
            have f7 := F7.out
            go_simp
            refine hKK.out _ _ trivial (fun _ => ?_)
            clear hKK KK s7 f7
            refine wpAnyH_done (by kernel_rfl) ?_ _
            rw [← HW8.out]
            go_wp2_with fail
            go_roundw
            case rel => exact ⟨_, f', _, _, L ++ [o], FIN.out⟩
            case measure => rw [UR.meas FIN.out.1, UR.meas XJ.out]; omega
          · refine step_buildP (sl := 96) Try.underlying96 info219 (by decide) (by decide) rfl (.tmp 29) rfl (C := ocOf o) (by kernel_rfl) LC ?_
            refine hKK.out _ _ trivial (fun _ => ?_)
            clear hKK KK
            refine wpAnyH_ready (rs := [1]) (by kernel_rfl) (by simp) ?_
            refine AllReadyH.cons rfl (fun KK hKK => ?_) AllReadyH.nil
            have q4 := QC.out
            go_simp
            refine hKK.out _ _ trivial (fun _ => ?_)
            clear hKK KK q4
            refine wpAnyH_ready (rs := [5]) (by kernel_rfl) (by simp) ?_
            refine AllReadyH.cons rfl (fun KK hKK => ?_) AllReadyH.nil
            refine step_appP #[96, 96] rfl (.tmp 27) (.tmp 30) rfl (v := .slice va vn vc) (u := .slice (some ⟨w6.heap.size, 0, none⟩) 1 1) (by kernel_rfl) (by kernel_rfl) HR7.out ?_
            refine hKK.out _ _ trivial (fun _ => ?_)
            clear hKK KK
            refine wpAnyH_take (i := 6) (v := .pointer (some ⟨w.heap.size + 2, 1, none⟩)) rfl (by kernel_rfl) (by kernel_rfl) (by kernel_rfl) (fun _ _ _ h => h) (Or.inl ⟨by rfl, fun w' _ => by go_simp⟩) trivial ?_
            refine wpAnyH_ready (rs := [7]) (by kernel_rfl) (by simp) ?_
            refine AllReadyH.cons rfl (fun KK hKK => ?_) AllReadyH.nil
            have s7 := Q7.out
            have f7 := F7.out
            go_simp
            refine hKK.out _ _ trivial (fun _ => ?_)
            clear hKK KK s7 f7
            refine wpAnyH_done (by kernel_rfl) ?_ _
            rw [← HW8.out]
            go_wp2_with fail
            go_roundw
            case rel => exact ⟨_, f', _, _, L ++ [o], FIN.out⟩
            case measure => rw [UR.meas FIN.out.1, UR.meas XJ.out]; omega
      · have hge : ¬ (0 : Int) < (T.length : Int) - (aj : Int) := by omega
        obtain ⟨va, vc, hvf⟩ := XJ.out.om.form
        obtain ⟨vn, hvn⟩ : ∃ vn, vn = L.length := ⟨_, rfl⟩
        rw [← hvn] at hvf
        subst hvf
        clear hvn
        have E0 : E = 0 := by rw [HE.out, HD.out, opsL_stop (fun e => hlt e.2)]
        obtain ⟨C, hC⟩ : ∃ C, C = prC U (.slice va vn vc) := ⟨_, rfl⟩
        go_upto_region 8 with (go_at_call 77; refine Calls.mono HLF.out ?_; rintro e wq ⟨rfl, nq, hwq⟩; have XK : Hid (UR w (.slice sa T.length sc) T (.slice va vn vc) L wq aj 0 U) := (by rw [hwq]; exact XJ.out.drewN nq); clear hwq HLF)
        have FIS : Hid (PrIs wq w.heap.size S C) := by
          have h9 := HPS.out E0
          refine ⟨.slice va vn vc, L, by rw [hC, h9.1], XK.out.om.mono (by omega), ?_⟩
          rw [h9.2, HD.out, opsL_stop (fun e => hlt e.2)]
          simp
        have LC : C.length = prZ.length := by rw [hC]; rfl
        have OC : Hid (∀ u ∈ C, u.oneCell' = true) := by rw [hC]; exact prC_one _ rfl
        have RB : Hid (Blk wq (w.heap.size + 2) C 98) := by rw [hC]; exact XK.out.row
        have k2 : wq.cell? ⟨w.heap.size + 1, 2, none⟩ = some (.int .i64 0) := XK.out.rs.c2
        clear kc hC
        subst E0
        go_wp2_with (first
          | (refine wpList_load_part rfl 98 (.tmp 5) rfl (w.heap.size + 2) 0 C rfl RB.out (by simp) Try.underlying98 rfl (Try.prZsz C LC) ?_)
          | (refine wpList_store_part rfl 98 (.tmp 2) (.tmp 43) rfl w.heap.size 0 C rfl rfl XK.out.res (by rw [LC, Nat.zero_add]; exact Nat.le_refl _) (Try.prZsz C LC) OC.out ?_; intro w4 b4 c4; rw [splice_all _ _ LC] at b4; have B4 : Hid _ := b4; have F4 : Hid _ := below_chg1 XK.out.be c4 XK.out.be.size (Nat.le_refl _); have T4 : Hid _ := FIS.out.kept XK.out.res c4; clear b4 c4))
        exact bodyPost_ret (results_row2 rfl _ _ w.heap.size 98 C _ _ rfl B4.out Try.underlying98 rfl (Try.prZsz C LC) rfl) rfl ⟨C, rfl, F4.out, ⟨LC, OC.out⟩, by first | exact T4.out | exact ⟨T4.out, fun e => absurd rfl e⟩ | exact ⟨fun _ => T4.out, fun e => absurd rfl e⟩ | exact ⟨T4.out, trivial⟩⟩
    · have heb : (ej == 0) = false := by simpa using he
      have hen : (ej != 0) = true := by simpa using he
      have E0 : E = ej := by rw [HE.out, HD.out, opsL_stop (fun e => he e.1)]
      subst E0
      go_upto_region 9 with fail
      have kr0 : wr.cell? ⟨w.heap.size, 0, none⟩ = some (.int .u64 0) := XJ.out.res.cell 0
      have kr1 : wr.cell? ⟨w.heap.size, 1, none⟩ = some (.slice none 0 0) := XJ.out.res.cell 1
      have kf0 : wr.frozen? ⟨w.heap.size, 0, none⟩ = false := XJ.out.res.fr 0
      have kf1 : wr.frozen? ⟨w.heap.size, 1, none⟩ = false := XJ.out.res.fr 1
      have cS : Chg (fun k => k = w.heap.size) wr (((wr.setCell ⟨w.heap.size, 0, none⟩ (.int .u64 0)).setCell ⟨w.heap.size, 1, none⟩ (.slice none 0 0)).drew) := (((Chg.refl (fun k => k = w.heap.size) wr).setCell (p := ⟨w.heap.size, 0, none⟩) (.inl rfl) _).setCell (p := ⟨w.heap.size, 1, none⟩) (.inl rfl) _).drew
      have B4 : Hid (Blk (((wr.setCell ⟨w.heap.size, 0, none⟩ (.int .u64 0)).setCell ⟨w.heap.size, 1, none⟩ (.slice none 0 0)).drew) w.heap.size prZ 98) := Blk.drewN ((XJ.out.res.set 0 (.int .u64 0)).set 1 (.slice none 0 0)) 1
      have F4 : Hid _ := below_chg1 XJ.out.be cS XJ.out.be.size (Nat.le_refl _)
      clear cS
      go_region
      obtain ⟨w4, hw4⟩ : ∃ w4, w4 = ((wr.setCell ⟨w.heap.size, 0, none⟩ (.int .u64 0)).setCell ⟨w.heap.size, 1, none⟩ (.slice none 0 0)).drew := ⟨_, rfl⟩
      rw [← hw4] at B4 F4 ⊢
      clear hw4 kr0 kr1 kf0 kf1 kc
      go_wp2_with fail
      exact bodyPost_ret (results_row2 rfl _ _ w.heap.size 98 prZ _ _ rfl B4.out Try.underlying98 rfl (Try.prZsz _ rfl) rfl) rfl ⟨prZ, rfl, F4.out, ⟨rfl, prZ_one⟩, fun e => absurd e he, fun _ => rfl⟩
end Go.Proofs.Ytlmdljghhpkbiaa
