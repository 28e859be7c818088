/-
  Load: the code's.
-/
import Derived.Test.YtjliibiohgcaeaaLoadA
import Derived.Deep.Cut
namespace Go.Proofs.Ytjliibiohgcaeaa
open Go.RowKit

theorem Mp.empty {w : World} {m z : Nat} (h : w.heap[m]? = some (.map #[] 0)) : Mp w m 0 z (fun _ => 0) (.map []) :=
  ⟨⟨#[], 0, h, ⟨by simp, MapKept.stamped_empty 0, by simp⟩, Nat.le_refl _, rfl⟩, fun i hi => by omega, fun kl => by simp [Maps.has]⟩

theorem Mp.put {w : World} {m k z : Nat} {gs : Nat → Nat} {D : DataW Unit} (h : Mp w m k z gs D) (g : Nat) (hk : k ≤ 65536) :
    ∃ w', (Instr.mapUpdate 81 (.map (some m)) (.int .i64 k) (.slice (some ⟨g, 0, none⟩) z z)).run Try.prog w = .ok () w' ∧ Mp w' m (k + 1) z (fun i => if i = k then g else gs i) (D.put (.int .i64 k) (.lit (.int .i64 g))) ∧ Chg (fun i => i = m) w w' := by
  have hwf : (Lit.int .i64 (k : Int)).wf = true := WalkArith.wf_i64 (by omega)
  obtain ⟨w', h1, h2, h3⟩ := h.own.update (t := 81) (e := 22) keyed3 Try.underlying81 (by unfold maxLen; omega) (Maps.keyOf_int_mk Try.underlying3 hwf) (blkElem_mk z g)
  have hM : Maps.IsMap D := h.own.isMap
  have hkey : WideAt.IsKeyLit (.int .i64 (k : Int)) := trivial
  refine ⟨w', h1, ⟨h2, fun i hi => ?_, fun kl => ?_⟩, ⟨h3.os, h3.tape, h3.output, h3.size, fun i hi hn => h3.block i hi (by simpa using hn)⟩⟩
  · by_cases e : i = k
    · subst e
      rw [Maps.atKey_put_same hM hkey, if_pos rfl]
    · rw [Maps.atKey_put_other (by intro e2; injection e2 with _ e2; omega), if_neg e]
      exact h.at_ i (by omega)
  · by_cases e : kl = .int .i64 k
    · subst e
      rw [Maps.has_put_same hM hkey]
      exact ⟨fun _ => ⟨k, by omega, rfl⟩, fun _ => rfl⟩
    · rw [Maps.has_put_other e, h.has kl]
      constructor
      · rintro ⟨i, hi, rfl⟩; exact ⟨i, by omega, rfl⟩
      · rintro ⟨i, hi, rfl⟩
        exact ⟨i, by by_cases e2 : i = k; subst e2; exact absurd rfl e; omega, rfl⟩

/-- While it is loaded: k sectors are there. -/
structure LK (w wr : World) (p m c S z k : Nat) (T : List Int) (gs : Nat → Nat) (D : DataW Unit) : Prop where
  row : Rw wr p (dk S z m c 0 0) 87
  mp : Mp wr m k z gs D
  mc : wr.heap[c]? = some (.map #[] 0)
  blk : ∀ i, i < k → Rw wr (gs i) (bs (piece T z i)).toArray 5
  bel : Below w.heap.size w wr
  lo : ∀ i, i < k → w.heap.size ≤ gs i

/-- A piece of a slice. -/
theorem Src.piece {w : World} {g o N cap : Nat} {T : List Int} (h : Src w (.slice (some ⟨g, o, none⟩) N cap) T) (L z c : Nat) (hL : L + z ≤ T.length) : Src w (.slice (some ⟨g, o + L, none⟩) z c) ((T.drop L).take z) := by
  rcases h with ⟨e, _⟩ | ⟨a, c2, e, hc⟩
  · cases e
  · injection e with e1 e2 e3
    injection e1 with e1
    subst e1
    have hl : ((T.drop L).take z).length = z := by simp; omega
    refine .inr ⟨_, c, by rw [hl], fun j u hu => ⟨rfl, ?_⟩⟩
    have hj : j < z := by have := (List.getElem?_eq_some_iff.1 hu).1; rwa [bs_len, hl] at this
    have hu2 : (bs T)[L + j]? = some u := by
      rw [← hu, bs_get _ _ (by omega), bs_get _ _ (by rw [hl]; exact hj)]
      simp
    have := (hc (L + j) u hu2).2
    rwa [← Nat.add_assoc] at this

set_option maxRecDepth 100000 in
set_option maxHeartbeats 4000000 in
theorem load_yes {w : World} {g o N cap S z : Nat} {T : List Int} (hs : Src w (.slice (some ⟨g, o, none⟩) N cap) T) (hN : T.length = N) (hcap : N ≤ cap) (hcap2 : cap ≤ 9223372036854775807) (hT : N = S * z) (h : okDisk S z) :
    Calls Try.prog 9 #[.slice (some ⟨g, o, none⟩) N cap, .int .i64 z] w fun e w' => e = .returned (.tuple #[.pointer (some ⟨w.heap.size + 2, 0, none⟩), .int .i64 0]) ∧ (∃ gs D, LD w' (w.heap.size + 2) w.heap.size (w.heap.size + 1) 0 S z gs D T ∧ ∀ i, i < S → w.heap.size ≤ gs i) ∧ Below w.heap.size w w' := by
  have hf := h.1
  have hz := fits_b hf
  have hS1 := h.2.1
  have hS2 := h.2.2.1
  have HF : Hid _ := fit_yes (w := w) z hf
  have HN : Hid _ := new_yes (w := w) S z h
  have hq : (N : Int).tdiv (z : Int) = (S : Int) := by
    rw [hT, Int.natCast_mul]
    exact Int.mul_tdiv_cancel _ (by omega)
  have hr : (N : Int).tmod (z : Int) = 0 := by
    rw [hT, Int.natCast_mul]
    exact Int.mul_tmod_left _ _
  have hz0 : ¬ (z : Int) = 0 := by omega
  have HS : Hid _ := hs
  have HT : Hid _ := hT
  have HNN : Hid _ := hN
  clear h hf hs hT hN
  go_enter Try.func9, Try.ntmps9
  go_wp2_with (first | (go_at_call 29; refine Calls.mono HF.out ?_; rintro e w9 ⟨rfl, h9⟩; subst h9) | (go_at_call 18; refine Calls.mono HN.out ?_; rintro e w1 ⟨rfl, d1, b1⟩; have D1 : Hid _ := d1; have B1 : Hid _ := b1; have c0 : w1.cell? ⟨w.heap.size + 2, 0, none⟩ = some (.int .i64 S) := DK.cell d1 0; clear d1 b1))
  have K1 : Hid (LK w w1 (w.heap.size + 2) w.heap.size (w.heap.size + 1) S z 0 T (fun _ => 0) (.map [])) := ⟨DK.rw D1.out, Mp.empty D1.out.mm, D1.out.mc, fun i hi => by omega, B1.out, fun i hi => by omega⟩
  clear D1 B1 HF HN
  go_loopw [35] (fun x wr => ∃ k gs D, k ≤ S ∧ x = .int .i64 (k : Nat) ∧ LK w wr (w.heap.size + 2) w.heap.size (w.heap.size + 1) S z k T gs D) (fun x _ => S - (intOf x).toNat)
  case atStart => exact ⟨0, _, _, Nat.zero_le _, rfl, K1.out⟩
  case round =>
    obtain ⟨k, gs, D, hk, rfl, hlk⟩ := hrel
    by_cases hltk : k < S
    · obtain ⟨L, hL⟩ : ∃ L, L = k * z := ⟨_, rfl⟩
      have hm1 : (k : Int) * (z : Int) = (L : Int) := by rw [hL, Int.natCast_mul]
      have hm2 : ((k : Int) + 1) * (z : Int) = (L : Int) + (z : Int) := by rw [Int.add_mul, hm1, Int.one_mul]
      have hLz : L + z ≤ N := by
        have := Nat.mul_le_mul_right z hltk
        rw [Nat.succ_mul, ← hL, ← HT.out] at this
        exact this
      have HK : Hid _ := hlk
      have HL : Hid _ := hL
      have hcne : ¬ cap = L := by omega
      clear hlk hL
      go_upto_region 9 with fail
      refine wp_region_held_drew (S := fun w' => w'.cell? ⟨w.heap.size + 2, 8, none⟩ = some (.map (some w.heap.size))) (by kernel_rfl) (Rw.cell HK.out.row 8) (fun hH => ?_)
      refine wpAnyH_take (i := 0) (v := .pointer (some ⟨w.heap.size + 2, 0, none⟩)) rfl (by kernel_rfl) (by kernel_rfl) (by kernel_rfl) (fun _ _ _ h => h) (Or.inl ⟨by rfl, fun w' _ => by go_simp⟩) hH ?_
      refine wpAnyH_take (i := 1) (v := .pointer (some ⟨w.heap.size + 2, 0, none⟩)) rfl (by kernel_rfl) (by kernel_rfl) (by kernel_rfl) (fun _ _ _ h => h) (Or.inl ⟨by rfl, fun w' _ => by go_simp⟩) hH ?_
      refine wpAnyH_take (i := 2) (v := .pointer (some ⟨w.heap.size + 2, 8, none⟩)) rfl (by kernel_rfl) (by kernel_rfl) (by kernel_rfl) (fun _ _ _ h => h) (Or.inl ⟨by rfl, fun w' _ => by go_simp⟩) hH ?_
      refine wpAnyH_take (i := 3) (v := .map (some w.heap.size)) rfl (by kernel_rfl) (by kernel_rfl) (by kernel_rfl) (fun _ _ _ h => h) (Or.inl ⟨by rfl, fun w' hw' => by go_simp⟩) hH ?_
      refine wpAnyH_take (i := 4) (v := .int .i64 k) rfl (by kernel_rfl) (by kernel_rfl) (by kernel_rfl) (fun _ _ _ h => h) (Or.inl ⟨by rfl, fun w' _ => by go_simp⟩) hH ?_
      refine wpAnyH_take (i := 5) (v := .slice (some ⟨g, o, none⟩) N cap) rfl (by kernel_rfl) (by kernel_rfl) (by kernel_rfl) (fun _ _ _ h => h) (Or.inl ⟨by rfl, fun w' _ => by go_simp⟩) hH ?_
      refine wpAnyH_take (i := 6) (v := .int .i64 k) rfl (by kernel_rfl) (by kernel_rfl) (by kernel_rfl) (fun _ _ _ h => h) (Or.inl ⟨by rfl, fun w' _ => by go_simp⟩) hH ?_
      refine wpAnyH_take (i := 7) (v := .int .i64 z) rfl (by kernel_rfl) (by kernel_rfl) (by kernel_rfl) (fun _ _ _ h => h) (Or.inl ⟨by rfl, fun w' _ => by go_simp⟩) hH ?_
      refine wpAnyH_take (i := 8) (v := .int .i64 L) rfl (by kernel_rfl) (by kernel_rfl) (by kernel_rfl) (fun _ _ _ h => h) (Or.inl ⟨by rfl, fun w' _ => by go_simp; exact IntWalk.i64_in _ (by omega)⟩) hH ?_
      refine wpAnyH_take (i := 9) (v := .int .i64 k) rfl (by kernel_rfl) (by kernel_rfl) (by kernel_rfl) (fun _ _ _ h => h) (Or.inl ⟨by rfl, fun w' _ => by go_simp⟩) hH ?_
      refine wpAnyH_take (i := 10) (v := .int .i64 ((k : Int) + 1)) rfl (by kernel_rfl) (by kernel_rfl) (by kernel_rfl) (fun _ _ _ h => h) (Or.inl ⟨by rfl, fun w' _ => by go_simp; exact IntWalk.i64_in _ (by omega)⟩) hH ?_
      refine wpAnyH_take (i := 11) (v := .int .i64 z) rfl (by kernel_rfl) (by kernel_rfl) (by kernel_rfl) (fun _ _ _ h => h) (Or.inl ⟨by rfl, fun w' _ => by go_simp⟩) hH ?_
      refine wpAnyH_take (i := 12) (v := .int .i64 ((L : Int) + (z : Int))) rfl (by kernel_rfl) (by kernel_rfl) (by kernel_rfl) (fun _ _ _ h => h) (Or.inl ⟨by rfl, fun w' _ => by go_simp; exact IntWalk.i64_in _ (by omega)⟩) hH ?_
      refine wpAnyH_take (i := 13) (v := .slice (some ⟨g, o + L, none⟩) z (cap - L)) rfl (by kernel_rfl) (by kernel_rfl) (by kernel_rfl) (fun _ _ _ h => h) (Or.inl ⟨by rfl, fun w' _ => by go_simp; rw [if_pos ⟨by omega, by omega⟩, if_pos (by omega)]; have e : ((L : Int) + (z : Int)).toNat - L = z := (by omega); rw [e]⟩) hH ?_
      have hpl : (piece T z k).length = z := piece_len (by rw [HNN.out]; exact HT.out) hltk
      have hsrc : Src wr.drew (.slice (some ⟨g, o + L, none⟩) z (cap - L)) (piece T z k) := by
        have := Src.piece (Src.kept0 HS.out HK.out.bel) L z (cap - L) (by rw [HNN.out]; exact hLz)
        rw [HL.out] at this
        rw [HL.out]
        exact this
      refine wpAnyH_ready (rs := [14]) (by kernel_rfl) (by simp) ?_
      refine AllReadyH.cons rfl (fun K hK => ?_) AllReadyH.nil
      go_simp
      refine Calls.mono (copied_any hsrc (by omega) (by omega)) ?_
      rintro e w2 ⟨rfl, r2, b2⟩
      rw [hpl]
      have b2' : Below wr.heap.size wr w2 := ⟨b2.os, b2.tape, b2.output, b2.size, b2.block⟩
      have row2 := Rw.keep HK.out.row b2'
      refine hK.out _ _ (Rw.cell row2 8) (fun hS2 => ?_)
      clear hK K hsrc
      have mlt : w.heap.size < wr.heap.size := Mp.lt HK.out.mp
      obtain ⟨w3, hrun, mp3, ch3⟩ := Mp.put (w := w2) (m := w.heap.size) (k := k) (z := z) (gs := gs) (D := D) ⟨HK.out.mp.own.kept (row := none) ⟨b2'.os, b2'.tape, b2'.output, b2'.size, fun i hi _ => b2'.block i hi⟩ (by simp), HK.out.mp.at_, HK.out.mp.has⟩ wr.heap.size (by omega)
      have row3 := Rw.chg1 row2 ch3 (by omega)
      have K3 : Hid (LK w w3 (w.heap.size + 2) w.heap.size (w.heap.size + 1) S z (k + 1) T (fun i => if i = k then wr.heap.size else gs i) (D.put (.int .i64 k) (.lit (.int .i64 wr.heap.size)))) := by
        refine ⟨row3, mp3, ch3.heap_some (by rw [b2'.block _ (Array.getElem?_eq_some_iff.1 HK.out.mc).1]; exact HK.out.mc) (by omega), fun i hi => ?_, ?_, fun i hi => ?_⟩
        · by_cases e : i = k
          · subst e
            rw [if_pos rfl]
            exact Rw.chg1 r2 ch3 (by omega)
          · rw [if_neg e]
            have hb := HK.out.blk i (by omega)
            refine Rw.chg1 (Rw.keep hb b2') ch3 ?_
            intro e2
            have h1 := hb.eq
            obtain ⟨es, cl, hm, _⟩ := HK.out.mp.own
            rw [e2, hm] at h1
            cases h1
        · exact (HK.out.bel.trans (b2'.mono HK.out.bel.size)).trans (ch3.below (Nat.le_trans HK.out.bel.size b2'.size) (fun i e => by omega))
        · by_cases e : i = k
          · rw [if_pos e]; exact HK.out.bel.size
          · rw [if_neg e]; exact HK.out.lo i (by omega)
      clear mp3 ch3 row2 r2 b2 b2'
      refine wpAnyH_ready (rs := [15]) (by kernel_rfl) (by simp) ?_
      refine AllReadyH.cons rfl (fun K hK => ?_) AllReadyH.nil
      go_simp
      refine hK.out _ _ (Rw.cell row3 8) (fun _ => ?_)
      clear hK K
      refine wpAnyH_done (by kernel_rfl) ?_ _
      clear hrun row3 hS2 hH
      go_wp2_with fail
      go_roundw
      case rel => exact ⟨k + 1, _, _, by omega, by go_num, K3.out⟩
      case measure => simp [intOf]; omega
    · have hkS : k = S := by omega
      have HK : Hid _ := hlk
      clear hlk
      go_wp2_with fail
      go_ret2
      refine ⟨rfl, ⟨gs, D, ⟨HK.out.row, by rw [← hkS]; exact HK.out.mp, HK.out.mc, fun i hi => HK.out.blk i (by omega), by omega, by omega⟩, fun i hi => HK.out.lo i (by omega)⟩, HK.out.bel⟩
end Go.Proofs.Ytjliibiohgcaeaa
