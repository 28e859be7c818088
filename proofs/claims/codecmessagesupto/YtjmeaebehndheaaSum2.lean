/-
  The walks of a Reader's Sum and Addr.
-/
import Derived.Test.YtjmeaebehndheaaSum
namespace Go.Proofs.Ytjmeaebehndheaa
open Go.RowKit

theorem splice_pad {l : List Int} {n : Nat} (_h : l.length ≤ n) : splice (zer n) 0 (bs l) = bs (pad n l) := by
  unfold splice pad zer
  rw [List.take_zero, List.nil_append, Nat.zero_add, bs_len, List.drop_replicate, bs_app]
  simp [bs]

set_option maxRecDepth 100000 in
set_option maxHeartbeats 1000000 in
theorem rSum_any {w : World} {p : Nat} {t : TypeId} {tv : Value} {T : List Int} {a : Nat} {err : Int} (h : RS w p t tv T a err) :
    Calls Try.prog 70 #[.pointer (some ⟨p, 0, none⟩)] w fun e w' => e = .returned (.agg (bs (pad 32 (pL T a err 32))).toArray) ∧ RP w w' p t tv T (pA T a err 32) (pE T a err 32) := by
  have HL : (pL T a err 32).length ≤ 32 := pL_len T a err 32
  have hlt0 := h.lt
  have htv : ∀ k, tv.ownBlock = some k → k < w.heap.size ∨ T = [] := h.tvlt
  have TK : ∀ w', Below w.heap.size w w' → _ := fun w' b => take_any (RS.keep0 h b) 32
  have hpe : pL T a err 32 = [] ∨ T ≠ [] := by
    by_cases e : T = []
    · left; subst e; unfold pL; split <;> simp
    · exact .inr e
  obtain ⟨l, hl⟩ : ∃ l, l = pL T a err 32 := ⟨_, rfl⟩
  rw [← hl] at HL hpe ⊢
  simp only [← hl] at TK
  have HT : Hid _ := TK
  have HP : Hid _ := hpe
  clear hl h TK hpe
  obtain ⟨W0, hW0⟩ : ∃ W0, W0 = ((w.alloc (.cells (zer 32).toArray 31)).alloc (.cells (zer 32).toArray 31)).drew := ⟨_, rfl⟩
  have hb0 : Below w.heap.size w W0 := by rw [hW0]; exact (((Below.refl _ _).alloc (Nat.le_refl _) _).alloc (by simp) _).drew
  have hr0 : W0.heap[w.heap.size]? = some (.cells (zer 32).toArray 31 (0, 0)) := by
    rw [hW0]; show ((w.alloc _).alloc _).heap[w.heap.size]? = _; rw [Below.heap_alloc _ _ _ (by simp)]; exact heap_alloc_new _ _
  have hg0 : W0.heap[w.heap.size + 1]? = some (.cells (zer 32).toArray 31 (0, 0)) := by
    rw [hW0]
    show ((w.alloc _).alloc _).heap[w.heap.size + 1]? = _
    have := heap_alloc_new (w.alloc (.cells (zer 32).toArray 31)) (.cells (zer 32).toArray 31)
    simpa using this
  have HC : Hid _ := HT.out W0 hb0
  rw [hW0] at HC
  have HB0 : Hid _ := hb0
  have HR0 : Hid _ := hr0
  have HG0 : Hid _ := hg0
  have HW0 : Hid _ := hW0
  clear hb0 hr0 hg0 hW0 HT
  go_enter Try.func70, Try.ntmps70
  go_wp2_with fail
  refine wp_region_held_drew (S := fun _ => True) (by kernel_rfl) trivial (fun hH => ?_)
  refine wpAnyH_take (i := 1) (v := .pointer (some ⟨p, 0, none⟩)) rfl (by kernel_rfl) (by kernel_rfl) (by kernel_rfl) (fun _ _ _ h => h) (Or.inl ⟨by rfl, fun w _ => by rfl⟩) hH ?_
  refine wpAnyH_take (i := 0) (v := .slice (some ⟨w.heap.size + 1, 0, none⟩) 32 32) rfl (by kernel_rfl) (by kernel_rfl) (by kernel_rfl) (fun _ _ _ h => h) (Or.inl ⟨by rfl, fun w _ => by go_simp⟩) hH ?_
  refine wpAnyH_ready (rs := [2]) (by kernel_rfl) (by simp) ?_
  refine AllReadyH.cons rfl (fun K hK => ?_) AllReadyH.nil
  go_simp
  refine Calls.mono HC.out ?_
  rintro e w1 ⟨s, rfl, s1, r1, hsb⟩
  rw [← HW0.out] at r1
  refine hK.out _ _ trivial (fun _ => ?_)
  clear hK K
  obtain ⟨a0, c0, hs⟩ := s1.form
  subst hs
  have hg1 : w1.heap[w.heap.size + 1]? = some (.cells (zer 32).toArray 31 (0, 0)) := r1.2.heap_some HG0.out (by omega)
  have hr1 : w1.heap[w.heap.size]? = some (.cells (zer 32).toArray 31 (0, 0)) := r1.2.heap_some HR0.out (by omega)
  have hpos : 0 < (bs l).length → (some ⟨w.heap.size + 1, 0, none⟩ : Option Addr) = some ⟨w.heap.size + 1, 0, none⟩ ∧ ∃ ad, a0 = some ad ∧ ∀ j v, (bs l)[j]? = some v → w1.cell? (ad.add j) = some v := by
    intro h0
    rw [bs_len] at h0
    refine ⟨rfl, ?_⟩
    obtain ⟨g, o, e, _⟩ := Src.at s1 0 h0
    refine ⟨_, e, fun j v hv => ?_⟩
    have hj : j < l.length := by have := (List.getElem?_eq_some_iff.1 hv).1; rwa [bs_len] at this
    obtain ⟨g2, o2, e2, hc⟩ := Src.at s1 j hj
    rw [e] at e2
    injection e2 with e2
    injection e2 with e3 e4
    subst e3 e4
    rw [addr_add, hc, ← hv, bs_get _ _ hj]
  have R1 : Hid _ := r1
  have HR1 : Hid _ := hr1
  clear s1 r1 hr1 HC HG0 HR0 HW0
  refine wpAnyH_ready (rs := [3]) (by kernel_rfl) (by simp) ?_
  refine AllReadyH.cons rfl (fun K hK => ?_) AllReadyH.nil
  refine step_copy_splice rfl (.tmp 4) (.tmp 6) 23 23 rfl 5 Try.underlying23 (by kernel_rfl) _ _ _ _ _ _ rfl rfl (w.heap.size + 1) 0 (zer 32) 31 hg1 (bs l) (by rw [bs_len]; show l.length = min l.length 32; omega) hpos (by simp [bs, zer]; omega) (bs_one l) (w.heap.size + 1) w1 (Below.refl _ _) (Nat.le_refl _) ?_
  intro w2 hg2 hb2
  refine hK.out _ _ trivial (fun _ => ?_)
  clear hK K
  refine wpAnyH_done (by kernel_rfl) ?_ _
  rw [splice_pad HL] at hg2
  have hr2 : w2.heap[w.heap.size]? = some (.cells (zer 32).toArray 31 (0, 0)) := by rw [hb2.block _ (by omega)]; exact HR1.out
  have hg3 : w2.heap[w.heap.size + 1]? = some (.cells (bs (pad 32 l)).toArray 31 (0, 0)) := hg2
  have C2 : Hid (Chg (fun k => w.heap.size ≤ k) w1 w2) := ⟨hb2.os, hb2.tape, hb2.output, hb2.size, fun k _ hn => hb2.block k (by omega)⟩
  clear hg2 hb2 hg1 hpos
  go_wp2_with (first | (refine wpList_load_mid rfl 31 (.tmp 3) rfl (w.heap.size + 1) 0 rfl (bs (pad 32 l)) _ (fun j v hv => by rw [Nat.zero_add, cell_of_row w2 _ j _ 31 _ hg3]; simpa using hv) Try.underlying31 rfl (Try.info31 _ (pad_len HL)) ?_) | (refine wpList_store_row rfl 31 (.tmp 2) (.tmp 8) rfl w.heap.size (bs (pad 32 l)).toArray rfl rfl 31 (zer 32).toArray hr2 (by rw [List.size_toArray]; exact Try.info31 _ (pad_len HL)) (by simp [zer, bs, pad_len HL]) (all_oneCell_toArray (bs_one _)) ?_))
  refine bodyPost_ret (v := .agg (bs (pad 32 l)).toArray) (results_row1 rfl _ _ w.heap.size 31 _ _ _ rfl (setRow_heap _ _ _ _ _ _ hr2) Try.underlying31 rfl (Try.info31 _ (pad_len HL))) rfl ⟨rfl, ?_⟩
  exact RP.below HB0.out hlt0 htv R1.out (S := fun k => w.heap.size ≤ k) (C2.out.trans (setRow_chg _ _ _) (fun _ e => .inl (by show _ ≤ _; omega))) (fun _ h => h)
theorem splice_addr {l : List Int} (h : l.length = 33) (x : Int) (hx : x = l[32]'(by omega)) : (splice (zer 33) 0 (bs (l.take 32))).toArray.setIfInBounds 32 (.int .u8 x) = (bs l).toArray := by
  have e1 : (l.take 32).length = 32 := by simp; omega
  have e2 : l = l.take 32 ++ [x] := by
    rw [hx]
    have := List.take_succ_eq_append_getElem (l := l) (i := 32) (by omega)
    rw [← this, List.take_of_length_le (by omega)]
  rw [splice_pad (by omega)]
  unfold pad
  rw [e1]
  conv => rhs; rw [e2]
  rw [List.setIfInBounds_toArray]
  congr 1
  simp only [bs_app]
  rw [List.set_append_right _ _ (by rw [bs_len]; omega), bs_len, e1]
  rfl

set_option maxRecDepth 100000 in
set_option maxHeartbeats 1000000 in
theorem rAddr_any {w : World} {p : Nat} {t : TypeId} {tv : Value} {T : List Int} {a : Nat} {err : Int} (h : RS w p t tv T a err) :
    Calls Try.prog 72 #[.pointer (some ⟨p, 0, none⟩)] w fun e w' => e = .returned (.agg (bs (pad 33 (pL T a err 33))).toArray) ∧ RP w w' p t tv T (pA T a err 33) (pE T a err 33) := by
  have HL : (pL T a err 33).length ≤ 33 := pL_len T a err 33
  have hlt0 := h.lt
  have htv : ∀ k, tv.ownBlock = some k → k < w.heap.size ∨ T = [] := h.tvlt
  have TK : ∀ w', Below w.heap.size w w' → _ := fun w' b => take_any (RS.keep0 h b) 33
  have hcs : (pL T a err 33 = [] ∧ ¬ pE T a err 33 = 0) ∨ ((pL T a err 33).length = 33 ∧ pE T a err 33 = 0) := by
    rcases pL_cases T a err 33 h.le with e | e
    · left
      refine ⟨e, fun h0 => ?_⟩
      by_cases hc : err = 0 ∧ (0 : Int) ≤ (33 : Nat) ∧ ((33 : Nat) : Int) ≤ (T.length : Int) - a
      · obtain ⟨rfl, h1, h2⟩ := hc
        obtain ⟨e1, _, _⟩ := p_good (T := T) (a := a) (m := 33) (by omega) h.le
        have e : pL T a 0 ((33 : Nat) : Int) = [] := e
        rw [e1] at e
        have := congrArg List.length e
        simp at this
        omega
      · by_cases he : err = 0
        · subst he
          have := (p_bad (T := T) (a := a) (n := 33) (by omega)).2.2
          rw [this] at h0; cases h0
        · rw [(p_err (T := T) (a := a) (n := 33) he).2.2] at h0; exact he h0
    · exact .inr e
  obtain ⟨l, hl⟩ : ∃ l, l = pL T a err 33 := ⟨_, rfl⟩
  obtain ⟨er, her⟩ : ∃ er, er = pE T a err 33 := ⟨_, rfl⟩
  rw [← hl] at HL hcs ⊢
  rw [← her] at hcs ⊢
  simp only [← hl, ← her] at TK
  have HT : Hid _ := TK
  have HCS : Hid _ := hcs
  have HTl : Hid (T = [] → l = []) := fun e => by rw [hl]; subst e; unfold pL; split <;> simp
  clear hl her h TK hcs
  obtain ⟨W0, hW0⟩ : ∃ W0, W0 = (w.alloc (.cells (zer 33).toArray 33)).alloc (.cells (zer 33).toArray 33) := ⟨_, rfl⟩
  have hb0 : Below w.heap.size w W0 := by rw [hW0]; exact ((Below.refl _ _).alloc (Nat.le_refl _) _).alloc (by simp) _
  have hr0 : W0.heap[w.heap.size]? = some (.cells (zer 33).toArray 33 (0, 0)) := by rw [hW0, Below.heap_alloc _ _ _ (by simp)]; exact heap_alloc_new _ _
  have hg0 : W0.heap[w.heap.size + 1]? = some (.cells (zer 33).toArray 33 (0, 0)) := by
    rw [hW0]
    have := heap_alloc_new (w.alloc (.cells (zer 33).toArray 33)) (.cells (zer 33).toArray 33)
    simpa using this
  have HC : Hid _ := HT.out W0 hb0
  rw [hW0] at HC
  have HB0 : Hid _ := hb0
  have HR0 : Hid _ := hr0
  have HG0 : Hid _ := hg0
  have HW0 : Hid _ := hW0
  clear hb0 hr0 hg0 hW0 HT
  go_enter Try.func72, Try.ntmps72
  go_wp2_with fail
  refine Calls.mono HC.out ?_
  rintro e w1 ⟨s, rfl, s1, r1, hsb⟩
  rw [← HW0.out] at r1
  obtain ⟨a0, c0, hs⟩ := s1.form
  subst hs
  have hg1 : w1.heap[w.heap.size + 1]? = some (.cells (zer 33).toArray 33 (0, 0)) := r1.2.heap_some HG0.out (by omega)
  have hr1 : w1.heap[w.heap.size]? = some (.cells (zer 33).toArray 33 (0, 0)) := r1.2.heap_some HR0.out (by omega)
  have h2 := r1.1.c2
  have S1 : Hid _ := s1
  have R1 : Hid _ := r1
  clear s1 r1 HC HG0 HR0 HW0
  rcases HCS.out with ⟨rfl, he⟩ | ⟨hl33, rfl⟩
  · have hg1' : w1.heap[w.heap.size + 1]? = some (.cells (bs (pad 33 [])).toArray 33 (0, 0)) := by rw [pad_nil]; exact hg1
    clear hg1
    go_wp2_with (first | (refine wpList_load_mid rfl 33 (.tmp 3) rfl (w.heap.size + 1) 0 rfl (bs (pad 33 [])) _ (fun j v hv => by rw [Nat.zero_add, cell_of_row w1 _ j _ 33 _ hg1']; simpa using hv) Try.underlying33 rfl (Try.info33 _ (pad_len (by simp))) ?_) | (refine wpList_store_row rfl 33 (.tmp 2) (.tmp 20) rfl w.heap.size (bs (pad 33 [])).toArray rfl rfl 33 (zer 33).toArray hr1 (by rw [List.size_toArray]; exact Try.info33 _ (pad_len (by simp))) (by simp [zer, bs, pad]) (all_oneCell_toArray (bs_one _)) ?_))
    refine bodyPost_ret (v := .agg (bs (pad 33 [])).toArray) (results_row1 rfl _ _ w.heap.size 33 _ _ _ rfl (setRow_heap _ _ _ _ _ _ hr1) Try.underlying33 rfl (Try.info33 _ (pad_len (by simp)))) rfl ⟨rfl, ?_⟩
    exact RP.below HB0.out hlt0 htv R1.out (S := fun k => w.heap.size ≤ k) ((setRow_chg _ _ _).mono (fun _ _ e => by show _ ≤ _; omega)) (fun _ h => h)
  · have h32 : 32 < l.length := by omega
    obtain ⟨g, o, rfl, hc32⟩ := Src.at S1.out 32 h32
    obtain ⟨x, hx⟩ : ∃ x, x = l[32]'h32 := ⟨_, rfl⟩
    rw [← hx] at hc32
    have hsp := splice_addr hl33 x hx
    have hpad : bs (pad 33 l) = bs l := by rw [pad_full hl33]
    have HCE : Hid (∀ j v, (bs (l.take 32))[j]? = some v → w1.cell? ((⟨g, o, none⟩ : Addr).add j) = some v) := by
      intro j v hv
      have hj : j < 32 := by have := (List.getElem?_eq_some_iff.1 hv).1; rw [bs_len] at this; simp at this; omega
      obtain ⟨g2, o2, e2, hc⟩ := Src.at S1.out j (by omega)
      injection e2 with e2
      injection e2 with e3 e4
      subst e3 e4
      rw [addr_add, hc, ← hv, bs_get _ _ (by simp; omega)]
      simp
    have hgl : g < w.heap.size := by
      rcases htv g (hsb g rfl) with h | h
      · exact h
      · have := HTl.out h; rw [this] at h32; simp at h32
    have hcl : (bs (l.take 32)).length = Nat.min 33 32 := by rw [bs_len, List.length_take, hl33]; rfl
    have hfit : 0 + (bs (l.take 32)).length ≤ (zer 33).length := by rw [hcl]; decide
    have hl32 : (l.take 32).length ≤ 33 := by simp; omega
    have hz32 : (bs (pad 33 (l.take 32))).toArray[32]? = some (.int .u8 0) := by
      have e : (l.take 32).length = 32 := by simp; omega
      have e2 : bs (pad 33 (l.take 32)) = bs (l.take 32) ++ [.int .u8 0] := by unfold pad; rw [e, bs_app]; rfl
      rw [List.getElem?_toArray, e2, List.getElem?_append_right (by rw [bs_len, e]; omega), bs_len, e]
      rfl
    have HZ : Hid _ := hz32
    have HSP : Hid _ := hsp
    have HPD : Hid _ := hpad
    have HCL : Hid _ := hcl
    have HFIT : Hid _ := hfit
    have HL32 : Hid _ := hl32
    clear hz32 hsp hpad hcl hfit hl32
    clear hx
    go_wp2_with (first | (refine wpList_copy_splice rfl (.tmp 14) (.tmp 15) 23 23 rfl 5 Try.underlying23 (by kernel_rfl) _ _ _ _ _ _ rfl rfl (w.heap.size + 1) 0 (zer 33) 33 hg1 (bs (l.take 32)) HCL.out (fun _ => ⟨rfl, _, rfl, HCE.out⟩) HFIT.out (bs_one _) (w.heap.size + 1) w1 (Below.refl _ _) (Nat.le_refl _) ?_; intro w2 hg2 hb2; have hcn : (bs (l.take 32)).length = 32 := HCL.out; have hc2 := (hb2.cell (p := ⟨g, o + 32, none⟩) (by show g < _; omega)).trans hc32; have hv2 : w2.cell? ⟨w.heap.size + 1, 32, none⟩ = some (.int .u8 0) := (by rw [cell_of_row w2 _ 32 _ 33 _ hg2.out, splice_pad HL32.out]; exact HZ.out); have hf2 := frozen_of_row w2 (w.heap.size + 1) 32 _ 33 hg2.out; have hg3 : (w2.setCell ⟨w.heap.size + 1, 32, none⟩ (.int .u8 x)).heap[w.heap.size + 1]? = some (.cells (bs l).toArray 33 (0, 0)) := (by rw [heap_setCell_same w2 _ 32 _ 33 _ hg2.out, HSP.out]); have hr3 : (w2.setCell ⟨w.heap.size + 1, 32, none⟩ (.int .u8 x)).heap[w.heap.size]? = some (.cells (zer 33).toArray 33 (0, 0)) := (by rw [Below.heap_setCell _ _ _ _ (by show w.heap.size ≠ w.heap.size + 1; omega), hb2.block _ (by omega)]; exact hr1); have C2 : Hid (Chg (fun k => w.heap.size ≤ k) w1 (w2.setCell ⟨w.heap.size + 1, 32, none⟩ (.int .u8 x))) := (show Chg (fun k => w.heap.size ≤ k) w1 w2 from ⟨hb2.os, hb2.tape, hb2.output, hb2.size, fun k _ hn => hb2.block k (by omega)⟩).setCell (.inl (by show w.heap.size ≤ w.heap.size + 1; omega)) _) | (refine wpList_load_mid rfl 33 (.tmp 3) rfl (w.heap.size + 1) 0 rfl (bs l) _ (fun j v hv => by rw [Nat.zero_add, cell_of_row _ _ j _ 33 _ hg3]; simpa using hv) Try.underlying33 rfl (Try.info33 _ hl33) ?_) | (refine wpList_store_row rfl 33 (.tmp 2) (.tmp 20) rfl w.heap.size (bs l).toArray rfl rfl 33 (zer 33).toArray hr3 (by rw [List.size_toArray]; exact Try.info33 _ hl33) (by simp [zer, bs, hl33]) (all_oneCell_toArray (bs_one _)) ?_))
    rw [HPD.out]
    refine bodyPost_ret (v := .agg (bs l).toArray) (results_row1 rfl _ _ w.heap.size 33 _ _ _ rfl (setRow_heap _ _ _ _ _ _ hr3) Try.underlying33 rfl (Try.info33 _ hl33)) rfl ⟨rfl, ?_⟩
    exact RP.below HB0.out hlt0 htv R1.out (S := fun k => w.heap.size ≤ k) (C2.out.trans (setRow_chg _ _ _) (fun _ e => .inl (by show _ ≤ _; omega))) (fun _ h => h)

end Go.Proofs.Ytjmeaebehndheaa
