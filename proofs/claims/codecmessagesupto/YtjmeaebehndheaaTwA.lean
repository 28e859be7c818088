import Derived.Test.YtjmeaebehndheaaLaid
import Derived.Test.YtjmeaebehndheaaJoin
/-
  The writing of leaves and forks: the code's way.
-/
namespace Go.Proofs.Ytjmeaebehndheaa
open Go.RowKit

section
variable {w0 w w' : World} {p o g : Nat} {cs : Array Value} {t ty : TypeId} {v : Value} {l l' : List Int} {rc : List Value}
theorem PW.start (h : WS w p o cs t v l) : PW w w p o cs t v l := by
  refine ⟨v, ⟨?_, ?_, h.own, h.ne⟩, Chg.refl _ _, .inl rfl⟩
  · rw [h.blk]
    congr 2
    refine Array.ext (by simp) (fun i h1 h2 => ?_)
    by_cases hi : o = i
    · subst hi
      have := (Array.getElem?_eq_some_iff.1 h.at_).2
      rw [Array.getElem_setIfInBounds_self]
      exact this
    · rw [Array.getElem_setIfInBounds_ne _ hi]
  · have := (Array.getElem?_eq_some_iff.1 h.at_).1
    simp [this]
theorem PW.blk (h : PW w0 w p o cs t v l) (hb : Blk w0 g rc ty) (h1 : g ≠ p) (h2 : v.ownBlock ≠ some g) : Blk w g rc ty := by
  obtain ⟨_, _, c, _⟩ := h
  exact hb.keep c (fun e => by rcases e with e | e; exact h1 e; exact h2 e.symm)
theorem PW.go {f : FuncId} {args : Array Value} (h : PW w0 w p o cs t v l)
    (hc : ∀ cs1 v1, WS w p o cs1 t v1 l → Calls Try.prog f args w fun e w' => e = .returned (.tuple #[]) ∧ PW w w' p o cs1 t v1 l') :
    Calls Try.prog f args w fun e w' => e = .returned (.tuple #[]) ∧ PW w0 w' p o cs t v l' := by
  obtain ⟨v1, s1, c1, a1⟩ := h
  exact (hc _ _ s1).mono fun e w' ⟨he, hp⟩ => ⟨he, PW.then s1 c1 a1 hp⟩
theorem PW.drew (h : PW w0 w p o cs t v l) : PW w0 w.drew p o cs t v l := by
  obtain ⟨v1, s1, c1, a1⟩ := h
  exact ⟨v1, ⟨s1.blk, s1.at_, s1.own, s1.ne⟩, c1.drew, a1⟩
end
theorem Try.sz73 : (Try.prog.info? 73).map (·.size) = some 65 := by kernel_rfl
theorem Try.limbSz (z : List Int) (h : z.length = 65) : (Try.prog.info? 73).map (·.size) = some (bs z).length := by rw [Try.sz73, bs_len, h]
theorem Try.addrSz (z : List Int) (h : z.length = 33) : (Try.prog.info? 33).map (·.size) = some (bs z).length := by rw [Try.sz33, bs_len, h]
theorem Try.sumSz' (z : List Int) (h : z.length = 32) : (Try.prog.info? 31).map (·.size) = some (bs z).length := by rw [Try.sz31, bs_len, h]

theorem wAddr2 {w : World} {p o : Nat} {cs : Array Value} {t : TypeId} {v : Value} {l : List Int} (h : WS w p o cs t v l) (x : List Int) (hx : x.length = 33) (hl : l.length + 33 ≤ 140737488355328) :
    Calls Try.prog 48 #[.pointer (some ⟨p, o, none⟩), .agg (bs x).toArray] w fun e w' => e = .returned (.tuple #[]) ∧ PW w w' p o cs t v (l ++ x) := by
  obtain ⟨z, b, rfl⟩ : ∃ z b, x = z ++ [b] := ⟨x.take 32, x[32], by
    have e := List.take_append_getElem (l := x) (i := 32) (by omega)
    rw [e, List.take_of_length_le (by omega)]⟩
  exact wAddr_any h z b (by simp at hx; omega) hl

theorem bs_cut (x y : List Int) : ((bs (x ++ y)).drop x.length).take (bs y).length = bs y := by
  rw [bs_app, ← bs_len x, List.drop_left, List.take_length]
theorem bs_front (x y : List Int) : ((bs (x ++ y)).drop 0).take (bs x).length = bs x := by simp [bs]

set_option maxRecDepth 100000 in
set_option maxHeartbeats 1000000 in
theorem wLimb_any {w : World} {p : Nat} {cs : Array Value} {t : TypeId} {v : Value} {l : List Int} (h : WS w p 0 cs t v l) (x y : List Int) (hx : x.length = 33) (hy : y.length = 32) (hl : l.length + 65 ≤ 140737488355328) :
    Calls Try.prog 147 #[.pointer (some ⟨p, 0, none⟩), .agg (bs (x ++ y)).toArray] w fun e w' => e = .returned (.tuple #[]) ∧ PW w w' p 0 cs t v (l ++ x ++ y) := by
  have hp := h.lt
  have hv : v.ownBlock ≠ some w.heap.size := fun e => by have := h.own.lt e; omega
  obtain ⟨W, hW⟩ : ∃ W, W = w.alloc (.cells (bs (x ++ y)).toArray 73) := ⟨_, rfl⟩
  have P0 : Hid (PW W W.drew p 0 cs t v l) := by rw [hW]; exact (PW.start (h.alloc _)).drew
  have B0 : Hid (Blk W w.heap.size (bs (x ++ y)) 73) := by rw [hW]; exact Blk.made _ _ _
  have HW : Hid _ := hW
  clear h
  go_enter Try.func147, Try.ntmps147
  go_upto_region 1 with fail
  rw [← hW]
  clear hW
  refine wp_region_held_drew (S := fun w' => Blk w' w.heap.size (bs (x ++ y)) 73) (by kernel_rfl) B0.out.drew (fun hH => ?_)
  refine wpAnyH_take (i := 0) (v := .pointer (some ⟨p, 0, none⟩)) rfl (by kernel_rfl) (by kernel_rfl) (by kernel_rfl) (fun _ _ _ h => h) (Or.inl ⟨by rfl, fun w' _ => by go_simp⟩) hH ?_
  refine wpAnyH_take (i := 1) (v := .pointer (some ⟨p, 0, none⟩)) rfl (by kernel_rfl) (by kernel_rfl) (by kernel_rfl) (fun _ _ _ h => h) (Or.inl ⟨by rfl, fun w' _ => by go_simp⟩) hH ?_
  refine wpAnyH_take (i := 2) (v := .pointer (some ⟨p, 0, none⟩)) rfl (by kernel_rfl) (by kernel_rfl) (by kernel_rfl) (fun _ _ _ h => h) (Or.inl ⟨by rfl, fun w' _ => by go_simp⟩) hH ?_
  refine wpAnyH_take (i := 3) (v := .pointer (some ⟨w.heap.size, 0, none⟩)) rfl (by kernel_rfl) (by kernel_rfl) (by kernel_rfl) (fun _ _ _ h => h) (Or.inl ⟨by rfl, fun w' _ => by go_simp⟩) hH ?_
  refine wpAnyH_take (i := 4) (v := .agg (bs x).toArray) rfl (by kernel_rfl) (by kernel_rfl) (by kernel_rfl) (fun _ _ _ h => h) (yieldsIf_load_mid (by rfl) _ _ rfl w.heap.size 0 rfl _ _ (fun w' h => h.range (bs_front x y)) Try.underlying33 rfl (Try.addrSz x hx)) hH ?_
  refine wpAnyH_ready (rs := [5]) (by kernel_rfl) (by simp) ?_
  refine AllReadyH.cons rfl (fun K hK => ?_) AllReadyH.nil
  go_simp
  refine Calls.mono (PW.go P0.out (fun cs1 v1 s1 => wAddr2 s1 x hx (by omega))) ?_
  rintro e w1 ⟨rfl, p1⟩
  have b1 := p1.blk B0.out (by omega) hv
  refine hK.out _ _ b1 (fun _ => ?_)
  clear hK K hH
  refine wpAnyH_done (by kernel_rfl) ?_ _
  have P1 : Hid _ := p1.drew
  have B1 : Hid _ := b1
  clear p1 b1
  go_upto_region 2 with fail
  refine wp_region_held_drew (S := fun w' => Blk w' w.heap.size (bs (x ++ y)) 73) (by kernel_rfl) (Blk.drew B1.out) (fun hH => ?_)
  refine wpAnyH_take (i := 0) (v := .pointer (some ⟨p, 0, none⟩)) rfl (by kernel_rfl) (by kernel_rfl) (by kernel_rfl) (fun _ _ _ h => h) (Or.inl ⟨by rfl, fun w' _ => by go_simp⟩) hH ?_
  refine wpAnyH_take (i := 1) (v := .pointer (some ⟨p, 0, none⟩)) rfl (by kernel_rfl) (by kernel_rfl) (by kernel_rfl) (fun _ _ _ h => h) (Or.inl ⟨by rfl, fun w' _ => by go_simp⟩) hH ?_
  refine wpAnyH_take (i := 2) (v := .pointer (some ⟨p, 0, none⟩)) rfl (by kernel_rfl) (by kernel_rfl) (by kernel_rfl) (fun _ _ _ h => h) (Or.inl ⟨by rfl, fun w' _ => by go_simp⟩) hH ?_
  refine wpAnyH_take (i := 3) (v := .pointer (some ⟨w.heap.size, 33, none⟩)) rfl (by kernel_rfl) (by kernel_rfl) (by kernel_rfl) (fun _ _ _ h => h) (Or.inl ⟨by rfl, fun w' _ => by go_simp⟩) hH ?_
  refine wpAnyH_take (i := 4) (v := .agg (bs y).toArray) rfl (by kernel_rfl) (by kernel_rfl) (by kernel_rfl) (fun _ _ _ h => h) (yieldsIf_load_mid (by rfl) _ _ rfl w.heap.size 33 rfl _ _ (fun w' h => h.range (by have := bs_cut x y; rwa [hx] at this)) Try.underlying31 rfl (Try.sumSz' y hy)) hH ?_
  refine wpAnyH_ready (rs := [5]) (by kernel_rfl) (by simp) ?_
  refine AllReadyH.cons rfl (fun K hK => ?_) AllReadyH.nil
  go_simp
  refine Calls.mono (PW.go P1.out (fun cs1 v1 s1 => wSum_any s1 y hy (by simp; omega))) ?_
  rintro e w2 ⟨rfl, p2⟩
  have b2 := p2.blk B0.out (by omega) hv
  refine hK.out _ _ b2 (fun _ => ?_)
  clear hK K hH
  refine wpAnyH_done (by kernel_rfl) ?_ _
  rw [HW.out] at p2
  have P2 : Hid _ := p2.alloc
  clear p2 b2
  go_wp2_with fail
  exact bodyPost_end (results_none rfl _ _ _) rfl ⟨rfl, P2.out⟩

/-- A leaf's cells. -/
def leafC (n : Nat) (z : List Int) : List Value := .int .u64 n :: bs z
theorem leafC_len (n : Nat) (z : List Int) : (leafC n z).length = z.length + 1 := by simp [leafC, bs]
theorem leafC_back (n : Nat) (z : List Int) : ((leafC n z).drop 1).take (bs z).length = bs z := by simp [leafC]

set_option maxRecDepth 100000 in
set_option maxHeartbeats 1000000 in
theorem wLeaf_any {w : World} {p : Nat} {cs : Array Value} {t : TypeId} {v : Value} {l : List Int} (h : WS w p 0 cs t v l) (n : Nat) (y : List Int) (hn : n < 18446744073709551616) (hy : y.length = 32) (hl : l.length + 42 ≤ 140737488355328) :
    Calls Try.prog 150 #[.agg (leafC n y).toArray, .pointer (some ⟨p, 0, none⟩)] w fun e w' => e = .returned (.tuple #[]) ∧ PW w w' p 0 cs t v (l ++ numB n ++ y) := by
  have hp := h.lt
  have hv : v.ownBlock ≠ some w.heap.size := fun e => by have := h.own.lt e; omega
  have hnl := numB_ten hn
  obtain ⟨W, hW⟩ : ∃ W, W = w.alloc (.cells (leafC n y).toArray 161) := ⟨_, rfl⟩
  have P0 : Hid (PW W W.drew p 0 cs t v l) := by rw [hW]; exact (PW.start (h.alloc _)).drew
  have B0 : Hid (Blk W w.heap.size (leafC n y) 161) := by rw [hW]; exact Blk.made _ _ _
  have HW : Hid _ := hW
  clear h
  go_enter Try.func150, Try.ntmps150
  go_upto_region 1 with fail
  rw [← hW]
  clear hW
  refine wp_region_held_drew (S := fun w' => Blk w' w.heap.size (leafC n y) 161) (by kernel_rfl) B0.out.drew (fun hH => ?_)
  refine wpAnyH_take (i := 0) (v := .pointer (some ⟨p, 0, none⟩)) rfl (by kernel_rfl) (by kernel_rfl) (by kernel_rfl) (fun _ _ _ h => h) (Or.inl ⟨by rfl, fun w' _ => by go_simp⟩) hH ?_
  refine wpAnyH_take (i := 1) (v := .pointer (some ⟨p, 0, none⟩)) rfl (by kernel_rfl) (by kernel_rfl) (by kernel_rfl) (fun _ _ _ h => h) (Or.inl ⟨by rfl, fun w' _ => by go_simp⟩) hH ?_
  refine wpAnyH_take (i := 2) (v := .pointer (some ⟨p, 0, none⟩)) rfl (by kernel_rfl) (by kernel_rfl) (by kernel_rfl) (fun _ _ _ h => h) (Or.inl ⟨by rfl, fun w' _ => by go_simp⟩) hH ?_
  refine wpAnyH_take (i := 3) (v := .pointer (some ⟨w.heap.size, 0, none⟩)) rfl (by kernel_rfl) (by kernel_rfl) (by kernel_rfl) (fun _ _ _ h => h) (Or.inl ⟨by rfl, fun w' _ => by go_simp⟩) hH ?_
  refine wpAnyH_take (i := 4) (v := .int .u64 n) rfl (by kernel_rfl) (by kernel_rfl) (by kernel_rfl) (fun _ _ _ h => h) (Or.inl ⟨by rfl, fun w' hw' => by have h2 : w'.cell? ⟨w.heap.size, 0, none⟩ = some (.int .u64 n) := Blk.cell hw' 0; go_simp⟩) hH ?_
  refine wpAnyH_ready (rs := [5]) (by kernel_rfl) (by simp) ?_
  refine AllReadyH.cons rfl (fun K hK => ?_) AllReadyH.nil
  go_simp
  refine Calls.mono (PW.go P0.out (fun cs1 v1 s1 => wUint_any s1 n hn (by omega))) ?_
  rintro e w1 ⟨rfl, p1⟩
  have b1 := p1.blk B0.out (by omega) hv
  refine hK.out _ _ b1 (fun _ => ?_)
  clear hK K hH
  refine wpAnyH_done (by kernel_rfl) ?_ _
  have P1 : Hid _ := p1.drew
  have B1 : Hid _ := b1
  clear p1 b1
  go_upto_region 2 with fail
  refine wp_region_held_drew (S := fun w' => Blk w' w.heap.size (leafC n y) 161) (by kernel_rfl) (Blk.drew B1.out) (fun hH => ?_)
  refine wpAnyH_take (i := 0) (v := .pointer (some ⟨p, 0, none⟩)) rfl (by kernel_rfl) (by kernel_rfl) (by kernel_rfl) (fun _ _ _ h => h) (Or.inl ⟨by rfl, fun w' _ => by go_simp⟩) hH ?_
  refine wpAnyH_take (i := 1) (v := .pointer (some ⟨p, 0, none⟩)) rfl (by kernel_rfl) (by kernel_rfl) (by kernel_rfl) (fun _ _ _ h => h) (Or.inl ⟨by rfl, fun w' _ => by go_simp⟩) hH ?_
  refine wpAnyH_take (i := 2) (v := .pointer (some ⟨p, 0, none⟩)) rfl (by kernel_rfl) (by kernel_rfl) (by kernel_rfl) (fun _ _ _ h => h) (Or.inl ⟨by rfl, fun w' _ => by go_simp⟩) hH ?_
  refine wpAnyH_take (i := 3) (v := .pointer (some ⟨w.heap.size, 1, none⟩)) rfl (by kernel_rfl) (by kernel_rfl) (by kernel_rfl) (fun _ _ _ h => h) (Or.inl ⟨by rfl, fun w' _ => by go_simp⟩) hH ?_
  refine wpAnyH_take (i := 4) (v := .agg (bs y).toArray) rfl (by kernel_rfl) (by kernel_rfl) (by kernel_rfl) (fun _ _ _ h => h) (yieldsIf_load_mid (by rfl) _ _ rfl w.heap.size 1 rfl _ _ (fun w' h => Blk.range h (leafC_back n y)) Try.underlying31 rfl (Try.sumSz' y hy)) hH ?_
  refine wpAnyH_ready (rs := [5]) (by kernel_rfl) (by simp) ?_
  refine AllReadyH.cons rfl (fun K hK => ?_) AllReadyH.nil
  go_simp
  refine Calls.mono (PW.go P1.out (fun cs1 v1 s1 => wSum_any s1 y hy (by simp; omega))) ?_
  rintro e w2 ⟨rfl, p2⟩
  have b2 := p2.blk B0.out (by omega) hv
  refine hK.out _ _ b2 (fun _ => ?_)
  clear hK K hH
  refine wpAnyH_done (by kernel_rfl) ?_ _
  rw [HW.out] at p2
  have P2 : Hid _ := p2.alloc
  clear p2 b2
  go_wp2_with fail
  exact bodyPost_end (results_none rfl _ _ _) rfl ⟨rfl, P2.out⟩

set_option maxRecDepth 100000 in
set_option maxHeartbeats 1000000 in
theorem wFork_any {w : World} {p : Nat} {cs : Array Value} {t : TypeId} {v : Value} {l : List Int} (h : WS w p 0 cs t v l) (f x y x' y' : List Int) (hf : f = (x ++ y) ++ (x' ++ y')) (hx : x.length = 33) (hy : y.length = 32) (hx' : x'.length = 33) (hy' : y'.length = 32) (hl : l.length + 130 ≤ 140737488355328) :
    Calls Try.prog 151 #[.agg (bs f).toArray, .pointer (some ⟨p, 0, none⟩)] w fun e w' => e = .returned (.tuple #[]) ∧ PW w w' p 0 cs t v (l ++ x ++ y ++ x' ++ y') := by
  have hp := h.lt
  have hv : v.ownBlock ≠ some w.heap.size := fun e => by have := h.own.lt e; omega
  obtain ⟨W, hW⟩ : ∃ W, W = w.alloc (.cells (bs f).toArray 165) := ⟨_, rfl⟩
  have P0 : Hid (PW W W p 0 cs t v l) := by rw [hW]; exact PW.start (h.alloc _)
  have B0 : Hid (Blk W w.heap.size (bs f) 165) := by rw [hW]; exact Blk.made _ _ _
  have L1 : (x ++ y).length = 65 := by simp [hx, hy]
  have L2 : (x' ++ y').length = 65 := by simp [hx', hy']
  have F1 : Hid (((bs f).drop 0).take (bs (x ++ y)).length = bs (x ++ y)) := by rw [hf]; exact bs_front _ _
  have F2 : Hid (((bs f).drop 65).take (bs (x' ++ y')).length = bs (x' ++ y')) := by rw [hf]; have := bs_cut (x ++ y) (x' ++ y'); rwa [L1] at this
  have HW : Hid _ := hW
  clear hf
  clear h
  go_enter Try.func151, Try.ntmps151
  go_upto_region 1 with fail
  rw [← hW]
  clear hW
  go_wp2_with (first | (refine wpList_load_part rfl 73 (.tmp 5) rfl w.heap.size 0 (bs (x ++ y)) rfl B0.out F1.out Try.underlying73 rfl (Try.limbSz _ L1) ?_) | (go_at_call 147; refine Calls.mono (PW.go P0.out (fun cs1 v1 s1 => wLimb_any s1 x y hx hy (by omega))) ?_; rintro e w1 ⟨rfl, p1⟩; have B1 : Hid _ := PW.blk p1 B0.out (by omega) hv; have P1 : Hid _ := p1; clear p1 P0) | (refine wpList_load_part rfl 73 (.tmp 9) rfl w.heap.size 65 (bs (x' ++ y')) rfl B1.out F2.out Try.underlying73 rfl (Try.limbSz _ L2) ?_))
  refine Calls.mono (PW.go P1.out (fun cs1 v1 s1 => wLimb_any s1 x' y' hx' hy' (by simp; omega))) ?_
  rintro e w2 ⟨rfl, p2⟩
  rw [HW.out] at p2
  have P2 : Hid _ := p2.alloc
  clear p2
  go_wp2_with fail
  exact bodyPost_end (results_none rfl _ _ _) rfl ⟨rfl, P2.out⟩

theorem WS.new (w : World) (t : TypeId) : WS (w.alloc (.cells #[.slice none 0 0] t)) w.heap.size 0 #[.slice none 0 0] t (.slice none 0 0) [] :=
  ⟨heap_alloc_new _ _, rfl, Own.nil _, by simp [Value.ownBlock]⟩
theorem Made.of_new {w w' w'' : World} {t : TypeId} {u : Value} {l : List Int} (h : PW (w.alloc (.cells #[.slice none 0 0] t)) w' w.heap.size 0 #[.slice none 0 0] t (.slice none 0 0) l) (m : Made w' w'' u l) : Made w w'' u l := by
  obtain ⟨v1, s1, c1, a1⟩ := h
  have b1 : Below w.heap.size w w' := ⟨c1.os, c1.tape, c1.output, by have := c1.size; simp at this; omega, fun k hk => by
    rw [c1.block k (by simp; omega) (by rintro (e | e); omega; simp [Value.ownBlock] at e), Below.heap_alloc _ _ _ hk]⟩
  refine ⟨m.1, b1.trans (m.2.1.mono b1.size), fun k hk => Nat.le_trans b1.size (m.2.2 k hk)⟩

set_option maxRecDepth 100000 in
set_option maxHeartbeats 1000000 in
theorem bytesLeaf_any {w : World} (n : Nat) (y : List Int) (hn : n < 18446744073709551616) (hy : y.length = 32) :
    Calls Try.prog 54 #[.iface 161 (.agg (leafC n y).toArray)] w fun e w' => ∃ u, e = .returned u ∧ Made w w' u (numB n ++ y) := by
  have hnl := numB_ten hn
  go_enter Try.func54, Try.ntmps54
  go_wp2_with fail
  refine Calls.mono (wLeaf_any (WS.new w 191) n y hn hy (by simp)) ?_
  rintro e w1 ⟨rfl, p1⟩
  have P1 : Hid _ := p1
  obtain ⟨v1, s1, _, _⟩ := p1
  have S1 : Hid _ := s1
  clear s1
  go_wp2_with fail
  refine Calls.mono (wBytes_any S1.out (by simp; omega)) ?_
  rintro e w2 ⟨u, rfl, m⟩
  have M : Hid _ := Made.of_new P1.out m
  clear m
  go_wp2_with fail
  go_ret
  exact ⟨u, rfl, M.out⟩

set_option maxRecDepth 100000 in
set_option maxHeartbeats 1000000 in
theorem bytesFork_any {w : World} (f x y x' y' : List Int) (hf : f = (x ++ y) ++ (x' ++ y')) (hx : x.length = 33) (hy : y.length = 32) (hx' : x'.length = 33) (hy' : y'.length = 32) :
    Calls Try.prog 54 #[.iface 165 (.agg (bs f).toArray)] w fun e w' => ∃ u, e = .returned u ∧ Made w w' u f := by
  have HF : Hid _ := hf
  have hl : f.length = 130 := by rw [hf]; simp [hx, hy, hx', hy']
  clear hf
  go_enter Try.func54, Try.ntmps54
  go_wp2_with fail
  refine Calls.mono (wFork_any (WS.new w 191) f x y x' y' HF.out hx hy hx' hy' (by simp)) ?_
  rintro e w1 ⟨rfl, p1⟩
  have ef : [] ++ x ++ y ++ x' ++ y' = f := by rw [HF.out]; simp
  rw [ef] at p1
  clear ef
  have P1 : Hid _ := p1
  obtain ⟨v1, s1, _, _⟩ := p1
  have S1 : Hid _ := s1
  clear s1
  go_wp2_with fail
  refine Calls.mono (wBytes_any S1.out (by omega)) ?_
  rintro e w2 ⟨u, rfl, m⟩
  have M : Hid _ := Made.of_new P1.out m
  clear m
  go_wp2_with fail
  go_ret
  exact ⟨u, rfl, M.out⟩

theorem Try.size71 : (Try.prog.info? 71).map (·.size) = some 33 := by kernel_rfl
theorem Try.leafSz (n : Nat) (z : List Int) (h : z.length = 32) : (Try.prog.info? 71).map (·.size) = some (leafC n z).length := by rw [Try.size71, leafC_len, h]
theorem Try.size75 : (Try.prog.info? 75).map (·.size) = some 130 := by kernel_rfl
theorem Try.forkSz (z : List Int) (h : z.length = 130) : (Try.prog.info? 75).map (·.size) = some (bs z).length := by rw [Try.size75, bs_len, h]

set_option maxRecDepth 100000 in
set_option maxHeartbeats 1000000 in
theorem cLeaf_any {w : World} (n : Nat) (y : List Int) (hn : n < 18446744073709551616) (hy : y.length = 32) :
    Calls Try.prog 26 #[.agg (leafC n y).toArray] w fun e w' => ∃ u, e = .returned u ∧ Made w w' u (numB n ++ y) := by
  have B0 : Hid _ := Blk.made w (leafC n y) 71
  go_enter Try.func26, Try.ntmps26
  go_wp2_with (refine wpList_load_part rfl 71 (.tmp 1) rfl w.heap.size 0 (leafC n y) rfl B0.out (by simp) Try.underlying71 rfl (Try.leafSz n y hy) ?_)
  refine Calls.mono (bytesLeaf_any n y hn hy) ?_
  rintro e w2 ⟨u, rfl, m⟩
  have M : Hid _ := m
  clear m
  go_wp2_with fail
  go_ret
  refine ⟨u, rfl, M.out.1, ((Below.refl _ _).alloc (Nat.le_refl _) _).trans (M.out.2.1.mono (by simp)), fun k hk => ?_⟩
  have := M.out.2.2 k hk
  simp at this
  omega

set_option maxRecDepth 100000 in
set_option maxHeartbeats 1000000 in
theorem cFork_any {w : World} (f x y x' y' : List Int) (hf : f = (x ++ y) ++ (x' ++ y')) (hx : x.length = 33) (hy : y.length = 32) (hx' : x'.length = 33) (hy' : y'.length = 32) :
    Calls Try.prog 28 #[.agg (bs f).toArray] w fun e w' => ∃ u, e = .returned u ∧ Made w w' u f := by
  have HF : Hid _ := hf
  have hl : f.length = 130 := by rw [hf]; simp [hx, hy, hx', hy']
  clear hf
  have B0 : Hid _ := Blk.made w (bs f) 75
  go_enter Try.func28, Try.ntmps28
  go_wp2_with (refine wpList_load_part rfl 75 (.tmp 1) rfl w.heap.size 0 (bs f) rfl B0.out (by simp) Try.underlying75 rfl (Try.forkSz f hl) ?_)
  refine Calls.mono (bytesFork_any f x y x' y' HF.out hx hy hx' hy') ?_
  rintro e w2 ⟨u, rfl, m⟩
  have M : Hid _ := m
  clear m
  go_wp2_with fail
  go_ret
  refine ⟨u, rfl, M.out.1, ((Below.refl _ _).alloc (Nat.le_refl _) _).trans (M.out.2.1.mono (by simp)), fun k hk => ?_⟩
  have := M.out.2.2 k hk
  simp at this
  omega
end Go.Proofs.Ytjmeaebehndheaa

/-
  The writing of towers: a writer that leaves some blocks alone; flags, numbers; what a tower and a kid are in memory.
-/
namespace Go.Proofs.Ytjmeaebehndheaa
open Go.RowKit

theorem Src.nil {w w' : World} {s : Value} (h : Src w s []) : Src w' s [] := by
  rcases h with h | ⟨a, c, e, _⟩
  · exact .inl h
  · exact .inr ⟨a, c, e, fun j u hu => by simp [bs] at hu⟩
theorem Src.keptE {w w' : World} {S : Nat → Prop} {v : Value} {l : List Int} (h : Src w v l) (c : Chg S w w') (hn : ∀ k, v.ownBlock = some k → ¬ S k ∨ l = []) : Src w' v l := by
  by_cases e : l = []
  · subst e; exact h.nil
  · exact h.kept c (fun k hk => (hn k hk).resolve_right e)

set_option maxRecDepth 100000 in
set_option maxHeartbeats 1000000 in
/-- As wText_any; where the text is empty its address may be any. -/
theorem wTextE_any {w : World} {p o : Nat} {cs : Array Value} {t : TypeId} {v s : Value} {l m : List Int} (h : WS w p o cs t v l) (hs : Src w s m) (hsp : ∀ k, s.ownBlock = some k → (k ≠ p ∧ some k ≠ v.ownBlock) ∨ m = []) (hl : l.length + m.length + 10 ≤ 140737488355328) :
    Calls Try.prog 46 #[.pointer (some ⟨p, o, none⟩), s] w fun e w' => e = .returned (.tuple #[]) ∧ PW w w' p o cs t v (l ++ (numB m.length ++ m)) := by
  have H : Hid _ := h
  have HS : Hid _ := hs
  have h10 := numB_ten (n := m.length) (by omega)
  obtain ⟨a0, c0, hs2⟩ := hs.form
  subst hs2
  clear h hs
  go_enter Try.func46, Try.ntmps46
  go_wp2_with fail
  refine (wUint_any H.out m.length (by omega) (by omega)).mono ?_
  rintro e w1 ⟨rfl, v1, s1, c1, a1⟩
  have S1 : Hid _ := Src.keptE HS.out c1 (fun k hk => (hsp k hk).imp (fun this e => by rcases e with e | e; exact this.1 e; exact this.2 e) id)
  have H1 : Hid _ := s1
  have C1 : Hid _ := c1
  have A1 : Hid _ := a1
  clear s1 c1 a1
  go_wp2_with fail
  refine (wRaw_any H1.out S1.out (by rw [List.length_append]; omega)).mono ?_
  rintro e w2 ⟨rfl, P2⟩
  have R : Hid _ := PW.then H1.out C1.out A1.out P2
  clear P2
  go_wp2_with fail
  refine bodyPost_end (results_none rfl _ _ _) rfl ⟨rfl, ?_⟩
  have R2 := R.out
  rwa [List.append_assoc] at R2

/-- A writer at p (its cell 0) that has written l; since w0 no block of Av has turned. -/
structure WB (w0 w : World) (Av : Nat → Prop) (p : Nat) (t : TypeId) (l : List Int) : Prop where
  ex : ∃ cs v, WS w p 0 cs t v l ∧ ∀ g, v.ownBlock = some g → ¬ Av g
  np : ¬ Av p
  ch : Chg (fun g => ¬ Av g) w0 w
  lo : ∀ g, Av g → g < w0.heap.size

section
variable {w0 w w' : World} {Av : Nat → Prop} {p : Nat} {t : TypeId} {l l' : List Int}
theorem WB.go (h : WB w0 w Av p t l) {f : FuncId} {args : Array Value} (hc : ∀ cs v, WS w p 0 cs t v l → (∀ g, v.ownBlock = some g → ¬ Av g) → Calls Try.prog f args w fun e w' => e = .returned (.tuple #[]) ∧ PW w w' p 0 cs t v l') :
    Calls Try.prog f args w fun e w' => e = .returned (.tuple #[]) ∧ WB w0 w' Av p t l' := by
  obtain ⟨cs, v, ws, hv⟩ := h.ex
  refine (hc cs v ws hv).mono ?_
  rintro e w' ⟨rfl, v', ws', ch, hb⟩
  have new : ∀ g, w.heap.size ≤ g → ¬ Av g := fun g hg ha => by have := h.lo g ha; have := h.ch.size; omega
  refine ⟨rfl, ⟨_, v', ws', fun g hg => ?_⟩, h.np, h.ch.trans ch (fun g e => .inl ?_), h.lo⟩
  · rcases hb with e | ⟨q, e, hq⟩
    · exact hv g (by rw [← e]; exact hg)
    · rw [hg] at e; injection e with e; subst e; exact new _ hq
  · rcases e with e | e
    · rw [e]; exact h.np
    · exact hv g e.symm
theorem WB.fresh (h : WB w0 w Av p t l) (c : Chg (fun _ => False) w w') : WB w0 w' Av p t l := by
  obtain ⟨cs, v, ws, hv⟩ := h.ex
  exact ⟨⟨cs, v, ⟨c.heap_some ws.blk (fun e => e), ws.at_, Own.kept ws.own c (fun _ _ e => e), ws.ne⟩, hv⟩, h.np, h.ch.trans c (fun _ e => e.elim), h.lo⟩
theorem WB.drew (h : WB w0 w Av p t l) : WB w0 w.drew Av p t l := h.fresh ((Chg.refl _ _).drew)
theorem WB.src (h : WB w0 w Av p t l) {s : Value} {m : List Int} (hs : Src w0 s m) (ha : ∀ g, s.ownBlock = some g → Av g ∨ m = []) : Src w s m := hs.keptE h.ch (fun g hg => (ha g hg).imp (fun a e => e a) id)
theorem WB.blk (h : WB w0 w Av p t l) {g : Nat} {cs : List Value} {ty : TypeId} (hb : Blk w0 g cs ty) (ha : Av g) : Blk w g cs ty := hb.keep h.ch (fun e => e ha)
theorem WB.pw (h : WB w0 w Av p t l) : p < w.heap.size := by
  obtain ⟨cs, v, ws, _⟩ := h.ex
  exact ws.lt
/-- One block more is left alone. -/
def AvX (Av : Nat → Prop) (X : Nat) : Nat → Prop := fun g => Av g ∨ g = X
theorem WB.box (h : WB w0 w Av p t l) (c : Chg (fun _ => False) w w') (hX : w.heap.size < w'.heap.size) : WB w' w' (AvX Av w.heap.size) p t l := by
  obtain ⟨cs, v, ws, hv⟩ := h.ex
  refine ⟨⟨cs, v, ⟨c.heap_some ws.blk (fun e => e), ws.at_, Own.kept ws.own c (fun _ _ e => e), ws.ne⟩, fun g hg e => ?_⟩, fun e => ?_, Chg.refl _ _, fun g e => ?_⟩
  · rcases e with e | e
    · exact hv g hg e
    · have := Own.lt ws.own hg; omega
  · rcases e with e | e
    · exact h.np e
    · have := ws.lt; omega
  · rcases e with e | e
    · have := h.lo g e; have := h.ch.size; have := c.size; omega
    · omega
theorem WB.leave {X : Nat} {w1 w2 : World} (h : WB w0 w Av p t l) (c : Chg (fun _ => False) w w1) (h2 : WB w1 w2 (AvX Av X) p t l') : WB w0 w2 Av p t l' := by
  obtain ⟨cs, v, ws, hv⟩ := h2.ex
  exact ⟨⟨cs, v, ws, fun g hg e => hv g hg (.inl e)⟩, h.np, (h.ch.trans c (fun _ e => e.elim)).trans h2.ch (fun g e => .inl (fun e2 => e (.inl e2))), h.lo⟩
end

set_option maxRecDepth 100000 in
set_option maxHeartbeats 1000000 in
theorem wFlag_any {w : World} {p : Nat} {cs : Array Value} {t : TypeId} {v : Value} {l : List Int} (h : WS w p 0 cs t v l) (b : Bool) (hl : l.length + 1 ≤ 140737488355328) :
    Calls Try.prog 149 #[.pointer (some ⟨p, 0, none⟩), .bool b] w fun e w' => e = .returned (.tuple #[]) ∧ PW w w' p 0 cs t v (l ++ [if b then 1 else 0]) := by
  have H : Hid _ := fun x => wByte_any h x hl
  clear h
  cases b
  · go_enter Try.func149, Try.ntmps149
    go_wp2_with fail
    refine Calls.mono (H.out 0) ?_
    rintro e w1 ⟨rfl, r⟩
    have R : Hid _ := r
    clear r
    go_wp2_with fail
    go_end0
    exact ⟨rfl, R.out⟩
  · go_enter Try.func149, Try.ntmps149
    go_wp2_with fail
    refine Calls.mono (H.out 1) ?_
    rintro e w1 ⟨rfl, r⟩
    have R : Hid _ := r
    clear r
    go_wp2_with fail
    go_end0
    exact ⟨rfl, R.out⟩
set_option maxRecDepth 100000 in
set_option maxHeartbeats 1000000 in
theorem wNumber_any {w : World} {p : Nat} {cs : Array Value} {t : TypeId} {v : Value} {l : List Int} (h : WS w p 0 cs t v l) (n : Nat) (hn : n ≤ 9223372036854775807) (hl : l.length + 10 ≤ 140737488355328) :
    Calls Try.prog 146 #[.pointer (some ⟨p, 0, none⟩), .int .i64 n] w fun e w' => e = .returned (.tuple #[]) ∧ PW w w' p 0 cs t v (l ++ numB n) := by
  have H : Hid _ := wUint_any h n (by omega) hl
  clear h
  go_enter Try.func146, Try.ntmps146
  go_wp2_with fail
  refine Calls.mono H.out ?_
  rintro e w1 ⟨rfl, r⟩
  have R : Hid _ := r
  clear r
  go_wp2_with fail
  go_end0
  exact ⟨rfl, R.out⟩

/-- A kid. -/
structure Kd where
  lv : Int
  ka : Option Addr
  kn : Nat
  kc : Nat
  kl : List Int
  ct : Nat
  ad : List Int
  lb : List Int
def Kd.cells (k : Kd) : List Value := .int .i64 k.lv :: .slice k.ka k.kn k.kc :: .int .u64 k.ct :: bs (k.ad ++ k.lb)
def Kd.bytes (k : Kd) : List Int := [k.lv % 256] ++ (numB k.kl.length ++ k.kl) ++ numB k.ct ++ k.ad ++ k.lb
/-- It lies in memory, its key among Av. -/
structure KdIn (w : World) (Av : Nat → Prop) (k : Kd) : Prop where
  src : Src w (.slice k.ka k.kn k.kc) k.kl
  av : ∀ g, (Value.slice k.ka k.kn k.kc).ownBlock = some g → Av g ∨ k.kl = []
  lv : -9223372036854775808 ≤ k.lv ∧ k.lv ≤ 9223372036854775807
  ct : k.ct < 18446744073709551616
  ad : k.ad.length = 33
  lb : k.lb.length = 32
theorem Kd.one (k : Kd) : ∀ u ∈ k.cells, u.oneCell' = true := by
  intro u hu
  simp only [Kd.cells, List.mem_cons] at hu
  rcases hu with rfl | rfl | rfl | hu
  · rfl
  · rfl
  · rfl
  · exact bs_one _ u hu
theorem Kd.ad_at (k : Kd) : (k.cells.drop 3).take (bs k.ad).length = bs k.ad := by simp [Kd.cells, bs]
theorem Kd.lb_at (k : Kd) (h : k.ad.length = 33) : (k.cells.drop 36).take (bs k.lb).length = bs k.lb := by
  have e : k.cells.drop 36 = bs k.lb := by
    show (bs (k.ad ++ k.lb)).drop 33 = bs k.lb
    rw [bs_app, List.drop_append_of_le_length (by rw [bs_len]; omega), List.drop_eq_nil_of_le (by rw [bs_len]; omega), List.nil_append]
  rw [e, List.take_length]
end Go.Proofs.Ytjmeaebehndheaa
