/-
  own, apply, kept: what a crash does with one write.
-/
import Derived.Test.YtddnecfnjnipjaaFuses
namespace Go.Proofs.Ytddnecfnjnipjaa
open Go.RowKit Go.RwLone

set_option maxRecDepth 100000 in
theorem eql_some (b z n : Nat) (w : World) : (binOp BinOp.eql 48 (.slice (some ⟨b, 0, none⟩) z n) (.slice none 0 0)).run Try.prog w = .ok (.bool false) w := by rfl
set_option maxRecDepth 100000 in
theorem eql_none (w : World) : (binOp BinOp.eql 48 (.slice none 0 0) (.slice none 0 0)).run Try.prog w = .ok (.bool true) w := by rfl

set_option maxRecDepth 100000 in
set_option maxHeartbeats 2000000 in
theorem own_have {w : World} {p m km z : Nat} {K : Nat → Option Nat} {E : DataW Unit} {cs : Array Value} (h : Rw w p cs 86) (h8 : cs[8]? = some (.map (some m))) (hd : Du w m km z K E) (s : Nat) (hs : s ≤ 65536) (g : Nat) (hK : K s = some g) :
    Calls Try.prog 41 #[.pointer (some ⟨p, 0, none⟩), .int .i64 s] w fun e w' => e = .returned (.slice (some ⟨g, 0, none⟩) z z) ∧ w = w' := by
  have k1 := hd.lookup s hs
  rw [hK] at k1
  unfold duV at k1
  have c8 : w.cell? ⟨p, 8, none⟩ = some (.map (some m)) := (Rw.cell h 8).trans h8
  have q1 := eql_some
  clear h h8 hd hK
  go_enter Try.func41, Try.ntmps41
  go_wp2_with fail
  go_ret
  exact ⟨rfl, rfl⟩

set_option maxRecDepth 100000 in
set_option maxHeartbeats 2000000 in
theorem own_new {w : World} {p m km z : Nat} {K : Nat → Option Nat} {E : DataW Unit} {cs : Array Value} (h : Rw w p cs 86) (h8 : cs[8]? = some (.map (some m))) (h1 : cs[1]? = some (.int .i64 z)) (hd : Du w m km z K E) (hmp : m ≠ p) (s : Nat) (hs : s ≤ 65536) (hz : z ≤ 4096) (hk : km ≤ 4398046511104) (hK : K s = none) :
    Calls Try.prog 41 #[.pointer (some ⟨p, 0, none⟩), .int .i64 s] w fun e w' => e = .returned (.slice (some ⟨w.heap.size, 0, none⟩) z z) ∧ Rw w' w.heap.size (zer z).toArray 5 ∧ Chg (fun i => i = m) w w' ∧ ∃ E', Du w' m (km + 1) z (fun t => if t = s then some w.heap.size else K t) E' := by
  have k1 := hd.lookup s hs
  rw [hK] at k1
  unfold duV at k1
  have c8 : w.cell? ⟨p, 8, none⟩ = some (.map (some m)) := (Rw.cell h 8).trans h8
  have c1 : w.cell? ⟨p, 1, none⟩ = some (.int .i64 z) := (Rw.cell h 1).trans h1
  have hmk := run_mk z (by omega)
  obtain ⟨W, hW⟩ : ∃ W, W = (w.alloc (.cells (zer z).toArray 5)).drew := ⟨_, rfl⟩
  have hgd : (w.alloc (.cells (zer z).toArray 5)).grownBy (w.alloc (.cells (zer z).toArray 5)).drew none := ⟨rfl, rfl, rfl, Nat.le_refl _, fun _ _ _ => rfl⟩
  have chW : Chg (fun i => i = m) w W := by rw [hW]; exact ((Chg.refl (fun i => i = m) w).alloc _).drew
  have duW : Du W m km z K E := by rw [hW]; exact (hd.alloc _).kept hgd (by simp)
  have rW : Rw W w.heap.size (zer z).toArray 5 := by rw [hW]; exact ⟨heap_alloc_new _ _⟩
  have hW8 : W.cell? ⟨p, 8, none⟩ = some (.map (some m)) := chW.cell_some c8 (fun e => hmp e.symm)
  have hW1 : W.cell? ⟨p, 1, none⟩ = some (.int .i64 z) := chW.cell_some c1 (fun e => hmp e.symm)
  obtain ⟨w5, hup, ⟨E5, du5⟩, hg5⟩ := duW.put s hs w.heap.size hk
  have ch5 : Chg (fun i => i = m) w w5 := chW.trans (Chg.of_grown hg5) (fun k e => .inl (by injection e))
  have k2 := du5.lookup s hs
  simp only [if_pos] at k2
  unfold duV at k2
  have hmlt : m < w.heap.size := by
    obtain ⟨es, cl, hm⟩ := hd.map
    exact (Array.getElem?_eq_some_iff.1 hm).1
  have e8 : w5.cell? ⟨p, 8, none⟩ = some (.map (some m)) := ch5.cell_some c8 (fun e => hmp e.symm)
  have e1 : w5.cell? ⟨p, 1, none⟩ = some (.int .i64 z) := ch5.cell_some c1 (fun e => hmp e.symm)
  have r5 : Rw w5 w.heap.size (zer z).toArray 5 := ⟨(Chg.of_grown hg5).heap_some rW.eq (fun e => by injection e with e; omega)⟩
  have CH5 : Hid _ := ch5
  have R5 : Hid _ := r5
  have DU5 : Hid _ := du5
  have HW : Hid _ := hW
  have S0 : Hid (w.cell? ⟨p, 8, none⟩ = some (.map (some m)) ∧ w.cell? ⟨p, 1, none⟩ = some (.int .i64 z)) := ⟨c8, c1⟩
  have SW : Hid (W.cell? ⟨p, 8, none⟩ = some (.map (some m)) ∧ W.cell? ⟨p, 1, none⟩ = some (.int .i64 z)) := ⟨hW8, hW1⟩
  have S5 : Hid (w5.cell? ⟨p, 8, none⟩ = some (.map (some m)) ∧ w5.cell? ⟨p, 1, none⟩ = some (.int .i64 z)) := ⟨e8, e1⟩
  clear h h8 h1 hd hK chW duW rW hW8 hW1 hg5 ch5 du5 r5 hgd hW e1 c1
  have q1 := eql_none
  go_enter Try.func41, Try.ntmps41
  go_wp2_with fail
  refine wp_region_held_drew (S := fun w' => w'.cell? ⟨p, 8, none⟩ = some (.map (some m)) ∧ w'.cell? ⟨p, 1, none⟩ = some (.int .i64 z)) (by kernel_rfl) S0.out (fun hH => ?_)
  refine wpAnyH_take (i := 0) (v := .pointer (some ⟨p, 0, none⟩)) rfl (by kernel_rfl) (by kernel_rfl) (by kernel_rfl) (fun _ _ _ h => h) (Or.inl ⟨by rfl, fun w' hw' => by go_simp⟩) hH ?_
  refine wpAnyH_take (i := 1) (v := .pointer (some ⟨p, 0, none⟩)) rfl (by kernel_rfl) (by kernel_rfl) (by kernel_rfl) (fun _ _ _ h => h) (Or.inl ⟨by rfl, fun w' hw' => by go_simp⟩) hH ?_
  refine wpAnyH_take (i := 2) (v := .pointer (some ⟨p, 8, none⟩)) rfl (by kernel_rfl) (by kernel_rfl) (by kernel_rfl) (fun _ _ _ h => h) (Or.inl ⟨by rfl, fun w' hw' => by go_simp⟩) hH ?_
  refine wpAnyH_take (i := 3) (v := .map (some m)) rfl (by kernel_rfl) (by kernel_rfl) (by kernel_rfl) (fun _ _ _ h => h) (Or.inl ⟨by rfl, fun w' hw' => by have q1 := hw'.1; go_simp⟩) hH ?_
  refine wpAnyH_take (i := 4) (v := .int .i64 s) rfl (by kernel_rfl) (by kernel_rfl) (by kernel_rfl) (fun _ _ _ h => h) (Or.inl ⟨by rfl, fun w' hw' => by go_simp⟩) hH ?_
  refine wpAnyH_take (i := 5) (v := .pointer (some ⟨p, 0, none⟩)) rfl (by kernel_rfl) (by kernel_rfl) (by kernel_rfl) (fun _ _ _ h => h) (Or.inl ⟨by rfl, fun w' hw' => by go_simp⟩) hH ?_
  refine wpAnyH_take (i := 6) (v := .pointer (some ⟨p, 0, none⟩)) rfl (by kernel_rfl) (by kernel_rfl) (by kernel_rfl) (fun _ _ _ h => h) (Or.inl ⟨by rfl, fun w' hw' => by go_simp⟩) hH ?_
  refine wpAnyH_take (i := 7) (v := .pointer (some ⟨p, 1, none⟩)) rfl (by kernel_rfl) (by kernel_rfl) (by kernel_rfl) (fun _ _ _ h => h) (Or.inl ⟨by rfl, fun w' hw' => by go_simp⟩) hH ?_
  refine wpAnyH_take (i := 8) (v := .int .i64 z) rfl (by kernel_rfl) (by kernel_rfl) (by kernel_rfl) (fun _ _ _ h => h) (Or.inl ⟨by rfl, fun w' hw' => by have q1 := hw'.2; go_simp⟩) hH ?_
  refine wpAnyH_ready (rs := [9]) (by kernel_rfl) (by simp) ?_
  refine AllReadyH.cons rfl (fun K hK => ?_) AllReadyH.nil
  go_simp
  rw [← HW.out]
  refine hK.out _ _ SW.out (fun h1 => ?_)
  clear hK K
  refine wpAnyH_ready (rs := [10]) (by kernel_rfl) (by simp) ?_
  refine AllReadyH.cons rfl (fun K hK => ?_) AllReadyH.nil
  go_simp
  refine hK.out _ _ S5.out (fun _ => ?_)
  clear hK K
  refine wpAnyH_done (by kernel_rfl) ?_ _
  go_wp2_with fail
  go_ret
  exact ⟨rfl, R5.out, CH5.out, E5, DU5.out⟩

/-- Bytes over the first of others. -/
def over (l m : List Int) (k : Nat) : List Int := l.take k ++ m.drop k
theorem over_len {l m : List Int} {z : Nat} (hl : l.length = z) (hm : m.length = z) (k : Nat) (hk : k ≤ z) : (over l m k).length = z := by simp [over, hl, hm]; omega
theorem over_zero (l m : List Int) : over l m 0 = m := by simp [over]
theorem over_splice {l m : List Int} {z k : Nat} (hl : l.length = z) (hk : k ≤ z) : splice (bs m) 0 (bs (l.take k)) = bs (over l m k) := by
  unfold splice over
  simp [bs, hl, Nat.min_eq_left hk]

theorem bs_take {l : List Int} {k j : Nat} {v : Value} (h : (bs (l.take k))[j]? = some v) : (bs l)[j]? = some v := by
  unfold bs at h ⊢
  rw [List.map_take, List.getElem?_take] at h
  split at h
  · exact h
  · cases h

set_option maxRecDepth 100000 in
set_option maxHeartbeats 2000000 in
theorem apply_any {w : World} {p s z G b k : Nat} {lb lg : List Int} {P : World → Prop} (hk0 : 0 < k) (hk : k ≤ z) (_hz : z ≤ 4096)
    (own : Calls Try.prog 41 #[.pointer (some ⟨p, 0, none⟩), .int .i64 s] w fun e w' => e = .returned (.slice (some ⟨G, 0, none⟩) z z) ∧ P w')
    (hG : ∀ w1, P w1 → Rw w1 G (bs lg).toArray 5 ∧ Rw w1 b (bs lb).toArray 5) (hlg : lg.length = z) (hlb : lb.length = z) :
    Calls Try.prog 60 #[.pointer (some ⟨p, 0, none⟩), .int .i64 s, .slice (some ⟨b, 0, none⟩) k z] w fun e w' => e = .returned (.tuple #[]) ∧ ∃ w1, P w1 ∧ Rw w' G (bs (over lb lg k)).toArray 5 ∧ Chg (fun i => i = G) w1 w' := by
  have OW : Hid _ := own
  have RG : Hid _ := hG
  clear own hG
  go_enter Try.func60, Try.ntmps60
  go_wp2_with fail
  refine Calls.mono OW.out ?_
  rintro e w1 ⟨rfl, hP⟩
  have HP : Hid _ := hP
  clear hP
  go_wp2_with (refine wpList_copy_to rfl (.tmp 11) (.tmp 12) rfl G 0 z z ⟨b, 0, none⟩ k z rfl rfl (RG.out w1 HP.out).1 (bs (lb.take k)) (by rw [bs_len, List.length_take, hlb, Nat.min_eq_left hk]; exact (Nat.min_eq_left hk).symm) (fun j v hv => by rw [addr_add, Nat.zero_add, Rw.cell (RG.out w1 HP.out).2 j, List.getElem?_toArray]; exact bs_take hv) (by simp [bs_len, hlb, hlg]; omega) (bs_one _) ?_; intro w3 r3 c3; have Z3 : Hid _ := r3; have C3 : Hid _ := c3; clear r3 c3)
  go_end0
  have := Z3.out
  rw [over_splice hlb hk] at this
  exact ⟨rfl, w1, HP.out, this, C3.out⟩

/-- A list of bools in memory. -/
structure KB (w : World) (a : Option Addr) (N : Nat) (kl : List Bool) : Prop where
  len : N = kl.length
  row : ∀ i, i < N → ∃ g o, a = some ⟨g, o, none⟩ ∧ w.cell? ⟨g, o + i, none⟩ = some (.bool (kl.getD i false))
  small : N ≤ 9223372036854775807

theorem KB.chg {w w' : World} {a : Option Addr} {N : Nat} {kl : List Bool} (h : KB w a N kl) {S : Nat → Prop} (k : Chg S w w') (hS : ∀ g o, 0 < N → a = some ⟨g, o, none⟩ → ¬ S g) : KB w' a N kl :=
  ⟨h.len, fun i hi => by
    obtain ⟨g, o, e, hc⟩ := h.row i hi
    exact ⟨g, o, e, k.cell_some hc (hS g o (by omega) e)⟩, h.small⟩

/-- How many bytes of write n outlast. -/
def keptN (kl : List Bool) (torn at_ : Int) (z n : Nat) : Nat := if (n : Int) = torn then (min (max at_ 0) z).toNat else if kl.getD n false = true then z else 0
theorem keptN_le (kl : List Bool) (torn at_ : Int) (z n : Nat) : keptN kl torn at_ z n ≤ z := by
  unfold keptN
  split
  · omega
  · split <;> omega

set_option maxRecDepth 100000 in
set_option maxHeartbeats 2000000 in
theorem kept_any {w : World} {p z : Nat} {cs : Array Value} (h : Rw w p cs 86) (h1 : cs[1]? = some (.int .i64 z)) {a : Option Addr} {N c : Nat} {kl : List Bool} (hk : KB w a N kl) (torn at_ : Int) (n : Nat) (_hn : n ≤ 4611686018427387904) (hz : z ≤ 4096) :
    Calls Try.prog 61 #[.pointer (some ⟨p, 0, none⟩), .agg #[.slice a N c, .int .i64 torn, .int .i64 at_], .int .i64 n] w fun e w' => e = .returned (.int .i64 (keptN kl torn at_ z n)) ∧ Chg (fun _ => False) w w' := by
  obtain ⟨W, hW⟩ : ∃ W, W = w.alloc (.cells #[.slice a N c, .int .i64 torn, .int .i64 at_] 66) := ⟨_, rfl⟩
  have chW : Chg (fun _ => False) w W := by rw [hW]; exact (Chg.refl _ _).alloc _
  have rW : Rw W w.heap.size #[.slice a N c, .int .i64 torn, .int .i64 at_] 66 := by rw [hW]; exact ⟨heap_alloc_new _ _⟩
  have d0 : W.cell? ⟨w.heap.size, 0, none⟩ = some (.slice a N c) := rW.cell 0
  have d1 : W.cell? ⟨w.heap.size, 1, none⟩ = some (.int .i64 torn) := rW.cell 1
  have d2 : W.cell? ⟨w.heap.size, 2, none⟩ = some (.int .i64 at_) := rW.cell 2
  have c1 : W.cell? ⟨p, 1, none⟩ = some (.int .i64 z) := chW.cell_some ((Rw.cell h 1).trans h1) (fun h => h)
  have kW : Hid _ := hk.chg chW (fun _ _ _ _ h => h)
  have CH : Hid _ := chW
  have hsm := hk.small
  clear h h1 rW chW
  by_cases ht : (n : Int) = torn
  · have t1 : ((n : Int) == torn) = true := by simp [ht]
    have hv : keptN kl torn at_ z n = (min (max at_ 0) z).toNat := by unfold keptN; rw [if_pos ht]
    rw [hv]
    have hv2 : (((min (max at_ 0) (z : Int)).toNat : Nat) : Int) = min (max at_ 0) z := by omega
    rw [hv2]
    clear hv hv2 ht
    rcases (show at_ < 0 ∨ (0 ≤ at_ ∧ at_ ≤ z) ∨ (0 ≤ at_ ∧ (z : Int) < at_) by omega) with hc | ⟨hc, hd⟩ | ⟨hc, hd⟩
    · rw [show min (max at_ 0) (z : Int) = 0 by omega]
      go_enter Try.func61, Try.ntmps61
      go_upto_region 1 with fail
      rw [← hW]
      clear hW
      go_wp2_with fail
      go_region
      all_goals (go_wp2_with fail)
      all_goals (go_ret; exact ⟨rfl, CH.out.drew⟩)
    · rw [show min (max at_ 0) (z : Int) = at_ by omega]
      go_enter Try.func61, Try.ntmps61
      go_upto_region 1 with fail
      rw [← hW]
      clear hW
      go_wp2_with fail
      go_region
      all_goals (go_wp2_with fail)
      all_goals (go_ret; exact ⟨rfl, CH.out.drew⟩)
    · rw [show min (max at_ 0) (z : Int) = z by omega]
      go_enter Try.func61, Try.ntmps61
      go_upto_region 1 with fail
      rw [← hW]
      clear hW
      go_wp2_with fail
      go_region
      all_goals (go_wp2_with fail)
      all_goals (go_ret; exact ⟨rfl, CH.out.drew⟩)
  · have t1 : ((n : Int) == torn) = false := by simp [ht]
    by_cases hN : n < N
    · obtain ⟨g, o, rfl, hc⟩ := kW.out.row n hN
      have hNi : (n : Int) < (N : Int) := by omega
      obtain ⟨bl, hbl⟩ : ∃ bl, bl = kl.getD n false := ⟨_, rfl⟩
      rw [← hbl] at hc
      have hv : keptN kl torn at_ z n = if bl = true then z else 0 := by unfold keptN; rw [if_neg ht, hbl]
      rw [hv]
      clear hv hbl ht
      cases bl with
      | true =>
        go_enter Try.func61, Try.ntmps61
        go_upto_region 1 with fail
        rw [← hW]
        clear hW
        go_wp2_with fail
        go_ret
        exact ⟨rfl, CH.out⟩
      | false =>
        go_enter Try.func61, Try.ntmps61
        go_upto_region 1 with fail
        rw [← hW]
        clear hW
        go_wp2_with fail
        go_ret
        exact ⟨rfl, CH.out⟩
    · have hNi : ¬ (n : Int) < (N : Int) := by omega
      have hNd : decide ((n : Int) < (N : Int)) = false := by simp; omega
      have hv : keptN kl torn at_ z n = 0 := by
        unfold keptN
        rw [if_neg ht, List.getD_eq_getElem?_getD, List.getElem?_eq_none (by have := hk.len; omega)]
        simp
      rw [hv]
      clear hv ht
      go_enter Try.func61, Try.ntmps61
      go_upto_region 1 with fail
      rw [← hW]
      clear hW
      go_wp2_with fail
      go_ret
      exact ⟨rfl, CH.out⟩
end Go.Proofs.Ytddnecfnjnipjaa
