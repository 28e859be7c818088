/-
  The walk of takes: a Reader and the reference's, step by step.
-/
import Derived.Test.YtibcpokfgogopaaText2
import Derived.Test.YtibcpokfgogopaaEq
import Derived.Test.YtibcpokfgogopaaLay
import Derived.Test.YtibcpokfgogopaaInv2
import Derived.Deep.Cut
namespace Go.Proofs.Ytibcpokfgogopaa
open Go.RowKit

/-- Two readers of the same bytes, equally far. -/
structure Duo (w : World) (p q : Nat) (tv xv : Value) (T : List Int) (a : Nat) (err : Int) : Prop where
  r : RS w p 141 tv T a err
  x : RS w q 64 xv T a err
  ne : p ≠ q
  tq : ∀ k, tv.ownBlock = some k → k ≠ q
  xp : ∀ k, xv.ownBlock = some k → k ≠ p

/-- What a step leaves. -/
def DP (w w' : World) (p q : Nat) (tv xv : Value) (T : List Int) : Prop := ∃ a err, Duo w' p q tv xv T a err ∧ Chg (fun k => k = p ∨ k = q) w w'

section
variable {w w1 w2 w' : World} {p q : Nat} {tv xv : Value} {T : List Int} {a a1 : Nat} {err e1 : Int}
/-- Behind the Reader's call the other one is as it was. -/
theorem Duo.snd (h : Duo w p q tv xv T a err) (k : RP w w1 p 141 tv T a1 e1) : RS w1 q 64 xv T a err := h.x.keep k.2 (fun e => h.ne e.symm) (fun j hj e => h.xp j hj e)
theorem Duo.both (h : Duo w p q tv xv T a err) (k : RP w w1 p 141 tv T a1 e1) (l : RP w1 w2 q 64 xv T a1 e1) : DP w w2 p q tv xv T :=
  ⟨a1, e1, ⟨k.1.keep l.2 (fun e => h.ne e) (fun j hj e => h.tq j hj e), l.1, h.ne, h.tq, h.xp⟩, (k.2.mono (fun _ _ e => .inl e)).trans l.2 (fun _ e => .inl (.inr e))⟩
theorem Duo.keep {S : Nat → Prop} (h : Duo w p q tv xv T a err) (c : Chg S w w') (hp : ¬ S p) (hq : ¬ S q) (ht : ∀ k, tv.ownBlock = some k → ¬ S k ∨ T = []) (hx : ∀ k, xv.ownBlock = some k → ¬ S k ∨ T = []) : Duo w' p q tv xv T a err :=
  ⟨h.r.keep2 c hp ht, h.x.keep2 c hq hx, h.ne, h.tq, h.xp⟩
theorem Duo.keep0 (h : Duo w p q tv xv T a err) (b : Below w.heap.size w w') : Duo w' p q tv xv T a err := ⟨h.r.keep0 b, h.x.keep0 b, h.ne, h.tq, h.xp⟩
theorem DP.alloc {ob : Obj} (h : DP (w.alloc ob) w' p q tv xv T) : DP w w' p q tv xv T := by
  obtain ⟨a, e, d, c⟩ := h
  exact ⟨a, e, d, ((Chg.refl _ _).alloc ob).trans c (fun _ x => .inl x)⟩
/-- Later changes to what was made meanwhile. -/
theorem DP.later {S : Nat → Prop} (h : DP w w1 p q tv xv T) (hp : p < w.heap.size) (hq : q < w.heap.size) (ht : ∀ k, tv.ownBlock = some k → k < w.heap.size ∨ T = []) (hx : ∀ k, xv.ownBlock = some k → k < w.heap.size ∨ T = []) (c : Chg S w1 w2) (hS : ∀ k, S k → w.heap.size ≤ k) : DP w w2 p q tv xv T := by
  obtain ⟨a, e, d, c1⟩ := h
  exact ⟨a, e, d.keep c (fun s => by have := hS p s; omega) (fun s => by have := hS q s; omega) (fun k hk => (ht k hk).imp (fun h s => by have := hS k s; omega) id) (fun k hk => (hx k hk).imp (fun h s => by have := hS k s; omega) id), c1.trans c (fun k s => .inr (hS k s))⟩
end
theorem lowN_b {T : List Int} (h : Byts T) (a : Nat) (err : Int) (m : Nat) (hm : m ≤ 8) : lowN (pL T a err m) < 18446744073709551616 := by
  have h1 := lowN_lt (pL_byts h a err m)
  have h2 : 256 ^ (pL T a err m).length ≤ 256 ^ 8 := Nat.pow_le_pow_right (by omega) (Nat.le_trans (pL_len T a err m) hm)
  omega
theorem textS_b {T : List Int} (a : Nat) (err most : Int) (h : T.length ≤ 140737488352000) : (textS T a err most).1.length ≤ 140737488352000 := by
  unfold textS
  split
  · split
    split
    · split
      · simp
      · split
        · simp
        · simp; omega
    · simp
  · simp
theorem pL_b {T : List Int} (a : Nat) (err n : Int) (h : T.length ≤ 140737488352000) : (pL T a err n).length ≤ 140737488352000 := by
  unfold pL
  split
  · simp; omega
  · simp

set_option maxRecDepth 100000 in
set_option maxHeartbeats 4000000 in
theorem takes_any {w : World} {p q : Nat} {tv xv : Value} {T : List Int} {a : Nat} {err : Int} (h : Duo w p q tv xv T a err) (hpp : p < w.heap.size) (hqq : q < w.heap.size)
    (kind who : Int) (n : Nat) (mm : Int) (b : Value) (z : List Int) (nth : Int) (hz : z.length = 32) (hn : n < 18446744073709551616) (hTb : T.length ≤ 140737488352000) (hm1 : -9223372036854775808 ≤ mm) (hm2 : mm ≤ 9223372036854775807) :
    Calls Try.prog 22 #[.pointer (some ⟨p, 0, none⟩), .pointer (some ⟨q, 0, none⟩), .agg (stp kind who n mm b z nth).toArray] w fun e w' => e = .returned (.bool true) ∧ DP w w' p q tv xv T := by
  obtain ⟨hc0, _, hc2, _, _, _, _⟩ := stp_cell w kind who n mm b z nth 35 hz
  have hc3 : (w.alloc (.cells (stp kind who n mm b z nth).toArray 35)).cell? ⟨w.heap.size, 3, none⟩ = some (.int .i64 mm) := by
    rw [cell_of_row _ _ 3 _ 35 _ (heap_alloc_new _ _)]; rfl
  have H : Hid _ := Duo.keep0 h ((Below.refl _ _).alloc (Nat.le_refl _) (.cells (stp kind who n mm b z nth).toArray 35))
  have htv := h.r.tvlt
  have hxv := h.x.tvlt
  have H0 : Hid _ := h
  have HTV : Hid _ := htv
  have HXV : Hid _ := hxv
  clear h htv hxv
  by_cases h1 : kind = 1
  · subst h1
    have hlb : lowN (pL T a err 1) < 18446744073709551616 := lowN_b H.out.r.byt a err 1 (by omega)
    go_enter Try.func22, Try.ntmps22
    go_wp2_with fail
    refine (rByte_any H.out.r).mono ?_
    rintro e w1 ⟨rfl, P1⟩
    have HP1 : Hid _ := P1
    clear P1
    go_wp2_with fail
    refine (xLow_any (Duo.snd H.out HP1.out) 1 (by omega)).mono ?_
    rintro e w2 ⟨rfl, P2⟩
    have R : Hid _ := DP.alloc (Duo.both H.out HP1.out P2)
    clear P2
    go_wp2_with fail
    go_ret
    exact ⟨rfl, R.out⟩
  by_cases h2 : kind = 2
  · subst h2
    have hlb : lowN (pL T a err 4) < 18446744073709551616 := lowN_b H.out.r.byt a err 4 (by omega)
    go_enter Try.func22, Try.ntmps22
    go_wp2_with fail
    refine (rWord_any H.out.r).mono ?_
    rintro e w1 ⟨rfl, P1⟩
    have HP1 : Hid _ := P1
    clear P1
    go_wp2_with fail
    refine (xLow_any (Duo.snd H.out HP1.out) 4 (by omega)).mono ?_
    rintro e w2 ⟨rfl, P2⟩
    have R : Hid _ := DP.alloc (Duo.both H.out HP1.out P2)
    clear P2
    go_wp2_with fail
    go_ret
    exact ⟨rfl, R.out⟩
  by_cases h3 : kind = 3
  · subst h3
    have hlb : lowN (pL T a err 8) < 18446744073709551616 := lowN_b H.out.r.byt a err 8 (by omega)
    go_enter Try.func22, Try.ntmps22
    go_wp2_with fail
    refine (rLong_any H.out.r).mono ?_
    rintro e w1 ⟨rfl, P1⟩
    have HP1 : Hid _ := P1
    clear P1
    go_wp2_with fail
    refine (xLow_any (Duo.snd H.out HP1.out) 8 (by omega)).mono ?_
    rintro e w2 ⟨rfl, P2⟩
    have R : Hid _ := DP.alloc (Duo.both H.out HP1.out P2)
    clear P2
    go_wp2_with fail
    go_ret
    exact ⟨rfl, R.out⟩
  by_cases h4 : kind = 4
  · subst h4
    go_enter Try.func22, Try.ntmps22
    go_upto_region 9 with fail
    have HD : Hid (Duo (w.alloc (.cells (stp 4 who n mm b z nth).toArray 35)).drew p q tv xv T a err) := Duo.keep0 H.out ((Below.refl _ _).drew)
    refine wp_region_held_drew (S := fun w' => w'.cell? ⟨w.heap.size, 2, none⟩ = some (.int .u64 n)) (by kernel_rfl) hc2 (fun hH => ?_)
    refine wpAnyH_take (i := 0) (v := .pointer (some ⟨p, 0, none⟩)) rfl (by kernel_rfl) (by kernel_rfl) (by kernel_rfl) (fun _ _ _ h => h) (Or.inl ⟨by rfl, fun w _ => by rfl⟩) hH ?_
    refine wpAnyH_take (i := 4) (v := .pointer (some ⟨q, 0, none⟩)) rfl (by kernel_rfl) (by kernel_rfl) (by kernel_rfl) (fun _ _ _ h => h) (Or.inl ⟨by rfl, fun w _ => by rfl⟩) hH ?_
    refine wpAnyH_take (i := 1) (v := .pointer (some ⟨w.heap.size, 2, none⟩)) rfl (by kernel_rfl) (by kernel_rfl) (by kernel_rfl) (fun _ _ _ h => h) (Or.inl ⟨by rfl, fun w' _ => by go_simp⟩) hH ?_
    refine wpAnyH_take (i := 5) (v := .pointer (some ⟨w.heap.size, 2, none⟩)) rfl (by kernel_rfl) (by kernel_rfl) (by kernel_rfl) (fun _ _ _ h => h) (Or.inl ⟨by rfl, fun w' _ => by go_simp⟩) hH ?_
    refine wpAnyH_take (i := 2) (v := .int .u64 n) rfl (by kernel_rfl) (by kernel_rfl) (by kernel_rfl) (fun _ _ _ h => h) (Or.inl ⟨by rfl, fun w' hw' => by go_simp⟩) hH ?_
    refine wpAnyH_take (i := 6) (v := .int .u64 n) rfl (by kernel_rfl) (by kernel_rfl) (by kernel_rfl) (fun _ _ _ h => h) (Or.inl ⟨by rfl, fun w' hw' => by go_simp⟩) hH ?_
    refine wpAnyH_ready (rs := [3]) (by kernel_rfl) (by simp) ?_
    refine AllReadyH.cons rfl (fun K hK => ?_) AllReadyH.nil
    go_simp
    refine (rUint_any HD.out.r n hn).mono ?_
    rintro e w1 ⟨rfl, P1⟩
    have hS1 : w1.cell? ⟨w.heap.size, 2, none⟩ = some (.int .u64 n) := P1.2.cell_some hH (by show ¬ w.heap.size = p; omega)
    refine hK.out _ _ hS1 (fun _ => ?_)
    clear hK K
    refine wpAnyH_ready (rs := [7]) (by kernel_rfl) (by simp) ?_
    refine AllReadyH.cons rfl (fun K hK => ?_) AllReadyH.nil
    go_simp
    refine (xUint_any (Duo.snd HD.out P1) n hn).mono ?_
    rintro e w2 ⟨rfl, P2⟩
    have hS2 : w2.cell? ⟨w.heap.size, 2, none⟩ = some (.int .u64 n) := P2.2.cell_some hS1 (by show ¬ w.heap.size = q; omega)
    refine hK.out _ _ hS2 (fun _ => ?_)
    clear hK K
    have R : Hid (DP w w2 p q tv xv T) := by
      obtain ⟨a', e', d', c'⟩ := Duo.both HD.out P1 P2
      exact ⟨a', e', d', (((Chg.refl (fun k => k = p ∨ k = q) w).alloc _).drew).trans c' (fun _ x => .inl x)⟩
    clear P1 P2
    refine wpAnyH_ready (rs := [8]) (by kernel_rfl) (by simp) ?_
    refine AllReadyH.cons rfl (fun K hK => ?_) AllReadyH.nil
    go_simp
    refine hK.out _ _ hS2 (fun _ => ?_)
    clear hK K
    refine wpAnyH_ready (rs := [9]) (by kernel_rfl) (by simp) ?_
    refine AllReadyH.cons rfl (fun K hK => ?_) AllReadyH.nil
    go_simp
    refine hK.out _ _ hS2 (fun _ => ?_)
    clear hK K
    refine wpAnyH_done (by kernel_rfl) ?_ _
    go_wp2_with fail
    go_ret
    exact ⟨rfl, R.out⟩
  by_cases h5 : kind = 5
  · subst h5
    have hbnd := pL_b a err mm hTb
    obtain ⟨l, hl⟩ : ∃ l, l = pL T a err mm := ⟨_, rfl⟩
    rw [← hl] at hbnd
    have RC := rRaw_any H.out.r mm
    rw [← hl] at RC
    have HRC : Hid _ := RC
    have HLL : Hid _ := hl
    clear RC hl
    go_enter Try.func22, Try.ntmps22
    go_wp2_with fail
    refine Calls.mono HRC.out ?_
    rintro e w1 ⟨s1, rfl, o1, P1, b1⟩
    have hc1 := P1.2.cell_some hc3 (by show ¬ w.heap.size = p; omega)
    have XC := xRaw_any (Duo.snd H.out P1) mm
    rw [← HLL.out] at XC
    have HXC : Hid _ := XC
    have HP1 : Hid _ := P1
    obtain ⟨L, hL⟩ : ∃ L, L = l.length := ⟨_, rfl⟩
    obtain ⟨a1, c1, hs1⟩ := Own.form o1
    rw [← hL] at hs1
    subst hs1
    have hb1 : ∀ k, (Value.slice a1 L c1).ownBlock = some k → w.heap.size < k := fun k hk => by have := b1 k hk; simp at this; omega
    have HO1 : Hid _ := o1
    have HB1 : Hid _ := hb1
    have HLen : Hid _ := hL
    have hLb : L + 120 ≤ 140737488355328 := by omega
    clear XC P1 o1 b1 hb1 HRC hL
    go_wp2_with fail
    refine Calls.mono HXC.out ?_
    rintro e w2 ⟨s2, rfl, o2, P2, b2⟩
    have R : Hid _ := DP.alloc (Duo.both H.out HP1.out P2)
    have o1' := Own.kept HO1.out P2.2 (fun k hk e => by have := HB1.out k hk; omega)
    have SM := same_any (Own.src o1') (Own.src o2) (by omega) (by omega)
    rw [decide_eq_true (rfl : l = l)] at SM
    obtain ⟨a2, c2, hs2⟩ := Own.form o2
    rw [← HLen.out] at hs2
    subst hs2
    have HSM : Hid _ := SM
    have HO2 : Hid _ := o1'
    clear SM P2 o2 b2 o1' HXC
    go_wp2_with fail
    refine Calls.mono HSM.out ?_
    rintro e w3 ⟨rfl, nd, rfl⟩
    clear HSM
    go_wp2_with fail
    go_loopw [63] (fun i wx => ∃ j : Nat, j ≤ L ∧ i = .int .i64 j ∧ Own wx (.slice a1 L c1) (fil l 238 j) ∧ Chg (fun k => w.heap.size ≤ k) w2 wx) (fun i _ => L - (intOf i).toNat)
    case atStart => exact ⟨0, Nat.zero_le _, rfl, Own.drewN HO2.out _, drewN_chg _ _ _⟩
    case round =>
      obtain ⟨j, hj, rfl, hown, hch⟩ := hrel
      have hlen : l.length = L := HLen.out.symm
      have hfl : (fil l 238 j).length = L := by rw [fil_len _ _ _ (by omega), hlen]
      by_cases hjl : j < L
      · obtain ⟨g8, hg8⟩ := Own.addr hown (by omega)
        subst hg8
        have hg8b := HB1.out g8 rfl
        obtain ⟨⟨xj, hcj⟩, hfj⟩ : (∃ x, wr.cell? ⟨g8, j, none⟩ = some (.int .u8 x)) ∧ wr.frozen? ⟨g8, j, none⟩ = false := ⟨⟨_, (Own.cellAt hown j (by omega)).1⟩, (Own.cellAt hown j (by omega)).2⟩
        have R1 : Hid _ := Own.store hown j 238
        have R2 : Hid _ := hch.setCell (p := ⟨g8, j, none⟩) (.inl (by show w.heap.size ≤ g8; omega)) (.int .u8 238)
        have R3 : Hid _ := fil_set l 238 j (by omega)
        clear hown hch hlen hfl
        go_wp2_with fail
        go_roundw
        case rel => exact ⟨j + 1, by omega, by go_num, by rw [← R3.out]; exact R1.out, R2.out⟩
        case measure => simp [intOf]; omega
      · have hje : j = L := by omega
        subst hje
        have HM : Hid _ := marked_any hown (by rw [hfl]; omega)
        have HC : Hid _ := hch
        clear hown hch hlen hfl hjl
        go_wp2_with fail
        refine Calls.mono HM.out ?_
        rintro e w5 ⟨rfl, c5⟩
        have R5 : Hid _ := DP.later R.out hpp hqq HTV.out HXV.out (HC.out.trans c5 (fun k e => .inl (Nat.le_of_lt (HB1.out k e.symm)))) (fun _ h => h)
        clear c5
        go_wp2_with fail
        go_ret
        exact ⟨rfl, R5.out⟩
  by_cases h6 : kind = 6
  · subst h6
    have hbnd := textS_b a err mm hTb
    obtain ⟨l, hl⟩ : ∃ l, l = (textS T a err mm).1 := ⟨_, rfl⟩
    rw [← hl] at hbnd
    have RC := rText_any H.out.r mm hm2 hm1
    rw [← hl] at RC
    have HRC : Hid _ := RC
    have HLL : Hid _ := hl
    clear RC hl
    go_enter Try.func22, Try.ntmps22
    go_wp2_with fail
    refine Calls.mono HRC.out ?_
    rintro e w1 ⟨s1, rfl, o1, P1, b1⟩
    have hc1 := P1.2.cell_some hc3 (by show ¬ w.heap.size = p; omega)
    have XC := xText_any (Duo.snd H.out P1) mm hm2
    rw [← HLL.out] at XC
    have HXC : Hid _ := XC
    have HP1 : Hid _ := P1
    obtain ⟨L, hL⟩ : ∃ L, L = l.length := ⟨_, rfl⟩
    obtain ⟨a1, c1, hs1⟩ := Own.form o1
    rw [← hL] at hs1
    subst hs1
    have hb1 : ∀ k, (Value.slice a1 L c1).ownBlock = some k → w.heap.size < k := fun k hk => by have := b1 k hk; simp at this; omega
    have HO1 : Hid _ := o1
    have HB1 : Hid _ := hb1
    have HLen : Hid _ := hL
    have hLb : L + 120 ≤ 140737488355328 := by omega
    clear XC P1 o1 b1 hb1 HRC hL
    go_wp2_with fail
    refine Calls.mono HXC.out ?_
    rintro e w2 ⟨s2, rfl, o2, P2, b2⟩
    have R : Hid _ := DP.alloc (Duo.both H.out HP1.out P2)
    have o1' := Own.kept HO1.out P2.2 (fun k hk e => by have := HB1.out k hk; omega)
    have SM := same_any (Own.src o1') (Own.src o2) (by omega) (by omega)
    rw [decide_eq_true (rfl : l = l)] at SM
    obtain ⟨a2, c2, hs2⟩ := Own.form o2
    rw [← HLen.out] at hs2
    subst hs2
    have HSM : Hid _ := SM
    have HO2 : Hid _ := o1'
    clear SM P2 o2 b2 o1' HXC
    go_wp2_with fail
    refine Calls.mono HSM.out ?_
    rintro e w3 ⟨rfl, nd, rfl⟩
    clear HSM
    go_wp2_with fail
    go_loopw [89] (fun i wx => ∃ j : Nat, j ≤ L ∧ i = .int .i64 j ∧ Own wx (.slice a1 L c1) (fil l 221 j) ∧ Chg (fun k => w.heap.size ≤ k) w2 wx) (fun i _ => L - (intOf i).toNat)
    case atStart => exact ⟨0, Nat.zero_le _, rfl, Own.drewN HO2.out _, drewN_chg _ _ _⟩
    case round =>
      obtain ⟨j, hj, rfl, hown, hch⟩ := hrel
      have hlen : l.length = L := HLen.out.symm
      have hfl : (fil l 221 j).length = L := by rw [fil_len _ _ _ (by omega), hlen]
      by_cases hjl : j < L
      · obtain ⟨g8, hg8⟩ := Own.addr hown (by omega)
        subst hg8
        have hg8b := HB1.out g8 rfl
        obtain ⟨⟨xj, hcj⟩, hfj⟩ : (∃ x, wr.cell? ⟨g8, j, none⟩ = some (.int .u8 x)) ∧ wr.frozen? ⟨g8, j, none⟩ = false := ⟨⟨_, (Own.cellAt hown j (by omega)).1⟩, (Own.cellAt hown j (by omega)).2⟩
        have R1 : Hid _ := Own.store hown j 221
        have R2 : Hid _ := hch.setCell (p := ⟨g8, j, none⟩) (.inl (by show w.heap.size ≤ g8; omega)) (.int .u8 221)
        have R3 : Hid _ := fil_set l 221 j (by omega)
        clear hown hch hlen hfl
        go_wp2_with fail
        go_roundw
        case rel => exact ⟨j + 1, by omega, by go_num, by rw [← R3.out]; exact R1.out, R2.out⟩
        case measure => simp [intOf]; omega
      · have hje : j = L := by omega
        subst hje
        have HM : Hid _ := marked_any hown (by rw [hfl]; omega)
        have HC : Hid _ := hch
        clear hown hch hlen hfl hjl
        go_wp2_with fail
        refine Calls.mono HM.out ?_
        rintro e w5 ⟨rfl, c5⟩
        have R5 : Hid _ := DP.later R.out hpp hqq HTV.out HXV.out (HC.out.trans c5 (fun k e => .inl (Nat.le_of_lt (HB1.out k e.symm)))) (fun _ h => h)
        clear c5
        go_wp2_with fail
        go_ret
        exact ⟨rfl, R5.out⟩
  by_cases h7 : kind = 7
  · subst h7
    have hq7 := fun w' => eql31 (pad 32 (pL T a err 32)) (pad_len (pL_len T a err 32)) w'
    go_enter Try.func22, Try.ntmps22
    go_wp2_with fail
    refine (rSum_any H.out.r).mono ?_
    rintro e w1 ⟨rfl, P1⟩
    have HP1 : Hid _ := P1
    clear P1
    go_wp2_with fail
    refine (xSum_any (Duo.snd H.out HP1.out)).mono ?_
    rintro e w2 ⟨rfl, P2⟩
    have R : Hid _ := DP.alloc (Duo.both H.out HP1.out P2)
    clear P2
    go_wp2_with fail
    go_ret
    exact ⟨rfl, R.out⟩
  by_cases h8 : kind = 8
  · subst h8
    have hq8 := fun w' => eql33 (pad 33 (pL T a err 33)) (pad_len (pL_len T a err 33)) w'
    go_enter Try.func22, Try.ntmps22
    go_wp2_with fail
    refine (rAddr_any H.out.r).mono ?_
    rintro e w1 ⟨rfl, P1⟩
    have HP1 : Hid _ := P1
    clear P1
    go_wp2_with fail
    refine (xAddr_any (Duo.snd H.out HP1.out)).mono ?_
    rintro e w2 ⟨rfl, P2⟩
    have R : Hid _ := DP.alloc (Duo.both H.out HP1.out P2)
    clear P2
    go_wp2_with fail
    go_ret
    exact ⟨rfl, R.out⟩
  by_cases h10 : kind = 10
  · subst h10
    go_enter Try.func22, Try.ntmps22
    go_wp2_with fail
    refine (rFail_any H.out.r _).mono ?_
    rintro e w1 ⟨rfl, P1⟩
    have hc1 := P1.2.cell_some hc2 (by show ¬ w.heap.size = p; omega)
    have HP1 : Hid _ := P1
    clear P1
    go_wp2_with fail
    refine (xFail_any (Duo.snd H.out HP1.out) _).mono ?_
    rintro e w2 ⟨rfl, P2⟩
    have R : Hid _ := DP.alloc (Duo.both H.out HP1.out P2)
    clear P2
    go_wp2_with fail
    go_ret
    exact ⟨rfl, R.out⟩
  by_cases h9 : kind = 9
  · subst h9
    have HD : Hid (∀ j, Duo ((w.alloc (.cells (stp 9 who n mm b z nth).toArray 35)).drewN j) p q tv xv T a err) := fun j => Duo.keep0 H.out (below_drewN (Below.refl _ _) j)
    have hq2 : ∀ j, ((w.alloc (.cells (stp 9 who n mm b z nth).toArray 35)).drewN j).cell? ⟨q, 2, none⟩ = some (.int .i64 err) := fun j => RS.c2 (HD.out j).x
    go_enter Try.func22, Try.ntmps22
    go_upto_region 36 with fail
    go_quiet ((first | (go_at_call 77; exact Calls.quiet_of (rLeft_any (HD.out _).r)) | (go_at_call 78; exact Calls.quiet_of (xLeft_any (HD.out _).x)) | (go_at_call 79; exact Calls.quiet_of_same (rErr_any (HD.out _).r)) | (go_at_call 80; exact Calls.quiet_of (rEnd_any (HD.out _).r)) | (go_at_call 81; exact Calls.quiet_of (xEnd_any (HD.out _).x))))
    go_wp2_with fail
    go_ret
    refine ⟨by simp, DP.alloc ⟨a, err, HD.out _, drewN_chg _ _ _⟩⟩
  go_enter Try.func22, Try.ntmps22
  go_wp2_with fail
  go_ret
  exact ⟨rfl, DP.alloc ⟨a, err, H.out, Chg.refl _ _⟩⟩
end Go.Proofs.Ytibcpokfgogopaa
