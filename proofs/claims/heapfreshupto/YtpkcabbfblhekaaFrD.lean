/-
  HeapFresh walked.
-/
import Derived.Test.YtpkcabbfblhekaaFrF
namespace Go.Proofs.Ytpkcabbfblhekaa
open Go.RowKit

theorem chg_none {w w' : World} {v : Value} (hv : v.ownBlock = none) (k : Chg (fun k => some k = v.ownBlock) w w') : Chg (fun _ => False) w w' := k.mono (fun i _ e => by rw [hv] at e; cases e)
theorem fresh_none {w : World} {v v' : Value} (hv : v.ownBlock = none) (hb : v'.ownBlock = v.ownBlock ∨ v'.ownBlock = some w.heap.size) : ∀ k, v'.ownBlock = some k → w.heap.size ≤ k := fun k hk => by
  rcases hb with e | e
  · rw [hk, hv] at e; cases e
  · rw [hk] at e
    have : k = w.heap.size := by simpa using e
    omega

theorem lt_app {fx : List (Nat × Value)} {b : Nat} (x : Value) (h : ∀ y ∈ fx, y.1 < b) : ∀ y ∈ fx ++ [(b, x)], y.1 < b + 1 := fun y hy => by
  rcases List.mem_append.1 hy with hy | hy
  · exact Nat.lt_succ_of_lt (h y hy)
  · obtain rfl := List.mem_singleton.1 hy
    exact Nat.lt_succ_self _
theorem ne_two {fx : List (Nat × Value)} {b d0 d1 : Nat} (h : ∀ y ∈ fx, y.1 < b) (h0 : b ≤ d0) (h1 : b ≤ d1) : ∀ x ∈ fx, x.1 ≠ d0 ∧ x.1 ≠ d1 := fun x hx => by have := h x hx; omega
theorem ne_three {fx : List (Nat × Value)} {b d0 d1 : Nat} (h : ∀ y ∈ fx, y.1 < b) (h0 : b ≤ d0) (h1 : b ≤ d1) : ∀ x ∈ fx, x.1 ≠ d0 ∧ x.1 ≠ d1 ∧ x.1 ≠ b := fun x hx => by have := h x hx; omega

set_option maxRecDepth 100000 in
set_option maxHeartbeats 8000000 in
theorem fresh_any {W : World} {s : Value} {L : List (Int × Int)} (hL : Ths W s L) (hl : L.length ≤ 1048576) (n : Int) :
    Calls Try.prog 8 #[s, .int .i64 n] W fun e w' => e = .returned (.bool true) ∧ Below W.heap.size W w' := by
  obtain ⟨v1, w1, r1, o1, c1, b1⟩ := run_app2 W 28 (OwnT.nil W) hL (by simp; omega)
  rw [List.nil_append] at o1
  have k1 := chg_none rfl c1
  obtain ⟨sa, sc, e1⟩ := hL.form
  obtain ⟨N, hN⟩ : ∃ N, N = L.length := ⟨_, rfl⟩
  rw [← hN] at hl e1
  subst e1
  obtain ⟨S, hS⟩ : ∃ S, S = srt false L.length L := ⟨_, rfl⟩
  have hSl : S.length = N := by rw [hS, srt_len, hN]
  have up : Up S := by rw [hS]; exact up_srt L
  have RS := refsort_any o1.tc (by omega) false
  rw [← hS] at RS
  have R1 : Hid _ := r1
  have RS1 : Hid _ := RS
  have F0 : Hid (FS W w1 []) := (FS.nil W).keep k1
  obtain ⟨a1, c1', e1⟩ := o1.form
  rw [← hN] at e1
  subst e1
  have HSL : Hid _ := hSl
  have UP : Hid _ := up
  clear hL o1 c1 b1 r1 RS hS k1 hSl up hN
  go_enter Try.func8, Try.ntmps8
  go_upto_region 3 with (at_builtin; refine wpList_app2 rfl (.tmp 19) (.tmp 20) rfl rfl rfl R1.out ?_)
  go_wp2_with fail
  refine Calls.mono RS1.out ?_
  rintro e w2 ⟨v2, rfl, o2, k2, fr2⟩
  have f2 := F0.out.add k2 (En.one v2 S) o2 (fun u hu j hj => by obtain rfl := List.mem_singleton.1 hu; exact fr2 j hj)
  obtain ⟨v3, w3, r3, o3, c3, b3⟩ := run_app2 w2 28 (OwnT.nil w2) o2.ths (by have := HSL.out; simp; omega)
  rw [List.nil_append] at o3
  have f3 := f2.add (chg_none rfl c3) (En.one v3 S) o3 (fun u hu j hj => by obtain rfl := List.mem_singleton.1 hu; exact fresh_none rfl b3 j hj)
  obtain ⟨a2, c2, e2⟩ := o2.form
  obtain ⟨a3, c3', e3⟩ := o3.form
  rw [HSL.out] at e2 e3
  subst e2 e3
  have R3 : Hid _ := r3
  have F3 : Hid _ := f3
  obtain ⟨kk, hkk⟩ : ∃ kk : Nat, (kk : Int) = max (min n N) 0 := ⟨(max (min n N) 0).toNat, by omega⟩
  have hkN : kk ≤ N := by omega
  obtain ⟨hh, hhh⟩ : ∃ hh, hh = N / 2 := ⟨_, rfl⟩
  have hhN : hh ≤ N := by omega
  have mm : (if (N : Int) < (if n < 0 then 0 else n) then (N : Int) else (if n < 0 then 0 else n)) = (kk : Int) := by
    by_cases h8 : n < 0
    · rw [if_pos h8, if_neg (by omega)]; omega
    · rw [if_neg h8]
      by_cases h7 : (N : Int) < n
      · rw [if_pos h7]; omega
      · rw [if_neg h7]; omega
  have MM : Hid _ := mm
  have KK : Hid _ := hkk
  have m8 : (N : Int) / 2 = (hh : Int) := by omega
  have M8 : Hid _ := m8
  have w8 : IntKind.i64.wrap (hh : Int) = (hh : Int) := by rw [IntKind.wrap_i64]; omega
  have W8 : Hid _ := w8
  clear R1 RS1 F0 o2 k2 fr2 f2 r3 o3 c3 b3 f3 mm m8 hkk hhh w8
  go_upto_region 7 with (at_builtin; refine wpList_app2 rfl (.tmp 24) (.tmp 25) rfl rfl rfl R3.out ?_)
  rw [MM.out]
  generalize (if n < 0 then (0 : Int) else n) = zn
  go_upto_region 8 with fail
  rw [M8.out]
  have u : Up S := UP.out
  have sl := HSL.out
  have f3 : FS W w3 [En.one (.slice a2 N c2) S, En.one (.slice a3 N c3') S] := F3.out
  have lk : (S.take kk).length = kk := by rw [List.length_take]; omega
  have lh : (S.take hh).length = hh := by rw [List.length_take]; omega
  have LK : Hid _ := lk
  have LH : Hid _ := lh
  have cp2 : N ≤ c2 := (f3.own 0 rfl).tc.cap _ _ _ rfl
  have cp3 : N ≤ c3' := (f3.own 1 rfl).tc.cap _ _ _ rfl
  have q2 : (hh : Int) ≤ (c2 : Int) := by omega
  have q3 : (hh : Int) ≤ (c3' : Int) := by omega
  have q4 : (kk : Int) ≤ (c3' : Int) := by omega
  have S8 : Hid _ := f3.sort (f3.own 0 rfl).ths u (by omega)
  clear lk lh sl u f3 F3
  go_wp2_with fail
  refine Calls.mono S8.out ?_
  rintro e w4 ⟨v4, rfl, f4⟩
  obtain ⟨a4, c4, e4⟩ := (f4.own 2 rfl).form
  rw [HSL.out] at e4
  subst e4
  have S9 : Hid _ := f4.least (f4.own 0 rfl).ths UP.out (by rw [HSL.out]; exact hl) n kk (by rw [HSL.out]; exact KK.out)
  clear f4 S8
  go_wp2_with fail
  refine Calls.mono S9.out ?_
  rintro e w5 ⟨v5, rfl, f5⟩
  obtain ⟨a5, c5, e5⟩ := (f5.own 3 rfl).form
  rw [LK.out] at e5
  subst e5
  have S10 : Hid _ := f5.sort (own_pre (f5.own 0 rfl) (kk := hh) (by rw [HSL.out]; exact hhN)) (Up.take UP.out hh) (by rw [LH.out]; omega)
  clear f5 S9
  go_wp2_with fail
  refine Calls.mono S10.out ?_
  rintro e w6 ⟨v6, rfl, f6⟩
  obtain ⟨a6, c6, e6⟩ := (f6.own 4 rfl).form
  rw [LH.out] at e6
  subst e6
  have S11 : Hid _ := f6.sort (f6.own 0 rfl).ths UP.out (by rw [HSL.out]; exact hl)
  clear f6 S10
  go_wp2_with fail
  refine Calls.mono S11.out ?_
  rintro e w7 ⟨v7, rfl, f7⟩
  obtain ⟨a7, c7, e7⟩ := (f7.own 5 rfl).form
  rw [HSL.out] at e7
  subst e7
  have S12 : Hid _ := f7.least (f7.own 0 rfl).ths UP.out (by rw [HSL.out]; exact hl) n kk (by rw [HSL.out]; exact KK.out)
  clear f7 S11
  go_wp2_with fail
  refine Calls.mono S12.out ?_
  rintro e w8 ⟨v8, rfl, f8⟩
  obtain ⟨a8, c8, e8⟩ := (f8.own 6 rfl).form
  rw [LK.out] at e8
  subst e8
  have f8' : FS W w8 [En.one (.slice a2 N c2) S, En.one (.slice a3 N c3') S, En.one (.slice a4 N c4) S, En.one (.slice a5 kk c5) (S.take kk), En.one (.slice a6 hh c6) (S.take hh), En.one (.slice a7 N c7) S, En.one (.slice a8 kk c8) (S.take kk)] := f8
  have F8 : Hid _ := f8'
  clear f8 f8' S12
  go_upto_region 13 with fail
  rename_i K1 hK1 K2 hK2
  have sl := HSL.out
  have sk := LK.out
  have sh := LH.out
  refine regT (W := W) (n := n) (a2 := a2) (c2 := c2)
    (fun w h => h.same (h.own 2 rfl).ths (h.own 1 rfl).ths (by omega))
    (fun w h => h.same (h.own 5 rfl).ths (h.own 1 rfl).ths (by omega))
    (fun w h => h.same (h.own 4 rfl).ths (own_pre (h.own 1 rfl) (kk := hh) (by omega)) (by omega))
    (fun w h => h.same (h.own 3 rfl).ths (own_pre (h.own 1 rfl) (kk := kk) (by omega)) (by omega))
    (fun w h => h.same (h.own 6 rfl).ths (h.own 3 rfl).ths (by omega))
    q3 q4 F8.out ⟨rfl, rfl, fun x hx => ?_⟩ ?_
  · simp only [List.mem_cons, List.not_mem_nil, or_false] at hx
    rcases hx with rfl | rfl | rfl | rfl | rfl | rfl | rfl | rfl | rfl | rfl <;> rfl
  intro b w9 fb b4 f9
  refine hK2 b w9 ?_
  refine wp_cond_false b4 ?_
  refine wp_skip ?_
  refine hK1 b w9 ?_
  obtain ⟨fx, hfx⟩ : ∃ fx : List (Nat × Value), fx = [(1, .int .i64 n), (5, .slice a2 N c2), (6, .slice a3 N c3'), (7, .int .i64 kk), (8, .int .i64 hh), (9, .slice a4 N c4), (10, .slice a5 kk c5), (11, .slice a6 hh c6), (12, .slice a7 N c7), (13, .slice a8 kk c8)] := ⟨_, rfl⟩
  rw [← hfx] at fb
  have l14 : ∀ y ∈ fx, y.1 < 14 := by
    rw [hfx]
    intro x hx
    simp only [List.mem_cons, List.not_mem_nil, or_false] at hx
    rcases hx with rfl | rfl | rfl | rfl | rfl | rfl | rfl | rfl | rfl | rfl <;> simp
  have m9 : (9, Value.slice a4 N c4) ∈ fx := by rw [hfx]; simp
  have m10 : (10, Value.slice a5 kk c5) ∈ fx := by rw [hfx]; simp
  have m11 : (11, Value.slice a6 hh c6) ∈ fx := by rw [hfx]; simp
  have m12 : (12, Value.slice a7 N c7) ∈ fx := by rw [hfx]; simp
  have m13 : (13, Value.slice a8 kk c8) ∈ fx := by rw [hfx]; simp
  refine wp_seq ?_
  refine regM (src := 9) (fx := fx) rfl (by decide) (ne_two l14 (by decide) (by decide)) m9 (f9.mark 2 rfl (-1000) (by decide) (by omega)) fb ?_
  intro b20 w20 fb20 g20
  rw [sl] at g20
  have f20 : FS W w20 [En.one (.slice a2 N c2) S, En.one (.slice a3 N c3') S, En.one (.slice a4 N c4) (mkL (-1000) N), En.one (.slice a5 kk c5) (S.take kk), En.one (.slice a6 hh c6) (S.take hh), En.one (.slice a7 N c7) (S), En.one (.slice a8 kk c8) (S.take kk)] := g20
  clear g20
  refine wp_seq ?_
  refine regM (src := 10) (fx := fx) rfl (by decide) (ne_two l14 (by decide) (by decide)) m10 (f20.mark 3 rfl (-2000) (by decide) (by omega)) fb20 ?_
  intro b21 w21 fb21 g21
  rw [sk] at g21
  have f21 : FS W w21 [En.one (.slice a2 N c2) S, En.one (.slice a3 N c3') S, En.one (.slice a4 N c4) (mkL (-1000) N), En.one (.slice a5 kk c5) (mkL (-2000) kk), En.one (.slice a6 hh c6) (S.take hh), En.one (.slice a7 N c7) (S), En.one (.slice a8 kk c8) (S.take kk)] := g21
  clear g21
  refine wp_seq ?_
  refine regM (src := 11) (fx := fx) rfl (by decide) (ne_two l14 (by decide) (by decide)) m11 (f21.mark 4 rfl (-3000) (by decide) (by omega)) fb21 ?_
  intro b22 w22 fb22 g22
  rw [sh] at g22
  have f22 : FS W w22 [En.one (.slice a2 N c2) S, En.one (.slice a3 N c3') S, En.one (.slice a4 N c4) (mkL (-1000) N), En.one (.slice a5 kk c5) (mkL (-2000) kk), En.one (.slice a6 hh c6) (mkL (-3000) hh), En.one (.slice a7 N c7) (S), En.one (.slice a8 kk c8) (S.take kk)] := g22
  clear g22
  refine wp_seq ?_
  refine regM (src := 12) (fx := fx) rfl (by decide) (ne_two l14 (by decide) (by decide)) m12 (f22.mark 5 rfl (-4000) (by decide) (by omega)) fb22 ?_
  intro b23 w23 fb23 g23
  rw [sl] at g23
  have f23 : FS W w23 [En.one (.slice a2 N c2) S, En.one (.slice a3 N c3') S, En.one (.slice a4 N c4) (mkL (-1000) N), En.one (.slice a5 kk c5) (mkL (-2000) kk), En.one (.slice a6 hh c6) (mkL (-3000) hh), En.one (.slice a7 N c7) (mkL (-4000) N), En.one (.slice a8 kk c8) (S.take kk)] := g23
  clear g23
  refine wp_seq ?_
  refine regM (src := 13) (fx := fx) rfl (by decide) (ne_two l14 (by decide) (by decide)) m13 (f23.mark 6 rfl (-5000) (by decide) (by omega)) fb23 ?_
  intro b24 w24 fb24 g24
  rw [sk] at g24
  have f24 : FS W w24 [En.one (.slice a2 N c2) S, En.one (.slice a3 N c3') S, En.one (.slice a4 N c4) (mkL (-1000) N), En.one (.slice a5 kk c5) (mkL (-2000) kk), En.one (.slice a6 hh c6) (mkL (-3000) hh), En.one (.slice a7 N c7) (mkL (-4000) N), En.one (.slice a8 kk c8) (mkL (-5000) kk)] := g24
  clear g24
  refine wp_seq ?_
  refine regG (src := 9) (d2 := 14) rfl (by decide) (by decide) (by decide) (ne_three l14 (by decide) (by decide)) m9 (f24.grow 2 rfl (-10) (by rw [mkL_len]; omega)) fb24 ?_
  intro b30 x0 w30 fb30 g30
  have f30 : FS W w30 [En.one (.slice a2 N c2) S, En.one (.slice a3 N c3') S, En.two (.slice a4 N c4) x0 (mkL (-1000) N) (rpL (-10) 64), En.one (.slice a5 kk c5) (mkL (-2000) kk), En.one (.slice a6 hh c6) (mkL (-3000) hh), En.one (.slice a7 N c7) (mkL (-4000) N), En.one (.slice a8 kk c8) (mkL (-5000) kk)] := g30
  clear g30
  have l15 := lt_app x0 l14
  refine wp_seq ?_
  refine regG (src := 10) (d2 := 15) rfl (by decide) (by decide) (by decide) (ne_three l15 (by decide) (by decide)) (List.mem_append_left _ (m10)) (f30.grow 3 rfl (-20) (by rw [mkL_len]; omega)) fb30 ?_
  intro b31 x1 w31 fb31 g31
  have f31 : FS W w31 [En.one (.slice a2 N c2) S, En.one (.slice a3 N c3') S, En.two (.slice a4 N c4) x0 (mkL (-1000) N) (rpL (-10) 64), En.two (.slice a5 kk c5) x1 (mkL (-2000) kk) (rpL (-20) 64), En.one (.slice a6 hh c6) (mkL (-3000) hh), En.one (.slice a7 N c7) (mkL (-4000) N), En.one (.slice a8 kk c8) (mkL (-5000) kk)] := g31
  clear g31
  have l16 := lt_app x1 l15
  refine wp_seq ?_
  refine regG (src := 11) (d2 := 16) rfl (by decide) (by decide) (by decide) (ne_three l16 (by decide) (by decide)) (List.mem_append_left _ (List.mem_append_left _ (m11))) (f31.grow 4 rfl (-30) (by rw [mkL_len]; omega)) fb31 ?_
  intro b32 x2 w32 fb32 g32
  have f32 : FS W w32 [En.one (.slice a2 N c2) S, En.one (.slice a3 N c3') S, En.two (.slice a4 N c4) x0 (mkL (-1000) N) (rpL (-10) 64), En.two (.slice a5 kk c5) x1 (mkL (-2000) kk) (rpL (-20) 64), En.two (.slice a6 hh c6) x2 (mkL (-3000) hh) (rpL (-30) 64), En.one (.slice a7 N c7) (mkL (-4000) N), En.one (.slice a8 kk c8) (mkL (-5000) kk)] := g32
  clear g32
  have l17 := lt_app x2 l16
  refine wp_seq ?_
  refine regG (src := 12) (d2 := 17) rfl (by decide) (by decide) (by decide) (ne_three l17 (by decide) (by decide)) (List.mem_append_left _ (List.mem_append_left _ (List.mem_append_left _ (m12)))) (f32.grow 5 rfl (-40) (by rw [mkL_len]; omega)) fb32 ?_
  intro b33 x3 w33 fb33 g33
  have f33 : FS W w33 [En.one (.slice a2 N c2) S, En.one (.slice a3 N c3') S, En.two (.slice a4 N c4) x0 (mkL (-1000) N) (rpL (-10) 64), En.two (.slice a5 kk c5) x1 (mkL (-2000) kk) (rpL (-20) 64), En.two (.slice a6 hh c6) x2 (mkL (-3000) hh) (rpL (-30) 64), En.two (.slice a7 N c7) x3 (mkL (-4000) N) (rpL (-40) 64), En.one (.slice a8 kk c8) (mkL (-5000) kk)] := g33
  clear g33
  have l18 := lt_app x3 l17
  refine wp_seq ?_
  refine regG (src := 13) (d2 := 18) rfl (by decide) (by decide) (by decide) (ne_three l18 (by decide) (by decide)) (List.mem_append_left _ (List.mem_append_left _ (List.mem_append_left _ (List.mem_append_left _ (m13))))) (f33.grow 6 rfl (-50) (by rw [mkL_len]; omega)) fb33 ?_
  intro b34 x4 w34 fb34 g34
  have f34 : FS W w34 [En.one (.slice a2 N c2) S, En.one (.slice a3 N c3') S, En.two (.slice a4 N c4) x0 (mkL (-1000) N) (rpL (-10) 64), En.two (.slice a5 kk c5) x1 (mkL (-2000) kk) (rpL (-20) 64), En.two (.slice a6 hh c6) x2 (mkL (-3000) hh) (rpL (-30) 64), En.two (.slice a7 N c7) x3 (mkL (-4000) N) (rpL (-40) 64), En.two (.slice a8 kk c8) x4 (mkL (-5000) kk) (rpL (-50) 64)] := g34
  clear g34
  have l19 := lt_app x4 l18
  rw [hfx] at fb34
  refine wp_seq ?_
  refine wp_seq ?_
  refine regU (W := W) (n := n) (hh := hh) (kk := kk)
    (fun w h => h.same (h.own 0 rfl).ths (h.own 1 rfl).ths (by omega))
    (fun w h => h.stand 2 rfl (by omega) (by decide) (by decide))
    (fun w h => h.stand 3 rfl (by omega) (by decide) (by decide))
    (fun w h => h.stand 4 rfl (by omega) (by decide) (by decide))
    (fun w h => h.stand 5 rfl (by omega) (by decide) (by decide))
    (fun w h => h.stand 6 rfl (by omega) (by decide) (by decide))
    f34 fb34 ?_
  intro b40 w40 fb40 b41 f40
  refine wp_cond_false b41 ?_
  refine wp_skip ?_
  refine wp_seq ?_
  refine regX (S := S) (n := n) (kk := kk)
    (fun w' k => (sort_any (od_B false) (oneB_le false) (fB_form false) ((f40.own 0 rfl).ths.keep k (fun _ _ h => h)) (fun _ _ _ h => h) 0 (by omega) trivial (by omega)).mono ?_)
    (fun w' k => (least_any (od_B false) (oneB_le false) (fB_plain false) ((f40.own 0 rfl).ths.keep k (fun _ _ h => h)) (fun _ _ _ h => h) n kk 0 (by rw [sl]; exact KK.out) (by omega) trivial (by omega)).mono ?_)
    (fun w' va o k => same_any o.ths ((f40.own 1 rfl).ths.keep k (fun _ _ h => h)) (by omega))
    (fun w' va o k => same_any o.ths ((own_pre (f40.own 1 rfl) (kk := kk) (by omega)).keep k (fun _ _ h => h)) (by omega))
    q4 ⟨fb40.sz, fb40.df, fun x hx => fb40.fx x ?_⟩ ?_
  · rintro e w'' ⟨v, rfl, o, _, _, ch⟩
    rw [sort_up UP.out] at o
    exact ⟨v, rfl, o, ch⟩
  · rintro e w'' ⟨v, rfl, o, _, _, ch⟩
    rw [least_up UP.out kk (by omega)] at o
    exact ⟨v, rfl, o, ch⟩
  · simp only [List.mem_cons, List.not_mem_nil, or_false] at hx ⊢
    rcases hx with rfl | rfl | rfl | rfl <;> simp
  intro b50 w50 fb50 b51 k50
  refine wp_ret ?_
  show bodyPost Try.prog Try.f8 (fun e w' => e = .returned (.bool true) ∧ Below W.heap.size W w') .ret b50 w50
  refine bodyPost_ret (results_tmp rfl _ _ _) fb50.df ?_
  exact ⟨by rw [b51], (f40.ch.trans k50 (fun _ h => h.elim)).below (Nat.le_refl _) (fun _ h => h.elim)⟩

end Go.Proofs.Ytpkcabbfblhekaa
