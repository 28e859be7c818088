/-
  The walk of HeapDrains.
-/
import Derived.Test.YtbfbjjfjeiihbaaDrE
import Derived.Test.YtbfbjjfjeiihbaaRfR
namespace Go.Proofs.Ytbfbjjfjeiihbaa
open Go.RowKit Go.Shelf
attribute [local go_sem] Oper.semAt_some

theorem Chg.drewm {S : Nat → Prop} {a w : World} (h : Chg S a w) (n : Nat) : Chg S a (w.drewN n) := ⟨h.os, h.tape, h.output, h.size, h.block⟩

theorem meas {A B h h' m K : Nat} (e : B = A + 1) (hh : h' < K) (hm : B * K + h < m) : A * K + h' < m := by
  subst e
  rw [Nat.succ_mul] at hm
  omega

set_option maxRecDepth 100000 in
set_option maxHeartbeats 8000000 in
theorem drains_any {W : World} {s : Value} {L : List (Int × Int)} (hL : Ths W s L) {ra : Option Addr} {M rc : Nat} {rs : Nat → Int} (hr : Ins W ra M rs) {a : Option Addr} {N cap : Nat} {st : Nat → Tn} {bud : Nat → Nat} (hs : Scr W a N st bud) (hb : L.length ≤ 1048576) :
    Calls Try.prog 7 #[s, .slice ra M rc, .slice a N cap] W fun e w' => e = .returned (.bool true) ∧ Below W.heap.size W w' := by
  obtain ⟨sa, sc, rfl⟩ := hL.form
  have HS : Hid _ := hs
  have HR : Hid _ := hr
  have HL : Hid (Ths _ _ _) := hL
  have hN : N ≤ 1048576 := hs.len
  have hM : M ≤ 1048576 := hr.len
  have NW : Hid _ := fun w => new_any (f := fB false) (.inr ⟨11, _, rfl⟩) w
  unfold fB at NW
  simp only [Bool.false_eq_true, if_false] at NW
  clear hs hr hL
  refine callsIn_wide.1 (callsIn_of_wp_marks (n := 0) Try.func7 rfl trivial (wpIn_wide.2 ?_))
  simp only [Try.ntmps7, List.size_toArray, List.length_cons, List.length_nil, Nat.reduceAdd, Nat.reduceSub, Array.replicate_succ, Array.replicate_zero, List.push_toArray, List.append_toArray, List.nil_append, List.cons_append]
  go_wp2_with fail
  refine Calls.mono (NW.out _) ?_
  rintro e w1 ⟨rfl, hq1, ch1⟩
  have hp0 : (((W.alloc (.cells #[.slice ra M rc] 39)).alloc (.cells #[.slice a N cap] 22)).alloc (.cells #[.bool false] 4)).heap.size = W.heap.size + 3 := by simp
  rw [hp0] at hq1 ⊢
  have dx1 := DX.made ch1
  have hlt1 := hq1.lt
  have hnv : ∀ (b : Nat) k, (Value.slice none 0 0).ownBlock = some k → k < b := fun b k hk => by simp [Value.ownBlock] at hk
  have dx2 := dx1.box [.pointer (some ⟨W.heap.size + 3, 0, none⟩)] 23 (by simp) hlt1 (hnv _) (hnv _)
  have dx3 := dx2.box [.slice none 0 0] 28 (by simp) (by simp; omega) (hnv _) (hnv _)
  rw [World.size_alloc] at dx3
  simp only [List.cons_append, List.nil_append] at dx3
  have hc3 : Chg (fun _ => False) w1 ((w1.alloc (.cells #[.pointer (some ⟨W.heap.size + 3, 0, none⟩)] 23)).alloc (.cells #[.slice none 0 0] 28)) := ((Chg.refl _ _).alloc _).alloc _
  obtain ⟨w3, hw3⟩ : ∃ w3, w3 = (w1.alloc (.cells #[.pointer (some ⟨W.heap.size + 3, 0, none⟩)] 23)).alloc (.cells #[.slice none 0 0] 28) := ⟨_, rfl⟩
  have hq3 := hq1.keep hc3 (fun h => h) (fun _ _ h => h)
  have e7 : ((w1.alloc (.cells #[.pointer (some ⟨W.heap.size + 3, 0, none⟩)] 23)).alloc (.cells #[.slice none 0 0] 28)).heap.size = w1.heap.size + 2 := by simp
  rw [← hw3] at dx3 hc3 hq3 e7
  have th3 := Ths.keep HL.out dx3.ch (fun _ _ h => h)
  obtain ⟨v4, w4, hr4, ho4, hc4, hv4⟩ := run_app2 w3 28 (OwnT.nil w3) th3 (by simp; omega)
  rw [List.nil_append] at ho4
  have hC4 : Chg (fun _ => False) w3 w4 := hc4.mono (fun k _ e => by simp [Value.ownBlock] at e)
  have hv4' : ∀ k, v4.ownBlock = some k → w3.heap.size ≤ k := fun k hk => by
    rcases hv4 with e | e
    · rw [hk] at e; simp [Value.ownBlock] at e
    · rw [hk] at e
      have : k = w3.heap.size := by simpa using e
      omega
  obtain ⟨a4, c4, hf4⟩ := ho4.form
  subst hf4
  have dx4 := (dx3.list (lv' := .slice a4 L.length c4) (by simp) (fun k hk => .inr (hv4' k hk))).keep hC4
  have hq4 := hq3.keep hC4 (fun h => h) (fun _ _ h => h)
  have hB8 := dx4.at 4 rfl
  have f8 := hB8.fr 0
  have c8 : w4.cell? ⟨w1.heap.size + 1, 0, none⟩ = some (.slice none 0 0) := hB8.cell 0
  have hB7 := dx4.at 3 rfl
  have c7 : w4.cell? ⟨w1.heap.size, 0, none⟩ = some (.pointer (some ⟨W.heap.size + 3, 0, none⟩)) := hB7.cell 0
  have dx5 := dx4.store 4 (o := 0) rfl (.slice a4 L.length c4)
  have hS5 : Chg (fun k => k = w1.heap.size + 1) w4 (w4.setCell ⟨w1.heap.size + 1, 0, none⟩ (.slice a4 L.length c4)) := (Chg.refl (fun k => k = w1.heap.size + 1) _).setCell (p := ⟨w1.heap.size + 1, 0, none⟩) (.inl rfl) _
  have hq5 := hq4.keep hS5 (fun e => by have : W.heap.size + 3 = w1.heap.size + 1 := e; omega) (fun k hk => by simp [Value.ownBlock] at hk)
  have hv5 : (Value.slice a4 L.length c4).ownBlock ≠ some (W.heap.size + 3) := fun e => by have := hv4' _ e; omega
  have ho5 : OwnT (w4.setCell ⟨w1.heap.size + 1, 0, none⟩ (.slice a4 L.length c4)) (.slice a4 L.length c4) L := ho4.keep hS5 (fun k hk e => by have := hv4' k hk; omega)
  have W3 : Hid _ := hw3
  have DX5 : Hid _ := dx5
  have HQ5 : Hid _ := hq5
  have HO5 : Hid (OwnT _ _ _) := ho5
  have HV5 : Hid _ := hv5
  have HP0 : Hid _ := hlt1
  clear dx5 hq5 ho5 hv5 dx1 dx2 dx3 dx4 hq1 hq3 hq4 th3 hc3 ho4 hc4 hC4 hv4 hv4' hB8 hB7 hS5 ch1 hp0 NW hnv e7 hw3 hlt1
  have R4 : Hid _ := hr4
  clear hr4
  go_wp2_with (at_builtin; rw [← W3.out]; refine wpList_app2 rfl (.tmp 22) (.tmp 23) rfl rfl rfl R4.out ?_)
  have hlow := fun k hne hk => Ths.low HL.out hne k hk
  have hs5 : W.heap.size + 3 < (w4.setCell ⟨w1.heap.size + 1, 0, none⟩ (.slice a4 L.length c4)).heap.size := HQ5.out.lt
  refine Calls.mono (push_any (od_B false) HQ5.out (fun h => h) (fun _ _ h => h) 0 (Ths.keep HL.out DX5.out.ch (fun _ _ h => h)) (fun k hne hk => by
    have := hlow k hne hk
    exact ⟨by omega, by simp [Value.ownBlock], fun h => h, by omega⟩) (by simp; omega) (by omega) trivial (by omega) (oneB_le false)) ?_
  rintro e w6 ⟨rfl, hst⟩
  obtain ⟨v6, ts6, ch6, hv6⟩ := ts_pushed hst HO5.out HV5.out
  have dx6 := DX5.out.turn (v' := v6) (lv' := .slice a4 L.length c4) (ch6.mono (fun k _ e => .inl e)) (by simp) (fun k hk => .inr (hv6 k hk)) (fun k hk => .inl hk)
  simp only [List.set_cons_succ, List.set_cons_zero] at dx6
  have d7 : w6.cell? ⟨w1.heap.size, 0, none⟩ = some (.pointer (some ⟨W.heap.size + 3, 0, none⟩)) := (dx6.at 3 rfl).cell 0
  have dx7 := dx6.box [.pointer (some ⟨W.heap.size + 3, 0, none⟩)] 23 (by simp) ts6.hq.lt ts6.hq.vlt (fun k hk => ts6.own.lt hk)
  have ts7 := ts6.keep ((Chg.refl _ _).alloc (.cells #[.pointer (some ⟨W.heap.size + 3, 0, none⟩)] 23))
  have dx8 := dx7.box [.int .i64 0] 3 (by simp) ts7.hq.lt ts7.hq.vlt (fun k hk => ts7.own.lt hk)
  have ts8 := ts7.keep ((Chg.refl _ _).alloc (.cells #[.int .i64 0] 3))
  have dx9 := dx8.box [.int .i64 0] 3 (by simp) ts8.hq.lt ts8.hq.vlt (fun k hk => ts8.own.lt hk)
  have ts9 := ts8.keep ((Chg.refl _ _).alloc (.cells #[.int .i64 0] 3))
  simp only [List.cons_append, List.nil_append, World.size_alloc] at dx9
  have DR : Hid _ := drain_any (W.heap.size + 3) w6
  have DX9 : Hid _ := dx9
  have TS9 : Hid _ := ts9
  clear hst ts6 ch6 hv6 dx6 dx7 ts7 dx8 ts8 dx9 ts9 hlow hs5 DX5 HQ5 HO5 HV5 HP0 R4 W3 c7 c8 f8
  go_wp2_with fail
  refine Calls.mono DR.out ?_
  rintro e w7 ⟨rfl, h7⟩
  subst h7
  clear DR
  go_wp2_with fail
  generalize h6 : W.heap.size + 1 + 1 = b6 at DX9 TS9 ⊢
  generalize hp : W.heap.size + 3 = p at DX9 TS9 ⊢
  generalize h5 : W.heap.size + 1 = b5 at DX9 TS9 ⊢
  generalize h4 : W.heap.size = b4 at DX9 TS9 ⊢
  generalize h8 : w1.heap.size + 1 = b8 at DX9 TS9 ⊢
  generalize h7 : w1.heap.size = b7 at DX9 TS9 ⊢
  generalize h11 : w6.heap.size + 1 + 1 = b11 at DX9 TS9 ⊢
  generalize h10 : w6.heap.size + 1 = b10 at DX9 TS9 ⊢
  generalize hx : w6.heap.size = bx at DX9 TS9 ⊢
  generalize hw9 : ((w6.alloc (.cells #[.pointer (some ⟨p, 0, none⟩)] 23)).alloc (.cells #[.int .i64 0] 3)).alloc (.cells #[.int .i64 0] 3) = w9 at DX9 TS9 ⊢
  have DQ9 : Hid (DQ W w9 [] [] N bud ⟨b4, b5, b6, b7, b8, bx, b10, p, .slice ra M rc, .slice a N cap⟩ [(b11, [.int .i64 (0 : Nat)], 3)] v6 (pushF (odB false) L [] 0).1 L.length (.slice a4 L.length c4) L 0) := ⟨DX9.out, TS9.out, by omega, by omega⟩
  clear DX9 TS9 h4 h5 h6 hp h7 h8 h10 h11 hx hw9 d7
  refine wp_loop_rounds (M + 1) (rounds_inv (fun m act w => ∃ (j b11 : Nat) (Ds : List Nat) (v : Value) (H : List E) (came : Nat) (lv : Value) (l : List (Int × Int)) (stp : Nat) (g : Nat → Value),
    act = { tmps := #[.slice sa L.length sc, .slice ra M rc, .slice a N cap, undef, .pointer (some ⟨b4, 0, none⟩), .pointer (some ⟨b5, 0, none⟩), .pointer (some ⟨b6, 0, none⟩), .pointer (some ⟨b7, 0, none⟩), .pointer (some ⟨b8, 0, none⟩), .func (.func 39) #[] #[.pointer (some ⟨bx, 0, none⟩)], .pointer (some ⟨b10, 0, none⟩), .pointer (some ⟨b11, 0, none⟩), g 12, g 13, g 14, g 15, g 16, g 17, g 18, g 19, g 20, g 21, g 22, g 23, g 24, g 25, g 26, g 27, g 28, g 29, g 30, g 31, g 32, g 33, g 34, g 35, g 36, g 37, g 38, g 39, g 40, g 41, g 42, g 43, g 44, g 45, g 46, g 47, g 48, g 49, g 50, g 51, g 52, g 53, g 54, g 55, g 56, g 57, g 58, g 59, g 60, g 61, g 62, g 63, g 64, g 65, g 66, g 67, g 68, g 69, g 70, g 71, g 72, g 73, g 74, g 75, g 76, g 77, g 78, g 79, g 80, g 81, g 82, g 83, g 84, g 85, g 86, g 87, g 88, g 89, g 90, g 91, g 92], defers := Ds.map dMark } ∧ j ≤ M ∧ m = M - j ∧
    Hid (DQ W w [] Ds N bud ⟨b4, b5, b6, b7, b8, bx, b10, p, .slice ra M rc, .slice a N cap⟩ [(b11, [.int .i64 j], 3)] v H came lv l stp)) ?_ (M + 1) M _ _ (by omega) ⟨0, b11, [], _, _, _, _, _, 0, (fun i => ([_, _, _, _, _, _, _, _, _, _, _, _, _, _, _, _, _, _, _, _, _, _, _, _, _, _, _, _, _, _, _, _, _, _, _, _, _, _, _, _, _, _, _, _, _, _, _, _, _, _, _, _, _, _, _, _, _, _, _, _, _, _, _, _, _, _, _, _, _, _, _, _, _, _, _, _, _, _, _, _, _] : List Value).getD (i - 12) undef), rfl, by omega, by omega, DQ9⟩)
  clear DQ9
  rintro m act w ⟨j, b11, Ds, v, H, came, lv, l, stp, g, rfl, hj, rfl, dq⟩
  have c11 : w.cell? ⟨b11, 0, none⟩ = some (.int .i64 j) := (dq.out.dx.at 7 rfl).cell 0
  have c4' : w.cell? ⟨b4, 0, none⟩ = some (.slice ra M rc) := (dq.out.dx.at 0 rfl).cell 0
  have f6 : w.frozen? ⟨b6, 0, none⟩ = false := (dq.out.dx.at 2 rfl).fr 0
  have c6 : w.cell? ⟨b6, 0, none⟩ = some (.bool false) := (dq.out.dx.at 2 rfl).cell 0
  by_cases h0 : j = M
  · subst h0
    go_wp2_with fail
    refine leaves_marks Ds _ ?_ dq.out.dx.nd (fun w' hw' => ?_)
    · exact (dq.out.dx.store 2 (o := 0) rfl (.bool true)).ds
    · have d1 := dq.out.dx.store 2 (o := 0) rfl (.bool true)
      have hb6 : Blk w' b6 [.bool true] 4 := (d1.at 2 rfl).keep hw' (fun hk => d1.fb b6 (.inr hk) _ (List.mem_of_getElem? (i := 2) rfl) rfl)
      refine ⟨_, results_bool rfl _ _ b6 true rfl hb6, rfl, ?_⟩
      exact (d1.ch.trans hw' (fun i hi => .inr (d1.of i (.inr (.inl hi))).1)).below (Nat.le_refl _) (fun _ h => h.elim)
  · have hjM : (j : Int) < (M : Int) := by omega
    go_upto_region 14 with fail
    go_wp2_with fail
    have dq1 := (dq.out.box [.int .i64 0] 3 (by simp)).box [.bool true] 4 (by simp)
    simp only [List.cons_append, List.nil_append, World.size_alloc] at dq1
    generalize h13 : w.heap.size + 1 = b13 at dq1 ⊢
    generalize h12 : w.heap.size = b12 at dq1 ⊢
    generalize hwD : (w.alloc (.cells #[.int .i64 0] 3)).alloc (.cells #[.bool true] 4) = wD at dq1 ⊢
    have n0 : wD.heap.size ∉ Ds := fun h => by have := dq1.dx.dlt h; omega
    have n1 : wD.heap.size + 1 ∉ Ds := fun h => by have := dq1.dx.dlt h; omega
    have dq2 : DQ W wD [wD.heap.size, wD.heap.size + 1] Ds N bud ⟨b4, b5, b6, b7, b8, bx, b10, p, .slice ra M rc, .slice a N cap⟩ [(b11, [.int .i64 j], 3), (b12, [.int .i64 0], 3), (b13, [.bool true], 4)] v H came lv l stp :=
      ⟨dq1.dx.open dq1.ts.hq.lt dq1.ts.hq.vlt (fun k hk => dq1.ts.own.lt hk), dq1.ts, dq1.sp, dq1.cm⟩
    have DQ2 : Hid _ := dq2
    clear dq dq1 dq2 h12 h13 hwD c11 c4' f6 c6
    refine wp_rangeD (α := Int × Int) (drn_any bx p) rfl (enters_of Try.func39 (by kernel_rfl) rfl) rfl
      (fun m w => ∃ (n : Int) (v : Value) (H : List E) (came : Nat) (lv : Value) (l : List (Int × Int)) (stp : Nat), DQ W w [wD.heap.size, wD.heap.size + 1] Ds N bud ⟨b4, b5, b6, b7, b8, bx, b10, p, .slice ra M rc, .slice a N cap⟩ [(b11, [.int .i64 j], 3), (b12, [.int .i64 n], 3), (b13, [.bool true], 4)] v H came lv l stp ∧ m = (N - stp) * 2097153 + H.length)
      (fun m x w => ∃ (n : Int) (v : Value) (H : List E) (came : Nat) (lv : Value) (l : List (Int × Int)) (stp k : Nat), DP W w [wD.heap.size, wD.heap.size + 1] Ds N bud ⟨b4, b5, b6, b7, b8, bx, b10, p, .slice ra M rc, .slice a N cap⟩ [(b11, [.int .i64 j], 3), (b12, [.int .i64 n], 3), (b13, [.bool true], 4)] v H came lv l stp x k ∧ (N - stp) * 2097153 + H.length < m)
      (fun m x b w => ∃ c14 : Nat, b = { tmps := #[.slice sa L.length sc, .slice ra M rc, .slice a N cap, undef, .pointer (some ⟨b4, 0, none⟩), .pointer (some ⟨b5, 0, none⟩), .pointer (some ⟨b6, 0, none⟩), .pointer (some ⟨b7, 0, none⟩), .pointer (some ⟨b8, 0, none⟩), .func (.func 39) #[] #[.pointer (some ⟨bx, 0, none⟩)], .pointer (some ⟨b10, 0, none⟩), .pointer (some ⟨b11, 0, none⟩), .pointer (some ⟨b12, 0, none⟩), .pointer (some ⟨b13, 0, none⟩), .pointer (some ⟨c14, 0, none⟩), g 15, g 16, g 17, g 18, g 19, g 20, g 21, g 22, g 23, g 24, g 25, g 26, g 27, g 28, g 29, .int .i64 j, .slice ra M rc, .int .i64 M, .bool true, g 34, g 35, .func (.func 39) #[] #[.pointer (some ⟨bx, 0, none⟩)], .agg #[.int .i64 x.1, .int .i64 x.2], g 38, g 39, g 40, g 41, g 42, g 43, g 44, g 45, g 46, g 47, g 48, g 49, g 50, g 51, g 52, g 53, g 54, g 55, g 56, g 57, g 58, g 59, g 60, g 61, g 62, g 63, g 64, g 65, g 66, g 67, g 68, g 69, g 70, g 71, g 72, g 73, g 74, g 75, g 76, g 77, g 78, g 79, g 80, g 81, g 82, g 83, g 84, g 85, g 86, g 87, g 88, g 89, g 90, g 91, g 92], defers := [] } ∧ ∃ (n : Int) (v : Value) (H : List E) (came : Nat) (lv : Value) (l : List (Int × Int)) (stp k : Nat), DP W w [wD.heap.size, wD.heap.size + 1] Ds N bud ⟨b4, b5, b6, b7, b8, bx, b10, p, .slice ra M rc, .slice a N cap⟩ [(b11, [.int .i64 j], 3), (b12, [.int .i64 n], 3), (b13, [.bool true], 4), (c14, [.int .i64 x.1, .int .i64 x.2], 26)] v H came lv l stp x k ∧ (N - stp) * 2097153 + H.length < m)
      (fun w => ∃ (n : Int) (v : Value) (came : Nat) (lv : Value) (l : List (Int × Int)) (stp : Nat), DQ W w [wD.heap.size, wD.heap.size + 1] Ds N bud ⟨b4, b5, b6, b7, b8, bx, b10, p, .slice ra M rc, .slice a N cap⟩ [(b11, [.int .i64 j], 3), (b12, [.int .i64 n], 3), (b13, [.bool true], 4)] v [] came lv l stp)
      (fun c w => c = .exit 2 ∧ ∃ (n : Int) (v : Value) (H : List E) (came : Nat) (lv : Value) (l : List (Int × Int)) (stp : Nat), DQ W w [wD.heap.size, wD.heap.size + 1] Ds N bud ⟨b4, b5, b6, b7, b8, bx, b10, p, .slice ra M rc, .slice a N cap⟩ [(b11, [.int .i64 j], 3), (b12, [.int .i64 n], 3), (b13, [.bool false], 4)] v H came lv l stp)
      (fun m A B hc ⟨n, v, H, came, lv, l, stp, h, e⟩ => ⟨n, v, H, came, lv, l, stp, h.st hc n0 n1, e⟩)
      (fun m x A B hc ⟨n, v, H, came, lv, l, stp, k, h, e⟩ => ⟨n, v, H, came, lv, l, stp, k, h.st hc n0 n1, e⟩)
      (fun m x b A B hc ⟨c14, eb, n, v, H, came, lv, l, stp, k, h, e⟩ => ⟨c14, eb, n, v, H, came, lv, l, stp, k, h.st hc n0 n1, e⟩)
      (fun A B hc ⟨n, v, came, lv, l, stp, h⟩ => ⟨n, v, came, lv, l, stp, h.st hc n0 n1⟩)
      (fun c A B hc ⟨e, n, v, H, came, lv, l, stp, h⟩ => ⟨e, n, v, H, came, lv, l, stp, h.st hc n0 n1⟩)
      (fun m w ⟨n, v, H, came, lv, l, stp, h, _⟩ => (h.dx.at 5 rfl).cell 0) _ ⟨0, v, H, came, lv, l, stp, DQ2.out, rfl⟩ ?pop ?assign ?body ?done ?stop
    case pop =>
      rintro m w2 ⟨n, v, H, came, lv, l, stp, h, rfl⟩ hs
      refine (h.pop hs (HS.out.tot stp h.sp)).mono ?_
      rintro e w3 ⟨kd, ⟨x, rfl, v', H', k, dp, hlt⟩ | ⟨x, rfl, rfl, dq⟩⟩
      · exact ⟨kd, .inl ⟨x, rfl, n, v', H', came, lv, l, stp, k, dp, by omega⟩⟩
      · exact ⟨kd, .inr ⟨x, rfl, n, v, came, lv, l, stp, dq⟩⟩
    case assign =>
      rintro ll m x w2 ⟨n, v, H, came, lv, l, stp, k, h, hm⟩ hs
      have DP2 : Hid _ := h
      clear h
      unfold twoV
      gi_wp2
      have h2 := DP2.out.box [.int .i64 x.1, .int .i64 x.2] 26 (fs_lt hs)
      exact ⟨Kd.of_chg ((Chg.refl (fun _ => False) _).alloc _) hs (fun h => h) (fun h => h), _, rfl, n, v, H, came, lv, l, stp, k, h2, hm⟩
    case body =>
      rintro ll m ⟨xk, xn⟩ b w2 ⟨c14, rfl, n, v, H, came, lv, l, stp, k, dp, hm⟩ hs
      have hcm := dp.cm
      have hcl := dp.ps.cl
      have hbt := HS.out.tot stp dp.sp
      have hll : l.length ≤ 2097152 := by omega
      obtain ⟨la, lc, hlf⟩ := dp.ps.own.form
      subst hlf
      have y0 : w2.cell? ⟨c14, 0, none⟩ = some (.int .i64 xk) := (dp.dx.at 10 rfl).cell 0
      have y1 : w2.cell? ⟨c14, 1, none⟩ = some (.int .i64 xn) := (dp.dx.at 10 rfl).cell 1
      have y8 : w2.cell? ⟨b8, 0, none⟩ = some (.slice la l.length lc) := (dp.dx.at 4 rfl).cell 0
      have TK : Hid _ := fun w3 (ch : Chg (fun _ => False) w2 w3) => took_any (dp.keep ch).ps.own.ths hll dp.ps.tk
      have FI : Hid _ := fun w3 (ch : Chg (fun _ => False) w2 w3) => first_any (dp.keep ch).ps.own.ths hll false
      have hml := dp.ps.ml
      have hfi := dp.ps.fi
      rw [hfi] at FI
      have WO : Hid _ := fun w3 (ch : Chg (fun _ => False) w2 w3) => without_any (dp.keep ch).ps.own hll k hml
      have hk0 : (0 : Int) ≤ (k : Int) := by omega
      unfold two at TK
      have DP2 : Hid _ := dp
      clear dp hfi
      gi_wp2
      refine ⟨trivial, rfl, ?_⟩
      refine CallsIn.mono (CallsIn.inRound ll ((callsIn_wide (n := 0)).2 (TK.out w2 (Chg.refl _ _)))) ?_
      rintro e w3 ⟨rfl, ch3⟩
      have y8 : w3.cell? ⟨b8, 0, none⟩ = some (.slice la l.length lc) := (((DP2.out.keep ch3).dx.at 4 rfl).cell 0)
      have C3 : Hid (Chg _ _ _) := ch3
      clear ch3 TK
      gi_wp2
      refine ⟨trivial, rfl, ?_⟩
      refine CallsIn.mono (CallsIn.inRound ll ((callsIn_wide (n := 0)).2 (FI.out w3 C3.out))) ?_
      rintro e w4 ⟨rfl, ch4⟩
      have hch4 := C3.out.trans ch4 (fun _ h => h.elim)
      have y8 : w4.cell? ⟨b8, 0, none⟩ = some (.slice la l.length lc) := (((DP2.out.keep hch4).dx.at 4 rfl).cell 0)
      have C4 : Hid (Chg _ _ _) := hch4
      clear ch4 hch4 C3 FI
      gi_wp2
      have hs4 : wD.heap.size + 1 < w4.heap.size := by have := C4.out.size; omega
      refine ⟨trivial, rfl, ?_⟩
      refine CallsIn.mono (CallsIn.inRound ll ((callsIn_wide (n := 0)).2 (WO.out w4 C4.out))) ?_
      rintro e w5 ⟨lv5, rfl, o5, ch5, hl5⟩
      have dq5 := (DP2.out.keep C4.out).without (fs_lt hs4) ch5 o5 hl5
      have dp5 := DP2.out.keep (C4.out.trans ch5 (fun _ h => h.elim))
      have f8 : w5.frozen? ⟨b8, 0, none⟩ = false := (dp5.dx.at 4 rfl).fr 0
      have y8 : w5.cell? ⟨b8, 0, none⟩ = some (.slice la l.length lc) := (dp5.dx.at 4 rfl).cell 0
      have hs5 : wD.heap.size + 1 < w5.heap.size := by have := ch5.size; omega
      have KD5 : Hid (Kd wD.heap.size w2 (w5.setCell ⟨b8, 0, none⟩ lv5)) := by
        have k1 : Kd wD.heap.size w2 w5 := Kd.of_chg (C4.out.trans ch5 (fun _ h => h.elim)) hs (fun h => h) (fun h => h)
        refine k1.trans (Kd.of_chg ((Chg.refl (fun k => k = b8) _).setCell (p := ⟨b8, 0, none⟩) (.inl rfl) _) hs5 (fun e => ?_) (fun e => ?_))
        · exact dp5.dx.fb _ (.inl (by simp)) _ (List.mem_of_getElem? (i := 4) rfl) e.symm
        · exact dp5.dx.fb _ (.inl (by simp)) _ (List.mem_of_getElem? (i := 4) rfl) e.symm
      obtain ⟨la5, lc5, hlf5⟩ := o5.form
      obtain ⟨n5, hn5⟩ : ∃ x, x = (wo l k).length := ⟨_, rfl⟩
      rw [← hn5] at hlf5
      subst hlf5
      generalize hw6 : w5.setCell ⟨b8, 0, none⟩ (.slice la5 n5 lc5) = w6 at dq5 KD5
      have W6 : Hid _ := hw6
      have hs6 : wD.heap.size + 1 < w6.heap.size := by rw [← hw6]; simpa using hs5
      have z5 : w6.cell? ⟨b5, 0, none⟩ = some (.slice a N cap) := (dq5.dx.at 1 rfl).cell 0
      have z10 : w6.cell? ⟨b10, 0, none⟩ = some (.int .i64 stp) := (dq5.dx.at 6 rfl).cell 0
      have z12 : w6.cell? ⟨b12, 0, none⟩ = some (.int .i64 n) := (dq5.dx.at 8 rfl).cell 0
      have f12 : w6.frozen? ⟨b12, 0, none⟩ = false := (dq5.dx.at 8 rfl).fr 0
      have hsp := dq5.sp
      have DQ5 : Hid _ := dq5
      have O5 : Hid (OwnT _ _ _) := o5
      have HN5 : Hid _ := hn5
      have hmo : Try.prog.follows .mixedOrders = true := by kernel_rfl
      clear dq5 dp5 o5 ch5 hl5 hn5 hw6 WO DP2 C4
      by_cases hst : stp = N
      · subst hst
        have dq7 := DQ5.out.store 1 (o := 0) rfl (.int .i64 (wrap64 (n + 1)))
        have kd7 : Kd wD.heap.size w2 (w6.setCell ⟨b12, 0, none⟩ (.int .i64 (wrap64 (n + 1)))) := by
          refine (KD5.out).trans (Kd.of_chg ((Chg.refl (fun k => k = b12) _).setCell (p := ⟨b12, 0, none⟩) (.inl rfl) _) hs6 (fun e => ?_) (fun e => ?_))
          · exact DQ5.out.dx.fb _ (.inl (by simp)) _ (List.mem_of_getElem? (i := 8) rfl) e.symm
          · exact DQ5.out.dx.fb _ (.inl (by simp)) _ (List.mem_of_getElem? (i := 8) rfl) e.symm
        generalize hn7 : wrap64 (n + 1) = n7 at dq7 kd7
        have hs7 : wD.heap.size + 1 < (w6.setCell ⟨b12, 0, none⟩ (.int .i64 n7)).heap.size := by simpa using hs6
        generalize hw7 : w6.setCell ⟨b12, 0, none⟩ (.int .i64 n7) = w7 at dq7 kd7 hs7
        simp only [List.set_cons_succ, List.set_cons_zero] at dq7
        obtain ⟨rg, ro, hra, hrc⟩ := HR.out.row j (by omega)
        have hrl : rg < W.heap.size := World.block_lt_of_cell? _ _ hrc
        have r0 : w7.cell? ⟨rg, ro + j, none⟩ = some (.int .i64 (rs j)) := (World.cell?_of_block (a := ⟨rg, ro + j, none⟩) (dq7.dx.ch.block rg hrl (fun h => h))).trans hrc
        have q4 : w7.cell? ⟨b4, 0, none⟩ = some (.slice (some ⟨rg, ro, none⟩) M rc) := by rw [← hra]; exact (dq7.dx.at 0 rfl).cell 0
        have q11 : w7.cell? ⟨b11, 0, none⟩ = some (.int .i64 j) := (dq7.dx.at 7 rfl).cell 0
        have q12 : w7.cell? ⟨b12, 0, none⟩ = some (.int .i64 n7) := (dq7.dx.at 8 rfl).cell 0
        have q13 : w7.cell? ⟨b13, 0, none⟩ = some (.bool true) := (dq7.dx.at 9 rfl).cell 0
        have f13 : w7.frozen? ⟨b13, 0, none⟩ = false := (dq7.dx.at 9 rfl).fr 0
        have W7 : Hid _ := hw7
        have N7 : Hid _ := hn7
        have KD7 : Hid _ := kd7
        have DQ7 : Hid _ := dq7
        clear hw7 hn7 kd7 dq7 hrc hra
        gi_wp2_with (rw [W6.out])
        rw [N7.out, W7.out]
        gi_region_with_o (fail)
        all_goals (
          have dq8 := DQ7.out.keep ((Chg.refl (fun _ => False) w7).drew)
          have q13' : w7.drew.cell? ⟨b13, 0, none⟩ = some (.bool true) := (dq8.dx.at 9 rfl).cell 0
          have f13' : w7.drew.frozen? ⟨b13, 0, none⟩ = false := (dq8.dx.at 9 rfl).fr 0
          have kd8 : Kd wD.heap.size w2 w7.drew := ⟨KD7.out.d, KD7.out.l⟩
          have dq9 := dq8.store 2 (o := 0) rfl (.bool false)
          have kd9 : Kd wD.heap.size w2 (w7.drew.setCell ⟨b13, 0, none⟩ (.bool false)) := by
            refine kd8.trans (Kd.of_chg ((Chg.refl (fun k => k = b13) _).setCell (p := ⟨b13, 0, none⟩) (.inl rfl) _) hs7 (fun e => ?_) (fun e => ?_))
            · exact dq8.dx.fb _ (.inl (by simp)) _ (List.mem_of_getElem? (i := 9) rfl) e.symm
            · exact dq8.dx.fb _ (.inl (by simp)) _ (List.mem_of_getElem? (i := 9) rfl) e.symm
          simp only [List.set_cons_succ, List.set_cons_zero] at dq9
          have DQ8 : Hid _ := dq8.less (List.sublist_append_left ([(b11, [.int .i64 j], 3), (b12, [.int .i64 n7], 3), (b13, [.bool true], 4)] : List Bo) _)
          have DQ9 : Hid _ := dq9.less (List.sublist_append_left ([(b11, [.int .i64 j], 3), (b12, [.int .i64 n7], 3), (b13, [.bool false], 4)] : List Bo) _)
          have KD8 : Hid _ := kd8
          have KD9 : Hid _ := kd9
          clear dq8 dq9 kd8 kd9
          by_cases hge : rs j ≤ n7
          · gi_wp2
            exact ⟨KD9.out, rfl, n7, _, _, _, _, _, _, DQ9.out⟩
          · gi_wp2
            exact ⟨KD8.out, _, hm, n7, _, _, _, _, _, _, DQ8.out, rfl⟩)
      · have hlt : (stp : Int) < (N : Int) := by omega
        obtain ⟨sg, so, hsa, e0, e1, e2⟩ := HS.out.row stp (by omega)
        subst hsa
        obtain ⟨T, hT⟩ : ∃ T, st stp = T := ⟨_, rfl⟩
        have hth := HS.out.ths stp (by omega)
        have hadd := HS.out.add stp (by omega)
        have htot := HS.out.tot (stp + 1) (by omega)
        rw [hT] at e0 e1 e2 hth hadd
        obtain ⟨kind, which, ts, TL⟩ := T
        simp only at e0 e1 e2 hth hadd
        obtain ⟨ta, tc, hts⟩ := hth.form
        subst hts
        have lg : sg < W.heap.size := World.block_lt_of_cell? _ _ e0
        have hbk : w6.heap[sg]? = W.heap[sg]? := DQ5.out.dx.ch.block sg lg (fun h => h)
        have d0 : w6.cell? ⟨sg, so + stp * 3, none⟩ = some (.int .i64 kind) := (World.cell?_of_block (a := ⟨sg, so + stp * 3, none⟩) hbk).trans e0
        have d1 : w6.cell? ⟨sg, so + stp * 3 + 1, none⟩ = some (.int .i64 which) := (World.cell?_of_block (a := ⟨sg, so + stp * 3 + 1, none⟩) hbk).trans e1
        have d2 : w6.cell? ⟨sg, so + stp * 3 + 2, none⟩ = some (.slice ta TL.length tc) := (World.cell?_of_block (a := ⟨sg, so + stp * 3 + 2, none⟩) hbk).trans e2
        have z7 : w6.cell? ⟨b7, 0, none⟩ = some (.pointer (some ⟨p, 0, none⟩)) := (DQ5.out.dx.at 3 rfl).cell 0
        have z8 : w6.cell? ⟨b8, 0, none⟩ = some (.slice la5 n5 lc5) := (DQ5.out.dx.at 4 rfl).cell 0
        have dr := DQ5.out.keep ((Chg.refl (fun _ => False) w6).drew)
        have TA : Hid _ := turn_all dr.ts (kind := kind) (which := which) (Ths.keep hth dr.dx.ch (fun _ _ h => h)) (fun k hL hk => by
          have hlow := Ths.low hth hL k hk
          refine ⟨fun e => ?_, fun e => ?_⟩
          · have : W.heap.size ≤ p := DQ5.out.dx.pl
            have e' : k = p := e
            omega
          · have := DQ5.out.dx.vl k e.symm; omega) (by omega)
        have DR6 : Hid _ := dr
        have hs6d : wD.heap.size + 1 < w6.drew.heap.size := hs6
        clear dr e0 e1 e2 hbk hT hth
        gi_wp2_with (rw [W6.out])
        refine wpIn_mono (Q := fun e b w => e = .normal ∧ ∃ (lv9 y56 y57 y58 y59 y60 y61 y62 y63 y64 y65 : Value), b = { tmps := #[.slice sa L.length sc, .slice ra M rc, .slice (some ⟨sg, so, none⟩) N cap, undef, .pointer (some ⟨b4, 0, none⟩), .pointer (some ⟨b5, 0, none⟩), .pointer (some ⟨b6, 0, none⟩), .pointer (some ⟨b7, 0, none⟩), .pointer (some ⟨b8, 0, none⟩), .func (.func 39) #[] #[.pointer (some ⟨bx, 0, none⟩)], .pointer (some ⟨b10, 0, none⟩), .pointer (some ⟨b11, 0, none⟩), .pointer (some ⟨b12, 0, none⟩), .pointer (some ⟨b13, 0, none⟩), .pointer (some ⟨c14, 0, none⟩), .bool true, .int .i64 k, lv9, .bool true, g 19, g 20, g 21, g 22, g 23, g 24, g 25, g 26, g 27, g 28, g 29, .int .i64 j, .slice ra M rc, .int .i64 M, .bool true, g 34, g 35, .func (.func 39) #[] #[.pointer (some ⟨bx, 0, none⟩)], .agg #[.int .i64 xk, .int .i64 xn], .agg #[.int .i64 xk, .int .i64 xn], .slice la l.length lc, .bool true, .slice la l.length lc, .int .i64 k, .bool true, .bool false, .bool false, .int .i64 k, .bool (decide ((k : Int) < 0)), .bool (decide ((k : Int) < 0)), .slice la l.length lc, .int .i64 k, .slice la5 n5 lc5, .int .i64 stp, .slice (some ⟨sg, so, none⟩) N cap, .int .i64 N, .bool true, y56, y57, y58, y59, y60, y61, y62, y63, y64, y65, g 66, g 67, g 68, g 69, g 70, g 71, g 72, g 73, g 74, g 75, g 76, g 77, g 78, g 79, g 80, g 81, g 82, g 83, g 84, g 85, g 86, g 87, g 88, g 89, g 90, g 91, g 92], defers := [] } ∧ TP w6.drew w false p v came (.slice la5 n5 lc5) (TL.length + 1) lv9) ?_ ?_
        · refine region_round (J := fun d b w => ∃ (y17 y18 y56 y57 y58 y59 y60 y61 y62 y63 y64 y65 lv9 : Value), b = { tmps := #[.slice sa L.length sc, .slice ra M rc, .slice (some ⟨sg, so, none⟩) N cap, undef, .pointer (some ⟨b4, 0, none⟩), .pointer (some ⟨b5, 0, none⟩), .pointer (some ⟨b6, 0, none⟩), .pointer (some ⟨b7, 0, none⟩), .pointer (some ⟨b8, 0, none⟩), .func (.func 39) #[] #[.pointer (some ⟨bx, 0, none⟩)], .pointer (some ⟨b10, 0, none⟩), .pointer (some ⟨b11, 0, none⟩), .pointer (some ⟨b12, 0, none⟩), .pointer (some ⟨b13, 0, none⟩), .pointer (some ⟨c14, 0, none⟩), .bool true, .int .i64 k, y17, y18, g 19, g 20, g 21, g 22, g 23, g 24, g 25, g 26, g 27, g 28, g 29, .int .i64 j, .slice ra M rc, .int .i64 M, .bool true, g 34, g 35, .func (.func 39) #[] #[.pointer (some ⟨bx, 0, none⟩)], .agg #[.int .i64 xk, .int .i64 xn], .agg #[.int .i64 xk, .int .i64 xn], .slice la l.length lc, .bool true, .slice la l.length lc, .int .i64 k, .bool true, .bool false, .bool false, .int .i64 k, .bool (decide ((k : Int) < 0)), .bool (decide ((k : Int) < 0)), .slice la l.length lc, .int .i64 k, .slice la5 n5 lc5, .int .i64 stp, .slice (some ⟨sg, so, none⟩) N cap, .int .i64 N, .bool true, y56, y57, y58, y59, y60, y61, y62, y63, y64, y65, g 66, g 67, g 68, g 69, g 70, g 71, g 72, g 73, g 74, g 75, g 76, g 77, g 78, g 79, g 80, g 81, g 82, g 83, g 84, g 85, g 86, g 87, g 88, g 89, g 90, g 91, g 92], defers := [] } ∧ Hid ((d 0 = true → y57 = .pointer (some ⟨p, 0, none⟩)) ∧ (d 1 = true → y58 = .slice la5 n5 lc5) ∧ (d 2 = true → y59 = .slice (some ⟨sg, so, none⟩) N cap) ∧ (d 3 = true → y60 = .int .i64 stp) ∧ (d 4 = true → d 2 = true ∧ d 3 = true ∧ y61 = .pointer (some ⟨sg, so + stp * 3, none⟩)) ∧ (d 5 = true → d 4 = true ∧ y62 = .agg #[.int .i64 kind, .int .i64 which, .slice ta TL.length tc]) ∧ (d 6 = true → y63 = .tuple #[lv9, .bool true]) ∧ (d 7 = true → d 6 = true ∧ y56 = .tuple #[lv9, .bool true]) ∧ (d 8 = true → d 6 = true ∧ y64 = lv9) ∧ (d 9 = true → d 6 = true ∧ y65 = .bool true) ∧ (d 10 = true → d 6 = true ∧ y17 = lv9) ∧ (d 11 = true → d 6 = true ∧ y18 = .bool true) ∧ (d 6 = false → w = w6.drew) ∧ (d 6 = true → d 0 = true ∧ d 1 = true ∧ d 5 = true ∧ TP w6.drew w false p v came (.slice la5 n5 lc5) (TL.length + 1) lv9))) hmo ?_ (after_of (by kernel_rfl)) ?_ ?_
          · exact ⟨_, _, _, _, _, _, _, _, _, _, _, _, undef, rfl, ⟨fun (h : false = true) => (by cases h), fun (h : false = true) => (by cases h), fun (h : false = true) => (by cases h), fun (h : false = true) => (by cases h), fun (h : false = true) => (by cases h), fun (h : false = true) => (by cases h), fun (h : false = true) => (by cases h), fun (h : false = true) => (by cases h), fun (h : false = true) => (by cases h), fun (h : false = true) => (by cases h), fun (h : false = true) => (by cases h), fun (h : false = true) => (by cases h), fun _ => rfl, fun (h : false = true) => (by cases h)⟩⟩
          · rintro d b w ⟨y17, y18, y56, y57, y58, y59, y60, y61, y62, y63, y64, y65, lv9, rfl, hc⟩ hall
            obtain ⟨c0, c1, c2, c3, c4, c5, c6, c7, c8, c9, c10, c11, _, cw⟩ := hc.out
            have a10 := (c10 (hall 10 (by decide))).2
            have a11 := (c11 (hall 11 (by decide))).2
            subst a10 a11
            exact ⟨rfl, y17, y56, y57, y58, y59, y60, y61, y62, y63, y64, y65, rfl, (cw (hall 6 (by decide))).2.2.2⟩
          · rintro d b w i o ⟨y17, y18, y56, y57, y58, y59, y60, y61, y62, y63, y64, y65, lv9, rfl, hc⟩ hdi ho hdeps K hK
            have hi : i < 12 := (Array.getElem?_eq_some_iff.1 ho).1
            obtain rfl | rfl | rfl | rfl | rfl | rfl | rfl | rfl | rfl | rfl | rfl | rfl : i = 0 ∨ i = 1 ∨ i = 2 ∨ i = 3 ∨ i = 4 ∨ i = 5 ∨ i = 6 ∨ i = 7 ∨ i = 8 ∨ i = 9 ∨ i = 10 ∨ i = 11 := by omega
            · have ho2 := Option.some.inj ho
              subst ho2
              obtain ⟨c0, c1, c2, c3, c4, c5, c6, c7, c8, c9, c10, c11, cn, cw⟩ := hc.out
              have h6 : d 6 = false := by
                rcases h : d 6 with _ | _
                · rfl
                · exfalso
                  obtain ⟨k0, k1, k5, _⟩ := cw h
                  have k4 := (c5 k5).1
                  have k2 := (c4 k4).1
                  have k3 := (c4 k4).2.1
                  rw [hdi] at k0
                  cases k0
              have hw := cn h6
              have HDI : Hid _ := hdi
              have H6 : Hid _ := h6
              clear c0 c1 c2 c3 c4 c5 c6 c7 c8 c9 c10 c11 cn cw hdi h6 hdeps ho hi
              subst hw
              go_simp
              refine hK _ _ ?_
              obtain ⟨c0, c1, c2, c3, c4, c5, c6, c7, c8, c9, c10, c11, cn, cw⟩ := hc.out
              exact ⟨_, _, _, _, _, _, _, _, _, _, _, _, _, rfl, ⟨fun _ => rfl, c1, c2, c3, c4, c5, c6, c7, c8, c9, c10, c11, cn, fun h => (by have h2 : d 6 = true := h; rw [H6.out] at h2; cases h2)⟩⟩
            · have ho2 := Option.some.inj ho
              subst ho2
              obtain ⟨c0, c1, c2, c3, c4, c5, c6, c7, c8, c9, c10, c11, cn, cw⟩ := hc.out
              have h6 : d 6 = false := by
                rcases h : d 6 with _ | _
                · rfl
                · exfalso
                  obtain ⟨k0, k1, k5, _⟩ := cw h
                  have k4 := (c5 k5).1
                  have k2 := (c4 k4).1
                  have k3 := (c4 k4).2.1
                  rw [hdi] at k1
                  cases k1
              have hw := cn h6
              have HDI : Hid _ := hdi
              have H6 : Hid _ := h6
              clear c0 c1 c2 c3 c4 c5 c6 c7 c8 c9 c10 c11 cn cw hdi h6 hdeps ho hi
              subst hw
              go_simp
              refine hK _ _ ?_
              obtain ⟨c0, c1, c2, c3, c4, c5, c6, c7, c8, c9, c10, c11, cn, cw⟩ := hc.out
              exact ⟨_, _, _, _, _, _, _, _, _, _, _, _, _, rfl, ⟨c0, fun _ => rfl, c2, c3, c4, c5, c6, c7, c8, c9, c10, c11, cn, fun h => (by have h2 : d 6 = true := h; rw [H6.out] at h2; cases h2)⟩⟩
            · have ho2 := Option.some.inj ho
              subst ho2
              obtain ⟨c0, c1, c2, c3, c4, c5, c6, c7, c8, c9, c10, c11, cn, cw⟩ := hc.out
              have h6 : d 6 = false := by
                rcases h : d 6 with _ | _
                · rfl
                · exfalso
                  obtain ⟨k0, k1, k5, _⟩ := cw h
                  have k4 := (c5 k5).1
                  have k2 := (c4 k4).1
                  have k3 := (c4 k4).2.1
                  rw [hdi] at k2
                  cases k2
              have hw := cn h6
              have HDI : Hid _ := hdi
              have H6 : Hid _ := h6
              clear c0 c1 c2 c3 c4 c5 c6 c7 c8 c9 c10 c11 cn cw hdi h6 hdeps ho hi
              subst hw
              go_simp
              refine hK _ _ ?_
              obtain ⟨c0, c1, c2, c3, c4, c5, c6, c7, c8, c9, c10, c11, cn, cw⟩ := hc.out
              exact ⟨_, _, _, _, _, _, _, _, _, _, _, _, _, rfl, ⟨c0, c1, fun _ => rfl, c3, fun h => ⟨rfl, (c4 h).2.1, (c4 h).2.2⟩, c5, c6, c7, c8, c9, c10, c11, cn, fun h => (by have h2 : d 6 = true := h; rw [H6.out] at h2; cases h2)⟩⟩
            · have ho2 := Option.some.inj ho
              subst ho2
              obtain ⟨c0, c1, c2, c3, c4, c5, c6, c7, c8, c9, c10, c11, cn, cw⟩ := hc.out
              have h6 : d 6 = false := by
                rcases h : d 6 with _ | _
                · rfl
                · exfalso
                  obtain ⟨k0, k1, k5, _⟩ := cw h
                  have k4 := (c5 k5).1
                  have k2 := (c4 k4).1
                  have k3 := (c4 k4).2.1
                  rw [hdi] at k3
                  cases k3
              have hw := cn h6
              have HDI : Hid _ := hdi
              have H6 : Hid _ := h6
              clear c0 c1 c2 c3 c4 c5 c6 c7 c8 c9 c10 c11 cn cw hdi h6 hdeps ho hi
              subst hw
              go_simp
              refine hK _ _ ?_
              obtain ⟨c0, c1, c2, c3, c4, c5, c6, c7, c8, c9, c10, c11, cn, cw⟩ := hc.out
              exact ⟨_, _, _, _, _, _, _, _, _, _, _, _, _, rfl, ⟨c0, c1, c2, fun _ => rfl, fun h => ⟨(c4 h).1, rfl, (c4 h).2.2⟩, c5, c6, c7, c8, c9, c10, c11, cn, fun h => (by have h2 : d 6 = true := h; rw [H6.out] at h2; cases h2)⟩⟩
            · have ho2 := Option.some.inj ho
              subst ho2
              obtain ⟨c0, c1, c2, c3, c4, c5, c6, c7, c8, c9, c10, c11, cn, cw⟩ := hc.out
              have t2 : d 2 = true := hdeps ⟨2, .data⟩ (by simp) rfl
              have v2 := (c2 t2)
              have t3 : d 3 = true := hdeps ⟨3, .data⟩ (by simp) rfl
              have v3 := (c3 t3)
              have h6 : d 6 = false := by
                rcases h : d 6 with _ | _
                · rfl
                · exfalso
                  obtain ⟨k0, k1, k5, _⟩ := cw h
                  have k4 := (c5 k5).1
                  have k2 := (c4 k4).1
                  have k3 := (c4 k4).2.1
                  rw [hdi] at k4
                  cases k4
              have hw := cn h6
              have Ht2 : Hid _ := t2
              have Ht3 : Hid _ := t3
              have HDI : Hid _ := hdi
              have H6 : Hid _ := h6
              clear c0 c1 c2 c3 c4 c5 c6 c7 c8 c9 c10 c11 cn cw hdi h6 hdeps ho hi t2 t3
              subst hw
              subst v2
              subst v3
              go_simp
              refine hK _ _ ?_
              obtain ⟨c0, c1, c2, c3, c4, c5, c6, c7, c8, c9, c10, c11, cn, cw⟩ := hc.out
              exact ⟨_, _, _, _, _, _, _, _, _, _, _, _, _, rfl, ⟨c0, c1, c2, c3, fun _ => ⟨Ht2.out, Ht3.out, rfl⟩, fun h => ⟨rfl, (c5 h).2⟩, c6, c7, c8, c9, c10, c11, cn, fun h => (by have h2 : d 6 = true := h; rw [H6.out] at h2; cases h2)⟩⟩
            · have ho2 := Option.some.inj ho
              subst ho2
              obtain ⟨c0, c1, c2, c3, c4, c5, c6, c7, c8, c9, c10, c11, cn, cw⟩ := hc.out
              have t4 : d 4 = true := hdeps ⟨4, .data⟩ (by simp) rfl
              have v4 := (c4 t4).2.2
              have h6 : d 6 = false := by
                rcases h : d 6 with _ | _
                · rfl
                · exfalso
                  obtain ⟨k0, k1, k5, _⟩ := cw h
                  have k4 := (c5 k5).1
                  have k2 := (c4 k4).1
                  have k3 := (c4 k4).2.1
                  rw [hdi] at k5
                  cases k5
              have hw := cn h6
              have Ht4 : Hid _ := t4
              have HDI : Hid _ := hdi
              have H6 : Hid _ := h6
              clear c0 c1 c2 c3 c4 c5 c6 c7 c8 c9 c10 c11 cn cw hdi h6 hdeps ho hi t4
              subst hw
              subst v4
              go_simp
              refine hK _ _ ?_
              obtain ⟨c0, c1, c2, c3, c4, c5, c6, c7, c8, c9, c10, c11, cn, cw⟩ := hc.out
              exact ⟨_, _, _, _, _, _, _, _, _, _, _, _, _, rfl, ⟨c0, c1, c2, c3, c4, fun _ => ⟨Ht4.out, rfl⟩, c6, c7, c8, c9, c10, c11, cn, fun h => (by have h2 : d 6 = true := h; rw [H6.out] at h2; cases h2)⟩⟩
            · have ho2 := Option.some.inj ho
              subst ho2
              obtain ⟨c0, c1, c2, c3, c4, c5, c6, c7, c8, c9, c10, c11, cn, cw⟩ := hc.out
              have t0 : d 0 = true := hdeps ⟨0, .data⟩ (by simp) rfl
              have v0 := (c0 t0)
              have t1 : d 1 = true := hdeps ⟨1, .data⟩ (by simp) rfl
              have v1 := (c1 t1)
              have t5 : d 5 = true := hdeps ⟨5, .data⟩ (by simp) rfl
              have v5 := (c5 t5).2
              have hw := cn hdi
              have t4 := (c5 t5).1
              have t2 := (c4 t4).1
              have t3 := (c4 t4).2.1
              have Ht0 : Hid _ := t0
              have Ht1 : Hid _ := t1
              have Ht5 : Hid _ := t5
              have Ht4 : Hid _ := t4
              have Ht2 : Hid _ := t2
              have Ht3 : Hid _ := t3
              have HDI : Hid _ := hdi
              clear c0 c1 c2 c3 c4 c5 c6 c7 c8 c9 c10 c11 cn cw hdi hdeps ho hi t0 t1 t5 t4 t2 t3
              subst hw
              subst v0
              subst v1
              subst v5
              go_simp
              refine ⟨trivial, rfl, ?_⟩
              refine CallsIn.mono (CallsIn.inRound ll ((callsIn_wide (n := 0)).2 TA.out)) ?_
              rintro e w9 ⟨lv', rfl, tp⟩
              refine hK _ _ ?_
              obtain ⟨c0, c1, c2, c3, c4, c5, c6, c7, c8, c9, c10, c11, cn, cw⟩ := hc.out
              exact ⟨_, _, _, _, _, _, _, _, _, _, _, _, lv', rfl, ⟨c0, c1, c2, c3, c4, c5, fun _ => rfl, fun h => (by have h2 := (c7 h).1; rw [HDI.out] at h2; cases h2), fun h => (by have h2 := (c8 h).1; rw [HDI.out] at h2; cases h2), fun h => (by have h2 := (c9 h).1; rw [HDI.out] at h2; cases h2), fun h => (by have h2 := (c10 h).1; rw [HDI.out] at h2; cases h2), fun h => (by have h2 := (c11 h).1; rw [HDI.out] at h2; cases h2), fun (h : true = false) => (by cases h), fun _ => ⟨Ht0.out, Ht1.out, Ht5.out, tp⟩⟩⟩
            · have ho2 := Option.some.inj ho
              subst ho2
              obtain ⟨c0, c1, c2, c3, c4, c5, c6, c7, c8, c9, c10, c11, cn, cw⟩ := hc.out
              have t6 : d 6 = true := hdeps ⟨6, .data⟩ (by simp) rfl
              have v6 := (c6 t6)
              have Ht6 : Hid _ := t6
              have HDI : Hid _ := hdi
              clear c0 c1 c2 c3 c4 c5 c6 c7 c8 c9 c10 c11 cn cw hdi hdeps ho hi t6
              subst v6
              go_simp
              refine hK _ _ ?_
              obtain ⟨c0, c1, c2, c3, c4, c5, c6, c7, c8, c9, c10, c11, cn, cw⟩ := hc.out
              exact ⟨_, _, _, _, _, _, _, _, _, _, _, _, _, rfl, ⟨c0, c1, c2, c3, c4, c5, c6, fun _ => ⟨Ht6.out, rfl⟩, c8, c9, c10, c11, cn, cw⟩⟩
            · have ho2 := Option.some.inj ho
              subst ho2
              obtain ⟨c0, c1, c2, c3, c4, c5, c6, c7, c8, c9, c10, c11, cn, cw⟩ := hc.out
              have t7 : d 7 = true := hdeps ⟨7, .data⟩ (by simp) rfl
              have v7 := (c7 t7).2
              have Ht7 : Hid _ := t7
              have HDI : Hid _ := hdi
              clear c0 c1 c2 c3 c4 c5 c6 c7 c8 c9 c10 c11 cn cw hdi hdeps ho hi t7
              subst v7
              go_simp
              refine hK _ _ ?_
              obtain ⟨c0, c1, c2, c3, c4, c5, c6, c7, c8, c9, c10, c11, cn, cw⟩ := hc.out
              exact ⟨_, _, _, _, _, _, _, _, _, _, _, _, _, rfl, ⟨c0, c1, c2, c3, c4, c5, c6, c7, fun _ => ⟨(c7 Ht7.out).1, rfl⟩, c9, c10, c11, cn, cw⟩⟩
            · have ho2 := Option.some.inj ho
              subst ho2
              obtain ⟨c0, c1, c2, c3, c4, c5, c6, c7, c8, c9, c10, c11, cn, cw⟩ := hc.out
              have t7 : d 7 = true := hdeps ⟨7, .data⟩ (by simp) rfl
              have v7 := (c7 t7).2
              have Ht7 : Hid _ := t7
              have HDI : Hid _ := hdi
              clear c0 c1 c2 c3 c4 c5 c6 c7 c8 c9 c10 c11 cn cw hdi hdeps ho hi t7
              subst v7
              go_simp
              refine hK _ _ ?_
              obtain ⟨c0, c1, c2, c3, c4, c5, c6, c7, c8, c9, c10, c11, cn, cw⟩ := hc.out
              exact ⟨_, _, _, _, _, _, _, _, _, _, _, _, _, rfl, ⟨c0, c1, c2, c3, c4, c5, c6, c7, c8, fun _ => ⟨(c7 Ht7.out).1, rfl⟩, c10, c11, cn, cw⟩⟩
            · have ho2 := Option.some.inj ho
              subst ho2
              obtain ⟨c0, c1, c2, c3, c4, c5, c6, c7, c8, c9, c10, c11, cn, cw⟩ := hc.out
              have t8 : d 8 = true := hdeps ⟨8, .data⟩ (by simp) rfl
              have v8 := (c8 t8).2
              have Ht8 : Hid _ := t8
              have HDI : Hid _ := hdi
              clear c0 c1 c2 c3 c4 c5 c6 c7 c8 c9 c10 c11 cn cw hdi hdeps ho hi t8
              subst v8
              go_simp
              refine hK _ _ ?_
              obtain ⟨c0, c1, c2, c3, c4, c5, c6, c7, c8, c9, c10, c11, cn, cw⟩ := hc.out
              exact ⟨_, _, _, _, _, _, _, _, _, _, _, _, _, rfl, ⟨c0, c1, c2, c3, c4, c5, c6, c7, c8, c9, fun _ => ⟨(c8 Ht8.out).1, rfl⟩, c11, cn, cw⟩⟩
            · have ho2 := Option.some.inj ho
              subst ho2
              obtain ⟨c0, c1, c2, c3, c4, c5, c6, c7, c8, c9, c10, c11, cn, cw⟩ := hc.out
              have t9 : d 9 = true := hdeps ⟨9, .data⟩ (by simp) rfl
              have v9 := (c9 t9).2
              have Ht9 : Hid _ := t9
              have HDI : Hid _ := hdi
              clear c0 c1 c2 c3 c4 c5 c6 c7 c8 c9 c10 c11 cn cw hdi hdeps ho hi t9
              subst v9
              go_simp
              refine hK _ _ ?_
              obtain ⟨c0, c1, c2, c3, c4, c5, c6, c7, c8, c9, c10, c11, cn, cw⟩ := hc.out
              exact ⟨_, _, _, _, _, _, _, _, _, _, _, _, _, rfl, ⟨c0, c1, c2, c3, c4, c5, c6, c7, c8, c9, c10, fun _ => ⟨(c9 Ht9.out).1, rfl⟩, cn, cw⟩⟩
        · rintro e b w9 ⟨rfl, lv9, y56, y57, y58, y59, y60, y61, y62, y63, y64, y65, rfl, tp⟩
          obtain ⟨v9, H9, came9, l9, ts9, hcm9, hch9, hv9, hl9⟩ := tp
          have dx9 := DR6.out.dx.turn hch9 (fs_lt hs6d) hv9 hl9
          have tp : TP w6.drew w9 false p v came (.slice la5 n5 lc5) (TL.length + 1) lv9 := ⟨v9, H9, came9, l9, ts9, hcm9, hch9, hv9, hl9⟩
          obtain ⟨v10, H10, came10, l10, dq10⟩ := DR6.out.turn (fs_lt hs6d) tp (by omega) (by omega)
          have kd9 : Kd wD.heap.size w6.drew w9 := by
            obtain ⟨o1, o2, _⟩ := DR6.out.dx.offp
            refine Kd.of_chg hch9 hs6d (fun e => ?_) (fun e => ?_)
            · rcases e with e | e
              · exact o1 (.inl e.symm)
              · exact o2 _ e.symm (.inl rfl)
            · rcases e with e | e
              · exact o1 (.inr e.symm)
              · exact o2 _ e.symm (.inr rfl)
          have hs9 : wD.heap.size + 1 < w9.heap.size := by have := hch9.size; omega
          have g8 : w9.cell? ⟨b8, 0, none⟩ = some (.slice la5 n5 lc5) := (dx9.at 4 rfl).cell 0
          have h8 : w9.frozen? ⟨b8, 0, none⟩ = false := (dx9.at 4 rfl).fr 0
          obtain ⟨la9, lc9, hlf9⟩ := ts9.own.form
          obtain ⟨n9, hn9⟩ : ∃ x, x = l9.length := ⟨_, rfl⟩
          rw [← hn9] at hlf9
          subst hlf9
          have dx10 := dx9.store 4 (o := 0) rfl (.slice la9 n9 lc9)
          have kd10 : Kd wD.heap.size w6.drew (w9.setCell ⟨b8, 0, none⟩ (.slice la9 n9 lc9)) := by
            refine kd9.trans (Kd.of_chg ((Chg.refl (fun k => k = b8) _).setCell (p := ⟨b8, 0, none⟩) (.inl rfl) _) hs9 (fun e => ?_) (fun e => ?_))
            · exact dx9.fb _ (.inl (by simp)) _ (List.mem_of_getElem? (i := 4) rfl) e.symm
            · exact dx9.fb _ (.inl (by simp)) _ (List.mem_of_getElem? (i := 4) rfl) e.symm
          have hs10 : wD.heap.size + 1 < (w9.setCell ⟨b8, 0, none⟩ (.slice la9 n9 lc9)).heap.size := by simpa using hs9
          generalize hw10 : w9.setCell ⟨b8, 0, none⟩ (.slice la9 n9 lc9) = w10 at dx10 dq10 kd10 hs10
          have g10 : w10.cell? ⟨b10, 0, none⟩ = some (.int .i64 stp) := (dx10.at 6 rfl).cell 0
          have h10 : w10.frozen? ⟨b10, 0, none⟩ = false := (dx10.at 6 rfl).fr 0
          have kd11 : Kd wD.heap.size w2 (w10.setCell ⟨b10, 0, none⟩ (.int .i64 ((stp + 1 : Nat) : Int))) := by
            refine ((Kd.mk (W' := w6.drew) KD5.out.d KD5.out.l).trans kd10).trans (Kd.of_chg ((Chg.refl (fun k => k = b10) _).setCell (p := ⟨b10, 0, none⟩) (.inl rfl) _) hs10 (fun e => ?_) (fun e => ?_))
            · exact dx10.fb _ (.inl (by simp)) _ (List.mem_of_getElem? (i := 6) rfl) e.symm
            · exact dx10.fb _ (.inl (by simp)) _ (List.mem_of_getElem? (i := 6) rfl) e.symm
          have hs11 : wD.heap.size + 1 < (w10.setCell ⟨b10, 0, none⟩ (.int .i64 ((stp + 1 : Nat) : Int))).heap.size := by simpa using hs10
          generalize hw11 : w10.setCell ⟨b10, 0, none⟩ (.int .i64 ((stp + 1 : Nat) : Int)) = w11 at dq10 kd11 hs11
          have z12 : w11.cell? ⟨b12, 0, none⟩ = some (.int .i64 n) := (dq10.dx.at 8 rfl).cell 0
          have f12 : w11.frozen? ⟨b12, 0, none⟩ = false := (dq10.dx.at 8 rfl).fr 0
          have hm10 : (N - (stp + 1)) * 2097153 + H10.length < m := by
            have q1 := dq10.cm
            have q2 := dq10.ts.cm
            exact meas (A := N - (stp + 1)) (B := N - stp) (by omega) (Nat.lt_succ_of_le (n := H10.length) (m := 2097152) (by omega)) hm
          rw [Int.natCast_add] at hw11
          have hc1 : ((1 : Nat) : Int) = 1 := rfl
          rw [hc1] at hw11
          have W10 : Hid _ := hw10
          have W11 : Hid _ := hw11
          have DQ10 : Hid _ := dq10
          have KD11 : Hid _ := kd11
          have HM10 : Hid _ := hm10
          clear ts9 hcm9 hch9 hv9 hl9 dx9 tp dq10 kd9 kd10 dx10 kd11 hw10 hw11 hm10 hn9 DR6 hc1
          have dq7 := DQ10.out.store 1 (o := 0) rfl (.int .i64 (wrap64 (n + 1)))
          have kd7 : Kd wD.heap.size w2 (w11.setCell ⟨b12, 0, none⟩ (.int .i64 (wrap64 (n + 1)))) := by
            refine (KD11.out).trans (Kd.of_chg ((Chg.refl (fun k => k = b12) _).setCell (p := ⟨b12, 0, none⟩) (.inl rfl) _) hs11 (fun e => ?_) (fun e => ?_))
            · exact DQ10.out.dx.fb _ (.inl (by simp)) _ (List.mem_of_getElem? (i := 8) rfl) e.symm
            · exact DQ10.out.dx.fb _ (.inl (by simp)) _ (List.mem_of_getElem? (i := 8) rfl) e.symm
          generalize hn7 : wrap64 (n + 1) = n7 at dq7 kd7
          have hs7 : wD.heap.size + 1 < (w11.setCell ⟨b12, 0, none⟩ (.int .i64 n7)).heap.size := by simpa using hs11
          generalize hw7 : w11.setCell ⟨b12, 0, none⟩ (.int .i64 n7) = w7 at dq7 kd7 hs7
          simp only [List.set_cons_succ, List.set_cons_zero] at dq7
          obtain ⟨rg, ro, hra, hrc⟩ := HR.out.row j (by omega)
          have hrl : rg < W.heap.size := World.block_lt_of_cell? _ _ hrc
          have r0 : w7.cell? ⟨rg, ro + j, none⟩ = some (.int .i64 (rs j)) := (World.cell?_of_block (a := ⟨rg, ro + j, none⟩) (dq7.dx.ch.block rg hrl (fun h => h))).trans hrc
          have q4 : w7.cell? ⟨b4, 0, none⟩ = some (.slice (some ⟨rg, ro, none⟩) M rc) := by rw [← hra]; exact (dq7.dx.at 0 rfl).cell 0
          have q11 : w7.cell? ⟨b11, 0, none⟩ = some (.int .i64 j) := (dq7.dx.at 7 rfl).cell 0
          have q12 : w7.cell? ⟨b12, 0, none⟩ = some (.int .i64 n7) := (dq7.dx.at 8 rfl).cell 0
          have q13 : w7.cell? ⟨b13, 0, none⟩ = some (.bool true) := (dq7.dx.at 9 rfl).cell 0
          have f13 : w7.frozen? ⟨b13, 0, none⟩ = false := (dq7.dx.at 9 rfl).fr 0
          have W7 : Hid _ := hw7
          have N7 : Hid _ := hn7
          have KD7 : Hid _ := kd7
          have DQ7 : Hid _ := dq7
          clear hw7 hn7 kd7 dq7 hrc hra
          gi_wp2_with (first | rw [W10.out] | rw [W11.out])
          rw [N7.out, W7.out]
          gi_region_with_o (fail)
          all_goals (
            have dq8 := DQ7.out.keep ((Chg.refl (fun _ => False) w7).drew)
            have q13' : w7.drew.cell? ⟨b13, 0, none⟩ = some (.bool true) := (dq8.dx.at 9 rfl).cell 0
            have f13' : w7.drew.frozen? ⟨b13, 0, none⟩ = false := (dq8.dx.at 9 rfl).fr 0
            have kd8 : Kd wD.heap.size w2 w7.drew := ⟨KD7.out.d, KD7.out.l⟩
            have dq9 := dq8.store 2 (o := 0) rfl (.bool false)
            have kd9 : Kd wD.heap.size w2 (w7.drew.setCell ⟨b13, 0, none⟩ (.bool false)) := by
              refine kd8.trans (Kd.of_chg ((Chg.refl (fun k => k = b13) _).setCell (p := ⟨b13, 0, none⟩) (.inl rfl) _) hs7 (fun e => ?_) (fun e => ?_))
              · exact dq8.dx.fb _ (.inl (by simp)) _ (List.mem_of_getElem? (i := 9) rfl) e.symm
              · exact dq8.dx.fb _ (.inl (by simp)) _ (List.mem_of_getElem? (i := 9) rfl) e.symm
            simp only [List.set_cons_succ, List.set_cons_zero] at dq9
            have DQ8 : Hid _ := dq8.less (List.sublist_append_left ([(b11, [.int .i64 j], 3), (b12, [.int .i64 n7], 3), (b13, [.bool true], 4)] : List Bo) _)
            have DQ9 : Hid _ := dq9.less (List.sublist_append_left ([(b11, [.int .i64 j], 3), (b12, [.int .i64 n7], 3), (b13, [.bool false], 4)] : List Bo) _)
            have KD8 : Hid _ := kd8
            have KD9 : Hid _ := kd9
            clear dq8 dq9 kd8 kd9
            by_cases hge : rs j ≤ n7
            · gi_wp2
              exact ⟨KD9.out, rfl, n7, _, _, _, _, _, _, DQ9.out⟩
            · gi_wp2
              exact ⟨KD8.out, _, HM10.out, n7, _, _, _, _, _, _, DQ8.out, rfl⟩)
    case done =>
      rintro wE ⟨n, v, came, lv, l, stp, dq⟩ hD
      have hl0 : l.length = 0 := by have := dq.ts.len; simpa using this.symm
      have dqs : DQ W wE [] (wD.heap.size :: Ds) N bud ⟨b4, b5, b6, b7, b8, bx, b10, p, .slice ra M rc, .slice a N cap⟩ [(b11, [.int .i64 j], 3), (b12, [.int .i64 n], 3), (b13, [.bool true], 4)] v [] came lv l stp := ⟨dq.dx.shut hD n0, dq.ts, dq.sp, dq.cm⟩
      have hlen := dqs.ts.len
      obtain ⟨la, lc, hlf⟩ := dqs.ts.own.form
      obtain ⟨nl, hnl⟩ : ∃ x, x = l.length := ⟨_, rfl⟩
      rw [← hnl] at hlf hlen
      subst hlf
      have k13 : wE.cell? ⟨b13, 0, none⟩ = some (.bool true) := (dqs.dx.at 9 rfl).cell 0
      have k8 : wE.cell? ⟨b8, 0, none⟩ = some (.slice la nl lc) := (dqs.dx.at 4 rfl).cell 0
      have k7 : wE.cell? ⟨b7, 0, none⟩ = some (.pointer (some ⟨p, 0, none⟩)) := (dqs.dx.at 3 rfl).cell 0
      have LN : Hid (∀ m, Calls Try.prog 12 #[.pointer (some ⟨p, 0, none⟩)] (wE.drewN m) fun e w' => e = .returned (.int .i64 nl) ∧ w' = wE.drewN m) := fun m => by
        have h := len_any (dqs.keep ((Chg.refl (fun _ => False) wE).drewm m)).ts.hq
        rw [hlen] at h
        exact h.mono (fun _ _ ⟨h1, h2⟩ => ⟨h1, h2.symm⟩)
      have hnn : ((nl : Int) != (nl : Int)) = false := by simp
      have hz : (nl : Int) = 0 := by omega
      have DQS : Hid _ := dqs
      clear dq dqs hD hlen hnl DQ2
      go_upto_region 30 with fail
      go_quiet ((go_at_call 12; refine Calls.quiet_of_same (LN.out _)))
      have dqt := DQS.out.keep ((Chg.refl (fun _ => False) wE).drewm nq)
      generalize hwF : wE.drewN nq = wF at dqt ⊢
      have k11 : wF.cell? ⟨b11, 0, none⟩ = some (.int .i64 j) := (dqt.dx.at 7 rfl).cell 0
      have dqu : DQ W (wF.alloc (.cells #[.int .i64 ((j : Int) + 1)] 3)) [] (wD.heap.size :: Ds) N bud ⟨b4, b5, b6, b7, b8, bx, b10, p, .slice ra M rc, .slice a N cap⟩ [(wF.heap.size, [.int .i64 ((j + 1 : Nat) : Int)], 3)] v [] came (.slice la nl lc) l stp := (dqt.less (rest' := []) (List.nil_sublist _)).box [.int .i64 ((j + 1 : Nat) : Int)] 3 (by simp)
      have DQU : Hid _ := dqu
      clear dqt dqu DQS LN
      go_wp2_with fail
      exact ⟨M - (j + 1), by omega, j + 1, wF.heap.size, wD.heap.size :: Ds, v, [], came, .slice la nl lc, l, stp, (fun i => ([_, _, _, _, _, _, _, _, _, _, _, _, _, _, _, _, _, _, _, _, _, _, _, _, _, _, _, _, _, _, _, _, _, _, _, _, _, _, _, _, _, _, _, _, _, _, _, _, _, _, _, _, _, _, _, _, _, _, _, _, _, _, _, _, _, _, _, _, _, _, _, _, _, _, _, _, _, _, _, _, _] : List Value).getD (i - 12) undef), rfl, by omega, rfl, DQU.out⟩
    case stop =>
      rintro c wE ⟨rfl, n, v, H, came, lv, l, stp, dq⟩ hD
      have dqs : DQ W wE [] (wD.heap.size :: Ds) N bud ⟨b4, b5, b6, b7, b8, bx, b10, p, .slice ra M rc, .slice a N cap⟩ [(b11, [.int .i64 j], 3), (b12, [.int .i64 n], 3), (b13, [.bool false], 4)] v H came lv l stp := ⟨dq.dx.shut hD n0, dq.ts, dq.sp, dq.cm⟩
      have hlen := dqs.ts.len
      obtain ⟨la, lc, hlf⟩ := dqs.ts.own.form
      obtain ⟨nl, hnl⟩ : ∃ x, x = l.length := ⟨_, rfl⟩
      rw [← hnl] at hlf hlen
      subst hlf
      have k13 : wE.cell? ⟨b13, 0, none⟩ = some (.bool false) := (dqs.dx.at 9 rfl).cell 0
      have k8 : wE.cell? ⟨b8, 0, none⟩ = some (.slice la nl lc) := (dqs.dx.at 4 rfl).cell 0
      have k7 : wE.cell? ⟨b7, 0, none⟩ = some (.pointer (some ⟨p, 0, none⟩)) := (dqs.dx.at 3 rfl).cell 0
      have LN : Hid (∀ m, Calls Try.prog 12 #[.pointer (some ⟨p, 0, none⟩)] (wE.drewN m) fun e w' => e = .returned (.int .i64 nl) ∧ w' = wE.drewN m) := fun m => by
        have h := len_any (dqs.keep ((Chg.refl (fun _ => False) wE).drewm m)).ts.hq
        rw [hlen] at h
        exact h.mono (fun _ _ ⟨h1, h2⟩ => ⟨h1, h2.symm⟩)
      have hnn : ((nl : Int) != (nl : Int)) = false := by simp
      have DQS : Hid _ := dqs
      clear dq dqs hD hlen hnl DQ2
      go_upto_region 30 with fail
      go_quiet ((go_at_call 12; refine Calls.quiet_of_same (LN.out _)))
      have dqt := DQS.out.keep ((Chg.refl (fun _ => False) wE).drewm nq)
      generalize hwF : wE.drewN nq = wF at dqt ⊢
      have k11 : wF.cell? ⟨b11, 0, none⟩ = some (.int .i64 j) := (dqt.dx.at 7 rfl).cell 0
      have dqu : DQ W (wF.alloc (.cells #[.int .i64 ((j : Int) + 1)] 3)) [] (wD.heap.size :: Ds) N bud ⟨b4, b5, b6, b7, b8, bx, b10, p, .slice ra M rc, .slice a N cap⟩ [(wF.heap.size, [.int .i64 ((j + 1 : Nat) : Int)], 3)] v H came (.slice la nl lc) l stp := (dqt.less (rest' := []) (List.nil_sublist _)).box [.int .i64 ((j + 1 : Nat) : Int)] 3 (by simp)
      have DQU : Hid _ := dqu
      clear dqt dqu DQS LN
      go_wp2_with fail
      exact ⟨M - (j + 1), by omega, j + 1, wF.heap.size, wD.heap.size :: Ds, v, H, came, .slice la nl lc, l, stp, (fun i => ([_, _, _, _, _, _, _, _, _, _, _, _, _, _, _, _, _, _, _, _, _, _, _, _, _, _, _, _, _, _, _, _, _, _, _, _, _, _, _, _, _, _, _, _, _, _, _, _, _, _, _, _, _, _, _, _, _, _, _, _, _, _, _, _, _, _, _, _, _, _, _, _, _, _, _, _, _, _, _, _, _] : List Value).getD (i - 12) undef), rfl, by omega, rfl, DQU.out⟩

end Go.Proofs.Ytbfbjjfjeiihbaa
