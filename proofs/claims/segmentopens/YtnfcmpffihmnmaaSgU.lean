/-
  fits: whether a serial and marks are a state.
-/
import Derived.Test.YtnfcmpffihmnmaaSgT
import Derived.Great.BuildSlice
namespace Go.Proofs.Ytnfcmpffihmnmaa
open Go.RowKit

theorem Try.struct45 : Try.prog.underlying 45 = some (.struct (Try.prog.fieldsOf 45)) := by kernel_rfl
theorem Try.fields45 : (Try.prog.fieldsOf 45).toList.map (fun f => (f.name, f.type, f.offset)) = [("Serial", 22, 0), ("Used", 3, 1)] := by kernel_rfl
theorem eqF_cons (d : Nat) (xs ys : Array Value) (f : Field) (fs : List Field) (w : World) (a b : Value) (r : Bool) (hn : f.name ≠ "_") (hp : (part f.type xs f.offset).run Try.prog w = .ok a w) (hp2 : (part f.type ys f.offset).run Try.prog w = .ok b w) (hq : (Op.equalIn d f.type a b).run Try.prog w = .ok r w) :
    (Op.eqFields d xs ys (f :: fs)).run Try.prog w = if r then (Op.eqFields d xs ys fs).run Try.prog w else .ok false w := by
  simp only [Op.eqFields, if_pos hn, Sem.run_bind, hp, hp2, Result.andThen_ok, hq]
  cases r <;> simp
theorem eqF_nil (d : Nat) (xs ys : Array Value) (w : World) : (Op.eqFields d xs ys []).run Try.prog w = .ok true w := by simp only [Op.eqFields, Sem.run_pure]
theorem eqF (d : Nat) (a b a' b' : Int) (w : World) (f1 f2 : Field) (h1 : f1.name ≠ "_") (h2 : f2.name ≠ "_") (t1 : f1.type = 22) (t2 : f2.type = 3) (o1 : f1.offset = 0) (o2 : f2.offset = 1) :
    (Op.eqFields (d + 2) #[.int .u64 a, .int .i64 b] #[.int .u64 a', .int .i64 b'] [f1, f2]).run Try.prog w = .ok (a == a' && b == b') w := by
  have p1 : ∀ a b : Int, (part 22 #[.int .u64 a, .int .i64 b] 0).run Try.prog w = .ok (.int .u64 a) w := fun a b => by
    simp [part, isAgg, run_underlying Try.underlying22]
  have p2 : ∀ a b : Int, (part 3 #[.int .u64 a, .int .i64 b] 1).run Try.prog w = .ok (.int .i64 b) w := fun a b => by
    simp [part, isAgg, run_underlying Try.underlying3]
  have q1 : (Op.equalIn (d + 2) 22 (.int .u64 a) (.int .u64 a')).run Try.prog w = .ok (a == a') w := by
    rw [run_equalIn_int w (d + 1) 22 .u64 .u64 _ _ Try.underlying22]
  have q2 : (Op.equalIn (d + 2) 3 (.int .i64 b) (.int .i64 b')).run Try.prog w = .ok (b == b') w := by
    rw [run_equalIn_int w (d + 1) 3 .i64 .i64 _ _ Try.underlying3]
  rw [eqF_cons (d + 2) _ _ f1 _ w _ _ _ h1 (by rw [t1, o1]; exact p1 a b) (by rw [t1, o1]; exact p1 a' b') (by rw [t1]; exact q1), eqF_cons (d + 2) _ _ f2 _ w _ _ _ h2 (by rw [t2, o2]; exact p2 a b) (by rw [t2, o2]; exact p2 a' b') (by rw [t2]; exact q2), eqF_nil]
  cases a == a' <;> cases b == b' <;> rfl
theorem eq45 (d : Nat) (a b a' b' : Int) (w : World) : (Op.equalIn (d + 3) 45 (.agg #[.int .u64 a, .int .i64 b]) (.agg #[.int .u64 a', .int .i64 b'])).run Try.prog w = .ok (a == a' && b == b') w := by
  rw [run_equalIn_struct w (d + 2) 45 _ _ Try.struct45 (by kernel_rfl)]
  obtain ⟨f1, f2, e⟩ : ∃ f1 f2, (Try.prog.fieldsOf 45).toList = [f1, f2] := by
    have := congrArg List.length Try.fields45
    rw [List.length_map] at this
    match h : (Try.prog.fieldsOf 45).toList, this with
    | [f1, f2], _ => exact ⟨f1, f2, rfl⟩
  have h := Try.fields45
  rw [e] at h
  simp only [List.map_cons, List.map_nil, List.cons.injEq, Prod.mk.injEq, and_true] at h
  obtain ⟨⟨a1, a2, a3⟩, b1, b2, b3⟩ := h
  rw [e]
  exact eqF d a b a' b' w f1 f2 (by rw [a1]; simp) (by rw [b1]; simp) a2 b2 a3 b3
theorem eql45 (a b : Int) (w : World) : (Op.equalIn 10000 45 (.agg #[.int .u64 a, .int .i64 b]) (.agg #[.int .u64 0, .int .i64 0])).run Try.prog w = .ok (a == 0 && b == 0) w := eq45 9997 a b 0 0 w
theorem eqs45 (a b : Int) (w : World) : (Op.equalIn 10000 45 (.agg #[.int .u64 a, .int .i64 b]) (.agg #[.int .u64 a, .int .i64 b])).run Try.prog w = .ok true w := by
  rw [eq45 9997 a b a b w]
  simp
theorem wpList_buildU {ops : Array Oper} {rest : List Oper} {o : Oper} {a : Act} {w : World} {Q : Exit → Act → World → Prop} (hgd : o.guard = none) (x : Operand)
    (ho : o.op = .buildSlice 94 1 #[(0, x)]) {u : Int} (hx : a.eval x = .int .u64 u)
    (h : wpList Try.prog ops Q rest (a.put o.dst (.slice (some ⟨w.heap.size, 0, none⟩) 1 1)) (w.alloc (.cells #[.int .u64 u] 22))) : wpList Try.prog ops Q (o :: rest) a w := by
  obtain ⟨i0, hi, hz0, hz1, hz2⟩ := info_parts info22
  refine wpList_buildSlice hgd 94 22 1 #[(0, x)] ho #[.int .u64 u] i0 _ Try.underlying94 hi hz0 (by rw [hz1]; omega) (by rw [hz1]; omega) ?_ h
  rw [hz1]
  have h9 := Go.Great.fill_whole (s := 1) (by decide) [.int .u64 u] ((Array.range (1 * 1)).map ((Value.int .u64 0).cells[· % (Value.int .u64 0).cells.size]!)) (fun v hv => by rw [List.mem_singleton.1 hv]; rfl) (by simp)
  simpa [hx, Value.cells] using h9

set_option maxRecDepth 100000 in
set_option maxHeartbeats 8000000 in
theorem fits_any {w : World} {Av : Nat → Prop} {A : Option Addr} {n c q p : Nat} {ms : Nat → Mk} {sp s z : Int} (hr : RowsIn w Av A n 2 (fun i => (ms i).cells)) (hm : ∀ i, i < n → 0 ≤ (ms i).se) (hn : n ≤ 9223372036854775806) (S : Int)
    (hl : Lg w q p sp s z) (hb : LgB sp s z) :
    Calls Try.prog 21 #[.pointer (some ⟨q, 0, none⟩), .int .u64 S, .slice A n c] w fun e w' => FitA w w' e ((n : Int) = cnt s sp ∧ S ≤ 4611686018427387904 ∧ Good S (sp * z) ms n) := by
  have HR : Hid _ := hr
  have HM : Hid _ := hm
  obtain ⟨P, hP⟩ : ∃ P : Prop, P = ((n : Int) = cnt s sp ∧ S ≤ 4611686018427387904 ∧ Good S (sp * z) ms n) := ⟨_, rfl⟩
  rw [← hP]
  have HP : Hid _ := hP
  have k0 := hl.dp
  have k1 := hl.sp
  obtain ⟨cb1, cb2⟩ := cnt_b hb.c.2 hb.a.1
  have SEC : Hid (∀ n, Calls Try.prog 20 #[.pointer (some ⟨p, 0, none⟩)] (w.drewN n) fun e w' => e = .returned (.int .i64 s) ∧ w' = w.drewN n) := fun n => sectors_any (hl.dk.drewN n)
  have CNT : Hid (∀ w, Calls Try.prog 5 #[.int .i64 s, .int .i64 sp] w fun e w' => e = .returned (.int .i64 (cnt s sp)) ∧ w' = w) := fun w => count_any s sp (by have := hb.c; omega) (by have := hb.a; omega)
  have LG : Hid _ := hl
  have LB : Hid _ := hb
  obtain ⟨N, hN⟩ : ∃ N, N = cnt s sp := ⟨_, rfl⟩
  rw [← hN] at cb1 cb2 CNT HP
  clear hr hm hP hl hb hN
  by_cases c0 : (n : Int) = N
  · by_cases c1 : 4611686018427387904 < S
    · have NP : Hid (¬ P) := fun h => by rw [HP.out] at h; have := h.2.1; omega
      have C0 : Hid (∀ nq, Chg (fun _ => False) w (w.drewN nq)) := fun nq => ⟨rfl, rfl, rfl, Nat.le_refl _, fun _ _ _ => rfl⟩
      go_enter Try.func21, Try.ntmps21
      go_wp2_with fail
      go_quiet ((first | (go_at_call 20; refine Calls.quiet_of_same (SEC.out _)) | (go_at_call 5; refine Calls.quiet_of_same (CNT.out _))))
      go_wp2_with fail
      go_ret
      exact ⟨false, rfl, ⟨fun e => absurd e Bool.false_ne_true, fun e => absurd e NP.out⟩, C0.out _⟩
    · have PP : P = Good S (sp * z) ms n := by rw [HP.out]; exact propext ⟨fun h => h.2.2, fun h => ⟨c0, by omega, h⟩⟩
      rw [PP]
      clear PP HP
      subst c0
      have C0 : Hid (∀ nq, Chg (fun _ => False) w (w.drewN nq)) := fun nq => ⟨rfl, rfl, rfl, Nat.le_refl _, fun _ _ _ => rfl⟩
      obtain ⟨ZZ, hZZ⟩ : ∃ Z, Z = sp * z := ⟨_, rfl⟩
      rw [← hZZ]
      have HZ : Hid _ := hZZ
      clear hZZ
      go_enter Try.func21, Try.ntmps21
      go_wp2_with fail
      go_quiet ((first | (go_at_call 20; refine Calls.quiet_of_same (SEC.out _)) | (go_at_call 5; refine Calls.quiet_of_same (CNT.out _))))
      obtain ⟨W, hW⟩ : ∃ W, W = w.drewN nq := ⟨_, rfl⟩
      have CW : Hid (Chg (fun _ => False) w W) := by rw [hW]; exact C0.out nq
      rw [← hW]
      clear hW C0 k0 k1 SEC CNT
      go_wp2_with fail
      go_loopw [7, 29] (fun s7 s29 wr => ∃ (j : Nat) (v : Value), s7 = v ∧ s29 = .int .i64 j ∧ j ≤ n ∧ Hid (OU wr v (ser ms j) ∧ (∀ i, i < j → (ms i).zero ∨ (ms i).ok S ZZ) ∧ (∀ b, v.ownBlock = some b → w.heap.size ≤ b) ∧ Chg (fun _ => False) w wr)) (fun _ i _ => n - (intOf i).toNat)
      case atStart => exact ⟨0, _, rfl, rfl, Nat.zero_le _, OU.nil _, fun i hi => by omega, fun b hb => (by cases hb), CW.out⟩
      case round =>
        obtain ⟨j, v, rfl, rfl, hj, hid⟩ := hrel
        obtain ⟨ou, oks, ob, ch⟩ := hid.out
        have OUH : Hid _ := ou
        have OKS : Hid _ := oks
        have OB : Hid _ := ob
        have CH : Hid _ := ch
        clear hid ou oks ob ch
        by_cases hlt : j < n
        · obtain ⟨k, hk⟩ : ∃ k, k = ms j := ⟨_, rfl⟩
          obtain ⟨g, o, hsa, hav, hrg⟩ := HR.out j hlt
          have hrg : w.rangeAt g (o + j * 2) k.cells := by rw [hk]; exact hrg
          have hix := ix_at Try.underlying23 Try.elem23 Try.so45 (c := c) hsa hlt
          have RG : Hid (wr.rangeAt g (o + j * 2) k.cells) := rangeAt_kept hrg CH.out (fun e => e)
          have HKK : Hid _ := hk
          have k0 : 0 ≤ k.se := by rw [hk]; exact HM.out j hlt
          clear hrg hk hsa hav
          go_upto_region 7 with (first
            | refine wpList_load_mid rfl 45 (.tmp 31) rfl g (o + j * 2) rfl k.cells _ RG.out Try.underlying45 rfl (Try.mkSz k) ?_
            | (refine wpList_store_part rfl 45 (.tmp 9) (.tmp 32) rfl wr.heap.size 0 k.cells rfl rfl (t := 45) ⟨heap_alloc_new _ _⟩ (by simp [Mk.cells]) (Try.mkSz k) (k.one) ?_; intro wB hw8 hc8; rw [splice_all _ _ (by simp [Mk.cells])] at hw8; have c8 : Chg (fun _ => False) wr wB := ((Chg.refl (fun _ => False) wr).alloc _).trans hc8 (fun i e => .inr (by omega)); have BK : Hid _ := hw8; have CB : Hid _ := c8; clear hw8 hc8 c8))
          have C9 : Hid (Chg (fun _ => False) w wB) := CH.out.trans CB.out (fun _ e => e.elim)
          have q0 : wB.cell? ⟨wr.heap.size, 0, none⟩ = some (.int .u64 k.se) := BK.out.cell 0
          have q1 : wB.cell? ⟨wr.heap.size, 1, none⟩ = some (.int .i64 k.us) := BK.out.cell 1
          have OU9 : Hid (OU wB u7 (ser ms j)) := OU.kept OUH.out CB.out (fun _ _ e => e)
          clear hix CB CH RG OUH
          have EQ := eql45 k.se k.us
          have NG : Hid (¬ (k.zero ∨ (k.ok S ZZ)) → ¬ Good S ZZ ms n) := fun h h2 => h (by rw [HKK.out]; exact (h2 j hlt).imp id (fun x => x.1))
          have NX : Hid (k.zero ∨ k.ok S ZZ → ∀ i, i < j + 1 → (ms i).zero ∨ (ms i).ok S ZZ) := fun h i hi => by
            rcases Nat.lt_or_ge i j with e | e
            · exact OKS.out i e
            · have e : i = j := by omega
              rw [e, ← HKK.out]
              exact h
          by_cases zz : k.zero
          · have F : Hid (ser ms (j + 1) = ser ms j ∧ ∀ i, i < j + 1 → (ms i).zero ∨ (ms i).ok S ZZ) := ⟨by rw [ser, ← HKK.out]; exact if_pos zz, NX.out (.inl zz)⟩
            have OUN : Hid (OU wB u7 (ser ms (j + 1))) := by rw [F.out.1]; exact OU9.out
            have z0 : k.se = 0 := zz.1
            have z1 : k.us = 0 := zz.2
            go_wp2_with (refine wpList_load_part rfl 45 (.tmp 9) rfl wr.heap.size 0 [.int .u64 k.se, .int .i64 k.us] rfl BK.out rfl Try.underlying45 rfl (Try.mkSz k) ?_)
            go_roundw
            case rel => exact ⟨j + 1, _, rfl, by go_num, by omega, OUN.out, F.out.2, OB.out, C9.out⟩
            case measure => simp [intOf]; omega
          · have hz : (k.se == 0 && k.us == 0) = false := by
              rw [Bool.eq_false_iff]
              intro h
              rw [Bool.and_eq_true, beq_iff_eq, beq_iff_eq] at h
              exact zz h
            have LS : Hid (∀ n, Calls Try.prog 14 #[.pointer (some ⟨q, 0, none⟩)] (wB.drewN n) fun e w' => e = .returned (.int .i64 ZZ) ∧ ∃ m, w' = (wB.drewN n).drewN m) := fun n => by
              rw [HZ.out]
              exact lsize_any ((LG.out.kept C9.out (fun e => e) (fun e => e)).drewN n) LB.out
            have C8 : Hid (∀ nq, Chg (fun _ => False) w (wB.drewN nq)) := fun nq => ⟨C9.out.os, C9.out.tape, C9.out.output, C9.out.size, C9.out.block⟩
            by_cases y1 : k.se < 1
            · have e0 : k.se = 0 := by omega
              have u0 : ¬ k.us = 0 := fun e => zz ⟨e0, e⟩
              clear hz
              have G : Hid (¬ Good S ZZ ms n) := NG.out (fun h => by rcases h with h | h; exact zz h; have := h.1; omega)
              clear OU9 OB OKS
              go_wp2_with (refine wpList_load_part rfl 45 (.tmp 9) rfl wr.heap.size 0 [.int .u64 k.se, .int .i64 k.us] rfl BK.out rfl Try.underlying45 rfl (Try.mkSz k) ?_)
              go_quiet ((go_at_call 14; refine Calls.quiet_of (LS.out _)))
              go_wp2_with fail
              go_ret
              exact ⟨false, rfl, ⟨fun e => absurd e Bool.false_ne_true, fun e => absurd e G.out⟩, C8.out _⟩
            · by_cases y2 : S < k.se
              · have G : Hid (¬ Good S ZZ ms n) := NG.out (fun h => by rcases h with h | h; exact zz h; have := h.2.1; omega)
                clear OU9 OB OKS
                go_wp2_with (refine wpList_load_part rfl 45 (.tmp 9) rfl wr.heap.size 0 [.int .u64 k.se, .int .i64 k.us] rfl BK.out rfl Try.underlying45 rfl (Try.mkSz k) ?_)
                go_quiet ((go_at_call 14; refine Calls.quiet_of (LS.out _)))
                go_wp2_with fail
                go_ret
                exact ⟨false, rfl, ⟨fun e => absurd e Bool.false_ne_true, fun e => absurd e G.out⟩, C8.out _⟩
              · by_cases y3 : k.us < 16
                · have G : Hid (¬ Good S ZZ ms n) := NG.out (fun h => by rcases h with h | h; exact zz h; have := h.2.2.1; omega)
                  clear OU9 OB OKS
                  go_wp2_with (refine wpList_load_part rfl 45 (.tmp 9) rfl wr.heap.size 0 [.int .u64 k.se, .int .i64 k.us] rfl BK.out rfl Try.underlying45 rfl (Try.mkSz k) ?_)
                  go_quiet ((go_at_call 14; refine Calls.quiet_of (LS.out _)))
                  go_wp2_with fail
                  go_ret
                  exact ⟨false, rfl, ⟨fun e => absurd e Bool.false_ne_true, fun e => absurd e G.out⟩, C8.out _⟩
                · by_cases y4 : ZZ < k.us
                  · have G : Hid (¬ Good S ZZ ms n) := NG.out (fun h => by rcases h with h | h; exact zz h; have := h.2.2.2; omega)
                    clear OU9 OB OKS
                    go_wp2_with (refine wpList_load_part rfl 45 (.tmp 9) rfl wr.heap.size 0 [.int .u64 k.se, .int .i64 k.us] rfl BK.out rfl Try.underlying45 rfl (Try.mkSz k) ?_)
                    go_quiet ((go_at_call 14; refine Calls.quiet_of (LS.out _)))
                    go_wp2_with fail
                    go_ret
                    exact ⟨false, rfl, ⟨fun e => absurd e Bool.false_ne_true, fun e => absurd e G.out⟩, C8.out _⟩
                  · have F : Hid (ser ms (j + 1) = ser ms j ++ [k.se] ∧ ∀ i, i < j + 1 → (ms i).zero ∨ (ms i).ok S ZZ) := ⟨by rw [ser, ← HKK.out]; exact if_neg zz, NX.out (.inr ⟨by omega, by omega, by omega, by omega⟩)⟩
                    go_wp2_with (refine wpList_load_part rfl 45 (.tmp 9) rfl wr.heap.size 0 [.int .u64 k.se, .int .i64 k.us] rfl BK.out rfl Try.underlying45 rfl (Try.mkSz k) ?_)
                    go_quiet ((go_at_call 14; refine Calls.quiet_of (LS.out _)))
                    obtain ⟨V, hV⟩ : ∃ V, V = wB.drewN nq := ⟨_, rfl⟩
                    have CV : Hid (Chg (fun _ => False) w V) := by rw [hV]; exact C8.out nq
                    have ouV : OU V u7 (ser ms j) := by rw [hV]; exact OU.kept OU9.out (S := fun _ => False) ⟨rfl, rfl, rfl, Nat.le_refl _, fun _ _ _ => rfl⟩ (fun _ _ e => e)
                    have vq : V.cell? ⟨wr.heap.size, 0, none⟩ = some (.int .u64 k.se) := by rw [hV]; exact q0
                    rw [← hV]
                    obtain ⟨v', w', ha, ho', hc', hb'⟩ := OU.add ouV k.se (by have := ser_len ms j; omega) 94
                    have HA : Hid _ := ha
                    have R : Hid (OU w' v' (ser ms (j + 1)) ∧ (∀ b, v'.ownBlock = some b → w.heap.size ≤ b) ∧ Chg (fun _ => False) w w') := by
                      refine ⟨by rw [F.out.1]; exact ho', fun b hb => ?_, CV.out.trans hc' (fun b hb => .inr (OB.out b hb))⟩
                      rcases hb' with e | ⟨q, e, e2⟩
                      · exact OB.out b (by rw [← e]; exact hb)
                      · rw [e] at hb
                        cases hb
                        exact Nat.le_trans CV.out.size e2
                    clear hV ha ho' hc' hb' q0 q1 ouV C8 C9 OU9 LS BK EQ
                    go_wp2_with (first | refine wpList_buildU rfl (.tmp 59) rfl rfl ?_ | refine wpList_appG (sl := 94) rfl (.tmp 57) (.tmp 60) rfl (v := u7) (u := .slice (some ⟨V.heap.size, 0, none⟩) 1 1) (v' := v') (w' := w') rfl rfl HA.out ?_)
                    go_roundw
                    case rel => exact ⟨j + 1, _, rfl, by go_num, by omega, R.out.1, F.out.2, R.out.2⟩
                    case measure => simp [intOf]; omega
        · have e : j = n := by omega
          have SG : Hid ((ser ms j).Nodup ↔ Good S ZZ ms n) := by
            rw [← e]
            exact ser_good j OKS.out
          have ll := ser_len ms j
          obtain ⟨l, hl⟩ : ∃ l, l = ser ms j := ⟨_, rfl⟩
          have ou : OU wr u7 l := by rw [hl]; exact OUH.out
          rw [← hl] at SG ll
          clear hl OUH OKS
          rcases ou.ru with ⟨rfl, rfl⟩ | ⟨g, cap, rfl, hru, hcap, hcap2⟩
          · have G : Hid (Good S ZZ ms n) := SG.out.1 List.nodup_nil
            have S1 : Hid _ := sort_nil (w := wr) (cap := 0)
            have S2 : Hid _ := cpt_nil (w := wr) (cap := 0)
            clear ou ll
            go_wp2_with (first | (go_at_call 28; refine Calls.mono S1.out ?_; rintro r w1 ⟨rfl, rfl⟩) | (go_at_call 29; refine Calls.mono S2.out ?_; rintro r w1 ⟨rfl, rfl⟩))
            go_ret
            exact ⟨true, rfl, ⟨fun _ => G.out, fun _ => rfl⟩, CH.out⟩
          · have gB := OB.out g rfl
            obtain ⟨m, hm⟩ : ∃ m, m = l.length := ⟨_, rfl⟩
            have hm2 : m < 65536 := by omega
            have S1 : Hid _ := sort_any (cap := cap) (n := m) hru (by rw [hm]; simp) hm2
            obtain ⟨R, hR⟩ : ∃ R, R = Sort.pdq ltI l.toArray 0 m (Sort.bitsLen m) true true := ⟨_, rfl⟩
            have HA : Hid (Apart R m ↔ Good S ZZ ms n) := by
              show Apart R m ↔ _
              rw [hR, hm, sort_apart]
              exact SG.out
            rw [← hR] at S1
            have S2 : Hid (∀ w1, PS wr g m R w1 → Calls Try.prog 29 #[.slice (some ⟨g, 0, none⟩) m cap] w1 fun r w' => ∃ m' c, r = .returned (.slice (some ⟨g, 0, none⟩) m' c) ∧ (m' = m ↔ Good S ZZ ms n) ∧ m' < 65536 ∧ Chg (fun _ => False) w w') := fun w1 h => Calls.mono (cpt_any h.1 h.2.1 hm2 (by omega) hcap2) (fun r w' ⟨m', c, a1, a2, a3, a4⟩ => ⟨m', c, a1, a2.trans HA.out, a3, CH.out.trans (h.2.2.trans a4 (fun _ e => .inl e)) (fun i e => .inr (by rw [e]; exact gB))⟩)
            rw [← hm]
            clear ou ll hru hR HA SG hcap hcap2 OB hm
            go_wp2_with (first | (go_at_call 28; refine Calls.mono S1.out ?_; rintro r w1 ⟨rfl, hw1⟩) | (go_at_call 29; refine Calls.mono (S2.out _ hw1) ?_; rintro r w2 ⟨m', c', rfl, hiff, hm', hch⟩; have HI : Hid _ := hiff; have HC2 : Hid _ := hch; clear hiff hch))
            go_ret
            exact ⟨(m' : Int) == (m : Int), rfl, by rw [beq_iff_eq, Int.ofNat_inj]; exact HI.out, HC2.out⟩
  · have NP : Hid (¬ P) := fun h => by rw [HP.out] at h; exact c0 h.1
    have C0 : Hid (∀ nq, Chg (fun _ => False) w (w.drewN nq)) := fun nq => ⟨rfl, rfl, rfl, Nat.le_refl _, fun _ _ _ => rfl⟩
    go_enter Try.func21, Try.ntmps21
    go_wp2_with fail
    go_quiet ((first | (go_at_call 20; refine Calls.quiet_of_same (SEC.out _)) | (go_at_call 5; refine Calls.quiet_of_same (CNT.out _))))
    go_wp2_with fail
    go_ret
    exact ⟨false, rfl, ⟨fun e => absurd e Bool.false_ne_true, fun e => absurd e NP.out⟩, C0.out _⟩
end Go.Proofs.Ytnfcmpffihmnmaa
