/-
  The walk of HeapTurns.
-/
import Derived.Test.YtljnpgomdohplaaLaw3
import Derived.Deep.RegionWith
namespace Go.Proofs.Ytljnpgomdohplaa
open Go.RowKit

theorem Chg.drewn {S : Nat → Prop} {a w : World} (h : Chg S a w) (n : Nat) : Chg S a (w.drewN n) := ⟨h.os, h.tape, h.output, h.size, h.block⟩

/-- Between two turns. -/
structure TI (W wr : World) (p : Nat → Nat) (A B b : Nat) (v : Nat → Value) (H : Nat → List E) (came : Nat → Nat) (lv : Nat → Value) (l : Nat → List (Int × Int)) : Prop where
  l3 : L3 W wr p v H came lv l A B
  cm : ∀ i, i < 3 → came i ≤ b

theorem upd_le {came : Nat → Nat} {t c b b' : Nat} (h : ∀ i, i < 3 → came i ≤ b) (hb : b ≤ b') (hc : c ≤ b') : ∀ i, i < 3 → upd came t c i ≤ b' := fun i hi => by
  by_cases e : i = t
  · subst e; rw [upd_same]; exact hc
  · rw [upd_other _ e]; exact Nat.le_trans (h i hi) hb

set_option maxRecDepth 100000 in
set_option maxHeartbeats 8000000 in
theorem turns_any {W : World} {a : Option Addr} {N cap : Nat} {st : Nat → Tn} {bud : Nat → Nat} (hs : Scr W a N st bud) :
    Calls Try.prog 6 #[.slice a N cap] W fun e w' => e = .returned (.bool true) ∧ Below W.heap.size W w' := by
  have HS : Hid _ := hs
  have hN : N ≤ 1048576 := hs.len
  have NW : Hid _ := fun w => new_any (f := fB false) (.inr ⟨11, _, rfl⟩) w
  have NN : Hid _ := fun w => new_any (f := fB true) (.inl rfl) w
  unfold fB at NW NN
  simp only [Bool.false_eq_true, if_false, if_true] at NW NN
  clear hs
  go_enter Try.func6, Try.ntmps6
  go_wp2_with fail
  refine Calls.mono (NW.out W) ?_
  rintro e w1 ⟨rfl, hq1, ch1⟩
  have Q1 : Hid _ := hq1
  have C1 : Hid _ := ch1
  clear hq1 ch1
  go_wp2_with fail
  refine Calls.mono (NW.out w1) ?_
  rintro e w2 ⟨rfl, hq2, ch2⟩
  have Q2 : Hid _ := hq2
  have C2 : Hid _ := ch2
  clear hq2 ch2
  go_wp2_with fail
  refine Calls.mono (NN.out w2) ?_
  rintro e w3 ⟨rfl, hq3, ch3⟩
  have Q3 : Hid _ := hq3
  have C3 : Hid _ := ch3
  clear hq3 ch3 NW NN
  go_wp2_with fail
  have l3 : L3 W ((w3.alloc (.cells #[.pointer (some ⟨W.heap.size, 0, none⟩), .pointer (some ⟨w1.heap.size, 0, none⟩), .pointer (some ⟨w2.heap.size, 0, none⟩)] 47)).alloc (.cells #[.slice none 0 0, .slice none 0 0, .slice none 0 0] 48))
      (sel W.heap.size w1.heap.size w2.heap.size) (fun _ => .slice none 0 0) (fun _ => []) (fun _ => 0) (fun _ => .slice none 0 0) (fun _ => []) w3.heap.size (w3.heap.size + 1) :=
    L3.made Q1.out C1.out Q2.out C2.out Q3.out C3.out (Nat.le_refl _) (by omega) (by omega) (((Chg.refl _ _).alloc _).alloc _)
      ((Blk.made w3 [.pointer (some ⟨W.heap.size, 0, none⟩), .pointer (some ⟨w1.heap.size, 0, none⟩), .pointer (some ⟨w2.heap.size, 0, none⟩)] 47).alloc _)
      (by have h := Blk.made (w3.alloc (.cells #[.pointer (some ⟨W.heap.size, 0, none⟩), .pointer (some ⟨w1.heap.size, 0, none⟩), .pointer (some ⟨w2.heap.size, 0, none⟩)] 47)) [.slice none 0 0, .slice none 0 0, .slice none 0 0] 48
          rwa [World.size_alloc] at h)
  obtain ⟨w4, hw4⟩ : ∃ w4, w4 = ((w3.alloc (.cells #[.pointer (some ⟨W.heap.size, 0, none⟩), .pointer (some ⟨w1.heap.size, 0, none⟩), .pointer (some ⟨w2.heap.size, 0, none⟩)] 47)).alloc (.cells #[.slice none 0 0, .slice none 0 0, .slice none 0 0] 48)) := ⟨_, rfl⟩
  rw [← hw4] at l3 ⊢
  obtain ⟨A, hA⟩ : ∃ A, A = w3.heap.size := ⟨_, rfl⟩
  obtain ⟨B, hB⟩ : ∃ B, B = w3.heap.size + 1 := ⟨_, rfl⟩
  rw [← hB, ← hA] at l3 ⊢
  obtain ⟨p, v, H, came, lv, l, h3, hH, hcm0⟩ : ∃ p v H came lv l, L3 W w4 p v H came lv l A B ∧ (∀ i, H i = []) ∧ ∀ i, came i = 0 := ⟨_, _, _, _, _, _, l3, fun _ => rfl, fun _ => rfl⟩
  have L0 : Hid _ := h3
  have HH : Hid _ := hH
  have CM : Hid _ := hcm0
  clear l3 hw4 hA hB Q1 Q2 Q3 C1 C2 C3 h3 hH hcm0
  go_wp2_with fail
  go_loopg [5] 4 (fun gk si wr => ∃ j : Nat, si = .int .i64 j ∧ j ≤ 3 ∧ 3 < gk + j ∧ w4 = wr)
  case atStart => exact ⟨0, rfl, by omega, by omega, rfl⟩
  case round =>
    obtain ⟨j, rfl, hj, hgk, hw9⟩ := hrel
    subst hw9
    by_cases h0 : j = 3
    · subst h0
      go_wp2_with fail
      go_loopg [6] (N + 1) (fun gk si wr => ∃ j : Nat, si = .int .i64 j ∧ j ≤ N ∧ N < gk + j ∧ Hid (∃ v H came lv l, TI W wr p A B (bud j) v H came lv l))
      case atStart => exact ⟨0, rfl, by omega, by omega, v, H, came, lv, l, L0.out, fun i _ => by rw [CM.out i]; omega⟩
      case round =>
        obtain ⟨j, rfl, hj, hgk, hti⟩ := hrel
        clear L0 HH CM
        obtain ⟨v, H, came, lv, l, ti⟩ := hti.out
        clear hti
        by_cases h0 : j = N
        · subst h0
          have TI0 : Hid _ := ti
          have htot := HS.out.tot j (by omega)
          clear ti
          go_wp2_with fail
          go_loopg [10] 4 (fun gk sk wr => ∃ k : Nat, sk = .int .i64 k ∧ k ≤ 3 ∧ 3 < gk + k ∧ Hid (∃ v H came lv l, TI W wr p A B (bud j) v H came lv l))
          case atStart => exact ⟨0, rfl, by omega, by omega, v, H, came, lv, l, TI0.out⟩
          case round =>
            obtain ⟨k, rfl, hk, hgk, hti⟩ := hrel
            clear TI0
            obtain ⟨v, H, came, lv, l, ti⟩ := hti.out
            clear hti
            by_cases h0 : k = 3
            · subst h0
              have CH : Hid _ := ti.l3.m.ch
              clear ti
              go_wp2_with fail
              go_ret
              exact ⟨rfl, CH.out.below (Nat.le_refl _) (fun _ h => h.elim)⟩
            · have hk' : k < 3 := by omega
              have hki : (k : Int) < 3 := by omega
              have a0 := ti.l3.acell (j := k) hk'
              have b0 := ti.l3.bcell (j := k) hk'
              have hts := ti.l3.m.ts k hk'
              obtain ⟨la, lc, hlv⟩ := hts.own.form
              obtain ⟨n, hn⟩ : ∃ x, x = (l k).length := ⟨_, rfl⟩
              rw [hlv, ← hn] at b0
              obtain ⟨pt, hpt⟩ : ∃ x, x = p k := ⟨_, rfl⟩
              rw [← hpt] at a0
              have LN : Hid (∀ m, Calls Try.prog 12 #[.pointer (some ⟨pt, 0, none⟩)] (wr.drewN m) fun e w' => e = .returned (.int .i64 n) ∧ w' = wr.drewN m) := fun m => by
                have h := (len_any ((ti.l3.keep ((Chg.refl _ _).drewn m)).m.ts k hk').hq)
                rw [hts.len, ← hn, ← hpt] at h
                exact h.mono (fun _ _ ⟨h1, h2⟩ => ⟨h1, h2.symm⟩)
              have hnn : ((n : Int) != (n : Int)) = false := by simp
              have TI0 : Hid _ := ti
              have HN : Hid _ := hn
              have HP : Hid _ := hpt
              clear ti hts hlv hn hpt
              go_upto_region 20 with fail
              go_quiet ((go_at_call 12; refine Calls.quiet_of_same (LN.out _)))
              go_wp2_with fail
              go_loopg [11] (n + 1) (fun gk s wq => ∃ m : Nat, m < gk ∧ Hid (∃ v H came lv l, m = (l k).length ∧ TI W wq p A B (bud j) v H came lv l))
              case atStart => exact ⟨n, by omega, v, H, came, lv, l, HN.out, ⟨TI0.out.l3.keep ((Chg.refl _ _).drewn _), TI0.out.cm⟩⟩
              case round =>
                obtain ⟨m, hm, hti⟩ := hrel
                clear TI0 LN HN hnn a0 b0
                obtain ⟨v, H, came, lv, l, hml, ti⟩ := hti.out
                clear hti
                have a0 := ti.l3.acell (j := k) hk'
                have b0 := ti.l3.bcell (j := k) hk'
                rw [← HP.out] at a0
                have hts := (ti.l3.keep ((Chg.refl _ _).drew)).m.ts k hk'
                obtain ⟨la, lc, hlv⟩ := hts.own.form
                rw [hlv, ← hml] at b0
                by_cases hm0 : m = 0
                · have hH : H k = [] := List.eq_nil_of_length_eq_zero (by rw [hts.len]; omega)
                  have hq := (ti.l3.m.ts k hk').hq
                  rw [hH, ← HP.out] at hq
                  have PN : Hid _ := pop_none hq
                  subst hm0
                  have TI0 : Hid _ := ti
                  unfold two at PN
                  clear hq hH hts hlv ti hml
                  go_wp2_with (go_at_call 16; refine Calls.mono PN.out ?_; rintro e w9 ⟨rfl, ch9⟩; have C9 : Hid _ := ch9; clear ch9)
                  go_roundg (3 - k)
                  case measure => omega
                  case rel => exact ⟨k + 1, by go_num, by omega, by omega, v, H, came, lv, l, TI0.out.l3.keep (C9.out.alloc _), TI0.out.cm⟩
                · have hm1 : (0 : Int) < (m : Int) := by omega
                  obtain ⟨all, hall⟩ : ∃ all, decide (k = 2) = all := ⟨_, rfl⟩
                  have hall2 : ((k : Int) == 2) = all := by rw [← hall]; by_cases e : k = 2 <;> simp [e] <;> omega
                  rw [hall] at hts
                  have hcmt := ti.cm k hk'
                  have TA0 := turn_pop hts (by omega) (kind := 3) (which := 0) (s := .slice none 0 0) (L := []) (.inl ⟨rfl, rfl⟩) (fun _ h _ => absurd rfl h) (by simp; omega) rfl
                  rw [hlv, ← hml, ← HP.out] at TA0
                  have TA : Hid _ := TA0
                  have HLV : Hid _ := hlv
                  have HA : Hid _ := hall
                  have HML : Hid _ := hml
                  have TI0 : Hid _ := ti
                  clear TA0 hlv hall hml ti hts
                  go_upto_region 23 with fail
                  go_region_with (go_at_call 25; refine Calls.mono TA.out ?_; rintro e w9 ⟨lv', rfl, tp⟩; have TP9 : Hid _ := tp; clear tp)
                  all_goals (
                    obtain ⟨v', H', l', ts', hch', hv', hl', hlen'⟩ := TP9.out
                    obtain ⟨la', lc', hlv'⟩ := ts'.own.form
                    obtain ⟨n', hn'⟩ : ∃ x, x = l'.length := ⟨_, rfl⟩
                    rw [← hn'] at hlv'
                    subst hlv'
                    have hl3 := TI0.out.l3.keep ((Chg.refl _ _).drew)
                    rw [HP.out] at hch' ts'
                    rw [HML.out, ← HLV.out] at hl'
                    rw [← HA.out] at ts'
                    have hbb := hl3.bb' hk' hch'
                    have b9 := L3.bcell' hbb hk'
                    rw [HLV.out] at b9
                    have f9 := hbb.fr k
                    have hnm : n' < m := by have := HML.out; omega
                    have L9 : Hid (∃ v H came lv l, n' = (l k).length ∧ TI W (w9.setCell ⟨B, k, none⟩ (.slice la' n' lc')) p A B (bud j) v H came lv l) := ⟨_, _, _, _, upd l k l', by rw [upd_same]; exact hn', hl3.turnx hk' ts' hch' hv' hl', upd_le TI0.out.cm (Nat.le_refl _) hcmt⟩
                    clear hbb hl3 ts' hch' hv' hl' hn' hlen' TP9 TA HLV HML HA hall2 a0 b0
                    go_wp2_with fail
                    go_roundg m
                    case measure => omega
                    case rel => exact ⟨n', hnm, L9⟩)
        · have hjN : (j : Int) < (N : Int) := by omega
          obtain ⟨g, o, rfl, e0, e1, e2⟩ := HS.out.row j (by omega)
          obtain ⟨T, hT⟩ : ∃ T, st j = T := ⟨_, rfl⟩
          have hth := HS.out.ths j (by omega)
          have hadd := HS.out.add j (by omega)
          have htot := HS.out.tot (j + 1) (by omega)
          rw [hT] at e0 e1 e2 hth hadd
          obtain ⟨kind, which, s, L⟩ := T
          simp only at e0 e1 e2 hth hadd
          obtain ⟨sa, sc, rfl⟩ := hth.form
          have lg : g < W.heap.size := World.block_lt_of_cell? _ _ e0
          have hb : wr.heap[g]? = W.heap[g]? := ti.l3.m.ch.block g lg (fun h => h)
          have d0 : wr.cell? ⟨g, o + j * 3, none⟩ = some (.int .i64 kind) := (World.cell?_of_block (a := ⟨g, o + j * 3, none⟩) hb).trans e0
          have d1 : wr.cell? ⟨g, o + j * 3 + 1, none⟩ = some (.int .i64 which) := (World.cell?_of_block (a := ⟨g, o + j * 3 + 1, none⟩) hb).trans e1
          have d2 : wr.cell? ⟨g, o + j * 3 + 2, none⟩ = some (.slice sa L.length sc) := (World.cell?_of_block (a := ⟨g, o + j * 3 + 2, none⟩) hb).trans e2
          obtain ⟨t, hbt, ht3⟩ : ∃ t : Nat, bits .and .i64 which 3 = (t : Int) ∧ t ≤ 3 := ⟨(which % 4).toNat, by rw [and3]; omega, by omega⟩
          clear e0 e1 e2 hb hT
          have TI0 : Hid _ := ti
          have TH : Hid _ := hth
          clear ti hth
          by_cases ht : t = 3
          · subst ht
            go_wp2_with fail
            go_roundg (N - j)
            case measure => omega
            case rel => exact ⟨j + 1, by go_num, by omega, by omega, v, H, came, lv, l, TI0.out.l3, fun i hi => by have := TI0.out.cm i hi; omega⟩
          · have ht' : t < 3 := by omega
            have hti : (t : Int) < 3 := by omega
            have ht2 : ((t : Int) == 3) = false := by simp; omega
            go_upto_region 13 with fail
            have hl3 := TI0.out.l3
            have a0 := hl3.acell (j := t) ht'
            have b0 := hl3.bcell (j := t) ht'
            have hts := (hl3.keep ((Chg.refl _ _).drew)).m.ts t ht'
            obtain ⟨la, lc, hlv⟩ := hts.own.form
            obtain ⟨all, hall⟩ : ∃ all, decide (t = 2) = all := ⟨_, rfl⟩
            have hall2 : ((t : Int) == 2) = all := by rw [← hall]; by_cases e : t = 2 <;> simp [e] <;> omega
            rw [hall] at hts
            have hcmt := TI0.out.cm t ht'
            have TA0 := turn_all hts (kind := kind) (which := which) (Ths.keep TH.out (hl3.m.ch.trans ((Chg.refl (fun _ => False) wr).drew) (fun _ h => h.elim)) (fun _ _ h => h)) (fun k hL hk => by
              have hlow := Ths.low TH.out hL k hk
              refine ⟨fun e => ?_, fun e => ?_⟩
              · have := hl3.m.lp t ht'; omega
              · have := hl3.m.nv t ht' k e.symm; omega) (by omega)
            rw [hlv] at b0 TA0
            obtain ⟨pt, hpt⟩ : ∃ x, x = p t := ⟨_, rfl⟩
            rw [← hpt] at a0 TA0
            obtain ⟨n, hn⟩ : ∃ x, x = (l t).length := ⟨_, rfl⟩
            rw [← hn] at b0 TA0
            have TA : Hid _ := TA0
            have HLV : Hid _ := hlv
            have HP : Hid _ := hpt
            have HN : Hid _ := hn
            have HA : Hid _ := hall
            clear TA0 hlv hpt hn hall hts hl3
            go_region_with (go_at_call 25; refine Calls.mono TA.out ?_; rintro e w9 ⟨lv', rfl, tp⟩; have TP9 : Hid _ := tp; clear tp)
            all_goals (
              obtain ⟨v', H', came', l', ts', hcm', hch', hv', hl'⟩ := TP9.out
              obtain ⟨la', lc', hlv'⟩ := ts'.own.form
              obtain ⟨n', hn'⟩ : ∃ x, x = l'.length := ⟨_, rfl⟩
              rw [← hn'] at hlv'
              subst hlv'
              have hl3 := TI0.out.l3.keep ((Chg.refl _ _).drew)
              rw [HP.out] at hch' ts'
              rw [HN.out, ← HLV.out] at hl'
              rw [← HA.out] at ts'
              have hbb := hl3.bb' ht' hch'
              have b9 := L3.bcell' hbb ht'
              rw [HLV.out, ← HN.out] at b9
              have f9 := hbb.fr t
              have L9 : Hid (∃ v H came lv l, TI W (w9.setCell ⟨B, t, none⟩ (.slice la' n' lc')) p A B (bud (j + 1)) v H came lv l) := ⟨_, _, _, _, _, hl3.turnx ht' ts' hch' hv' hl', upd_le TI0.out.cm (by omega) (by omega)⟩
              clear hbb hl3 ts' hch' hv' hl' hn' TP9 TA HLV HN HP HA hall2 a0 b0 d0 d1 d2 hcm' hbt
              go_wp2_with fail
              go_roundg (N - j)
              case measure => omega
              case rel => exact ⟨j + 1, by go_num, by omega, by omega, L9⟩)
    · have hj3 : (j : Int) < 3 := by omega
      have a0 := L0.out.acell (j := j) (by omega)
      have LN : Hid (Calls Try.prog 12 #[.pointer (some ⟨p j, 0, none⟩)] w4 fun e w' => e = .returned (.int .i64 0) ∧ w4 = w') := by
        have h := len_any (L0.out.m.ts j (by omega)).hq
        rw [HH.out j] at h
        exact h
      go_wp2_with (go_at_call 12; refine Calls.mono LN.out ?_; rintro e w9 ⟨rfl, h9⟩; subst h9)
      go_roundg (3 - j)
      case measure => omega
      case rel => exact ⟨j + 1, by go_num, by omega, by omega, rfl⟩

end Go.Proofs.Ytljnpgomdohplaa
