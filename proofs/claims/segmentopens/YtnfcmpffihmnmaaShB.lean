/-
  Open: the reference's.
-/
import Derived.Test.YtnfcmpffihmnmaaShA
namespace Go.Proofs.Ytnfcmpffihmnmaa
open Go.RowKit

/-- A log of the reference that was opened. -/
def RfOk (B : Nat) (w' : World) (p : Nat) (sp S : Int) (n : Nat) (ms : Nat → Mk) (q : Nat) : Prop := ∃ A cc H hcc, Blk w' q (rlC p sp S A n cc H hcc) 73 ∧ NL w' B A n 2 (mF ms) ∧ NL w' B H n 1 bF

set_option maxRecDepth 100000 in
set_option maxHeartbeats 4000000 in
theorem xopen_any {w : World} {Av : Nat → Prop} {A : Option Addr} {n c p : Nat} {ms : Nat → Mk} {sp s z : Int} (hr : RowsIn w Av A n 2 (mF ms)) (hm : ∀ i, i < n → 0 ≤ (ms i).se) (hn : n ≤ 9223372036854775806) (S : Int)
    (hd : Dk w p s z) (hz : 128 ≤ z ∧ z ≤ 4096) (hs : 1 ≤ s ∧ s ≤ 65536) (hsp : -9223372036854775808 ≤ sp ∧ sp ≤ 9223372036854775807) :
    Calls Try.prog 10 #[.pointer (some ⟨p, 0, none⟩), .int .i64 sp, .int .u64 S, .slice A n c] w fun e w' => OpA w w' e (opE s z sp S ms n) (RfOk w.heap.size w' p sp S n ms) := by
  obtain ⟨E, hE⟩ : ∃ E, E = opE s z sp S ms n := ⟨_, rfl⟩
  rw [← hE]
  have HE : Hid _ := hE
  clear hE
  have C0 : Hid (Chg (fun _ => False) w w) := Chg.refl _ _
  have k0 := hd.s
  have k1 := hd.z
  have CNT : Hid (Calls Try.prog 6 #[.int .i64 s, .int .i64 sp] w fun e w' => e = .returned (.int .i64 (cnt s sp)) ∧ w' = w) := xcount_any s sp (by omega) hsp
  obtain ⟨M, hM⟩ : ∃ M, M = cnt s sp := ⟨_, rfl⟩
  rw [← hM] at CNT
  have HM : Hid _ := hM
  clear hM
  by_cases c1 : sp < 2
  · have e : E = 50 := by rw [HE.out]; exact opE_span (.inl c1)
    subst e
    clear HE hr hm hd
    go_enter Try.func10, Try.ntmps10
    go_wp2_with (go_at_call 6; refine Calls.mono CNT.out ?_; rintro e w1 ⟨rfl, hw1⟩; replace hw1 := hw1.symm; subst hw1)
    refine bodyPost_ret (results_tt rfl _ _) rfl ?_
    exact OpA.no (by decide) C0.out
  · by_cases c2 : 1024 < sp
    · have e : E = 50 := by rw [HE.out]; exact opE_span (.inr c2)
      subst e
      clear HE hr hm hd
      go_enter Try.func10, Try.ntmps10
      go_wp2_with (go_at_call 6; refine Calls.mono CNT.out ?_; rintro e w1 ⟨rfl, hw1⟩; replace hw1 := hw1.symm; subst hw1)
      refine bodyPost_ret (results_tt rfl _ _) rfl ?_
      exact OpA.no (by decide) C0.out
    · by_cases c3 : M < 2
      · have e : E = 30 := by rw [HE.out]; exact opE_size ⟨by omega, by omega⟩ (by rw [← HM.out]; exact c3)
        subst e
        clear HE hr hm hd
        go_enter Try.func10, Try.ntmps10
        go_wp2_with (go_at_call 6; refine Calls.mono CNT.out ?_; rintro e w1 ⟨rfl, hw1⟩; replace hw1 := hw1.symm; subst hw1)
        refine bodyPost_ret (results_tt rfl _ _) rfl ?_
        exact OpA.no (by decide) C0.out
      · have lb : LgB sp s z := ⟨⟨by omega, by omega⟩, hz, hs⟩
        have m1 := lb.m.1
        have m2 := lb.m.2
        obtain ⟨ZZ, hZ⟩ : ∃ Z, Z = sp * z := ⟨_, rfl⟩
        have FT : Hid _ := fit_any (c := c) hr hn hm M ZZ S
        have HZ : Hid _ := hZ
        have RO : Hid (RowsIn w (fun g => g < w.heap.size) A n 2 (mF ms)) := hr.old (fun _ e => by cases e)
        clear hr hm hd
        go_enter Try.func10, Try.ntmps10
        go_upto_region 6 with (go_at_call 6; refine Calls.mono CNT.out ?_; rintro e w1 ⟨rfl, hw1⟩; replace hw1 := hw1.symm; subst hw1)
        rw [← hZ] at m1 m2
        go_upto_if 28 with (go_at_call 24; rw [← hZ]; refine Calls.mono FT.out ?_; rintro e w1 ⟨b, rfl, hiff, hch⟩; have HI : Hid _ := hiff; have CH : Hid _ := hch; clear hiff hch)
        have CC : Hid (Chg (fun _ => False) w w1) := CH.out
        cases b
        · have e : E = 54 := by
            rw [HE.out]
            refine opE_marks ⟨by omega, by omega⟩ (by rw [← HM.out]; omega) (fun h => absurd (HI.out.2 ?_) Bool.false_ne_true)
            rw [HM.out, HZ.out]
            exact h
          subst e
          clear HE HI RO FT
          go_wp2_with fail
          refine bodyPost_ret (results_tt rfl _ _) rfl ?_
          exact OpA.no (by decide) CC.out
        · have stp := HI.out.1 rfl
          have e : E = 0 := by
            rw [HE.out]
            refine opE_ok ⟨by omega, by omega⟩ (by rw [← HM.out]; omega) ?_
            rw [HM.out, HZ.out] at stp
            exact stp
          have n1 : n ≤ 32767 := by
            have := (cnt_b hs.2 (show 2 ≤ sp by omega)).2
            rw [← HM.out] at this
            have := stp.1
            omega
          have hMn := stp.1
          obtain ⟨g0, o0, ha, _⟩ := RO.out 0 (by omega)
          obtain ⟨a, haa⟩ : ∃ a : Addr, a = ⟨g0, o0, none⟩ := ⟨_, rfl⟩
          rw [← haa] at ha
          subst ha
          clear haa stp
          subst hMn
          have hmk := mk54 n (by omega)
          obtain ⟨r, hrr⟩ : ∃ r, r = w1.heap.size + 1 := ⟨_, rfl⟩
          obtain ⟨W2, hW2⟩ : ∃ W, W = (w1.alloc (.cells (madeCells #[.bool false] n) 4)).alloc (.cells #[.pointer (some ⟨p, 0, none⟩), .int .i64 sp, .int .u64 S, .slice none 0 0, .slice (some ⟨w1.heap.size, 0, none⟩) n n, .int .i64 0] 73) := ⟨_, rfl⟩
          have c2 : Chg (fun _ => False) w1 W2 := by rw [hW2]; exact ((Chg.refl _ _).alloc _).alloc _
          have nl : NL W2 w.heap.size (some ⟨w1.heap.size, 0, none⟩) n 1 bF := by
            rw [hW2]
            exact NL.mono (NL.kept (nl_made w1 n) ((Chg.refl (fun _ => False) _).alloc _) (fun _ _ e => e)) CC.out.size
          have br : Blk W2 r [.pointer (some ⟨p, 0, none⟩), .int .i64 sp, .int .u64 S, .slice none 0 0, .slice (some ⟨w1.heap.size, 0, none⟩) n n, .int .i64 0] 73 := by
            have := Blk.made (w1.alloc (.cells (madeCells #[.bool false] n) 4)) [.pointer (some ⟨p, 0, none⟩), .int .i64 sp, .int .u64 S, .slice none 0 0, .slice (some ⟨w1.heap.size, 0, none⟩) n n, .int .i64 0] 73
            rw [World.size_alloc, ← hrr] at this
            rw [hW2]
            exact this
          obtain ⟨W3, hW3⟩ : ∃ W, W = W2.alloc (.cells #[] 45) := ⟨_, rfl⟩
          have c3' : Chg (fun _ => False) W2 W3 := by rw [hW3]; exact (Chg.refl _ _).alloc _
          have c13 : Chg (fun _ => False) w W3 := (CC.out.trans c2 (fun _ e => e.elim)).trans c3' (fun _ e => e.elim)
          obtain ⟨cc, W4, r1, r2, r3⟩ := app_fresh (c := c) Try.underlying23 info45 (mF_len ms) (RO.out.kept c13 (fun _ _ e => e)) (by omega) (by omega) (by omega) W2.heap.size 23
          have b4 : Blk W4 r [.pointer (some ⟨p, 0, none⟩), .int .i64 sp, .int .u64 S, .slice none 0 0, .slice (some ⟨w1.heap.size, 0, none⟩) n n, .int .i64 0] 73 := (br.keep c3' (fun e => e)).keep r3 (fun e => e)
          have rlt := br.lt
          have x3 : W4.cell? ⟨r, 3, none⟩ = some (.slice none 0 0) := b4.cell 3
          have f3 : W4.frozen? ⟨r, 3, none⟩ = false := b4.fr 3
          have R1 : Hid _ := r1
          have s0 := CC.out.size
          have s1 := c3'.size
          have FIN : Hid (OpA w (W4.setCell ⟨r, 3, none⟩ (.slice (some ⟨W3.heap.size, 0, none⟩) n cc)) (.returned (.tuple #[.pointer (some ⟨r, 0, none⟩), .int .i64 0])) 0 (RfOk w.heap.size (W4.setCell ⟨r, 3, none⟩ (.slice (some ⟨W3.heap.size, 0, none⟩) n cc)) p sp S n ms)) := by
            have c5 : Chg (fun k => k = r) W4 (W4.setCell ⟨r, 3, none⟩ (.slice (some ⟨W3.heap.size, 0, none⟩) n cc)) := (Chg.refl (fun k => k = r) _).setCell (p := ⟨r, 3, none⟩) (.inl rfl) _
            refine ⟨_, rfl, (c13.trans r3 (fun _ e => e.elim)).trans c5 (fun i e => .inr (by omega)), fun e => absurd rfl e, fun _ => ⟨r, rfl, by omega, _, cc, _, n, b4.set 3 _, NL.mono (NL.kept r2 c5 (fun g hg => by omega)) (by omega), ?_⟩⟩
            have nl4 := NL.kept (NL.kept nl c3' (fun _ _ e => e)) r3 (fun _ _ e => e)
            obtain ⟨y1, y2⟩ := nl4
            refine ⟨fun i hi => ?_, y2⟩
            obtain ⟨g, o, ey, yb, yr⟩ := y1 i hi
            refine ⟨g, o, ey, yb, rangeAt_kept yr c5 (fun e => ?_)⟩
            cases ey
            omega
          subst e
          clear HE HI FT c2 nl br c13 r2 b4 RO s0 s1
          go_upto_region 9 with fail
          rw [← hrr, ← hW2]
          clear hrr hW2
          rw [hW3] at R1
          go_wp2_with (refine wpList_appG (sl := 23) rfl (.tmp 48) (.tmp 49) rfl (v := .slice (some ⟨W2.heap.size, 0, none⟩) 0 0) (u := .slice (some a) n c) (v' := .slice (some ⟨W3.heap.size, 0, none⟩) n cc) (w' := W4) rfl rfl (by rw [hW3]; exact R1.out) ?_)
          refine bodyPost_ret (results_tt rfl _ _) rfl ?_
          have hs3 : W3.heap.size = W2.heap.size + 1 := by rw [hW3, World.size_alloc]
          have F := FIN.out
          rw [hs3] at F
          exact F
end Go.Proofs.Ytnfcmpffihmnmaa
