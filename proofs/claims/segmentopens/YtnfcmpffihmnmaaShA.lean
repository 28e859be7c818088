/-
  Open: the code's and the reference's.
-/
import Derived.Test.YtnfcmpffihmnmaaSgZ
namespace Go.Proofs.Ytnfcmpffihmnmaa
open Go.RowKit

/-- Whether it is a state. -/
def StP (s z sp S : Int) (ms : Nat → Mk) (n : Nat) : Prop := (n : Int) = cnt s sp ∧ S ≤ 4611686018427387904 ∧ Good S (sp * z) ms n
open Classical in
/-- The error of Open. -/
noncomputable def opE (s z sp S : Int) (ms : Nat → Mk) (n : Nat) : Int := if ¬ (2 ≤ sp ∧ sp ≤ 1024) then 50 else if cnt s sp < 2 then 30 else if ¬ StP s z sp S ms n then 54 else 0
section
variable {s z sp S : Int} {ms : Nat → Mk} {n : Nat}
theorem opE_span (h : sp < 2 ∨ 1024 < sp) : opE s z sp S ms n = 50 := by unfold opE; exact if_pos (by omega)
theorem opE_size (h : 2 ≤ sp ∧ sp ≤ 1024) (h2 : cnt s sp < 2) : opE s z sp S ms n = 30 := by unfold opE; rw [if_neg (fun e => e h), if_pos h2]
theorem opE_marks (h : 2 ≤ sp ∧ sp ≤ 1024) (h2 : ¬ cnt s sp < 2) (h3 : ¬ StP s z sp S ms n) : opE s z sp S ms n = 54 := by unfold opE; rw [if_neg (fun e => e h), if_neg h2, if_pos h3]
theorem opE_ok (h : 2 ≤ sp ∧ sp ≤ 1024) (h2 : ¬ cnt s sp < 2) (h3 : StP s z sp S ms n) : opE s z sp S ms n = 0 := by unfold opE; rw [if_neg (fun e => e h), if_neg h2, if_neg (fun e => e h3)]
end

/-- What Open leaves. -/
structure OpA (w w' : World) (e : Ending) (E : Int) (R : Nat → Prop) : Prop where
  ex : ∃ P, e = .returned (.tuple #[.pointer P, .int .i64 E]) ∧ Chg (fun _ => False) w w' ∧ (¬ E = 0 → P = none) ∧ (E = 0 → ∃ q, P = some ⟨q, 0, none⟩ ∧ w.heap.size ≤ q ∧ R q)
theorem OpA.no {w w' : World} {E : Int} {R : Nat → Prop} (h : ¬ E = 0) (c : Chg (fun _ => False) w w') : OpA w w' (.returned (.tuple #[.pointer none, .int .i64 E])) E R := ⟨none, rfl, c, fun _ => rfl, fun e => absurd e h⟩

/-- A log that was opened. -/
def LgOk (B : Nat) (w' : World) (p : Nat) (sp S : Int) (n : Nat) (ms : Nat → Mk) (q : Nat) : Prop := ∃ A cc H hcc, Blk w' q (lgC p sp A n cc S (curF ms n).1 H hcc) 67 ∧ NL w' B A n 2 (mF ms) ∧ NL w' B H n 1 bF

set_option maxRecDepth 100000 in
set_option maxHeartbeats 4000000 in
theorem open_any {w : World} {Av : Nat → Prop} {a : Addr} {n c p : Nat} {ms : Nat → Mk} {sp s z : Int} (hr : RowsIn w Av (some a) n 2 (mF ms)) (hm : ∀ i, i < n → 0 ≤ (ms i).se) (hn : n ≤ 9223372036854775806) (S : Int)
    (hd : Dk w p s z) (hz : 128 ≤ z ∧ z ≤ 4096) (hs : 1 ≤ s ∧ s ≤ 65536) (hsp : -9223372036854775808 ≤ sp ∧ sp ≤ 9223372036854775807) :
    Calls Try.prog 9 #[.pointer (some ⟨p, 0, none⟩), .int .i64 sp, .int .u64 S, .slice (some a) n c] w fun e w' => OpA w w' e (opE s z sp S ms n) (LgOk w.heap.size w' p sp S n ms) := by
  obtain ⟨E, hE⟩ : ∃ E, E = opE s z sp S ms n := ⟨_, rfl⟩
  rw [← hE]
  have HE : Hid _ := hE
  clear hE
  have C0 : Hid (Chg (fun _ => False) w w) := Chg.refl _ _
  by_cases c1 : sp < 2
  · have e : E = 50 := by rw [HE.out]; exact opE_span (.inl c1)
    subst e
    clear HE hr hm hd
    go_enter Try.func9, Try.ntmps9
    go_wp2_with fail
    refine bodyPost_ret (results_tt rfl _ _) rfl ?_
    exact OpA.no (by decide) C0.out
  · by_cases c2 : 1024 < sp
    · have e : E = 50 := by rw [HE.out]; exact opE_span (.inr c2)
      subst e
      clear HE hr hm hd
      go_enter Try.func9, Try.ntmps9
      go_wp2_with fail
      refine bodyPost_ret (results_tt rfl _ _) rfl ?_
      exact OpA.no (by decide) C0.out
    · have SEC : Hid _ := sectors_any hd
      have CNT : Hid (Calls Try.prog 5 #[.int .i64 s, .int .i64 sp] w fun e w' => e = .returned (.int .i64 (cnt s sp)) ∧ w' = w) := count_any s sp (by omega) hsp
      obtain ⟨M, hM⟩ : ∃ M, M = cnt s sp := ⟨_, rfl⟩
      rw [← hM] at CNT
      have HM : Hid _ := hM
      clear hM
      by_cases c3 : M < 2
      · have e : E = 30 := by rw [HE.out]; exact opE_size ⟨by omega, by omega⟩ (by rw [← HM.out]; exact c3)
        subst e
        clear HE hr hm hd
        go_enter Try.func9, Try.ntmps9
        go_wp2_with (first | (go_at_call 20; refine Calls.mono SEC.out ?_; rintro e w1 ⟨rfl, rfl⟩) | (go_at_call 5; refine Calls.mono CNT.out ?_; rintro e w1 ⟨rfl, rfl⟩))
        refine bodyPost_ret (results_tt rfl _ _) rfl ?_
        exact OpA.no (by decide) C0.out
      · obtain ⟨q, hq⟩ : ∃ q, q = w.heap.size := ⟨_, rfl⟩
        obtain ⟨W, hW⟩ : ∃ W, W = w.alloc (.cells #[.pointer (some ⟨p, 0, none⟩), .int .i64 sp, .slice none 0 0, .int .u64 0, .int .i64 0, .slice none 0 0, .int .i64 0] 67) := ⟨_, rfl⟩
        have cW : Chg (fun _ => False) w W := by rw [hW]; exact (Chg.refl _ _).alloc _
        have bq : Blk W q (lgT p sp [.slice none 0 0, .int .u64 0, .int .i64 0, .slice none 0 0]) 67 := by rw [hW, hq]; exact Blk.made _ _ _
        have lb : LgB sp s z := ⟨⟨by omega, by omega⟩, hz, hs⟩
        have FT : Hid _ := fits_any (c := c) (hr.kept cW (fun _ _ e => e)) hm hn S ⟨bq.cell 0, bq.cell 1, hd.kept cW (fun e => e)⟩ lb
        have CW : Hid _ := cW
        have BQ : Hid _ := bq
        have RO : Hid (RowsIn w (fun g => g < w.heap.size) (some a) n 2 (mF ms)) := hr.old (fun _ e => by cases e)
        have HQ : Hid _ := hq
        clear hr hm hd cW bq
        go_enter Try.func9, Try.ntmps9
        go_upto_region 6 with (first | (go_at_call 20; refine Calls.mono SEC.out ?_; rintro e w1 ⟨rfl, hw1⟩; replace hw1 := hw1.symm; subst hw1) | (go_at_call 5; refine Calls.mono CNT.out ?_; rintro e w1 ⟨rfl, hw1⟩; replace hw1 := hw1.symm; subst hw1))
        rw [← hq, ← hW]
        clear hq hW
        go_upto_if 34 with (go_at_call 21; refine Calls.mono FT.out ?_; rintro e w1 ⟨b, rfl, hiff, hch⟩; have HI : Hid _ := hiff; have CH : Hid _ := hch; clear hiff hch)
        cases b
        · have e : E = 54 := by
            rw [HE.out]
            exact opE_marks ⟨by omega, by omega⟩ (by rw [← HM.out]; omega) (fun h => absurd (HI.out.2 h) Bool.false_ne_true)
          have CC : Hid (Chg (fun _ => False) w w1) := CW.out.trans CH.out (fun _ e => e.elim)
          subst e
          clear HE HI BQ RO FT
          go_wp2_with fail
          refine bodyPost_ret (results_tt rfl _ _) rfl ?_
          exact OpA.no (by decide) CC.out
        · have stp : StP s z sp S ms n := HI.out.1 rfl
          have e : E = 0 := by
            rw [HE.out]
            exact opE_ok ⟨by omega, by omega⟩ (by rw [← HM.out]; omega) stp
          have n1 : n ≤ 32767 := by
            have := (cnt_b hs.2 (show 2 ≤ sp by omega)).2
            have := stp.1
            omega
          have CC : Hid (Chg (fun _ => False) w w1) := CW.out.trans CH.out (fun _ e => e.elim)
          have b1 : Blk w1 q _ 67 := BQ.out.keep CH.out (fun e => e)
          have hq := HQ.out
          have RF : Hid (∀ (Q : Exit → Act → World → Prop) (A : Act), A.tmps.size = 48 → A.defers = [] → A.tmps.getD 2 undef = .int .u64 S → A.tmps.getD 3 undef = .slice (some a) n c → A.tmps.getD 10 undef = .pointer (some ⟨q, 0, none⟩) → (∀ b w', b.tmps.size = 48 → b.defers = [] → b.tmps.getD 10 undef = .pointer (some ⟨q, 0, none⟩) → Chg (fun k => k = q) w1 w' → (∃ A cc H hcc, Blk w' q (lgC p sp A n cc S (curF ms n).1 H hcc) 67 ∧ NL w' w1.heap.size A n 2 (mF ms) ∧ NL w' w1.heap.size H n 1 bF) → Q .normal b w') → (Code.region 8 opsO true).wp Try.prog Q A w1) :=
            fun Q A h1 h2 h3 h4 h5 h6 => regO b1.lt ⟨_, rfl, b1⟩ (RO.out.kept CC.out (fun _ _ e => e)) (fun g hg => by omega) (by omega) rfl h1 h2 h3 h4 h5 h6
          subst e
          clear HE HI BQ RO FT stp b1 hq
          go_upto_region 8 with fail
          refine RF.out _ _ rfl rfl rfl rfl rfl ?_
          rename_i KK hKK
          rintro ⟨T, df⟩ w' b1 b2 b3 b4 b5
          refine hKK _ w' ?_
          have b1 : T.size = 48 := b1
          have b2 : df = [] := b2
          have b3 : T.getD 10 undef = .pointer (some ⟨q, 0, none⟩) := b3
          subst b2
          have B5 : Hid _ := And.intro b4 b5
          clear b4 b5 hKK RF
          go_wp2_with fail
          have x8 : (((T.setIfInBounds 47 (.pointer (some ⟨q, 0, none⟩))).setIfInBounds 8 (.pointer (some ⟨q, 0, none⟩))).setIfInBounds 9 (.int .i64 0)).getD 8 undef = .pointer (some ⟨q, 0, none⟩) := by simp [b1]
          have x9 : (((T.setIfInBounds 47 (.pointer (some ⟨q, 0, none⟩))).setIfInBounds 8 (.pointer (some ⟨q, 0, none⟩))).setIfInBounds 9 (.int .i64 0)).getD 9 undef = .int .i64 0 := by simp [b1]
          refine bodyPost_ret (results_tt rfl _ _) rfl ?_
          rw [x8, x9]
          obtain ⟨d1, A, cc, H, hcc, d2, d3, d4⟩ := B5.out
          exact ⟨_, rfl, CC.out.trans d1 (fun i e => .inr (by have := HQ.out; omega)), fun e => absurd rfl e, fun _ => ⟨q, rfl, by have := HQ.out; omega, A, cc, H, hcc, d2, d3.mono CC.out.size, d4.mono CC.out.size⟩⟩
end Go.Proofs.Ytnfcmpffihmnmaa
