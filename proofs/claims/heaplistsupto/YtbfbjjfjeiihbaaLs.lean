/-
  The walk of HeapLists.
-/
import Derived.Test.YtbfbjjfjeiihbaaLsD
namespace Go.Proofs.Ytbfbjjfjeiihbaa
open Go.RowKit

set_option maxRecDepth 100000 in
set_option maxHeartbeats 4000000 in
theorem lists_any {W : World} {s : Value} {L : List (Int × Int)} (hL : Tc W s L) (hl : L.length ≤ 1048576) (n : Int) :
    Calls Try.prog 8 #[s, .int .i64 n] W fun e w' => e = .returned (.bool true) ∧ Below W.heap.size W w' := by
  obtain ⟨kk, hk⟩ : ∃ kk : Nat, (kk : Int) = max (min n L.length) 0 := ⟨(max (min n L.length) 0).toNat, by omega⟩
  have hkl : kk ≤ L.length := by omega
  have hkl2 : ((srt false L.length L).take kk).length ≤ 2097152 := by rw [List.length_take, srt_len]; omega
  have hkl3 : ((srt true L.length L).take kk).length ≤ 2097152 := by rw [List.length_take, srt_len]; omega
  have hsl2 : (srt false L.length L).length ≤ 2097152 := by rw [srt_len]; omega
  have hsl3 : (srt true L.length L).length ≤ 2097152 := by rw [srt_len]; omega
  have LI : Hid (∀ (all : Bool) w', Chg (fun _ => False) W w' → _) := fun all w' (k : Chg (fun _ => False) W w') => listed_any (hL.keep k (fun _ _ h => h)).ths hl n kk hk all
  have RS : Hid (∀ (all : Bool) w', Chg (fun _ => False) W w' → _) := fun all w' (k : Chg (fun _ => False) W w') => refsort_any (hL.keep k (fun _ _ h => h)) (by omega) all
  have RL : Hid (∀ (all : Bool) w', Chg (fun _ => False) W w' → _) := fun all w' (k : Chg (fun _ => False) W w') => refleast_any (hL.keep k (fun _ _ h => h)) (by omega) n kk hk all
  have LF := LI.out false
  have LT := LI.out true
  unfold fB at LF LT
  simp only [Bool.false_eq_true, if_false, if_true] at LF LT
  have LF1 : Hid _ := LF
  have LT1 : Hid _ := LT
  have H2 : Hid _ := And.intro hkl2 (And.intro hkl3 (And.intro hsl2 hsl3))
  obtain ⟨sa, sc, rfl⟩ := hL.ths.form
  clear LF LT LI hL hk hkl2 hkl3 hsl2 hsl3
  go_enter Try.func8, Try.ntmps8
  go_wp2_with fail
  refine Calls.mono (LF1.out W (Chg.refl _ _)) ?_
  rintro e w1 ⟨va, vb, rfl, ta, tb, ch1⟩
  have TA : Hid (Ths _ _ _) := ta
  have TB : Hid (Ths _ _ _) := tb
  have C1 : Hid (Chg _ _ _) := ch1
  clear ta tb ch1 LF1
  go_wp2_with fail
  refine Calls.mono (LT1.out w1 C1.out) ?_
  rintro e w2 ⟨vc, vd, rfl, tc, td, ch2⟩
  have TC : Hid (Ths _ _ _) := tc
  have TD : Hid (Ths _ _ _) := td
  have TA2 : Hid (Ths w2 va _) := Ths.keep TA.out ch2 (fun _ _ h => h)
  have TB2 : Hid (Ths w2 vb _) := Ths.keep TB.out ch2 (fun _ _ h => h)
  have C2 : Hid (Chg (fun _ => False) W w2) := C1.out.trans ch2 (fun _ h => h.elim)
  clear tc td ch2 LT1 TA TB C1
  go_wp2_with fail
  refine Calls.mono (RS.out false w2 C2.out) ?_
  rintro e w3 ⟨v3, rfl, o3, ch3, _⟩
  have C3 : Hid (Chg (fun _ => False) W w3) := C2.out.trans ch3 (fun _ h => h.elim)
  have S3 : Hid _ := same_any (Ths.keep TA2.out ch3 (fun _ _ h => h)) o3.ths H2.out.2.2.1
  have D3 : Hid (Chg (fun _ => False) w2 w3) := ch3
  clear o3 ch3 C2 TA2
  go_wp2_with fail
  refine Calls.mono S3.out ?_
  rintro e w4 ⟨rfl, ch4⟩
  have C4 : Hid (Chg (fun _ => False) W w4) := C3.out.trans ch4 (fun _ h => h.elim)
  have D4 : Hid (Chg (fun _ => False) w2 w4) := D3.out.trans ch4 (fun _ h => h.elim)
  clear ch4 S3 C3 D3
  go_wp2_with fail
  refine Calls.mono (RL.out false w4 C4.out) ?_
  rintro e w5 ⟨v5, rfl, t5, ch5⟩
  have C5 : Hid (Chg (fun _ => False) W w5) := C4.out.trans ch5 (fun _ h => h.elim)
  have D5 : Hid (Chg (fun _ => False) w2 w5) := D4.out.trans ch5 (fun _ h => h.elim)
  have S5 : Hid _ := same_any (Ths.keep TB2.out D5.out (fun _ _ h => h)) t5 H2.out.1
  clear t5 ch5 C4 D4 TB2
  go_wp2_with fail
  refine Calls.mono S5.out ?_
  rintro e w6 ⟨rfl, ch6⟩
  have C6 : Hid (Chg (fun _ => False) W w6) := C5.out.trans ch6 (fun _ h => h.elim)
  have D6 : Hid (Chg (fun _ => False) w2 w6) := D5.out.trans ch6 (fun _ h => h.elim)
  clear ch6 S5 C5 D5
  go_wp2_with fail
  refine Calls.mono (RS.out true w6 C6.out) ?_
  rintro e w7 ⟨v7, rfl, o7, ch7, _⟩
  have C7 : Hid (Chg (fun _ => False) W w7) := C6.out.trans ch7 (fun _ h => h.elim)
  have D7 : Hid (Chg (fun _ => False) w2 w7) := D6.out.trans ch7 (fun _ h => h.elim)
  have S7 : Hid _ := same_any (Ths.keep TC.out D7.out (fun _ _ h => h)) o7.ths H2.out.2.2.2
  clear o7 ch7 C6 D6 TC
  go_wp2_with fail
  refine Calls.mono S7.out ?_
  rintro e w8 ⟨rfl, ch8⟩
  have C8 : Hid (Chg (fun _ => False) W w8) := C7.out.trans ch8 (fun _ h => h.elim)
  have D8 : Hid (Chg (fun _ => False) w2 w8) := D7.out.trans ch8 (fun _ h => h.elim)
  clear ch8 S7 C7 D7
  go_wp2_with fail
  refine Calls.mono (RL.out true w8 C8.out) ?_
  rintro e w9 ⟨v9, rfl, t9, ch9⟩
  have C9 : Hid (Chg (fun _ => False) W w9) := C8.out.trans ch9 (fun _ h => h.elim)
  have S9 : Hid _ := same_any (Ths.keep TD.out (D8.out.trans ch9 (fun _ h => h.elim)) (fun _ _ h => h)) t9 H2.out.2.1
  clear t9 ch9 C8 D8 TD
  go_wp2_with fail
  refine Calls.mono S9.out ?_
  rintro e w10 ⟨rfl, ch10⟩
  have C10 : Hid (Chg (fun _ => False) W w10) := C9.out.trans ch10 (fun _ h => h.elim)
  clear ch10 S9 C9
  go_wp2_with fail
  go_ret
  exact ⟨rfl, C10.out.below (Nat.le_refl _) (fun _ h => h.elim)⟩

end Go.Proofs.Ytbfbjjfjeiihbaa
