/-
  choosePivotOrdered.
-/
import Derived.Test.YtnfcmpffihmnmaaSgF
import Derived.Sort.LotD4
namespace Go.Proofs.Ytnfcmpffihmnmaa
open Go.RowKit

theorem RU.made {w : World} {g : Nat} {d : Array Int} (h : RU w g d) : MS (w.alloc (.cells #[.int .i64 0] 3)) g w.heap.size d 0 :=
  ⟨h.keep ((Chg.refl (fun _ => False) w).alloc _) (fun h => h), Blk.made w [.int .i64 0] 3, by have := h.lt; omega⟩

def hintNat (k : Nat) : Int := if k = 0 then 1 else if k = 12 then 2 else 0
theorem hint_eq (k : Nat) : Sort.hintCode (Sort.hintOf k) = hintNat k := by
  unfold Sort.hintOf hintNat
  split
  · rfl
  · split <;> rfl

set_option maxRecDepth 100000 in
set_option maxHeartbeats 4000000 in
theorem piv_far {w : World} {g n cap a b : Nat} {d : Array Int} (h : RU w g d) (hn : d.size = n) (hn2 : n ≤ 1099511627776) (hab : a + 50 ≤ b) (hb : b ≤ n) :
    Calls Try.prog 37 #[.slice (some ⟨g, 0, none⟩) n cap, .int .i64 a, .int .i64 b] w fun e w' => e = .returned (.tuple #[.int .i64 (Sort.choosePivot ltI d a b).1, .int .i64 (Sort.hintCode (Sort.choosePivot ltI d a b).2)]) ∧ RU w' g d ∧ Chg (fun _ => False) w w' := by
  have M0 : Hid _ := h.made
  obtain ⟨L, hL⟩ : ∃ L, L = b - a := ⟨_, rfl⟩
  have HB : Hid ((b : Int) - (a : Int) = (L : Int)) := (by omega : (b : Int) - (a : Int) = (L : Int))
  obtain ⟨q, hq⟩ : ∃ q, q = L / 4 := ⟨_, rfl⟩
  have HQ : Hid ((L : Int) / 4 = (q : Int)) := (by omega : (L : Int) / 4 = (q : Int))
  obtain ⟨i, hi⟩ : ∃ i, i = a + q := ⟨_, rfl⟩
  have HI : Hid ((a : Int) + (q : Int) = (i : Int)) := (by omega : (a : Int) + (q : Int) = (i : Int))
  obtain ⟨j, hj⟩ : ∃ j, j = a + q * 2 := ⟨_, rfl⟩
  have HJ : Hid ((a : Int) + (q : Int) * 2 = (j : Int)) := (by omega : (a : Int) + (q : Int) * 2 = (j : Int))
  obtain ⟨k, hk⟩ : ∃ k, k = a + q * 3 := ⟨_, rfl⟩
  have HK : Hid ((a : Int) + (q : Int) * 3 = (k : Int)) := (by omega : (a : Int) + (q : Int) * 3 = (k : Int))
  have A1 := adj_any (cap := cap) h.made hn hn2 i (by omega) (by omega) (by omega)
  obtain ⟨ri, hri⟩ : ∃ r, r = Sort.medianAdjacent ltI d i 0 := ⟨_, rfl⟩
  have ci := Sort.medianAdjacent_count ltI d i 0
  rw [← hri] at A1 ci
  have A2 : ∀ w s, MS w g s d ri.2 → _ := fun w s h => adj_any (cap := cap) (w := w) (s := s) h hn hn2 j (by omega) (by omega) (by omega)
  obtain ⟨rj, hrj⟩ : ∃ r, r = Sort.medianAdjacent ltI d j ri.2 := ⟨_, rfl⟩
  have cj := Sort.medianAdjacent_count ltI d j ri.2
  rw [← hrj] at A2 cj
  have A3 : ∀ w s, MS w g s d rj.2 → _ := fun w s h => adj_any (cap := cap) (w := w) (s := s) h hn hn2 k (by omega) (by omega) (by omega)
  obtain ⟨rk, hrk⟩ : ∃ r, r = Sort.medianAdjacent ltI d k rj.2 := ⟨_, rfl⟩
  have ck := Sort.medianAdjacent_count ltI d k rj.2
  rw [← hrk] at A3 ck
  have A4 : ∀ w s, MS w g s d rk.2 → ri.1 < n → rj.1 < n → rk.1 < n → _ := fun w s h u v x => median_any (cap := cap) (w := w) (s := s) h hn hn2 ri.1 rj.1 rk.1 u v x (by omega)
  obtain ⟨rm, hrm⟩ : ∃ r, r = Sort.median ltI d ri.1 rj.1 rk.1 rk.2 := ⟨_, rfl⟩
  have cm := Sort.median_count ltI d ri.1 rj.1 rk.1 rk.2
  rw [← hrm] at A4 cm
  have hm : Sort.rawPivot ltI d a b = rm := by
    unfold Sort.rawPivot
    rw [if_pos (by omega), if_pos (by omega), ← hL, ← hq, Nat.mul_one, ← hi, ← hj, ← hk, ← hri, ← hrj, ← hrk, ← hrm]
  rw [Sort.choosePivot_eq, hint_eq, hm]
  have B : Hid _ := cm
  have P1 : Hid _ := A1
  have P2 : Hid _ := A2
  have P3 : Hid _ := A3
  have P4 : Hid _ := A4
  obtain ⟨x, y⟩ := rm
  have C : Hid (Chg (fun _ => False) w (w.alloc (.cells #[.int .i64 0] 3))) := (Chg.refl _ _).alloc _
  have W : Hid (∀ w', MS w' g w.heap.size d y ∧ Chg (fun i => i = w.heap.size) (w.alloc (.cells #[.int .i64 0] 3)) w' → RU w' g d ∧ Chg (fun _ => False) w w') := fun w' hw => ⟨hw.1.r, C.out.trans hw.2 (fun i e => .inr (by omega))⟩
  have g1 : 50 ≤ L := by omega
  have g2 : a + L ≤ n := by omega
  have g3 : q ≤ L := by omega
  have g4 : a ≤ b := by omega
  have g5 : a + q * 3 ≤ n := by omega
  have z3 : y ≤ 100 := by have := B.out; simp only at this; omega
  clear h hn hL hq hi hj hk hri hrj hrk hrm A1 A2 A3 A4 ci cj ck cm hm M0 C B
  go_enter Try.func37, Try.ntmps37
  go_upto_region 2 with fail
  rw [HB.out]
  go_upto_region 3 with fail
  go_upto_region 4 with fail
  rw [HQ.out, HI.out]
  go_upto_region 5 with fail
  rw [HQ.out, HJ.out]
  go_upto_region 6 with fail
  rw [HQ.out, HK.out]
  go_upto_region 9 with (go_at_call 48; refine Calls.mono P1.out ?_; rintro e w1 ⟨rfl, m1⟩; have M1 : Hid _ := m1; clear m1)
  go_upto_region 10 with (go_at_call 48; refine Calls.mono (P2.out _ _ M1.out.1) ?_; rintro e w2 ⟨rfl, m2⟩; have M2 : Hid _ := m2; clear m2)
  go_upto_region 11 with (go_at_call 48; refine Calls.mono (P3.out _ _ M2.out.1) ?_; rintro e w3 ⟨rfl, m3⟩; have M3 : Hid _ := m3; clear m3)
  go_upto_region 12 with (go_at_call 49; refine Calls.mono (P4.out _ _ M3.out.1 M1.out.2.2.1 M2.out.2.2.1 M3.out.2.2.1) ?_; rintro e w4 ⟨rfl, m4⟩; have M4 : Hid _ := m4; clear m4)
  have R : Hid _ := W.out _ ⟨M4.out.1, ((M1.out.2.1.trans M2.out.2.1 (fun _ h => .inl h)).trans M3.out.2.1 (fun _ h => .inl h)).trans M4.out.2.1 (fun _ h => .inl h)⟩
  have b0 : w4.cell? ⟨w.heap.size, 0, none⟩ = some (.int .i64 y) := M4.out.1.b.cell 0
  clear M1 M2 M3 M4 P1 P2 P3 P4 HB HQ HI HJ HK W
  by_cases y0 : y = 0
  · subst y0
    go_wp2_with fail
    refine bodyPost_ret (results_tt rfl _ _) rfl ?_
    exact ⟨rfl, R.out⟩
  · by_cases y1 : y = 12
    · subst y1
      go_wp2_with fail
      refine bodyPost_ret (results_tt rfl _ _) rfl ?_
      exact ⟨rfl, R.out⟩
    · have e : Hid (hintNat y = 0) := (by unfold hintNat; rw [if_neg y0, if_neg y1] : hintNat y = 0)
      go_wp2_with fail
      refine bodyPost_ret (results_tt rfl _ _) rfl ?_
      exact ⟨by rw [e.out]; rfl, R.out⟩

set_option maxRecDepth 100000 in
set_option maxHeartbeats 4000000 in
theorem piv_near {w : World} {g n cap a b : Nat} {d : Array Int} (h : RU w g d) (hn : d.size = n) (hn2 : n ≤ 1099511627776) (hab : a + 8 ≤ b) (hab2 : b < a + 50) (hb : b ≤ n) :
    Calls Try.prog 37 #[.slice (some ⟨g, 0, none⟩) n cap, .int .i64 a, .int .i64 b] w fun e w' => e = .returned (.tuple #[.int .i64 (Sort.choosePivot ltI d a b).1, .int .i64 (Sort.hintCode (Sort.choosePivot ltI d a b).2)]) ∧ RU w' g d ∧ Chg (fun _ => False) w w' := by
  have M0 : Hid _ := h.made
  obtain ⟨L, hL⟩ : ∃ L, L = b - a := ⟨_, rfl⟩
  have HB : Hid ((b : Int) - (a : Int) = (L : Int)) := (by omega : (b : Int) - (a : Int) = (L : Int))
  obtain ⟨q, hq⟩ : ∃ q, q = L / 4 := ⟨_, rfl⟩
  have HQ : Hid ((L : Int) / 4 = (q : Int)) := (by omega : (L : Int) / 4 = (q : Int))
  obtain ⟨i, hi⟩ : ∃ i, i = a + q := ⟨_, rfl⟩
  have HI : Hid ((a : Int) + (q : Int) = (i : Int)) := (by omega : (a : Int) + (q : Int) = (i : Int))
  obtain ⟨j, hj⟩ : ∃ j, j = a + q * 2 := ⟨_, rfl⟩
  have HJ : Hid ((a : Int) + (q : Int) * 2 = (j : Int)) := (by omega : (a : Int) + (q : Int) * 2 = (j : Int))
  obtain ⟨k, hk⟩ : ∃ k, k = a + q * 3 := ⟨_, rfl⟩
  have HK : Hid ((a : Int) + (q : Int) * 3 = (k : Int)) := (by omega : (a : Int) + (q : Int) * 3 = (k : Int))
  have A4 := median_any (cap := cap) h.made hn hn2 i j k (by omega) (by omega) (by omega) (by omega)
  obtain ⟨rm, hrm⟩ : ∃ r, r = Sort.median ltI d i j k 0 := ⟨_, rfl⟩
  have cm := Sort.median_count ltI d i j k 0
  rw [← hrm] at A4 cm
  have hm : Sort.rawPivot ltI d a b = rm := by
    unfold Sort.rawPivot
    rw [if_pos (by omega), if_neg (by omega), ← hL, ← hq, Nat.mul_one, ← hi, ← hj, ← hk, ← hrm]
  rw [Sort.choosePivot_eq, hint_eq, hm]
  have B : Hid _ := cm
  have P4 : Hid _ := A4
  obtain ⟨x, y⟩ := rm
  have C : Hid (Chg (fun _ => False) w (w.alloc (.cells #[.int .i64 0] 3))) := (Chg.refl _ _).alloc _
  have W : Hid (∀ w', MS w' g w.heap.size d y ∧ Chg (fun i => i = w.heap.size) (w.alloc (.cells #[.int .i64 0] 3)) w' → RU w' g d ∧ Chg (fun _ => False) w w') := fun w' hw => ⟨hw.1.r, C.out.trans hw.2 (fun i e => .inr (by omega))⟩
  have g1 : 8 ≤ L := by omega
  have g6 : L < 50 := by omega
  have g2 : a + L ≤ n := by omega
  have g3 : q ≤ L := by omega
  have g4 : a ≤ b := by omega
  have g5 : a + q * 3 ≤ n := by omega
  have z3 : y ≤ 100 := by have := B.out; simp only at this; omega
  clear h hn hL hq hi hj hk hrm A4 cm hm M0 C B
  go_enter Try.func37, Try.ntmps37
  go_upto_region 2 with fail
  rw [HB.out]
  go_upto_region 3 with fail
  go_upto_region 4 with fail
  rw [HQ.out, HI.out]
  go_upto_region 5 with fail
  rw [HQ.out, HJ.out]
  go_upto_region 6 with fail
  rw [HQ.out, HK.out]
  go_upto_region 12 with (go_at_call 49; refine Calls.mono P4.out ?_; rintro e w4 ⟨rfl, m4⟩; have M4 : Hid _ := m4; clear m4)
  have R : Hid _ := W.out _ ⟨M4.out.1, M4.out.2.1⟩
  have b0 : w4.cell? ⟨w.heap.size, 0, none⟩ = some (.int .i64 y) := M4.out.1.b.cell 0
  clear M4 P4 HB HQ HI HJ HK W
  by_cases y0 : y = 0
  · subst y0
    go_wp2_with fail
    refine bodyPost_ret (results_tt rfl _ _) rfl ?_
    exact ⟨rfl, R.out⟩
  · by_cases y1 : y = 12
    · subst y1
      go_wp2_with fail
      refine bodyPost_ret (results_tt rfl _ _) rfl ?_
      exact ⟨rfl, R.out⟩
    · have e : Hid (hintNat y = 0) := (by unfold hintNat; rw [if_neg y0, if_neg y1] : hintNat y = 0)
      go_wp2_with fail
      refine bodyPost_ret (results_tt rfl _ _) rfl ?_
      exact ⟨by rw [e.out]; rfl, R.out⟩

theorem piv_any {w : World} {g n cap a b : Nat} {d : Array Int} (h : RU w g d) (hn : d.size = n) (hn2 : n ≤ 1099511627776) (hab : a + 8 ≤ b) (hb : b ≤ n) :
    Calls Try.prog 37 #[.slice (some ⟨g, 0, none⟩) n cap, .int .i64 a, .int .i64 b] w fun e w' => e = .returned (.tuple #[.int .i64 (Sort.choosePivot ltI d a b).1, .int .i64 (Sort.hintCode (Sort.choosePivot ltI d a b).2)]) ∧ RU w' g d ∧ Chg (fun _ => False) w w' := by
  by_cases c : b < a + 50
  · exact piv_near h hn hn2 hab c hb
  · exact piv_far h hn hn2 (by omega) hb

end Go.Proofs.Ytnfcmpffihmnmaa
