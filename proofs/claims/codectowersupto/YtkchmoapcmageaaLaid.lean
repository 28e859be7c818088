/-
  The walk of laid.
-/
import Derived.Test.YtkchmoapcmageaaLay
namespace Go.Proofs.Ytkchmoapcmageaa
open Go.RowKit

theorem Made.alloc {w w1 : World} {v : Value} {l : List Int} (h : Made w w1 v l) (ob : Obj) : Made w (w1.alloc ob) v l := ⟨h.1.alloc ob, h.2.1.alloc h.2.1.size ob, h.2.2⟩
theorem Made.nil (w : World) : Made w w (.slice none 0 0) [] := ⟨Own.nil _, Below.refl _ _, fun j h => by simp [Value.ownBlock] at h⟩
theorem take_one {z : List Int} {k : Nat} (h : k < z.length) : z.take k ++ [z[k]] = z.take (k + 1) := by rw [List.take_succ_eq_append_getElem h]

set_option maxRecDepth 100000 in
set_option maxHeartbeats 2000000 in
theorem laid_any {w : World} {b : Value} {m : List Int} (hs : Src w b m)
    (kind who : Int) (n : Nat) (mm : Int) (z : List Int) (nth : Int) (hz : z.length = 32) (hn : n < 18446744073709551616) (hl : m.length + 33 ≤ 140737488355328) :
    Calls Try.prog 12 #[.agg (stp kind who n mm b z nth).toArray] w fun e w' => ∃ v, e = .returned v ∧ Src w' v (lays kind n m z nth) ∧ Below w.heap.size w w' := by
  have HS : Hid _ := hs
  obtain ⟨hc0, _, hc2, hc4, hc37, hr1, _⟩ := stp_cell w kind who n mm b z nth 35 hz
  obtain ⟨a0, c0, hs2⟩ := hs.form
  subst hs2
  have HR : Hid _ := hr1
  clear hs hr1
  have S1 : Hid _ := Src.kept HS.out ((Chg.refl (fun _ => False) w).alloc (.cells (stp kind who n mm (.slice a0 m.length c0) z nth).toArray 35)) (fun _ _ h => h)
  have B0 : Hid (Below w.heap.size w (w.alloc (.cells (stp kind who n mm (.slice a0 m.length c0) z nth).toArray 35))) := (Below.refl _ _).alloc (Nat.le_refl _) _
  by_cases h1 : kind = 1
  · subst h1
    go_enter Try.func12, Try.ntmps12
    go_wp2_with fail
    refine (high_any _ 1 (by omega) n hn).mono ?_
    rintro e w2 ⟨v2, rfl, P2, b2, _⟩
    have R : Hid _ := P2
    have B2 : Hid _ := b2
    clear P2 b2
    go_wp2_with fail
    go_ret
    refine ⟨v2, rfl, ?_, B0.out.trans (B2.out.mono (by simp))⟩
    simp only [lays]
    simp
    rw [← high1]
    exact Own.src R.out
  by_cases h2 : kind = 2
  · subst h2
    go_enter Try.func12, Try.ntmps12
    go_wp2_with fail
    refine (high_any _ 4 (by omega) n hn).mono ?_
    rintro e w2 ⟨v2, rfl, P2, b2, _⟩
    have R : Hid _ := P2
    have B2 : Hid _ := b2
    clear P2 b2
    go_wp2_with fail
    go_ret
    refine ⟨v2, rfl, ?_, B0.out.trans (B2.out.mono (by simp))⟩
    simp only [lays]
    simp
    rw [← high4]
    exact Own.src R.out
  by_cases h3 : kind = 3
  · subst h3
    go_enter Try.func12, Try.ntmps12
    go_wp2_with fail
    refine (high_any _ 8 (by omega) n hn).mono ?_
    rintro e w2 ⟨v2, rfl, P2, b2, _⟩
    have R : Hid _ := P2
    have B2 : Hid _ := b2
    clear P2 b2
    go_wp2_with fail
    go_ret
    refine ⟨v2, rfl, ?_, B0.out.trans (B2.out.mono (by simp))⟩
    simp only [lays]
    simp
    rw [← high8 n hn]
    exact Own.src R.out
  by_cases h4 : kind = 4
  · subst h4
    go_enter Try.func12, Try.ntmps12
    go_wp2_with fail
    refine (num_any n hn _).mono ?_
    rintro e w2 ⟨v2, rfl, P2, b2, _⟩
    have R : Hid _ := P2
    have B2 : Hid _ := b2
    clear P2 b2
    go_wp2_with fail
    go_ret
    refine ⟨v2, rfl, ?_, B0.out.trans (B2.out.mono (by simp))⟩
    simp only [lays]
    simp
    skip
    exact Own.src R.out
  by_cases h5 : kind = 5
  · subst h5
    go_enter Try.func12, Try.ntmps12
    go_wp2_with fail
    go_ret
    refine ⟨_, rfl, ?_, B0.out⟩
    simp only [lays]
    simp
    exact S1.out
  by_cases h6 : kind = 6
  · subst h6
    go_enter Try.func12, Try.ntmps12
    go_wp2_with fail
    refine (text_any S1.out (by omega)).mono ?_
    rintro e w2 ⟨v2, rfl, P2, b2, _⟩
    have R : Hid _ := P2
    have B2 : Hid _ := b2
    clear P2 b2
    go_wp2_with fail
    go_ret
    refine ⟨v2, rfl, ?_, B0.out.trans (B2.out.mono (by simp))⟩
    simp only [lays]
    simp
    skip
    exact Own.src R.out
  by_cases h7 : kind = 7
  · subst h7
    go_enter Try.func12, Try.ntmps12
    go_wp2_with fail
    go_loopw [3, 4] (fun u i wr => ∃ k : Nat, k ≤ 32 ∧ i = .int .i64 k ∧ Made (w.alloc (.cells (stp 7 who n mm (.slice a0 m.length c0) z nth).toArray 35)) wr u (z.take k)) (fun _ i _ => 32 - (intOf i).toNat)
    case atStart => exact ⟨0, Nat.zero_le _, rfl, Made.nil _⟩
    case round =>
      obtain ⟨k, hk, rfl, hmd⟩ := hrel
      by_cases hlt : k < 32
      · have hzl : k < z.length := by omega
        obtain ⟨x, hx⟩ : ∃ x, x = z[k]'hzl := ⟨_, rfl⟩
        have hcell : wr.cell? ⟨w.heap.size, 5 + k, none⟩ = some (.int .u8 x) := by
          rw [hmd.2.1.cell (by simp), hx]
          exact HR.out k _ (bs_get z k (by omega))
        have HX : Hid _ := (show z.take k ++ [x] = z.take (k + 1) by rw [hx]; exact take_one hzl)
        have hbd : (z.take k).length + [x].length ≤ 140737488355328 := by simp; omega
        clear hx
        have M1 : Hid _ := hmd
        clear hmd
        go_wp2_with (refine wpList_app rfl (.tmp 43) (.tmp 49) rfl (v := u3) rfl rfl (Made.alloc M1.out _).1 (src_new _ [x] 1) hbd ?_; intro v' w2 hv hch hat; have R : Hid _ := Made.app (Made.alloc M1.out _) hv hch hat; clear hv hch hat)
        go_roundw
        case rel => exact ⟨k + 1, by omega, by go_num, by rw [← HX.out]; exact R.out⟩
        case measure => simp [intOf]; omega
      · have ht : z.take k = z := List.take_of_length_le (by omega)
        rw [ht] at hmd
        have R : Hid _ := hmd
        have hc0' := hmd.2.1.cell (p := ⟨w.heap.size, 0, none⟩) (by simp)
        rw [hc0] at hc0'
        have hc37' := hmd.2.1.cell (p := ⟨w.heap.size, 37, none⟩) (by simp)
        rw [hc37] at hc37'
        clear hmd ht
        go_wp2_with fail
        go_ret
        refine ⟨_, rfl, ?_, B0.out.trans (R.out.2.1.mono (by simp))⟩
        simp only [lays]
        simp
        exact Own.src R.out.1
  by_cases h8 : kind = 8
  · subst h8
    go_enter Try.func12, Try.ntmps12
    go_wp2_with fail
    go_loopw [3, 4] (fun u i wr => ∃ k : Nat, k ≤ 32 ∧ i = .int .i64 k ∧ Made (w.alloc (.cells (stp 8 who n mm (.slice a0 m.length c0) z nth).toArray 35)) wr u (z.take k)) (fun _ i _ => 32 - (intOf i).toNat)
    case atStart => exact ⟨0, Nat.zero_le _, rfl, Made.nil _⟩
    case round =>
      obtain ⟨k, hk, rfl, hmd⟩ := hrel
      by_cases hlt : k < 32
      · have hzl : k < z.length := by omega
        obtain ⟨x, hx⟩ : ∃ x, x = z[k]'hzl := ⟨_, rfl⟩
        have hcell : wr.cell? ⟨w.heap.size, 5 + k, none⟩ = some (.int .u8 x) := by
          rw [hmd.2.1.cell (by simp), hx]
          exact HR.out k _ (bs_get z k (by omega))
        have HX : Hid _ := (show z.take k ++ [x] = z.take (k + 1) by rw [hx]; exact take_one hzl)
        have hbd : (z.take k).length + [x].length ≤ 140737488355328 := by simp; omega
        clear hx
        have M1 : Hid _ := hmd
        clear hmd
        go_wp2_with (refine wpList_app rfl (.tmp 43) (.tmp 49) rfl (v := u3) rfl rfl (Made.alloc M1.out _).1 (src_new _ [x] 1) hbd ?_; intro v' w2 hv hch hat; have R : Hid _ := Made.app (Made.alloc M1.out _) hv hch hat; clear hv hch hat)
        go_roundw
        case rel => exact ⟨k + 1, by omega, by go_num, by rw [← HX.out]; exact R.out⟩
        case measure => simp [intOf]; omega
      · have ht : z.take k = z := List.take_of_length_le (by omega)
        rw [ht] at hmd
        have R : Hid _ := hmd
        have hc0' := hmd.2.1.cell (p := ⟨w.heap.size, 0, none⟩) (by simp)
        rw [hc0] at hc0'
        have hc37' := hmd.2.1.cell (p := ⟨w.heap.size, 37, none⟩) (by simp)
        rw [hc37] at hc37'
        clear hmd ht
        go_wp2_with (refine wpList_app rfl (.tmp 54) (.tmp 58) rfl (v := u3) rfl rfl (Made.alloc R.out _).1 (src_new _ [nth] 1) (by simp; omega) ?_; intro v' w2 hv hch hat; have R2 : Hid _ := Made.app (Made.alloc R.out _) hv hch hat; clear hv hch hat)
        go_ret
        refine ⟨_, rfl, ?_, B0.out.trans (R2.out.2.1.mono (by simp))⟩
        simp only [lays]
        simp
        exact Own.src R2.out.1
  have HL : Hid _ := (show lays kind n m z nth = [] by simp [lays, h1, h2, h3, h4, h5, h6, h7, h8])
  go_enter Try.func12, Try.ntmps12
  go_wp2_with fail
  go_ret
  refine ⟨_, rfl, ?_, B0.out⟩
  rw [HL.out]
  exact .inl ⟨rfl, rfl⟩

end Go.Proofs.Ytkchmoapcmageaa
