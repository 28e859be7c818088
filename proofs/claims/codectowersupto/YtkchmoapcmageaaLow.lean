/-
  The walks of a Reader's Byte, Word and Long, and of the reference's Low.
-/
import Derived.Test.YtkchmoapcmageaaTake
import Derived.Laws.BitsAllLaws
namespace Go.Proofs.Ytkchmoapcmageaa
open Go.RowKit

/-- Bytes as a number, the highest first. -/
def lowN (l : List Int) : Nat := l.foldl (fun x c => 256 * x + c.toNat) 0
theorem lowN_step {l : List Int} {j : Nat} (h : j < l.length) : lowN (l.take (j + 1)) = 256 * lowN (l.take j) + (l[j]).toNat := by
  unfold lowN
  rw [List.take_succ_eq_append_getElem h, List.foldl_append]
  rfl
theorem foldl_lt (l : List Int) (hb : Byts l) : ∀ x, l.foldl (fun x c => 256 * x + c.toNat) x < (x + 1) * 256 ^ l.length := by
  induction l with
  | nil => intro x; simp
  | cons c l ih =>
    intro x
    have hc := hb c (by simp)
    have := ih (fun y hy => hb y (by simp [hy])) (256 * x + c.toNat)
    simp only [List.foldl_cons, List.length_cons]
    refine Nat.lt_of_lt_of_le this ?_
    rw [Nat.pow_succ, Nat.mul_comm (256 ^ l.length) 256, ← Nat.mul_assoc]
    exact Nat.mul_le_mul_right _ (by omega)
theorem lowN_lt {l : List Int} (hb : Byts l) : lowN l < 256 ^ l.length := by simpa [lowN] using foldl_lt l hb 0
theorem Byts.take {l : List Int} (h : Byts l) (j : Nat) : Byts (l.take j) := fun y hy => h y (List.mem_of_mem_take hy)
theorem Byts.at {l : List Int} (h : Byts l) {j : Nat} (hj : j < l.length) : 0 ≤ l[j] ∧ l[j] ≤ 255 := h _ (List.getElem_mem hj)
theorem pL_byts {T : List Int} (h : Byts T) (a : Nat) (err n : Int) : Byts (pL T a err n) := by
  unfold pL
  split
  · exact fun y hy => h y (List.mem_of_mem_drop (List.mem_of_mem_take hy))
  · intro y hy; cases hy
theorem pL_len (T : List Int) (a : Nat) (err : Int) (m : Nat) : (pL T a err m).length ≤ m := by
  unfold pL
  split
  · simp; omega
  · simp

theorem or_low {x c : Nat} (hc : c < 256) : (256 * x) ||| c = 256 * x + c := by
  have := Nat.shiftLeft_add_eq_or_of_lt (i := 8) (b := c) (by simpa using hc) x
  rw [Nat.shiftLeft_eq] at this
  rw [Nat.mul_comm 256 x]
  exact this.symm

set_option maxRecDepth 100000 in
set_option maxHeartbeats 1000000 in
theorem rByte_any {w : World} {p : Nat} {t : TypeId} {tv : Value} {T : List Int} {a : Nat} {err : Int} (h : RS w p t tv T a err) :
    Calls Try.prog 60 #[.pointer (some ⟨p, 0, none⟩)] w fun e w' => e = .returned (.int .u8 (lowN (pL T a err 1))) ∧ RP w w' p t tv T (pA T a err 1) (pE T a err 1) := by
  have HB : Hid _ := pL_byts h.byt a err 1
  have HL : (pL T a err 1).length ≤ 1 := pL_len T a err 1
  have TK := take_any h 1
  obtain ⟨l, hl⟩ : ∃ l, l = pL T a err 1 := ⟨_, rfl⟩
  rw [← hl] at HB HL TK ⊢
  have HT : Hid _ := TK
  clear hl h TK
  go_enter Try.func60, Try.ntmps60
  go_wp2_with fail
  refine Calls.mono HT.out ?_
  rintro e w1 ⟨s, rfl, s1, r1, _⟩
  obtain ⟨a0, c0, hs⟩ := s1.form
  subst hs
  have S1 : Hid _ := s1
  have R1 : Hid _ := r1
  clear s1 r1 HT
  go_wp2_with fail
  go_loop [3, 9] (fun x i => ∃ j : Nat, j ≤ l.length ∧ i = .int .i64 j ∧ x = .int .u8 (lowN (l.take j))) (fun _ i => l.length - (intOf i).toNat)
  case atStart => exact ⟨0, Nat.zero_le _, rfl, rfl⟩
  case round =>
    obtain ⟨j, hj, rfl, rfl⟩ := hrel
    by_cases hlt : j < l.length
    · obtain ⟨g, o, rfl, hc⟩ := Src.at S1.out j hlt
      have hb := Byts.at HB.out hlt
      obtain ⟨x, hx⟩ : ∃ x : Nat, (x : Int) = l[j] := ⟨l[j].toNat, by omega⟩
      rw [← hx] at hc
      have hst := lowN_step hlt
      have hlo := lowN_lt (Byts.take HB.out j)
      have hlen : (l.take j).length = j := by simp; omega
      rw [hlen] at hlo
      have hpw : 256 ^ j ≤ 256 ^ 0 := Nat.pow_le_pow_right (by omega) (by omega)
      obtain ⟨y, hy⟩ : ∃ y, y = lowN (l.take j) := ⟨_, rfl⟩
      rw [← hy] at hlo hst ⊢
      have hyb : y < 1 := by omega
      have hxb : x < 256 := by omega
      have HST : Hid (lowN (l.take (j + 1)) = 256 * y + x) := by show _ = _; rw [hst]; omega
      clear hst hlo hpw hlen hb hy hx
      go_wp2_with fail
      go_round
      case rel => exact ⟨j + 1, by omega, by go_num, by rw [HST.out]; congr 1; omega⟩
      case measure => simp [intOf]; omega
    · have HE : Hid _ := List.take_of_length_le (l := l) (i := j) (by omega)
      go_wp2_with fail
      go_ret
      exact ⟨by rw [HE.out]; rfl, R1.out⟩

set_option maxRecDepth 100000 in
set_option maxHeartbeats 1000000 in
theorem rWord_any {w : World} {p : Nat} {t : TypeId} {tv : Value} {T : List Int} {a : Nat} {err : Int} (h : RS w p t tv T a err) :
    Calls Try.prog 62 #[.pointer (some ⟨p, 0, none⟩)] w fun e w' => e = .returned (.int .u32 (lowN (pL T a err 4))) ∧ RP w w' p t tv T (pA T a err 4) (pE T a err 4) := by
  have HB : Hid _ := pL_byts h.byt a err 4
  have HL : (pL T a err 4).length ≤ 4 := pL_len T a err 4
  have TK := take_any h 4
  obtain ⟨l, hl⟩ : ∃ l, l = pL T a err 4 := ⟨_, rfl⟩
  rw [← hl] at HB HL TK ⊢
  have HT : Hid _ := TK
  clear hl h TK
  go_enter Try.func62, Try.ntmps62
  go_wp2_with fail
  refine Calls.mono HT.out ?_
  rintro e w1 ⟨s, rfl, s1, r1, _⟩
  obtain ⟨a0, c0, hs⟩ := s1.form
  subst hs
  have S1 : Hid _ := s1
  have R1 : Hid _ := r1
  clear s1 r1 HT
  go_wp2_with fail
  go_loop [3, 9] (fun x i => ∃ j : Nat, j ≤ l.length ∧ i = .int .i64 j ∧ x = .int .u32 (lowN (l.take j))) (fun _ i => l.length - (intOf i).toNat)
  case atStart => exact ⟨0, Nat.zero_le _, rfl, rfl⟩
  case round =>
    obtain ⟨j, hj, rfl, rfl⟩ := hrel
    by_cases hlt : j < l.length
    · obtain ⟨g, o, rfl, hc⟩ := Src.at S1.out j hlt
      have hb := Byts.at HB.out hlt
      obtain ⟨x, hx⟩ : ∃ x : Nat, (x : Int) = l[j] := ⟨l[j].toNat, by omega⟩
      rw [← hx] at hc
      have hst := lowN_step hlt
      have hlo := lowN_lt (Byts.take HB.out j)
      have hlen : (l.take j).length = j := by simp; omega
      rw [hlen] at hlo
      have hpw : 256 ^ j ≤ 256 ^ 3 := Nat.pow_le_pow_right (by omega) (by omega)
      obtain ⟨y, hy⟩ : ∃ y, y = lowN (l.take j) := ⟨_, rfl⟩
      rw [← hy] at hlo hst ⊢
      have hyb : y < 16777216 := by omega
      have hxb : x < 256 := by omega
      have HST : Hid (lowN (l.take (j + 1)) = 256 * y + x) := by show _ = _; rw [hst]; omega
      clear hst hlo hpw hlen hb hy hx
      have hor : Hid (bits .or .u32 ((y : Int) * 256) x = ((256 * y + x : Nat) : Int)) := by
        show _ = _
        rw [show ((y : Int) * 256) = ((256 * y : Nat) : Int) by omega, u32_or_nat _ _ (by omega) (by omega), or_low hxb]
      go_wp2_with fail
      go_round
      case rel => exact ⟨j + 1, by omega, by go_num, by rw [HST.out, hor.out]⟩
      case measure => simp [intOf]; omega
    · have HE : Hid _ := List.take_of_length_le (l := l) (i := j) (by omega)
      go_wp2_with fail
      go_ret
      exact ⟨by rw [HE.out]; rfl, R1.out⟩

set_option maxRecDepth 100000 in
set_option maxHeartbeats 1000000 in
theorem rLong_any {w : World} {p : Nat} {t : TypeId} {tv : Value} {T : List Int} {a : Nat} {err : Int} (h : RS w p t tv T a err) :
    Calls Try.prog 63 #[.pointer (some ⟨p, 0, none⟩)] w fun e w' => e = .returned (.int .u64 (lowN (pL T a err 8))) ∧ RP w w' p t tv T (pA T a err 8) (pE T a err 8) := by
  have HB : Hid _ := pL_byts h.byt a err 8
  have HL : (pL T a err 8).length ≤ 8 := pL_len T a err 8
  have TK := take_any h 8
  obtain ⟨l, hl⟩ : ∃ l, l = pL T a err 8 := ⟨_, rfl⟩
  rw [← hl] at HB HL TK ⊢
  have HT : Hid _ := TK
  clear hl h TK
  go_enter Try.func63, Try.ntmps63
  go_wp2_with fail
  refine Calls.mono HT.out ?_
  rintro e w1 ⟨s, rfl, s1, r1, _⟩
  obtain ⟨a0, c0, hs⟩ := s1.form
  subst hs
  have S1 : Hid _ := s1
  have R1 : Hid _ := r1
  clear s1 r1 HT
  go_wp2_with fail
  go_loop [3, 9] (fun x i => ∃ j : Nat, j ≤ l.length ∧ i = .int .i64 j ∧ x = .int .u64 (lowN (l.take j))) (fun _ i => l.length - (intOf i).toNat)
  case atStart => exact ⟨0, Nat.zero_le _, rfl, rfl⟩
  case round =>
    obtain ⟨j, hj, rfl, rfl⟩ := hrel
    by_cases hlt : j < l.length
    · obtain ⟨g, o, rfl, hc⟩ := Src.at S1.out j hlt
      have hb := Byts.at HB.out hlt
      obtain ⟨x, hx⟩ : ∃ x : Nat, (x : Int) = l[j] := ⟨l[j].toNat, by omega⟩
      rw [← hx] at hc
      have hst := lowN_step hlt
      have hlo := lowN_lt (Byts.take HB.out j)
      have hlen : (l.take j).length = j := by simp; omega
      rw [hlen] at hlo
      have hpw : 256 ^ j ≤ 256 ^ 7 := Nat.pow_le_pow_right (by omega) (by omega)
      obtain ⟨y, hy⟩ : ∃ y, y = lowN (l.take j) := ⟨_, rfl⟩
      rw [← hy] at hlo hst ⊢
      have hyb : y < 72057594037927936 := by omega
      have hxb : x < 256 := by omega
      have HST : Hid (lowN (l.take (j + 1)) = 256 * y + x) := by show _ = _; rw [hst]; omega
      clear hst hlo hpw hlen hb hy hx
      have hor : Hid (bits .or .u64 ((y : Int) * 256) x = ((256 * y + x : Nat) : Int)) := by
        show _ = _
        rw [show ((y : Int) * 256) = ((256 * y : Nat) : Int) by omega, u64_or_nat _ _ (by omega) (by omega), or_low hxb]
      go_wp2_with fail
      go_round
      case rel => exact ⟨j + 1, by omega, by go_num, by rw [HST.out, hor.out]⟩
      case measure => simp [intOf]; omega
    · have HE : Hid _ := List.take_of_length_le (l := l) (i := j) (by omega)
      go_wp2_with fail
      go_ret
      exact ⟨by rw [HE.out]; rfl, R1.out⟩

set_option maxRecDepth 100000 in
set_option maxHeartbeats 1000000 in
theorem xLow_any {w : World} {p : Nat} {t : TypeId} {tv : Value} {T : List Int} {a : Nat} {err : Int} (h : RS w p t tv T a err) (m : Nat) (hm : m ≤ 8) :
    Calls Try.prog 61 #[.pointer (some ⟨p, 0, none⟩), .int .i64 m] w fun e w' => e = .returned (.int .u64 (lowN (pL T a err m))) ∧ RP w w' p t tv T (pA T a err m) (pE T a err m) := by
  have HB : Hid _ := pL_byts h.byt a err m
  have HL : (pL T a err m).length ≤ m := pL_len T a err m
  have TK := piece_any h m
  obtain ⟨l, hl⟩ : ∃ l, l = pL T a err m := ⟨_, rfl⟩
  rw [← hl] at HB HL TK ⊢
  have HT : Hid _ := TK
  clear hl h TK
  go_enter Try.func61, Try.ntmps61
  go_wp2_with fail
  refine Calls.mono HT.out ?_
  rintro e w1 ⟨s, rfl, s1, r1, _⟩
  obtain ⟨a0, c0, hs⟩ := s1.form
  subst hs
  have S1 : Hid _ := s1.src
  have R1 : Hid _ := r1
  clear s1 r1 HT
  go_wp2_with fail
  go_loop [5, 12] (fun x i => ∃ j : Nat, j ≤ l.length ∧ i = .int .i64 j ∧ x = .int .u64 (lowN (l.take j))) (fun _ i => l.length - (intOf i).toNat)
  case atStart => exact ⟨0, Nat.zero_le _, rfl, rfl⟩
  case round =>
    obtain ⟨j, hj, rfl, rfl⟩ := hrel
    by_cases hlt : j < l.length
    · obtain ⟨g, o, rfl, hc⟩ := Src.at S1.out j hlt
      have hb := Byts.at HB.out hlt
      obtain ⟨x, hx⟩ : ∃ x : Nat, (x : Int) = l[j] := ⟨l[j].toNat, by omega⟩
      rw [← hx] at hc
      have hst := lowN_step hlt
      have hlo := lowN_lt (Byts.take HB.out j)
      have hlen : (l.take j).length = j := by simp; omega
      rw [hlen] at hlo
      have hpw : 256 ^ j ≤ 256 ^ 7 := Nat.pow_le_pow_right (by omega) (by omega)
      obtain ⟨y, hy⟩ : ∃ y, y = lowN (l.take j) := ⟨_, rfl⟩
      rw [← hy] at hlo hst ⊢
      have hyb : y < 72057594037927936 := by omega
      have hxb : x < 256 := by omega
      have HST : Hid (lowN (l.take (j + 1)) = 256 * y + x) := by show _ = _; rw [hst]; omega
      clear hst hlo hpw hlen hb hy hx
      go_wp2_with fail
      go_round
      case rel => exact ⟨j + 1, by omega, by go_num, by rw [HST.out]; go_num⟩
      case measure => simp [intOf]; omega
    · have HE : Hid _ := List.take_of_length_le (l := l) (i := j) (by omega)
      go_wp2_with fail
      go_ret
      exact ⟨by rw [HE.out]; rfl, R1.out⟩

set_option maxRecDepth 100000 in
set_option maxHeartbeats 1000000 in
theorem rRaw_any {w : World} {p : Nat} {t : TypeId} {tv : Value} {T : List Int} {a : Nat} {err : Int} (h : RS w p t tv T a err) (n : Int) :
    Calls Try.prog 66 #[.pointer (some ⟨p, 0, none⟩), .int .i64 n] w fun e w' => ∃ s, e = .returned s ∧ Own w' s (pL T a err n) ∧ RP w w' p t tv T (pA T a err n) (pE T a err n) ∧ ∀ k, s.ownBlock = some k → w.heap.size ≤ k := by
  have hbl : (pL T a err n).length ≤ 140737488355328 := by
    have := h.big
    unfold pL
    split
    · simp; omega
    · simp
  have TK := take_any h n
  obtain ⟨l, hl⟩ : ∃ l, l = pL T a err n := ⟨_, rfl⟩
  rw [← hl] at hbl TK ⊢
  have HT : Hid _ := TK
  clear hl h TK
  go_enter Try.func66, Try.ntmps66
  go_wp2_with fail
  refine Calls.mono HT.out ?_
  rintro e w1 ⟨s, rfl, s1, r1, _⟩
  obtain ⟨a0, c0, hs⟩ := s1.form
  subst hs
  have S1 : Hid _ := s1
  have R1 : Hid _ := r1
  clear s1 r1 HT
  go_wp2_with fail
  refine (clone_any S1.out hbl).mono ?_
  rintro e w2 ⟨v2, rfl, M2⟩
  have M : Hid _ := M2
  clear M2
  go_wp2_with fail
  go_ret
  refine ⟨_, rfl, M.out.1, ⟨RS.keep0 R1.out.1 M.out.2.1, R1.out.2.trans (Chg.of_below M.out.2.1 (fun _ => False)) (fun _ h => h.elim)⟩, fun k hk => Nat.le_trans R1.out.2.size (M.out.2.2 k hk)⟩

set_option maxRecDepth 100000 in
set_option maxHeartbeats 1000000 in
theorem xRaw_any {w : World} {p : Nat} {t : TypeId} {tv : Value} {T : List Int} {a : Nat} {err : Int} (h : RS w p t tv T a err) (n : Int) :
    Calls Try.prog 67 #[.pointer (some ⟨p, 0, none⟩), .int .i64 n] w fun e w' => ∃ s, e = .returned s ∧ Own w' s (pL T a err n) ∧ RP w w' p t tv T (pA T a err n) (pE T a err n) ∧ ∀ k, s.ownBlock = some k → w.heap.size ≤ k := by
  have HT : Hid _ := piece_any h n
  clear h
  go_enter Try.func67, Try.ntmps67
  go_wp2_with fail
  refine Calls.mono HT.out ?_
  rintro e w1 ⟨s, rfl, R⟩
  have R1 : Hid _ := R
  clear R HT
  go_wp2_with fail
  go_ret
  exact ⟨_, rfl, R1.out⟩
end Go.Proofs.Ytkchmoapcmageaa
