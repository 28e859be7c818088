import Derived.Test.YtjmeaebehndheaaTake
import Derived.Laws.BitsAllLaws
import Derived.Deep.WholeRow
/-
  The walks of a Reader's Byte, Word and Long, and of the reference's Low.
-/
namespace Go.Proofs.Ytjmeaebehndheaa
open Go.RowKit

/-- Bytes as a number, the highest first. -/
def lowN (l : List Int) : Nat := l.foldl (fun x c => 256 * x + c.toNat) 0
theorem lowN_step {l : List Int} {j : Nat} (h : j < l.length) : lowN (l.take (j + 1)) = 256 * lowN (l.take j) + (l[j]).toNat := by
  unfold lowN
  rw [List.take_succ_eq_append_getElem h, List.foldl_append]
  rfl
theorem foldl_lt (l : List Int) (hb : Byts l) : ∀ x, l.foldl (fun x c => 256 * x + c.toNat) x < (x + 1) * 256 ^ l.length := by
  induction l with
  | nil => intro x; simp
  | cons c l ih =>
    intro x
    have hc := hb c (by simp)
    have := ih (fun y hy => hb y (by simp [hy])) (256 * x + c.toNat)
    simp only [List.foldl_cons, List.length_cons]
    refine Nat.lt_of_lt_of_le this ?_
    rw [Nat.pow_succ, Nat.mul_comm (256 ^ l.length) 256, ← Nat.mul_assoc]
    exact Nat.mul_le_mul_right _ (by omega)
theorem lowN_lt {l : List Int} (hb : Byts l) : lowN l < 256 ^ l.length := by simpa [lowN] using foldl_lt l hb 0
theorem Byts.take {l : List Int} (h : Byts l) (j : Nat) : Byts (l.take j) := fun y hy => h y (List.mem_of_mem_take hy)
theorem Byts.at {l : List Int} (h : Byts l) {j : Nat} (hj : j < l.length) : 0 ≤ l[j] ∧ l[j] ≤ 255 := h _ (List.getElem_mem hj)
theorem pL_byts {T : List Int} (h : Byts T) (a : Nat) (err n : Int) : Byts (pL T a err n) := by
  unfold pL
  split
  · exact fun y hy => h y (List.mem_of_mem_drop (List.mem_of_mem_take hy))
  · intro y hy; cases hy
theorem pL_len (T : List Int) (a : Nat) (err : Int) (m : Nat) : (pL T a err m).length ≤ m := by
  unfold pL
  split
  · simp; omega
  · simp

theorem or_low {x c : Nat} (hc : c < 256) : (256 * x) ||| c = 256 * x + c := by
  have := Nat.shiftLeft_add_eq_or_of_lt (i := 8) (b := c) (by simpa using hc) x
  rw [Nat.shiftLeft_eq] at this
  rw [Nat.mul_comm 256 x]
  exact this.symm

set_option maxRecDepth 100000 in
set_option maxHeartbeats 1000000 in
theorem rByte_any {w : World} {p : Nat} {t : TypeId} {tv : Value} {T : List Int} {a : Nat} {err : Int} (h : RS w p t tv T a err) :
    Calls Try.prog 60 #[.pointer (some ⟨p, 0, none⟩)] w fun e w' => e = .returned (.int .u8 (lowN (pL T a err 1))) ∧ RP w w' p t tv T (pA T a err 1) (pE T a err 1) := by
  have HB : Hid _ := pL_byts h.byt a err 1
  have HL : (pL T a err 1).length ≤ 1 := pL_len T a err 1
  have TK := take_any h 1
  obtain ⟨l, hl⟩ : ∃ l, l = pL T a err 1 := ⟨_, rfl⟩
  rw [← hl] at HB HL TK ⊢
  have HT : Hid _ := TK
  clear hl h TK
  go_enter Try.func60, Try.ntmps60
  go_wp2_with fail
  refine Calls.mono HT.out ?_
  rintro e w1 ⟨s, rfl, s1, r1, _⟩
  obtain ⟨a0, c0, hs⟩ := s1.form
  subst hs
  have S1 : Hid _ := s1
  have R1 : Hid _ := r1
  clear s1 r1 HT
  go_wp2_with fail
  go_loop [3, 9] (fun x i => ∃ j : Nat, j ≤ l.length ∧ i = .int .i64 j ∧ x = .int .u8 (lowN (l.take j))) (fun _ i => l.length - (intOf i).toNat)
  case atStart => exact ⟨0, Nat.zero_le _, rfl, rfl⟩
  case round =>
    obtain ⟨j, hj, rfl, rfl⟩ := hrel
    by_cases hlt : j < l.length
    · obtain ⟨g, o, rfl, hc⟩ := Src.at S1.out j hlt
      have hb := Byts.at HB.out hlt
      obtain ⟨x, hx⟩ : ∃ x : Nat, (x : Int) = l[j] := ⟨l[j].toNat, by omega⟩
      rw [← hx] at hc
      have hst := lowN_step hlt
      have hlo := lowN_lt (Byts.take HB.out j)
      have hlen : (l.take j).length = j := by simp; omega
      rw [hlen] at hlo
      have hpw : 256 ^ j ≤ 256 ^ 0 := Nat.pow_le_pow_right (by omega) (by omega)
      obtain ⟨y, hy⟩ : ∃ y, y = lowN (l.take j) := ⟨_, rfl⟩
      rw [← hy] at hlo hst ⊢
      have hyb : y < 1 := by omega
      have hxb : x < 256 := by omega
      have HST : Hid (lowN (l.take (j + 1)) = 256 * y + x) := by show _ = _; rw [hst]; omega
      clear hst hlo hpw hlen hb hy hx
      go_wp2_with fail
      go_round
      case rel => exact ⟨j + 1, by omega, by go_num, by rw [HST.out]; congr 1; omega⟩
      case measure => simp [intOf]; omega
    · have HE : Hid _ := List.take_of_length_le (l := l) (i := j) (by omega)
      go_wp2_with fail
      go_ret
      exact ⟨by rw [HE.out]; rfl, R1.out⟩

set_option maxRecDepth 100000 in
set_option maxHeartbeats 1000000 in
theorem rWord_any {w : World} {p : Nat} {t : TypeId} {tv : Value} {T : List Int} {a : Nat} {err : Int} (h : RS w p t tv T a err) :
    Calls Try.prog 62 #[.pointer (some ⟨p, 0, none⟩)] w fun e w' => e = .returned (.int .u32 (lowN (pL T a err 4))) ∧ RP w w' p t tv T (pA T a err 4) (pE T a err 4) := by
  have HB : Hid _ := pL_byts h.byt a err 4
  have HL : (pL T a err 4).length ≤ 4 := pL_len T a err 4
  have TK := take_any h 4
  obtain ⟨l, hl⟩ : ∃ l, l = pL T a err 4 := ⟨_, rfl⟩
  rw [← hl] at HB HL TK ⊢
  have HT : Hid _ := TK
  clear hl h TK
  go_enter Try.func62, Try.ntmps62
  go_wp2_with fail
  refine Calls.mono HT.out ?_
  rintro e w1 ⟨s, rfl, s1, r1, _⟩
  obtain ⟨a0, c0, hs⟩ := s1.form
  subst hs
  have S1 : Hid _ := s1
  have R1 : Hid _ := r1
  clear s1 r1 HT
  go_wp2_with fail
  go_loop [3, 9] (fun x i => ∃ j : Nat, j ≤ l.length ∧ i = .int .i64 j ∧ x = .int .u32 (lowN (l.take j))) (fun _ i => l.length - (intOf i).toNat)
  case atStart => exact ⟨0, Nat.zero_le _, rfl, rfl⟩
  case round =>
    obtain ⟨j, hj, rfl, rfl⟩ := hrel
    by_cases hlt : j < l.length
    · obtain ⟨g, o, rfl, hc⟩ := Src.at S1.out j hlt
      have hb := Byts.at HB.out hlt
      obtain ⟨x, hx⟩ : ∃ x : Nat, (x : Int) = l[j] := ⟨l[j].toNat, by omega⟩
      rw [← hx] at hc
      have hst := lowN_step hlt
      have hlo := lowN_lt (Byts.take HB.out j)
      have hlen : (l.take j).length = j := by simp; omega
      rw [hlen] at hlo
      have hpw : 256 ^ j ≤ 256 ^ 3 := Nat.pow_le_pow_right (by omega) (by omega)
      obtain ⟨y, hy⟩ : ∃ y, y = lowN (l.take j) := ⟨_, rfl⟩
      rw [← hy] at hlo hst ⊢
      have hyb : y < 16777216 := by omega
      have hxb : x < 256 := by omega
      have HST : Hid (lowN (l.take (j + 1)) = 256 * y + x) := by show _ = _; rw [hst]; omega
      clear hst hlo hpw hlen hb hy hx
      have hor : Hid (bits .or .u32 ((y : Int) * 256) x = ((256 * y + x : Nat) : Int)) := by
        show _ = _
        rw [show ((y : Int) * 256) = ((256 * y : Nat) : Int) by omega, u32_or_nat _ _ (by omega) (by omega), or_low hxb]
      go_wp2_with fail
      go_round
      case rel => exact ⟨j + 1, by omega, by go_num, by rw [HST.out, hor.out]⟩
      case measure => simp [intOf]; omega
    · have HE : Hid _ := List.take_of_length_le (l := l) (i := j) (by omega)
      go_wp2_with fail
      go_ret
      exact ⟨by rw [HE.out]; rfl, R1.out⟩

set_option maxRecDepth 100000 in
set_option maxHeartbeats 1000000 in
theorem rLong_any {w : World} {p : Nat} {t : TypeId} {tv : Value} {T : List Int} {a : Nat} {err : Int} (h : RS w p t tv T a err) :
    Calls Try.prog 63 #[.pointer (some ⟨p, 0, none⟩)] w fun e w' => e = .returned (.int .u64 (lowN (pL T a err 8))) ∧ RP w w' p t tv T (pA T a err 8) (pE T a err 8) := by
  have HB : Hid _ := pL_byts h.byt a err 8
  have HL : (pL T a err 8).length ≤ 8 := pL_len T a err 8
  have TK := take_any h 8
  obtain ⟨l, hl⟩ : ∃ l, l = pL T a err 8 := ⟨_, rfl⟩
  rw [← hl] at HB HL TK ⊢
  have HT : Hid _ := TK
  clear hl h TK
  go_enter Try.func63, Try.ntmps63
  go_wp2_with fail
  refine Calls.mono HT.out ?_
  rintro e w1 ⟨s, rfl, s1, r1, _⟩
  obtain ⟨a0, c0, hs⟩ := s1.form
  subst hs
  have S1 : Hid _ := s1
  have R1 : Hid _ := r1
  clear s1 r1 HT
  go_wp2_with fail
  go_loop [3, 9] (fun x i => ∃ j : Nat, j ≤ l.length ∧ i = .int .i64 j ∧ x = .int .u64 (lowN (l.take j))) (fun _ i => l.length - (intOf i).toNat)
  case atStart => exact ⟨0, Nat.zero_le _, rfl, rfl⟩
  case round =>
    obtain ⟨j, hj, rfl, rfl⟩ := hrel
    by_cases hlt : j < l.length
    · obtain ⟨g, o, rfl, hc⟩ := Src.at S1.out j hlt
      have hb := Byts.at HB.out hlt
      obtain ⟨x, hx⟩ : ∃ x : Nat, (x : Int) = l[j] := ⟨l[j].toNat, by omega⟩
      rw [← hx] at hc
      have hst := lowN_step hlt
      have hlo := lowN_lt (Byts.take HB.out j)
      have hlen : (l.take j).length = j := by simp; omega
      rw [hlen] at hlo
      have hpw : 256 ^ j ≤ 256 ^ 7 := Nat.pow_le_pow_right (by omega) (by omega)
      obtain ⟨y, hy⟩ : ∃ y, y = lowN (l.take j) := ⟨_, rfl⟩
      rw [← hy] at hlo hst ⊢
      have hyb : y < 72057594037927936 := by omega
      have hxb : x < 256 := by omega
      have HST : Hid (lowN (l.take (j + 1)) = 256 * y + x) := by show _ = _; rw [hst]; omega
      clear hst hlo hpw hlen hb hy hx
      have hor : Hid (bits .or .u64 ((y : Int) * 256) x = ((256 * y + x : Nat) : Int)) := by
        show _ = _
        rw [show ((y : Int) * 256) = ((256 * y : Nat) : Int) by omega, u64_or_nat _ _ (by omega) (by omega), or_low hxb]
      go_wp2_with fail
      go_round
      case rel => exact ⟨j + 1, by omega, by go_num, by rw [HST.out, hor.out]⟩
      case measure => simp [intOf]; omega
    · have HE : Hid _ := List.take_of_length_le (l := l) (i := j) (by omega)
      go_wp2_with fail
      go_ret
      exact ⟨by rw [HE.out]; rfl, R1.out⟩

set_option maxRecDepth 100000 in
set_option maxHeartbeats 1000000 in
theorem xLow_any {w : World} {p : Nat} {t : TypeId} {tv : Value} {T : List Int} {a : Nat} {err : Int} (h : RS w p t tv T a err) (m : Nat) (hm : m ≤ 8) :
    Calls Try.prog 61 #[.pointer (some ⟨p, 0, none⟩), .int .i64 m] w fun e w' => e = .returned (.int .u64 (lowN (pL T a err m))) ∧ RP w w' p t tv T (pA T a err m) (pE T a err m) := by
  have HB : Hid _ := pL_byts h.byt a err m
  have HL : (pL T a err m).length ≤ m := pL_len T a err m
  have TK := piece_any h m
  obtain ⟨l, hl⟩ : ∃ l, l = pL T a err m := ⟨_, rfl⟩
  rw [← hl] at HB HL TK ⊢
  have HT : Hid _ := TK
  clear hl h TK
  go_enter Try.func61, Try.ntmps61
  go_wp2_with fail
  refine Calls.mono HT.out ?_
  rintro e w1 ⟨s, rfl, s1, r1, _⟩
  obtain ⟨a0, c0, hs⟩ := s1.form
  subst hs
  have S1 : Hid _ := s1.src
  have R1 : Hid _ := r1
  clear s1 r1 HT
  go_wp2_with fail
  go_loop [5, 12] (fun x i => ∃ j : Nat, j ≤ l.length ∧ i = .int .i64 j ∧ x = .int .u64 (lowN (l.take j))) (fun _ i => l.length - (intOf i).toNat)
  case atStart => exact ⟨0, Nat.zero_le _, rfl, rfl⟩
  case round =>
    obtain ⟨j, hj, rfl, rfl⟩ := hrel
    by_cases hlt : j < l.length
    · obtain ⟨g, o, rfl, hc⟩ := Src.at S1.out j hlt
      have hb := Byts.at HB.out hlt
      obtain ⟨x, hx⟩ : ∃ x : Nat, (x : Int) = l[j] := ⟨l[j].toNat, by omega⟩
      rw [← hx] at hc
      have hst := lowN_step hlt
      have hlo := lowN_lt (Byts.take HB.out j)
      have hlen : (l.take j).length = j := by simp; omega
      rw [hlen] at hlo
      have hpw : 256 ^ j ≤ 256 ^ 7 := Nat.pow_le_pow_right (by omega) (by omega)
      obtain ⟨y, hy⟩ : ∃ y, y = lowN (l.take j) := ⟨_, rfl⟩
      rw [← hy] at hlo hst ⊢
      have hyb : y < 72057594037927936 := by omega
      have hxb : x < 256 := by omega
      have HST : Hid (lowN (l.take (j + 1)) = 256 * y + x) := by show _ = _; rw [hst]; omega
      clear hst hlo hpw hlen hb hy hx
      go_wp2_with fail
      go_round
      case rel => exact ⟨j + 1, by omega, by go_num, by rw [HST.out]; go_num⟩
      case measure => simp [intOf]; omega
    · have HE : Hid _ := List.take_of_length_le (l := l) (i := j) (by omega)
      go_wp2_with fail
      go_ret
      exact ⟨by rw [HE.out]; rfl, R1.out⟩

set_option maxRecDepth 100000 in
set_option maxHeartbeats 1000000 in
theorem rRaw_any {w : World} {p : Nat} {t : TypeId} {tv : Value} {T : List Int} {a : Nat} {err : Int} (h : RS w p t tv T a err) (n : Int) :
    Calls Try.prog 66 #[.pointer (some ⟨p, 0, none⟩), .int .i64 n] w fun e w' => ∃ s, e = .returned s ∧ Own w' s (pL T a err n) ∧ RP w w' p t tv T (pA T a err n) (pE T a err n) ∧ ∀ k, s.ownBlock = some k → w.heap.size ≤ k := by
  have hbl : (pL T a err n).length ≤ 140737488355328 := by
    have := h.big
    unfold pL
    split
    · simp; omega
    · simp
  have TK := take_any h n
  obtain ⟨l, hl⟩ : ∃ l, l = pL T a err n := ⟨_, rfl⟩
  rw [← hl] at hbl TK ⊢
  have HT : Hid _ := TK
  clear hl h TK
  go_enter Try.func66, Try.ntmps66
  go_wp2_with fail
  refine Calls.mono HT.out ?_
  rintro e w1 ⟨s, rfl, s1, r1, _⟩
  obtain ⟨a0, c0, hs⟩ := s1.form
  subst hs
  have S1 : Hid _ := s1
  have R1 : Hid _ := r1
  clear s1 r1 HT
  go_wp2_with fail
  refine (clone_any S1.out hbl).mono ?_
  rintro e w2 ⟨v2, rfl, M2⟩
  have M : Hid _ := M2
  clear M2
  go_wp2_with fail
  go_ret
  refine ⟨_, rfl, M.out.1, ⟨RS.keep0 R1.out.1 M.out.2.1, R1.out.2.trans (Chg.of_below M.out.2.1 (fun _ => False)) (fun _ h => h.elim)⟩, fun k hk => Nat.le_trans R1.out.2.size (M.out.2.2 k hk)⟩

set_option maxRecDepth 100000 in
set_option maxHeartbeats 1000000 in
theorem xRaw_any {w : World} {p : Nat} {t : TypeId} {tv : Value} {T : List Int} {a : Nat} {err : Int} (h : RS w p t tv T a err) (n : Int) :
    Calls Try.prog 67 #[.pointer (some ⟨p, 0, none⟩), .int .i64 n] w fun e w' => ∃ s, e = .returned s ∧ Own w' s (pL T a err n) ∧ RP w w' p t tv T (pA T a err n) (pE T a err n) ∧ ∀ k, s.ownBlock = some k → w.heap.size ≤ k := by
  have HT : Hid _ := piece_any h n
  clear h
  go_enter Try.func67, Try.ntmps67
  go_wp2_with fail
  refine Calls.mono HT.out ?_
  rintro e w1 ⟨s, rfl, R⟩
  have R1 : Hid _ := R
  clear R HT
  go_wp2_with fail
  go_ret
  exact ⟨_, rfl, R1.out⟩
end Go.Proofs.Ytjmeaebehndheaa

/-
  The walks of a Reader's Sum and Addr, and of the reference's.
-/
namespace Go.Proofs.Ytjmeaebehndheaa
open Go.RowKit

theorem results_row1 {fn : Func} {p : Tmp} {ty : TypeId} (h : fn.results = #[.cell p ty]) (tmps : Array Value) (w : World) (g : Nat) (t : TypeId) (cs : List Value) (fr : Nat × Nat) (d : TypeDesc)
    (hp : tmps.getD p undef = .pointer (some ⟨g, 0, none⟩)) (hg : w.heap[g]? = some (.cells cs.toArray t fr))
    (hu : Try.prog.underlying ty = some d) (hd : d.isRow = true) (hi : (Try.prog.info? ty).map (·.size) = some cs.length) :
    (results fn tmps).run Try.prog w = .ok (.agg cs.toArray) w := by
  have hl := run_loadVar_mid (P := Try.prog) w g 0 ty cs d (fun j v hv => by rw [Nat.zero_add, cell_of_row w g j _ t fr hg]; simpa using hv) hu hd hi
  have hp' : tmps[p]?.getD undef = .pointer (some ⟨g, 0, none⟩) := by simpa using hp
  simp [results, h, hp', asAddr, hl]

/-- n places, the first of them filled. -/
def pad (n : Nat) (l : List Int) : List Int := l ++ List.replicate (n - l.length) 0
theorem pad_len {n : Nat} {l : List Int} (h : l.length ≤ n) : (pad n l).length = n := by simp [pad]; omega
theorem pad_full {n : Nat} {l : List Int} (h : l.length = n) : pad n l = l := by simp [pad, h]
theorem pad_nil (n : Nat) : (bs (pad n [])) = zer n := by simp [pad, bs, zer]
theorem pad_set {n : Nat} {l : List Int} {j : Nat} (h : j < l.length) (hn : l.length ≤ n) : (bs (pad n (l.take j))).toArray.setIfInBounds j (.int .u8 l[j]) = (bs (pad n (l.take (j + 1)))).toArray := by
  have e1 : (l.take j).length = j := by simp; omega
  have e2 : (l.take (j + 1)).length = j + 1 := by simp; omega
  have e3 : n - j = (n - (j + 1)) + 1 := by omega
  unfold pad
  rw [e1, e2, e3, List.take_succ_eq_append_getElem h, List.replicate_succ]
  have e4 : (bs (l.take j)).length = j := by rw [bs_len, e1]
  simp only [bs_app, List.append_assoc]
  rw [List.setIfInBounds_toArray]
  congr 1
  rw [List.set_append_right _ _ (by omega), e4, Nat.sub_self]
  simp [bs]
theorem pad_get {n : Nat} {l : List Int} {j : Nat} (h : j < n) : ∃ v, (bs (pad n l)).toArray[j]? = some v ∨ n ≤ l.length := by
  by_cases hn : l.length ≤ n
  · have : j < (bs (pad n l)).length := by rw [bs_len, pad_len hn]; exact h
    exact ⟨_, .inl (by simp [this]; rfl)⟩
  · exact ⟨.int .u8 0, .inr (by omega)⟩

theorem pL_cases (T : List Int) (a : Nat) (err : Int) (m : Nat) (ha : a ≤ T.length) : pL T a err m = [] ∨ ((pL T a err m).length = m ∧ pE T a err m = 0) := by
  by_cases h : err = 0 ∧ (0 : Int) ≤ m ∧ (m : Int) ≤ (T.length : Int) - a
  · obtain ⟨rfl, h1, h2⟩ := h
    obtain ⟨e1, _, e3⟩ := p_good (T := T) (a := a) (m := m) (by omega) ha
    exact .inr ⟨by rw [e1]; simp; omega, e3⟩
  · left; unfold pL; rw [if_neg h]

theorem Try.info31 (l : List Int) (h : l.length = 32) : (Try.prog.info? 31).map (·.size) = some (bs l).length := by rw [Try.sz31]; simp [bs, h]
theorem Try.info33 (l : List Int) (h : l.length = 33) : (Try.prog.info? 33).map (·.size) = some (bs l).length := by rw [Try.sz33]; simp [bs, h]

theorem RS.tvlt {w : World} {p : Nat} {t : TypeId} {tv : Value} {T : List Int} {a : Nat} {err : Int} (h : RS w p t tv T a err) : ∀ k, tv.ownBlock = some k → k < w.heap.size ∨ T = [] := by
  intro k hk
  rcases h.src with ⟨rfl, e⟩ | ⟨ad, c, rfl, hc⟩
  · exact .inr e
  · by_cases e : T = []
    · exact .inr e
    · left
      have h0 : 0 < T.length := List.length_pos_iff.2 e
      have := (hc 0 _ (bs_get T 0 h0)).2
      have h2 : ad.block < w.heap.size := World.block_lt_of_cell? w ⟨ad.block, ad.off + 0, none⟩ this
      simp [Value.ownBlock] at hk
      omega
theorem RS.keep2 {w w' : World} {p : Nat} {t : TypeId} {tv : Value} {T : List Int} {a : Nat} {err : Int} {S : Nat → Prop} (h : RS w p t tv T a err) (c : Chg S w w') (hp : ¬ S p) (ht : ∀ k, tv.ownBlock = some k → ¬ S k ∨ T = []) : RS w' p t tv T a err := by
  refine ⟨c.heap_some h.blk hp, ?_, h.ne, h.le, h.big, h.byt, h.cap⟩
  by_cases e : T = []
  · subst e
    rcases h.src with ⟨rfl, _⟩ | ⟨ad, c, rfl, hc⟩
    · exact .inl ⟨rfl, rfl⟩
    · exact .inr ⟨ad, c, rfl, fun j u hu => by simp [bs] at hu⟩
  · exact h.src.kept c (fun k hk => (ht k hk).resolve_right e)

/-- What a Reader's answer by value leaves: two blocks more. -/
theorem RP.below {w w0 w1 w2 : World} {p : Nat} {t : TypeId} {tv : Value} {T : List Int} {a : Nat} {err : Int} (hb : Below w.heap.size w w0) (hp : p < w.heap.size) (ht : ∀ k, tv.ownBlock = some k → k < w.heap.size ∨ T = []) (h : RP w0 w1 p t tv T a err) {S : Nat → Prop} (c : Chg S w1 w2) (hS : ∀ k, S k → w.heap.size ≤ k) : RP w w2 p t tv T a err :=
  ⟨h.1.keep2 c (fun s => by have := hS p s; omega) (fun k hk => (ht k hk).imp (fun hlt s => by have := hS k s; omega) id), (((Chg.of_below hb (fun k => k = p)).trans h.2 (fun _ e => .inl e))).trans c (fun i s => .inr (hS i s))⟩
theorem setRow_chg (w : World) (g : Nat) (cs : Array Value) : Chg (fun k => k = g) w (w.setRow g cs) := ⟨rfl, rfl, rfl, by simp [World.setRow], fun k _ hk => setRow_other w g k cs hk⟩

set_option maxRecDepth 100000 in
set_option maxHeartbeats 1000000 in
theorem xSum_any {w : World} {p : Nat} {t : TypeId} {tv : Value} {T : List Int} {a : Nat} {err : Int} (h : RS w p t tv T a err) :
    Calls Try.prog 71 #[.pointer (some ⟨p, 0, none⟩)] w fun e w' => e = .returned (.agg (bs (pad 32 (pL T a err 32))).toArray) ∧ RP w w' p t tv T (pA T a err 32) (pE T a err 32) := by
  have HL : (pL T a err 32).length ≤ 32 := pL_len T a err 32
  have hlt0 := h.lt
  have htv : ∀ k, tv.ownBlock = some k → k < w.heap.size ∨ T = [] := h.tvlt
  have TK : ∀ w', Below w.heap.size w w' → _ := fun w' b => piece_any (RS.keep0 h b) 32
  obtain ⟨l, hl⟩ : ∃ l, l = pL T a err 32 := ⟨_, rfl⟩
  rw [← hl] at HL ⊢
  simp only [← hl] at TK
  have HT : Hid _ := TK
  clear hl h TK
  obtain ⟨W0, hW0⟩ : ∃ W0, W0 = (w.alloc (.cells (zer 32).toArray 31)).alloc (.cells (zer 32).toArray 31) := ⟨_, rfl⟩
  have hb0 : Below w.heap.size w W0 := by rw [hW0]; exact ((Below.refl _ _).alloc (Nat.le_refl _) _).alloc (by simp) _
  have hr0 : W0.heap[w.heap.size]? = some (.cells (zer 32).toArray 31 (0, 0)) := by rw [hW0, Below.heap_alloc _ _ _ (by simp)]; exact heap_alloc_new _ _
  have hg0 : W0.heap[w.heap.size + 1]? = some (.cells (zer 32).toArray 31 (0, 0)) := by
    rw [hW0]
    have := heap_alloc_new (w.alloc (.cells (zer 32).toArray 31)) (.cells (zer 32).toArray 31)
    simpa using this
  have HC : Hid _ := HT.out W0 hb0
  rw [hW0] at HC
  have HB0 : Hid _ := hb0
  have HR0 : Hid _ := hr0
  have HG0 : Hid _ := hg0
  have HW0 : Hid _ := hW0
  clear hb0 hr0 hg0 hW0 HT
  go_enter Try.func71, Try.ntmps71
  go_wp2_with fail
  refine Calls.mono HC.out ?_
  rintro e w1 ⟨s, rfl, s1, r1, hsb⟩
  rw [← HW0.out] at r1 hsb
  have hsz0 : w.heap.size + 2 ≤ W0.heap.size := by rw [HW0.out]; simp
  obtain ⟨a0, c0, hs⟩ := s1.form
  subst hs
  have hg1 : w1.heap[w.heap.size + 1]? = some (.cells (zer 32).toArray 31 (0, 0)) := r1.2.heap_some HG0.out (by omega)
  have hr1 : w1.heap[w.heap.size]? = some (.cells (zer 32).toArray 31 (0, 0)) := r1.2.heap_some HR0.out (by omega)
  have S1 : Hid _ := s1.src
  have R1 : Hid _ := r1
  have HG1 : Hid _ := hg1
  have HR1 : Hid _ := hr1
  clear s1 r1 hg1 hr1 HC HG0 HR0 HW0
  go_wp2_with fail
  go_loopw [9] (fun i wx => ∃ j : Nat, j ≤ l.length ∧ i = .int .i64 j ∧ wx.heap[w.heap.size + 1]? = some (.cells (bs (pad 32 (l.take j))).toArray 31 (0, 0)) ∧ Chg (fun k => k = w.heap.size + 1) w1 wx) (fun i _ => l.length - (intOf i).toNat)
  case atStart => exact ⟨0, Nat.zero_le _, rfl, by rw [List.take_zero, pad_nil]; exact HG1.out, Chg.refl _ _⟩
  case round =>
    obtain ⟨j, hj, rfl, hg, hch⟩ := hrel
    by_cases hlt : j < l.length
    · obtain ⟨g, o, rfl, hc⟩ := Src.at S1.out j hlt
      have hgb := hsb g rfl
      have hc1 := hch.cell_some hc (by show ¬ g = w.heap.size + 1; omega)
      obtain ⟨x, hx⟩ : ∃ x, x = l[j] := ⟨_, rfl⟩
      have hset := pad_set (n := 32) hlt HL
      rw [← hx] at hc1 hset
      have hcell : ∃ v, wr.cell? ⟨w.heap.size + 1, j, none⟩ = some v := by
        rw [cell_of_row wr _ j _ 31 _ hg]
        obtain ⟨v, hv | hv⟩ := pad_get (n := 32) (l := l.take j) (j := j) (by omega)
        · exact ⟨v, hv⟩
        · simp at hv; omega
      obtain ⟨v, hv⟩ := hcell
      have hfr := frozen_of_row wr (w.heap.size + 1) j _ 31 hg
      have R2 : Hid _ := heap_setCell_same wr (w.heap.size + 1) j _ 31 (.int .u8 x) hg
      have R3 : Hid _ := hch.setCell (p := ⟨w.heap.size + 1, j, none⟩) (.inl rfl) (.int .u8 x)
      rw [hset] at R2
      clear hc hx hset hg hch
      go_wp2_with fail
      go_roundw
      case rel => exact ⟨j + 1, by omega, by go_num, R2.out, R3.out⟩
      case measure => simp [intOf]; omega
    · have ht : l.take j = l := List.take_of_length_le (by omega)
      rw [ht] at hg
      have hr2 := hch.heap_some HR1.out (by omega)
      have R3 : Hid _ := hch
      clear hch ht
      go_wp2_with (first | (refine wpList_load_mid rfl 31 (.tmp 3) rfl (w.heap.size + 1) 0 rfl (bs (pad 32 l)) _ (fun j v hv => by rw [Nat.zero_add, cell_of_row wr _ j _ 31 _ hg]; simpa using hv) Try.underlying31 rfl (Try.info31 _ (pad_len HL)) ?_) | (refine wpList_store_row rfl 31 (.tmp 2) (.tmp 18) rfl w.heap.size (bs (pad 32 l)).toArray rfl rfl 31 (zer 32).toArray hr2 (by rw [List.size_toArray]; exact Try.info31 _ (pad_len HL)) (by simp [zer, bs, pad_len HL]) (all_oneCell_toArray (bs_one _)) ?_))
      refine bodyPost_ret (v := .agg (bs (pad 32 l)).toArray) (results_row1 rfl _ _ w.heap.size 31 _ _ _ rfl (setRow_heap _ _ _ _ _ _ hr2) Try.underlying31 rfl (Try.info31 _ (pad_len HL))) rfl ⟨rfl, ?_⟩
      exact RP.below HB0.out hlt0 htv R1.out (S := fun k => k = w.heap.size + 1 ∨ k = w.heap.size) ((R3.out.mono (fun _ _ e => .inl e)).trans (setRow_chg _ _ _) (fun _ e => .inl (.inr e))) (by rintro k (e | e) <;> omega)
set_option maxRecDepth 100000 in
set_option maxHeartbeats 1000000 in
theorem xAddr_any {w : World} {p : Nat} {t : TypeId} {tv : Value} {T : List Int} {a : Nat} {err : Int} (h : RS w p t tv T a err) :
    Calls Try.prog 73 #[.pointer (some ⟨p, 0, none⟩)] w fun e w' => e = .returned (.agg (bs (pad 33 (pL T a err 33))).toArray) ∧ RP w w' p t tv T (pA T a err 33) (pE T a err 33) := by
  have HL : (pL T a err 33).length ≤ 33 := pL_len T a err 33
  have hlt0 := h.lt
  have htv : ∀ k, tv.ownBlock = some k → k < w.heap.size ∨ T = [] := h.tvlt
  have TK : ∀ w', Below w.heap.size w w' → _ := fun w' b => piece_any (RS.keep0 h b) 33
  obtain ⟨l, hl⟩ : ∃ l, l = pL T a err 33 := ⟨_, rfl⟩
  rw [← hl] at HL ⊢
  simp only [← hl] at TK
  have HT : Hid _ := TK
  clear hl h TK
  obtain ⟨W0, hW0⟩ : ∃ W0, W0 = (w.alloc (.cells (zer 33).toArray 33)).alloc (.cells (zer 33).toArray 33) := ⟨_, rfl⟩
  have hb0 : Below w.heap.size w W0 := by rw [hW0]; exact ((Below.refl _ _).alloc (Nat.le_refl _) _).alloc (by simp) _
  have hr0 : W0.heap[w.heap.size]? = some (.cells (zer 33).toArray 33 (0, 0)) := by rw [hW0, Below.heap_alloc _ _ _ (by simp)]; exact heap_alloc_new _ _
  have hg0 : W0.heap[w.heap.size + 1]? = some (.cells (zer 33).toArray 33 (0, 0)) := by
    rw [hW0]
    have := heap_alloc_new (w.alloc (.cells (zer 33).toArray 33)) (.cells (zer 33).toArray 33)
    simpa using this
  have HC : Hid _ := HT.out W0 hb0
  rw [hW0] at HC
  have HB0 : Hid _ := hb0
  have HR0 : Hid _ := hr0
  have HG0 : Hid _ := hg0
  have HW0 : Hid _ := hW0
  clear hb0 hr0 hg0 hW0 HT
  go_enter Try.func73, Try.ntmps73
  go_wp2_with fail
  refine Calls.mono HC.out ?_
  rintro e w1 ⟨s, rfl, s1, r1, hsb⟩
  rw [← HW0.out] at r1 hsb
  have hsz0 : w.heap.size + 2 ≤ W0.heap.size := by rw [HW0.out]; simp
  obtain ⟨a0, c0, hs⟩ := s1.form
  subst hs
  have hg1 : w1.heap[w.heap.size + 1]? = some (.cells (zer 33).toArray 33 (0, 0)) := r1.2.heap_some HG0.out (by omega)
  have hr1 : w1.heap[w.heap.size]? = some (.cells (zer 33).toArray 33 (0, 0)) := r1.2.heap_some HR0.out (by omega)
  have S1 : Hid _ := s1.src
  have R1 : Hid _ := r1
  have HG1 : Hid _ := hg1
  have HR1 : Hid _ := hr1
  clear s1 r1 hg1 hr1 HC HG0 HR0 HW0
  go_wp2_with fail
  go_loopw [9] (fun i wx => ∃ j : Nat, j ≤ l.length ∧ i = .int .i64 j ∧ wx.heap[w.heap.size + 1]? = some (.cells (bs (pad 33 (l.take j))).toArray 33 (0, 0)) ∧ Chg (fun k => k = w.heap.size + 1) w1 wx) (fun i _ => l.length - (intOf i).toNat)
  case atStart => exact ⟨0, Nat.zero_le _, rfl, by rw [List.take_zero, pad_nil]; exact HG1.out, Chg.refl _ _⟩
  case round =>
    obtain ⟨j, hj, rfl, hg, hch⟩ := hrel
    by_cases hlt : j < l.length
    · obtain ⟨g, o, rfl, hc⟩ := Src.at S1.out j hlt
      have hgb := hsb g rfl
      have hc1 := hch.cell_some hc (by show ¬ g = w.heap.size + 1; omega)
      obtain ⟨x, hx⟩ : ∃ x, x = l[j] := ⟨_, rfl⟩
      have hset := pad_set (n := 33) hlt HL
      rw [← hx] at hc1 hset
      have hcell : ∃ v, wr.cell? ⟨w.heap.size + 1, j, none⟩ = some v := by
        rw [cell_of_row wr _ j _ 33 _ hg]
        obtain ⟨v, hv | hv⟩ := pad_get (n := 33) (l := l.take j) (j := j) (by omega)
        · exact ⟨v, hv⟩
        · simp at hv; omega
      obtain ⟨v, hv⟩ := hcell
      have hfr := frozen_of_row wr (w.heap.size + 1) j _ 33 hg
      have R2 : Hid _ := heap_setCell_same wr (w.heap.size + 1) j _ 33 (.int .u8 x) hg
      have R3 : Hid _ := hch.setCell (p := ⟨w.heap.size + 1, j, none⟩) (.inl rfl) (.int .u8 x)
      rw [hset] at R2
      clear hc hx hset hg hch
      by_cases h32 : j = 32
      · subst h32
        go_wp2_with fail
        go_roundw
        case rel => exact ⟨33, by omega, by go_num, R2.out, R3.out⟩
        case measure => simp [intOf]; omega
      · go_wp2_with fail
        go_roundw
        case rel => exact ⟨j + 1, by omega, by go_num, R2.out, R3.out⟩
        case measure => simp [intOf]; omega
    · have ht : l.take j = l := List.take_of_length_le (by omega)
      rw [ht] at hg
      have hr2 := hch.heap_some HR1.out (by omega)
      have R3 : Hid _ := hch
      clear hch ht
      go_wp2_with (first | (refine wpList_load_mid rfl 33 (.tmp 3) rfl (w.heap.size + 1) 0 rfl (bs (pad 33 l)) _ (fun j v hv => by rw [Nat.zero_add, cell_of_row wr _ j _ 33 _ hg]; simpa using hv) Try.underlying33 rfl (Try.info33 _ (pad_len HL)) ?_) | (refine wpList_store_row rfl 33 (.tmp 2) (.tmp 23) rfl w.heap.size (bs (pad 33 l)).toArray rfl rfl 33 (zer 33).toArray hr2 (by rw [List.size_toArray]; exact Try.info33 _ (pad_len HL)) (by simp [zer, bs, pad_len HL]) (all_oneCell_toArray (bs_one _)) ?_))
      refine bodyPost_ret (v := .agg (bs (pad 33 l)).toArray) (results_row1 rfl _ _ w.heap.size 33 _ _ _ rfl (setRow_heap _ _ _ _ _ _ hr2) Try.underlying33 rfl (Try.info33 _ (pad_len HL))) rfl ⟨rfl, ?_⟩
      exact RP.below HB0.out hlt0 htv R1.out (S := fun k => k = w.heap.size + 1 ∨ k = w.heap.size) ((R3.out.mono (fun _ _ e => .inl e)).trans (setRow_chg _ _ _) (fun _ e => .inl (.inr e))) (by rintro k (e | e) <;> omega)
end Go.Proofs.Ytjmeaebehndheaa
