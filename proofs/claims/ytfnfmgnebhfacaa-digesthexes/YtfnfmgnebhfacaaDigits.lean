/-
  Hexadecimal digits, plain: what a digit is, what it stands for, the 64 digits of 32 bytes. No program is named here.
-/
import Derived.Laws.BytesString
namespace Go.Proofs.Ytfnfmgnebhfacaa

/-- The digit of a number below 16, as a byte's number. -/
def hx (n : Int) : Int := if n < 10 then 48 + n else 87 + n
/-- What a digit stands for (0, if it is none), and whether it is one. -/
def dv (c : Int) : Int := if 48 ≤ c ∧ c ≤ 57 then c - 48 else if 97 ≤ c ∧ c ≤ 102 then c - 87 else 0
def dq (c : Int) : Bool := decide (48 ≤ c ∧ c ≤ 57 ∨ 97 ≤ c ∧ c ≤ 102)

/-- Digit j of the 64. -/
def hd (z : Nat → Int) (j : Nat) : Int := if j % 2 = 0 then hx (z (j / 2) / 16) else hx (z (j / 2) % 16)
def hexNs (z : Nat → Int) : List Int := (List.range 64).map (hd z)
/-- Bytes' numbers as a string. -/
def strOf (ns : List Int) : ByteArray := ns.foldl (fun r n => r.push (UInt8.ofNat n.toNat)) ByteArray.empty
/-- The first 2 k digits, zeros behind them. -/
def txt (z : Nat → Int) (k : Nat) : Array Value := ((List.range 64).map fun j => Value.int .u8 (if j < 2 * k then hd z j else 0)).toArray

theorem hexNs_len (z : Nat → Int) : (hexNs z).length = 64 := by simp [hexNs]
theorem hexNs_get (z : Nat → Int) (j : Nat) (h : j < 64) : (hexNs z)[j]? = some (hd z j) := by simp [hexNs, h]
theorem txt_get (z : Nat → Int) (k j : Nat) (h : j < 64) : (txt z k)[j]? = some (Value.int .u8 (if j < 2 * k then hd z j else 0)) := by simp [txt, h]
theorem txt_size (z : Nat → Int) (k : Nat) : (txt z k).size = 64 := by simp [txt]
theorem hd_even (z : Nat → Int) (k : Nat) : hd z (2 * k) = hx (z k / 16) := by
  unfold hd; rw [if_pos (by omega), show 2 * k / 2 = k from by omega]
theorem hd_odd (z : Nat → Int) (k : Nat) : hd z (2 * k + 1) = hx (z k % 16) := by
  unfold hd; rw [if_neg (by omega), show (2 * k + 1) / 2 = k from by omega]

theorem txt_step (z : Nat → Int) (k : Nat) (_h : k < 32) :
    ((txt z k).setIfInBounds (2 * k) (Value.int .u8 (hx (z k / 16)))).setIfInBounds (2 * k + 1) (Value.int .u8 (hx (z k % 16))) = txt z (k + 1) := by
  apply Array.ext
  · simp [txt_size]
  · intro i h1 h2
    have hi : i < 64 := by simpa [txt_size] using h2
    rw [← Option.some.injEq, ← Array.getElem?_eq_getElem h1, ← Array.getElem?_eq_getElem h2, txt_get z _ i hi]
    rw [Array.getElem?_setIfInBounds, Array.getElem?_setIfInBounds, txt_get z _ i hi]
    simp only [Array.size_setIfInBounds, txt_size]
    by_cases e1 : 2 * k + 1 = i
    · subst e1; rw [if_pos rfl, if_pos hi, if_pos (by omega), hd_odd]
    · rw [if_neg e1]
      by_cases e2 : 2 * k = i
      · subst e2; rw [if_pos rfl, if_pos hi, if_pos (by omega), hd_even]
      · rw [if_neg e2]
        by_cases e3 : i < 2 * k
        · rw [if_pos e3, if_pos (by omega)]
        · rw [if_neg e3, if_neg (by omega)]

theorem strOf_list (ns : List Int) : (strOf ns).data.toList = ns.map fun n => UInt8.ofNat n.toNat := by
  have key : ∀ (ns : List Int) (r : ByteArray), (ns.foldl (fun r n => r.push (UInt8.ofNat n.toNat)) r).data.toList = r.data.toList ++ ns.map fun n => UInt8.ofNat n.toNat := by
    intro ns
    induction ns with
    | nil => intro r; simp
    | cons a l ih => intro r; rw [List.foldl_cons, ih]; simp [ByteArray.push]
  rw [strOf, key]
  rfl

theorem hx_bd (n : Int) (h0 : 0 ≤ n) (h1 : n < 16) : 48 ≤ hx n ∧ hx n ≤ 102 := by unfold hx; split <;> omega
theorem dv_hx (n : Int) (h0 : 0 ≤ n) (h1 : n < 16) : dv (hx n) = n := by
  unfold hx dv; split <;> split <;> (try split) <;> omega
theorem dq_hx (n : Int) (h0 : 0 ≤ n) (h1 : n < 16) : dq (hx n) = true := by
  unfold hx dq; split <;> simp <;> omega
theorem hx_dv (c : Int) (h : dq c = true) : hx (dv c) = c := by
  unfold dq at h; unfold hx dv; simp at h; split <;> split <;> (try split) <;> omega
theorem dv_bd (c : Int) : 0 ≤ dv c ∧ dv c < 16 := by unfold dv; split <;> (try split) <;> omega


/-- Byte j of a string, as a number (0 behind its end). -/
def byt (s : ByteArray) (j : Nat) : Int := ((s.data.toList[j]?).getD 0).toNat
theorem byt_bd (s : ByteArray) (j : Nat) : 0 ≤ byt s j ∧ byt s j ≤ 255 := by
  unfold byt
  have := UInt8.toNat_lt ((s.data.toList[j]?).getD 0)
  omega
theorem byt_at (s : ByteArray) (j : Nat) (h : j < s.size) : ((s[j]'h).toNat : Int) = byt s j := by
  have h' : j < s.data.toList.length := by simpa using h
  unfold byt
  rw [List.getElem?_eq_getElem h']
  rfl
/-- The 32 bytes as cells. -/
def arrOf (z : Nat → Int) : List Value := (List.range 32).map fun i => Value.int .u8 (z i)
theorem arrOf_len (z : Nat → Int) : (arrOf z).length = 32 := by simp [arrOf]
theorem arrOf_get (z : Nat → Int) (i : Nat) (h : i < 32) : (arrOf z)[i]? = some (.int .u8 (z i)) := by simp [arrOf, h]
theorem arrOf_one (z : Nat → Int) : (arrOf z).toArray.all (·.oneCell') = true := by
  rw [Array.all_eq_true_iff_forall_mem]
  intro v hv
  simp only [arrOf, List.mem_toArray, List.mem_map] at hv
  obtain ⟨i, _, rfl⟩ := hv
  rfl
theorem arrOf_congr (y z : Nat → Int) (h : ∀ i, i < 32 → y i = z i) : arrOf y = arrOf z := by
  unfold arrOf
  refine List.map_congr_left fun i hi => ?_
  rw [h i (by simpa using hi)]
/-- Byte i behind the first k digits. -/
def acc (s : ByteArray) (k i : Nat) : Int := if 2 * i + 1 < k then 16 * dv (byt s (2 * i)) + dv (byt s (2 * i + 1)) else if 2 * i < k then dv (byt s (2 * i)) else 0
theorem acc_bd (s : ByteArray) (k i : Nat) : 0 ≤ acc s k i ∧ acc s k i ≤ 255 := by
  have h1 := dv_bd (byt s (2 * i))
  have h2 := dv_bd (byt s (2 * i + 1))
  unfold acc; split <;> (try split) <;> omega
theorem acc_at (s : ByteArray) (k : Nat) : 0 ≤ acc s k (k / 2) ∧ acc s k (k / 2) < 16 ∧ acc s (k + 1) (k / 2) = 16 * acc s k (k / 2) + dv (byt s k) := by
  have h1 := dv_bd (byt s (2 * (k / 2)))
  by_cases h : k % 2 = 0
  · have e : 2 * (k / 2) = k := by omega
    unfold acc
    rw [if_neg (by omega), if_neg (by omega), if_neg (by omega), if_pos (by omega), e]
    omega
  · have e : 2 * (k / 2) + 1 = k := by omega
    unfold acc
    rw [if_neg (by omega), if_pos (by omega), if_pos (by omega), e]
    omega
theorem acc_other (s : ByteArray) (k i : Nat) (h : i ≠ k / 2) : acc s (k + 1) i = acc s k i := by
  unfold acc
  by_cases h1 : 2 * i + 1 < k
  · rw [if_pos h1, if_pos (by omega)]
  · rw [if_neg h1, if_neg (by omega)]
    by_cases h2 : 2 * i < k
    · omega
    · rw [if_neg h2, if_neg (by omega)]
theorem acc_step (s : ByteArray) (k : Nat) (v : Int) (hv : v = 16 * acc s k (k / 2) + dv (byt s k)) :
    (arrOf (acc s k)).toArray.setIfInBounds (k / 2) (Value.int .u8 v) = (arrOf (acc s (k + 1))).toArray := by
  apply Array.ext
  · simp [arrOf_len]
  · intro i h1 h2
    have hi : i < 32 := by simpa [arrOf_len] using h2
    rw [← Option.some.injEq, ← Array.getElem?_eq_getElem h1, ← Array.getElem?_eq_getElem h2, Array.getElem?_setIfInBounds]
    simp only [List.getElem?_toArray, List.size_toArray, arrOf_len, arrOf_get _ i hi]
    by_cases e : k / 2 = i
    · rw [if_pos e, if_pos (by omega), hv, ← (acc_at s k).2.2, e]
    · rw [if_neg e, acc_other s k i (fun h => e h.symm)]

theorem acc_set (s : ByteArray) (k : Nat) (v : Int) (hv : v = 16 * acc s k (k / 2) + dv (byt s k)) :
    (arrOf (acc s k)).set (k / 2) (Value.int .u8 v) = arrOf (acc s (k + 1)) := by
  have h := acc_step s k v hv
  rw [List.setIfInBounds_toArray] at h
  simpa using h

/-- What Parse takes: 64 digits. -/
def okS (s : ByteArray) : Prop := s.size = 64 ∧ ∀ j, j < 64 → dq (byt s j) = true
def parsed (s : ByteArray) (cs : List Value) (e : Int) : Prop := okS s ∧ cs = arrOf (acc s 64) ∧ e = 0 ∨ ¬ okS s ∧ cs = arrOf (fun _ => 0) ∧ e = 10
theorem parsed_unique {s : ByteArray} {cs cs' : List Value} {e e' : Int} (h : parsed s cs e) (h' : parsed s cs' e') : cs = cs' ∧ e = e' := by
  rcases h with ⟨a, b, c⟩ | ⟨a, b, c⟩ <;> rcases h' with ⟨a', b', c'⟩ | ⟨a', b', c'⟩
  · exact ⟨b.trans b'.symm, c.trans c'.symm⟩
  · exact absurd a a'
  · exact absurd a' a
  · exact ⟨b.trans b'.symm, c.trans c'.symm⟩

end Go.Proofs.Ytfnfmgnebhfacaa
