/-
  Lines taken apart, as a machine over bytes: plain mathematics.
-/
import Derived.Laws.RangeAny
import Derived.Laws.Strings2
namespace Go.Proofs.Ytnmlhlgeacdcgaa

/-- A string's bytes. -/
def bs (s : ByteArray) : List UInt8 := s.data.toList
theorem bs_length (s : ByteArray) : (bs s).length = s.size := by
  show s.data.toList.length = s.data.size
  simp
theorem bs_mk (l : List UInt8) : bs ⟨l.toArray⟩ = l := by simp [bs]
theorem mk_bs (s : ByteArray) : (⟨(bs s).toArray⟩ : ByteArray) = s := by simp [bs]
theorem bs_at (s : ByteArray) {i : Nat} (h : i < s.size) : (bs s)[i]? = some s[i] := by
  have h' : i < s.data.size := h
  simp only [bs, Array.getElem?_toList, Array.getElem?_eq_getElem h']
  rfl
theorem bs_get (s : ByteArray) {i : Nat} (h : i < s.size) : s.get! i = s[i] := get_at s i h
theorem bs_drop (s : ByteArray) {i : Nat} (h : i < s.size) : (bs s).drop i = s[i] :: (bs s).drop (i + 1) := by
  have hl : i < (bs s).length := by rw [bs_length]; exact h
  rw [List.drop_eq_getElem_cons hl]
  congr 1
theorem bs_inj {a b : ByteArray} (h : bs a = bs b) : a = b := by rw [← mk_bs a, ← mk_bs b, h]

/-- Where one stands in a line: between words, in a word, in quotes, behind a stroke, at a byte's digits, behind a quoted word; with what was taken of the word. -/
abbrev St := Bool ⊕ List UInt8 ⊕ List UInt8 ⊕ List UInt8 ⊕ List UInt8 ⊕ (List UInt8 × Nat)
abbrev St.bt : St := .inl false
abbrev St.en : St := .inl true
abbrev St.wd (a : List UInt8) : St := .inr (.inl a)
abbrev St.qu (a : List UInt8) : St := .inr (.inr (.inl a))
abbrev St.st (a : List UInt8) : St := .inr (.inr (.inr (.inl a)))
abbrev St.hi (a : List UInt8) : St := .inr (.inr (.inr (.inr (.inl a))))
abbrev St.lo (a : List UInt8) (h : Nat) : St := .inr (.inr (.inr (.inr (.inr (a, h)))))
theorem St.cases {p : St → Prop} (bt : p .bt) (wd : ∀ a, p (.wd a)) (qu : ∀ a, p (.qu a)) (st : ∀ a, p (.st a)) (hi : ∀ a, p (.hi a)) (lo : ∀ a h, p (.lo a h)) (en : p .en) (σ : St) : p σ := by
  rcases σ with (_ | _) | a | a | a | a | ⟨a, h⟩
  · exact bt
  · exact en
  · exact wd a
  · exact qu a
  · exact st a
  · exact hi a
  · exact lo a h

def blankN (c : Nat) : Bool := c == 32 || c == 9 || c == 13
def digN (c : Nat) : Option Nat :=
  if 48 ≤ c ∧ c ≤ 57 then some (c - 48) else if 97 ≤ c ∧ c ≤ 102 then some (c - 87) else if 65 ≤ c ∧ c ≤ 70 then some (c - 55) else none
theorem digN_lt {c d : Nat} (h : digN c = some d) : d < 16 := by
  unfold digN at h
  repeat' split at h
  all_goals simp at h
  all_goals omega
def mayEnd : St → Bool
  | .inl false => true
  | .inl true => true
  | _ => false

/-- One rune c, whose bytes are p. -/
def stp : St → List (List UInt8) → Nat → List UInt8 → Option (St × List (List UInt8))
  | .inl false, ws, c, p => if blankN c then some (.bt, ws) else if c = 34 then some (.qu [], ws) else some (.wd p, ws)
  | .inr (.inl a), ws, c, p => if blankN c then some (.bt, ws ++ [a]) else if c = 34 then none else some (.wd (a ++ p), ws)
  | .inr (.inr (.inl a)), ws, c, p => if c = 34 then some (.en, ws ++ [a]) else if c = 92 then some (.st a, ws) else some (.qu (a ++ p), ws)
  | .inr (.inr (.inr (.inl a))), ws, c, _ =>
    if c = 92 ∨ c = 34 then some (.qu (a ++ [UInt8.ofNat c]), ws) else if c = 110 then some (.qu (a ++ [10]), ws)
    else if c = 116 then some (.qu (a ++ [9]), ws) else if c = 120 then some (.hi a, ws) else none
  | .inr (.inr (.inr (.inr (.inl a)))), ws, c, _ => (digN c).map fun d => (.lo a d, ws)
  | .inr (.inr (.inr (.inr (.inr (a, h))))), ws, c, _ => (digN c).map fun d => (.qu (a ++ [UInt8.ofNat (16 * h + d)]), ws)
  | .inl true, ws, c, _ => if blankN c then some (.bt, ws) else none

/-- At the line's end. -/
def fin : St → List (List UInt8) → Option (List (List UInt8))
  | .inl false, ws => some ws
  | .inl true, ws => some ws
  | .inr (.inl a), ws => some (ws ++ [a])
  | _, _ => none

def run : St → List (List UInt8) → List UInt8 → Option (List (List UInt8))
  | σ, ws, [] => fin σ ws
  | σ, ws, b :: l =>
    if b.toNat = 35 ∧ mayEnd σ = true then some ws else
    match stp σ ws b.toNat [b] with
    | none => none
    | some x => run x.1 x.2 l

/-- What a step makes of the rest. -/
def goOn (o : Option (St × List (List UInt8))) (l : List UInt8) : Option (List (List UInt8)) :=
  match o with
  | none => none
  | some x => run x.1 x.2 l

theorem run_nil (σ : St) (ws : List (List UInt8)) : run σ ws [] = fin σ ws := by unfold run; rfl
theorem run_cons (σ : St) (ws : List (List UInt8)) (b : UInt8) (l : List UInt8) : run σ ws (b :: l) = if b.toNat = 35 ∧ mayEnd σ = true then some ws else goOn (stp σ ws b.toNat [b]) l := by
  conv => lhs; unfold run
  rfl

theorem run_high_wd (ws : List (List UInt8)) : ∀ (p : List UInt8) (a l : List UInt8), (∀ b ∈ p, 128 ≤ b.toNat) → run (.wd a) ws (p ++ l) = run (.wd (a ++ p)) ws l
  | [], a, l, _ => by simp
  | b :: p, a, l, h => by
    have hb := h b (by simp)
    have h1 : blankN b.toNat = false := by simp [blankN]; omega
    have h2 : ¬ b.toNat = 34 := by omega
    rw [List.cons_append, run_cons]
    simp only [stp, h1, h2, mayEnd, goOn, if_false, Bool.false_eq_true, and_false]
    rw [run_high_wd ws p _ l (fun x hx => h x (by simp [hx]))]
    simp
theorem run_high_qu (ws : List (List UInt8)) : ∀ (p : List UInt8) (a l : List UInt8), (∀ b ∈ p, 128 ≤ b.toNat) → run (.qu a) ws (p ++ l) = run (.qu (a ++ p)) ws l
  | [], a, l, _ => by simp
  | b :: p, a, l, h => by
    have hb := h b (by simp)
    have h2 : ¬ b.toNat = 34 := by omega
    have h3 : ¬ b.toNat = 92 := by omega
    rw [List.cons_append, run_cons]
    simp only [stp, h2, h3, mayEnd, goOn, if_false, Bool.false_eq_true, and_false]
    rw [run_high_qu ws p _ l (fun x hx => h x (by simp [hx]))]
    simp

/-- A rune of several bytes. -/
theorem run_high (σ : St) (ws : List (List UInt8)) (c : Nat) (hc : 128 ≤ c) (b : UInt8) (p l : List UInt8) (h : ∀ x ∈ b :: p, 128 ≤ x.toNat) :
    run σ ws (b :: p ++ l) = goOn (stp σ ws c (b :: p)) l := by
  have hb := h b (by simp)
  have hp : ∀ x ∈ p, 128 ≤ x.toNat := fun x hx => h x (by simp [hx])
  have k1 : blankN c = false := by simp [blankN]; omega
  have k2 : ¬ c = 34 := by omega
  have k3 : ¬ c = 92 := by omega
  have k4 : ¬ c = 110 := by omega
  have k5 : ¬ c = 116 := by omega
  have k6 : ¬ c = 120 := by omega
  have k7 : digN c = none := by unfold digN; rw [if_neg (by omega), if_neg (by omega), if_neg (by omega)]
  have j1 : blankN b.toNat = false := by simp [blankN]; omega
  have j2 : ¬ b.toNat = 34 := by omega
  have j3 : ¬ b.toNat = 92 := by omega
  have j4 : ¬ b.toNat = 110 := by omega
  have j5 : ¬ b.toNat = 116 := by omega
  have j6 : ¬ b.toNat = 120 := by omega
  have j7 : digN b.toNat = none := by unfold digN; rw [if_neg (by omega), if_neg (by omega), if_neg (by omega)]
  have j8 : ¬ b.toNat = 35 := by omega
  rw [List.cons_append, run_cons, if_neg (fun e => j8 e.1)]
  cases σ using St.cases with
  | bt =>
    simp only [stp, k1, k2, j1, j2, goOn, if_false, Bool.false_eq_true]
    rw [run_high_wd ws p _ l hp]
    rfl
  | wd a =>
    simp only [stp, k1, k2, j1, j2, goOn, if_false, Bool.false_eq_true]
    rw [run_high_wd ws p _ l hp]
    simp
  | qu a =>
    simp only [stp, k3, k2, j3, j2, goOn, if_false]
    rw [run_high_qu ws p _ l hp]
    simp
  | st a => simp only [stp, k2, k3, k4, k5, k6, j2, j3, j4, j5, j6, goOn, if_false, or_self]
  | hi a => simp only [stp, k7, j7, goOn, Option.map_none]
  | lo a h => simp only [stp, k7, j7, goOn, Option.map_none]
  | en => simp only [stp, k1, j1, goOn, if_false, Bool.false_eq_true]

/-- The bytes of the rune at a place. -/
theorem rune_bytes (s : ByteArray) (pos : Nat) (h : pos < s.size) (ha : 128 ≤ (s[pos]'h).toNat) :
    pos + (Utf8.decode s pos).2 ≤ s.size ∧ ∀ k, k < (Utf8.decode s pos).2 → 128 ≤ (s.get! (pos + k)).toNat := by
  have hn : ¬ (s[pos]'h).toNat < 128 := by omega
  have e0 := get_at s pos h
  have a0 : 128 ≤ (s.get! (pos + 0)).toNat := by rw [e0]; exact ha
  have key : ∀ n, (n = 1 ∨ (n = 2 ∧ (decide (pos + 1 < s.size) && (s.get! (pos + 1)).toNat / 64 == 2) = true) ∨
      (n = 3 ∧ (decide (pos + 1 < s.size) && (s.get! (pos + 1)).toNat / 64 == 2) = true ∧ (decide (pos + 2 < s.size) && (s.get! (pos + 2)).toNat / 64 == 2) = true) ∨
      (n = 4 ∧ (decide (pos + 1 < s.size) && (s.get! (pos + 1)).toNat / 64 == 2) = true ∧ (decide (pos + 2 < s.size) && (s.get! (pos + 2)).toNat / 64 == 2) = true ∧ (decide (pos + 3 < s.size) && (s.get! (pos + 3)).toNat / 64 == 2) = true)) →
      pos + n ≤ s.size ∧ ∀ k, k < n → 128 ≤ (s.get! (pos + k)).toNat := by
    intro n hn
    simp only [Bool.and_eq_true, decide_eq_true_eq, beq_iff_eq] at hn
    rcases hn with rfl | ⟨rfl, h1⟩ | ⟨rfl, h1, h2⟩ | ⟨rfl, h1, h2, h3⟩
    · refine ⟨by omega, fun k hk => ?_⟩
      obtain rfl : k = 0 := by omega
      exact a0
    · refine ⟨by omega, fun k hk => ?_⟩
      rcases (by omega : k = 0 ∨ k = 1) with rfl | rfl
      · exact a0
      · omega
    · refine ⟨by omega, fun k hk => ?_⟩
      rcases (by omega : k = 0 ∨ k = 1 ∨ k = 2) with rfl | rfl | rfl
      · exact a0
      · omega
      · omega
    · refine ⟨by omega, fun k hk => ?_⟩
      rcases (by omega : k = 0 ∨ k = 1 ∨ k = 2 ∨ k = 3) with rfl | rfl | rfl | rfl
      · exact a0
      · omega
      · omega
      · omega
  apply key
  simp only [Utf8.decode, e0, hn, if_false]
  repeat' split
  all_goals simp_all

theorem rune_width (s : ByteArray) (pos : Nat) (h : pos < s.size) : 1 ≤ (Utf8.decode s pos).2 ∧ pos + (Utf8.decode s pos).2 ≤ s.size := by
  by_cases ha : (s[pos]'h).toNat < 128
  · rw [decode_ascii s pos h ha]
    exact ⟨Nat.le_refl _, h⟩
  · exact ⟨(decode_high s pos h (by omega)).2, (rune_bytes s pos h (by omega)).1⟩

/-- The bytes between two places. -/
def cut (s : ByteArray) (i j : Nat) : List UInt8 := ((bs s).drop i).take (j - i)
theorem cut_extract (s : ByteArray) (i j : Nat) : s.extract i j = ⟨(cut s i j).toArray⟩ := by
  conv => lhs; rw [← mk_bs s]
  rw [ByteArray.extract_mk]
  rfl
theorem cut_same (s : ByteArray) (i : Nat) : cut s i i = [] := by simp [cut]
theorem cut_cut (s : ByteArray) {i j k : Nat} (h1 : i ≤ j) (h2 : j ≤ k) : cut s i j ++ cut s j k = cut s i k := by
  unfold cut
  have e : (bs s).drop j = ((bs s).drop i).drop (j - i) := by rw [List.drop_drop]; congr 1; omega
  rw [e, show k - i = (j - i) + (k - j) by omega, List.take_add]
theorem cut_drop (s : ByteArray) {i j : Nat} (h : i ≤ j) : cut s i j ++ (bs s).drop j = (bs s).drop i := by
  unfold cut
  have e : (bs s).drop j = ((bs s).drop i).drop (j - i) := by rw [List.drop_drop]; congr 1; omega
  rw [e, List.take_append_drop]
theorem cut_length (s : ByteArray) {i j : Nat} (h : j ≤ s.size) : (cut s i j).length = j - i := by
  unfold cut
  rw [List.length_take, List.length_drop, bs_length]
  omega

/-- THE RUNES ARE AS GOOD AS THE BYTES. -/
theorem run_rune (σ : St) (ws : List (List UInt8)) (s : ByteArray) (pos : Nat) (h : pos < s.size) :
    run σ ws ((bs s).drop pos) = if (Utf8.decode s pos).1 = 35 ∧ mayEnd σ = true then some ws else
      goOn (stp σ ws (Utf8.decode s pos).1 (cut s pos (pos + (Utf8.decode s pos).2))) ((bs s).drop (pos + (Utf8.decode s pos).2)) := by
  by_cases ha : (s[pos]'h).toNat < 128
  · rw [decode_ascii s pos h ha]
    have e : cut s pos (pos + 1) = [s[pos]] := by
      unfold cut
      rw [bs_drop s h]
      simp
    rw [e, bs_drop s h, run_cons]
  · have ha' : 128 ≤ (s[pos]'h).toNat := by omega
    obtain ⟨hw, hb⟩ := rune_bytes s pos h ha'
    obtain ⟨hc, hk⟩ := decode_high s pos h ha'
    obtain ⟨c, hce⟩ : ∃ c, c = (Utf8.decode s pos).1 := ⟨_, rfl⟩
    obtain ⟨k, hke⟩ : ∃ k, k = (Utf8.decode s pos).2 := ⟨_, rfl⟩
    rw [← hce] at hc ⊢
    rw [← hke] at hw hb hk ⊢
    rw [if_neg (by omega)]
    have hall : ∀ x ∈ cut s pos (pos + k), 128 ≤ x.toNat := by
      intro x hx
      obtain ⟨i, hi, rfl⟩ := List.getElem_of_mem hx
      have hi' : i < k := by rw [cut_length s hw] at hi; omega
      have := hb i hi'
      have e : (cut s pos (pos + k))[i]? = some (s[pos + i]'(by omega)) := by
        unfold cut
        rw [List.getElem?_take, if_pos (by omega), List.getElem?_drop, bs_at s (by omega)]
      rw [List.getElem?_eq_getElem hi] at e
      rw [Option.some.inj e, ← bs_get s (by omega)]
      exact this
    rw [← cut_drop s (by omega : pos ≤ pos + k)]
    have hne : (cut s pos (pos + k)).length = k := by rw [cut_length s hw]; omega
    cases hq : cut s pos (pos + k) with
    | nil => rw [hq] at hne; simp at hne; omega
    | cons b p => exact run_high σ ws c hc b p _ (by rw [← hq]; exact hall)

/-- Ahead of a word that is not quoted. -/
theorem run_bt_wd (ws : List (List UInt8)) (b : UInt8) (l : List UInt8) (h1 : blankN b.toNat = false) (h2 : ¬ b.toNat = 34) (h3 : ¬ b.toNat = 35) : run .bt ws (b :: l) = run (.wd []) ws (b :: l) := by
  rw [run_cons, run_cons]
  simp [stp, h1, h2, h3, mayEnd]

end Go.Proofs.Ytnmlhlgeacdcgaa
