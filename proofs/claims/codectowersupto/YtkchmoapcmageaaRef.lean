/-
  The walks of the reference's High, Num and Text.
-/
import Derived.Test.YtkchmoapcmageaaUntouched
namespace Go.Proofs.Ytkchmoapcmageaa
open Go.RowKit

/-- The lowest n bytes, the highest first. -/
def high : Nat → Nat → List Int
  | 0, _ => []
  | n + 1, x => high n (x / 256) ++ [((x % 256 : Nat) : Int)]
theorem high_len (n : Nat) : ∀ x, (high n x).length = n := by
  induction n with
  | zero => intro x; rfl
  | succ n ih => intro x; simp [high, ih]

/-- k zeros, then t. -/
def cel (k : Nat) (t : List Int) : Array Value := (zer k ++ bs t).toArray
theorem cel_set (k : Nat) (t : List Int) (x : Int) : (cel (k + 1) t).setIfInBounds k (.int .u8 x) = cel k (x :: t) := by
  have e : zer (k + 1) = zer k ++ [.int .u8 0] := by simp [zer, List.replicate_succ']
  unfold cel
  rw [e]
  simp [bs, zer]
theorem cel_get (k : Nat) (t : List Int) : (cel (k + 1) t)[k]? = some (.int .u8 0) := by
  simp [cel, zer, List.getElem?_append]
theorem cel_nil (k : Nat) : (zer k).toArray = cel k [] := by simp [cel, bs]

theorem made_blk {w w' : World} {g : Nat} {m : List Int} (hm : m.length ≤ 140737488355328) (h : w'.heap[g]? = some (.cells (bs m).toArray 5 (0, 0))) (hb : Below w.heap.size w w') (hg : w.heap.size ≤ g) : Made w w' (.slice (some ⟨g, 0, none⟩) m.length m.length) m :=
  ⟨own_full hm h, hb, fun k hk => by simp [Value.ownBlock] at hk; omega⟩
theorem made_new (w : World) (m : List Int) (hm : m.length ≤ 140737488355328) : Made w (w.alloc (.cells (bs m).toArray 5)) (.slice (some ⟨w.heap.size, 0, none⟩) m.length m.length) m :=
  made_blk hm (heap_alloc_new _ _) ((Below.refl _ _).alloc (Nat.le_refl _) _) (Nat.le_refl _)

set_option maxRecDepth 100000 in
set_option maxHeartbeats 1000000 in
theorem high_any (w : World) (n : Nat) (hn : n ≤ 8) (x : Nat) (hx : x < 18446744073709551616) :
    Calls Try.prog 49 #[.int .u64 x, .int .i64 n] w fun e w' => ∃ v, e = .returned v ∧ Made w w' v (high n x) := by
  have hmk := run_mk n (by omega)
  go_enter Try.func49, Try.ntmps49
  go_wp2_with fail
  go_loopw [0, 6] (fun y i wr => ∃ (k c : Nat) (t : List Int), y = .int .u64 c ∧ i = .int .i64 ((k : Int) - 1) ∧ k ≤ n ∧ c < 18446744073709551616 ∧ wr = w.alloc (.cells (cel k t) 5) ∧ high k c ++ t = high n x) (fun _ i _ => (intOf i + 1).toNat)
  case atStart => exact ⟨n, x, [], rfl, rfl, Nat.le_refl _, hx, by rw [cel_nil], by simp⟩
  case round =>
    obtain ⟨k, c, t, rfl, rfl, hk, hc, rfl, he⟩ := hrel
    have HE : Hid _ := he
    clear he
    match k, hk, HE with
    | 0, hk, HE =>
      go_wp2_with fail
      go_ret
      have e : t = high n x := by simpa [high] using HE.out
      have hl : t.length = n := by rw [e, high_len]
      have hm := made_new w t (by omega)
      have e2 : (bs t).toArray = cel 0 t := by simp [cel, zer]
      rw [e2, hl] at hm
      rw [← e]
      exact ⟨_, rfl, hm⟩
    | k + 1, hk, HE =>
      have hg := cel_get k t
      have hs := cel_set k t ((c : Int) % 256)
      go_wp2_with fail
      go_roundw
      case rel =>
        refine ⟨k, c / 256, ((c % 256 : Nat) : Int) :: t, by go_num, rfl, by omega, by omega, ?_, ?_⟩
        · simp
        · have := HE.out
          simp only [high, List.append_assoc, List.singleton_append] at this
          exact this
      case measure => simp [intOf]

set_option maxRecDepth 100000 in
set_option maxHeartbeats 1000000 in
theorem num_any (n : Nat) : ∀ (_ : n < 18446744073709551616) (w : World),
    Calls Try.prog 50 #[.int .u64 n] w fun e w' => ∃ v, e = .returned v ∧ Made w w' v (numB n) := by
  induction n using Nat.strongRecOn with
  | ind n ih =>
    intro hx w
    by_cases hlt : n < 128
    · go_enter Try.func50, Try.ntmps50
      go_wp2_with fail
      go_ret
      rw [numB_lo hlt]
      exact ⟨_, rfl, made_new w [(n : Int)] (by simp)⟩
    · have h10 := numB_ten hx
      have hl2 : (numB n).length = (numB (n / 128)).length + 1 := by rw [numB_hi (by omega)]; rfl
      have IH : Hid _ := ih (n / 128) (by omega) (by omega)
      clear ih
      go_enter Try.func50, Try.ntmps50
      go_wp2_with fail
      refine (IH.out _).mono ?_
      rintro e w1 ⟨v1, rfl, o1, b1, a1⟩
      have O1 : Hid _ := o1
      have B1 : Hid _ := b1
      have A1 : Hid _ := a1
      have O0 : Hid (Own w1 (.slice (some ⟨w.heap.size, 0, none⟩) 1 1) [(n : Int) % 128 + 128]) := Own.kept (own_full (m := [(n : Int) % 128 + 128]) (by simp) (heap_alloc_new _ _)) (Chg.of_below b1 (fun _ => False)) (fun _ _ h => h)
      clear o1 b1 a1
      go_wp2_with (refine wpList_app rfl (.tmp 12) (.tmp 15) rfl (v := .slice (some ⟨w.heap.size, 0, none⟩) 1 1) rfl rfl O0.out (Own.src O1.out) (by simp; omega) ?_; intro v' w2 hv hch hat)
      go_ret
      rw [numB_hi (by omega)]
      refine ⟨_, rfl, ?_, ?_, fun k hk => ?_⟩
      · have e : ((n % 128 + 128 : Nat) : Int) = (n : Int) % 128 + 128 := by omega
        rw [e]; exact hv
      · exact ((((Chg.refl (fun _ => False) _).alloc _).trans (Chg.of_below B1.out (fun _ => False)) (fun _ h => h.elim)).trans hch (fun i e => .inr (by simp [Value.ownBlock] at e; omega))).below (Nat.le_refl _) (fun _ h => h.elim)
      · have hk : v'.ownBlock = some k := hk
        have := B1.out.size
        rcases hat with e | e <;> rw [hk] at e <;> simp [Value.ownBlock] at e this <;> omega

set_option maxRecDepth 100000 in
set_option maxHeartbeats 1000000 in
theorem text_any {w : World} {s : Value} {m : List Int} (hs : Src w s m) (hl : m.length + 10 ≤ 140737488355328) :
    Calls Try.prog 51 #[s] w fun e w' => ∃ v, e = .returned v ∧ Made w w' v (numB m.length ++ m) := by
  have HA : Hid _ := hs
  obtain ⟨a0, c0, hs2⟩ := hs.form
  subst hs2
  have h10 := numB_ten (n := m.length) (by omega)
  clear hs
  go_enter Try.func51, Try.ntmps51
  go_wp2_with fail
  refine (num_any m.length (by omega) _).mono ?_
  rintro e w1 ⟨v1, rfl, o1, b1, a1⟩
  have O1 : Hid _ := o1
  have B1 : Hid _ := b1
  have A1 : Hid _ := a1
  have S1 : Hid _ := Src.kept0 HA.out b1
  clear o1 b1 a1
  go_wp2_with (refine wpList_app rfl (.tmp 6) (.tmp 7) rfl (v := v1) rfl rfl O1.out S1.out (by omega) ?_; intro v' w2 hv hch hat)
  go_ret
  refine ⟨_, rfl, hv, ?_, fun k hk => ?_⟩
  · exact ((Chg.of_below B1.out (fun _ => False)).trans hch (fun i e => .inr (A1.out i e.symm))).below (Nat.le_refl _) (fun _ h => h.elim)
  · have hk : v'.ownBlock = some k := hk
    have := B1.out.size
    rcases hat with e | e
    · exact A1.out k (by rw [← e, hk])
    · rw [hk] at e; simp at e; omega

theorem Made.app {w w1 w2 : World} {v v' : Value} {l m : List Int} (h : Made w w1 v l) (hv : Own w2 v' m) (hch : Chg (fun k => some k = v.ownBlock) w1 w2) (hat : v'.ownBlock = v.ownBlock ∨ v'.ownBlock = some w1.heap.size) : Made w w2 v' m := by
  refine ⟨hv, ((Chg.of_below h.2.1 (fun _ => False)).trans hch (fun i e => .inr (h.2.2 i e.symm))).below (Nat.le_refl _) (fun _ h => h.elim), fun k hk => ?_⟩
  have := h.2.1.size
  rcases hat with e | e
  · exact h.2.2 k (by rw [← e, hk])
  · rw [hk] at e; simp at e; omega

theorem high1 (x : Nat) : high 1 x = [((x : Int) % 256)] := by simp [high]
theorem high4 (x : Nat) : high 4 x = word ((x : Int) % 4294967296) := by
  simp [high, word]
  omega
theorem high8 (x : Nat) (h : x < 18446744073709551616) : high 8 x = long x := by
  simp [high, word, long]
  omega
end Go.Proofs.Ytkchmoapcmageaa
