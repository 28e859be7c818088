import Derived.Test.YtjmeaebehndheaaWriter2
import Derived.Laws.CopyOwn
/-
  The walks of the plain helpers: Compare, SameBytes, CopyBytes, Roomy, Untouched.
-/
namespace Go.Proofs.Ytjmeaebehndheaa
open Go.RowKit

theorem Src.at {w : World} {a : Option Addr} {n c : Nat} {l : List Int} (h : Src w (.slice a n c) l) (k : Nat) (hk : k < l.length) : ∃ g o, a = some ⟨g, o, none⟩ ∧ w.cell? ⟨g, o + k, none⟩ = some (.int .u8 l[k]) := by
  rcases h with ⟨_, rfl⟩ | ⟨⟨g, o, sp⟩, c', e, hc⟩
  · simp at hk
  · injection e with e1 e2 e3
    obtain ⟨h1, h2⟩ := hc k _ (bs_get l k hk)
    simp only at h1
    subst h1
    exact ⟨g, o, e1, h2⟩

theorem take_eq_succ {a b : List Int} {k : Nat} (ha : k < a.length) (hb : k < b.length) (h : a.take k = b.take k) (he : a[k] = b[k]) : a.take (k + 1) = b.take (k + 1) := by
  rw [List.take_succ_eq_append_getElem ha, List.take_succ_eq_append_getElem hb, h, he]
theorem ne_of_at {a b : List Int} {k : Nat} (ha : k < a.length) (hb : k < b.length) (he : a[k] ≠ b[k]) : a ≠ b := by
  rintro rfl; exact he rfl

theorem dr3 (w : World) (a b c : Nat) : ∃ n, ((w.drewN a).drewN b).drewN c = w.drewN n := ⟨a + b + c, by simp⟩
theorem drewN_chg (w : World) (n : Nat) (S : Nat → Prop) : Chg S w (w.drewN n) := ⟨rfl, rfl, rfl, Nat.le_refl _, fun _ _ _ => rfl⟩
theorem Src.drewN {w : World} {v : Value} {l : List Int} (h : Src w v l) (n : Nat) : Src (w.drewN n) v l := h
theorem Own.drewN {w : World} {v : Value} {l : List Int} (h : Own w v l) (n : Nat) : Own (w.drewN n) v l := h

set_option maxRecDepth 100000 in
set_option maxHeartbeats 1000000 in
theorem compare_any {w : World} {s u : Value} {a b : List Int} (ha : Src w s a) (hb : Src w u b) (hla : a.length ≤ 9223372036854775807) (_hlb : b.length ≤ 9223372036854775807) :
    Calls Try.prog 53 #[s, u] w fun e w' => (∃ c : Int, e = .returned (.int .i64 c) ∧ (c = 0 ↔ a = b)) ∧ ∃ n, w' = w.drewN n := by
  have HA : Hid _ := ha
  have HB : Hid _ := hb
  obtain ⟨a0, c0, hs2⟩ := ha.form
  obtain ⟨b0, d0, hu2⟩ := hb.form
  subst hs2 hu2
  clear ha hb
  go_enter Try.func53, Try.ntmps53
  go_wp2_with fail
  go_loopw [5] (fun x wr => ∃ (k n : Nat), x = .int .i64 k ∧ wr = w.drewN n ∧ k ≤ a.length ∧ k ≤ b.length ∧ a.take k = b.take k) (fun x _ => a.length - (intOf x).toNat)
  case atStart => exact ⟨0, 0, rfl, rfl, Nat.zero_le _, Nat.zero_le _, rfl⟩
  case round =>
    obtain ⟨k, n, rfl, rfl, hk1, hk2, he⟩ := hrel
    have HE : Hid _ := he
    clear he
    by_cases hlt : k < a.length
    · by_cases hlt2 : k < b.length
      · obtain ⟨g, o, rfl, hc1⟩ := Src.at HA.out k hlt
        obtain ⟨g2, o2, rfl, hc2⟩ := Src.at HB.out k hlt2
        have hc1' : ∀ n, (w.drewN n).cell? ⟨g, o + k, none⟩ = some (.int .u8 a[k]) := fun n => hc1
        have hc2' : ∀ n, (w.drewN n).cell? ⟨g2, o2 + k, none⟩ = some (.int .u8 b[k]) := fun n => hc2
        clear hc1 hc2
        by_cases hab : a[k] = b[k]
        · go_wp2_with fail
          go_quiet (fail)
          go_wp2_with fail
          go_roundw
          case rel => exact ⟨k + 1, _, by go_num, rfl, by omega, by omega, take_eq_succ hlt hlt2 HE.out hab⟩
          case measure => simp [intOf]; omega
        · go_wp2_with fail
          go_quiet (fail)
          go_wp2_with fail
          go_quiet (fail)
          go_wp2_with fail
          all_goals
            go_ret
            exact ⟨⟨_, rfl, by simp; exact ne_of_at hlt hlt2 hab⟩, dr3 _ _ _ _⟩
      · have hne : a ≠ b := fun e => hlt2 (by rw [← e]; exact hlt)
        have HN : Hid _ := hne
        clear hne
        go_wp2_with fail
        all_goals
          go_ret
          exact ⟨⟨_, rfl, by simp; exact HN.out⟩, _, rfl⟩
    · by_cases hlt2 : k < b.length
      · have hne : a ≠ b := fun e => hlt (by rw [e]; exact hlt2)
        have HN : Hid _ := hne
        clear hne
        go_wp2_with fail
        all_goals
          go_ret
          exact ⟨⟨_, rfl, by simp; exact HN.out⟩, _, rfl⟩
      · have hab : a = b := by
          have := HE.out
          rwa [List.take_of_length_le (by omega), List.take_of_length_le (by omega)] at this
        have HN : Hid _ := hab
        clear hab
        go_wp2_with fail
        all_goals
          go_ret
          exact ⟨⟨_, rfl, by simp; exact HN.out⟩, _, rfl⟩

set_option maxRecDepth 100000 in
set_option maxHeartbeats 1000000 in
theorem same_any {w : World} {s u : Value} {a b : List Int} (ha : Src w s a) (hb : Src w u b) (hla : a.length ≤ 9223372036854775807) (hlb : b.length ≤ 9223372036854775807) :
    Calls Try.prog 15 #[s, u] w fun e w' => e = .returned (.bool (decide (a = b))) ∧ ∃ n, w' = w.drewN n := by
  have HA : Hid _ := ha
  have HB : Hid _ := hb
  obtain ⟨a0, c0, hs2⟩ := ha.form
  obtain ⟨b0, d0, hu2⟩ := hb.form
  subst hs2 hu2
  clear ha hb
  go_enter Try.func15, Try.ntmps15
  go_wp2_with fail
  refine (compare_any HA.out HB.out hla hlb).mono ?_
  rintro e w1 ⟨⟨c, rfl, hc⟩, n, rfl⟩
  have HC : Hid _ := hc
  clear hc
  go_wp2_with fail
  go_ret
  refine ⟨congrArg Ending.returned (congrArg Value.bool (?_ : (c == 0) = decide (a = b))), n, rfl⟩
  rw [Bool.eq_iff_iff]
  simpa using HC.out

/-- Zeros. -/
def zer (n : Nat) : List Value := List.replicate n (.int .u8 0)
theorem made_zer (n : Nat) : madeCells (Value.int .u8 0).cells (n * 1) = (zer n).toArray := by
  apply Array.ext_getElem?
  intro i
  simp [madeCells, zer, Value.cells]
  by_cases h : i < n <;> simp [h, Nat.mod_one]
theorem run_mk (n : Nat) (h : n ≤ 140737488355328) (w : World) : (Instr.makeSlice 23 (.int .i64 n) (.int .i64 n)).run Try.prog w = .ok (.slice (some ⟨w.heap.size, 0, none⟩) n n) (w.alloc (.cells (zer n).toArray 5)) := by
  obtain ⟨i0, hi, hz0, hz1, hz2⟩ := info_parts info5
  have := run_make (P := Try.prog) w 23 5 i0 (.int .u8 0) Try.underlying23 hi hz0 .i64 .i64 n n (by omega) (Int.le_refl _) (by rw [hz2]; omega) (by omega)
  rw [this, hz1, Int.toNat_natCast, made_zer]
theorem splice_zer (m : List Int) : splice (zer m.length) 0 (bs m) = bs m := by
  unfold splice zer
  rw [List.drop_of_length_le (by simp [bs])]
  simp
theorem own_full {w : World} {g : Nat} {m : List Int} (hm : m.length ≤ 140737488355328) (h : w.heap[g]? = some (.cells (bs m).toArray 5 (0, 0))) : Own w (.slice (some ⟨g, 0, none⟩) m.length m.length) m :=
  ⟨by simp [bs], .inr ⟨g, _, _, rfl, Nat.zero_le _, h, Nat.le_refl _, by unfold maxLen; omega, by simp [bs], by rw [Nat.mul_one]; exact List.take_of_length_le (by simp [bs])⟩⟩

set_option maxRecDepth 100000 in
set_option maxHeartbeats 1000000 in
theorem copy_any {w : World} {s : Value} {m : List Int} (hs : Src w s m) (hl : m.length ≤ 140737488355328) :
    Calls Try.prog 21 #[s] w fun e w' => ∃ v, e = .returned v ∧ Made w w' v m := by
  have HA : Hid _ := hs
  obtain ⟨a0, c0, hs2⟩ := hs.form
  subst hs2
  clear hs
  have hmk := run_mk m.length hl
  have hcp : 0 < (bs m).length → (some ⟨w.heap.size, 0, none⟩ : Option Addr) = some ⟨w.heap.size, 0, none⟩ ∧ ∃ ad, a0 = some ad ∧ ∀ j v, (bs m)[j]? = some v → (w.alloc (.cells (zer m.length).toArray 5)).cell? (ad.add j) = some v := by
    intro h0
    refine ⟨rfl, ?_⟩
    rcases HA.out with ⟨_, rfl⟩ | ⟨⟨g, o, sp⟩, c', e, hc⟩
    · simp [bs] at h0
    · injection e with e1 e2 e3
      refine ⟨_, e1, fun j v hv => ?_⟩
      obtain ⟨h1, h2⟩ := hc j v hv
      simp only at h1
      subst h1
      rw [addr_add]
      exact ((Chg.refl (fun _ => False) _).alloc _).cell_some h2 (fun h => h)
  have HCP : Hid _ := hcp
  clear hcp
  go_enter Try.func21, Try.ntmps21
  go_wp2_with (refine wpList_copy_splice rfl (.tmp 7) (.tmp 8) 23 23 rfl 5 Try.underlying23 (by kernel_rfl) _ _ _ _ _ _ rfl rfl w.heap.size 0 (zer m.length) 5 (heap_alloc_new _ _) (bs m) (by simp [bs]) HCP.out (by simp [bs, zer]) (bs_one m) w.heap.size w ((Below.refl _ _).alloc (Nat.le_refl _) _) (Nat.le_refl _) ?_; intro w1 hw1 hb1)
  rw [splice_zer] at hw1
  go_ret
  refine ⟨_, rfl, own_full hl hw1.out, hb1, fun k hk => ?_⟩
  have hk : some w.heap.size = some k := hk
  simp at hk
  omega

/-- What Roomy gives: the whole, and its front. -/
theorem Own.front {w : World} {a : Option Addr} {n c : Nat} {l m : List Int} (h : Own w (.slice a n c) (l ++ m)) (c' : Nat) (hp : 0 < (l ++ m).length) : Src w (.slice a l.length c') l := by
  rcases h.2 with ⟨_, h0⟩ | ⟨g, cap, cur, e, hb, hgg, rest⟩
  · omega
  · injection e with e1 e2 e3
    subst e1
    have h2 := Own.src h
    rcases h2 with ⟨e, _⟩ | ⟨a2, c2, e, hc⟩
    · simp at e
    · injection e with e1 e2 e3
      injection e1 with e1
      refine .inr ⟨a2, c', by rw [e1], fun j u hu => hc j u ?_⟩
      rw [bs_app, List.getElem?_append_left (List.getElem?_eq_some_iff.1 hu).1]
      exact hu

theorem Own.form2 {w : World} {v : Value} {l : List Int} (h : Own w v l) (hn : 0 < l.length) : ∃ g cap, v = .slice (some ⟨g, 0, none⟩) l.length cap ∧ l.length ≤ cap ∧ cap ≤ 9223372036854775807 := by
  rcases h.2 with ⟨_, h0⟩ | ⟨g, cap, cur, hv, hb, hg, h1, h2, _⟩
  · omega
  · exact ⟨g, cap, hv, h1, by unfold maxLen at h2; omega⟩

set_option maxRecDepth 100000 in
set_option maxHeartbeats 1000000 in
theorem roomy_any {w : World} {s : Value} {m : List Int} (hs : Src w s m) (hl : m.length + 2 ≤ 140737488355328) :
    Calls Try.prog 9 #[s] w fun e w' => ∃ a c, e = .returned (.tuple #[.slice (some a) m.length c, .slice (some a) (m.length + 2) c]) ∧ Made w w' (.slice (some a) (m.length + 2) c) (m ++ [165, 90]) := by
  have HA : Hid _ := hs
  obtain ⟨a0, c0, hs2⟩ := hs.form
  subst hs2
  clear hs
  go_enter Try.func9, Try.ntmps9
  go_wp2_with fail
  refine (copy_any HA.out (by omega)).mono ?_
  rintro e w1 ⟨v1, rfl, o1, b1, a1⟩
  have O1 : Hid _ := o1
  have B1 : Hid _ := b1
  have A1 : Hid _ := a1
  clear o1 b1 a1
  go_wp2_with (refine wpList_app rfl (.tmp 6) (.tmp 7) rfl (v := v1) rfl rfl (Own.alloc O1.out _) (src_new _ [165, 90] 2) (by simp; omega) ?_; intro v' w2 hv hch hat; have R : Hid (Made w w2 v' (m ++ [165, 90])) := ⟨hv, (((Chg.of_below B1.out (fun _ => False)).alloc _).trans hch (fun i e => .inr (A1.out i e.symm))).below (Nat.le_refl _) (fun _ h => h.elim), fun k hk => (by rcases hat with e | e; (rw [e] at hk; exact A1.out k hk); (rw [hk] at e; have := B1.out.size; simp at e; omega))⟩; obtain ⟨g, cap, hv2, hcap1, hcap2⟩ := Own.form2 hv (by simp); simp only [List.length_append, List.length_cons, List.length_nil] at hv2 hcap1; subst hv2; clear hv hch hat)
  go_ret2
  exact ⟨_, _, rfl, R.out⟩

end Go.Proofs.Ytjmeaebehndheaa

/-
  The walk of Untouched.
-/
namespace Go.Proofs.Ytjmeaebehndheaa
open Go.RowKit

theorem at_front (m : List Int) (x y : Int) : (m ++ [x, y])[m.length]'(by simp) = x := by simp
theorem at_back (m : List Int) (x y : Int) : (m ++ [x, y])[m.length + 1]'(by simp) = y := by simp

set_option maxRecDepth 100000 in
set_option maxHeartbeats 1000000 in
theorem untouched_any {w : World} {a : Option Addr} {s : Value} {c : Nat} {m : List Int} (hs : Src w s m) (ho : Own w (.slice a (m.length + 2) c) (m ++ [165, 90])) (hl : m.length + 2 ≤ 140737488355328) :
    Calls Try.prog 11 #[.slice a (m.length + 2) c, s] w fun e w' => e = .returned (.bool true) ∧ ∃ n, w' = w.drewN n := by
  have HA : Hid _ := hs
  obtain ⟨a0, c0, hs2⟩ := hs.form
  subst hs2
  obtain ⟨g, cap, e, hcap1, hcap2⟩ := Own.form2 ho (by simp)
  injection e with e1 e2 e3
  subst e1 e3
  simp only [List.length_append, List.length_cons, List.length_nil] at hcap1
  have HO : Hid _ := ho
  have HF : Hid _ := Own.front ho c (by simp)
  have hc1 : ∀ n, (w.drewN n).cell? ⟨g, m.length, none⟩ = some (.int .u8 165) := fun n => by
    obtain ⟨g2, o2, e, h⟩ := Src.at ho.src m.length (by simp)
    rw [at_front] at h
    injection e with e
    injection e with e1 e2
    subst e1 e2
    rwa [Nat.zero_add] at h
  have hc2 : ∀ n, (w.drewN n).cell? ⟨g, m.length + 1, none⟩ = some (.int .u8 90) := fun n => by
    obtain ⟨g2, o2, e, h⟩ := Src.at ho.src (m.length + 1) (by simp)
    rw [at_back] at h
    injection e with e
    injection e with e1 e2
    subst e1 e2
    rwa [Nat.zero_add] at h
  clear hs ho
  obtain ⟨N, hN⟩ : ∃ N, N = m.length + 2 := ⟨_, rfl⟩
  rw [← hN] at hcap1 hl
  rw [← hN]
  have hNI : (N : Int) = (m.length : Int) + 2 := by omega
  clear hN
  go_enter Try.func11, Try.ntmps11
  go_wp2_with fail
  refine (same_any HF.out HA.out (by omega) (by omega)).mono ?_
  rintro e w1 ⟨rfl, n, rfl⟩
  rw [decide_eq_true (rfl : m = m)]
  go_wp2_with fail
  go_ret
  exact ⟨rfl, n, rfl⟩
end Go.Proofs.Ytjmeaebehndheaa

/-
  The walks of the reference's High, Num and Text.
-/
namespace Go.Proofs.Ytjmeaebehndheaa
open Go.RowKit

/-- The lowest n bytes, the highest first. -/
def high : Nat → Nat → List Int
  | 0, _ => []
  | n + 1, x => high n (x / 256) ++ [((x % 256 : Nat) : Int)]
theorem high_len (n : Nat) : ∀ x, (high n x).length = n := by
  induction n with
  | zero => intro x; rfl
  | succ n ih => intro x; simp [high, ih]

/-- k zeros, then t. -/
def cel (k : Nat) (t : List Int) : Array Value := (zer k ++ bs t).toArray
theorem cel_set (k : Nat) (t : List Int) (x : Int) : (cel (k + 1) t).setIfInBounds k (.int .u8 x) = cel k (x :: t) := by
  have e : zer (k + 1) = zer k ++ [.int .u8 0] := by simp [zer, List.replicate_succ']
  unfold cel
  rw [e]
  simp [bs, zer]
theorem cel_get (k : Nat) (t : List Int) : (cel (k + 1) t)[k]? = some (.int .u8 0) := by
  simp [cel, zer, List.getElem?_append]
theorem cel_nil (k : Nat) : (zer k).toArray = cel k [] := by simp [cel, bs]

theorem made_blk {w w' : World} {g : Nat} {m : List Int} (hm : m.length ≤ 140737488355328) (h : w'.heap[g]? = some (.cells (bs m).toArray 5 (0, 0))) (hb : Below w.heap.size w w') (hg : w.heap.size ≤ g) : Made w w' (.slice (some ⟨g, 0, none⟩) m.length m.length) m :=
  ⟨own_full hm h, hb, fun k hk => by simp [Value.ownBlock] at hk; omega⟩
theorem made_new (w : World) (m : List Int) (hm : m.length ≤ 140737488355328) : Made w (w.alloc (.cells (bs m).toArray 5)) (.slice (some ⟨w.heap.size, 0, none⟩) m.length m.length) m :=
  made_blk hm (heap_alloc_new _ _) ((Below.refl _ _).alloc (Nat.le_refl _) _) (Nat.le_refl _)

set_option maxRecDepth 100000 in
set_option maxHeartbeats 1000000 in
theorem high_any (w : World) (n : Nat) (hn : n ≤ 8) (x : Nat) (hx : x < 18446744073709551616) :
    Calls Try.prog 49 #[.int .u64 x, .int .i64 n] w fun e w' => ∃ v, e = .returned v ∧ Made w w' v (high n x) := by
  have hmk := run_mk n (by omega)
  go_enter Try.func49, Try.ntmps49
  go_wp2_with fail
  go_loopw [0, 6] (fun y i wr => ∃ (k c : Nat) (t : List Int), y = .int .u64 c ∧ i = .int .i64 ((k : Int) - 1) ∧ k ≤ n ∧ c < 18446744073709551616 ∧ wr = w.alloc (.cells (cel k t) 5) ∧ high k c ++ t = high n x) (fun _ i _ => (intOf i + 1).toNat)
  case atStart => exact ⟨n, x, [], rfl, rfl, Nat.le_refl _, hx, by rw [cel_nil], by simp⟩
  case round =>
    obtain ⟨k, c, t, rfl, rfl, hk, hc, rfl, he⟩ := hrel
    have HE : Hid _ := he
    clear he
    match k, hk, HE with
    | 0, hk, HE =>
      go_wp2_with fail
      go_ret
      have e : t = high n x := by simpa [high] using HE.out
      have hl : t.length = n := by rw [e, high_len]
      have hm := made_new w t (by omega)
      have e2 : (bs t).toArray = cel 0 t := by simp [cel, zer]
      rw [e2, hl] at hm
      rw [← e]
      exact ⟨_, rfl, hm⟩
    | k + 1, hk, HE =>
      have hg := cel_get k t
      have hs := cel_set k t ((c : Int) % 256)
      go_wp2_with fail
      go_roundw
      case rel =>
        refine ⟨k, c / 256, ((c % 256 : Nat) : Int) :: t, by go_num, rfl, by omega, by omega, ?_, ?_⟩
        · simp
        · have := HE.out
          simp only [high, List.append_assoc, List.singleton_append] at this
          exact this
      case measure => simp [intOf]

set_option maxRecDepth 100000 in
set_option maxHeartbeats 1000000 in
theorem num_any (n : Nat) : ∀ (_ : n < 18446744073709551616) (w : World),
    Calls Try.prog 50 #[.int .u64 n] w fun e w' => ∃ v, e = .returned v ∧ Made w w' v (numB n) := by
  induction n using Nat.strongRecOn with
  | ind n ih =>
    intro hx w
    by_cases hlt : n < 128
    · go_enter Try.func50, Try.ntmps50
      go_wp2_with fail
      go_ret
      rw [numB_lo hlt]
      exact ⟨_, rfl, made_new w [(n : Int)] (by simp)⟩
    · have h10 := numB_ten hx
      have hl2 : (numB n).length = (numB (n / 128)).length + 1 := by rw [numB_hi (by omega)]; rfl
      have IH : Hid _ := ih (n / 128) (by omega) (by omega)
      clear ih
      go_enter Try.func50, Try.ntmps50
      go_wp2_with fail
      refine (IH.out _).mono ?_
      rintro e w1 ⟨v1, rfl, o1, b1, a1⟩
      have O1 : Hid _ := o1
      have B1 : Hid _ := b1
      have A1 : Hid _ := a1
      have O0 : Hid (Own w1 (.slice (some ⟨w.heap.size, 0, none⟩) 1 1) [(n : Int) % 128 + 128]) := Own.kept (own_full (m := [(n : Int) % 128 + 128]) (by simp) (heap_alloc_new _ _)) (Chg.of_below b1 (fun _ => False)) (fun _ _ h => h)
      clear o1 b1 a1
      go_wp2_with (refine wpList_app rfl (.tmp 12) (.tmp 15) rfl (v := .slice (some ⟨w.heap.size, 0, none⟩) 1 1) rfl rfl O0.out (Own.src O1.out) (by simp; omega) ?_; intro v' w2 hv hch hat)
      go_ret
      rw [numB_hi (by omega)]
      refine ⟨_, rfl, ?_, ?_, fun k hk => ?_⟩
      · have e : ((n % 128 + 128 : Nat) : Int) = (n : Int) % 128 + 128 := by omega
        rw [e]; exact hv
      · exact ((((Chg.refl (fun _ => False) _).alloc _).trans (Chg.of_below B1.out (fun _ => False)) (fun _ h => h.elim)).trans hch (fun i e => .inr (by simp [Value.ownBlock] at e; omega))).below (Nat.le_refl _) (fun _ h => h.elim)
      · have hk : v'.ownBlock = some k := hk
        have := B1.out.size
        rcases hat with e | e <;> rw [hk] at e <;> simp [Value.ownBlock] at e this <;> omega

set_option maxRecDepth 100000 in
set_option maxHeartbeats 1000000 in
theorem text_any {w : World} {s : Value} {m : List Int} (hs : Src w s m) (hl : m.length + 10 ≤ 140737488355328) :
    Calls Try.prog 51 #[s] w fun e w' => ∃ v, e = .returned v ∧ Made w w' v (numB m.length ++ m) := by
  have HA : Hid _ := hs
  obtain ⟨a0, c0, hs2⟩ := hs.form
  subst hs2
  have h10 := numB_ten (n := m.length) (by omega)
  clear hs
  go_enter Try.func51, Try.ntmps51
  go_wp2_with fail
  refine (num_any m.length (by omega) _).mono ?_
  rintro e w1 ⟨v1, rfl, o1, b1, a1⟩
  have O1 : Hid _ := o1
  have B1 : Hid _ := b1
  have A1 : Hid _ := a1
  have S1 : Hid _ := Src.kept0 HA.out b1
  clear o1 b1 a1
  go_wp2_with (refine wpList_app rfl (.tmp 6) (.tmp 7) rfl (v := v1) rfl rfl O1.out S1.out (by omega) ?_; intro v' w2 hv hch hat)
  go_ret
  refine ⟨_, rfl, hv, ?_, fun k hk => ?_⟩
  · exact ((Chg.of_below B1.out (fun _ => False)).trans hch (fun i e => .inr (A1.out i e.symm))).below (Nat.le_refl _) (fun _ h => h.elim)
  · have hk : v'.ownBlock = some k := hk
    have := B1.out.size
    rcases hat with e | e
    · exact A1.out k (by rw [← e, hk])
    · rw [hk] at e; simp at e; omega

theorem Made.app {w w1 w2 : World} {v v' : Value} {l m : List Int} (h : Made w w1 v l) (hv : Own w2 v' m) (hch : Chg (fun k => some k = v.ownBlock) w1 w2) (hat : v'.ownBlock = v.ownBlock ∨ v'.ownBlock = some w1.heap.size) : Made w w2 v' m := by
  refine ⟨hv, ((Chg.of_below h.2.1 (fun _ => False)).trans hch (fun i e => .inr (h.2.2 i e.symm))).below (Nat.le_refl _) (fun _ h => h.elim), fun k hk => ?_⟩
  have := h.2.1.size
  rcases hat with e | e
  · exact h.2.2 k (by rw [← e, hk])
  · rw [hk] at e; simp at e; omega

theorem high1 (x : Nat) : high 1 x = [((x : Int) % 256)] := by simp [high]
theorem high4 (x : Nat) : high 4 x = word ((x : Int) % 4294967296) := by
  simp [high, word]
  omega
theorem high8 (x : Nat) (h : x < 18446744073709551616) : high 8 x = long x := by
  simp [high, word, long]
  omega
end Go.Proofs.Ytjmeaebehndheaa

/-
  Readers in memory, and the walks of their smallest calls.
-/
namespace Go.Proofs.Ytjmeaebehndheaa
open Go.RowKit

/-- Each is a byte. -/
def Byts (l : List Int) : Prop := ∀ y ∈ l, 0 ≤ y ∧ y ≤ 255

/-- What End tells; what Fail leaves. -/
def endE (T : List Int) (a : Nat) (err : Int) : Int := if err = 0 ∧ a < T.length then 23 else err
def failE (err c : Int) : Int := if err = 0 then c else err
theorem endE_yes {T : List Int} {a : Nat} (h : a < T.length) : endE T a 0 = 23 := by simp [endE, h]
theorem endE_no {T : List Int} {a : Nat} (h : ¬ a < T.length) : endE T a 0 = 0 := by simp [endE]; omega
theorem endE_err {T : List Int} {a : Nat} {err : Int} (h : ¬ err = 0) : endE T a err = err := by simp [endE, h]
theorem failE_yes (c : Int) : failE 0 c = c := rfl
theorem failE_no {err : Int} (c : Int) (h : ¬ err = 0) : failE err c = err := by simp [failE, h]

/-- A Reader lies in block p: its bytes, how many were taken, what went wrong. -/
structure RS (w : World) (p : Nat) (t : TypeId) (tv : Value) (T : List Int) (at_ : Nat) (err : Int) : Prop where
  blk : w.heap[p]? = some (.cells #[tv, .int .i64 at_, .int .i64 err] t (0, 0))
  src : Src w tv T
  ne : tv.ownBlock ≠ some p
  le : at_ ≤ T.length
  big : T.length ≤ 140737488355328
  byt : Byts T
  cap : ∃ a c, tv = .slice a T.length c ∧ T.length ≤ c ∧ c ≤ 9223372036854775807

/-- What a call leaves. -/
def RP (w w' : World) (p : Nat) (t : TypeId) (tv : Value) (T : List Int) (at_ : Nat) (err : Int) : Prop := RS w' p t tv T at_ err ∧ Chg (fun k => k = p) w w'

section
variable {w w' : World} {p : Nat} {t : TypeId} {tv : Value} {T : List Int} {at_ : Nat} {err : Int}
theorem RS.c0 (h : RS w p t tv T at_ err) : w.cell? ⟨p, 0, none⟩ = some tv := by rw [cell_of_row w p 0 _ t (0, 0) h.blk]; rfl
theorem RS.c1 (h : RS w p t tv T at_ err) : w.cell? ⟨p, 1, none⟩ = some (.int .i64 at_) := by rw [cell_of_row w p 1 _ t (0, 0) h.blk]; rfl
theorem RS.c2 (h : RS w p t tv T at_ err) : w.cell? ⟨p, 2, none⟩ = some (.int .i64 err) := by rw [cell_of_row w p 2 _ t (0, 0) h.blk]; rfl
theorem RS.fr (h : RS w p t tv T at_ err) (j : Nat) : w.frozen? ⟨p, j, none⟩ = false := frozen_of_row w p j _ t h.blk
theorem RS.lt (h : RS w p t tv T at_ err) : p < w.heap.size := (Array.getElem?_eq_some_iff.1 h.blk).1
theorem RS.refl (h : RS w p t tv T at_ err) : RP w w p t tv T at_ err := ⟨h, Chg.refl _ _⟩
theorem RS.drewN (h : RS w p t tv T at_ err) (n : Nat) : RS (w.drewN n) p t tv T at_ err := ⟨h.blk, h.src, h.ne, h.le, h.big, h.byt, h.cap⟩
theorem RS.setErr (h : RS w p t tv T at_ err) (e : Int) : RS (w.setCell ⟨p, 2, none⟩ (.int .i64 e)) p t tv T at_ e :=
  ⟨by rw [heap_setCell_same w p 2 _ t _ h.blk]; rfl, h.src.kept ((Chg.refl (fun k => k = p) w).setCell (.inl rfl) _) (fun k hk e => h.ne (by rw [hk, e])), h.ne, h.le, h.big, h.byt, h.cap⟩
theorem RS.setAt (h : RS w p t tv T at_ err) (b : Nat) (hb : b ≤ T.length) : RS (w.setCell ⟨p, 1, none⟩ (.int .i64 b)) p t tv T b err :=
  ⟨by rw [heap_setCell_same w p 1 _ t _ h.blk]; rfl, h.src.kept ((Chg.refl (fun k => k = p) w).setCell (.inl rfl) _) (fun k hk e => h.ne (by rw [hk, e])), h.ne, hb, h.big, h.byt, h.cap⟩
theorem RS.keep {S : Nat → Prop} (h : RS w p t tv T at_ err) (c : Chg S w w') (hp : ¬ S p) (ht : ∀ k, tv.ownBlock = some k → ¬ S k) : RS w' p t tv T at_ err :=
  ⟨c.heap_some h.blk hp, h.src.kept c ht, h.ne, h.le, h.big, h.byt, h.cap⟩
theorem RS.keep0 (h : RS w p t tv T at_ err) (c : Below w.heap.size w w') : RS w' p t tv T at_ err := h.keep (Chg.of_below c (fun _ => False)) (fun h => h) (fun _ _ h => h)
end

theorem RP.trans {w w1 w2 : World} {p : Nat} {t : TypeId} {tv : Value} {T : List Int} {at1 at2 : Nat} {e1 e2 : Int} (h : RP w w1 p t tv T at1 e1) (k : RP w1 w2 p t tv T at2 e2) : RP w w2 p t tv T at2 e2 :=
  ⟨k.1, h.2.trans k.2 (fun _ e => .inl e)⟩

set_option maxRecDepth 100000 in
set_option maxHeartbeats 1000000 in
theorem rLeft_any {w : World} {p : Nat} {t : TypeId} {tv : Value} {T : List Int} {a : Nat} {err : Int} (h : RS w p t tv T a err) :
    Calls Try.prog 76 #[.pointer (some ⟨p, 0, none⟩)] w fun e w' => e = .returned (.int .i64 ((T.length : Int) - a)) ∧ ∃ n, w' = w.drewN n := by
  obtain ⟨b0, d0, hv⟩ := h.src.form
  have h0 : ∀ n, (w.drewN n).cell? ⟨p, 0, none⟩ = some tv := fun n => h.c0
  have h1 : ∀ n, (w.drewN n).cell? ⟨p, 1, none⟩ = some (.int .i64 a) := fun n => h.c1
  have hle := h.le
  have hbig := h.big
  subst hv
  clear h
  go_enter Try.func76, Try.ntmps76
  go_wp2_with fail
  go_quiet (fail)
  go_wp2_with fail
  go_ret
  exact ⟨rfl, _, rfl⟩

set_option maxRecDepth 100000 in
set_option maxHeartbeats 1000000 in
theorem rFail_any {w : World} {p : Nat} {t : TypeId} {tv : Value} {T : List Int} {a : Nat} {err : Int} (h : RS w p t tv T a err) (c : Int) :
    Calls Try.prog 74 #[.pointer (some ⟨p, 0, none⟩), .int .i64 c] w fun e w' => e = .returned (.tuple #[]) ∧ RP w w' p t tv T a (failE err c) := by
  have h2 := h.c2
  have hf := h.fr 2
  have H : Hid _ := h
  clear h
  by_cases he : err = 0
  · subst he
    go_enter Try.func74, Try.ntmps74
    go_wp2_with fail
    exact bodyPost_end (results_none rfl _ _ _) rfl ⟨rfl, by rw [failE_yes]; exact ⟨RS.setErr H.out c, (Chg.refl (fun k => k = p) w).setCell (.inl rfl) _⟩⟩
  · go_enter Try.func74, Try.ntmps74
    go_wp2_with fail
    exact bodyPost_end (results_none rfl _ _ _) rfl ⟨rfl, by rw [failE_no c he]; exact RS.refl H.out⟩

set_option maxRecDepth 100000 in
set_option maxHeartbeats 1000000 in
theorem rEnd_any {w : World} {p : Nat} {t : TypeId} {tv : Value} {T : List Int} {a : Nat} {err : Int} (h : RS w p t tv T a err) :
    Calls Try.prog 79 #[.pointer (some ⟨p, 0, none⟩)] w fun e w' => e = .returned (.int .i64 (endE T a err)) ∧ ∃ n, w' = w.drewN n := by
  have h2 : ∀ n, (w.drewN n).cell? ⟨p, 2, none⟩ = some (.int .i64 err) := fun n => h.c2
  have h2' := h.c2
  have hle := h.le
  have hbig := h.big
  have H : Hid _ := h
  clear h
  by_cases he : err = 0
  · subst he
    by_cases hl : a < T.length
    · go_enter Try.func79, Try.ntmps79
      go_wp2_with fail
      refine (rLeft_any H.out).mono ?_
      rintro e w1 ⟨rfl, n, rfl⟩
      go_wp2_with fail
      go_ret
      exact ⟨by rw [endE_yes hl]; rfl, n, rfl⟩
    · go_enter Try.func79, Try.ntmps79
      go_wp2_with fail
      refine (rLeft_any H.out).mono ?_
      rintro e w1 ⟨rfl, n, rfl⟩
      go_wp2_with fail
      go_ret
      exact ⟨by rw [endE_no hl]; rfl, n, rfl⟩
  · go_enter Try.func79, Try.ntmps79
    go_wp2_with fail
    go_ret
    exact ⟨by rw [endE_err he]; rfl, 0, rfl⟩

set_option maxRecDepth 100000 in
set_option maxHeartbeats 1000000 in
theorem rErr_any {w : World} {p : Nat} {t : TypeId} {tv : Value} {T : List Int} {a : Nat} {err : Int} (h : RS w p t tv T a err) :
    Calls Try.prog 78 #[.pointer (some ⟨p, 0, none⟩)] w fun e w' => e = .returned (.int .i64 err) ∧ w' = w := by
  have h2 := h.c2
  clear h
  go_enter Try.func78, Try.ntmps78
  go_wp2_with fail
  go_ret
  exact ⟨rfl, rfl⟩

set_option maxRecDepth 100000 in
set_option maxHeartbeats 1000000 in
theorem xLeft_any {w : World} {p : Nat} {t : TypeId} {tv : Value} {T : List Int} {a : Nat} {err : Int} (h : RS w p t tv T a err) :
    Calls Try.prog 77 #[.pointer (some ⟨p, 0, none⟩)] w fun e w' => e = .returned (.int .i64 ((T.length : Int) - a)) ∧ ∃ n, w' = w.drewN n := by
  obtain ⟨b0, d0, hv⟩ := h.src.form
  have h0 : ∀ n, (w.drewN n).cell? ⟨p, 0, none⟩ = some tv := fun n => h.c0
  have h1 : ∀ n, (w.drewN n).cell? ⟨p, 1, none⟩ = some (.int .i64 a) := fun n => h.c1
  have hle := h.le
  have hbig := h.big
  subst hv
  clear h
  go_enter Try.func77, Try.ntmps77
  go_wp2_with fail
  go_quiet (fail)
  go_wp2_with fail
  go_ret
  exact ⟨rfl, _, rfl⟩

set_option maxRecDepth 100000 in
set_option maxHeartbeats 1000000 in
theorem xFail_any {w : World} {p : Nat} {t : TypeId} {tv : Value} {T : List Int} {a : Nat} {err : Int} (h : RS w p t tv T a err) (c : Int) :
    Calls Try.prog 75 #[.pointer (some ⟨p, 0, none⟩), .int .i64 c] w fun e w' => e = .returned (.tuple #[]) ∧ RP w w' p t tv T a (failE err c) := by
  have h2 := h.c2
  have hf := h.fr 2
  have H : Hid _ := h
  clear h
  by_cases he : err = 0
  · subst he
    go_enter Try.func75, Try.ntmps75
    go_wp2_with fail
    exact bodyPost_end (results_none rfl _ _ _) rfl ⟨rfl, by rw [failE_yes]; exact ⟨RS.setErr H.out c, (Chg.refl (fun k => k = p) w).setCell (.inl rfl) _⟩⟩
  · go_enter Try.func75, Try.ntmps75
    go_wp2_with fail
    exact bodyPost_end (results_none rfl _ _ _) rfl ⟨rfl, by rw [failE_no c he]; exact RS.refl H.out⟩

set_option maxRecDepth 100000 in
set_option maxHeartbeats 1000000 in
theorem xEnd_any {w : World} {p : Nat} {t : TypeId} {tv : Value} {T : List Int} {a : Nat} {err : Int} (h : RS w p t tv T a err) :
    Calls Try.prog 80 #[.pointer (some ⟨p, 0, none⟩)] w fun e w' => e = .returned (.int .i64 (endE T a err)) ∧ ∃ n, w' = w.drewN n := by
  have h2 : ∀ n, (w.drewN n).cell? ⟨p, 2, none⟩ = some (.int .i64 err) := fun n => h.c2
  have h2' := h.c2
  have hle := h.le
  have hbig := h.big
  have H : Hid _ := h
  clear h
  by_cases he : err = 0
  · subst he
    by_cases hl : a < T.length
    · go_enter Try.func80, Try.ntmps80
      go_wp2_with fail
      refine (xLeft_any H.out).mono ?_
      rintro e w1 ⟨rfl, n, rfl⟩
      go_wp2_with fail
      go_ret
      exact ⟨by rw [endE_yes hl]; rfl, n, rfl⟩
    · go_enter Try.func80, Try.ntmps80
      go_wp2_with fail
      refine (xLeft_any H.out).mono ?_
      rintro e w1 ⟨rfl, n, rfl⟩
      go_wp2_with fail
      go_ret
      exact ⟨by rw [endE_no hl]; rfl, n, rfl⟩
  · go_enter Try.func80, Try.ntmps80
    go_wp2_with fail
    go_ret
    exact ⟨by rw [endE_err he]; rfl, 0, rfl⟩
end Go.Proofs.Ytjmeaebehndheaa
