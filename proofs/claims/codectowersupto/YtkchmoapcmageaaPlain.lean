/-
  The walks of the plain helpers: Compare, SameBytes, CopyBytes, Roomy, Untouched.
-/
import Derived.Test.YtkchmoapcmageaaWriter2
import Derived.Laws.CopyOwn
namespace Go.Proofs.Ytkchmoapcmageaa
open Go.RowKit

theorem Src.at {w : World} {a : Option Addr} {n c : Nat} {l : List Int} (h : Src w (.slice a n c) l) (k : Nat) (hk : k < l.length) : ∃ g o, a = some ⟨g, o, none⟩ ∧ w.cell? ⟨g, o + k, none⟩ = some (.int .u8 l[k]) := by
  rcases h with ⟨_, rfl⟩ | ⟨⟨g, o, sp⟩, c', e, hc⟩
  · simp at hk
  · injection e with e1 e2 e3
    obtain ⟨h1, h2⟩ := hc k _ (bs_get l k hk)
    simp only at h1
    subst h1
    exact ⟨g, o, e1, h2⟩

theorem take_eq_succ {a b : List Int} {k : Nat} (ha : k < a.length) (hb : k < b.length) (h : a.take k = b.take k) (he : a[k] = b[k]) : a.take (k + 1) = b.take (k + 1) := by
  rw [List.take_succ_eq_append_getElem ha, List.take_succ_eq_append_getElem hb, h, he]
theorem ne_of_at {a b : List Int} {k : Nat} (ha : k < a.length) (hb : k < b.length) (he : a[k] ≠ b[k]) : a ≠ b := by
  rintro rfl; exact he rfl

theorem dr3 (w : World) (a b c : Nat) : ∃ n, ((w.drewN a).drewN b).drewN c = w.drewN n := ⟨a + b + c, by simp⟩
theorem drewN_chg (w : World) (n : Nat) (S : Nat → Prop) : Chg S w (w.drewN n) := ⟨rfl, rfl, rfl, Nat.le_refl _, fun _ _ _ => rfl⟩
theorem Src.drewN {w : World} {v : Value} {l : List Int} (h : Src w v l) (n : Nat) : Src (w.drewN n) v l := h
theorem Own.drewN {w : World} {v : Value} {l : List Int} (h : Own w v l) (n : Nat) : Own (w.drewN n) v l := h

set_option maxRecDepth 100000 in
set_option maxHeartbeats 1000000 in
theorem compare_any {w : World} {s u : Value} {a b : List Int} (ha : Src w s a) (hb : Src w u b) (hla : a.length ≤ 9223372036854775807) (_hlb : b.length ≤ 9223372036854775807) :
    Calls Try.prog 53 #[s, u] w fun e w' => (∃ c : Int, e = .returned (.int .i64 c) ∧ (c = 0 ↔ a = b)) ∧ ∃ n, w' = w.drewN n := by
  have HA : Hid _ := ha
  have HB : Hid _ := hb
  obtain ⟨a0, c0, hs2⟩ := ha.form
  obtain ⟨b0, d0, hu2⟩ := hb.form
  subst hs2 hu2
  clear ha hb
  go_enter Try.func53, Try.ntmps53
  go_wp2_with fail
  go_loopw [5] (fun x wr => ∃ (k n : Nat), x = .int .i64 k ∧ wr = w.drewN n ∧ k ≤ a.length ∧ k ≤ b.length ∧ a.take k = b.take k) (fun x _ => a.length - (intOf x).toNat)
  case atStart => exact ⟨0, 0, rfl, rfl, Nat.zero_le _, Nat.zero_le _, rfl⟩
  case round =>
    obtain ⟨k, n, rfl, rfl, hk1, hk2, he⟩ := hrel
    have HE : Hid _ := he
    clear he
    by_cases hlt : k < a.length
    · by_cases hlt2 : k < b.length
      · obtain ⟨g, o, rfl, hc1⟩ := Src.at HA.out k hlt
        obtain ⟨g2, o2, rfl, hc2⟩ := Src.at HB.out k hlt2
        have hc1' : ∀ n, (w.drewN n).cell? ⟨g, o + k, none⟩ = some (.int .u8 a[k]) := fun n => hc1
        have hc2' : ∀ n, (w.drewN n).cell? ⟨g2, o2 + k, none⟩ = some (.int .u8 b[k]) := fun n => hc2
        clear hc1 hc2
        by_cases hab : a[k] = b[k]
        · go_wp2_with fail
          go_quiet (fail)
          go_wp2_with fail
          go_roundw
          case rel => exact ⟨k + 1, _, by go_num, rfl, by omega, by omega, take_eq_succ hlt hlt2 HE.out hab⟩
          case measure => simp [intOf]; omega
        · go_wp2_with fail
          go_quiet (fail)
          go_wp2_with fail
          go_quiet (fail)
          go_wp2_with fail
          all_goals
            go_ret
            exact ⟨⟨_, rfl, by simp; exact ne_of_at hlt hlt2 hab⟩, dr3 _ _ _ _⟩
      · have hne : a ≠ b := fun e => hlt2 (by rw [← e]; exact hlt)
        have HN : Hid _ := hne
        clear hne
        go_wp2_with fail
        all_goals
          go_ret
          exact ⟨⟨_, rfl, by simp; exact HN.out⟩, _, rfl⟩
    · by_cases hlt2 : k < b.length
      · have hne : a ≠ b := fun e => hlt (by rw [e]; exact hlt2)
        have HN : Hid _ := hne
        clear hne
        go_wp2_with fail
        all_goals
          go_ret
          exact ⟨⟨_, rfl, by simp; exact HN.out⟩, _, rfl⟩
      · have hab : a = b := by
          have := HE.out
          rwa [List.take_of_length_le (by omega), List.take_of_length_le (by omega)] at this
        have HN : Hid _ := hab
        clear hab
        go_wp2_with fail
        all_goals
          go_ret
          exact ⟨⟨_, rfl, by simp; exact HN.out⟩, _, rfl⟩

set_option maxRecDepth 100000 in
set_option maxHeartbeats 1000000 in
theorem same_any {w : World} {s u : Value} {a b : List Int} (ha : Src w s a) (hb : Src w u b) (hla : a.length ≤ 9223372036854775807) (hlb : b.length ≤ 9223372036854775807) :
    Calls Try.prog 15 #[s, u] w fun e w' => e = .returned (.bool (decide (a = b))) ∧ ∃ n, w' = w.drewN n := by
  have HA : Hid _ := ha
  have HB : Hid _ := hb
  obtain ⟨a0, c0, hs2⟩ := ha.form
  obtain ⟨b0, d0, hu2⟩ := hb.form
  subst hs2 hu2
  clear ha hb
  go_enter Try.func15, Try.ntmps15
  go_wp2_with fail
  refine (compare_any HA.out HB.out hla hlb).mono ?_
  rintro e w1 ⟨⟨c, rfl, hc⟩, n, rfl⟩
  have HC : Hid _ := hc
  clear hc
  go_wp2_with fail
  go_ret
  refine ⟨congrArg Ending.returned (congrArg Value.bool (?_ : (c == 0) = decide (a = b))), n, rfl⟩
  rw [Bool.eq_iff_iff]
  simpa using HC.out

/-- Zeros. -/
def zer (n : Nat) : List Value := List.replicate n (.int .u8 0)
theorem made_zer (n : Nat) : madeCells (Value.int .u8 0).cells (n * 1) = (zer n).toArray := by
  apply Array.ext_getElem?
  intro i
  simp [madeCells, zer, Value.cells]
  by_cases h : i < n <;> simp [h, Nat.mod_one]
theorem run_mk (n : Nat) (h : n ≤ 140737488355328) (w : World) : (Instr.makeSlice 23 (.int .i64 n) (.int .i64 n)).run Try.prog w = .ok (.slice (some ⟨w.heap.size, 0, none⟩) n n) (w.alloc (.cells (zer n).toArray 5)) := by
  obtain ⟨i0, hi, hz0, hz1, hz2⟩ := info_parts info5
  have := run_make (P := Try.prog) w 23 5 i0 (.int .u8 0) Try.underlying23 hi hz0 .i64 .i64 n n (by omega) (Int.le_refl _) (by rw [hz2]; omega) (by omega)
  rw [this, hz1, Int.toNat_natCast, made_zer]
theorem splice_zer (m : List Int) : splice (zer m.length) 0 (bs m) = bs m := by
  unfold splice zer
  rw [List.drop_of_length_le (by simp [bs])]
  simp
theorem own_full {w : World} {g : Nat} {m : List Int} (hm : m.length ≤ 140737488355328) (h : w.heap[g]? = some (.cells (bs m).toArray 5 (0, 0))) : Own w (.slice (some ⟨g, 0, none⟩) m.length m.length) m :=
  ⟨by simp [bs], .inr ⟨g, _, _, rfl, Nat.zero_le _, h, Nat.le_refl _, by unfold maxLen; omega, by simp [bs], by rw [Nat.mul_one]; exact List.take_of_length_le (by simp [bs])⟩⟩

set_option maxRecDepth 100000 in
set_option maxHeartbeats 1000000 in
theorem copy_any {w : World} {s : Value} {m : List Int} (hs : Src w s m) (hl : m.length ≤ 140737488355328) :
    Calls Try.prog 21 #[s] w fun e w' => ∃ v, e = .returned v ∧ Made w w' v m := by
  have HA : Hid _ := hs
  obtain ⟨a0, c0, hs2⟩ := hs.form
  subst hs2
  clear hs
  have hmk := run_mk m.length hl
  have hcp : 0 < (bs m).length → (some ⟨w.heap.size, 0, none⟩ : Option Addr) = some ⟨w.heap.size, 0, none⟩ ∧ ∃ ad, a0 = some ad ∧ ∀ j v, (bs m)[j]? = some v → (w.alloc (.cells (zer m.length).toArray 5)).cell? (ad.add j) = some v := by
    intro h0
    refine ⟨rfl, ?_⟩
    rcases HA.out with ⟨_, rfl⟩ | ⟨⟨g, o, sp⟩, c', e, hc⟩
    · simp [bs] at h0
    · injection e with e1 e2 e3
      refine ⟨_, e1, fun j v hv => ?_⟩
      obtain ⟨h1, h2⟩ := hc j v hv
      simp only at h1
      subst h1
      rw [addr_add]
      exact ((Chg.refl (fun _ => False) _).alloc _).cell_some h2 (fun h => h)
  have HCP : Hid _ := hcp
  clear hcp
  go_enter Try.func21, Try.ntmps21
  go_wp2_with (refine wpList_copy_splice rfl (.tmp 7) (.tmp 8) 23 23 rfl 5 Try.underlying23 (by kernel_rfl) _ _ _ _ _ _ rfl rfl w.heap.size 0 (zer m.length) 5 (heap_alloc_new _ _) (bs m) (by simp [bs]) HCP.out (by simp [bs, zer]) (bs_one m) w.heap.size w ((Below.refl _ _).alloc (Nat.le_refl _) _) (Nat.le_refl _) ?_; intro w1 hw1 hb1)
  rw [splice_zer] at hw1
  go_ret
  refine ⟨_, rfl, own_full hl hw1.out, hb1, fun k hk => ?_⟩
  have hk : some w.heap.size = some k := hk
  simp at hk
  omega

/-- What Roomy gives: the whole, and its front. -/
theorem Own.front {w : World} {a : Option Addr} {n c : Nat} {l m : List Int} (h : Own w (.slice a n c) (l ++ m)) (c' : Nat) (hp : 0 < (l ++ m).length) : Src w (.slice a l.length c') l := by
  rcases h.2 with ⟨_, h0⟩ | ⟨g, cap, cur, e, hb, hgg, rest⟩
  · omega
  · injection e with e1 e2 e3
    subst e1
    have h2 := Own.src h
    rcases h2 with ⟨e, _⟩ | ⟨a2, c2, e, hc⟩
    · simp at e
    · injection e with e1 e2 e3
      injection e1 with e1
      refine .inr ⟨a2, c', by rw [e1], fun j u hu => hc j u ?_⟩
      rw [bs_app, List.getElem?_append_left (List.getElem?_eq_some_iff.1 hu).1]
      exact hu

theorem Own.form2 {w : World} {v : Value} {l : List Int} (h : Own w v l) (hn : 0 < l.length) : ∃ g cap, v = .slice (some ⟨g, 0, none⟩) l.length cap ∧ l.length ≤ cap ∧ cap ≤ 9223372036854775807 := by
  rcases h.2 with ⟨_, h0⟩ | ⟨g, cap, cur, hv, hb, hg, h1, h2, _⟩
  · omega
  · exact ⟨g, cap, hv, h1, by unfold maxLen at h2; omega⟩

set_option maxRecDepth 100000 in
set_option maxHeartbeats 1000000 in
theorem roomy_any {w : World} {s : Value} {m : List Int} (hs : Src w s m) (hl : m.length + 2 ≤ 140737488355328) :
    Calls Try.prog 9 #[s] w fun e w' => ∃ a c, e = .returned (.tuple #[.slice (some a) m.length c, .slice (some a) (m.length + 2) c]) ∧ Made w w' (.slice (some a) (m.length + 2) c) (m ++ [165, 90]) := by
  have HA : Hid _ := hs
  obtain ⟨a0, c0, hs2⟩ := hs.form
  subst hs2
  clear hs
  go_enter Try.func9, Try.ntmps9
  go_wp2_with fail
  refine (copy_any HA.out (by omega)).mono ?_
  rintro e w1 ⟨v1, rfl, o1, b1, a1⟩
  have O1 : Hid _ := o1
  have B1 : Hid _ := b1
  have A1 : Hid _ := a1
  clear o1 b1 a1
  go_wp2_with (refine wpList_app rfl (.tmp 6) (.tmp 7) rfl (v := v1) rfl rfl (Own.alloc O1.out _) (src_new _ [165, 90] 2) (by simp; omega) ?_; intro v' w2 hv hch hat; have R : Hid (Made w w2 v' (m ++ [165, 90])) := ⟨hv, (((Chg.of_below B1.out (fun _ => False)).alloc _).trans hch (fun i e => .inr (A1.out i e.symm))).below (Nat.le_refl _) (fun _ h => h.elim), fun k hk => (by rcases hat with e | e; (rw [e] at hk; exact A1.out k hk); (rw [hk] at e; have := B1.out.size; simp at e; omega))⟩; obtain ⟨g, cap, hv2, hcap1, hcap2⟩ := Own.form2 hv (by simp); simp only [List.length_append, List.length_cons, List.length_nil] at hv2 hcap1; subst hv2; clear hv hch hat)
  go_ret2
  exact ⟨_, _, rfl, R.out⟩

end Go.Proofs.Ytkchmoapcmageaa
