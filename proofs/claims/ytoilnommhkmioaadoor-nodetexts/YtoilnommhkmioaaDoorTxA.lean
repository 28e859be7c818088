/-
  The reference's texts: Fixed, LeafText, HeadText, RootText.
-/
import Derived.Test.YtoilnommhkmioaaDoorEqs
namespace Go.Proofs.YtoilnommhkmioaaDoor
open Go.RowKit

theorem owns_form {w : World} {v : Value} {n k : Nat} {t : TypeId} {xs : List Value} (h : w.ownsRow 0 t k v n xs) : (v = .slice none 0 0 ∧ n = 0) ∨ ∃ g c, v = .slice (some ⟨g, 0, none⟩) n c := by
  rcases h.2 with ⟨e, h0⟩ | ⟨g, cap, cur, e, _⟩
  · exact .inl ⟨e, h0⟩
  · exact .inr ⟨g, cap, e⟩
theorem own_block {w : World} {v : Value} {l : List Int} (h : Own w v l) {g : Nat} (hg : v.ownBlock = some g) : ∃ cur, w.heap[g]? = some (.cells cur 5 (0, 0)) := by
  rcases h.2 with ⟨e, _⟩ | ⟨b, cap, cur, e, _, hgg, _⟩
  · rw [e] at hg; simp [Value.ownBlock] at hg
  · rw [e] at hg
    simp [Value.ownBlock] at hg
    rw [← hg]
    exact ⟨cur, hgg⟩
theorem Own.set {w : World} {g z cp : Nat} {l : List Int} (h : Own w (.slice (some ⟨g, 0, none⟩) z cp) l) (i : Nat) (x : Int) : Own (w.setCell ⟨g, i, none⟩ (.int .u8 x)) (.slice (some ⟨g, 0, none⟩) z cp) (l.set i x) := by
  refine ⟨by rw [List.length_set, bs_len, List.length_set, Nat.mul_one], ?_⟩
  rcases h.2 with ⟨e, _⟩ | ⟨b, cap, cur, e, hb, hgg, h1, h2, h3, h4⟩
  · cases e
  · injection e with e1 e2 e3
    injection e1 with e1
    injection e1 with e1
    subst e1 e2 e3
    refine .inr ⟨g, cp, cur.setIfInBounds i (.int .u8 x), by rw [List.length_set], hb, heap_setCell_same w g i cur 5 _ hgg, by rw [List.length_set]; exact h1, h2, by simpa using h3, ?_⟩
    rw [List.length_set, Array.toList_setIfInBounds, List.take_set, h4]
    unfold bs
    rw [List.map_set]
theorem Own.byte {w : World} {g z cp : Nat} {l : List Int} (h : Own w (.slice (some ⟨g, 0, none⟩) z cp) l) (i : Nat) (hi : i < l.length) : w.cell? ⟨g, i, none⟩ = some (.int .u8 l[i]) := by
  have := World.ownsRow.cells h (g := g) rfl i (.int .u8 l[i]) (by rw [bs_get _ _ hi])
  rwa [addr_add, Nat.zero_add] at this
theorem Own.frz {w : World} {g z cp : Nat} {l : List Int} (h : Own w (.slice (some ⟨g, 0, none⟩) z cp) l) (i : Nat) : w.frozen? ⟨g, i, none⟩ = false := by
  obtain ⟨cur, e⟩ := own_block h (g := g) rfl
  exact frozen_of_row w g i _ 5 e
theorem Made.app {w w1 w2 : World} {v v' : Value} {l m : List Int} (h : Made w w1 v l) (hv : Own w2 v' (l ++ m)) (hch : Chg (fun k => some k = v.ownBlock) w1 w2) (hat : v'.ownBlock = v.ownBlock ∨ v'.ownBlock = some w1.heap.size) : Made w w2 v' (l ++ m) := by
  refine ⟨hv, ((Chg.of_below h.2.1 (fun _ => False)).trans hch (fun i e => .inr (h.2.2 i e.symm))).below (Nat.le_refl _) (fun _ h => h.elim), fun k hk => ?_⟩
  rcases hat with e | e
  · exact h.2.2 k (by rw [← e]; exact hk)
  · rw [hk] at e; injection e with e; have := h.2.1.size; omega
theorem Made.then {w w1 w2 : World} {v : Value} {l : List Int} (h : Made w w1 v l) (b : Below w1.heap.size w1 w2) : Made w w2 v l :=
  ⟨h.1.kept (Chg.of_below b (fun _ => False)) (fun _ _ h => h), h.2.1.trans (b.mono h.2.1.size), h.2.2⟩
theorem Made.set {w w1 : World} {g z cp : Nat} {l : List Int} (h : Made w w1 (.slice (some ⟨g, 0, none⟩) z cp) l) (i : Nat) (x : Int) : Made w (w1.setCell ⟨g, i, none⟩ (.int .u8 x)) (.slice (some ⟨g, 0, none⟩) z cp) (l.set i x) := by
  have hg := h.2.2 g rfl
  refine ⟨h.1.set i x, ?_, h.2.2⟩
  exact ((Chg.of_below h.2.1 (fun _ => False)).setCell (.inr hg) _).below (Nat.le_refl _) (fun _ h => h.elim)

/-- A number as so many bytes, the highest first. -/
def fx : Nat → Nat → List Int
  | _, 0 => []
  | n, k + 1 => fx (n / 256) k ++ [((n % 256 : Nat) : Int)]
theorem fx_len (n k : Nat) : (fx n k).length = k := by
  induction k generalizing n with
  | zero => rfl
  | succ k ih => simp [fx, ih]

theorem set_rep (k : Nat) (tl : List Int) (x : Int) : (List.replicate (k + 1) 0 ++ tl).set k x = List.replicate k 0 ++ (x :: tl) := by
  rw [List.replicate_succ', List.append_assoc, List.set_append_right _ _ (by simp)]
  simp

set_option maxRecDepth 100000 in
set_option maxHeartbeats 1000000 in
theorem fixed_any {w : World} (n k : Nat) (hn : n < 18446744073709551616) (hk : k ≤ 8) :
    Calls Tryd.prog 25 #[.int .u64 n, .int .i64 k] w fun e w' => ∃ v, e = .returned v ∧ Made w w' v (fx n k) := by
  have hmk := run_mk k (by omega)
  have M0 : Hid (Made w (w.alloc (.cells (zer k).toArray 5)) (.slice (some ⟨w.heap.size, 0, none⟩) k k) (List.replicate k 0)) := by
    have e : zer k = bs (List.replicate k 0) := by simp [zer, bs]
    have o := own_full (w := w.alloc (.cells (zer k).toArray 5)) (g := w.heap.size) (m := List.replicate k 0) (by simp; omega) (by rw [e]; exact heap_alloc_new _ _)
    rw [List.length_replicate] at o
    exact ⟨o, (Below.refl _ _).alloc (Nat.le_refl _) _, fun g hg => by simp [Value.ownBlock] at hg; omega⟩
  go_enter Tryd.func25, Tryd.ntmps25
  go_wp2_with fail
  clear hmk
  go_loopw [0, 6] (fun s0 s6 wr => ∃ (j nj : Nat) (tl : List Int), j ≤ k ∧ s0 = .int .u64 nj ∧ nj < 18446744073709551616 ∧ s6 = .int .i64 ((k : Int) - 1 - j) ∧ Hid (Made w wr (.slice (some ⟨w.heap.size, 0, none⟩) k k) (List.replicate (k - j) 0 ++ tl) ∧ tl.length = j ∧ fx n k = fx nj (k - j) ++ tl)) (fun _ s6 _ => (intOf s6 + 1).toNat)
  case atStart => exact ⟨0, n, [], Nat.zero_le _, rfl, hn, by go_num, by rw [Nat.sub_zero, List.append_nil]; exact M0.out, rfl, by rw [Nat.sub_zero, List.append_nil]⟩
  case round =>
    obtain ⟨j, nj, tl, hj, rfl, hnj, rfl, hid⟩ := hrel
    by_cases hlt : j < k
    · obtain ⟨i, hi⟩ : ∃ i : Nat, k - j = i + 1 := ⟨k - j - 1, by omega⟩
      have hii : (k : Int) - 1 - j = i := by omega
      obtain ⟨md, htl, hfx⟩ := hid.out
      rw [hi] at md hfx
      have cb : wr.cell? ⟨w.heap.size, i, none⟩ = some (.int .u8 ((List.replicate (i + 1) 0 ++ tl)[i]'(by simp; omega))) := md.1.byte i (by simp; omega)
      have fz := md.1.frz i
      obtain ⟨bv, hbv⟩ : ∃ bv, bv = (List.replicate (i + 1) 0 ++ tl)[i]'(by simp; omega) := ⟨_, rfl⟩
      rw [← hbv] at cb
      have R : Hid (∀ x, x = ((nj % 256 : Nat) : Int) → Made w (wr.setCell ⟨w.heap.size, i, none⟩ (.int .u8 x)) (.slice (some ⟨w.heap.size, 0, none⟩) k k) (List.replicate (k - (j + 1)) 0 ++ (((nj % 256 : Nat) : Int) :: tl)) ∧ (((nj % 256 : Nat) : Int) :: tl).length = j + 1 ∧ fx n k = fx (nj / 256) (k - (j + 1)) ++ (((nj % 256 : Nat) : Int) :: tl)) := fun x hx => by
        have e : k - (j + 1) = i := by omega
        rw [e]
        refine ⟨?_, by simp [htl], ?_⟩
        · have := md.set i x
          rw [set_rep] at this
          rw [← hx]
          exact this
        · rw [hfx, fx, List.append_assoc]; rfl
      rw [hii]
      clear hid md htl hfx hbv
      go_wp2_with fail
      go_roundw
      case rel => exact ⟨j + 1, nj / 256, ((nj % 256 : Nat) : Int) :: tl, by omega, by go_num, by omega, by go_num, R.out _ (by first | rfl | omega | go_num)⟩
      case measure => simp [intOf]
    · have hjk : j = k := by omega
      subst hjk
      obtain ⟨md, htl, hfx⟩ := hid.out
      rw [Nat.sub_self] at md hfx
      have R : Hid (Made w wr (.slice (some ⟨w.heap.size, 0, none⟩) j j) (fx n j)) := by
        rw [hfx]
        exact md
      clear hid md htl hfx
      go_wp2_with fail
      go_ret
      exact ⟨_, rfl, R.out⟩
end Go.Proofs.YtoilnommhkmioaaDoor
