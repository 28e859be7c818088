/-
  The walk of lay.
-/
import Derived.Test.YtkchmoapcmageaaRef
namespace Go.Proofs.Ytkchmoapcmageaa
open Go.RowKit

/-- A step's cells. -/
def stp (kind who : Int) (n : Nat) (m : Int) (b : Value) (z : List Int) (nth : Int) : List Value := [.int .i64 kind, .int .i64 who, .int .u64 n, .int .i64 m, b] ++ bs (z ++ [nth])
/-- What it lays down. -/
def lays (kind : Int) (n : Nat) (m z : List Int) (nth : Int) : List Int :=
  if kind = 1 then [(n : Int) % 256] else if kind = 2 then word ((n : Int) % 4294967296) else if kind = 3 then long n else if kind = 4 then numB n else if kind = 5 then m else if kind = 6 then numB m.length ++ m else if kind = 7 then z else if kind = 8 then z ++ [nth] else []
theorem lays_len (kind : Int) (n : Nat) (m z : List Int) (nth : Int) (hn : n < 18446744073709551616) (hz : z.length = 32) (hm : m.length < 18446744073709551616) : (lays kind n m z nth).length ≤ m.length + 33 := by
  have h1 := numB_ten hn
  have h2 : m.length < 18446744073709551616 → (numB m.length).length ≤ 10 := fun h => numB_ten h
  unfold lays
  split; · simp
  split; · simp [word]
  split; · simp [long, word]
  split; · omega
  split; · omega
  split
  · rw [List.length_append]
    have := h2 hm; omega
  split; · omega
  split; · simp [hz]
  · simp

theorem stp_cell (w : World) (kind who : Int) (n : Nat) (m : Int) (b : Value) (z : List Int) (nth : Int) (t : TypeId) (hz : z.length = 32) :
    (w.alloc (.cells (stp kind who n m b z nth).toArray t)).cell? ⟨w.heap.size, 0, none⟩ = some (.int .i64 kind) ∧ (w.alloc (.cells (stp kind who n m b z nth).toArray t)).cell? ⟨w.heap.size, 1, none⟩ = some (.int .i64 who) ∧
    (w.alloc (.cells (stp kind who n m b z nth).toArray t)).cell? ⟨w.heap.size, 2, none⟩ = some (.int .u64 n) ∧ (w.alloc (.cells (stp kind who n m b z nth).toArray t)).cell? ⟨w.heap.size, 4, none⟩ = some b ∧
    (w.alloc (.cells (stp kind who n m b z nth).toArray t)).cell? ⟨w.heap.size, 37, none⟩ = some (.int .u8 nth) ∧
    (w.alloc (.cells (stp kind who n m b z nth).toArray t)).rangeAt w.heap.size 5 (bs z) ∧ (w.alloc (.cells (stp kind who n m b z nth).toArray t)).rangeAt w.heap.size 5 (bs (z ++ [nth])) := by
  have hc := fun j => cell_of_row (w.alloc (.cells (stp kind who n m b z nth).toArray t)) w.heap.size j _ t _ (heap_alloc_new _ _)
  refine ⟨by rw [hc]; rfl, by rw [hc]; rfl, by rw [hc]; rfl, by rw [hc]; rfl, ?_, ?_, ?_⟩
  · rw [hc]; simp [stp, bs, hz]
  · intro j u hu
    rw [hc]
    have hj := (List.getElem?_eq_some_iff.1 hu).1
    have e : 5 + j = j + 1 + 1 + 1 + 1 + 1 := by omega
    simp only [stp, bs_app, e]
    simp [List.getElem?_append_left hj, hu]
  · intro j u hu
    rw [hc]
    have e : 5 + j = j + 1 + 1 + 1 + 1 + 1 := by omega
    simp only [stp, e]
    simp [hu]

set_option maxRecDepth 100000 in
set_option maxHeartbeats 2000000 in
theorem lay_any {w : World} {p o : Nat} {cs : Array Value} {t : TypeId} {v b : Value} {l m : List Int} (h : WS w p o cs t v l) (hs : Src w b m) (hsp : ∀ k, b.ownBlock = some k → k ≠ p ∧ some k ≠ v.ownBlock)
    (kind who : Int) (n : Nat) (mm : Int) (z : List Int) (nth : Int) (hz : z.length = 32) (hn : n < 18446744073709551616) (hl : l.length + m.length + 33 ≤ 140737488355328) :
    Calls Try.prog 10 #[.pointer (some ⟨p, o, none⟩), .agg (stp kind who n mm b z nth).toArray] w fun e w' => e = .returned (.tuple #[]) ∧ PW w w' p o cs t v (l ++ lays kind n m z nth) := by
  have H : Hid _ := h
  have HS : Hid _ := hs
  have HP : Hid _ := hsp
  obtain ⟨hc0, _, hc2, hc4, hc37, hr1, hr2⟩ := stp_cell w kind who n mm b z nth 35 hz
  obtain ⟨a0, c0, hs2⟩ := hs.form
  subst hs2
  clear h hs hsp
  have S1 : Hid _ := Src.kept HS.out ((Chg.refl (fun _ => False) w).alloc (.cells (stp kind who n mm (.slice a0 m.length c0) z nth).toArray 35)) (fun _ _ h => h)
  by_cases h1 : kind = 1
  · subst h1
    go_enter Try.func10, Try.ntmps10
    go_wp2_with fail
    refine (wByte_any (H.out.alloc _) _ (by omega)).mono ?_
    rintro e w2 ⟨rfl, P2⟩
    have R : Hid _ := P2.alloc
    clear P2
    go_wp2_with fail
    exact bodyPost_end (results_none rfl _ _ _) rfl ⟨rfl, by simp [lays]; exact R.out⟩
  by_cases h2 : kind = 2
  · subst h2
    go_enter Try.func10, Try.ntmps10
    go_wp2_with fail
    refine (wWord_any (H.out.alloc _) _ (by omega) (by omega) (by omega)).mono ?_
    rintro e w2 ⟨rfl, P2⟩
    have R : Hid _ := P2.alloc
    clear P2
    go_wp2_with fail
    exact bodyPost_end (results_none rfl _ _ _) rfl ⟨rfl, by simp [lays]; exact R.out⟩
  by_cases h3 : kind = 3
  · subst h3
    go_enter Try.func10, Try.ntmps10
    go_wp2_with fail
    refine (wLong_any (H.out.alloc _) n (by omega) (by omega) (by omega)).mono ?_
    rintro e w2 ⟨rfl, P2⟩
    have R : Hid _ := P2.alloc
    clear P2
    go_wp2_with fail
    exact bodyPost_end (results_none rfl _ _ _) rfl ⟨rfl, by simp [lays]; exact R.out⟩
  by_cases h4 : kind = 4
  · subst h4
    go_enter Try.func10, Try.ntmps10
    go_wp2_with fail
    refine (wUint_any (H.out.alloc _) n hn (by omega)).mono ?_
    rintro e w2 ⟨rfl, P2⟩
    have R : Hid _ := P2.alloc
    clear P2
    go_wp2_with fail
    exact bodyPost_end (results_none rfl _ _ _) rfl ⟨rfl, by simp [lays]; exact R.out⟩
  by_cases h5 : kind = 5
  · subst h5
    go_enter Try.func10, Try.ntmps10
    go_wp2_with fail
    refine (wRaw_any (H.out.alloc _) S1.out (by omega)).mono ?_
    rintro e w2 ⟨rfl, P2⟩
    have R : Hid _ := P2.alloc
    clear P2
    go_wp2_with fail
    exact bodyPost_end (results_none rfl _ _ _) rfl ⟨rfl, by simp [lays]; exact R.out⟩
  by_cases h6 : kind = 6
  · subst h6
    go_enter Try.func10, Try.ntmps10
    go_wp2_with fail
    refine (wText_any (H.out.alloc _) S1.out HP.out (by omega)).mono ?_
    rintro e w2 ⟨rfl, P2⟩
    have R : Hid _ := P2.alloc
    clear P2
    go_wp2_with fail
    exact bodyPost_end (results_none rfl _ _ _) rfl ⟨rfl, by simp [lays]; exact R.out⟩
  by_cases h7 : kind = 7
  · subst h7
    go_enter Try.func10, Try.ntmps10
    go_wp2_with (refine wpList_load_mid rfl 31 (.tmp 48) rfl w.heap.size 5 rfl (bs z) _ hr1 Try.underlying31 rfl (by rw [Try.sz31, bs_len, hz]) ?_)
    refine (wSum_any (H.out.alloc _) z hz (by omega)).mono ?_
    rintro e w2 ⟨rfl, P2⟩
    have R : Hid _ := P2.alloc
    clear P2
    go_wp2_with fail
    exact bodyPost_end (results_none rfl _ _ _) rfl ⟨rfl, by simp [lays]; exact R.out⟩
  by_cases h8 : kind = 8
  · subst h8
    go_enter Try.func10, Try.ntmps10
    go_wp2_with (refine wpList_load_mid rfl 33 (.tmp 54) rfl w.heap.size 5 rfl (bs (z ++ [nth])) _ hr2 Try.underlying33 rfl (by rw [Try.sz33, bs_len, List.length_append, hz]; rfl) ?_)
    refine (wAddr_any (H.out.alloc _) z nth hz (by omega)).mono ?_
    rintro e w2 ⟨rfl, P2⟩
    have R : Hid _ := P2.alloc
    clear P2
    go_wp2_with fail
    exact bodyPost_end (results_none rfl _ _ _) rfl ⟨rfl, by simp [lays]; exact R.out⟩
  have HL : Hid _ := (show lays kind n m z nth = [] by simp [lays, h1, h2, h3, h4, h5, h6, h7, h8])
  have hin : cs.setIfInBounds o v = cs := by
    apply Array.ext_getElem?
    intro i
    rw [Array.getElem?_setIfInBounds]
    have := H.out.at_
    have := (Array.getElem?_eq_some_iff.1 H.out.at_).1
    split <;> simp_all
  have HI : Hid _ := hin
  clear hin
  go_enter Try.func10, Try.ntmps10
  go_wp2_with fail
  refine bodyPost_end (results_none rfl _ _ _) rfl ⟨rfl, v, ?_, (Chg.refl _ _).alloc _, .inl rfl⟩
  rw [HL.out, List.append_nil, HI.out]
  exact H.out.alloc _

end Go.Proofs.Ytkchmoapcmageaa
