/-
  The walks of audit.Clean, of the reference's Clean and of AuditCleans.
-/
import Derived.Test.YtbdopdmjjfceoaaRows
import Derived.WalkKit
import Derived.WalkSpells
import Derived.WalkLawsBesides
import Derived.BigQuiet
import Derived.Deep.QuietTactic
import Derived.Deep.RegionHeld3
import Derived.Deep.MidRow
namespace Go.Proofs.Ytbdopdmjjfceoaa
open Go.RowKit

/-- A report's cells. -/
def rep (s a b c d k : Int) (A : Option Addr) (n m : Nat) : List Value :=
  [.int .i64 s, .int .i64 a, .int .i64 b, .int .i64 c, .int .i64 d, .int .u64 k, .slice A n m]

/-- 'No finding, and Slots is 1 or 2'. -/
def isClean (s : Int) (n : Nat) : Bool := (n == 0) && (s == 1 || s == 2)

set_option maxRecDepth 100000 in
theorem clean_any (s a b c d k : Int) (A : Option Addr) (n m : Nat) (w : World) :
    Calls Try.prog 4 #[.agg (rep s a b c d k A n m).toArray] w fun e w' => e = .returned (.bool (isClean s n)) ∧ Below w.heap.size w w' := by
  unfold rep
  go_enter Try.func4, Try.ntmps4
  go_wp2
  · go_ret
    subst_vars
    exact ⟨rfl, (Below.refl _ _).alloc (Nat.le_refl _) _⟩
  · go_ret
    subst_vars
    exact ⟨rfl, (Below.refl _ _).alloc (Nat.le_refl _) _⟩
  · rename_i h
    go_ret
    exact ⟨by simp [isClean, h], (Below.refl _ _).alloc (Nat.le_refl _) _⟩

set_option maxRecDepth 100000 in
theorem refClean_any (s a b c d k : Int) (A : Option Addr) (n m : Nat) (w : World) :
    Calls Try.prog 5 #[.agg (rep s a b c d k A n m).toArray] w fun e w' => e = .returned (.bool (isClean s n)) ∧ Below w.heap.size w w' := by
  unfold rep
  go_enter Try.func5, Try.ntmps5
  go_wp2
  · go_ret
    subst_vars
    exact ⟨rfl, (Below.refl _ _).alloc (Nat.le_refl _) _⟩
  · go_ret
    subst_vars
    exact ⟨rfl, (Below.refl _ _).alloc (Nat.le_refl _) _⟩
  · rename_i h
    go_ret
    exact ⟨by simp [isClean, h], (Below.refl _ _).alloc (Nat.le_refl _) _⟩

/-- Below the old size nothing has turned, and the box on top of it is there still. -/
def Bel (w w' : World) : Prop := Below w.heap.size w w' ∧ w.heap.size < w'.heap.size

theorem keep_drew {w w1 : World} {cs : List Value} (h : w1.rangeAt w.heap.size 0 cs ∧ Bel w w1) : w1.drew.rangeAt w.heap.size 0 cs ∧ Bel w w1.drew :=
  ⟨(World.rangeAt_drew _ _ _ _).2 h.1, h.2.1.drew, h.2.2⟩
theorem keep_call {w w1 w2 : World} {cs : List Value} (h : w1.rangeAt w.heap.size 0 cs ∧ Bel w w1) (hb : Below w1.heap.size w1 w2) : w2.rangeAt w.heap.size 0 cs ∧ Bel w w2 :=
  ⟨fun j v hv => (hb.cell (p := ⟨w.heap.size, 0 + j, none⟩) h.2.2).trans (h.1 j v hv), h.2.1.trans (hb.mono (Nat.le_of_lt h.2.2)), Nat.lt_of_lt_of_le h.2.2 hb.size⟩
theorem keep_new (w : World) (cs : List Value) (t : TypeId) : (w.alloc (.cells cs.toArray t)).rangeAt w.heap.size 0 cs ∧ Bel w (w.alloc (.cells cs.toArray t)) :=
  ⟨fun j v hv => by rw [cell_of_row _ _ _ cs.toArray t _ (heap_alloc_new _ _)]; simpa using hv, (Below.refl _ _).alloc (Nat.le_refl _) _, by simp⟩

set_option maxHeartbeats 1000000 in
set_option maxRecDepth 100000 in
theorem law_any (s a b c d k : Int) (A : Option Addr) (n m : Nat) (w : World) :
    Calls Try.prog 3 #[.agg (rep s a b c d k A n m).toArray] w fun e w' => e = .returned (.bool true) ∧ Below w.heap.size w w' := by
  have hi : (Try.prog.info? 25).map (·.size) = some (rep s a b c d k A n m).length := by kernel_rfl
  have h4 := clean_any s a b c d k A n m
  have h5 := refClean_any s a b c d k A n m
  have hn := keep_new w (rep s a b c d k A n m) 25
  have H4 : Hid _ := h4
  have H5 : Hid _ := h5
  have HI : Hid _ := hi
  have HN : Hid _ := hn
  clear h4 h5 hi hn
  show Calls Try.prog 3 #[.agg #[.int .i64 s, .int .i64 a, .int .i64 b, .int .i64 c, .int .i64 d, .int .u64 k, .slice A n m]] w _
  go_enter Try.func3, Try.ntmps3
  go_wp2_with fail
  refine wp_region_held_drew (S := fun w' => w'.rangeAt w.heap.size 0 (rep s a b c d k A n m) ∧ Bel w w') (by kernel_rfl) (keep_drew HN.out) (fun hH => ?_)
  refine wpAnyH_take (i := 0) (v := .agg (rep s a b c d k A n m).toArray) rfl (by kernel_rfl) (by kernel_rfl) (by kernel_rfl) (fun _ _ _ h => h) (yieldsIf_load_mid (by rfl) _ _ rfl w.heap.size 0 rfl _ _ (fun w h => h.1) Try.underlying25 rfl HI.out) hH ?_
  refine wpAnyH_take (i := 2) (v := .agg (rep s a b c d k A n m).toArray) rfl (by kernel_rfl) (by kernel_rfl) (by kernel_rfl) (fun _ _ _ h => h) (yieldsIf_load_mid (by rfl) _ _ rfl w.heap.size 0 rfl _ _ (fun w h => h.1) Try.underlying25 rfl HI.out) hH ?_
  refine wpAnyH_ready (rs := [1]) (by kernel_rfl) (by simp) ?_
  refine AllReadyH.cons rfl (fun K hK => ?_) AllReadyH.nil
  go_simp
  refine (H4.out _).mono ?_
  rintro e w1 ⟨rfl, hb1⟩
  refine hK.out _ _ (keep_call hH hb1) (fun hH1 => ?_)
  clear hK K hH
  refine wpAnyH_ready (rs := [3]) (by kernel_rfl) (by simp) ?_
  refine AllReadyH.cons rfl (fun K hK => ?_) AllReadyH.nil
  go_simp
  refine (H5.out _).mono ?_
  rintro e w2 ⟨rfl, hb2⟩
  refine hK.out _ _ (keep_call hH1 hb2) (fun hH2 => ?_)
  clear hK K hH1
  refine wpAnyH_ready (rs := [4]) (by kernel_rfl) (by simp) ?_
  refine AllReadyH.cons rfl (fun K hK => ?_) AllReadyH.nil
  go_simp
  refine hK.out _ _ hH2 (fun _ => ?_)
  clear hK K
  refine wpAnyH_ready (rs := [5]) (by kernel_rfl) (by simp) ?_
  refine AllReadyH.cons rfl (fun K hK => ?_) AllReadyH.nil
  go_simp
  refine hK.out _ _ hH2 (fun _ => ?_)
  clear hK K
  refine wpAnyH_take (i := 6) (v := .pointer (some ⟨w.heap.size, 6, none⟩)) rfl (by kernel_rfl) (by kernel_rfl) (by kernel_rfl) (fun _ _ _ h => h) (Or.inl ⟨by rfl, fun w' _ => by go_simp⟩) hH2 ?_
  refine wpAnyH_take (i := 7) (v := .slice A n m) rfl (by kernel_rfl) (by kernel_rfl) (by kernel_rfl) (fun _ _ _ h => h) (Or.inl ⟨by rfl, fun w' hw' => by have q1 : w'.cell? ⟨w.heap.size, 6, none⟩ = some (.slice A n m) := hw'.1 6 _ rfl; go_simp⟩) hH2 ?_
  refine wpAnyH_take (i := 8) (v := .int .i64 n) rfl (by kernel_rfl) (by kernel_rfl) (by kernel_rfl) (fun _ _ _ h => h) (Or.inl ⟨by rfl, fun w' _ => by go_simp⟩) hH2 ?_
  refine wpAnyH_take (i := 9) (v := .int .i64 n) rfl (by kernel_rfl) (by kernel_rfl) (by kernel_rfl) (fun _ _ _ h => h) (Or.inl ⟨by rfl, fun w' _ => by go_simp⟩) hH2 ?_
  refine wpAnyH_take (i := 10) (v := .bool true) rfl (by kernel_rfl) (by kernel_rfl) (by kernel_rfl) (fun _ _ _ h => h) (Or.inl ⟨by rfl, fun w' _ => by go_simp⟩) hH2 ?_
  refine wpAnyH_take (i := 11) (v := .bool true) rfl (by kernel_rfl) (by kernel_rfl) (by kernel_rfl) (fun _ _ _ h => h) (Or.inl ⟨by rfl, fun w' _ => by go_simp⟩) hH2 ?_
  refine wpAnyH_take (i := 12) (v := .bool true) rfl (by kernel_rfl) (by kernel_rfl) (by kernel_rfl) (fun _ _ _ h => h) (Or.inl ⟨by rfl, fun w' _ => by go_simp⟩) hH2 ?_
  refine wpAnyH_done (by kernel_rfl) ?_ _
  go_wp2
  go_ret
  exact ⟨rfl, hH2.2.1⟩
end Go.Proofs.Ytbdopdmjjfceoaa
