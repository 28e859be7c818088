/-
  The walks of a Writer's calls: longs, numbers, texts, sums, addresses.
-/
import Derived.Test.YtoilnommhkmioaaDoorWriter
import Derived.Deep.MidRow
namespace Go.Proofs.YtoilnommhkmioaaDoor
open Go.RowKit

/-- A long's bytes. -/
def long (n : Int) : List Int := word (n / 4294967296) ++ word (n % 4294967296)

set_option maxRecDepth 100000 in
set_option maxHeartbeats 1000000 in
theorem wLong_any {w : World} {p o : Nat} {cs : Array Value} {t : TypeId} {v : Value} {l : List Int} (h : WS w p o cs t v l) (n : Int) (h0 : 0 ≤ n) (h1 : n < 18446744073709551616) (hl : l.length + 8 ≤ 140737488355328) :
    Calls Tryd.prog 24 #[.pointer (some ⟨p, o, none⟩), .int .u64 n] w fun e w' => e = .returned (.tuple #[]) ∧ PW w w' p o cs t v (l ++ long n) := by
  have H : Hid _ := h
  clear h
  go_enter Tryd.func24, Tryd.ntmps24
  go_wp2_with fail
  refine (wWord_any H.out _ (by omega) (by omega) (by omega)).mono ?_
  rintro e w1 ⟨rfl, v1, s1, c1, a1⟩
  have H1 : Hid _ := s1
  have C1 : Hid _ := c1
  have A1 : Hid _ := a1
  clear s1 c1 a1
  go_wp2_with fail
  refine (wWord_any H1.out _ (by omega) (by omega) (by simp [word]; omega)).mono ?_
  rintro e w2 ⟨rfl, P2⟩
  have R : Hid _ := PW.then H1.out C1.out A1.out P2
  clear P2
  go_wp2_with fail
  refine bodyPost_end (results_none rfl _ _ _) rfl ⟨rfl, ?_⟩
  have R2 := R.out
  rwa [List.append_assoc] at R2

theorem src_blk (w : World) (l : List Int) (t : TypeId) (n c : Nat) (h : l.length = n) : Src (w.alloc (.cells (bs l).toArray t)) (.slice (some ⟨w.heap.size, 0, none⟩) n c) l :=
  .inr ⟨_, _, by rw [h], fun j u hu => ⟨rfl, by
    rw [cell_of_row _ _ _ (bs l).toArray t _ (heap_alloc_new _ _)]
    simpa using hu⟩⟩
theorem WS.alloc {w : World} {p o : Nat} {cs : Array Value} {t : TypeId} {v : Value} {l : List Int} (h : WS w p o cs t v l) (ob : Obj) : WS (w.alloc ob) p o cs t v l :=
  ⟨(Below.heap_alloc w ob p h.lt).trans h.blk, h.at_, h.own.alloc ob, h.ne⟩
theorem PW.alloc {w w' : World} {p o : Nat} {cs : Array Value} {t : TypeId} {v : Value} {l : List Int} {ob : Obj} (h : PW (w.alloc ob) w' p o cs t v l) : PW w w' p o cs t v l := by
  obtain ⟨v1, s1, c1, a1⟩ := h
  exact ⟨v1, s1, ((Chg.refl _ _).alloc ob).trans c1 (fun i e => .inl e), a1.imp id (fun ⟨g, e, hg⟩ => ⟨g, e, by simp at hg; omega⟩)⟩

set_option maxRecDepth 100000 in
set_option maxHeartbeats 1000000 in
theorem wSum_any {w : World} {p o : Nat} {cs : Array Value} {t : TypeId} {v : Value} {l : List Int} (h : WS w p o cs t v l) (z : List Int) (hz : z.length = 32) (hl : l.length + 32 ≤ 140737488355328) :
    Calls Tryd.prog 20 #[.pointer (some ⟨p, o, none⟩), .agg (bs z).toArray] w fun e w' => e = .returned (.tuple #[]) ∧ PW w w' p o cs t v (l ++ z) := by
  have H : Hid _ := h
  clear h
  go_enter Tryd.func20, Tryd.ntmps20
  go_wp2_with fail
  refine (wRaw_any (H.out.alloc _) (src_blk _ z _ 32 32 hz) (by omega)).mono ?_
  rintro e w2 ⟨rfl, P2⟩
  have R : Hid _ := P2.alloc
  clear P2
  go_wp2_with fail
  exact bodyPost_end (results_none rfl _ _ _) rfl ⟨rfl, R.out⟩

theorem Tryd.sz25 : (Tryd.prog.info? 25).map (·.size) = some 32 := by kernel_rfl
/-- A slice that was made by a call. -/
def Made (w w' : World) (v : Value) (l : List Int) : Prop := Own w' v l ∧ Below w.heap.size w w' ∧ ∀ k, v.ownBlock = some k → w.heap.size ≤ k

theorem eql_nil1 (w : World) : (binOp .eql 22 (.slice none 0 0) (.slice none 0 0)).run Tryd.prog w = .ok (.bool true) w := by
  have e : Op.maxDepth = 9999 + 1 := rfl
  simp only [binOp, Op.equal, e]
  unfold Op.equalIn
  simp [run_underlying Tryd.underlying22]
theorem eql_nil2 (w : World) (a : Addr) (l c : Nat) : (binOp .eql 22 (.slice (some a) l c) (.slice none 0 0)).run Tryd.prog w = .ok (.bool false) w := by
  have e : Op.maxDepth = 9999 + 1 := rfl
  simp only [binOp, Op.equal, e]
  unfold Op.equalIn
  simp [run_underlying Tryd.underlying22]
theorem own_empty (w : World) : Own (w.alloc (.cells #[] 5)) (.slice (some ⟨w.heap.size, 0, none⟩) 0 0) [] := World.ownsRow_made w #[] 0 (Nat.zero_le _) (by unfold maxLen; omega) rfl

set_option maxRecDepth 100000 in
set_option maxHeartbeats 1000000 in
theorem clone_any {w : World} {s : Value} {m : List Int} (hs : Src w s m) (hl : m.length ≤ 140737488355328) :
    Calls Tryd.prog 28 #[s] w fun e w' => ∃ v, e = .returned v ∧ Made w w' v m := by
  have he1 := eql_nil1
  have he2 := eql_nil2
  rcases hs with ⟨rfl, rfl⟩ | ⟨a, c, rfl, hc⟩
  · go_enter Tryd.func28, Tryd.ntmps28
    go_wp2_with fail
    go_ret
    exact ⟨_, rfl, Own.nil w, Below.refl _ _, fun k hk => by simp [Value.ownBlock] at hk⟩
  · have HS : Hid _ := (show Src w (.slice (some a) m.length c) m from .inr ⟨a, c, rfl, hc⟩)
    clear hc
    go_enter Tryd.func28, Tryd.ntmps28
    go_wp2_with (refine wpList_app rfl (.tmp 5) (.tmp 6) rfl (v := .slice (some ⟨w.heap.size, 0, none⟩) 0 0) rfl rfl (own_empty w) (Src.kept HS.out ((Chg.refl (fun _ => False) _).alloc _) (fun _ _ h => h)) (by simpa using hl) ?_; intro v' w1 hv hch hat)
    go_ret
    refine ⟨_, rfl, hv, ?_, fun k hk => ?_⟩
    · exact (((Chg.refl (fun _ => False) _).alloc _).trans hch (fun i e => .inr (by simp [Value.ownBlock] at e; omega))).below (Nat.le_refl _) (fun _ h => h.elim)
    · have hk : v'.ownBlock = some k := hk
      rcases hat with e | e <;> rw [hk] at e <;> simp [Value.ownBlock] at e <;> omega

set_option maxRecDepth 100000 in
set_option maxHeartbeats 1000000 in
theorem wBytes_any {w : World} {p o : Nat} {cs : Array Value} {t : TypeId} {v : Value} {l : List Int} (h : WS w p o cs t v l) (hl : l.length ≤ 140737488355328) :
    Calls Tryd.prog 21 #[.pointer (some ⟨p, o, none⟩)] w fun e w' => ∃ u, e = .returned u ∧ Made w w' u l := by
  have hc := h.cell
  have H : Hid _ := h.own.src
  clear h
  go_enter Tryd.func21, Tryd.ntmps21
  go_wp2_with fail
  refine (clone_any H.out hl).mono ?_
  rintro e w1 ⟨u, rfl, R⟩
  have R1 : Hid _ := R
  clear R
  go_wp2_with fail
  go_ret
  exact ⟨u, rfl, R1.out⟩

end Go.Proofs.YtoilnommhkmioaaDoor
