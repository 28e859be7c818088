/-
  DiskLoads, whole: the first half.
-/
import Derived.Test.YtibcpokfgogopabLoadB
import Derived.Test.YtibcpokfgogopabLoadC
import Derived.Test.YtibcpokfgogopabLoadE
namespace Go.Proofs.Ytibcpokfgogopab
open Go.RowKit Go.RwLone

theorem Own.parts {w : World} {v : Value} {l : List Int} (h : Own w v l) (h0 : 0 < l.length) : ∃ g cap cur, v = .slice (some ⟨g, 0, none⟩) l.length cap ∧ l.length ≤ cap ∧ cap ≤ 9223372036854775807 ∧ Rw w g cur 5 ∧ cur.size = cap ∧ ∀ (j : Nat) (x : Value), (bs l)[j]? = some x → cur[j]? = some x := by
  rcases h.2 with ⟨_, h1⟩ | ⟨g, cap, cur, hv, _, hg, h1, h2, h3, h4⟩
  · omega
  · refine ⟨g, cap, cur, hv, h1, by unfold maxLen at h2; omega, ⟨hg⟩, by rw [h3, Nat.mul_one], fun j x hx => ?_⟩
    rw [← h4, List.getElem?_take] at hx
    split at hx
    · simpa using hx
    · cases hx
theorem Own.front {w : World} {a : Option Addr} {n c : Nat} {l m : List Int} (h : Own w (.slice a n c) (l ++ m)) (c' : Nat) (hp : 0 < (l ++ m).length) : Src w (.slice a l.length c') l := by
  rcases h.2 with ⟨_, h0⟩ | ⟨g, cap, cur, e, hb, hgg, rest⟩
  · omega
  · injection e with e1 e2 e3
    subst e1
    have h2 := Own.src h
    rcases h2 with ⟨e, _⟩ | ⟨a2, c2, e, hc⟩
    · simp at e
    · injection e with e1 e2 e3
      injection e1 with e1
      refine .inr ⟨a2, c', by rw [e1], fun j u hu => hc j u ?_⟩
      rw [bs_app, List.getElem?_append_left (List.getElem?_eq_some_iff.1 hu).1]
      exact hu
theorem src_new (w : World) (l : List Int) (c : Nat) : Src (w.alloc (.cells (bs l).toArray 5)) (.slice (some ⟨w.heap.size, 0, none⟩) l.length c) l :=
  .inr ⟨_, _, rfl, fun j u hu => ⟨rfl, by
    rw [cell_of_row _ _ _ (bs l).toArray 5 _ (heap_alloc_new _ _)]
    simpa using hu⟩⟩
theorem Own.alloc {w : World} {v : Value} {l : List Int} (h : Own w v l) (o : Obj) : Own (w.alloc o) v l := h.kept ((Chg.refl (fun _ => False) _).alloc _) (fun _ _ h => h)

/-- The copy with a byte more, in a row of its own. -/
structure FU (w wr : World) (T : List Int) (g cap : Nat) (cur : Array Value) : Prop where
  lo : w.heap.size ≤ g
  cap1 : T.length < cap
  cap2 : cap ≤ 9223372036854775807
  row : Rw wr g cur 5
  sz : cur.size = cap
  at_ : ∀ (j : Nat) (x : Value), (bs (T ++ [90]))[j]? = some x → cur[j]? = some x
  bel : Below w.heap.size w wr

theorem FU.keep {w wr w' : World} {T : List Int} {g cap : Nat} {cur : Array Value} (h : FU w wr T g cap cur) (b : Below wr.heap.size wr w') : FU w w' T g cap cur :=
  ⟨h.lo, h.cap1, h.cap2, Rw.keep h.row b, h.sz, h.at_, h.bel.trans (b.mono h.bel.size)⟩
theorem FU.src {w wr : World} {T : List Int} {g cap : Nat} {cur : Array Value} (h : FU w wr T g cap cur) (c : Nat) : Src wr (.slice (some ⟨g, 0, none⟩) T.length c) T :=
  .inr ⟨_, _, rfl, fun j u hu => ⟨rfl, by
    rw [Nat.zero_add, Rw.cell h.row j]
    refine h.at_ j u ?_
    rw [bs_app, List.getElem?_append_left (List.getElem?_eq_some_iff.1 hu).1]
    exact hu⟩⟩
theorem FU.last {w wr : World} {T : List Int} {g cap : Nat} {cur : Array Value} (h : FU w wr T g cap cur) : wr.cell? ⟨g, T.length, none⟩ = some (.int .u8 90) := by
  rw [Rw.cell h.row]
  refine h.at_ _ _ ?_
  rw [bs_get _ _ (by simp)]
  simp
theorem LD.keep {w w' : World} {p m c S z : Nat} {rd : Int} {gs : Nat → Nat} {D : DataW Unit} {T : List Int} (h : LD w p m c rd S z gs D T) (b : Below w.heap.size w w') : LD w' p m c rd S z gs D T :=
  ⟨Rw.keep h.row b, ⟨h.mp.own.kept (row := none) ⟨b.os, b.tape, b.output, b.size, fun i hi _ => b.block i hi⟩ (by simp), h.mp.at_, h.mp.has⟩, by rw [b.block _ (Array.getElem?_eq_some_iff.1 h.mc).1]; exact h.mc, fun i hi => Rw.keep (h.blk i hi) b, h.pm, h.pc⟩
theorem LD.drewN {w : World} {p m c S z : Nat} {rd : Int} {gs : Nat → Nat} {D : DataW Unit} {T : List Int} (h : LD w p m c rd S z gs D T) (n : Nat) : LD (w.drewN n) p m c rd S z gs D T :=
  h.keep ⟨rfl, rfl, rfl, Nat.le_refl _, fun _ _ => rfl⟩
theorem LD.chg {w w' : World} {p m c S z g : Nat} {rd : Int} {gs : Nat → Nat} {D : DataW Unit} {T : List Int} (h : LD w p m c rd S z gs D T) (k : Chg (fun i => i = g) w w') (h1 : p ≠ g) (h2 : m ≠ g) (h3 : c ≠ g) (h4 : ∀ i, i < S → gs i ≠ g) : LD w' p m c rd S z gs D T :=
  ⟨Rw.chg1 h.row k h1, Mp.chg h.mp k h2, k.heap_some h.mc h3, fun i hi => Rw.chg1 (h.blk i hi) k (h4 i hi), h.pm, h.pc⟩

set_option maxRecDepth 100000 in
set_option maxHeartbeats 2000000 in
theorem loads_no {w : World} {a : Option Addr} {N cap : Nat} {z : Int} {T : List Int} (hs : Src w (.slice a N cap) T) (hN : T.length = N) (hbig : N + 1 ≤ 140737488355328) (h : ¬ ∃ S zn, okLoad N z S zn) :
    Calls Try.prog 3 #[.slice a N cap, .int .i64 z] w fun e w' => e = .returned (.bool true) ∧ Below w.heap.size w w' := by
  have HS : Hid _ := hs
  have HN : Hid _ := hN
  have L1 : Hid (∀ w c, Calls Try.prog 9 #[.slice c N (0 : Nat), .int .i64 z] w fun e w' => e = .returned (.tuple #[.pointer none, .int .i64 30]) ∧ w = w') := fun w c => load_no c N 0 z (by omega) h
  have L2 : Hid (∀ w c k, Calls Try.prog 9 #[.slice c N k, .int .i64 z] w fun e w' => e = .returned (.tuple #[.pointer none, .int .i64 30]) ∧ w = w') := fun w c k => load_no c N k z (by omega) h
  have X2 : Hid (∀ w, Calls Try.prog 10 #[.slice a N cap, .int .i64 z] w fun e w' => e = .returned (.tuple #[.pointer none, .int .i64 30]) ∧ w = w') := fun w => xload_no a N cap z (by omega) h
  clear h hs hN L1
  go_enter Try.func3, Try.ntmps3
  go_wp2_with (first | (refine wpList_app rfl (.const (.slice none 0 0)) (.tmp 14) rfl (v := .slice none 0 0) rfl rfl (Own.nil _) HS.out (show ([] : List Int).length + T.length ≤ 140737488355328 from (by have h5 := HN.out; rw [List.length_nil]; omega)) ?_; intro v1 w1 hv1 hch1 hat1; have V1 : Hid _ := hv1; have B1 : Hid (Below w.heap.size w w1) := Chg.below hch1 (Nat.le_refl _) (fun k e => by simp [Value.ownBlock] at e); have A1 : Hid (∀ k, v1.ownBlock = some k → w.heap.size ≤ k) := fun k hk => (by rcases hat1 with e | e <;> rw [hk] at e <;> simp [Value.ownBlock] at e; omega); clear hv1 hch1 hat1) | (refine wpList_app rfl (.tmp 15) (.tmp 16) rfl (v := v1) rfl rfl (Own.alloc V1.out _) (src_new _ [90] 1) (show ([] ++ T).length + [90].length ≤ 140737488355328 from (by have h5 := HN.out; simp; omega)) ?_; intro v2 w2 hv2 hch2 hat2; obtain ⟨g, cap2, cur, ev, q1, q2, q3, q4, q5⟩ := Own.parts hv2 (by simp); have F0 : Hid (FU w w2 T g cap2 cur) := ⟨(by rcases hat2 with e | e; exact A1.out g (by rw [← e, ev]; rfl); (rw [ev] at e; simp [Value.ownBlock] at e; have := B1.out.size; omega)), (by simp at q1; omega), q2, q3, q4, q5, (Below.trans (Below.alloc B1.out B1.out.size _) (Chg.below hch2 (Nat.le_trans B1.out.size (by simp)) (fun k e => A1.out k e.symm)))⟩; have eln : ([] ++ T ++ [90]).length = N + 1 := (by have h5 := HN.out; simp; omega); rw [eln] at ev; have hcap1 : N < cap2 := (by have := F0.out.cap1; rw [HN.out] at this; exact this); have hcap2 : cap2 ≤ 9223372036854775807 := q2; subst ev; clear hv2 hch2 hat2 q1 q2 q3 q4 q5 eln))
  refine Calls.mono (L2.out _ _ _) ?_
  rintro e w9 ⟨rfl, h9⟩
  subst h9
  go_wp2_with fail
  refine Calls.mono (X2.out _) ?_
  rintro e w9 ⟨rfl, h9⟩
  subst h9
  have hlast := FU.last F0.out
  rw [HN.out] at hlast
  go_wp2_with fail
  have hl2 : ∀ n, (w2.drewN n).cell? ⟨g, N, none⟩ = some (.int .u8 90) := fun n => hlast
  have sA := FU.src F0.out cap2
  rw [HN.out] at sA
  refine Calls.mono (same_src sA (Src.kept0 HS.out F0.out.bel) (by have h5 := HN.out; omega)) ?_
  rintro e w9 ⟨rfl, j, rfl⟩
  clear hlast sA
  go_wp2_with fail
  go_ret
  exact ⟨rfl, below_drewN F0.out.bel j⟩

set_option maxRecDepth 100000 in
set_option maxHeartbeats 1000000 in
theorem sectorsL {w : World} {p m c S z : Nat} {rd : Int} {gs : Nat → Nat} {D : DataW Unit} {T : List Int} (h : LD w p m c rd S z gs D T) :
    Calls Try.prog 14 #[.pointer (some ⟨p, 0, none⟩)] w fun e w' => e = .returned (.int .i64 S) ∧ w = w' := by
  have h0 : w.cell? ⟨p, 0, none⟩ = some (.int .i64 S) := h.row.cell 0
  clear h
  go_enter Try.func14, Try.ntmps14
  go_wp2_with fail
  go_ret
  exact ⟨rfl, rfl⟩
set_option maxRecDepth 100000 in
set_option maxHeartbeats 1000000 in
theorem sizeL {w : World} {p m c S z : Nat} {rd : Int} {gs : Nat → Nat} {D : DataW Unit} {T : List Int} (h : LD w p m c rd S z gs D T) :
    Calls Try.prog 15 #[.pointer (some ⟨p, 0, none⟩)] w fun e w' => e = .returned (.int .i64 z) ∧ w = w' := by
  have h0 : w.cell? ⟨p, 1, none⟩ = some (.int .i64 z) := h.row.cell 1
  clear h
  go_enter Try.func15, Try.ntmps15
  go_wp2_with fail
  go_ret
  exact ⟨rfl, rfl⟩

set_option maxRecDepth 100000 in
set_option maxHeartbeats 2000000 in
theorem pendingL {w : World} {p m c S z : Nat} {rd : Int} {gs : Nat → Nat} {D : DataW Unit} {T : List Int} (h : LD w p m c rd S z gs D T) :
    Calls Try.prog 16 #[.pointer (some ⟨p, 0, none⟩)] w fun e w' => ∃ a, e = .returned (.slice a 0 0) ∧ Chg (fun k => k = p) w w' := by
  have c2 : w.cell? ⟨p, 2, none⟩ = some (.int .i32 0) := h.row.cell 2
  have c5 : w.cell? ⟨p, 5, none⟩ = some (.int .u32 0) := h.row.cell 5
  have c6 : w.cell? ⟨p, 6, none⟩ = some (.int .i32 0) := h.row.cell 6
  have f6 := h.row.fr 6
  have HD : Hid _ := h
  have hmk := mk39
  clear h
  go_enter_defers Try.func16, Try.ntmps16
  go_wp2_with fail
  refine (rlock_open Try.rwRLib p 2 0 _ _ _ c2 c5 c6 f6 (by rw [wr1]; decide)).mono ?_
  rintro e w' ⟨rfl, rfl⟩
  rw [wr1]
  have R1 := Rw.set HD.out.row 6 (.int .i32 1)
  obtain ⟨w1, hw1⟩ : ∃ w1, w1 = w.setCell ⟨p, 6, none⟩ (.int .i32 1) := ⟨_, rfl⟩
  rw [← hw1] at R1
  have e1 : w.setCell ⟨p, 2 + 4, none⟩ (.int .i32 1) = w1 := hw1.symm
  rw [e1]
  have K1 : Hid _ := R1
  have hc1 : Chg (fun k => k = p) w w1 := by rw [hw1]; exact (Chg.refl (fun k => k = p) w).setCell (.inl rfl) _
  have hn1 : w1.heap[c]? = some (.map #[] 0) := by rw [hw1, heap_set_ne _ _ _ _ HD.out.pc]; exact HD.out.mc
  have C1 : Hid _ := hc1
  have d10 : w1.cell? ⟨p, 10, none⟩ = some (.int .i64 0) := Rw.cell R1 10
  have hb2 : Below w1.heap.size w1 (w1.alloc (.cells #[] 3)) := (Below.refl _ _).alloc (Nat.le_refl _) _
  have K2 : Hid (Rw (w1.alloc (.cells #[] 3)) p _ 87) := Rw.keep R1 hb2
  have d9 : (w1.alloc (.cells #[] 3)).cell? ⟨p, 9, none⟩ = some (.map (some c)) := Rw.cell K2.out 9
  obtain ⟨w3, hr3, hx3, hb3⟩ := range_empty (w := w1.alloc (.cells #[] 3)) (c := c) (by rw [hb2.block c (Array.getElem?_eq_some_iff.1 hn1).1]; exact hn1)
  have B3 : Hid (Below w1.heap.size w1 w3) := hb2.trans (hb3.mono (by simp))
  rw [World.size_alloc] at hr3 hx3
  clear c2 c5 c6 f6 R1 hw1 e1 hc1 hn1 hb2 hb3
  go_wp2_with fail
  refine wp_loop_rounds 1 ?_
  rw [rounds_succ]
  go_wp2_with fail
  have K3 : Hid (Rw w3 p _ 87) := Rw.keep K1.out B3.out
  refine leaves_cons (f := 34) (args := #[.pointer (some ⟨p, 2, none⟩)]) (by simp) (by simp [go_sem]) ?_
  refine (runlock_deferred Try.rwRLib p 2 1 _ _ .returning _ (Rw.cell K3.out 2) (Rw.cell K3.out 4) (Rw.cell K3.out 6) (Rw.fr K3.out 6) (by rw [wr0]; decide)).mono ?_
  rintro e u' w'' ⟨rfl, rfl, rfl⟩
  exact ⟨_, results_tmp rfl _ _ _, _, rfl, (C1.out.trans (Chg.of_below B3.out (fun _ => False)) (fun _ h => h.elim)).setCell (.inl rfl) _⟩
end Go.Proofs.Ytibcpokfgogopab
