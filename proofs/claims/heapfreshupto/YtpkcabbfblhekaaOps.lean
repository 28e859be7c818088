/-
  The heap's smaller calls.
-/
import Derived.Test.YtpkcabbfblhekaaSink
import Derived.Deep.DeepAppendWide
import Derived.Maps.AppendAt
namespace Go.Proofs.Ytpkcabbfblhekaa
open Go.RowKit

/-- A heap in block p: its compare f, its things H in the slice v, the last number. -/
structure Hq (w : World) (p : Nat) (f v : Value) (H : List E) (came : Nat) : Prop where
  blk : Blk w p [f, v, .int .i64 came] 61
  own : w.ownsRow 0 63 3 v H.length (rowE H)
  ne : v.ownBlock ≠ some p

theorem Hq.cases {w : World} {p : Nat} {f v : Value} {H : List E} {came : Nat} (h : Hq w p f v H came) : (v = .slice none 0 0 ∧ H = []) ∨ ∃ g cap sp, v = .slice (some ⟨g, 0, none⟩) H.length cap ∧ Hp w p f g H.length cap H sp came := by
  rcases h.own.2 with ⟨e1, e2⟩ | ⟨g, cap, cur, rfl, _, hg, hle, hm, hs, ht⟩
  · exact .inl ⟨e1, List.eq_nil_of_length_eq_zero e2⟩
  · refine .inr ⟨g, cap, cur.toList.drop (H.length * 3), rfl, h.blk, ⟨?_⟩, rfl, ?_, ?_, hm⟩
    · rw [← ht, List.take_append_drop]; exact hg
    · have hz : cur.toList.length = cap * 3 := by rw [← hs]; rfl
      rw [List.length_drop, hz]; omega
    · intro e; exact h.ne (by rw [e]; rfl)
theorem Hp.hq {w : World} {p : Nat} {f : Value} {g n cap : Nat} {H : List E} {sp : List Value} {came : Nat} (h : Hp w p f g n cap H sp came) : Hq w p f (.slice (some ⟨g, 0, none⟩) n cap) H came := by
  obtain ⟨h1, h2, rfl, h4, h5, h6⟩ := h
  refine ⟨h1, ⟨rowE_len H, .inr ⟨g, cap, _, rfl, Nat.zero_le _, h2.eq, by omega, h6, ?_, ?_⟩⟩, ?_⟩
  · simp only [List.size_toArray, List.length_append, rowE_len]; omega
  · rw [← rowE_len]; simp
  · simpa [Value.ownBlock] using h5
theorem Hq.keep {w w' : World} {p : Nat} {f v : Value} {H : List E} {came : Nat} {S : Nat → Prop} (h : Hq w p f v H came) (c : Chg S w w') (h1 : ¬ S p) (h2 : ∀ k, v.ownBlock = some k → ¬ S k) : Hq w' p f v H came := by
  refine ⟨h.blk.keep c h1, ⟨h.own.1, ?_⟩, h.ne⟩
  rcases h.own.2 with e | ⟨g, cap, cur, rfl, hb, hg, rest⟩
  · exact .inl e
  · exact .inr ⟨g, cap, cur, rfl, hb, c.heap_some hg (h2 g rfl), rest⟩
theorem Hq.lt {w : World} {p : Nat} {f v : Value} {H : List E} {came : Nat} (h : Hq w p f v H came) : p < w.heap.size := h.blk.lt
theorem Hq.vlt {w : World} {p : Nat} {f v : Value} {H : List E} {came : Nat} (h : Hq w p f v H came) : ∀ k, v.ownBlock = some k → k < w.heap.size := fun k hk => (World.ownsRow.lt h.own k hk).2
theorem Hq.form {w : World} {p : Nat} {f v : Value} {H : List E} {came : Nat} (h : Hq w p f v H came) : ∃ a c, v = .slice a H.length c := by
  rcases h.cases with ⟨e1, e2⟩ | ⟨g, cap, _, e, _⟩
  · exact ⟨none, 0, by rw [e1, e2]; rfl⟩
  · exact ⟨_, _, e⟩

set_option maxRecDepth 100000 in
theorem new_any {f : Value} (hf : f = .nilFunc ∨ ∃ g caps, f = .func (.func g) #[] caps) (w : World) : Calls Try.prog 9 #[f] w fun e w' => e = .returned (.pointer (some ⟨w.heap.size, 0, none⟩)) ∧ Hq w' w.heap.size f (.slice none 0 0) [] 0 ∧ Chg (fun _ => False) w w' := by
  rcases hf with rfl | ⟨g, caps, rfl⟩
  · go_enter Try.func9, Try.ntmps9
    go_wp2_with fail
    go_ret
    exact ⟨rfl, ⟨Blk.made w [.nilFunc, .slice none 0 0, .int .i64 0] 61, World.ownsRow_nil _ _ _ _, by simp [Value.ownBlock]⟩, (Chg.refl _ _).alloc _⟩
  · go_enter Try.func9, Try.ntmps9
    go_wp2_with fail
    go_ret
    exact ⟨rfl, ⟨Blk.made w [.func (.func g) #[] caps, .slice none 0 0, .int .i64 0] 61, World.ownsRow_nil _ _ _ _, by simp [Value.ownBlock]⟩, (Chg.refl _ _).alloc _⟩

set_option maxRecDepth 100000 in
theorem len_any {w : World} {p : Nat} {f v : Value} {H : List E} {came : Nat} (h : Hq w p f v H came) : Calls Try.prog 12 #[.pointer (some ⟨p, 0, none⟩)] w fun e w' => e = .returned (.int .i64 H.length) ∧ w = w' := by
  obtain ⟨a, c, rfl⟩ := h.form
  have c1 : w.cell? ⟨p, 1, none⟩ = some (.slice a H.length c) := h.blk.cell 1
  clear h
  go_enter Try.func12, Try.ntmps12
  go_wp2_with fail
  go_ret
  exact ⟨rfl, rfl⟩

theorem results_two {fn : Func} {q : Tmp} {ty : TypeId} (h : fn.results = #[.cell q ty]) (tmps : Array Value) (w : World) (g : Nat) (t : TypeId) (cs : List Value) (d : TypeDesc)
    (hp : tmps.getD q undef = .pointer (some ⟨g, 0, none⟩)) (hg : Blk w g cs t) (hu : Try.prog.underlying ty = some d) (hd : d.isRow = true) (hi : (Try.prog.info? ty).map (·.size) = some cs.length) :
    (results fn tmps).run Try.prog w = .ok (.agg cs.toArray) w := by
  have hl := run_loadVar_mid (P := Try.prog) w g 0 ty cs d (hg.range (by simp)) hu hd hi
  have hp' : tmps[q]?.getD undef = .pointer (some ⟨g, 0, none⟩) := by simpa using hp
  simp [results, h, hp', asAddr, hl]
theorem results_row2 {fn : Func} {q u : Tmp} {ty : TypeId} (h : fn.results = #[.cell q ty, .tmp u]) (tmps : Array Value) (w : World) (g : Nat) (t : TypeId) (cs : List Value) (d : TypeDesc) (x : Value)
    (hp : tmps.getD q undef = .pointer (some ⟨g, 0, none⟩)) (hg : Blk w g cs t)
    (hu : Try.prog.underlying ty = some d) (hd : d.isRow = true) (hi : (Try.prog.info? ty).map (·.size) = some cs.length) (hx : tmps.getD u undef = x) :
    (results fn tmps).run Try.prog w = .ok (.tuple #[.agg cs.toArray, x]) w := by
  have hl := run_loadVar_mid (P := Try.prog) w g 0 ty cs d (hg.range (by simp)) hu hd hi
  have hp' : tmps[q]?.getD undef = .pointer (some ⟨g, 0, none⟩) := by simpa using hp
  have hx' : tmps[u]?.getD undef = x := by simpa using hx
  simp [results, h, hp', hx', asAddr, hl]

set_option maxRecDepth 100000 in
theorem numbered_any {w : World} {p : Nat} {f v : Value} {came : Nat} (h : Blk w p [f, v, .int .i64 came] 61) (hc : came < 1099511627776) (k n : Int) :
    Calls Try.prog 32 #[.pointer (some ⟨p, 0, none⟩), .agg #[.int .i64 k, .int .i64 n]] w fun e w' => e = .returned (⟨k, n, (came : Int) + 1⟩ : E).val ∧ Blk w' p [f, v, .int .i64 ((came + 1 : Nat) : Int)] 61 ∧ Chg (fun x => x = p) w w' := by
  have c2 : w.cell? ⟨p, 2, none⟩ = some (.int .i64 came) := h.cell 2
  have f2 := h.fr 2
  have hlt : p < w.heap.size := h.lt
  have HB : Hid _ := h
  clear h
  go_enter Try.func32, Try.ntmps32
  go_wp2_with fail
  obtain ⟨w1, hw1⟩ : ∃ w1, w1 = ((w.setCell ⟨p, 2, none⟩ (.int .i64 ((came : Int) + 1))).alloc (.cells #[.int .i64 k, .int .i64 n] 26)).alloc (.cells #[.int .i64 0, .int .i64 0, .int .i64 0] 63) := ⟨_, rfl⟩
  rw [← hw1]
  have b1 : Blk w1 p [f, v, .int .i64 ((came : Int) + 1)] 61 := by rw [hw1]; exact ((HB.out.set 2 _).alloc _).alloc _
  have b2 : Blk w1 w.heap.size [.int .i64 k, .int .i64 n] 26 := by
    rw [hw1]
    have := (Blk.made (w.setCell ⟨p, 2, none⟩ (.int .i64 ((came : Int) + 1))) [.int .i64 k, .int .i64 n] 26).alloc (.cells #[.int .i64 0, .int .i64 0, .int .i64 0] 63)
    rwa [show (w.setCell ⟨p, 2, none⟩ (.int .i64 ((came : Int) + 1))).heap.size = w.heap.size by simp] at this
  have b3 : Blk w1 (w.heap.size + 1) [.int .i64 0, .int .i64 0, .int .i64 0] 63 := by
    rw [hw1]
    have := Blk.made ((w.setCell ⟨p, 2, none⟩ (.int .i64 ((came : Int) + 1))).alloc (.cells #[.int .i64 k, .int .i64 n] 26)) [.int .i64 0, .int .i64 0, .int .i64 0] 63
    rwa [show ((w.setCell ⟨p, 2, none⟩ (.int .i64 ((came : Int) + 1))).alloc (.cells #[.int .i64 k, .int .i64 n] 26)).heap.size = w.heap.size + 1 by simp] at this
  have CH : Hid (Chg (fun x => x = p) w w1) := by rw [hw1]; exact (((Chg.refl (fun x => x = p) _).setCell (p := ⟨p, 2, none⟩) (.inl rfl) _).alloc _).alloc _
  have k1 : w1.cell? ⟨p, 2, none⟩ = some (.int .i64 ((came : Int) + 1)) := b1.cell 2
  have k2 : w1.cell? ⟨w.heap.size, 0, none⟩ = some (.int .i64 k) := b2.cell 0
  have k3 : w1.cell? ⟨w.heap.size, 1, none⟩ = some (.int .i64 n) := b2.cell 1
  have k4 : w1.cell? ⟨w.heap.size + 1, 0, none⟩ = some (.int .i64 0) := b3.cell 0
  have k5 : w1.cell? ⟨w.heap.size + 1, 1, none⟩ = some (.int .i64 0) := b3.cell 1
  have k6 : w1.cell? ⟨w.heap.size + 1, 2, none⟩ = some (.int .i64 0) := b3.cell 2
  have z4 := b3.fr 0
  have z5 := b3.fr 1
  have z6 := b3.fr 2
  have B1 : Hid _ := b1
  have B3 : Hid _ := b3
  clear b1 b2 b3 hw1 c2 f2
  go_region
  go_wp2_with fail
  have s3 := ((Blk.set B3.out 0 (.int .i64 k)).set 1 (.int .i64 n)).set 2 (.int .i64 ((came : Int) + 1))
  have hch : Chg (fun x => x = p) w ((w1.setCell ⟨w.heap.size + 1, 0, none⟩ (.int .i64 k)).setCell ⟨w.heap.size + 1, 1, none⟩ (.int .i64 n) |>.setCell ⟨w.heap.size + 1, 2, none⟩ (.int .i64 ((came : Int) + 1))) :=
    ((CH.out.setCell (p := ⟨w.heap.size + 1, 0, none⟩) (.inr (Nat.le_succ _)) _).setCell (p := ⟨w.heap.size + 1, 1, none⟩) (.inr (Nat.le_succ _)) _).setCell (p := ⟨w.heap.size + 1, 2, none⟩) (.inr (Nat.le_succ _)) _
  have hb1 : Blk ((w1.setCell ⟨w.heap.size + 1, 0, none⟩ (.int .i64 k)).setCell ⟨w.heap.size + 1, 1, none⟩ (.int .i64 n) |>.setCell ⟨w.heap.size + 1, 2, none⟩ (.int .i64 ((came : Int) + 1))) p [f, v, .int .i64 ((came : Int) + 1)] 61 :=
    B1.out.keep (S := fun x => x = w.heap.size + 1) ((((Chg.refl (fun x => x = w.heap.size + 1) w1).setCell (p := ⟨w.heap.size + 1, 0, none⟩) (.inl rfl) _).setCell (p := ⟨w.heap.size + 1, 1, none⟩) (.inl rfl) _).setCell (p := ⟨w.heap.size + 1, 2, none⟩) (.inl rfl) _) (fun e => by omega)
  refine bodyPost_ret (results_two (t := 63) rfl _ _ (w.heap.size + 1) _ _ rfl s3.drew Try.underlying63 rfl sz67) rfl ?_
  exact ⟨rfl, hb1.drew, hch.drew⟩

end Go.Proofs.Ytpkcabbfblhekaa
