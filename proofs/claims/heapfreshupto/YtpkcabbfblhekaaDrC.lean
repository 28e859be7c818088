/-
  HeapDrains between two rounds, and within one.
-/
import Derived.Test.YtpkcabbfblhekaaDrB
namespace Go.Proofs.Ytpkcabbfblhekaa
open Go.RowKit

/-- The blocks of the boxes, and what two of them hold for good. -/
structure Qn where
  b4 : Nat
  b5 : Nat
  b6 : Nat
  b7 : Nat
  b8 : Nat
  bx : Nat
  b10 : Nat
  p : Nat
  ru : Value
  su : Value

abbrev bs0 (q : Qn) (lv : Value) (stp : Nat) (rest : List Bo) : List Bo :=
  (q.b4, [q.ru], 39) :: (q.b5, [q.su], 22) :: (q.b6, [.bool false], 4) :: (q.b7, [.pointer (some ⟨q.p, 0, none⟩)], 23) :: (q.b8, [lv], 28) :: (q.bx, [.pointer (some ⟨q.p, 0, none⟩)], 23) :: (q.b10, [.int .i64 stp], 3) :: rest

/-- Between two things. -/
structure DQ (W w : World) (Fs Ds : List Nat) (N : Nat) (bud : Nat → Nat) (q : Qn) (rest : List Bo) (v : Value) (H : List E) (came : Nat) (lv : Value) (l : List (Int × Int)) (stp : Nat) : Prop where
  dx : DX W w Fs Ds (bs0 q lv stp rest) q.p v lv
  ts : TS w false q.p v H came lv l
  sp : stp ≤ N
  cm : came ≤ 1048576 + bud stp

/-- A thing has come. -/
structure DP (W w : World) (Fs Ds : List Nat) (N : Nat) (bud : Nat → Nat) (q : Qn) (rest : List Bo) (v : Value) (H : List E) (came : Nat) (lv : Value) (l : List (Int × Int)) (stp : Nat) (x : Int × Int) (m : Nat) : Prop where
  dx : DX W w Fs Ds (bs0 q lv stp rest) q.p v lv
  ps : PS w q.p v H came lv l x m
  sp : stp ≤ N
  cm : came ≤ 1048576 + bud stp

section
variable {W w w' : World} {D : Nat} {Fs Ds : List Nat} {N : Nat} {bud : Nat → Nat} {q : Qn} {rest : List Bo} {v : Value} {H : List E} {came : Nat} {lv : Value} {l : List (Int × Int)} {stp : Nat} {x : Int × Int} {m : Nat}

theorem DQ.keep (h : DQ W w Fs Ds N bud q rest v H came lv l stp) (k : Chg (fun _ => False) w w') : DQ W w' Fs Ds N bud q rest v H came lv l stp := ⟨h.dx.keep k, h.ts.keep k, h.sp, h.cm⟩
theorem DP.keep (h : DP W w Fs Ds N bud q rest v H came lv l stp x m) (k : Chg (fun _ => False) w w') : DP W w' Fs Ds N bud q rest v H came lv l stp x m :=
  ⟨h.dx.keep k, h.ps.keepS k (fun h => h) (fun _ _ h => h) (fun _ _ h => h), h.sp, h.cm⟩

theorem DX.offp (h : DX W w [D, D + 1] Ds (bs0 q lv stp rest) q.p v lv) : ¬ (q.p = D ∨ q.p = D + 1) ∧ (∀ k, v.ownBlock = some k → ¬ (k = D ∨ k = D + 1)) ∧ (∀ k, lv.ownBlock = some k → ¬ (k = D ∨ k = D + 1)) := by
  obtain ⟨_, a2, a3, a4⟩ := h.of D (.inl (by simp))
  obtain ⟨_, c2, c3, c4⟩ := h.of (D + 1) (.inl (by simp))
  refine ⟨fun e => ?_, fun k hk e => ?_, fun k hk e => ?_⟩
  · rcases e with e | e
    · exact a2 e.symm
    · exact c2 e.symm
  · rcases e with rfl | rfl
    · exact a3 hk
    · exact c3 hk
  · rcases e with rfl | rfl
    · exact a4 hk
    · exact c4 hk

theorem DQ.st (h : DQ W w [D, D + 1] Ds N bud q rest v H came lv l stp) (k : Chg (fun k => k = D ∨ k = D + 1) w w') (h0 : D ∉ Ds) (h1 : D + 1 ∉ Ds) : DQ W w' [D, D + 1] Ds N bud q rest v H came lv l stp := by
  obtain ⟨o1, o2, o3⟩ := h.dx.offp
  exact ⟨h.dx.st k h0 h1, h.ts.keepS k o1 o2 o3, h.sp, h.cm⟩
theorem DP.st (h : DP W w [D, D + 1] Ds N bud q rest v H came lv l stp x m) (k : Chg (fun k => k = D ∨ k = D + 1) w w') (h0 : D ∉ Ds) (h1 : D + 1 ∉ Ds) : DP W w' [D, D + 1] Ds N bud q rest v H came lv l stp x m := by
  obtain ⟨o1, o2, o3⟩ := h.dx.offp
  exact ⟨h.dx.st k h0 h1, h.ps.keepS k o1 o2 o3, h.sp, h.cm⟩

theorem fs_lt (hs : D + 1 < w.heap.size) : ∀ k ∈ [D, D + 1], k < w.heap.size := fun k hk => by
  have : k = D ∨ k = D + 1 := by simpa using hk
  omega

/-- The next thing, or none. -/
theorem DQ.pop (h : DQ W w [D, D + 1] Ds N bud q rest v H came lv l stp) (hs : D + 1 < w.heap.size) (hb : bud stp ≤ 1048576) :
    Calls Try.prog 16 #[.pointer (some ⟨q.p, 0, none⟩)] w fun e w' => Kd D w w' ∧
      ((∃ x, e = .returned (.tuple #[twoV x, .bool true]) ∧ ∃ v' H' m, DP W w' [D, D + 1] Ds N bud q rest v' H' came lv l stp x m ∧ H'.length < H.length) ∨
       ∃ x, e = .returned (.tuple #[twoV x, .bool false]) ∧ H = [] ∧ DQ W w' [D, D + 1] Ds N bud q rest v H came lv l stp) := by
  have hcm := h.cm
  obtain ⟨o1, o2, _⟩ := h.dx.offp
  refine (ts_pop h.ts (by omega)).mono ?_
  rintro e w1 ⟨ch, ⟨x, rfl, v', mm, ps, hlt, hv⟩ | ⟨x, rfl, hH, ts⟩⟩
  · refine ⟨Kd.of_chg ch hs (fun e => ?_) (fun e => ?_), .inl ⟨x, rfl, v', _, mm, ⟨h.dx.turn ch (fs_lt hs) hv (fun k hk => .inl hk), ps, h.sp, h.cm⟩, hlt⟩⟩
    · rcases e with e | e
      · exact o1 (.inl e.symm)
      · exact o2 _ e.symm (.inl rfl)
    · rcases e with e | e
      · exact o1 (.inr e.symm)
      · exact o2 _ e.symm (.inr rfl)
  · refine ⟨Kd.of_chg ch hs (fun e => ?_) (fun e => ?_), .inr ⟨x, rfl, hH, ⟨h.dx.turn ch (fs_lt hs) (fun k hk => .inl hk.symm) (fun k hk => .inl hk), ts, h.sp, h.cm⟩⟩⟩
    · rcases e with e | e
      · exact o1 (.inl e.symm)
      · exact o2 _ e.symm (.inl rfl)
    · rcases e with e | e
      · exact o1 (.inr e.symm)
      · exact o2 _ e.symm (.inr rfl)

/-- A box more, where a thing has come. -/
theorem DP.box (h : DP W w Fs Ds N bud q rest v H came lv l stp x m) (u : List Value) (t : Nat) (hf : ∀ k ∈ Fs, k < w.heap.size) : DP W (w.alloc (.cells u.toArray t)) Fs Ds N bud q (rest ++ [(w.heap.size, u, t)]) v H came lv l stp x m := by
  have h1 := h.dx.box u t hf h.ps.hq.lt h.ps.hq.vlt (fun k hk => h.ps.own.lt hk)
  have h2 := h.keep ((Chg.refl _ _).alloc (.cells u.toArray t))
  exact ⟨by simpa using h1, h2.ps, h.sp, h.cm⟩
theorem DQ.box (h : DQ W w Fs Ds N bud q rest v H came lv l stp) (u : List Value) (t : Nat) (hf : ∀ k ∈ Fs, k < w.heap.size) : DQ W (w.alloc (.cells u.toArray t)) Fs Ds N bud q (rest ++ [(w.heap.size, u, t)]) v H came lv l stp := by
  have h1 := h.dx.box u t hf h.ts.hq.lt h.ts.hq.vlt (fun k hk => h.ts.own.lt hk)
  have h2 := h.keep ((Chg.refl _ _).alloc (.cells u.toArray t))
  exact ⟨by simpa using h1, h2.ts, h.sp, h.cm⟩
theorem DQ.less {rest' : List Bo} (h : DQ W w Fs Ds N bud q rest v H came lv l stp) (hs : rest'.Sublist rest) : DQ W w Fs Ds N bud q rest' v H came lv l stp :=
  ⟨h.dx.less (((((((hs.cons_cons _).cons_cons _).cons_cons _).cons_cons _).cons_cons _).cons_cons _).cons_cons _), h.ts, h.sp, h.cm⟩

/-- A store into a further box. -/
theorem TS.box {b o : Nat} (h : TS w false q.p v H came lv l) (dx : DX W w Fs Ds (bs0 q lv stp rest) q.p v lv) {y : Bo} (hy : y ∈ bs0 q lv stp rest) (e : y.1 = b) (u : Value) : TS (w.setCell ⟨b, o, none⟩ u) false q.p v H came lv l := by
  obtain ⟨_, a2, a3, a4⟩ := dx.of b (.inr (.inr ⟨y, hy, e⟩))
  exact h.keepS ((Chg.refl (fun k => k = b) _).setCell (p := ⟨b, o, none⟩) (.inl rfl) _) (fun e => a2 e.symm) (fun k hk e => a3 (by rw [← e]; exact hk)) (fun k hk e => a4 (by rw [← e]; exact hk))
theorem DQ.store (h : DQ W w Fs Ds N bud q rest v H came lv l stp) (i : Nat) {b t o : Nat} {u : List Value} (hi : rest[i]? = some (b, u, t)) (y : Value) : DQ W (w.setCell ⟨b, o, none⟩ y) Fs Ds N bud q (rest.set i (b, u.set o y, t)) v H came lv l stp := by
  have hi' : (bs0 q lv stp rest)[i + 7]? = some (b, u, t) := hi
  exact ⟨h.dx.store (i + 7) hi' y, h.ts.box h.dx (List.mem_of_getElem? hi') rfl y, h.sp, h.cm⟩

/-- The list without the thing. -/
theorem DP.without (h : DP W w Fs Ds N bud q rest v H came lv l stp x m) (hf : ∀ k ∈ Fs, k < w.heap.size) {lv' : Value} (k : Chg (fun _ => False) w w') (ho : OwnT w' lv' (wo l m)) (hl : ∀ k, lv'.ownBlock = some k → w.heap.size ≤ k) :
    DQ W (w'.setCell ⟨q.b8, 0, none⟩ lv') Fs Ds N bud q rest v H came lv' (wo l m) stp := by
  have h1 := ((h.dx.list (lv' := lv') hf (fun k hk => .inr (hl k hk))).keep k).store 4 (o := 0) rfl lv'
  have hm : (q.b8, [lv], 28) ∈ bs0 q lv stp rest := by simp
  have t1 := h.ps.ts k ho hl
  obtain ⟨_, a2, a3, a4⟩ := h.dx.of q.b8 (.inr (.inr ⟨_, hm, rfl⟩))
  have hb8 := (h.dx.bk _ hm).lt
  refine ⟨h1, t1.keepS ((Chg.refl (fun k => k = q.b8) _).setCell (p := ⟨q.b8, 0, none⟩) (.inl rfl) _) (fun e => a2 e.symm) (fun k hk e => a3 (by rw [← e]; exact hk)) (fun k hk e => ?_), h.sp, h.cm⟩
  have := hl k hk
  have : q.b8 < w.heap.size := hb8
  omega

/-- A turn. -/
theorem DQ.turn (h : DQ W w Fs Ds N bud q rest v H came lv l stp) (hf : ∀ k ∈ Fs, k < w.heap.size) {n : Nat} {lv' : Value} (tp : TP w w' false q.p v came lv n lv') (hn : bud (stp + 1) = bud stp + n) (hsp : stp + 1 ≤ N) :
    ∃ v' H' came' l', DQ W ((w'.setCell ⟨q.b8, 0, none⟩ lv').setCell ⟨q.b10, 0, none⟩ (.int .i64 ((stp + 1 : Nat) : Int))) Fs Ds N bud q rest v' H' came' lv' l' (stp + 1) := by
  obtain ⟨v', H', came', l', ts', hcm', hch', hv', hl'⟩ := tp
  have hcm := h.cm
  have d1 := (h.dx.turn hch' hf hv' hl').store 4 (o := 0) rfl lv'
  have d2 := d1.store 6 (o := 0) rfl (.int .i64 ((stp + 1 : Nat) : Int))
  have hm8 : (q.b8, [lv], 28) ∈ bs0 q lv stp rest := by simp
  have hm10 : (q.b10, [.int .i64 stp], 3) ∈ bs0 q lv stp rest := by simp
  have dd := h.dx.turn hch' hf hv' hl'
  obtain ⟨_, a2, a3, a4⟩ := dd.of q.b8 (.inr (.inr ⟨_, hm8, rfl⟩))
  obtain ⟨_, c2, c3, c4⟩ := dd.of q.b10 (.inr (.inr ⟨_, hm10, rfl⟩))
  have t1 := ts'.keepS ((Chg.refl (fun k => k = q.b8) _).setCell (p := ⟨q.b8, 0, none⟩) (.inl rfl) lv') (fun e => a2 e.symm) (fun k hk e => a3 (by rw [← e]; exact hk)) (fun k hk e => a4 (by rw [← e]; exact hk))
  have t2 := t1.keepS ((Chg.refl (fun k => k = q.b10) _).setCell (p := ⟨q.b10, 0, none⟩) (.inl rfl) (.int .i64 ((stp + 1 : Nat) : Int))) (fun e => c2 e.symm) (fun k hk e => c3 (by rw [← e]; exact hk)) (fun k hk e => c4 (by rw [← e]; exact hk))
  exact ⟨v', H', came', l', d2, t2, hsp, by omega⟩

end

end Go.Proofs.Ytpkcabbfblhekaa
