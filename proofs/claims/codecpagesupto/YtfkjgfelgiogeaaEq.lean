import Derived.Test.YtfkjgfelgiogeaaLay
import Derived.Test.YtfkjgfelgiogeaaText2
import Derived.Test.YtfkjgfelgiogeaaSum2
import Derived.Stop.BytesEq
/-
  A Reader at work while a record is built in blocks of its own.
-/
namespace Go.Proofs.Ytfkjgfelgiogeaa
open Go.RowKit

/-- Since w0 only the Reader's block has turned, of all that was there. -/
structure At (w0 w : World) (p : Nat) (t : TypeId) (tv : Value) (T : List Int) (a : Nat) (err : Int) : Prop where
  rp : RP w0 w p t tv T a err
  plt : p < w0.heap.size
  tlt : ∀ k, tv.ownBlock = some k → k < w0.heap.size ∨ T = []

section
variable {w0 w w' : World} {p g : Nat} {t ty : TypeId} {tv : Value} {T : List Int} {a a1 : Nat} {err e1 : Int} {cs : List Value}
theorem At.start (h : RS w p t tv T a err) : At w w p t tv T a err := ⟨h.refl, h.lt, h.tvlt⟩
theorem At.chg (h : At w0 w p t tv T a err) (c : Chg (fun k => k = g) w w') (hg : w0.heap.size ≤ g) : At w0 w' p t tv T a err :=
  ⟨⟨h.rp.1.keep2 c (fun e => by have := h.plt; omega) (fun k hk => (h.tlt k hk).imp (fun hlt e => by omega) id), h.rp.2.trans c (fun i e => .inr (by omega))⟩, h.plt, h.tlt⟩
theorem At.below (h : At w0 w p t tv T a err) (c : Below w.heap.size w w') : At w0 w' p t tv T a err :=
  ⟨⟨h.rp.1.keep0 c, h.rp.2.trans (Chg.of_below c (fun _ => False)) (fun _ e => e.elim)⟩, h.plt, h.tlt⟩
theorem At.alloc (h : At w0 w p t tv T a err) (o : Obj) : At w0 (w.alloc o) p t tv T a err := h.below ((Below.refl _ _).alloc (Nat.le_refl _) _)
theorem At.set (h : At w0 w p t tv T a err) (hg : w0.heap.size ≤ g) (o : Nat) (v : Value) : At w0 (w.setCell ⟨g, o, none⟩ v) p t tv T a err :=
  h.chg (g := g) ((Chg.refl (fun k => k = g) w).setCell (p := ⟨g, o, none⟩) (.inl rfl) v) hg
theorem At.call (h : At w0 w p t tv T a err) (k : RP w w' p t tv T a1 e1) : At w0 w' p t tv T a1 e1 := ⟨h.rp.trans k, h.plt, h.tlt⟩
theorem At.blk (h : At w0 w p t tv T a err) (hb : Blk w g cs ty) (hg : w0.heap.size ≤ g) (k : RP w w' p t tv T a1 e1) : Blk w' g cs ty := hb.keep k.2 (fun e => by have := h.plt; omega)
end

/-- A slice that came in or was made: its bytes, and that it lies in what is there. -/
structure In (w : World) (s : Value) (T : List Int) : Prop where
  src : Src w s T
  byt : Byts T
  big : T.length ≤ 140737488355328
  cap : ∃ a c, s = .slice a T.length c ∧ T.length ≤ c ∧ c ≤ 9223372036854775807
  lt : ∀ k, s.ownBlock = some k → k < w.heap.size

theorem In.keep {w w' : World} {s : Value} {T : List Int} (h : In w s T) (b : Below w.heap.size w w') : In w' s T := ⟨h.src.kept0 b, h.byt, h.big, h.cap, fun k hk => Nat.lt_of_lt_of_le (h.lt k hk) b.size⟩
theorem In.alloc {w : World} {s : Value} {T : List Int} (h : In w s T) (o : Obj) : In (w.alloc o) s T := h.keep ((Below.refl _ _).alloc (Nat.le_refl _) _)
theorem Own.in_ {w : World} {v : Value} {T : List Int} (h : Own w v T) (hb : Byts T) (hl : T.length ≤ 140737488355328) : In w v T := by
  refine ⟨h.src, hb, hl, ?_, fun k hk => h.lt hk⟩
  rcases h.2 with ⟨rfl, h0⟩ | ⟨g, cap, cur, rfl, _, _, h1, h2, _⟩
  · exact ⟨none, 0, by rw [h0], by omega, by omega⟩
  · exact ⟨_, _, rfl, h1, by unfold maxLen at h2; omega⟩

/-- A Reader that was just laid. -/
theorem In.reader {w w' : World} {s : Value} {T : List Int} (h : In w s T) (t : TypeId) (b : Below w.heap.size w w') : RS (w'.alloc (.cells #[s, .int .i64 0, .int .i64 0] t)) w'.heap.size t s T 0 0 :=
  ⟨heap_alloc_new _ _, (h.keep b).src.kept0 ((Below.refl _ _).alloc (Nat.le_refl _) _), fun e => by have := h.lt _ e; have := b.size; omega, Nat.zero_le _, h.big, h.byt, h.cap⟩
end Go.Proofs.Ytfkjgfelgiogeaa

/-
  Sums and addresses, compared with themselves.
-/
namespace Go.Proofs.Ytfkjgfelgiogeaa
open Go.RowKit

theorem eq31 (d : Nat) (z : List Int) (hz : z.length = 32) (w : World) : (Op.equalIn (d + 2) 31 (.agg (bs z).toArray) (.agg (bs z).toArray)).run Try.prog w = .ok true w := by
  have hsz : ∀ w, (sizeOf 5).run Try.prog w = .ok 1 w := fun _ => by kernel_rfl
  rw [Op.equalIn]
  simp only [Sem.run_bind, run_underlying Try.underlying31, Result.andThen_ok, hsz, Std.Legacy.Range.forIn_eq_forIn_range', Std.Legacy.Range.size, Nat.sub_zero, Nat.add_sub_cancel, Nat.div_one]
  have hl : ∀ i ∈ List.range' 0 32 1, i < 32 := fun i hi => by simpa using (List.mem_range'_1.1 hi).2
  generalize List.range' 0 32 1 = l at hl ⊢
  induction l with
  | nil => simp
  | cons i l ih =>
    have hi : i < 32 := hl i (by simp)
    have px : (part 5 (bs z).toArray (i * 1)).run Try.prog w = .ok (.int .u8 (z[i]'(by omega))) w := by
      have := bs_get z i (by omega)
      simp [part, isAgg, run_underlying Try.underlying5, this]
    have pe : (Op.equalIn (d + 1) 5 (.int .u8 (z[i]'(by omega))) (.int .u8 (z[i]'(by omega)))).run Try.prog w = .ok true w := by
      rw [run_equalIn_int w d 5 .u8 .u8 _ _ Try.underlying5]
      simp
    simp only [List.forIn_cons, Sem.run_bind, px, pe, Result.andThen_ok]
    simp only [Bool.not_true, Bool.false_eq_true, if_false, Sem.run_pure, Result.andThen_ok]
    exact ih fun j hj => hl j (by simp [hj])

theorem eql31 (z : List Int) (hz : z.length = 32) (w : World) : (binOp .eql 31 (.agg (bs z).toArray) (.agg (bs z).toArray)).run Try.prog w = .ok (.bool true) w := by
  rw [run_eql_struct, eq31 9998 z hz w]; rfl

theorem Try.struct33 : Try.prog.underlying 33 = some (.struct (Try.prog.fieldsOf 33)) := by kernel_rfl
theorem Try.fields33 : (Try.prog.fieldsOf 33).toList.map (fun f => (f.name, f.type, f.offset)) = [("Sum", 31, 0), ("Nth", 5, 32)] := by kernel_rfl
theorem eqF_cons (d : Nat) (xs : Array Value) (f : Field) (fs : List Field) (w : World) (a : Value) (hn : f.name ≠ "_") (hp : (part f.type xs f.offset).run Try.prog w = .ok a w) (hq : (Op.equalIn d f.type a a).run Try.prog w = .ok true w) :
    (Op.eqFields d xs xs (f :: fs)).run Try.prog w = (Op.eqFields d xs xs fs).run Try.prog w := by
  simp only [Op.eqFields, if_pos hn, Sem.run_bind, hp, Result.andThen_ok, hq, Bool.not_true, Bool.false_eq_true, if_false]
theorem eqF_nil (d : Nat) (xs : Array Value) (w : World) : (Op.eqFields d xs xs []).run Try.prog w = .ok true w := by simp only [Op.eqFields, Sem.run_pure]
theorem eqF (d : Nat) (z : List Int) (hz : z.length = 33) (w : World) (f1 f2 : Field) (h1 : f1.name ≠ "_") (h2 : f2.name ≠ "_") (t1 : f1.type = 31) (t2 : f2.type = 5) (o1 : f1.offset = 0) (o2 : f2.offset = 32) :
    (Op.eqFields (d + 2) (bs z).toArray (bs z).toArray [f1, f2]).run Try.prog w = .ok true w := by
  have hs31 : ∀ w, (sizeOf 31).run Try.prog w = .ok 32 w := fun _ => by kernel_rfl
  have p1 : (part 31 (bs z).toArray 0).run Try.prog w = .ok (.agg (bs (z.take 32)).toArray) w := by
    have e : List.take 32 (bs z) = bs (z.take 32) := by simp [bs, List.map_take]
    simp [part, isAgg, run_underlying Try.underlying31, hs31, e]
  have p2 : (part 5 (bs z).toArray 32).run Try.prog w = .ok (.int .u8 (z[32]'(by omega))) w := by
    have := bs_get z 32 (by omega)
    simp [part, isAgg, run_underlying Try.underlying5, this]
  have q1 := eq31 d (z.take 32) (by simp; omega) w
  have q2 : (Op.equalIn (d + 2) 5 (.int .u8 (z[32]'(by omega))) (.int .u8 (z[32]'(by omega)))).run Try.prog w = .ok true w := by
    rw [run_equalIn_int w (d + 1) 5 .u8 .u8 _ _ Try.underlying5]
    simp
  rw [eqF_cons (d + 2) _ f1 _ w _ h1 (by rw [t1, o1]; exact p1) (by rw [t1]; exact q1), eqF_cons (d + 2) _ f2 _ w _ h2 (by rw [t2, o2]; exact p2) (by rw [t2]; exact q2)]
  exact eqF_nil _ _ w
theorem eq33 (d : Nat) (z : List Int) (hz : z.length = 33) (w : World) : (Op.equalIn (d + 3) 33 (.agg (bs z).toArray) (.agg (bs z).toArray)).run Try.prog w = .ok true w := by
  rw [run_equalIn_struct w (d + 2) 33 _ _ Try.struct33 (by kernel_rfl)]
  obtain ⟨f1, f2, e⟩ : ∃ f1 f2, (Try.prog.fieldsOf 33).toList = [f1, f2] := by
    have := congrArg List.length Try.fields33
    rw [List.length_map] at this
    match h : (Try.prog.fieldsOf 33).toList, this with
    | [f1, f2], _ => exact ⟨f1, f2, rfl⟩
  have h := Try.fields33
  rw [e] at h
  simp only [List.map_cons, List.map_nil, List.cons.injEq, Prod.mk.injEq, and_true] at h
  obtain ⟨⟨a1, a2, a3⟩, b1, b2, b3⟩ := h
  rw [e]
  exact eqF d z hz w f1 f2 (by rw [a1]; simp) (by rw [b1]; simp) a2 b2 a3 b3
theorem eql33 (z : List Int) (hz : z.length = 33) (w : World) : (binOp .eql 33 (.agg (bs z).toArray) (.agg (bs z).toArray)).run Try.prog w = .ok (.bool true) w := by
  rw [run_eql_struct, eq33 9997 z hz w]; rfl
end Go.Proofs.Ytfkjgfelgiogeaa
