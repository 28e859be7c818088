/-
  A Reader at work while a record is built in blocks of its own.
-/
import Derived.Test.YtkchmoapcmageaaStruct
import Derived.Test.YtkchmoapcmageaaText2
namespace Go.Proofs.Ytkchmoapcmageaa
open Go.RowKit

/-- Since w0 only the Reader's block has turned, of all that was there. -/
structure At (w0 w : World) (p : Nat) (t : TypeId) (tv : Value) (T : List Int) (a : Nat) (err : Int) : Prop where
  rp : RP w0 w p t tv T a err
  plt : p < w0.heap.size
  tlt : ∀ k, tv.ownBlock = some k → k < w0.heap.size ∨ T = []

section
variable {w0 w w' : World} {p g : Nat} {t ty : TypeId} {tv : Value} {T : List Int} {a a1 : Nat} {err e1 : Int} {cs : List Value}
theorem At.start (h : RS w p t tv T a err) : At w w p t tv T a err := ⟨h.refl, h.lt, h.tvlt⟩
theorem At.chg (h : At w0 w p t tv T a err) (c : Chg (fun k => k = g) w w') (hg : w0.heap.size ≤ g) : At w0 w' p t tv T a err :=
  ⟨⟨h.rp.1.keep2 c (fun e => by have := h.plt; omega) (fun k hk => (h.tlt k hk).imp (fun hlt e => by omega) id), h.rp.2.trans c (fun i e => .inr (by omega))⟩, h.plt, h.tlt⟩
theorem At.below (h : At w0 w p t tv T a err) (c : Below w.heap.size w w') : At w0 w' p t tv T a err :=
  ⟨⟨h.rp.1.keep0 c, h.rp.2.trans (Chg.of_below c (fun _ => False)) (fun _ e => e.elim)⟩, h.plt, h.tlt⟩
theorem At.alloc (h : At w0 w p t tv T a err) (o : Obj) : At w0 (w.alloc o) p t tv T a err := h.below ((Below.refl _ _).alloc (Nat.le_refl _) _)
theorem At.set (h : At w0 w p t tv T a err) (hg : w0.heap.size ≤ g) (o : Nat) (v : Value) : At w0 (w.setCell ⟨g, o, none⟩ v) p t tv T a err :=
  h.chg (g := g) ((Chg.refl (fun k => k = g) w).setCell (p := ⟨g, o, none⟩) (.inl rfl) v) hg
theorem At.call (h : At w0 w p t tv T a err) (k : RP w w' p t tv T a1 e1) : At w0 w' p t tv T a1 e1 := ⟨h.rp.trans k, h.plt, h.tlt⟩
theorem At.blk (h : At w0 w p t tv T a err) (hb : Blk w g cs ty) (hg : w0.heap.size ≤ g) (k : RP w w' p t tv T a1 e1) : Blk w' g cs ty := hb.keep k.2 (fun e => by have := h.plt; omega)
end

/-- A slice that came in or was made: its bytes, and that it lies in what is there. -/
structure In (w : World) (s : Value) (T : List Int) : Prop where
  src : Src w s T
  byt : Byts T
  big : T.length ≤ 140737488355328
  cap : ∃ a c, s = .slice a T.length c ∧ T.length ≤ c ∧ c ≤ 9223372036854775807
  lt : ∀ k, s.ownBlock = some k → k < w.heap.size

theorem In.keep {w w' : World} {s : Value} {T : List Int} (h : In w s T) (b : Below w.heap.size w w') : In w' s T := ⟨h.src.kept0 b, h.byt, h.big, h.cap, fun k hk => Nat.lt_of_lt_of_le (h.lt k hk) b.size⟩
theorem In.alloc {w : World} {s : Value} {T : List Int} (h : In w s T) (o : Obj) : In (w.alloc o) s T := h.keep ((Below.refl _ _).alloc (Nat.le_refl _) _)
theorem Own.in_ {w : World} {v : Value} {T : List Int} (h : Own w v T) (hb : Byts T) (hl : T.length ≤ 140737488355328) : In w v T := by
  refine ⟨h.src, hb, hl, ?_, fun k hk => h.lt hk⟩
  rcases h.2 with ⟨rfl, h0⟩ | ⟨g, cap, cur, rfl, _, _, h1, h2, _⟩
  · exact ⟨none, 0, by rw [h0], by omega, by omega⟩
  · exact ⟨_, _, rfl, h1, by unfold maxLen at h2; omega⟩

/-- A Reader that was just laid. -/
theorem In.reader {w w' : World} {s : Value} {T : List Int} (h : In w s T) (t : TypeId) (b : Below w.heap.size w w') : RS (w'.alloc (.cells #[s, .int .i64 0, .int .i64 0] t)) w'.heap.size t s T 0 0 :=
  ⟨heap_alloc_new _ _, (h.keep b).src.kept0 ((Below.refl _ _).alloc (Nat.le_refl _) _), fun e => by have := h.lt _ e; have := b.size; omega, Nat.zero_le _, h.big, h.byt, h.cap⟩
end Go.Proofs.Ytkchmoapcmageaa
