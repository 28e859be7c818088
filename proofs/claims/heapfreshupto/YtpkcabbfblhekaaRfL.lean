/-
  A range over a function whose own steps turn cells: the law of the statement.
-/
import Derived.Test.YtpkcabbfblhekaaBase
import Derived.RangeFuncLeaves
import Derived.RangeFuncRecord
import Derived.RangeFuncKeeps
namespace Go.Proofs.Ytpkcabbfblhekaa
open Go.RowKit

/-- Block D and the next one lie as they lay. -/
structure Kd (D : Nat) (W W' : World) : Prop where
  d : W'.heap[D]? = W.heap[D]?
  l : W'.heap[D + 1]? = W.heap[D + 1]?

theorem Kd.refl (D : Nat) (W : World) : Kd D W W := ⟨rfl, rfl⟩
theorem Kd.trans {D : Nat} {a b c : World} (h : Kd D a b) (k : Kd D b c) : Kd D a c := ⟨k.d.trans h.d, k.l.trans h.l⟩
theorem Kd.of_chg {D : Nat} {S : Nat → Prop} {W W' : World} (h : Chg S W W') (hs : D + 1 < W.heap.size) (hd : ¬ S D) (hl : ¬ S (D + 1)) : Kd D W W' :=
  ⟨h.block D (by omega) hd, h.block (D + 1) hs hl⟩

/-- It does not mind a turn of these two. -/
def St (D : Nat) (A : World → Prop) : Prop := ∀ W W', Chg (fun k => k = D ∨ k = D + 1) W W' → A W → A W'

theorem St.put {D : Nat} {A : World → Prop} (h : St D A) {W : World} (hW : A W) (o : Obj) : A (W.putObj (D + 1) o) :=
  h W _ ⟨rfl, rfl, rfl, by simp, fun k _ hn => World.putObj_heap_other (fun e => hn (.inr e))⟩ hW
theorem St.plain {D : Nat} {A : World → Prop} (h : St D A) {W W' : World} (hc : Chg (fun _ => False) W W') (hW : A W) : A W' := h W W' (hc.mono (fun _ _ h => h.elim)) hW

/-- What a Drain does, whoever takes the things: gf the function, pop its Pop. -/
def Drn {α : Type} (P : Program) (gf pop : Nat) (lb : Array Value) (hp : Nat) (enc : α → Value) (Bx : World → Prop) : Prop :=
  ∀ (l : Nat) (J : Nat → World → Prop) (M : Nat → α → World → Prop) (E X : World → Prop),
    (∀ m W, J m W → Bx W) →
    (∀ m W W', Chg (fun _ => False) W W' → J m W → J m W') → (∀ m x W W', Chg (fun _ => False) W W' → M m x W → M m x W') →
    (∀ W W', Chg (fun _ => False) W W' → E W → E W') → (∀ W W', Chg (fun _ => False) W W' → X W → X W') →
    (∀ m W, J m W → Calls P pop #[.pointer (some ⟨hp, 0, none⟩)] W fun e W' => (∃ x, e = .returned (.tuple #[enc x, .bool true]) ∧ M m x W') ∨ ∃ x, e = .returned (.tuple #[enc x, .bool false]) ∧ E W') →
    (∀ m x W, M m x W → YieldAt Fence.wide 0 P l #[enc x] W fun e W' => (e = .returned (.bool true) ∧ ∃ m', m' < m ∧ J m' W') ∨ (e = .returned (.bool false) ∧ X W')) →
    ∀ m W, J m W → CallsIn Fence.wide 0 P gf (#[.func (.yield l) #[] #[]] ++ lb) W fun e W' => (∃ v, e = .returned v) ∧ (E W' ∨ X W')

/-- How the body of a round may be left. -/
def dPost (D : Nat) (I : Nat → World → Prop) (X : Code → World → Prop) (m : Nat) (W : World) : Exit → Act → World → Prop
  | .normal, _, W' => Kd D W W' ∧ ∃ m', m' < m ∧ I m' W'
  | .ret, _, W' => Kd D W W' ∧ X .ret W'
  | .exit id, _, W' => Kd D W W' ∧ X (.exit id) W'
  | .goto t, _, W' => Kd D W W' ∧ X (.goto t) W'
  | .panic _, _, _ => False
  | .outgrown, _, _ => False

theorem wp_rangeD {α : Type} {P : Program} {g : Operand} {ps : Array Tmp} {assign body : Code} {Q : Exit → Act → World → Prop} {a : Act} {w : World}
    {gf pop hp : Nat} {lb : Array Value} {enc : α → Value} {Bx : World → Prop} (sq : Drn P gf pop lb hp enc Bx) (hg : a.eval g = .func (.func gf) #[] lb) (eg : ∀ args w, (callFunc gf args).run P w = .ok (.enter gf args) w) (hps : ps.size = 1)
    (I : Nat → World → Prop) (M : Nat → α → World → Prop) (A : Nat → α → Act → World → Prop) (E : World → Prop) (X : Code → World → Prop)
    (hI : ∀ m, St w.heap.size (I m)) (hM : ∀ m x, St w.heap.size (M m x)) (hA : ∀ m x b, St w.heap.size (A m x b)) (hE : St w.heap.size E) (hX : ∀ c, St w.heap.size (X c))
    (hbx : ∀ m W, I m W → Bx W) (m0 : Nat) (h0 : I m0 w)
    (hpop : ∀ m W, I m W → w.heap.size + 1 < W.heap.size → Calls P pop #[.pointer (some ⟨hp, 0, none⟩)] W fun e W' => Kd w.heap.size W W' ∧ ((∃ x, e = .returned (.tuple #[enc x, .bool true]) ∧ M m x W') ∨ ∃ x, e = .returned (.tuple #[enc x, .bool false]) ∧ E W'))
    (hassign : ∀ l m x W, M m x W → w.heap.size + 1 < W.heap.size → assign.wpIn (Fence.wide.inRound l) 0 P (Exit.then (fun b W' => Kd w.heap.size W W' ∧ A m x b W') (fun _ _ _ => False)) { tmps := (ps.zip #[enc x]).foldl (fun t (p, v) => t.setIfInBounds p v) a.tmps, defers := [] } W)
    (hbody : ∀ l m x b W, A m x b W → w.heap.size + 1 < W.heap.size → body.wpIn (Fence.wide.inRound l) 0 P (dPost w.heap.size I X m W) b W)
    (hdone : ∀ W, E W → W.heap[w.heap.size]? = some (.deferred (some [])) → Q .normal { a with defers := { target := .collected w.heap.size, args := #[] } :: a.defers } W)
    (hstop : ∀ c W, X c W → W.heap[w.heap.size]? = some (.deferred (some [])) → c.wp P Q { a with defers := { target := .collected w.heap.size, args := #[] } :: a.defers } W) :
    (Code.rangeFunc g ps assign body).wp P Q a w := by
  refine (wpIn_wide (n := 0)).1 (wpIn_rangeFunc ?_)
  intro fn hfn
  obtain ⟨rec, hrec⟩ : ∃ rec : LoopState → Option Code → Loop, rec = fun st pe => { state := st, pending := pe, fn, tmps := a.tmps, params := ps, assign, body, defers := w.heap.size } := ⟨_, rfl⟩
  obtain ⟨W1, hW1⟩ : ∃ W1, (w.alloc (.deferred (some []))).alloc (.loop (rec .ready none)) = W1 := ⟨_, rfl⟩
  have hL1 : W1.heap[w.heap.size + 1]? = some (.loop (rec .ready none)) := by
    rw [← hW1]; have := World.alloc_heap_new (w.alloc (.deferred (some []))) (.loop (rec .ready none)); rwa [World.size_alloc] at this
  have hK1 : W1.heap[w.heap.size]? = some (.deferred (some [])) := by
    rw [← hW1]; exact (Below.heap_alloc _ _ _ (by simp)).trans (World.alloc_heap_new w _)
  have hI1 : I m0 W1 := by rw [← hW1]; exact (hI m0).plain (((Chg.refl _ _).alloc _).alloc _) h0
  refine ⟨w.heap.size + 1, [{ target := .collected w.heap.size, args := #[] }], W1, { target := .fn (.func gf) lb, args := #[.func (.yield (w.heap.size + 1)) #[] #[]] }, W1, gf,
    #[.func (.yield (w.heap.size + 1)) #[] #[]] ++ lb, W1, ?_, ?_, ?_, ?_, fun h => by simp [Fence.wide] at h, ?_⟩
  · rw [← hW1, hrec]; exact run_enterLoop_outer _ _ _ _ _
  · simp only [resolve, hg]
    simp [go_sem]
  · intro f' _; trivial
  · simp [invoke, go_sem, eg]
  · have kp : ∀ {A B : World}, Chg (fun _ => False) A B → w.heap.size + 1 < A.heap.size → Kd w.heap.size A B := fun hc hs => Kd.of_chg hc hs (fun h => h) (fun h => h)
    refine (sq (w.heap.size + 1)
      (fun m W => I m W ∧ W.heap[w.heap.size + 1]? = some (.loop (rec .ready none)) ∧ W.heap[w.heap.size]? = some (.deferred (some [])))
      (fun m x W => M m x W ∧ W.heap[w.heap.size + 1]? = some (.loop (rec .ready none)) ∧ W.heap[w.heap.size]? = some (.deferred (some [])))
      (fun W => E W ∧ W.heap[w.heap.size + 1]? = some (.loop (rec .ready none)) ∧ W.heap[w.heap.size]? = some (.deferred (some [])))
      (fun W => ∃ c, X c W ∧ W.heap[w.heap.size + 1]? = some (.loop (rec .done (some c))) ∧ W.heap[w.heap.size]? = some (.deferred (some [])))
      (fun m W h => hbx m W h.1)
      (fun m A B hc h => ⟨(hI m).plain hc h.1, hc.heap_some h.2.1 (fun h => h), hc.heap_some h.2.2 (fun h => h)⟩)
      (fun m x A B hc h => ⟨(hM m x).plain hc h.1, hc.heap_some h.2.1 (fun h => h), hc.heap_some h.2.2 (fun h => h)⟩)
      (fun A B hc h => ⟨hE.plain hc h.1, hc.heap_some h.2.1 (fun h => h), hc.heap_some h.2.2 (fun h => h)⟩)
      (fun A B hc ⟨c, h⟩ => ⟨c, (hX c).plain hc h.1, hc.heap_some h.2.1 (fun h => h), hc.heap_some h.2.2 (fun h => h)⟩)
      ?_ ?_ m0 W1 ⟨hI1, hL1, hK1⟩).mono ?_
    · rintro m W ⟨hi, hl, hk⟩
      refine (hpop m W hi (Array.getElem?_eq_some_iff.1 hl).1).mono ?_
      rintro e W' ⟨kd, ⟨x, rfl, hm⟩ | ⟨x, rfl, hm⟩⟩
      · exact .inl ⟨x, rfl, hm, kd.l.trans hl, kd.d.trans hk⟩
      · exact .inr ⟨x, rfl, hm, kd.l.trans hl, kd.d.trans hk⟩
    · rintro m x W ⟨hm, hl, hk⟩
      have hlt : w.heap.size + 1 < W.heap.size := (Array.getElem?_eq_some_iff.1 hl).1
      have hy := run_yield (P := P) (args := #[enc x]) hl (by rw [hrec]; simp [hps])
      rw [hrec] at hy
      refine ⟨fn, _, assign, body, hy, roundIn_of_wpIn hfn (wpIn_mono (hassign _ m x W hm hlt) ?_)⟩
      rintro e b W2 hq
      cases e with
      | normal =>
        obtain ⟨kd2, ha⟩ := hq
        have hl2 := kd2.l.trans hl
        have hk2 := kd2.d.trans hk
        have hlt2 : w.heap.size + 1 < W2.heap.size := (Array.getElem?_eq_some_iff.1 hl2).1
        refine ⟨_, run_beginRound hl2 (by rw [hrec]), ?_⟩
        obtain ⟨W3, hW3⟩ : ∃ W3, W2.putObj (w.heap.size + 1) (.loop { rec .ready none with state := .busy }) = W3 := ⟨_, rfl⟩
        have hl3 : W3.heap[w.heap.size + 1]? = some (.loop { rec .ready none with state := .busy }) := by rw [← hW3]; exact World.putObj_heap_same hlt2
        have hk3 : W3.heap[w.heap.size]? = some (.deferred (some [])) := by rw [← hW3]; exact (World.putObj_heap_other (by omega)).trans hk2
        have ha3 : A m x b W3 := by rw [← hW3]; exact (hA m x b).put ha _
        have hs3 : w.heap.size + 1 < W3.heap.size := by rw [← hW3]; simpa using hlt2
        rw [hW3]
        refine wpIn_mono (hbody _ m x b W3 ha3 hs3) ?_
        have fin : ∀ (jump : Option Code) (W4 : World), Kd w.heap.size W3 W4 →
            (Instr.endRound (w.heap.size + 1) jump).run P W4 = .ok (.bool jump.isNone) (W4.putObj (w.heap.size + 1) (.loop (rec (if jump.isNone then .ready else .done) jump))) ∧
            (W4.putObj (w.heap.size + 1) (.loop (rec (if jump.isNone then .ready else .done) jump))).heap[w.heap.size + 1]? = some (.loop (rec (if jump.isNone then .ready else .done) jump)) ∧
            (W4.putObj (w.heap.size + 1) (.loop (rec (if jump.isNone then .ready else .done) jump))).heap[w.heap.size]? = some (.deferred (some [])) := fun jump W4 kd => by
          have hl4 := kd.l.trans hl3
          have := run_endRound (P := P) jump hl4
          rw [hrec] at this ⊢
          exact ⟨this, World.putObj_heap_same (Array.getElem?_eq_some_iff.1 hl4).1, (World.putObj_heap_other (by omega)).trans (kd.d.trans hk3)⟩
        rintro e a4 W4 hp
        cases e with
        | normal =>
          obtain ⟨kd4, m', hm', hi4⟩ := hp
          obtain ⟨hr, hl4, hk4⟩ := fin none W4 kd4
          exact ⟨_, _, hr, .inl ⟨rfl, m', hm', (hI m').put hi4 _, hl4, hk4⟩⟩
        | ret =>
          obtain ⟨kd4, hi4⟩ := hp
          obtain ⟨hr, hl4, hk4⟩ := fin (some .ret) W4 kd4
          exact ⟨_, _, hr, .inr ⟨rfl, .ret, (hX _).put hi4 _, hl4, hk4⟩⟩
        | exit id =>
          obtain ⟨kd4, hi4⟩ := hp
          obtain ⟨hr, hl4, hk4⟩ := fin (some (.exit id)) W4 kd4
          exact ⟨_, _, hr, .inr ⟨rfl, .exit id, (hX _).put hi4 _, hl4, hk4⟩⟩
        | goto t =>
          obtain ⟨kd4, hi4⟩ := hp
          obtain ⟨hr, hl4, hk4⟩ := fin (some (.goto t)) W4 kd4
          exact ⟨_, _, hr, .inr ⟨rfl, .goto t, (hX _).put hi4 _, hl4, hk4⟩⟩
        | panic ch => exact hp.elim
        | outgrown => exact hp.elim
      | exit id => exact hq.elim
      | goto t => exact hq.elim
      | ret => exact hq.elim
      | panic chain => exact hq.elim
      | outgrown => exact hq.elim
    · rintro e W2 ⟨⟨v, rfl⟩, (⟨hi, hl, hk⟩ | ⟨c, hi, hl, hk⟩)⟩
      · exact ⟨none, _, by have := run_endLoop (P := P) hl (by rw [hrec]; simp); rw [hrec] at this; exact this, hdone _ (hE.put hi _) ((World.putObj_heap_other (by omega)).trans hk)⟩
      · exact ⟨some c, _, by have := run_endLoop (P := P) hl (by rw [hrec]; simp); rw [hrec] at this; exact this, wpIn_wide.2 (hstop c _ ((hX c).put hi _) ((World.putObj_heap_other (by omega)).trans hk))⟩

end Go.Proofs.Ytpkcabbfblhekaa
