/-
  Memory: what a block holds, what a call changes; lists of bytes and of strings that lie alone; the iterator over a string.
-/
import Derived.Test.YtnmlhlgeacdcgaaRows
import Derived.Test.YtnmlhlgeacdcgaaCwP
import Derived.WalkKit
import Derived.WalkSpells
import Derived.WalkLawsBesides
import Derived.Lib.BitFns
import Derived.BigQuiet
import Derived.Deep.QuietTactic
import Derived.Deep.RegionHeld3
import Derived.Deep.AppendLies
import Derived.Deep.MidRow
import Derived.Deep.LoopGhost
import Derived.OwnWalk
import Derived.Below
import Derived.Lib.AppendStr
import Derived.Laws.IdiomStrings
namespace Go.Proofs.Ytnmlhlgeacdcgaa
open Go.RowKit

/-- Only blocks in S have turned, and some were made. -/
structure Chg (S : Nat → Prop) (w w' : World) : Prop where
  os : w'.os = w.os
  tape : w'.tape = w.tape
  output : w'.output = w.output
  size : w.heap.size ≤ w'.heap.size
  block : ∀ k, k < w.heap.size → ¬ S k → w'.heap[k]? = w.heap[k]?

theorem Chg.refl (S : Nat → Prop) (w : World) : Chg S w w := ⟨rfl, rfl, rfl, Nat.le_refl _, fun _ _ _ => rfl⟩
theorem Chg.drew {S : Nat → Prop} {a w : World} (h : Chg S a w) : Chg S a w.drew := ⟨h.os, h.tape, h.output, h.size, h.block⟩
theorem Chg.alloc {S : Nat → Prop} {a w : World} (h : Chg S a w) (o : Obj) : Chg S a (w.alloc o) :=
  ⟨h.os, h.tape, h.output, Nat.le_trans h.size (by simp), fun k hk hn => (Below.heap_alloc w o k (Nat.lt_of_lt_of_le hk h.size)).trans (h.block k hk hn)⟩
theorem Chg.setCell {S : Nat → Prop} {a w : World} (h : Chg S a w) {p : Addr} (hp : S p.block ∨ a.heap.size ≤ p.block) (u : Value) : Chg S a (w.setCell p u) :=
  ⟨h.os, h.tape, h.output, Nat.le_trans h.size (by simp), fun k hk hn => (Below.heap_setCell w p u k (fun e => by subst e; rcases hp with hp | hp; exact hn hp; omega)).trans (h.block k hk hn)⟩
theorem Chg.trans {S T : Nat → Prop} {a b c : World} (h : Chg S a b) (k : Chg T b c) (hT : ∀ i, T i → S i ∨ a.heap.size ≤ i) : Chg S a c :=
  ⟨k.os.trans h.os, k.tape.trans h.tape, k.output.trans h.output, Nat.le_trans h.size k.size, fun i hi hn => (k.block i (Nat.lt_of_lt_of_le hi h.size) (fun ht => by rcases hT i ht with x | x; exact hn x; omega)).trans (h.block i hi hn)⟩
theorem Chg.of_grown {w w' : World} {row : Option Nat} (h : w.grownBy w' row) : Chg (fun k => some k = row) w w' := ⟨h.os, h.tape, h.output, h.size, fun k hk hn => h.block k hk hn⟩
theorem Chg.of_below {w w' : World} (h : Below w.heap.size w w') (S : Nat → Prop) : Chg S w w' := ⟨h.os, h.tape, h.output, h.size, fun k hk _ => h.block k hk⟩
theorem Chg.below {w w' : World} {S : Nat → Prop} (h : Chg S w w') {B : Nat} (hB : B ≤ w.heap.size) (hS : ∀ k, S k → B ≤ k) : Below B w w' := ⟨h.os, h.tape, h.output, h.size, fun k hk => h.block k (by omega) (fun s => by have := hS k s; omega)⟩
theorem Chg.mono {w w' : World} {S T : Nat → Prop} (h : Chg S w w') (hT : ∀ i, i < w.heap.size → S i → T i) : Chg T w w' := ⟨h.os, h.tape, h.output, h.size, fun k hk hn => h.block k hk (fun s => hn (hT k hk s))⟩
theorem Chg.heap_some {w w' : World} {S : Nat → Prop} (h : Chg S w w') {k : Nat} {o : Obj} (hc : w.heap[k]? = some o) (hn : ¬ S k) : w'.heap[k]? = some o := (h.block k (Array.getElem?_eq_some_iff.1 hc).1 hn).trans hc

theorem addr_add (b off i : Nat) : (⟨b, off, none⟩ : Addr).add i = ⟨b, off + i, none⟩ := by unfold Addr.add; split <;> simp_all

/-- Block g has these cells. -/
structure Blk (w : World) (g : Nat) (cs : List Value) (t : TypeId) : Prop where
  eq : w.heap[g]? = some (.cells cs.toArray t (0, 0))

section
variable {w w' : World} {g : Nat} {cs : List Value} {t : TypeId}
theorem Blk.lt (h : Blk w g cs t) : g < w.heap.size := (Array.getElem?_eq_some_iff.1 h.eq).1
theorem Blk.cell (h : Blk w g cs t) (j : Nat) : w.cell? ⟨g, j, none⟩ = cs[j]? := by
  rw [cell_of_row w g j _ t (0, 0) h.eq]; simp
theorem Blk.fr (h : Blk w g cs t) (j : Nat) : w.frozen? ⟨g, j, none⟩ = false := frozen_of_row w g j _ t h.eq
theorem Blk.keep {S : Nat → Prop} (h : Blk w g cs t) (c : Chg S w w') (hn : ¬ S g) : Blk w' g cs t := ⟨c.heap_some h.eq hn⟩
theorem Blk.keep0 (h : Blk w g cs t) (b : Below w.heap.size w w') : Blk w' g cs t := by
  exact ⟨by rw [b.block g h.lt]; exact h.eq⟩
theorem Blk.made (w : World) (cs : List Value) (t : TypeId) : Blk (w.alloc (.cells cs.toArray t)) w.heap.size cs t := ⟨heap_alloc_new _ _⟩
theorem Blk.alloc (h : Blk w g cs t) (ob : Obj) : Blk (w.alloc ob) g cs t := h.keep0 ((Below.refl _ _).alloc (Nat.le_refl _) _)
theorem Blk.drew (h : Blk w g cs t) : Blk w.drew g cs t := ⟨h.eq⟩
theorem Blk.set (h : Blk w g cs t) (o : Nat) (v : Value) : Blk (w.setCell ⟨g, o, none⟩ v) g (cs.set o v) t := by
  refine ⟨?_⟩
  rw [heap_setCell_same w g o _ t v h.eq]
  simp
theorem Blk.range (h : Blk w g cs t) {o : Nat} {vs : List Value} (hv : (cs.drop o).take vs.length = vs) : w.rangeAt g o vs := fun j v hj => by
  rw [h.cell]
  rw [← hv, List.getElem?_take] at hj
  split at hj
  · rw [List.getElem?_drop] at hj; exact hj
  · cases hj
theorem Blk.there (h : Blk w g cs t) {o n : Nat} (hn : o + n ≤ cs.length) : w.there g o n := fun j hj => by
  rw [h.cell]
  refine ⟨?_, h.fr _⟩
  simp; omega
end

/-- A list with a piece laid over it. -/
def splice {α : Type} (l : List α) (o : Nat) (m : List α) : List α := l.take o ++ m ++ l.drop (o + m.length)

theorem Blk.setCells {g : Nat} {t : TypeId} : ∀ (vs : List Value) (o : Nat) (w : World) (cs : List Value), Blk w g cs t → o + vs.length ≤ cs.length → Blk (w.setCells g o vs) g (splice cs o vs) t ∧ Chg (fun k => k = g) w (w.setCells g o vs)
  | [], o, w, cs, h, _ => by
    refine ⟨?_, Chg.refl _ _⟩
    simpa [splice, World.setCells] using h
  | v :: vs, o, w, cs, h, hl => by
    simp only [List.length_cons] at hl
    have h1 := h.set o v
    obtain ⟨h2, h3⟩ := Blk.setCells vs (o + 1) _ _ h1 (by simp; omega)
    refine ⟨?_, ((Chg.refl (fun k => k = g) w).setCell (.inl rfl) v).trans h3 (fun _ e => .inl e)⟩
    have e : splice (cs.set o v) (o + 1) vs = splice cs o (v :: vs) := by
      unfold splice
      have ho : o < cs.length := by omega
      rw [List.take_set, List.drop_set_of_lt (by omega), List.take_add_one, List.set_append_right _ _ (by simp; omega)]
      simp only [List.getElem?_eq_getElem ho, Option.toList_some, List.length_take, Nat.min_eq_left (Nat.le_of_lt ho), Nat.sub_self, List.set_cons_zero, List.append_assoc, List.length_cons]
      rw [show o + 1 + vs.length = o + (vs.length + 1) by omega]
      rfl
    rw [e] at h2
    exact h2


theorem own_kept {w w' : World} {S : Nat → Prop} {B sz n : Nat} {e : TypeId} {v : Value} {xs : List Value} (h : w.ownsRow B e sz v n xs) (c : Chg S w w') (hn : ∀ k, v.ownBlock = some k → ¬ S k) : w'.ownsRow B e sz v n xs := by
  refine ⟨h.1, ?_⟩
  rcases h.2 with hn' | ⟨g, cap, cur, rfl, hb, hgg, rest⟩
  · exact .inl hn'
  · exact .inr ⟨g, cap, cur, rfl, hb, c.heap_some hgg (hn g rfl), rest⟩
theorem own_drew {w : World} {B sz n : Nat} {e : TypeId} {v : Value} {xs : List Value} (h : w.ownsRow B e sz v n xs) : w.drew.ownsRow B e sz v n xs := h
/-- The block that it lies in. -/
theorem own_block {w : World} {B sz n g : Nat} {e : TypeId} {v : Value} {xs : List Value} (h : w.ownsRow B e sz v n xs) (hg : v.ownBlock = some g) : B ≤ g ∧ g < w.heap.size ∧ ∃ cur, w.heap[g]? = some (.cells cur e (0, 0)) := by
  rcases h.2 with ⟨rfl, _⟩ | ⟨g', cap, cur, rfl, hb, hgg, rest⟩
  · cases hg
  · cases hg
    exact ⟨hb, (Array.getElem?_eq_some_iff.1 hgg).1, cur, hgg⟩
theorem own_form {w : World} {B sz n : Nat} {e : TypeId} {v : Value} {xs : List Value} (h : w.ownsRow B e sz v n xs) : ∃ A c, v = .slice A n c := by
  rcases h.2 with ⟨rfl, rfl⟩ | ⟨g', cap, cur, rfl, _⟩
  · exact ⟨_, _, rfl⟩
  · exact ⟨_, _, rfl⟩
theorem own_mono {w : World} {B B' sz n : Nat} {e : TypeId} {v : Value} {xs : List Value} (h : w.ownsRow B e sz v n xs) (hB : B' ≤ B) : w.ownsRow B' e sz v n xs := by
  refine ⟨h.1, ?_⟩
  rcases h.2 with hn' | ⟨g, cap, cur, rfl, hb, rest⟩
  · exact .inl hn'
  · exact .inr ⟨g, cap, cur, rfl, Nat.le_trans hB hb, rest⟩
theorem own_one {w : World} {B g o : Nat} {e : TypeId} {cs : List Value} {t : TypeId} {v : Value} {n sz : Nat} {xs : List Value} (h : w.ownsRow B e sz v n xs) (b : Blk w g cs t) (hte : t ≠ e) (ho : v.ownBlock = some o) : o ≠ g := by
  intro e'
  subst e'
  obtain ⟨_, _, cur, hc⟩ := own_block h ho
  rw [b.eq] at hc
  injection hc with hc
  injection hc with _ h2 _
  exact hte h2

/-- Bytes as cells; strings as cells. -/
def byC (l : List UInt8) : List Value := l.map fun b => .int .u8 b.toNat
def stC (l : List (List UInt8)) : List Value := l.map fun a => .string ⟨a.toArray⟩
theorem byC_len (l : List UInt8) : (byC l).length = l.length := by simp [byC]
theorem stC_len (l : List (List UInt8)) : (stC l).length = l.length := by simp [stC]
theorem byC_str (s : ByteArray) : Lib.strCells s = byC (bs s) := rfl
theorem byC_at {l : List UInt8} {j : Nat} (h : j < l.length) : (byC l)[j]? = some (.int .u8 (l[j].toNat : Int)) := by simp [byC, h]
theorem stC_at {l : List (List UInt8)} {j : Nat} (h : j < l.length) : (stC l)[j]? = some (.string ⟨l[j].toArray⟩) := by simp [stC, h]

/-- A slice of bytes, a slice of strings that lies alone in a block from B on. -/
def BL (w : World) (B : Nat) (v : Value) (l : List UInt8) : Prop := w.ownsRow B 5 1 v l.length (byC l)
def SL (w : World) (B : Nat) (v : Value) (l : List (List UInt8)) : Prop := w.ownsRow B 9 1 v l.length (stC l)
theorem BL.nil (w : World) (B : Nat) : BL w B (.slice none 0 0) [] := World.ownsRow_nil w B 5 1
theorem SL.nil (w : World) (B : Nat) : SL w B (.slice none 0 0) [] := World.ownsRow_nil w B 9 1
theorem BL.kept {w w' : World} {S : Nat → Prop} {B : Nat} {v : Value} {l : List UInt8} (h : BL w B v l) (c : Chg S w w') (hn : ∀ k, v.ownBlock = some k → ¬ S k) : BL w' B v l := own_kept h c hn
theorem SL.kept {w w' : World} {S : Nat → Prop} {B : Nat} {v : Value} {l : List (List UInt8)} (h : SL w B v l) (c : Chg S w w') (hn : ∀ k, v.ownBlock = some k → ¬ S k) : SL w' B v l := own_kept h c hn

theorem info5 : (Try.prog.info? 5).map (fun i => (i.zero, i.size, i.bytes)) = some (some (.int .u8 0), 1, 1) := by kernel_rfl
theorem info9 : (Try.prog.info? 9).map (fun i => (i.zero, i.size, i.bytes)) = some (some (.string ⟨#[]⟩), 1, 16) := by kernel_rfl

/-- append of a byte. -/
theorem app_byte {w : World} {B : Nat} {v : Value} {l : List UInt8} (h : BL w B v l) (hB : B ≤ w.heap.size) (x : UInt8) {g o c : Nat} (hx : w.cell? ⟨g, o, none⟩ = some (.int .u8 (x.toNat : Int))) (hl : l.length ≤ 1000000) (ty : TypeId) :
    ∃ v' w', (Builtin.append_ #[22, 22] ty #[v, .slice (some ⟨g, o, none⟩) 1 c]).run Try.prog w = .ok v' w' ∧ BL w' B v' (l ++ [x]) ∧ Chg (fun k => some k = v.ownBlock) w w' ∧ (v'.ownBlock = v.ownBlock ∨ v'.ownBlock = some w.heap.size) := by
  obtain ⟨i0, hi, hz0, hz1, hz2⟩ := info_parts info5
  obtain ⟨v', w', h1, h2, h3, _, h5⟩ := run_append_own_at (P := Try.prog) w B 22 ty 5 i0 (.int .u8 0) 1 1 Try.underlying22 hi hz0 hz1 hz2 rfl (by decide) v l.length (byC l) h ⟨g, o, none⟩ 1 c (byC [x]) rfl (fun j u hu => by
    cases j with
    | zero => rw [addr_add]; simp [byC] at hu; rw [← hu]; exact hx
    | succ j => simp [byC] at hu) (fun u hu => by simp [byC] at hu; rw [hu]; rfl) (by unfold maxLen; omega) (by omega) hB
  exact ⟨v', w', h1, by unfold BL; rw [List.length_append]; simpa [byC] using h2, Chg.of_grown h3, h5⟩
/-- append of a string. -/
theorem app_str {w : World} {B : Nat} {v : Value} {l : List (List UInt8)} (h : SL w B v l) (hB : B ≤ w.heap.size) (x : List UInt8) {g o c : Nat} (hx : w.cell? ⟨g, o, none⟩ = some (.string ⟨x.toArray⟩)) (hl : l.length ≤ 1000000) (ty : TypeId) :
    ∃ v' w', (Builtin.append_ #[24, 24] ty #[v, .slice (some ⟨g, o, none⟩) 1 c]).run Try.prog w = .ok v' w' ∧ SL w' B v' (l ++ [x]) ∧ Chg (fun k => some k = v.ownBlock) w w' ∧ (v'.ownBlock = v.ownBlock ∨ v'.ownBlock = some w.heap.size) := by
  obtain ⟨i0, hi, hz0, hz1, hz2⟩ := info_parts info9
  obtain ⟨v', w', h1, h2, h3, _, h5⟩ := run_append_own_at (P := Try.prog) w B 24 ty 9 i0 (.string ⟨#[]⟩) 1 16 Try.underlying24 hi hz0 hz1 hz2 rfl (by decide) v l.length (stC l) h ⟨g, o, none⟩ 1 c (stC [x]) rfl (fun j u hu => by
    cases j with
    | zero => rw [addr_add]; simp [stC] at hu; rw [← hu]; exact hx
    | succ j => simp [stC] at hu) (fun u hu => by simp [stC] at hu; rw [hu]; rfl) (by unfold maxLen; omega) (by omega) hB
  exact ⟨v', w', h1, by unfold SL; rw [List.length_append]; simpa [stC] using h2, Chg.of_grown h3, h5⟩
/-- append of a text. -/
theorem app_text {w : World} {B : Nat} {v : Value} {l : List UInt8} (h : BL w B v l) (hB : B ≤ w.heap.size) (x : List UInt8) (hl : l.length + x.length ≤ 1000000) (ty : TypeId) :
    ∃ v' w', (Builtin.append_ #[22, 9] ty #[v, .string ⟨x.toArray⟩]).run Try.prog w = .ok v' w' ∧ BL w' B v' (l ++ x) ∧ Chg (fun k => some k = v.ownBlock) w w' := by
  obtain ⟨i0, hi, hz0, hz1, hz2⟩ := info_parts info5
  have hs : (⟨x.toArray⟩ : ByteArray).size = x.length := by rw [← bs_length, bs_mk]
  obtain ⟨v', w', h1, h2, h3, _⟩ := Lib.run_append_own_string (P := Try.prog) w B 22 9 ty 5 i0 Try.underlying22 Try.underlying9 hi hz0 hz1 hz2 v l.length (byC l) h ⟨x.toArray⟩ (by rw [hs]; unfold maxLen; omega) (by rw [hs]; omega) hB
  rw [byC_str, bs_mk, hs] at h2
  exact ⟨v', w', h1, by unfold BL; rw [List.length_append]; simpa [byC] using h2, Chg.of_grown h3⟩

theorem wpList_appG {sl su : Nat} {ops : Array Oper} {rest : List Oper} {o : Oper} {a : Act} {w w' : World} {Q : Exit → Act → World → Prop} (hgd : o.guard = none) (s x : Operand)
    (ho : o.op = .call { callee := .builtin .append, args := #[s, x], argTypes := #[sl, su] }) {v u v' : Value} (hs : a.eval s = v) (hx : a.eval x = u) (hr : (Builtin.append_ #[sl, su] o.type #[v, u]).run Try.prog w = .ok v' w')
    (h : wpList Try.prog ops Q rest (a.put o.dst v') w') : wpList Try.prog ops Q (o :: rest) a w := by
  refine wpList_plain hgd fun K hK => ?_
  unfold Oper.wp execOp
  simp only [ho, resolve, invoke, builtin, Sem.run_bind, Sem.run_pure, Result.andThen_ok, List.map_toArray, List.map_cons, List.map_nil, hs, hx, hr]
  exact hK _ _ h
theorem wp_appG {sl su : Nat} {o : Oper} {a : Act} {w w' : World} {K : Act → World → Prop} {Q : Exit → Act → World → Prop} (s x : Operand)
    (ho : o.op = .call { callee := .builtin .append, args := #[s, x], argTypes := #[sl, su] }) {v u v' : Value} (hs : a.eval s = v) (hx : a.eval x = u) (hr : (Builtin.append_ #[sl, su] o.type #[v, u]).run Try.prog w = .ok v' w')
    (h : K (a.put o.dst v') w') : Oper.wp Try.prog o a w K Q := by
  unfold Oper.wp execOp
  simp only [ho, resolve, invoke, builtin, Sem.run_bind, Sem.run_pure, Result.andThen_ok, List.map_toArray, List.map_cons, List.map_nil, hs, hx, hr]
  exact h

/-- string(b). -/
theorem conv_back {w : World} {A : Option Addr} {n c : Nat} {l : List UInt8} (hn : n = l.length) (h : ∀ j (hj : j < l.length), ∃ g o, A = some ⟨g, o, none⟩ ∧ w.cell? ⟨g, o + j, none⟩ = some (.int .u8 (l[j].toNat : Int))) :
    (convert 22 9 (.slice A n c)).run Try.prog w = .ok (.string ⟨l.toArray⟩) w := by
  subst hn
  cases A with
  | none =>
    cases l with
    | nil => 
      rw [run_convert_bytes_string w 22 9 5 none _ c Try.underlying22 Try.underlying5 Try.underlying9]
      simp [Conv.bytesToString]
      rfl
    | cons x t =>
      obtain ⟨g, o, e, _⟩ := h 0 (by simp)
      cases e
  | some a =>
    refine run_convert_bytes_back w 22 9 5 a c l Try.underlying22 Try.underlying5 Try.underlying9 (fun j hj => ?_)
    obtain ⟨g, o, e, hc⟩ := h j hj
    cases e
    rw [addr_add]
    exact hc
theorem BL.at {w : World} {B : Nat} {A : Option Addr} {n c : Nat} {l : List UInt8} (h : BL w B (.slice A n c) l) : ∀ j (hj : j < l.length), ∃ g o, A = some ⟨g, o, none⟩ ∧ w.cell? ⟨g, o + j, none⟩ = some (.int .u8 (l[j].toNat : Int)) := by
  intro j hj
  rcases h.2 with ⟨e, e2⟩ | ⟨g, cap, cur, e, _⟩
  · omega
  · injection e with e1 e2 e3
    refine ⟨g, 0, e1, ?_⟩
    have := World.ownsRow.cells h (g := g) (by rw [e1]; rfl) j _ (byC_at hj)
    rwa [addr_add] at this
theorem SL.at {w : World} {B : Nat} {A : Option Addr} {n c : Nat} {l : List (List UInt8)} (h : SL w B (.slice A n c) l) (j : Nat) (hj : j < l.length) : ∃ g, A = some ⟨g, 0, none⟩ ∧ w.cell? ⟨g, j, none⟩ = some (.string ⟨l[j].toArray⟩) := by
  rcases h.2 with ⟨e, e2⟩ | ⟨g, cap, cur, e, _⟩
  · omega
  · injection e with e1 e2 e3
    refine ⟨g, e1, ?_⟩
    have := World.ownsRow.cells h (g := g) (by rw [e1]; rfl) j _ (stC_at hj)
    rwa [addr_add, Nat.zero_add] at this
theorem BL.str {w : World} {B : Nat} {A : Option Addr} {n c : Nat} {l : List UInt8} (h : BL w B (.slice A n c) l) : (convert 22 9 (.slice A n c)).run Try.prog w = .ok (.string ⟨l.toArray⟩) w := by
  have hn : n = l.length := by
    obtain ⟨A', c', e⟩ := own_form h
    injection e with _ e2 _
  exact conv_back hn h.at

/-- The iterator over a string. -/
def setIt (w : World) (I : Nat) (s : ByteArray) (pos : Nat) : World := { w with heap := w.heap.setIfInBounds I (.stringIter s pos) }
theorem setIt_at {w : World} {I : Nat} {s : ByteArray} {pos : Nat} (h : I < w.heap.size) : (setIt w I s pos).heap[I]? = some (.stringIter s pos) := by
  simp [setIt, h]
theorem setIt_chg (w : World) (I : Nat) (s : ByteArray) (pos : Nat) : Chg (fun k => k = I) w (setIt w I s pos) :=
  ⟨rfl, rfl, rfl, by simp [setIt], fun k _ hn => by simp only [setIt]; exact Array.getElem?_setIfInBounds_ne (fun e => hn e.symm)⟩
theorem next_at {w : World} {I : Nat} {s : ByteArray} {pos : Nat} (hI : w.heap[I]? = some (.stringIter s pos)) (h : pos < s.size) (ty : TypeId) :
    (Instr.next (.pointer (some ⟨I, 0, none⟩)) true ty).run Try.prog w = .ok (.tuple #[.bool true, .int .i64 pos, .int .i32 (Utf8.decode s pos).1]) (setIt w I s (pos + (Utf8.decode s pos).2)) := by
  simp only [Instr.next, getObj, setObj, Sem.run_bind, Sem.run, hI, Result.andThen, h, if_true]
  simp [goInt, setIt]
theorem next_done {w : World} {I : Nat} {s : ByteArray} {pos : Nat} (hI : w.heap[I]? = some (.stringIter s pos)) (h : ¬ pos < s.size) (ty : TypeId) :
    (Instr.next (.pointer (some ⟨I, 0, none⟩)) true ty).run Try.prog w = .ok (.tuple #[.bool false]) w := by
  simp [Instr.next, getObj, Sem.run, hI, h]

end Go.Proofs.Ytnmlhlgeacdcgaa
