/-
  The walks of a Writer's calls.
-/
import Derived.Test.YtkchmoapcmageaaBase
namespace Go.Proofs.Ytkchmoapcmageaa
open Go.RowKit

/-- A Writer lies at place o of block p, and has laid down l. -/
structure WS (w : World) (p o : Nat) (cs : Array Value) (t : TypeId) (v : Value) (l : List Int) : Prop where
  blk : w.heap[p]? = some (.cells cs t (0, 0))
  at_ : cs[o]? = some v
  own : Own w v l
  ne : v.ownBlock ≠ some p

/-- What a call on it leaves. -/
def PW (w w' : World) (p o : Nat) (cs : Array Value) (t : TypeId) (v : Value) (l : List Int) : Prop :=
  ∃ v', WS w' p o (cs.setIfInBounds o v') t v' l ∧ Chg (fun k => k = p ∨ some k = v.ownBlock) w w' ∧ (v'.ownBlock = v.ownBlock ∨ ∃ g, v'.ownBlock = some g ∧ w.heap.size ≤ g)

theorem WS.cell {w : World} {p o : Nat} {cs : Array Value} {t : TypeId} {v : Value} {l : List Int} (h : WS w p o cs t v l) : w.cell? ⟨p, o, none⟩ = some v := by
  rw [cell_of_row w p o cs t (0, 0) h.blk]; exact h.at_
theorem WS.lt {w : World} {p o : Nat} {cs : Array Value} {t : TypeId} {v : Value} {l : List Int} (h : WS w p o cs t v l) : p < w.heap.size := (Array.getElem?_eq_some_iff.1 h.blk).1

theorem src_new (w : World) (l : List Int) (c : Nat) : Src (w.alloc (.cells (bs l).toArray 5)) (.slice (some ⟨w.heap.size, 0, none⟩) l.length c) l :=
  .inr ⟨_, _, rfl, fun j u hu => ⟨rfl, by
    rw [cell_of_row _ _ _ (bs l).toArray 5 _ (heap_alloc_new _ _)]
    simpa using hu⟩⟩
theorem Own.alloc {w : World} {v : Value} {l : List Int} (h : Own w v l) (o : Obj) : Own (w.alloc o) v l := h.kept ((Chg.refl (fun _ => False) _).alloc _) (fun _ _ h => h)

theorem WS.stay {w w1 : World} {p o : Nat} {cs : Array Value} {t : TypeId} {v : Value} {l : List Int} (h : WS w p o cs t v l) (c : Chg (fun k => some k = v.ownBlock) w w1) : w1.heap[p]? = some (.cells cs t (0, 0)) ∧ w1.cell? ⟨p, o, none⟩ = some v ∧ w1.frozen? ⟨p, o, none⟩ = false := by
  have hb := c.heap_some h.blk (fun e => h.ne e.symm)
  exact ⟨hb, by rw [cell_of_row w1 p o cs t (0, 0) hb]; exact h.at_, frozen_of_row w1 p o cs t hb⟩

theorem WS.stored {w w1 : World} {p o : Nat} {cs : Array Value} {t : TypeId} {v v' : Value} {l l' : List Int} (h : WS w p o cs t v l) (c : Chg (fun k => some k = v.ownBlock) w w1) (hv : Own w1 v' l')
    (hat : v'.ownBlock = v.ownBlock ∨ ∃ g, v'.ownBlock = some g ∧ w.heap.size ≤ g) : PW w (w1.setCell ⟨p, o, none⟩ v') p o cs t v l' := by
  have hb := (h.stay c).1
  have hne : v'.ownBlock ≠ some p := by
    rcases hat with e | ⟨g, e, hg⟩
    · rw [e]; exact h.ne
    · rw [e]; intro e2; have := h.lt; simp at e2; omega
  refine ⟨v', ⟨heap_setCell_same w1 p o cs t v' hb, ?_, ?_, hne⟩, ?_, hat⟩
  · rw [Array.getElem?_setIfInBounds_self_of_lt (Array.getElem?_eq_some_iff.1 h.at_).1]
  · exact hv.kept ((Chg.refl (fun k => k = p) _).setCell (.inl rfl) _) (fun k hk e => hne (by rw [hk, e]))
  · exact (c.mono (fun _ _ e => .inr e)).setCell (.inl (.inl rfl)) _

theorem WS.after {w w0 w1 : World} {p o : Nat} {cs : Array Value} {t : TypeId} {v v' : Value} {l l' : List Int} (h : WS w p o cs t v l) (c0 : Chg (fun k => some k = v.ownBlock) w w0) (hv : Own w1 v' l') (hch : Chg (fun k => some k = v.ownBlock) w0 w1)
    (hat : v'.ownBlock = v.ownBlock ∨ v'.ownBlock = some w0.heap.size) : w1.cell? ⟨p, o, none⟩ = some v ∧ w1.frozen? ⟨p, o, none⟩ = false ∧ Hid (PW w (w1.setCell ⟨p, o, none⟩ v') p o cs t v l') ∧ ∃ a c, v' = .slice a l'.length c := by
  have c := c0.trans hch (fun i e => .inl e)
  obtain ⟨_, b, d⟩ := h.stay c
  exact ⟨b, d, h.stored c hv (hat.imp id fun e => ⟨_, e, c0.size⟩), hv.form⟩

theorem PW.then {w w1 w2 : World} {p o : Nat} {cs : Array Value} {t : TypeId} {v v1 : Value} {l1 l2 : List Int} (h1 : WS w1 p o (cs.setIfInBounds o v1) t v1 l1) (c : Chg (fun k => k = p ∨ some k = v.ownBlock) w w1) (hat : v1.ownBlock = v.ownBlock ∨ ∃ g, v1.ownBlock = some g ∧ w.heap.size ≤ g)
    (h : PW w1 w2 p o (cs.setIfInBounds o v1) t v1 l2) : PW w w2 p o cs t v l2 := by
  obtain ⟨v2, a, b, d⟩ := h
  refine ⟨v2, by simpa using a, c.trans b ?_, ?_⟩
  · rintro i (rfl | e)
    · exact .inl (.inl rfl)
    · rcases hat with x | ⟨g, x, hg⟩
      · exact .inl (.inr (by rw [e, x]))
      · rw [x] at e; simp at e; exact .inr (by omega)
  · rcases d with d | ⟨g, d, hg⟩
    · rw [d]; exact hat
    · exact .inr ⟨g, d, Nat.le_trans c.size hg⟩

set_option maxRecDepth 100000 in
set_option maxHeartbeats 1000000 in
theorem wByte_any {w : World} {p o : Nat} {cs : Array Value} {t : TypeId} {v : Value} {l : List Int} (h : WS w p o cs t v l) (b : Int) (hl : l.length + 1 ≤ 140737488355328) :
    Calls Try.prog 41 #[.pointer (some ⟨p, o, none⟩), .int .u8 b] w fun e w' => e = .returned (.tuple #[]) ∧ PW w w' p o cs t v (l ++ [b]) := by
  have hc := h.cell
  have H : Hid _ := h
  clear h
  go_enter Try.func41, Try.ntmps41
  go_wp2_with (refine wpList_app rfl (.tmp 8) (.tmp 10) rfl (v := v) rfl rfl (H.out.own.alloc _) (src_new _ [b] 1) hl ?_; intro v' w1 hv hch hat; obtain ⟨hc1, hf1, R, a1, c1, hv2⟩ := H.out.after ((Chg.refl _ _).alloc _) hv hch hat; subst hv2; clear hv hch hat)
  refine bodyPost_end (results_none rfl _ _ _) rfl ⟨rfl, ?_⟩
  have R2 := R.out
  rwa [List.length_append] at R2

set_option maxRecDepth 100000 in
set_option maxHeartbeats 1000000 in
theorem wRaw_any {w : World} {p o : Nat} {cs : Array Value} {t : TypeId} {v s : Value} {l m : List Int} (h : WS w p o cs t v l) (hs : Src w s m) (hl : l.length + m.length ≤ 140737488355328) :
    Calls Try.prog 45 #[.pointer (some ⟨p, o, none⟩), s] w fun e w' => e = .returned (.tuple #[]) ∧ PW w w' p o cs t v (l ++ m) := by
  have hc := h.cell
  have H : Hid _ := h
  have HS : Hid _ := hs
  obtain ⟨a0, c0, hs2⟩ := hs.form
  subst hs2
  clear h hs
  go_enter Try.func45, Try.ntmps45
  go_wp2_with (refine wpList_app rfl (.tmp 8) (.tmp 9) rfl (v := v) rfl rfl H.out.own HS.out hl ?_; intro v' w1 hv hch hat; obtain ⟨hc1, hf1, R, a1, c1, hv2⟩ := H.out.after (Chg.refl _ _) hv hch hat; subst hv2; clear hv hch hat)
  refine bodyPost_end (results_none rfl _ _ _) rfl ⟨rfl, ?_⟩
  have R2 := R.out
  rwa [List.length_append] at R2

/-- A word's bytes. -/
def word (n : Int) : List Int := [n / 16777216, n / 65536 % 256, n / 256 % 256, n % 256]

set_option maxRecDepth 100000 in
set_option maxHeartbeats 1000000 in
theorem wWord_any {w : World} {p o : Nat} {cs : Array Value} {t : TypeId} {v : Value} {l : List Int} (h : WS w p o cs t v l) (n : Int) (h0 : 0 ≤ n) (h1 : n < 4294967296) (hl : l.length + 4 ≤ 140737488355328) :
    Calls Try.prog 42 #[.pointer (some ⟨p, o, none⟩), .int .u32 n] w fun e w' => e = .returned (.tuple #[]) ∧ PW w w' p o cs t v (l ++ word n) := by
  have hc := h.cell
  have H : Hid _ := h
  clear h
  go_enter Try.func42, Try.ntmps42
  go_wp2_with (refine wpList_app rfl (.tmp 8) (.tmp 20) rfl (v := v) rfl rfl (H.out.own.alloc _) (src_new _ [_, _, _, _] 4) hl ?_; intro v' w1 hv hch hat; obtain ⟨hc1, hf1, R, a1, c1, hv2⟩ := H.out.after ((Chg.refl _ _).alloc _) hv hch hat; subst hv2; clear hv hch hat)
  refine bodyPost_end (results_none rfl _ _ _) rfl ⟨rfl, ?_⟩
  have R2 := R.out
  rwa [List.length_append] at R2
end Go.Proofs.Ytkchmoapcmageaa
