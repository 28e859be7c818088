/-
  Boxes of a function beside a heap whose compare turns blocks of its own.
-/
import Derived.Test.YtpkcabbfblhekaaDrE
import Derived.Test.YtpkcabbfblhekaaRfR
namespace Go.Proofs.Ytpkcabbfblhekaa
open Go.RowKit

/-- The boxes of a function, blocks that it must not touch, and blocks for deferred calls. -/
structure DY (T : Nat → Prop) (W w : World) (Fs Ds : List Nat) (Bs : List Bo) (p : Nat) (v lv : Value) : Prop where
  bk : ∀ x ∈ Bs, Blk w x.1 x.2.1 x.2.2
  inc : Bs.Pairwise (fun x y => x.1 < y.1)
  ds : ∀ d ∈ Ds, w.heap[d]? = some (.deferred (some []))
  nd : Ds.Nodup
  ch : Chg T W w
  tl : ∀ k, T k → k < W.heap.size
  of : ∀ k, (k ∈ Fs ∨ k ∈ Ds ∨ ∃ x ∈ Bs, x.1 = k) → W.heap.size ≤ k ∧ k ≠ p ∧ v.ownBlock ≠ some k ∧ lv.ownBlock ≠ some k
  fb : ∀ k, (k ∈ Fs ∨ k ∈ Ds) → ∀ x ∈ Bs, x.1 ≠ k
  pl : W.heap.size ≤ p
  vl : ∀ k, v.ownBlock = some k → W.heap.size ≤ k

section
variable {T : Nat → Prop} {W w w' : World} {Fs Ds : List Nat} {Bs : List Bo} {p : Nat} {v lv : Value}

theorem DY.at (h : DY T W w Fs Ds Bs p v lv) (i : Nat) {x : Bo} (hx : Bs[i]? = some x) : Blk w x.1 x.2.1 x.2.2 := h.bk x (List.mem_of_getElem? hx)
theorem DY.dlt (h : DY T W w Fs Ds Bs p v lv) {d : Nat} (hd : d ∈ Ds) : d < w.heap.size := (Array.getElem?_eq_some_iff.1 (h.ds d hd)).1

/-- A turn of blocks that are none of these. -/
theorem DY.keepS {S : Nat → Prop} (h : DY T W w Fs Ds Bs p v lv) (k : Chg S w w') (hb : ∀ x ∈ Bs, ¬ S x.1) (hd : ∀ d ∈ Ds, ¬ S d) (hW : ∀ i, S i → T i ∨ W.heap.size ≤ i) : DY T W w' Fs Ds Bs p v lv :=
  ⟨fun x hx => (h.bk x hx).keep k (hb x hx), h.inc, fun d hd' => k.heap_some (h.ds d hd') (hd d hd'), h.nd, h.ch.trans k hW, h.tl, h.of, h.fb, h.pl, h.vl⟩
theorem DY.keep (h : DY T W w Fs Ds Bs p v lv) (k : Chg (fun _ => False) w w') : DY T W w' Fs Ds Bs p v lv := h.keepS k (fun _ _ h => h) (fun _ _ h => h) (fun _ h => h.elim)

/-- A call on the heap. -/
theorem DY.turn (h : DY T W w Fs Ds Bs p v lv) {v' lv' : Value} (k : Chg (fun k => k = p ∨ some k = v.ownBlock ∨ T k) w w') (hf : ∀ k ∈ Fs, k < w.heap.size)
    (hv : ∀ k, v'.ownBlock = some k → some k = v.ownBlock ∨ w.heap.size ≤ k) (hl : ∀ k, lv'.ownBlock = some k → lv.ownBlock = some k ∨ w.heap.size ≤ k) : DY T W w' Fs Ds Bs p v' lv' := by
  have hno : ∀ k, (k ∈ Fs ∨ k ∈ Ds ∨ ∃ x ∈ Bs, x.1 = k) → ¬ (k = p ∨ some k = v.ownBlock ∨ T k) := fun k hk e => by
    obtain ⟨h0, h2, h3, _⟩ := h.of k hk
    rcases e with e | e | e
    · exact h2 e
    · exact h3 e.symm
    · have := h.tl k e; omega
  have h1 := h.keepS k (fun x hx => hno _ (.inr (.inr ⟨x, hx, rfl⟩))) (fun d hd => hno _ (.inr (.inl hd))) (fun i hi => by
    rcases hi with e | e | e
    · exact .inr (by rw [e]; exact h.pl)
    · exact .inr (h.vl i e.symm)
    · exact .inl e)
  have hlt : ∀ k, (k ∈ Fs ∨ k ∈ Ds ∨ ∃ x ∈ Bs, x.1 = k) → k < w.heap.size := fun k hk => by
    rcases hk with hk | hk | ⟨x, hx, rfl⟩
    · exact hf k hk
    · exact h.dlt hk
    · exact (h.bk x hx).lt
  refine ⟨h1.bk, h1.inc, h1.ds, h1.nd, h1.ch, h1.tl, fun k hk => ?_, h1.fb, h1.pl, fun k hk => ?_⟩
  · obtain ⟨a1, a2, a3, a4⟩ := h.of k hk
    have := hlt k hk
    refine ⟨a1, a2, fun e => ?_, fun e => ?_⟩
    · rcases hv k e with e | e
      · exact a3 e.symm
      · omega
    · rcases hl k e with e | e
      · exact a4 e
      · omega
  · rcases hv k hk with e | e
    · exact h.vl k e.symm
    · have := h.ch.size; omega

/-- A new list. -/
theorem DY.list (h : DY T W w Fs Ds Bs p v lv) {lv' : Value} (hf : ∀ k ∈ Fs, k < w.heap.size) (hl : ∀ k, lv'.ownBlock = some k → lv.ownBlock = some k ∨ w.heap.size ≤ k) : DY T W w Fs Ds Bs p v lv' := by
  refine ⟨h.bk, h.inc, h.ds, h.nd, h.ch, h.tl, fun k hk => ?_, h.fb, h.pl, h.vl⟩
  obtain ⟨a1, a2, a3, a4⟩ := h.of k hk
  have hlt : k < w.heap.size := by
    rcases hk with hk | hk | ⟨x, hx, rfl⟩
    · exact hf k hk
    · exact h.dlt hk
    · exact (h.bk x hx).lt
  refine ⟨a1, a2, a3, fun e => ?_⟩
  rcases hl k e with e | e
  · exact a4 e
  · omega

/-- A store into a box. -/
theorem DY.store (h : DY T W w Fs Ds Bs p v lv) (i : Nat) {b t o : Nat} {u : List Value} (hi : Bs[i]? = some (b, u, t)) (x : Value) : DY T W (w.setCell ⟨b, o, none⟩ x) Fs Ds (Bs.set i (b, u.set o x, t)) p v lv := by
  have hm := List.mem_of_getElem? hi
  have hb : Blk w b u t := h.bk _ hm
  have hch : Chg (fun k => k = b) w (w.setCell ⟨b, o, none⟩ x) := (Chg.refl (fun k => k = b) _).setCell (p := ⟨b, o, none⟩) (.inl rfl) _
  have hfst : ∀ y ∈ Bs.set i (b, u.set o x, t), ∃ z ∈ Bs, z.1 = y.1 := fun y hy => by
    rcases List.mem_or_eq_of_mem_set hy with hy | hy
    · exact ⟨y, hy, rfl⟩
    · exact ⟨_, hm, by rw [hy]⟩
  refine ⟨fun y hy => ?_, inc_set h.inc hi, fun d hd => hch.heap_some (h.ds d hd) (fun e => h.fb d (.inr hd) _ hm e.symm), h.nd, h.ch.trans hch (fun k hk => .inr (by rw [hk]; exact (h.of b (.inr (.inr ⟨_, hm, rfl⟩))).1)), h.tl, fun k hk => ?_, fun k hk y hy => ?_, h.pl, h.vl⟩
  · rw [List.mem_iff_getElem?] at hy
    obtain ⟨j, hj⟩ := hy
    by_cases e : i = j
    · subst e
      rw [List.getElem?_set_self (List.getElem?_eq_some_iff.1 hi).1] at hj
      obtain rfl := Option.some.inj hj
      exact hb.set o x
    · rw [List.getElem?_set_ne e] at hj
      exact (h.bk y (List.mem_of_getElem? hj)).keep hch (inc_ne h.inc hj hi (fun e' => e e'.symm))
  · refine h.of k ?_
    rcases hk with hk | hk | ⟨y, hy, e⟩
    · exact .inl hk
    · exact .inr (.inl hk)
    · obtain ⟨z, hz, e'⟩ := hfst y hy
      exact .inr (.inr ⟨z, hz, e'.trans e⟩)
  · obtain ⟨z, hz, e'⟩ := hfst y hy
    rw [← e']
    exact h.fb k hk z hz

/-- A new box. -/
theorem DY.box (h : DY T W w Fs Ds Bs p v lv) (u : List Value) (t : Nat) (hf : ∀ k ∈ Fs, k < w.heap.size) (hp : p < w.heap.size) (hv : ∀ k, v.ownBlock = some k → k < w.heap.size) (hl : ∀ k, lv.ownBlock = some k → k < w.heap.size) :
    DY T W (w.alloc (.cells u.toArray t)) Fs Ds (Bs ++ [(w.heap.size, u, t)]) p v lv := by
  have k0 : Chg (fun _ => False) w (w.alloc (.cells u.toArray t)) := (Chg.refl _ _).alloc _
  have h1 := h.keep k0
  refine ⟨fun x hx => ?_, ?_, h1.ds, h1.nd, h1.ch, h1.tl, fun k hk => ?_, fun k hk x hx => ?_, h1.pl, h1.vl⟩
  · rcases List.mem_append.1 hx with hx | hx
    · exact h1.bk x hx
    · obtain rfl := List.mem_singleton.1 hx
      exact Blk.made w u t
  · rw [List.pairwise_append]
    refine ⟨h.inc, List.pairwise_singleton _ _, fun x hx y hy => ?_⟩
    obtain rfl := List.mem_singleton.1 hy
    exact (h.bk x hx).lt
  · have hk' : (k ∈ Fs ∨ k ∈ Ds ∨ ∃ x ∈ Bs, x.1 = k) ∨ k = w.heap.size := by
      rcases hk with hk | hk | ⟨x, hx, e⟩
      · exact .inl (.inl hk)
      · exact .inl (.inr (.inl hk))
      · rcases List.mem_append.1 hx with hx | hx
        · exact .inl (.inr (.inr ⟨x, hx, e⟩))
        · obtain rfl := List.mem_singleton.1 hx
          exact .inr e.symm
    rcases hk' with hk' | rfl
    · exact h.of k hk'
    · exact ⟨h.ch.size, by omega, fun e => by have := hv _ e; omega, fun e => by have := hl _ e; omega⟩
  · rcases List.mem_append.1 hx with hx | hx
    · exact h.fb k hk x hx
    · obtain rfl := List.mem_singleton.1 hx
      have : k < w.heap.size := by
        rcases hk with hk | hk
        · exact hf k hk
        · exact h.dlt hk
      show w.heap.size ≠ k
      omega

/-- Fewer boxes. -/
theorem DY.less (h : DY T W w Fs Ds Bs p v lv) {Cs : List Bo} (hs : Cs.Sublist Bs) : DY T W w Fs Ds Cs p v lv :=
  ⟨fun x hx => h.bk x (hs.subset hx), h.inc.sublist hs, h.ds, h.nd, h.ch, h.tl, fun k hk => h.of k (by
    rcases hk with hk | hk | ⟨x, hx, e⟩
    · exact .inl hk
    · exact .inr (.inl hk)
    · exact .inr (.inr ⟨x, hs.subset hx, e⟩)), fun k hk x hx => h.fb k hk x (hs.subset hx), h.pl, h.vl⟩

/-- Two blocks that are not there yet. -/
theorem DY.open (h : DY T W w [] Ds Bs p v lv) (hp : p < w.heap.size) (hv : ∀ k, v.ownBlock = some k → k < w.heap.size) (hl : ∀ k, lv.ownBlock = some k → k < w.heap.size) : DY T W w [w.heap.size, w.heap.size + 1] Ds Bs p v lv := by
  have hs := h.ch.size
  refine ⟨h.bk, h.inc, h.ds, h.nd, h.ch, h.tl, fun k hk => ?_, fun k hk x hx => ?_, h.pl, h.vl⟩
  · rcases hk with hk | hk
    · have : k = w.heap.size ∨ k = w.heap.size + 1 := by simpa using hk
      exact ⟨by omega, by omega, fun e => by have := hv _ e; omega, fun e => by have := hl _ e; omega⟩
    · exact h.of k (.inr hk)
  · rcases hk with hk | hk
    · have : k = w.heap.size ∨ k = w.heap.size + 1 := by simpa using hk
      have := (h.bk x hx).lt
      omega
    · exact h.fb k (.inr hk) x hx

/-- The first of them is one for deferred calls. -/
theorem DY.shut {D : Nat} (h : DY T W w [D, D + 1] Ds Bs p v lv) (hD : w.heap[D]? = some (.deferred (some []))) (hn : D ∉ Ds) : DY T W w [] (D :: Ds) Bs p v lv := by
  refine ⟨h.bk, h.inc, fun d hd => ?_, List.nodup_cons.2 ⟨hn, h.nd⟩, h.ch, h.tl, fun k hk => ?_, fun k hk => ?_, h.pl, h.vl⟩
  · rcases List.mem_cons.1 hd with rfl | hd
    · exact hD
    · exact h.ds d hd
  · refine h.of k ?_
    rcases hk with hk | hk | hk
    · simp at hk
    · rcases List.mem_cons.1 hk with rfl | hk
      · exact .inl (by simp)
      · exact .inr (.inl hk)
    · exact .inr (.inr hk)
  · refine h.fb k ?_
    rcases hk with hk | hk
    · simp at hk
    · rcases List.mem_cons.1 hk with rfl | hk
      · exact .inl (by simp)
      · exact .inr hk

/-- The two turn. -/
theorem DY.st {D : Nat} (h : DY T W w [D, D + 1] Ds Bs p v lv) (k : Chg (fun k => k = D ∨ k = D + 1) w w') (h0 : D ∉ Ds) (h1 : D + 1 ∉ Ds) : DY T W w' [D, D + 1] Ds Bs p v lv :=
  h.keepS k (fun x hx e => h.fb x.1 (.inl (by simpa using e)) x hx rfl) (fun d hd e => by rcases e with e | e; exact h0 (e ▸ hd); exact h1 (e ▸ hd)) (fun i hi => .inr (h.of i (.inl (by simpa using hi))).1)
end


end Go.Proofs.Ytpkcabbfblhekaa
