import Derived.Test.YtbfbjjfjeiihbaaDrE
import Derived.Test.YtbfbjjfjeiihbaaRfR
/-
  Boxes of a function beside a heap whose compare turns blocks of its own.
-/
namespace Go.Proofs.Ytbfbjjfjeiihbaa
open Go.RowKit

/-- The boxes of a function, blocks that it must not touch, and blocks for deferred calls. -/
structure DY (T : Nat → Prop) (W w : World) (Fs Ds : List Nat) (Bs : List Bo) (p : Nat) (v lv : Value) : Prop where
  bk : ∀ x ∈ Bs, Blk w x.1 x.2.1 x.2.2
  inc : Bs.Pairwise (fun x y => x.1 < y.1)
  ds : ∀ d ∈ Ds, w.heap[d]? = some (.deferred (some []))
  nd : Ds.Nodup
  ch : Chg T W w
  tl : ∀ k, T k → k < W.heap.size
  of : ∀ k, (k ∈ Fs ∨ k ∈ Ds ∨ ∃ x ∈ Bs, x.1 = k) → W.heap.size ≤ k ∧ k ≠ p ∧ v.ownBlock ≠ some k ∧ lv.ownBlock ≠ some k
  fb : ∀ k, (k ∈ Fs ∨ k ∈ Ds) → ∀ x ∈ Bs, x.1 ≠ k
  pl : W.heap.size ≤ p
  vl : ∀ k, v.ownBlock = some k → W.heap.size ≤ k

section
variable {T : Nat → Prop} {W w w' : World} {Fs Ds : List Nat} {Bs : List Bo} {p : Nat} {v lv : Value}

theorem DY.at (h : DY T W w Fs Ds Bs p v lv) (i : Nat) {x : Bo} (hx : Bs[i]? = some x) : Blk w x.1 x.2.1 x.2.2 := h.bk x (List.mem_of_getElem? hx)
theorem DY.dlt (h : DY T W w Fs Ds Bs p v lv) {d : Nat} (hd : d ∈ Ds) : d < w.heap.size := (Array.getElem?_eq_some_iff.1 (h.ds d hd)).1

/-- A turn of blocks that are none of these. -/
theorem DY.keepS {S : Nat → Prop} (h : DY T W w Fs Ds Bs p v lv) (k : Chg S w w') (hb : ∀ x ∈ Bs, ¬ S x.1) (hd : ∀ d ∈ Ds, ¬ S d) (hW : ∀ i, S i → T i ∨ W.heap.size ≤ i) : DY T W w' Fs Ds Bs p v lv :=
  ⟨fun x hx => (h.bk x hx).keep k (hb x hx), h.inc, fun d hd' => k.heap_some (h.ds d hd') (hd d hd'), h.nd, h.ch.trans k hW, h.tl, h.of, h.fb, h.pl, h.vl⟩
theorem DY.keep (h : DY T W w Fs Ds Bs p v lv) (k : Chg (fun _ => False) w w') : DY T W w' Fs Ds Bs p v lv := h.keepS k (fun _ _ h => h) (fun _ _ h => h) (fun _ h => h.elim)

/-- A call on the heap. -/
theorem DY.turn (h : DY T W w Fs Ds Bs p v lv) {v' lv' : Value} (k : Chg (fun k => k = p ∨ some k = v.ownBlock ∨ T k) w w') (hf : ∀ k ∈ Fs, k < w.heap.size)
    (hv : ∀ k, v'.ownBlock = some k → some k = v.ownBlock ∨ w.heap.size ≤ k) (hl : ∀ k, lv'.ownBlock = some k → lv.ownBlock = some k ∨ w.heap.size ≤ k) : DY T W w' Fs Ds Bs p v' lv' := by
  have hno : ∀ k, (k ∈ Fs ∨ k ∈ Ds ∨ ∃ x ∈ Bs, x.1 = k) → ¬ (k = p ∨ some k = v.ownBlock ∨ T k) := fun k hk e => by
    obtain ⟨h0, h2, h3, _⟩ := h.of k hk
    rcases e with e | e | e
    · exact h2 e
    · exact h3 e.symm
    · have := h.tl k e; omega
  have h1 := h.keepS k (fun x hx => hno _ (.inr (.inr ⟨x, hx, rfl⟩))) (fun d hd => hno _ (.inr (.inl hd))) (fun i hi => by
    rcases hi with e | e | e
    · exact .inr (by rw [e]; exact h.pl)
    · exact .inr (h.vl i e.symm)
    · exact .inl e)
  have hlt : ∀ k, (k ∈ Fs ∨ k ∈ Ds ∨ ∃ x ∈ Bs, x.1 = k) → k < w.heap.size := fun k hk => by
    rcases hk with hk | hk | ⟨x, hx, rfl⟩
    · exact hf k hk
    · exact h.dlt hk
    · exact (h.bk x hx).lt
  refine ⟨h1.bk, h1.inc, h1.ds, h1.nd, h1.ch, h1.tl, fun k hk => ?_, h1.fb, h1.pl, fun k hk => ?_⟩
  · obtain ⟨a1, a2, a3, a4⟩ := h.of k hk
    have := hlt k hk
    refine ⟨a1, a2, fun e => ?_, fun e => ?_⟩
    · rcases hv k e with e | e
      · exact a3 e.symm
      · omega
    · rcases hl k e with e | e
      · exact a4 e
      · omega
  · rcases hv k hk with e | e
    · exact h.vl k e.symm
    · have := h.ch.size; omega

/-- A new list. -/
theorem DY.list (h : DY T W w Fs Ds Bs p v lv) {lv' : Value} (hf : ∀ k ∈ Fs, k < w.heap.size) (hl : ∀ k, lv'.ownBlock = some k → lv.ownBlock = some k ∨ w.heap.size ≤ k) : DY T W w Fs Ds Bs p v lv' := by
  refine ⟨h.bk, h.inc, h.ds, h.nd, h.ch, h.tl, fun k hk => ?_, h.fb, h.pl, h.vl⟩
  obtain ⟨a1, a2, a3, a4⟩ := h.of k hk
  have hlt : k < w.heap.size := by
    rcases hk with hk | hk | ⟨x, hx, rfl⟩
    · exact hf k hk
    · exact h.dlt hk
    · exact (h.bk x hx).lt
  refine ⟨a1, a2, a3, fun e => ?_⟩
  rcases hl k e with e | e
  · exact a4 e
  · omega

/-- A store into a box. -/
theorem DY.store (h : DY T W w Fs Ds Bs p v lv) (i : Nat) {b t o : Nat} {u : List Value} (hi : Bs[i]? = some (b, u, t)) (x : Value) : DY T W (w.setCell ⟨b, o, none⟩ x) Fs Ds (Bs.set i (b, u.set o x, t)) p v lv := by
  have hm := List.mem_of_getElem? hi
  have hb : Blk w b u t := h.bk _ hm
  have hch : Chg (fun k => k = b) w (w.setCell ⟨b, o, none⟩ x) := (Chg.refl (fun k => k = b) _).setCell (p := ⟨b, o, none⟩) (.inl rfl) _
  have hfst : ∀ y ∈ Bs.set i (b, u.set o x, t), ∃ z ∈ Bs, z.1 = y.1 := fun y hy => by
    rcases List.mem_or_eq_of_mem_set hy with hy | hy
    · exact ⟨y, hy, rfl⟩
    · exact ⟨_, hm, by rw [hy]⟩
  refine ⟨fun y hy => ?_, inc_set h.inc hi, fun d hd => hch.heap_some (h.ds d hd) (fun e => h.fb d (.inr hd) _ hm e.symm), h.nd, h.ch.trans hch (fun k hk => .inr (by rw [hk]; exact (h.of b (.inr (.inr ⟨_, hm, rfl⟩))).1)), h.tl, fun k hk => ?_, fun k hk y hy => ?_, h.pl, h.vl⟩
  · rw [List.mem_iff_getElem?] at hy
    obtain ⟨j, hj⟩ := hy
    by_cases e : i = j
    · subst e
      rw [List.getElem?_set_self (List.getElem?_eq_some_iff.1 hi).1] at hj
      obtain rfl := Option.some.inj hj
      exact hb.set o x
    · rw [List.getElem?_set_ne e] at hj
      exact (h.bk y (List.mem_of_getElem? hj)).keep hch (inc_ne h.inc hj hi (fun e' => e e'.symm))
  · refine h.of k ?_
    rcases hk with hk | hk | ⟨y, hy, e⟩
    · exact .inl hk
    · exact .inr (.inl hk)
    · obtain ⟨z, hz, e'⟩ := hfst y hy
      exact .inr (.inr ⟨z, hz, e'.trans e⟩)
  · obtain ⟨z, hz, e'⟩ := hfst y hy
    rw [← e']
    exact h.fb k hk z hz

/-- A new box. -/
theorem DY.box (h : DY T W w Fs Ds Bs p v lv) (u : List Value) (t : Nat) (hf : ∀ k ∈ Fs, k < w.heap.size) (hp : p < w.heap.size) (hv : ∀ k, v.ownBlock = some k → k < w.heap.size) (hl : ∀ k, lv.ownBlock = some k → k < w.heap.size) :
    DY T W (w.alloc (.cells u.toArray t)) Fs Ds (Bs ++ [(w.heap.size, u, t)]) p v lv := by
  have k0 : Chg (fun _ => False) w (w.alloc (.cells u.toArray t)) := (Chg.refl _ _).alloc _
  have h1 := h.keep k0
  refine ⟨fun x hx => ?_, ?_, h1.ds, h1.nd, h1.ch, h1.tl, fun k hk => ?_, fun k hk x hx => ?_, h1.pl, h1.vl⟩
  · rcases List.mem_append.1 hx with hx | hx
    · exact h1.bk x hx
    · obtain rfl := List.mem_singleton.1 hx
      exact Blk.made w u t
  · rw [List.pairwise_append]
    refine ⟨h.inc, List.pairwise_singleton _ _, fun x hx y hy => ?_⟩
    obtain rfl := List.mem_singleton.1 hy
    exact (h.bk x hx).lt
  · have hk' : (k ∈ Fs ∨ k ∈ Ds ∨ ∃ x ∈ Bs, x.1 = k) ∨ k = w.heap.size := by
      rcases hk with hk | hk | ⟨x, hx, e⟩
      · exact .inl (.inl hk)
      · exact .inl (.inr (.inl hk))
      · rcases List.mem_append.1 hx with hx | hx
        · exact .inl (.inr (.inr ⟨x, hx, e⟩))
        · obtain rfl := List.mem_singleton.1 hx
          exact .inr e.symm
    rcases hk' with hk' | rfl
    · exact h.of k hk'
    · exact ⟨h.ch.size, by omega, fun e => by have := hv _ e; omega, fun e => by have := hl _ e; omega⟩
  · rcases List.mem_append.1 hx with hx | hx
    · exact h.fb k hk x hx
    · obtain rfl := List.mem_singleton.1 hx
      have : k < w.heap.size := by
        rcases hk with hk | hk
        · exact hf k hk
        · exact h.dlt hk
      show w.heap.size ≠ k
      omega

/-- Fewer boxes. -/
theorem DY.less (h : DY T W w Fs Ds Bs p v lv) {Cs : List Bo} (hs : Cs.Sublist Bs) : DY T W w Fs Ds Cs p v lv :=
  ⟨fun x hx => h.bk x (hs.subset hx), h.inc.sublist hs, h.ds, h.nd, h.ch, h.tl, fun k hk => h.of k (by
    rcases hk with hk | hk | ⟨x, hx, e⟩
    · exact .inl hk
    · exact .inr (.inl hk)
    · exact .inr (.inr ⟨x, hs.subset hx, e⟩)), fun k hk x hx => h.fb k hk x (hs.subset hx), h.pl, h.vl⟩

/-- Two blocks that are not there yet. -/
theorem DY.open (h : DY T W w [] Ds Bs p v lv) (hp : p < w.heap.size) (hv : ∀ k, v.ownBlock = some k → k < w.heap.size) (hl : ∀ k, lv.ownBlock = some k → k < w.heap.size) : DY T W w [w.heap.size, w.heap.size + 1] Ds Bs p v lv := by
  have hs := h.ch.size
  refine ⟨h.bk, h.inc, h.ds, h.nd, h.ch, h.tl, fun k hk => ?_, fun k hk x hx => ?_, h.pl, h.vl⟩
  · rcases hk with hk | hk
    · have : k = w.heap.size ∨ k = w.heap.size + 1 := by simpa using hk
      exact ⟨by omega, by omega, fun e => by have := hv _ e; omega, fun e => by have := hl _ e; omega⟩
    · exact h.of k (.inr hk)
  · rcases hk with hk | hk
    · have : k = w.heap.size ∨ k = w.heap.size + 1 := by simpa using hk
      have := (h.bk x hx).lt
      omega
    · exact h.fb k (.inr hk) x hx

/-- The first of them is one for deferred calls. -/
theorem DY.shut {D : Nat} (h : DY T W w [D, D + 1] Ds Bs p v lv) (hD : w.heap[D]? = some (.deferred (some []))) (hn : D ∉ Ds) : DY T W w [] (D :: Ds) Bs p v lv := by
  refine ⟨h.bk, h.inc, fun d hd => ?_, List.nodup_cons.2 ⟨hn, h.nd⟩, h.ch, h.tl, fun k hk => ?_, fun k hk => ?_, h.pl, h.vl⟩
  · rcases List.mem_cons.1 hd with rfl | hd
    · exact hD
    · exact h.ds d hd
  · refine h.of k ?_
    rcases hk with hk | hk | hk
    · simp at hk
    · rcases List.mem_cons.1 hk with rfl | hk
      · exact .inl (by simp)
      · exact .inr (.inl hk)
    · exact .inr (.inr hk)
  · refine h.fb k ?_
    rcases hk with hk | hk
    · simp at hk
    · rcases List.mem_cons.1 hk with rfl | hk
      · exact .inl (by simp)
      · exact .inr hk

/-- The two turn. -/
theorem DY.st {D : Nat} (h : DY T W w [D, D + 1] Ds Bs p v lv) (k : Chg (fun k => k = D ∨ k = D + 1) w w') (h0 : D ∉ Ds) (h1 : D + 1 ∉ Ds) : DY T W w' [D, D + 1] Ds Bs p v lv :=
  h.keepS k (fun x hx e => h.fb x.1 (.inl (by simpa using e)) x hx rfl) (fun d hd e => by rcases e with e | e; exact h0 (e ▸ hd); exact h1 (e ▸ hd)) (fun i hi => .inr (h.of i (.inl (by simpa using hi))).1)
end


end Go.Proofs.Ytbfbjjfjeiihbaa

/-
  What draining a heap gives; a heap that is drained into a list.
-/
namespace Go.Proofs.Ytbfbjjfjeiihbaa
open Go.RowKit

/-- All things, one by one; how often two were compared. -/
def drF (od : E → E → Int) : Nat → List E → List (Int × Int) × Nat
  | 0, _ => ([], 0)
  | m + 1, H => ((nth H 0).th :: (drF od m (popF od H).1).1, (popF od H).2 + (drF od m (popF od H).1).2)

theorem drF_len (od : E → E → Int) : ∀ (m : Nat) (H : List E), (drF od m H).1.length = m
  | 0, _ => rfl
  | m + 1, H => by simp [drF, drF_len od m]

theorem dg_le : ∀ (k n : Nat), n < 2 ^ k → dg n ≤ k
  | 0, n, h => by
    have : n = 0 := by omega
    subst this
    rw [dg_zero]
    exact Nat.le_refl _
  | k + 1, n, h => by
    by_cases h0 : n = 0
    · subst h0; rw [dg_zero]; omega
    · rw [dg_pos (by omega)]
      have := dg_le k (n / 2) (by rw [Nat.pow_succ] at h; omega)
      omega

theorem drF_cost (od : E → E → Int) (N : Nat) : ∀ (m : Nat) (H : List E), H.length = m → m ≤ N → (drF od m H).2 ≤ m * (2 * dg N)
  | 0, _, _, _ => Nat.zero_le _
  | m + 1, H, h, hN => by
    have h1 := popF_cost od H
    have h2 := dg_mono (by omega : H.length ≤ N)
    have h3 := drF_cost od N m (popF od H).1 (by rw [popF_len]; omega) (by omega)
    show (popF od H).2 + (drF od m (popF od H).1).2 ≤ (m + 1) * (2 * dg N)
    rw [Nat.add_mul, Nat.one_mul]
    omega

theorem most_le (N : Nat) : ∀ (k n : Nat), n + k ≤ N → most n k ≤ k * (dg N + 1)
  | 0, n, _ => by simp [most]
  | k + 1, n, h => by
    rw [most_succ]
    have h1 := most_le N k (n + 1) (by omega)
    have h2 := dg_mono (by omega : n ≤ N)
    rw [Nat.add_mul, Nat.one_mul]
    omega

/-- Pop, whatever is there, with a compare that counts. -/
theorem pop_gen {w : World} {p : Nat} {f v : Value} {H : List E} {came : Nat} {S : Nat → Prop} {I : Nat → World → Prop} {od : E → E → Int} {one : Nat} (O : Od f S I od one) (h : Hq w p f v H came) (hp : ¬ S p) (hg : ∀ k, v.ownBlock = some k → ¬ S k) (c : Nat) (hn : H.length ≤ 2097152) (hI : I c w) (hc : c + 2 * H.length + 2 < 4611686018427387904) (h1 : one ≤ 1) :
    Calls Try.prog 16 #[.pointer (some ⟨p, 0, none⟩)] w fun e w' =>
      (∃ m, H.length = m + 1 ∧ e = .returned (.tuple #[twoV (nth H 0).th, .bool true]) ∧ Stt w w' p f v.ownBlock (popF od H).1 came (c + one * (popF od H).2) S I) ∨
      (H = [] ∧ e = .returned (.tuple #[twoV (0, 0), .bool false]) ∧ Chg (fun _ => False) w w') := by
  by_cases h0 : 0 < H.length
  · rcases h.cases with ⟨_, rfl⟩ | ⟨g, cap, sp, rfl, hp'⟩
    · simp at h0
    · refine (pop_some O hp' hp (hg g rfl) c (H.length - 1) (by omega) (by omega) hI (by omega) h1).mono ?_
      rintro e w' ⟨rfl, ⟨v', hv1, hv2⟩, hi, hch⟩
      refine .inl ⟨H.length - 1, by omega, rfl, ⟨v', hv1, fun k hk => ?_⟩, hi, hch.mono (fun i _ hi => ?_)⟩
      · rcases hv2 k hk with e | e
        · exact .inl (by rw [e]; rfl)
        · exact .inr e
      · rcases hi with e | e | e
        · exact .inl e
        · exact .inr (.inl (by rw [e]; rfl))
        · exact .inr (.inr e)
  · have : H = [] := List.eq_nil_of_length_eq_zero (by omega)
    subst this
    refine (pop_none h).mono ?_
    rintro e w' ⟨rfl, k⟩
    exact .inr ⟨rfl, rfl, k⟩

/-- A heap under way into a list. -/
structure SS (S : Nat → Prop) (I : Nat → World → Prop) (W w : World) (Fs : List Nat) (Bs : List Bo) (p : Nat) (f v : Value) (H : List E) (came : Nat) (lv : Value) (out : List (Int × Int)) (c : Nat) : Prop where
  dy : DY S W w Fs [] Bs p v lv
  hq : Hq w p f v H came
  own : OwnT w lv out
  np : lv.ownBlock ≠ some p
  nv : ∀ k, lv.ownBlock = some k → v.ownBlock ≠ some k
  ll : ∀ k, lv.ownBlock = some k → W.heap.size ≤ k
  ic : I c w

section
variable {S : Nat → Prop} {I : Nat → World → Prop} {W w w' : World} {D : Nat} {Fs : List Nat} {Bs : List Bo} {p : Nat} {f v : Value} {H : List E} {came : Nat} {lv : Value} {out : List (Int × Int)} {c : Nat} {od : E → E → Int} {one : Nat}

theorem SS.keepS {R : Nat → Prop} (O : Od f S I od one) (h : SS S I W w Fs Bs p f v H came lv out c) (k : Chg R w w') (hb : ∀ x ∈ Bs, ¬ R x.1) (hp : ¬ R p) (hv : ∀ k, v.ownBlock = some k → ¬ R k) (hl : ∀ k, lv.ownBlock = some k → ¬ R k) (hR : ∀ k, R k → W.heap.size ≤ k) : SS S I W w' Fs Bs p f v H came lv out c :=
  ⟨h.dy.keepS k hb (fun _ h => by simp at h) (fun i hi => .inr (hR i hi)), h.hq.keep k hp hv, h.own.keep k hl, h.np, h.nv, h.ll, O.keep h.ic k (fun i hi hs => by have := h.dy.tl i hs; have := hR i hi; omega)⟩
theorem SS.keep (O : Od f S I od one) (h : SS S I W w Fs Bs p f v H came lv out c) (k : Chg (fun _ => False) w w') : SS S I W w' Fs Bs p f v H came lv out c :=
  h.keepS O k (fun _ _ h => h) (fun h => h) (fun _ _ h => h) (fun _ _ h => h) (fun _ h => h.elim)

theorem SS.off (h : SS S I W w [D, D + 1] Bs p f v H came lv out c) : (∀ x ∈ Bs, ¬ (x.1 = D ∨ x.1 = D + 1)) ∧ ¬ (p = D ∨ p = D + 1) ∧ (∀ k, v.ownBlock = some k → ¬ (k = D ∨ k = D + 1)) ∧ (∀ k, lv.ownBlock = some k → ¬ (k = D ∨ k = D + 1)) ∧ ∀ k, (k = D ∨ k = D + 1) → W.heap.size ≤ k := by
  obtain ⟨a1, a2, a3, a4⟩ := h.dy.of D (.inl (by simp))
  obtain ⟨c1, c2, c3, c4⟩ := h.dy.of (D + 1) (.inl (by simp))
  refine ⟨fun x hx e => ?_, fun e => ?_, fun k hk e => ?_, fun k hk e => ?_, fun k e => ?_⟩
  · exact h.dy.fb x.1 (.inl (by simpa using e)) x hx rfl
  · rcases e with e | e
    · exact a2 e.symm
    · exact c2 e.symm
  · rcases e with rfl | rfl
    · exact a3 hk
    · exact c3 hk
  · rcases e with rfl | rfl
    · exact a4 hk
    · exact c4 hk
  · rcases e with rfl | rfl
    · exact a1
    · exact c1

theorem SS.st (O : Od f S I od one) (h : SS S I W w [D, D + 1] Bs p f v H came lv out c) (k : Chg (fun k => k = D ∨ k = D + 1) w w') : SS S I W w' [D, D + 1] Bs p f v H came lv out c := by
  obtain ⟨o1, o2, o3, o4, o5⟩ := h.off
  exact h.keepS O k o1 o2 o3 o4 o5

theorem SS.box (O : Od f S I od one) (h : SS S I W w Fs Bs p f v H came lv out c) (u : List Value) (t : Nat) (hf : ∀ k ∈ Fs, k < w.heap.size) : SS S I W (w.alloc (.cells u.toArray t)) Fs (Bs ++ [(w.heap.size, u, t)]) p f v H came lv out c := by
  have h1 := h.dy.box u t hf h.hq.lt h.hq.vlt (fun k hk => h.own.lt hk)
  have h2 := h.keep O ((Chg.refl _ _).alloc (.cells u.toArray t))
  exact ⟨h1, h2.hq, h2.own, h.np, h.nv, h.ll, h2.ic⟩
theorem SS.less (h : SS S I W w Fs Bs p f v H came lv out c) {Cs : List Bo} (hs : Cs.Sublist Bs) : SS S I W w Fs Cs p f v H came lv out c := ⟨h.dy.less hs, h.hq, h.own, h.np, h.nv, h.ll, h.ic⟩

/-- Pop. -/
theorem SS.pop (O : Od f S I od one) (h1 : one ≤ 1) (h : SS S I W w [D, D + 1] Bs p f v H came lv out c) (hs : D + 1 < w.heap.size) (hn : H.length ≤ 2097152) (hc : c + 2 * H.length + 2 < 4611686018427387904) :
    Calls Try.prog 16 #[.pointer (some ⟨p, 0, none⟩)] w fun e w' => Kd D w w' ∧
      ((∃ x, e = .returned (.tuple #[twoV x, .bool true]) ∧ ∃ v' m, H.length = m + 1 ∧ x = (nth H 0).th ∧ SS S I W w' [D, D + 1] Bs p f v' (popF od H).1 came lv out (c + one * (popF od H).2)) ∨
       ∃ x, e = .returned (.tuple #[twoV x, .bool false]) ∧ H = [] ∧ SS S I W w' [D, D + 1] Bs p f v H came lv out c) := by
  obtain ⟨o1, o2, o3, o4, o5⟩ := h.off
  have hlow : ∀ k, W.heap.size ≤ k → ¬ S k := fun k hk hs => by have := h.dy.tl k hs; omega
  refine (pop_gen O h.hq (hlow _ h.dy.pl) (fun k hk => hlow _ (h.dy.vl k hk)) c hn h.ic hc h1).mono ?_
  rintro e w' (⟨m, hm, rfl, ⟨v', hv1, hv2⟩, hi, hch⟩ | ⟨hH, rfl, k⟩)
  · have hD : ∀ k, (k = D ∨ k = D + 1) → ¬ (k = p ∨ some k = v.ownBlock ∨ S k) := fun k hk e => by
      rcases e with e | e | e
      · exact o2 (by rw [← e]; exact hk)
      · exact o3 k e.symm hk
      · exact hlow k (o5 k hk) e
    refine ⟨Kd.of_chg hch hs (hD _ (.inl rfl)) (hD _ (.inr rfl)), .inl ⟨_, rfl, v', m, hm, rfl, ⟨h.dy.turn hch (fs_lt hs) hv2 (fun k hk => .inl hk), hv1, h.own.keep hch (fun k hk e => ?_), h.np, fun k hk e => ?_, h.ll, hi⟩⟩⟩
    · rcases e with e | e | e
      · exact h.np (by rw [hk, e])
      · exact h.nv k hk e.symm
      · exact hlow k (h.ll k hk) e
    · rcases hv2 k e with e | e
      · exact h.nv k hk e.symm
      · have := h.own.lt hk; omega
  · exact ⟨Kd.of_chg k hs (fun h => h) (fun h => h), .inr ⟨_, rfl, hH, h.keep O k⟩⟩
end

end Go.Proofs.Ytbfbjjfjeiihbaa
