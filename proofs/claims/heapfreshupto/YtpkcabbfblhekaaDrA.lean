/-
  The heap of HeapDrains, its list and its boxes; Drain.
-/
import Derived.Test.YtpkcabbfblhekaaTurn6
import Derived.Test.YtpkcabbfblhekaaRfD
namespace Go.Proofs.Ytpkcabbfblhekaa
open Go.RowKit

abbrev Bo := Nat × List Value × Nat

/-- The boxes of a function, blocks that it must not touch, and blocks for deferred calls. -/
structure DX (W w : World) (Fs Ds : List Nat) (Bs : List Bo) (p : Nat) (v lv : Value) : Prop where
  bk : ∀ x ∈ Bs, Blk w x.1 x.2.1 x.2.2
  inc : Bs.Pairwise (fun x y => x.1 < y.1)
  ds : ∀ d ∈ Ds, w.heap[d]? = some (.deferred (some []))
  nd : Ds.Nodup
  ch : Chg (fun _ => False) W w
  of : ∀ k, (k ∈ Fs ∨ k ∈ Ds ∨ ∃ x ∈ Bs, x.1 = k) → W.heap.size ≤ k ∧ k ≠ p ∧ v.ownBlock ≠ some k ∧ lv.ownBlock ≠ some k
  fb : ∀ k, (k ∈ Fs ∨ k ∈ Ds) → ∀ x ∈ Bs, x.1 ≠ k
  pl : W.heap.size ≤ p
  vl : ∀ k, v.ownBlock = some k → W.heap.size ≤ k

section
variable {W w w' : World} {Fs Ds : List Nat} {Bs : List Bo} {p : Nat} {v lv : Value}

theorem DX.at (h : DX W w Fs Ds Bs p v lv) (i : Nat) {x : Bo} (hx : Bs[i]? = some x) : Blk w x.1 x.2.1 x.2.2 := h.bk x (List.mem_of_getElem? hx)
theorem DX.dlt (h : DX W w Fs Ds Bs p v lv) {d : Nat} (hd : d ∈ Ds) : d < w.heap.size := (Array.getElem?_eq_some_iff.1 (h.ds d hd)).1

/-- A turn of blocks that are none of these. -/
theorem DX.keepS {S : Nat → Prop} (h : DX W w Fs Ds Bs p v lv) (k : Chg S w w') (hb : ∀ x ∈ Bs, ¬ S x.1) (hd : ∀ d ∈ Ds, ¬ S d) (hW : ∀ i, S i → W.heap.size ≤ i) : DX W w' Fs Ds Bs p v lv :=
  ⟨fun x hx => (h.bk x hx).keep k (hb x hx), h.inc, fun d hd' => k.heap_some (h.ds d hd') (hd d hd'), h.nd, h.ch.trans k (fun i hi => .inr (hW i hi)), h.of, h.fb, h.pl, h.vl⟩
theorem DX.keep (h : DX W w Fs Ds Bs p v lv) (k : Chg (fun _ => False) w w') : DX W w' Fs Ds Bs p v lv := h.keepS k (fun _ _ h => h) (fun _ _ h => h) (fun _ h => h.elim)

/-- A call on the heap. -/
theorem DX.turn (h : DX W w Fs Ds Bs p v lv) {v' lv' : Value} (k : Chg (fun k => k = p ∨ some k = v.ownBlock) w w') (hf : ∀ k ∈ Fs, k < w.heap.size)
    (hv : ∀ k, v'.ownBlock = some k → some k = v.ownBlock ∨ w.heap.size ≤ k) (hl : ∀ k, lv'.ownBlock = some k → lv.ownBlock = some k ∨ w.heap.size ≤ k) : DX W w' Fs Ds Bs p v' lv' := by
  have hno : ∀ k, (k ∈ Fs ∨ k ∈ Ds ∨ ∃ x ∈ Bs, x.1 = k) → ¬ (k = p ∨ some k = v.ownBlock) := fun k hk e => by
    obtain ⟨_, h2, h3, _⟩ := h.of k hk
    rcases e with e | e
    · exact h2 e
    · exact h3 e.symm
  have h1 := h.keepS k (fun x hx => hno _ (.inr (.inr ⟨x, hx, rfl⟩))) (fun d hd => hno _ (.inr (.inl hd))) (fun i hi => by
    rcases hi with e | e
    · rw [e]; exact h.pl
    · exact h.vl i e.symm)
  have hlt : ∀ k, (k ∈ Fs ∨ k ∈ Ds ∨ ∃ x ∈ Bs, x.1 = k) → k < w.heap.size := fun k hk => by
    rcases hk with hk | hk | ⟨x, hx, rfl⟩
    · exact hf k hk
    · exact h.dlt hk
    · exact (h.bk x hx).lt
  refine ⟨h1.bk, h1.inc, h1.ds, h1.nd, h1.ch, fun k hk => ?_, h1.fb, h1.pl, fun k hk => ?_⟩
  · obtain ⟨a1, a2, a3, a4⟩ := h.of k hk
    have := hlt k hk
    refine ⟨a1, a2, fun e => ?_, fun e => ?_⟩
    · rcases hv k e with e | e
      · exact a3 e.symm
      · omega
    · rcases hl k e with e | e
      · exact a4 e
      · omega
  · rcases hv k hk with e | e
    · exact h.vl k e.symm
    · have := h.ch.size; omega

/-- A new list. -/
theorem DX.list (h : DX W w Fs Ds Bs p v lv) {lv' : Value} (hf : ∀ k ∈ Fs, k < w.heap.size) (hl : ∀ k, lv'.ownBlock = some k → lv.ownBlock = some k ∨ w.heap.size ≤ k) : DX W w Fs Ds Bs p v lv' := by
  refine ⟨h.bk, h.inc, h.ds, h.nd, h.ch, fun k hk => ?_, h.fb, h.pl, h.vl⟩
  obtain ⟨a1, a2, a3, a4⟩ := h.of k hk
  have hlt : k < w.heap.size := by
    rcases hk with hk | hk | ⟨x, hx, rfl⟩
    · exact hf k hk
    · exact h.dlt hk
    · exact (h.bk x hx).lt
  refine ⟨a1, a2, a3, fun e => ?_⟩
  rcases hl k e with e | e
  · exact a4 e
  · omega

theorem inc_set : ∀ {Bs : List Bo} {i : Nat} {b t : Nat} {u u' : List Value}, Bs.Pairwise (fun x y => x.1 < y.1) → Bs[i]? = some (b, u, t) → (Bs.set i (b, u', t)).Pairwise (fun x y => x.1 < y.1)
  | [], i, _, _, _, _, _, h => by simp at h
  | x :: Bs, 0, b, t, u, u', hp, h => by
    obtain rfl : x = (b, u, t) := by simpa using h
    rw [List.set_cons_zero, List.pairwise_cons]
    rw [List.pairwise_cons] at hp
    exact ⟨fun y hy => hp.1 y hy, hp.2⟩
  | x :: Bs, i + 1, b, t, u, u', hp, h => by
    rw [List.set_cons_succ, List.pairwise_cons]
    rw [List.pairwise_cons] at hp
    have h' : Bs[i]? = some (b, u, t) := by simpa using h
    refine ⟨fun y hy => ?_, inc_set hp.2 h'⟩
    rcases List.mem_or_eq_of_mem_set hy with hy | hy
    · exact hp.1 y hy
    · subst hy; exact hp.1 (b, u, t) (List.mem_of_getElem? h')

theorem inc_ne : ∀ {Bs : List Bo} {i j : Nat} {x y : Bo}, Bs.Pairwise (fun x y => x.1 < y.1) → Bs[i]? = some x → Bs[j]? = some y → i ≠ j → x.1 ≠ y.1 := fun {Bs i j x y} hp hi hj hij => by
  rw [List.pairwise_iff_getElem] at hp
  obtain ⟨hi1, rfl⟩ := List.getElem?_eq_some_iff.1 hi
  obtain ⟨hj1, rfl⟩ := List.getElem?_eq_some_iff.1 hj
  rcases Nat.lt_or_gt_of_ne hij with h | h
  · have := hp i j hi1 hj1 h; omega
  · have := hp j i hj1 hi1 h; omega

/-- A store into a box. -/
theorem DX.store (h : DX W w Fs Ds Bs p v lv) (i : Nat) {b t o : Nat} {u : List Value} (hi : Bs[i]? = some (b, u, t)) (x : Value) : DX W (w.setCell ⟨b, o, none⟩ x) Fs Ds (Bs.set i (b, u.set o x, t)) p v lv := by
  have hm := List.mem_of_getElem? hi
  have hb : Blk w b u t := h.bk _ hm
  have hch : Chg (fun k => k = b) w (w.setCell ⟨b, o, none⟩ x) := (Chg.refl (fun k => k = b) _).setCell (p := ⟨b, o, none⟩) (.inl rfl) _
  have hfst : ∀ y ∈ Bs.set i (b, u.set o x, t), ∃ z ∈ Bs, z.1 = y.1 := fun y hy => by
    rcases List.mem_or_eq_of_mem_set hy with hy | hy
    · exact ⟨y, hy, rfl⟩
    · exact ⟨_, hm, by rw [hy]⟩
  refine ⟨fun y hy => ?_, inc_set h.inc hi, fun d hd => hch.heap_some (h.ds d hd) (fun e => h.fb d (.inr hd) _ hm e.symm), h.nd, h.ch.trans hch (fun k hk => .inr (by rw [hk]; exact (h.of b (.inr (.inr ⟨_, hm, rfl⟩))).1)), fun k hk => ?_, fun k hk y hy => ?_, h.pl, h.vl⟩
  · rw [List.mem_iff_getElem?] at hy
    obtain ⟨j, hj⟩ := hy
    by_cases e : i = j
    · subst e
      rw [List.getElem?_set_self (List.getElem?_eq_some_iff.1 hi).1] at hj
      obtain rfl := Option.some.inj hj
      exact hb.set o x
    · rw [List.getElem?_set_ne e] at hj
      exact (h.bk y (List.mem_of_getElem? hj)).keep hch (inc_ne h.inc hj hi (fun e' => e e'.symm))
  · refine h.of k ?_
    rcases hk with hk | hk | ⟨y, hy, e⟩
    · exact .inl hk
    · exact .inr (.inl hk)
    · obtain ⟨z, hz, e'⟩ := hfst y hy
      exact .inr (.inr ⟨z, hz, e'.trans e⟩)
  · obtain ⟨z, hz, e'⟩ := hfst y hy
    rw [← e']
    exact h.fb k hk z hz

/-- A new box. -/
theorem DX.box (h : DX W w Fs Ds Bs p v lv) (u : List Value) (t : Nat) (hf : ∀ k ∈ Fs, k < w.heap.size) (hp : p < w.heap.size) (hv : ∀ k, v.ownBlock = some k → k < w.heap.size) (hl : ∀ k, lv.ownBlock = some k → k < w.heap.size) :
    DX W (w.alloc (.cells u.toArray t)) Fs Ds (Bs ++ [(w.heap.size, u, t)]) p v lv := by
  have k0 : Chg (fun _ => False) w (w.alloc (.cells u.toArray t)) := (Chg.refl _ _).alloc _
  have h1 := h.keep k0
  refine ⟨fun x hx => ?_, ?_, h1.ds, h1.nd, h1.ch, fun k hk => ?_, fun k hk x hx => ?_, h1.pl, h1.vl⟩
  · rcases List.mem_append.1 hx with hx | hx
    · exact h1.bk x hx
    · obtain rfl := List.mem_singleton.1 hx
      exact Blk.made w u t
  · rw [List.pairwise_append]
    refine ⟨h.inc, List.pairwise_singleton _ _, fun x hx y hy => ?_⟩
    obtain rfl := List.mem_singleton.1 hy
    exact (h.bk x hx).lt
  · have hk' : (k ∈ Fs ∨ k ∈ Ds ∨ ∃ x ∈ Bs, x.1 = k) ∨ k = w.heap.size := by
      rcases hk with hk | hk | ⟨x, hx, e⟩
      · exact .inl (.inl hk)
      · exact .inl (.inr (.inl hk))
      · rcases List.mem_append.1 hx with hx | hx
        · exact .inl (.inr (.inr ⟨x, hx, e⟩))
        · obtain rfl := List.mem_singleton.1 hx
          exact .inr e.symm
    rcases hk' with hk' | rfl
    · exact h.of k hk'
    · exact ⟨h.ch.size, by omega, fun e => by have := hv _ e; omega, fun e => by have := hl _ e; omega⟩
  · rcases List.mem_append.1 hx with hx | hx
    · exact h.fb k hk x hx
    · obtain rfl := List.mem_singleton.1 hx
      have : k < w.heap.size := by
        rcases hk with hk | hk
        · exact hf k hk
        · exact h.dlt hk
      show w.heap.size ≠ k
      omega

/-- Fewer boxes. -/
theorem DX.less (h : DX W w Fs Ds Bs p v lv) {Cs : List Bo} (hs : Cs.Sublist Bs) : DX W w Fs Ds Cs p v lv :=
  ⟨fun x hx => h.bk x (hs.subset hx), h.inc.sublist hs, h.ds, h.nd, h.ch, fun k hk => h.of k (by
    rcases hk with hk | hk | ⟨x, hx, e⟩
    · exact .inl hk
    · exact .inr (.inl hk)
    · exact .inr (.inr ⟨x, hs.subset hx, e⟩)), fun k hk x hx => h.fb k hk x (hs.subset hx), h.pl, h.vl⟩

/-- Two blocks that are not there yet. -/
theorem DX.open (h : DX W w [] Ds Bs p v lv) (hp : p < w.heap.size) (hv : ∀ k, v.ownBlock = some k → k < w.heap.size) (hl : ∀ k, lv.ownBlock = some k → k < w.heap.size) : DX W w [w.heap.size, w.heap.size + 1] Ds Bs p v lv := by
  have hs := h.ch.size
  refine ⟨h.bk, h.inc, h.ds, h.nd, h.ch, fun k hk => ?_, fun k hk x hx => ?_, h.pl, h.vl⟩
  · rcases hk with hk | hk
    · have : k = w.heap.size ∨ k = w.heap.size + 1 := by simpa using hk
      exact ⟨by omega, by omega, fun e => by have := hv _ e; omega, fun e => by have := hl _ e; omega⟩
    · exact h.of k (.inr hk)
  · rcases hk with hk | hk
    · have : k = w.heap.size ∨ k = w.heap.size + 1 := by simpa using hk
      have := (h.bk x hx).lt
      omega
    · exact h.fb k (.inr hk) x hx

/-- The first of them is one for deferred calls. -/
theorem DX.shut {D : Nat} (h : DX W w [D, D + 1] Ds Bs p v lv) (hD : w.heap[D]? = some (.deferred (some []))) (hn : D ∉ Ds) : DX W w [] (D :: Ds) Bs p v lv := by
  refine ⟨h.bk, h.inc, fun d hd => ?_, List.nodup_cons.2 ⟨hn, h.nd⟩, h.ch, fun k hk => ?_, fun k hk => ?_, h.pl, h.vl⟩
  · rcases List.mem_cons.1 hd with rfl | hd
    · exact hD
    · exact h.ds d hd
  · refine h.of k ?_
    rcases hk with hk | hk | hk
    · simp at hk
    · rcases List.mem_cons.1 hk with rfl | hk
      · exact .inl (by simp)
      · exact .inr (.inl hk)
    · exact .inr (.inr hk)
  · refine h.fb k ?_
    rcases hk with hk | hk
    · simp at hk
    · rcases List.mem_cons.1 hk with rfl | hk
      · exact .inl (by simp)
      · exact .inr hk

/-- The two turn. -/
theorem DX.st {D : Nat} (h : DX W w [D, D + 1] Ds Bs p v lv) (k : Chg (fun k => k = D ∨ k = D + 1) w w') (h0 : D ∉ Ds) (h1 : D + 1 ∉ Ds) : DX W w' [D, D + 1] Ds Bs p v lv :=
  h.keepS k (fun x hx e => h.fb x.1 (.inl (by simpa using e)) x hx rfl) (fun d hd e => by rcases e with e | e; exact h0 (e ▸ hd); exact h1 (e ▸ hd)) (fun i hi => (h.of i (.inl (by simpa using hi))).1)
end

theorem TS.keepS {w w' : World} {all : Bool} {p : Nat} {v : Value} {H : List E} {came : Nat} {lv : Value} {l : List (Int × Int)} {S : Nat → Prop} (h : TS w all p v H came lv l) (k : Chg S w w') (hp : ¬ S p) (hv : ∀ k, v.ownBlock = some k → ¬ S k) (hl : ∀ k, lv.ownBlock = some k → ¬ S k) : TS w' all p v H came lv l :=
  ⟨h.hq.keep k hp hv, h.ho, h.fo, h.own.keep k hl, h.np, h.nv, h.cm⟩

/-- Behind a Pop that Drain made: the list still has the thing. -/
structure PS (w : World) (p : Nat) (v : Value) (H : List E) (came : Nat) (lv : Value) (l : List (Int × Int)) (x : Int × Int) (m : Nat) : Prop where
  hq : Hq w p (fB false) v H came
  ho : HO (odB false) H
  fo : ∃ R, Follows H came (wo l m) R
  own : OwnT w lv l
  np : lv.ownBlock ≠ some p
  nv : ∀ k, lv.ownBlock = some k → v.ownBlock ≠ some k
  cm : H.length ≤ came
  cl : l.length ≤ came
  fi : firstU false l l.length = (m : Int)
  ml : m < l.length
  tk : tookR x true l false

theorem PS.keepS {w w' : World} {p : Nat} {v : Value} {H : List E} {came : Nat} {lv : Value} {l : List (Int × Int)} {x : Int × Int} {m : Nat} {S : Nat → Prop} (h : PS w p v H came lv l x m) (k : Chg S w w') (hp : ¬ S p) (hv : ∀ k, v.ownBlock = some k → ¬ S k) (hl : ∀ k, lv.ownBlock = some k → ¬ S k) : PS w' p v H came lv l x m :=
  ⟨h.hq.keep k hp hv, h.ho, h.fo, h.own.keep k hl, h.np, h.nv, h.cm, h.cl, h.fi, h.ml, h.tk⟩

/-- The list without it. -/
theorem PS.ts {w w' : World} {p : Nat} {v : Value} {H : List E} {came : Nat} {lv lv' : Value} {l : List (Int × Int)} {x : Int × Int} {m : Nat} (h : PS w p v H came lv l x m) (k : Chg (fun _ => False) w w') (ho : OwnT w' lv' (wo l m)) (hl : ∀ k, lv'.ownBlock = some k → w.heap.size ≤ k) : TS w' false p v H came lv' (wo l m) := by
  refine ⟨h.hq.keep k (fun h => h) (fun _ _ h => h), h.ho, h.fo, ho, fun e => ?_, fun k hk e => ?_, h.cm⟩
  · have := hl _ e
    have := h.hq.lt
    omega
  · have := hl _ hk
    have := h.hq.vlt _ e
    omega

/-- A Pop by Drain. -/
theorem ts_pop {w : World} {p : Nat} {v : Value} {H : List E} {came : Nat} {lv : Value} {l : List (Int × Int)} (h : TS w false p v H came lv l) (hn : came ≤ 2097152) :
    Calls Try.prog 16 #[.pointer (some ⟨p, 0, none⟩)] w fun e w' => Chg (fun k => k = p ∨ some k = v.ownBlock) w w' ∧
      ((∃ x, e = .returned (.tuple #[twoV x, .bool true]) ∧ ∃ v' m, PS w' p v' (popF (odB false) H).1 came lv l x m ∧ (popF (odB false) H).1.length < H.length ∧ ∀ k, v'.ownBlock = some k → some k = v.ownBlock ∨ w.heap.size ≤ k) ∨
       ∃ x, e = .returned (.tuple #[twoV x, .bool false]) ∧ H = [] ∧ TS w' false p v H came lv l) := by
  have hcm := h.cm
  have hlen := h.len
  have hnb : ∀ k, lv.ownBlock = some k → ¬ (k = p ∨ some k = v.ownBlock ∨ False) := fun k hk e => by
    rcases e with e | e | e
    · exact h.np (by rw [hk, e])
    · exact h.nv k hk e.symm
    · exact e
  by_cases h0 : 0 < H.length
  · have hp := pop_any (od_B false) h.hq (by omega) (oneB_le false)
    rw [decide_eq_true h0, if_pos h0] at hp
    have hr := h.right
    rw [decide_eq_true h0] at hr
    refine hp.mono ?_
    rintro e w1 ⟨rfl, ⟨v1, hq1, hv1⟩, _, ch1⟩
    have ch : Chg (fun k => k = p ∨ some k = v.ownBlock) w w1 := ch1.mono (fun i _ hi => by rcases hi with e | e | e; exact .inl e; exact .inr e; exact e.elim)
    obtain ⟨R, hR⟩ := h.fo
    obtain ⟨m, m1, m2, m3⟩ := hR.first h.ho (by omega)
    have hRl : R.length = l.length := by rw [← hR.list, List.length_map]
    refine ⟨ch, .inl ⟨(nth H 0).th, rfl, v1, m, ⟨hq1, popF_HO (tot_B false) h.ho h0, ⟨_, hR.pop m2 m3 (popF_perm (odB false) h0)⟩, h.own.keep ch1 hnb, h.np, fun k hk e => ?_, by rw [popF_len]; omega, by omega, m1, by omega, hr⟩, by rw [popF_len]; omega, hv1⟩⟩
    rcases hv1 k e with e | e
    · exact h.nv k hk e.symm
    · have := h.own.lt hk; omega
  · have hH : H = [] := List.eq_nil_of_length_eq_zero (by omega)
    subst hH
    refine (pop_none h.hq).mono ?_
    rintro e w1 ⟨rfl, k⟩
    exact ⟨k.mono (fun _ _ h => h.elim), .inr ⟨(0, 0), rfl, rfl, h.keep k⟩⟩

set_option maxRecDepth 100000 in
theorem drain_any (p : Nat) (w : World) : Calls Try.prog 36 #[.pointer (some ⟨p, 0, none⟩)] w fun e w' => e = .returned (.func (.func 44) #[] #[.pointer (some ⟨w.heap.size, 0, none⟩)]) ∧ w' = w.alloc (.cells #[.pointer (some ⟨p, 0, none⟩)] 23) := by
  go_enter Try.func36, Try.ntmps36
  go_wp2_with fail
  go_ret
  exact ⟨rfl, rfl⟩

end Go.Proofs.Ytpkcabbfblhekaa
