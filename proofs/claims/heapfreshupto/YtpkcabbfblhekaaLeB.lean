import Derived.Test.YtpkcabbfblhekaaSo
import Derived.Test.YtpkcabbfblhekaaVLw
/-
  The heap of numbered things, drained into a list from its end on.
-/
namespace Go.Proofs.Ytpkcabbfblhekaa

/-- A call on a heap, whatever else it turns. -/
theorem DY.turnR {T R : Nat → Prop} {W w w' : World} {Fs Ds : List Nat} {Bs : List Bo} {p : Nat} {v lv v' : Value} (h : DY T W w Fs Ds Bs p v lv) (k : Chg R w w') (hb : ∀ x ∈ Bs, ¬ R x.1) (hd : ∀ d ∈ Ds, ¬ R d) (hW : ∀ i, R i → T i ∨ W.heap.size ≤ i) (hf : ∀ k ∈ Fs, k < w.heap.size)
    (hv : ∀ k, v'.ownBlock = some k → some k = v.ownBlock ∨ w.heap.size ≤ k) : DY T W w' Fs Ds Bs p v' lv := by
  have h1 := h.keepS k hb hd hW
  refine ⟨h1.bk, h1.inc, h1.ds, h1.nd, h1.ch, h1.tl, fun k hk => ?_, h1.fb, h1.pl, fun k hk => ?_⟩
  · obtain ⟨a1, a2, a3, a4⟩ := h.of k hk
    have hlt : k < w.heap.size := by
      rcases hk with hk | hk | ⟨x, hx, rfl⟩
      · exact hf k hk
      · exact h.dlt hk
      · exact (h.bk x hx).lt
    refine ⟨a1, a2, fun e => ?_, a4⟩
    rcases hv k e with e | e
    · exact a3 e.symm
    · omega
  · rcases hv k hk with e | e
    · exact h.vl k e.symm
    · have := h.ch.size; omega

/-- A thing laid into a list. -/
theorem rowT_setc (l : List (Int × Int)) : ∀ (i : Nat) (a : Int × Int), i < l.length → ((rowT l).set (i * 2) (.int .i64 a.1)).set (i * 2 + 1) (.int .i64 a.2) = rowT (l.set i a) := by
  induction l with
  | nil => intro i a h; simp at h
  | cons x l ih =>
    intro i a h
    cases i with
    | zero => rfl
    | succ i =>
      have := ih i a (by simpa using h)
      rw [List.set_cons_succ]
      have e1 : rowT (x :: l) = .int .i64 x.1 :: .int .i64 x.2 :: rowT l := rfl
      have e2 : rowT (x :: l.set i a) = .int .i64 x.1 :: .int .i64 x.2 :: rowT (l.set i a) := rfl
      rw [e1, e2, ← this, show (i + 1) * 2 = i * 2 + 1 + 1 by omega, List.set_cons_succ, List.set_cons_succ, List.set_cons_succ, List.set_cons_succ]

theorem OwnT.put {w : World} {g cap : Nat} {l : List (Int × Int)} (h : OwnT w (.slice (some ⟨g, 0, none⟩) l.length cap) l) (i : Nat) (hi : i < l.length) (a : Int × Int) : OwnT ((w.setCell ⟨g, i * 2, none⟩ (.int .i64 a.1)).setCell ⟨g, i * 2 + 1, none⟩ (.int .i64 a.2)) (.slice (some ⟨g, 0, none⟩) l.length cap) (l.set i a) := by
  unfold OwnT at h ⊢
  obtain ⟨h1, h2⟩ := h
  refine ⟨by rw [← rowT_setc l i a hi, List.length_set, List.length_set, List.length_set]; exact h1, ?_⟩
  rcases h2 with ⟨e, _⟩ | ⟨g', cap', cur, e, hb, hg, hle, hm, hs, ht⟩
  · cases e
  · injection e with e1 e2 e3
    injection e1 with e1
    injection e1 with e1 _ _
    subst e1 e3
    have b1 : Blk w g cur.toList 26 := ⟨by simpa using hg⟩
    have b2 := (b1.set (i * 2) (.int .i64 a.1)).set (i * 2 + 1) (.int .i64 a.2)
    refine .inr ⟨g, cap, ((cur.toList.set (i * 2) (.int .i64 a.1)).set (i * 2 + 1) (.int .i64 a.2)).toArray, by rw [List.length_set], hb, b2.eq, by rw [List.length_set]; exact hle, hm, by simpa using hs, ?_⟩
    rw [← rowT_setc l i a hi, ← ht, List.length_set]
    rw [List.take_set, List.take_set]

namespace V
open Go.RowKit

/-- All things, one by one; how often two were compared. -/
def drF (od : E → E → Int) : Nat → List E → List (Int × Int × Int) × Nat
  | 0, _ => ([], 0)
  | m + 1, H => ((nth H 0).th :: (drF od m (popF od H).1).1, (popF od H).2 + (drF od m (popF od H).1).2)

theorem drF_len (od : E → E → Int) : ∀ (m : Nat) (H : List E), (drF od m H).1.length = m
  | 0, _ => rfl
  | m + 1, H => by simp [drF, drF_len od m]
theorem drF_cost (od : E → E → Int) (N : Nat) : ∀ (m : Nat) (H : List E), H.length = m → m ≤ N → (drF od m H).2 ≤ m * (2 * dg N)
  | 0, _, _, _ => Nat.zero_le _
  | m + 1, H, h, hN => by
    have h1 := popF_cost od H
    have h2 := dg_mono (by omega : H.length ≤ N)
    have h3 := drF_cost od N m (popF od H).1 (by rw [popF_len]; omega) (by omega)
    show (popF od H).2 + (drF od m (popF od H).1).2 ≤ (m + 1) * (2 * dg N)
    rw [Nat.add_mul, Nat.one_mul]
    omega

theorem pop_gen {w : World} {p : Nat} {f v : Value} {H : List E} {came : Nat} {S : Nat → Prop} {I : Nat → World → Prop} {od : E → E → Int} {one : Nat} (O : Od f S I od one) (h : Hq w p f v H came) (hp : ¬ S p) (hg : ∀ k, v.ownBlock = some k → ¬ S k) (c : Nat) (hn : H.length ≤ 2097152) (hI : I c w) (hc : c + 2 * H.length + 2 < 4611686018427387904) (h1 : one ≤ 1) :
    Calls Try.prog 53 #[.pointer (some ⟨p, 0, none⟩)] w fun e w' =>
      (∃ m, H.length = m + 1 ∧ e = .returned (.tuple #[two (nth H 0).th, .bool true]) ∧ Stt w w' p f v.ownBlock (popF od H).1 came (c + one * (popF od H).2) S I) ∨
      (H = [] ∧ e = .returned (.tuple #[two (0, 0, 0), .bool false]) ∧ Chg (fun _ => False) w w') := by
  by_cases h0 : 0 < H.length
  · rcases h.cases with ⟨_, rfl⟩ | ⟨g, cap, sp, rfl, hp'⟩
    · simp at h0
    · refine (pop_some O hp' hp (hg g rfl) c (H.length - 1) (by omega) (by omega) hI (by omega) h1).mono ?_
      rintro e w' ⟨rfl, ⟨v', hv1, hv2⟩, hi, hch⟩
      refine .inl ⟨H.length - 1, by omega, rfl, ⟨v', hv1, fun k hk => ?_⟩, hi, hch.mono (fun i _ hi => ?_)⟩
      · rcases hv2 k hk with e | e
        · exact .inl (by rw [e]; rfl)
        · exact .inr e
      · rcases hi with e | e | e
        · exact .inl e
        · exact .inr (.inl (by rw [e]; rfl))
        · exact .inr (.inr e)
  · have : H = [] := List.eq_nil_of_length_eq_zero (by omega)
    subst this
    refine (pop_none h).mono ?_
    rintro e w' ⟨rfl, k⟩
    exact .inr ⟨rfl, rfl, k⟩

/-- The heap under way into a list: q the box that its compare reads. -/
structure SV (S : Nat → Prop) (I : Nat → World → Prop) (W w : World) (Fs : List Nat) (Bs : List Bo) (p q : Nat) (f v : Value) (H : List E) (came : Nat) (lv : Value) (out : List (Int × Int)) (c : Nat) : Prop where
  dy : DY S W w Fs [] Bs p v lv
  hq : Hq w p (.func (.func 46) #[] #[.pointer (some ⟨q, 0, none⟩)]) v H came
  own : OwnT w lv out
  np : lv.ownBlock ≠ some p
  nv : ∀ k, lv.ownBlock = some k → v.ownBlock ≠ some k
  ll : ∀ k, lv.ownBlock = some k → W.heap.size ≤ k
  ic : Ib I q f c w
  qW : W.heap.size ≤ q
  qp : q ≠ p
  qv : v.ownBlock ≠ some q
  ql : lv.ownBlock ≠ some q
  qb : ∀ x ∈ Bs, x.1 ≠ q
  qf : q ∉ Fs

section
variable {S : Nat → Prop} {I : Nat → World → Prop} {W w w' : World} {D : Nat} {Fs : List Nat} {Bs : List Bo} {p q : Nat} {f v : Value} {H : List E} {came : Nat} {lv : Value} {out : List (Int × Int)} {c : Nat} {od : Go.Proofs.Ytpkcabbfblhekaa.E → Go.Proofs.Ytpkcabbfblhekaa.E → Int} {one : Nat}

theorem SV.keepS {R : Nat → Prop} (O : Go.Proofs.Ytpkcabbfblhekaa.Od f S I od one) (h : SV S I W w Fs Bs p q f v H came lv out c) (k : Chg R w w') (hb : ∀ x ∈ Bs, ¬ R x.1) (hp : ¬ R p) (hv : ∀ k, v.ownBlock = some k → ¬ R k) (hl : ∀ k, lv.ownBlock = some k → ¬ R k) (hq : ¬ R q) (hR : ∀ k, R k → W.heap.size ≤ k) : SV S I W w' Fs Bs p q f v H came lv out c := by
  obtain ⟨⟨c0, h2, h3⟩, h4⟩ := h.ic
  exact ⟨h.dy.keepS k hb (fun _ h => by simp at h) (fun i hi => .inr (hR i hi)), h.hq.keep k hp hv, h.own.keep k hl, h.np, h.nv, h.ll, ⟨⟨c0, h2, O.keep h3 k (fun i hi hs => by have := h.dy.tl i hs; have := hR i hi; omega)⟩, h4.keep k hq⟩, h.qW, h.qp, h.qv, h.ql, h.qb, h.qf⟩
theorem SV.keep (O : Go.Proofs.Ytpkcabbfblhekaa.Od f S I od one) (h : SV S I W w Fs Bs p q f v H came lv out c) (k : Chg (fun _ => False) w w') : SV S I W w' Fs Bs p q f v H came lv out c :=
  h.keepS O k (fun _ _ h => h) (fun h => h) (fun _ _ h => h) (fun _ _ h => h) (fun h => h) (fun _ h => h.elim)

theorem SV.off (h : SV S I W w [D, D + 1] Bs p q f v H came lv out c) : (∀ x ∈ Bs, ¬ (x.1 = D ∨ x.1 = D + 1)) ∧ ¬ (p = D ∨ p = D + 1) ∧ (∀ k, v.ownBlock = some k → ¬ (k = D ∨ k = D + 1)) ∧ (∀ k, lv.ownBlock = some k → ¬ (k = D ∨ k = D + 1)) ∧ ∀ k, (k = D ∨ k = D + 1) → W.heap.size ≤ k := by
  obtain ⟨a1, a2, a3, a4⟩ := h.dy.of D (.inl (by simp))
  obtain ⟨c1, c2, c3, c4⟩ := h.dy.of (D + 1) (.inl (by simp))
  refine ⟨fun x hx e => ?_, fun e => ?_, fun k hk e => ?_, fun k hk e => ?_, fun k e => ?_⟩
  · exact h.dy.fb x.1 (.inl (by simpa using e)) x hx rfl
  · rcases e with e | e
    · exact a2 e.symm
    · exact c2 e.symm
  · rcases e with rfl | rfl
    · exact a3 hk
    · exact c3 hk
  · rcases e with rfl | rfl
    · exact a4 hk
    · exact c4 hk
  · rcases e with rfl | rfl
    · exact a1
    · exact c1

theorem SV.st (O : Go.Proofs.Ytpkcabbfblhekaa.Od f S I od one) (h : SV S I W w [D, D + 1] Bs p q f v H came lv out c) (k : Chg (fun k => k = D ∨ k = D + 1) w w') : SV S I W w' [D, D + 1] Bs p q f v H came lv out c := by
  obtain ⟨o1, o2, o3, o4, o5⟩ := h.off
  exact h.keepS O k o1 o2 o3 o4 (fun e => h.qf (by simpa using e)) o5

theorem SV.box (O : Go.Proofs.Ytpkcabbfblhekaa.Od f S I od one) (h : SV S I W w Fs Bs p q f v H came lv out c) (u : List Value) (t : Nat) (hf : ∀ k ∈ Fs, k < w.heap.size) : SV S I W (w.alloc (.cells u.toArray t)) Fs (Bs ++ [(w.heap.size, u, t)]) p q f v H came lv out c := by
  have h1 := h.dy.box u t hf h.hq.lt h.hq.vlt (fun k hk => h.own.lt hk)
  have h2 := h.keep O ((Chg.refl _ _).alloc (.cells u.toArray t))
  refine ⟨h1, h2.hq, h2.own, h.np, h.nv, h.ll, h2.ic, h.qW, h.qp, h.qv, h.ql, fun x hx => ?_, h.qf⟩
  rcases List.mem_append.1 hx with hx | hx
  · exact h.qb x hx
  · obtain rfl := List.mem_singleton.1 hx
    have := h.ic.2.lt
    show w.heap.size ≠ q
    omega
theorem SV.less (h : SV S I W w Fs Bs p q f v H came lv out c) {Cs : List Bo} (hs : Cs.Sublist Bs) : SV S I W w Fs Cs p q f v H came lv out c := ⟨h.dy.less hs, h.hq, h.own, h.np, h.nv, h.ll, h.ic, h.qW, h.qp, h.qv, h.ql, fun x hx => h.qb x (hs.subset hx), h.qf⟩
theorem SV.open (h : SV S I W w [] Bs p q f v H came lv out c) : SV S I W w [w.heap.size, w.heap.size + 1] Bs p q f v H came lv out c := by
  have := h.ic.2.lt
  exact ⟨h.dy.open h.hq.lt h.hq.vlt (fun _ hk => h.own.lt hk), h.hq, h.own, h.np, h.nv, h.ll, h.ic, h.qW, h.qp, h.qv, h.ql, h.qb, by simp; omega⟩

/-- A store into a box. -/
theorem SV.store (O : Go.Proofs.Ytpkcabbfblhekaa.Od f S I od one) (h : SV S I W w Fs Bs p q f v H came lv out c) (i : Nat) {b t o : Nat} {u : List Value} (hi : Bs[i]? = some (b, u, t)) (x : Value) : SV S I W (w.setCell ⟨b, o, none⟩ x) Fs (Bs.set i (b, u.set o x, t)) p q f v H came lv out c := by
  have hm := List.mem_of_getElem? hi
  obtain ⟨q1, q2, q3, q4⟩ := h.dy.of b (.inr (.inr ⟨_, hm, rfl⟩))
  have kb : Chg (fun k => k = b) w (w.setCell ⟨b, o, none⟩ x) := (Chg.refl (fun k => k = b) _).setCell (p := ⟨b, o, none⟩) (.inl rfl) _
  have hlow : ∀ k, W.heap.size ≤ k → ¬ S k := fun k hk hs => by have := h.dy.tl k hs; omega
  obtain ⟨⟨c0, h2, h3⟩, h4⟩ := h.ic
  refine ⟨h.dy.store i hi x, h.hq.keep kb (fun e => q2 e.symm) (fun j hj e => q3 (by rw [← e]; exact hj)), h.own.keep kb (fun j hj e => q4 (by rw [← e]; exact hj)), h.np, h.nv, h.ll, ⟨⟨c0, h2, O.keep h3 kb (fun j hj hs => hlow j (by rw [hj]; exact q1) hs)⟩, h4.keep kb (fun e => h.qb _ hm e.symm)⟩, h.qW, h.qp, h.qv, h.ql, fun y hy => ?_, h.qf⟩
  rcases List.mem_or_eq_of_mem_set hy with hy | hy
  · exact h.qb y hy
  · rw [hy]; exact h.qb (b, u, t) hm

/-- A thing laid into the list. -/
theorem SV.put (O : Go.Proofs.Ytpkcabbfblhekaa.Od f S I od one) {g cap : Nat} (h : SV S I W w Fs Bs p q f v H came (.slice (some ⟨g, 0, none⟩) out.length cap) out c) (i : Nat) (hi : i < out.length) (a : Int × Int) :
    SV S I W ((w.setCell ⟨g, i * 2, none⟩ (.int .i64 a.1)).setCell ⟨g, i * 2 + 1, none⟩ (.int .i64 a.2)) Fs Bs p q f v H came (.slice (some ⟨g, 0, none⟩) out.length cap) (out.set i a) c ∧ Chg (fun k => k = g) w ((w.setCell ⟨g, i * 2, none⟩ (.int .i64 a.1)).setCell ⟨g, i * 2 + 1, none⟩ (.int .i64 a.2)) := by
  have kg : Chg (fun k => k = g) w ((w.setCell ⟨g, i * 2, none⟩ (.int .i64 a.1)).setCell ⟨g, i * 2 + 1, none⟩ (.int .i64 a.2)) := ((Chg.refl (fun k => k = g) w).setCell (p := ⟨g, i * 2, none⟩) (.inl rfl) _).setCell (p := ⟨g, i * 2 + 1, none⟩) (.inl rfl) _
  have hg : (Value.slice (some ⟨g, 0, none⟩) out.length cap).ownBlock = some g := rfl
  have hlow : ∀ k, W.heap.size ≤ k → ¬ S k := fun k hk hs => by have := h.dy.tl k hs; omega
  obtain ⟨⟨c0, h2, h3⟩, h4⟩ := h.ic
  refine ⟨⟨h.dy.keepS kg (fun x hx e => (h.dy.of x.1 (.inr (.inr ⟨x, hx, rfl⟩))).2.2.2 (by rw [hg, e])) (fun _ hd => by simp at hd) (fun j hj => .inr (by rw [hj]; exact h.ll g hg)), h.hq.keep kg (fun e => h.np (by rw [hg, e])) (fun j hj e => h.nv g hg (by rw [← e]; exact hj)), h.own.put i hi a, h.np, h.nv, h.ll, ⟨⟨c0, h2, O.keep h3 kg (fun j hj hs => hlow j (by rw [hj]; exact h.ll g hg) hs)⟩, h4.keep kg (fun e => h.ql (by rw [hg, e]))⟩, h.qW, h.qp, h.qv, h.ql, h.qb, h.qf⟩, kg⟩

/-- Pop. -/
theorem SV.pop (O : Go.Proofs.Ytpkcabbfblhekaa.Od f S I od one) (h1 : one ≤ 1) (h : SV S I W w [D, D + 1] Bs p q f v H came lv out c) (hs : D + 1 < w.heap.size) (hn : H.length ≤ 2097152) (hc : c + 2 * H.length + 2 < 4611686018427387904) :
    Calls Try.prog 53 #[.pointer (some ⟨p, 0, none⟩)] w fun e w' => Kd D w w' ∧
      ((∃ x, e = .returned (.tuple #[two x, .bool true]) ∧ ∃ v' m, H.length = m + 1 ∧ x = (nth H 0).th ∧ SV S I W w' [D, D + 1] Bs p q f v' (popF (odF (odBk od)) H).1 came lv out (c + (popF (odF (odBk od)) H).2)) ∨
       ∃ x, e = .returned (.tuple #[two x, .bool false]) ∧ H = [] ∧ SV S I W w' [D, D + 1] Bs p q f v H came lv out c) := by
  obtain ⟨o1, o2, o3, o4, o5⟩ := h.off
  have hlow : ∀ k, W.heap.size ≤ k → ¬ S k := fun k hk hs => by have := h.dy.tl k hs; omega
  refine (pop_gen (od_back O h1 q (hlow q h.qW)) h.hq (fun e => ?_) (fun k hk e => ?_) c hn h.ic hc (Nat.le_refl _)).mono ?_
  · rcases e with e | e
    · exact hlow _ h.dy.pl e
    · exact h.qp e.symm
  · rcases e with e | e
    · exact hlow _ (h.dy.vl k hk) e
    · exact h.qv (by rw [hk, e])
  rintro e w' (⟨m, hm, rfl, ⟨v', hv1, hv2⟩, hi, hch⟩ | ⟨hH, rfl, k⟩)
  · have hR : ∀ k, (W.heap.size ≤ k ∧ k ≠ p ∧ v.ownBlock ≠ some k ∧ k ≠ q) → ¬ (k = p ∨ some k = v.ownBlock ∨ S k ∨ k = q) := fun k ⟨a1, a2, a3, a4⟩ e => by
      rcases e with e | e | e | e
      · exact a2 e
      · exact a3 e.symm
      · exact hlow k a1 e
      · exact a4 e
    have hD : ∀ k, (k = D ∨ k = D + 1) → ¬ (k = p ∨ some k = v.ownBlock ∨ S k ∨ k = q) := fun k hk => hR k ⟨o5 k hk, fun e => o2 (by rw [← e]; exact hk), fun e => o3 k e hk, fun e => h.qf (by rw [← e]; simpa using hk)⟩
    have hB : ∀ x ∈ Bs, ¬ (x.1 = p ∨ some x.1 = v.ownBlock ∨ S x.1 ∨ x.1 = q) := fun x hx => by
      obtain ⟨a1, a2, a3, _⟩ := h.dy.of x.1 (.inr (.inr ⟨x, hx, rfl⟩))
      exact hR x.1 ⟨a1, a2, a3, h.qb x hx⟩
    refine ⟨Kd.of_chg hch hs (hD _ (.inl rfl)) (hD _ (.inr rfl)), .inl ⟨_, rfl, v', m, hm, rfl, ⟨h.dy.turnR hch hB (fun _ hd => by simp at hd) (fun i hi => ?_) (fs_lt hs) hv2, hv1, h.own.keep hch (fun k hk => hR k ⟨h.ll k hk, fun e => h.np (by rw [hk, e]), h.nv k hk, fun e => h.ql (by rw [hk, e])⟩), h.np, fun k hk e => ?_, h.ll, by rw [Nat.one_mul] at hi; exact hi, h.qW, h.qp, fun e => ?_, h.ql, h.qb, h.qf⟩⟩⟩
    · rcases hi with e | e | e | e
      · exact .inr (by rw [e]; exact h.dy.pl)
      · exact .inr (h.dy.vl i e.symm)
      · exact .inl e
      · exact .inr (by rw [e]; exact h.qW)
    · rcases hv2 k e with e | e
      · exact h.nv k hk e.symm
      · have := h.own.lt hk; omega
    · rcases hv2 q e with e | e
      · exact h.qv e.symm
      · have := h.ic.2.lt; omega
  · exact ⟨Kd.of_chg k hs (fun h => h) (fun h => h), .inr ⟨_, rfl, hH, h.keep O k⟩⟩
end
end V

end Go.Proofs.Ytpkcabbfblhekaa

/-
  The walk of Least.
-/
namespace Go.Proofs.Ytpkcabbfblhekaa
open Go.RowKit Go.Shelf
attribute [local go_sem] Oper.semAt_some

def th2 (a : Int × Int × Int) : Int × Int := (a.1, a.2.1)
/-- What Least gives: so many of the list, by the heap of numbered things. -/
def leastL (od : E → E → Int) (L : List (Int × Int)) (k : Nat) : List (Int × Int) := ((V.drF (V.odF (V.odBk od)) k (V.lbF od k L 0 [] 0).1).1.map th2).reverse

theorem lbF_len (od : E → E → Int) (n : Nat) : ∀ (L : List (Int × Int)) (i : Nat) (H : List V.E) (came : Nat), H.length ≤ n → (V.lbF od n L i H came).1.length = min n (H.length + L.length)
  | [], i, H, came, h => by simp [V.lbF]; omega
  | a :: L, i, H, came, h => by
    unfold V.lbF
    split
    · rw [lbF_len od n L _ _ _ (by rw [V.pushF_len]; simp; omega), V.pushF_len]
      simp
      omega
    · split
      · rw [lbF_len od n L _ _ _ (by rw [V.swapF_len]; exact h), V.swapF_len]
        simp
        omega
      · rw [lbF_len od n L _ _ _ h]
        simp
        omega

theorem OwnT.made (w : World) (c : Nat) (hc : c ≤ 2097152) : OwnT (w.alloc (.cells (madeCells #[.int .i64 0, .int .i64 0] (c * 2)) 26)) (.slice (some ⟨w.heap.size, 0, none⟩) c c) (List.replicate c (0, 0)) := by
  have hrow : ∀ n, rowT (List.replicate n ((0 : Int), (0 : Int))) = List.replicate (n * 2) (.int .i64 0) := fun n => by
    induction n with
    | zero => rfl
    | succ n ih => rw [List.replicate_succ, show rowT ((0, 0) :: List.replicate n (0, 0)) = .int .i64 0 :: .int .i64 0 :: rowT (List.replicate n (0, 0)) from rfl, ih, show (n + 1) * 2 = n * 2 + 1 + 1 by omega, List.replicate_succ, List.replicate_succ]
  have hm : (madeCells #[(.int .i64 0 : Value), .int .i64 0] (c * 2)).toList = List.replicate (c * 2) (.int .i64 0) := by
    refine List.ext_getElem (by simp [madeCells]) (fun i h1 h2 => ?_)
    rw [List.getElem_replicate]
    simp only [Array.getElem_toList]
    unfold madeCells
    simp
    have : i % 2 = 0 ∨ i % 2 = 1 := by omega
    rcases this with e | e <;> simp [e]
  unfold OwnT
  refine ⟨by rw [rowT_len], .inr ⟨w.heap.size, c, _, by rw [List.length_replicate], Nat.zero_le _, heap_alloc_new w _, by simp, by unfold maxLen; omega, by simp [madeCells], ?_⟩⟩
  rw [hm, hrow, List.length_replicate]
  simp

theorem sv_start {S : Nat → Prop} {I : Nat → World → Prop} {W w3 w4 : World} {Bs : List Bo} {f v : Value} {H : List V.E} {came : Nat} {lv : Value} {out : List (Int × Int)} {n c c0 : Nat} {od : E → E → Int} {one : Nat} (O : Od f S I od one) (hI : I c0 W) (hc3 : Chg (fun _ => False) W w3) (lb : V.LB w3 w4 (w3.heap.size + 1) w3.heap.size n c f v S I H came)
    (hb : ∀ x ∈ Bs, Blk w3 x.1 x.2.1 x.2.2) (inc : Bs.Pairwise (fun x y => x.1 < y.1)) (hW : ∀ x ∈ Bs, W.heap.size ≤ x.1) (own : OwnT w3 lv out) (ll : ∀ k, lv.ownBlock = some k → W.heap.size ≤ k) (lb' : ∀ x ∈ Bs, lv.ownBlock ≠ some x.1) : V.SV S I W w4 [] Bs (w3.heap.size + 1) w3.heap.size f v H came lv out c := by
  have htl : ∀ k, S k → k < W.heap.size := fun k hk => O.low hI hk
  have hlow : ∀ k, W.heap.size ≤ k → ¬ S k := fun k hk hs => by have := htl k hs; omega
  have hs3 := hc3.size
  refine ⟨⟨fun x hx => (hb x hx).keep lb.ch (hlow _ (hW x hx)), inc, fun d hd => by simp at hd, List.nodup_nil, (hc3.mono (fun _ _ h => h.elim)).trans lb.ch (fun _ h => .inl h), htl, fun k hk => ?_, fun k hk => by simp at hk, by omega, fun k hk => by have := lb.vl k hk; omega⟩, lb.hq, own.keep lb.ch (fun k hk => hlow k (ll k hk)), fun e => ?_, fun k hk e => ?_, ll, lb.ib, hs3, by omega, lb.vq, fun e => ?_, fun x hx e => ?_, by simp⟩
  · rcases hk with hk | hk | ⟨x, hx, rfl⟩
    · simp at hk
    · simp at hk
    · have hlt := (hb x hx).lt
      exact ⟨hW x hx, by omega, fun e => by have := lb.vl _ e; omega, lb' x hx⟩
  · have := own.lt e; omega
  · have h1 := own.lt hk
    have h2 := lb.vl k e
    omega
  · have := own.lt e; omega
  · have := (hb x hx).lt; omega

theorem OwnT.frz {w : World} {g cap : Nat} {l : List (Int × Int)} (h : OwnT w (.slice (some ⟨g, 0, none⟩) l.length cap) l) (j : Nat) : w.frozen? ⟨g, j, none⟩ = false := by
  unfold OwnT at h
  obtain ⟨_, h2⟩ := h
  rcases h2 with ⟨e, _⟩ | ⟨g', cap', cur, e, hb, hg, hle, hm, hs, ht⟩
  · cases e
  · injection e with e1 e2 e3
    injection e1 with e1
    injection e1 with e1 _ _
    subst e1
    exact frozen_of_row w g j _ 26 hg

/-- How the list is filled from its end on. -/
theorem fill_step {A B : List (Int × Int)} {x : Int × Int} {out : List (Int × Int)} {m : Nat} (hm : m < out.length) (h : A ++ x :: out.drop (m + 1) = B) : A ++ (out.set m x).drop m = B := by
  rw [← h]
  congr 1
  rw [List.drop_set, if_neg (Nat.lt_irrefl _), Nat.sub_self, List.drop_eq_getElem_cons hm, List.set_cons_zero]

end Go.Proofs.Ytpkcabbfblhekaa
