/-
  What draining a heap gives; a heap that is drained into a list.
-/
import Derived.Test.YtpkcabbfblhekaaSoA
namespace Go.Proofs.Ytpkcabbfblhekaa
open Go.RowKit

/-- All things, one by one; how often two were compared. -/
def drF (od : E → E → Int) : Nat → List E → List (Int × Int) × Nat
  | 0, _ => ([], 0)
  | m + 1, H => ((nth H 0).th :: (drF od m (popF od H).1).1, (popF od H).2 + (drF od m (popF od H).1).2)

theorem drF_len (od : E → E → Int) : ∀ (m : Nat) (H : List E), (drF od m H).1.length = m
  | 0, _ => rfl
  | m + 1, H => by simp [drF, drF_len od m]

theorem dg_le : ∀ (k n : Nat), n < 2 ^ k → dg n ≤ k
  | 0, n, h => by
    have : n = 0 := by omega
    subst this
    rw [dg_zero]
    exact Nat.le_refl _
  | k + 1, n, h => by
    by_cases h0 : n = 0
    · subst h0; rw [dg_zero]; omega
    · rw [dg_pos (by omega)]
      have := dg_le k (n / 2) (by rw [Nat.pow_succ] at h; omega)
      omega

theorem drF_cost (od : E → E → Int) (N : Nat) : ∀ (m : Nat) (H : List E), H.length = m → m ≤ N → (drF od m H).2 ≤ m * (2 * dg N)
  | 0, _, _, _ => Nat.zero_le _
  | m + 1, H, h, hN => by
    have h1 := popF_cost od H
    have h2 := dg_mono (by omega : H.length ≤ N)
    have h3 := drF_cost od N m (popF od H).1 (by rw [popF_len]; omega) (by omega)
    show (popF od H).2 + (drF od m (popF od H).1).2 ≤ (m + 1) * (2 * dg N)
    rw [Nat.add_mul, Nat.one_mul]
    omega

theorem most_le (N : Nat) : ∀ (k n : Nat), n + k ≤ N → most n k ≤ k * (dg N + 1)
  | 0, n, _ => by simp [most]
  | k + 1, n, h => by
    rw [most_succ]
    have h1 := most_le N k (n + 1) (by omega)
    have h2 := dg_mono (by omega : n ≤ N)
    rw [Nat.add_mul, Nat.one_mul]
    omega

/-- Pop, whatever is there, with a compare that counts. -/
theorem pop_gen {w : World} {p : Nat} {f v : Value} {H : List E} {came : Nat} {S : Nat → Prop} {I : Nat → World → Prop} {od : E → E → Int} {one : Nat} (O : Od f S I od one) (h : Hq w p f v H came) (hp : ¬ S p) (hg : ∀ k, v.ownBlock = some k → ¬ S k) (c : Nat) (hn : H.length ≤ 2097152) (hI : I c w) (hc : c + 2 * H.length + 2 < 4611686018427387904) (h1 : one ≤ 1) :
    Calls Try.prog 16 #[.pointer (some ⟨p, 0, none⟩)] w fun e w' =>
      (∃ m, H.length = m + 1 ∧ e = .returned (.tuple #[twoV (nth H 0).th, .bool true]) ∧ Stt w w' p f v.ownBlock (popF od H).1 came (c + one * (popF od H).2) S I) ∨
      (H = [] ∧ e = .returned (.tuple #[twoV (0, 0), .bool false]) ∧ Chg (fun _ => False) w w') := by
  by_cases h0 : 0 < H.length
  · rcases h.cases with ⟨_, rfl⟩ | ⟨g, cap, sp, rfl, hp'⟩
    · simp at h0
    · refine (pop_some O hp' hp (hg g rfl) c (H.length - 1) (by omega) (by omega) hI (by omega) h1).mono ?_
      rintro e w' ⟨rfl, ⟨v', hv1, hv2⟩, hi, hch⟩
      refine .inl ⟨H.length - 1, by omega, rfl, ⟨v', hv1, fun k hk => ?_⟩, hi, hch.mono (fun i _ hi => ?_)⟩
      · rcases hv2 k hk with e | e
        · exact .inl (by rw [e]; rfl)
        · exact .inr e
      · rcases hi with e | e | e
        · exact .inl e
        · exact .inr (.inl (by rw [e]; rfl))
        · exact .inr (.inr e)
  · have : H = [] := List.eq_nil_of_length_eq_zero (by omega)
    subst this
    refine (pop_none h).mono ?_
    rintro e w' ⟨rfl, k⟩
    exact .inr ⟨rfl, rfl, k⟩

/-- A heap under way into a list. -/
structure SS (S : Nat → Prop) (I : Nat → World → Prop) (W w : World) (Fs : List Nat) (Bs : List Bo) (p : Nat) (f v : Value) (H : List E) (came : Nat) (lv : Value) (out : List (Int × Int)) (c : Nat) : Prop where
  dy : DY S W w Fs [] Bs p v lv
  hq : Hq w p f v H came
  own : OwnT w lv out
  np : lv.ownBlock ≠ some p
  nv : ∀ k, lv.ownBlock = some k → v.ownBlock ≠ some k
  ll : ∀ k, lv.ownBlock = some k → W.heap.size ≤ k
  ic : I c w

section
variable {S : Nat → Prop} {I : Nat → World → Prop} {W w w' : World} {D : Nat} {Fs : List Nat} {Bs : List Bo} {p : Nat} {f v : Value} {H : List E} {came : Nat} {lv : Value} {out : List (Int × Int)} {c : Nat} {od : E → E → Int} {one : Nat}

theorem SS.keepS {R : Nat → Prop} (O : Od f S I od one) (h : SS S I W w Fs Bs p f v H came lv out c) (k : Chg R w w') (hb : ∀ x ∈ Bs, ¬ R x.1) (hp : ¬ R p) (hv : ∀ k, v.ownBlock = some k → ¬ R k) (hl : ∀ k, lv.ownBlock = some k → ¬ R k) (hR : ∀ k, R k → W.heap.size ≤ k) : SS S I W w' Fs Bs p f v H came lv out c :=
  ⟨h.dy.keepS k hb (fun _ h => by simp at h) (fun i hi => .inr (hR i hi)), h.hq.keep k hp hv, h.own.keep k hl, h.np, h.nv, h.ll, O.keep h.ic k (fun i hi hs => by have := h.dy.tl i hs; have := hR i hi; omega)⟩
theorem SS.keep (O : Od f S I od one) (h : SS S I W w Fs Bs p f v H came lv out c) (k : Chg (fun _ => False) w w') : SS S I W w' Fs Bs p f v H came lv out c :=
  h.keepS O k (fun _ _ h => h) (fun h => h) (fun _ _ h => h) (fun _ _ h => h) (fun _ h => h.elim)

theorem SS.off (h : SS S I W w [D, D + 1] Bs p f v H came lv out c) : (∀ x ∈ Bs, ¬ (x.1 = D ∨ x.1 = D + 1)) ∧ ¬ (p = D ∨ p = D + 1) ∧ (∀ k, v.ownBlock = some k → ¬ (k = D ∨ k = D + 1)) ∧ (∀ k, lv.ownBlock = some k → ¬ (k = D ∨ k = D + 1)) ∧ ∀ k, (k = D ∨ k = D + 1) → W.heap.size ≤ k := by
  obtain ⟨a1, a2, a3, a4⟩ := h.dy.of D (.inl (by simp))
  obtain ⟨c1, c2, c3, c4⟩ := h.dy.of (D + 1) (.inl (by simp))
  refine ⟨fun x hx e => ?_, fun e => ?_, fun k hk e => ?_, fun k hk e => ?_, fun k e => ?_⟩
  · exact h.dy.fb x.1 (.inl (by simpa using e)) x hx rfl
  · rcases e with e | e
    · exact a2 e.symm
    · exact c2 e.symm
  · rcases e with rfl | rfl
    · exact a3 hk
    · exact c3 hk
  · rcases e with rfl | rfl
    · exact a4 hk
    · exact c4 hk
  · rcases e with rfl | rfl
    · exact a1
    · exact c1

theorem SS.st (O : Od f S I od one) (h : SS S I W w [D, D + 1] Bs p f v H came lv out c) (k : Chg (fun k => k = D ∨ k = D + 1) w w') : SS S I W w' [D, D + 1] Bs p f v H came lv out c := by
  obtain ⟨o1, o2, o3, o4, o5⟩ := h.off
  exact h.keepS O k o1 o2 o3 o4 o5

theorem SS.box (O : Od f S I od one) (h : SS S I W w Fs Bs p f v H came lv out c) (u : List Value) (t : Nat) (hf : ∀ k ∈ Fs, k < w.heap.size) : SS S I W (w.alloc (.cells u.toArray t)) Fs (Bs ++ [(w.heap.size, u, t)]) p f v H came lv out c := by
  have h1 := h.dy.box u t hf h.hq.lt h.hq.vlt (fun k hk => h.own.lt hk)
  have h2 := h.keep O ((Chg.refl _ _).alloc (.cells u.toArray t))
  exact ⟨h1, h2.hq, h2.own, h.np, h.nv, h.ll, h2.ic⟩
theorem SS.less (h : SS S I W w Fs Bs p f v H came lv out c) {Cs : List Bo} (hs : Cs.Sublist Bs) : SS S I W w Fs Cs p f v H came lv out c := ⟨h.dy.less hs, h.hq, h.own, h.np, h.nv, h.ll, h.ic⟩

/-- Pop. -/
theorem SS.pop (O : Od f S I od one) (h1 : one ≤ 1) (h : SS S I W w [D, D + 1] Bs p f v H came lv out c) (hs : D + 1 < w.heap.size) (hn : H.length ≤ 2097152) (hc : c + 2 * H.length + 2 < 4611686018427387904) :
    Calls Try.prog 16 #[.pointer (some ⟨p, 0, none⟩)] w fun e w' => Kd D w w' ∧
      ((∃ x, e = .returned (.tuple #[twoV x, .bool true]) ∧ ∃ v' m, H.length = m + 1 ∧ x = (nth H 0).th ∧ SS S I W w' [D, D + 1] Bs p f v' (popF od H).1 came lv out (c + one * (popF od H).2)) ∨
       ∃ x, e = .returned (.tuple #[twoV x, .bool false]) ∧ H = [] ∧ SS S I W w' [D, D + 1] Bs p f v H came lv out c) := by
  obtain ⟨o1, o2, o3, o4, o5⟩ := h.off
  have hlow : ∀ k, W.heap.size ≤ k → ¬ S k := fun k hk hs => by have := h.dy.tl k hs; omega
  refine (pop_gen O h.hq (hlow _ h.dy.pl) (fun k hk => hlow _ (h.dy.vl k hk)) c hn h.ic hc h1).mono ?_
  rintro e w' (⟨m, hm, rfl, ⟨v', hv1, hv2⟩, hi, hch⟩ | ⟨hH, rfl, k⟩)
  · have hD : ∀ k, (k = D ∨ k = D + 1) → ¬ (k = p ∨ some k = v.ownBlock ∨ S k) := fun k hk e => by
      rcases e with e | e | e
      · exact o2 (by rw [← e]; exact hk)
      · exact o3 k e.symm hk
      · exact hlow k (o5 k hk) e
    refine ⟨Kd.of_chg hch hs (hD _ (.inl rfl)) (hD _ (.inr rfl)), .inl ⟨_, rfl, v', m, hm, rfl, ⟨h.dy.turn hch (fs_lt hs) hv2 (fun k hk => .inl hk), hv1, h.own.keep hch (fun k hk e => ?_), h.np, fun k hk e => ?_, h.ll, hi⟩⟩⟩
    · rcases e with e | e | e
      · exact h.np (by rw [hk, e])
      · exact h.nv k hk e.symm
      · exact hlow k (h.ll k hk) e
    · rcases hv2 k e with e | e
      · exact h.nv k hk e.symm
      · have := h.own.lt hk; omega
  · exact ⟨Kd.of_chg k hs (fun h => h) (fun h => h), .inr ⟨_, rfl, hH, h.keep O k⟩⟩
end

end Go.Proofs.Ytpkcabbfblhekaa
