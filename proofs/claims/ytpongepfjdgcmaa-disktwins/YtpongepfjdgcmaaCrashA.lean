/-
  A crash that keeps what it likes: the durable map and its bytes while it goes on.
-/
import Derived.Test.YtpongepfjdgcmaaOwn
namespace Go.Proofs.Ytpongepfjdgcmaa
open Go.RowKit Go.RwLone

/-- What a sector has behind some of its writes. -/
def foldC (z : Nat) (kN : Nat → Nat) (C : Nat → List Int) : List (Nat × Nat) → Option (List Int) → Option (List Int)
  | [], cur => cur
  | y :: l, cur => foldC z kN C l (if kN y.1 = 0 then cur else some (over (C y.2) (cur.getD (zs z)) (kN y.1)))
theorem foldC_snoc (z : Nat) (kN : Nat → Nat) (C : Nat → List Int) : ∀ (l : List (Nat × Nat)) (y : Nat × Nat) (cur : Option (List Int)), foldC z kN C (l ++ [y]) cur = if kN y.1 = 0 then foldC z kN C l cur else some (over (C y.2) ((foldC z kN C l cur).getD (zs z)) (kN y.1))
  | [], _, _ => rfl
  | _ :: l, y, _ => foldC_snoc z kN C l y _

def updT {α : Type} (T : Nat → α) (s : Nat) (v : α) : Nat → α := fun t => if t = s then v else T t
theorem updT_same {α : Type} (T : Nat → α) (s : Nat) (v : α) : updT T s v s = v := by simp [updT]
theorem updT_other {α : Type} (T : Nat → α) {s t : Nat} (v : α) (h : t ≠ s) : updT T s v t = T t := by simp [updT, h]

/-- The durable map and its bytes within a crash: sector t reads T t; ex more stores are left. -/
structure CB (w2 wr : World) (m c I kc z kb : Nat) (D : DataW Unit) (left : Lit → Bool) (cnt : Nat) (K : Nat → Option Nat) (T : Nat → Option (List Int)) (ex : Nat) : Prop where
  rg : wr.ranges Try.prog 3 anyElem c I kc D left cnt
  ch : Chg (fun g => g = m ∨ ∃ t, K t = some g) w2 wr
  i2 : w2.heap.size ≤ I
  ir : I < wr.heap.size
  cm : c ≠ m
  du : ∃ km' K' E' C', Du wr m km' z K' E' ∧ km' + ex ≤ kb ∧ (∀ t g, K' t = some g → K t = some g ∨ I < g) ∧ (∀ t t' g, K' t = some g → K' t' = some g → t = t') ∧ (∀ t g, K' t = some g → Rw wr g (bs (C' g)).toArray 5 ∧ (C' g).length = z) ∧ ∀ t, (K' t).map C' = T t

theorem iter_at {w : World} {c I kc : Nat} {D : DataW Unit} {left : Lit → Bool} {cnt : Nat} (h : w.ranges Try.prog 3 anyElem c I kc D left cnt) : ∃ a1 a2 a3, w.heap[I]? = some (.mapIter (some c) a1 a2 a3) := by
  obtain ⟨_, _, a1, a2, a3, _, _, _, _, hI, _⟩ := h
  exact ⟨a1, a2, a3, hI⟩

theorem CB.more {w2 wr wn : World} {m c I kc z kb : Nat} {D : DataW Unit} {left : Lit → Bool} {cnt : Nat} {K : Nat → Option Nat} {T : Nat → Option (List Int)} {ex : Nat} (h : CB w2 wr m c I kc z kb D left cnt K T ex) (k : Chg (fun _ => False) wr wn) : CB w2 wn m c I kc z kb D left cnt K T ex := by
  have hg : wr.grownBy wn none := ⟨k.os, k.tape, k.output, k.size, fun i hi _ => k.block i hi (fun h => h)⟩
  obtain ⟨km', K', E', C', h1, h2, h3, h4, h5, h6⟩ := h.du
  exact ⟨h.rg.kept hg (by simp) (by simp), h.ch.trans k (fun _ h => h.elim), h.i2, Nat.lt_of_lt_of_le h.ir k.size, h.cm, km', K', E', C', h1.kept hg (by simp), h2, h3, h4, fun t g hgg => ⟨⟨k.heap_some (h5 t g hgg).1.eq (fun h => h)⟩, (h5 t g hgg).2⟩, h6⟩

theorem grown_tr {w w1 w2 : World} {G : Nat} {S : Nat → Prop} (h1 : Chg S w w1) (h2 : Chg (fun i => i = G) w1 w2) : Chg (fun i => S i ∨ i = G) w w2 := ⟨h2.os.trans h1.os, h2.tape.trans h1.tape, h2.output.trans h1.output, Nat.le_trans h1.size h2.size, fun k hk hn => (h2.block k (Nat.lt_of_lt_of_le hk h1.size) (fun e => hn (.inr e))).trans (h1.block k hk (fun e => hn (.inl e)))⟩

/-- One write is applied. -/
theorem CB.apply {w2 wr : World} {p m c I kc z kb : Nat} {D : DataW Unit} {left : Lit → Bool} {cnt : Nat} {K : Nat → Option Nat} {T : Nat → Option (List Int)} {ex : Nat} {cs : Array Value} (h : CB w2 wr m c I kc z kb D left cnt K T ex)
    (hr : Rw wr p cs 91) (h8 : cs[8]? = some (.map (some m))) (h1 : cs[1]? = some (.int .i64 z)) (s : Nat) (hs : s ≤ 65536) (hz : z ≤ 4096) (hkb : kb ≤ 4398046511104) (hex : T s = none → 1 ≤ ex)
    {b k : Nat} {lb : List Int} (hb : Rw wr b (bs lb).toArray 5) (hlb : lb.length = z) (hbI : b < I) (hbK : ∀ t, K t ≠ some b) (hk0 : 0 < k) (hk : k ≤ z) :
    Calls Try.prog 45 #[.pointer (some ⟨p, 0, none⟩), .int .i64 s, .slice (some ⟨b, 0, none⟩) k z] wr fun e w' => e = .returned (.tuple #[]) ∧ CB w2 w' m c I kc z kb D left cnt K (updT T s (some (over lb ((T s).getD (zs z)) k))) (if T s = none then ex - 1 else ex) ∧ ∃ G, Chg (fun i => i = m ∨ i = G) wr w' ∧ ((∃ cur, wr.heap[G]? = some (.cells cur 5 (0, 0))) ∨ wr.heap.size ≤ G) := by
  obtain ⟨km', K', E', C', d1, d2, d3, d4, d5, d6⟩ := h.du
  have hmp : m ≠ p := ne_map hr d1.map
  have hir := h.ir
  have hi2 := h.i2
  have hrc : ∀ g, (∃ cur, wr.heap[g]? = some (.cells cur 5 (0, 0))) → c ≠ g := fun g ⟨cur, hg⟩ e => by
    obtain ⟨es, cl, hm, _⟩ := h.rg.owns
    rw [e, hg] at hm
    cases hm
  cases hKs : K' s with
  | some G =>
    have hT : T s = some (C' G) := by rw [← d6 s, hKs]; rfl
    obtain ⟨rG, lG⟩ := d5 s G hKs
    have hbG : b ≠ G := fun e => by
      rcases d3 s G hKs with h9 | h9
      · exact hbK s (by rw [h9, e])
      · omega
    refine (apply_any (P := fun w' => wr = w') hk0 hk hz (own_have hr h8 d1 s hs G hKs) (lg := C' G) (lb := lb) (by rintro w1 rfl; exact ⟨rG, hb⟩) lG hlb).mono ?_
    rintro e w9 ⟨rfl, w1, rfl, r9, ch9⟩
    refine ⟨rfl, ?_, G, ch9.mono (fun _ _ e => .inr e), .inl ⟨_, rG.eq⟩⟩
    rw [hT, if_neg (by simp)]
    have hGI : G ≠ I := fun e => by
      obtain ⟨a1, a2, a3, hI⟩ := iter_at h.rg
      rw [← e, rG.eq] at hI
      cases hI
    have hg9 := grown_of ch9
    have hmG : m ≠ G := ne_map rG d1.map
    refine ⟨h.rg.kept hg9 (fun e => hrc G ⟨_, rG.eq⟩ (by injection e)) (fun e => hGI (by injection e with e; exact e.symm)), ?_, hi2, Nat.lt_of_lt_of_le hir ch9.size, h.cm, km', K', E', updT C' G (over lb (C' G) k), d1.kept hg9 (fun e => hmG (by injection e)), d2, d3, d4, fun t g hgg => ?_, fun t => ?_⟩
    · refine h.ch.trans ch9 (fun i e => ?_)
      subst e
      rcases d3 s i hKs with h9 | h9
      · exact .inl (.inr ⟨s, h9⟩)
      · exact .inr (by omega)
    · by_cases e : g = G
      · subst e
        rw [updT_same]
        exact ⟨r9, over_len hlb lG k hk⟩
      · rw [updT_other _ _ e]
        exact ⟨Rw.chg1 (d5 t g hgg).1 ch9 e, (d5 t g hgg).2⟩
    · by_cases e : t = s
      · subst e
        rw [updT_same, hKs]
        show some (updT C' G _ G) = _
        rw [updT_same]
        rfl
      · rw [updT_other _ _ e, ← d6 t]
        cases hKt : K' t with
        | none => rfl
        | some g =>
          show some (updT C' G _ g) = some (C' g)
          rw [updT_other _ _ (fun e2 => e (d4 t s g hKt (by rw [hKs, e2])))]
  | none =>
    have hT : T s = none := by rw [← d6 s, hKs]; rfl
    have hex1 := hex hT
    refine (apply_any (P := fun w' => Rw w' wr.heap.size (zer z).toArray 5 ∧ Chg (fun i => i = m) wr w' ∧ ∃ E', Du w' m (km' + 1) z (fun t => if t = s then some wr.heap.size else K' t) E') hk0 hk hz (own_new hr h8 h1 d1 hmp s hs hz (by omega) hKs) (lg := zs z) (lb := lb) (fun w1 ⟨q1, q2, _⟩ => ⟨by rw [bs_zs]; exact q1, Rw.chg1 hb q2 (fun e => ne_map hb d1.map e.symm)⟩) (by simp [zs]) hlb).mono ?_
    rintro e w9 ⟨rfl, w1, ⟨q1, q2, E1, q3⟩, r9, ch9⟩
    refine ⟨rfl, ?_, wr.heap.size, (q2.mono (fun _ _ e => .inl e)).trans ch9 (fun _ e => .inl (.inr e)), .inr (Nat.le_refl _)⟩
    rw [hT, if_pos rfl]
    have hmlt : m < wr.heap.size := by
      obtain ⟨es, cl, hm⟩ := d1.map
      exact (Array.getElem?_eq_some_iff.1 hm).1
    have hclt : c < wr.heap.size := by
      obtain ⟨es, cl, hm, _⟩ := h.rg.owns
      exact (Array.getElem?_eq_some_iff.1 hm).1
    have hg1 := grown_of q2
    have hg9 := grown_of ch9
    have hIm : I ≠ m := fun e => by
      obtain ⟨a1, a2, a3, hI⟩ := iter_at h.rg
      obtain ⟨es, cl, hm⟩ := d1.map
      rw [e, hm] at hI
      cases hI
    refine ⟨(h.rg.kept hg1 (fun e => h.cm (by injection e)) (fun e => hIm (by injection e))).kept hg9 (fun e => by injection e with e; omega) (fun e => by injection e with e; omega), ?_, hi2, Nat.lt_of_lt_of_le hir (Nat.le_trans q2.size ch9.size), h.cm, km' + 1, _, E1, updT C' wr.heap.size (over lb (zs z) k), q3.kept hg9 (fun e => by injection e with e; omega), by omega, fun t g hgg => ?_, fun t t' g h1 h2 => ?_, fun t g hgg => ?_, fun t => ?_⟩
    · exact (h.ch.trans q2 (fun i e => .inl (.inl e))).trans ch9 (fun i e => .inr (by omega))
    · by_cases e : t = s
      · simp only [if_pos e] at hgg
        injection hgg with hgg
        exact .inr (by omega)
      · simp only [if_neg e] at hgg
        exact d3 t g hgg
    · have low : ∀ t g, K' t = some g → g < wr.heap.size := fun t g hg => (d5 t g hg).1.lt
      by_cases e : t = s
      · by_cases e' : t' = s
        · rw [e, e']
        · simp only [if_pos e] at h1
          simp only [if_neg e'] at h2
          injection h1 with h1
          have := low t' g h2
          omega
      · by_cases e' : t' = s
        · simp only [if_neg e] at h1
          simp only [if_pos e'] at h2
          injection h2 with h2
          have := low t g h1
          omega
        · simp only [if_neg e] at h1
          simp only [if_neg e'] at h2
          exact d4 t t' g h1 h2
    · by_cases e : t = s
      · simp only [if_pos e] at hgg
        injection hgg with hgg
        subst hgg
        rw [updT_same]
        exact ⟨r9, over_len hlb (by simp [zs]) k hk⟩
      · simp only [if_neg e] at hgg
        obtain ⟨r5, l5⟩ := d5 t g hgg
        have hlt := r5.lt
        rw [updT_other _ _ (by omega)]
        exact ⟨Rw.chg1 (Rw.chg1 r5 q2 (fun e => ne_map r5 d1.map e.symm)) ch9 (by omega), l5⟩
    · by_cases e : t = s
      · subst e
        simp only [if_pos]
        rw [updT_same]
        show some (updT C' _ _ _) = _
        rw [updT_same]
        rfl
      · simp only [if_neg e]
        rw [updT_other _ _ e, ← d6 t]
        cases hKt : K' t with
        | none => rfl
        | some g =>
          show some (updT C' _ _ g) = some (C' g)
          have := (d5 t g hKt).1.lt
          rw [updT_other _ _ (by omega)]

theorem CB.less {w2 wr : World} {m c I kc z kb : Nat} {D : DataW Unit} {left : Lit → Bool} {cnt : Nat} {K : Nat → Option Nat} {T : Nat → Option (List Int)} {ex ex' : Nat} (h : CB w2 wr m c I kc z kb D left cnt K T ex) (he : ex' ≤ ex) : CB w2 wr m c I kc z kb D left cnt K T ex' := by
  obtain ⟨km', K', E', C', h1, h2, h3⟩ := h.du
  exact ⟨h.rg, h.ch, h.i2, h.ir, h.cm, km', K', E', C', h1, by omega, h3⟩

theorem CB.next {w2 wr wn : World} {m c I kc z kb : Nat} {D : DataW Unit} {left left' : Lit → Bool} {cnt cnt' : Nat} {K : Nat → Option Nat} {T : Nat → Option (List Int)} {ex : Nat} (h : CB w2 wr m c I kc z kb D left cnt K T ex) (rg : wn.ranges Try.prog 3 anyElem c I kc D left' cnt') (hg : wr.grownBy wn (some I)) : CB w2 wn m c I kc z kb D left' cnt' K T ex := by
  obtain ⟨a1, a2, a3, hI⟩ := iter_at h.rg
  have hc := Chg.of_grown hg
  obtain ⟨km', K', E', C', d1, h2, h3, h4, h5, h6⟩ := h.du
  refine ⟨rg, h.ch.trans hc (fun k e => .inr (by injection e with e; have := h.i2; omega)), h.i2, Nat.lt_of_lt_of_le h.ir hg.size, h.cm, km', K', E', C', d1.kept hg (fun e => ?_), h2, h3, h4, fun t g hgg => ⟨⟨hc.heap_some (h5 t g hgg).1.eq (fun e => ?_)⟩, (h5 t g hgg).2⟩, h6⟩
  · injection e with e
    obtain ⟨es, cl, hm⟩ := d1.map
    rw [e, hI] at hm
    cases hm
  · injection e with e
    have := (h5 t g hgg).1.eq
    rw [e, hI] at this
    cases this
end Go.Proofs.Ytpongepfjdgcmaa
