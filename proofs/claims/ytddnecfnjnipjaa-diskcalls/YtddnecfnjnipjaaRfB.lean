import Derived.Test.YtddnecfnjnipjaaOwn
import Derived.Test.YtddnecfnjnipjaaCache
import Derived.Test.YtddnecfnjnipjaaFuses
/-
  A crash that keeps what it likes: the durable map and its bytes while it goes on.
-/
namespace Go.Proofs.Ytddnecfnjnipjaa
open Go.RowKit Go.RwLone

/-- What a sector has behind some of its writes. -/
def foldC (z : Nat) (kN : Nat → Nat) (C : Nat → List Int) : List (Nat × Nat) → Option (List Int) → Option (List Int)
  | [], cur => cur
  | y :: l, cur => foldC z kN C l (if kN y.1 = 0 then cur else some (over (C y.2) (cur.getD (zs z)) (kN y.1)))
theorem foldC_snoc (z : Nat) (kN : Nat → Nat) (C : Nat → List Int) : ∀ (l : List (Nat × Nat)) (y : Nat × Nat) (cur : Option (List Int)), foldC z kN C (l ++ [y]) cur = if kN y.1 = 0 then foldC z kN C l cur else some (over (C y.2) ((foldC z kN C l cur).getD (zs z)) (kN y.1))
  | [], _, _ => rfl
  | _ :: l, y, _ => foldC_snoc z kN C l y _

def updT {α : Type} (T : Nat → α) (s : Nat) (v : α) : Nat → α := fun t => if t = s then v else T t
theorem updT_same {α : Type} (T : Nat → α) (s : Nat) (v : α) : updT T s v s = v := by simp [updT]
theorem updT_other {α : Type} (T : Nat → α) {s t : Nat} (v : α) (h : t ≠ s) : updT T s v t = T t := by simp [updT, h]

/-- The durable map and its bytes within a crash: sector t reads T t; ex more stores are left. -/
structure CB (w2 wr : World) (m c I kc z kb : Nat) (D : DataW Unit) (left : Lit → Bool) (cnt : Nat) (K : Nat → Option Nat) (T : Nat → Option (List Int)) (ex : Nat) : Prop where
  rg : wr.ranges Try.prog 3 anyElem c I kc D left cnt
  ch : Chg (fun g => g = m ∨ ∃ t, K t = some g) w2 wr
  i2 : w2.heap.size ≤ I
  ir : I < wr.heap.size
  cm : c ≠ m
  du : ∃ km' K' E' C', Du wr m km' z K' E' ∧ km' + ex ≤ kb ∧ (∀ t g, K' t = some g → K t = some g ∨ I < g) ∧ (∀ t t' g, K' t = some g → K' t' = some g → t = t') ∧ (∀ t g, K' t = some g → Rw wr g (bs (C' g)).toArray 5 ∧ (C' g).length = z) ∧ ∀ t, (K' t).map C' = T t

theorem iter_at {w : World} {c I kc : Nat} {D : DataW Unit} {left : Lit → Bool} {cnt : Nat} (h : w.ranges Try.prog 3 anyElem c I kc D left cnt) : ∃ a1 a2 a3, w.heap[I]? = some (.mapIter (some c) a1 a2 a3) := by
  obtain ⟨_, _, a1, a2, a3, _, _, _, _, hI, _⟩ := h
  exact ⟨a1, a2, a3, hI⟩

theorem CB.more {w2 wr wn : World} {m c I kc z kb : Nat} {D : DataW Unit} {left : Lit → Bool} {cnt : Nat} {K : Nat → Option Nat} {T : Nat → Option (List Int)} {ex : Nat} (h : CB w2 wr m c I kc z kb D left cnt K T ex) (k : Chg (fun _ => False) wr wn) : CB w2 wn m c I kc z kb D left cnt K T ex := by
  have hg : wr.grownBy wn none := ⟨k.os, k.tape, k.output, k.size, fun i hi _ => k.block i hi (fun h => h)⟩
  obtain ⟨km', K', E', C', h1, h2, h3, h4, h5, h6⟩ := h.du
  exact ⟨h.rg.kept hg (by simp) (by simp), h.ch.trans k (fun _ h => h.elim), h.i2, Nat.lt_of_lt_of_le h.ir k.size, h.cm, km', K', E', C', h1.kept hg (by simp), h2, h3, h4, fun t g hgg => ⟨⟨k.heap_some (h5 t g hgg).1.eq (fun h => h)⟩, (h5 t g hgg).2⟩, h6⟩

theorem grown_tr {w w1 w2 : World} {G : Nat} {S : Nat → Prop} (h1 : Chg S w w1) (h2 : Chg (fun i => i = G) w1 w2) : Chg (fun i => S i ∨ i = G) w w2 := ⟨h2.os.trans h1.os, h2.tape.trans h1.tape, h2.output.trans h1.output, Nat.le_trans h1.size h2.size, fun k hk hn => (h2.block k (Nat.lt_of_lt_of_le hk h1.size) (fun e => hn (.inr e))).trans (h1.block k hk (fun e => hn (.inl e)))⟩

/-- One write is applied. -/
theorem CB.apply {w2 wr : World} {p m c I kc z kb : Nat} {D : DataW Unit} {left : Lit → Bool} {cnt : Nat} {K : Nat → Option Nat} {T : Nat → Option (List Int)} {ex : Nat} {cs : Array Value} (h : CB w2 wr m c I kc z kb D left cnt K T ex)
    (hr : Rw wr p cs 86) (h8 : cs[8]? = some (.map (some m))) (h1 : cs[1]? = some (.int .i64 z)) (s : Nat) (hs : s ≤ 65536) (hz : z ≤ 4096) (hkb : kb ≤ 4398046511104) (hex : T s = none → 1 ≤ ex)
    {b k : Nat} {lb : List Int} (hb : Rw wr b (bs lb).toArray 5) (hlb : lb.length = z) (hbI : b < I) (hbK : ∀ t, K t ≠ some b) (hk0 : 0 < k) (hk : k ≤ z) :
    Calls Try.prog 60 #[.pointer (some ⟨p, 0, none⟩), .int .i64 s, .slice (some ⟨b, 0, none⟩) k z] wr fun e w' => e = .returned (.tuple #[]) ∧ CB w2 w' m c I kc z kb D left cnt K (updT T s (some (over lb ((T s).getD (zs z)) k))) (if T s = none then ex - 1 else ex) ∧ ∃ G, Chg (fun i => i = m ∨ i = G) wr w' ∧ ((∃ cur, wr.heap[G]? = some (.cells cur 5 (0, 0))) ∨ wr.heap.size ≤ G) := by
  obtain ⟨km', K', E', C', d1, d2, d3, d4, d5, d6⟩ := h.du
  have hmp : m ≠ p := ne_map hr d1.map
  have hir := h.ir
  have hi2 := h.i2
  have hrc : ∀ g, (∃ cur, wr.heap[g]? = some (.cells cur 5 (0, 0))) → c ≠ g := fun g ⟨cur, hg⟩ e => by
    obtain ⟨es, cl, hm, _⟩ := h.rg.owns
    rw [e, hg] at hm
    cases hm
  cases hKs : K' s with
  | some G =>
    have hT : T s = some (C' G) := by rw [← d6 s, hKs]; rfl
    obtain ⟨rG, lG⟩ := d5 s G hKs
    have hbG : b ≠ G := fun e => by
      rcases d3 s G hKs with h9 | h9
      · exact hbK s (by rw [h9, e])
      · omega
    refine (apply_any (P := fun w' => wr = w') hk0 hk hz (own_have hr h8 d1 s hs G hKs) (lg := C' G) (lb := lb) (by rintro w1 rfl; exact ⟨rG, hb⟩) lG hlb).mono ?_
    rintro e w9 ⟨rfl, w1, rfl, r9, ch9⟩
    refine ⟨rfl, ?_, G, ch9.mono (fun _ _ e => .inr e), .inl ⟨_, rG.eq⟩⟩
    rw [hT, if_neg (by simp)]
    have hGI : G ≠ I := fun e => by
      obtain ⟨a1, a2, a3, hI⟩ := iter_at h.rg
      rw [← e, rG.eq] at hI
      cases hI
    have hg9 := grown_of ch9
    have hmG : m ≠ G := ne_map rG d1.map
    refine ⟨h.rg.kept hg9 (fun e => hrc G ⟨_, rG.eq⟩ (by injection e)) (fun e => hGI (by injection e with e; exact e.symm)), ?_, hi2, Nat.lt_of_lt_of_le hir ch9.size, h.cm, km', K', E', updT C' G (over lb (C' G) k), d1.kept hg9 (fun e => hmG (by injection e)), d2, d3, d4, fun t g hgg => ?_, fun t => ?_⟩
    · refine h.ch.trans ch9 (fun i e => ?_)
      subst e
      rcases d3 s i hKs with h9 | h9
      · exact .inl (.inr ⟨s, h9⟩)
      · exact .inr (by omega)
    · by_cases e : g = G
      · subst e
        rw [updT_same]
        exact ⟨r9, over_len hlb lG k hk⟩
      · rw [updT_other _ _ e]
        exact ⟨Rw.chg1 (d5 t g hgg).1 ch9 e, (d5 t g hgg).2⟩
    · by_cases e : t = s
      · subst e
        rw [updT_same, hKs]
        show some (updT C' G _ G) = _
        rw [updT_same]
        rfl
      · rw [updT_other _ _ e, ← d6 t]
        cases hKt : K' t with
        | none => rfl
        | some g =>
          show some (updT C' G _ g) = some (C' g)
          rw [updT_other _ _ (fun e2 => e (d4 t s g hKt (by rw [hKs, e2])))]
  | none =>
    have hT : T s = none := by rw [← d6 s, hKs]; rfl
    have hex1 := hex hT
    refine (apply_any (P := fun w' => Rw w' wr.heap.size (zer z).toArray 5 ∧ Chg (fun i => i = m) wr w' ∧ ∃ E', Du w' m (km' + 1) z (fun t => if t = s then some wr.heap.size else K' t) E') hk0 hk hz (own_new hr h8 h1 d1 hmp s hs hz (by omega) hKs) (lg := zs z) (lb := lb) (fun w1 ⟨q1, q2, _⟩ => ⟨by rw [bs_zs]; exact q1, Rw.chg1 hb q2 (fun e => ne_map hb d1.map e.symm)⟩) (by simp [zs]) hlb).mono ?_
    rintro e w9 ⟨rfl, w1, ⟨q1, q2, E1, q3⟩, r9, ch9⟩
    refine ⟨rfl, ?_, wr.heap.size, (q2.mono (fun _ _ e => .inl e)).trans ch9 (fun _ e => .inl (.inr e)), .inr (Nat.le_refl _)⟩
    rw [hT, if_pos rfl]
    have hmlt : m < wr.heap.size := by
      obtain ⟨es, cl, hm⟩ := d1.map
      exact (Array.getElem?_eq_some_iff.1 hm).1
    have hclt : c < wr.heap.size := by
      obtain ⟨es, cl, hm, _⟩ := h.rg.owns
      exact (Array.getElem?_eq_some_iff.1 hm).1
    have hg1 := grown_of q2
    have hg9 := grown_of ch9
    have hIm : I ≠ m := fun e => by
      obtain ⟨a1, a2, a3, hI⟩ := iter_at h.rg
      obtain ⟨es, cl, hm⟩ := d1.map
      rw [e, hm] at hI
      cases hI
    refine ⟨(h.rg.kept hg1 (fun e => h.cm (by injection e)) (fun e => hIm (by injection e))).kept hg9 (fun e => by injection e with e; omega) (fun e => by injection e with e; omega), ?_, hi2, Nat.lt_of_lt_of_le hir (Nat.le_trans q2.size ch9.size), h.cm, km' + 1, _, E1, updT C' wr.heap.size (over lb (zs z) k), q3.kept hg9 (fun e => by injection e with e; omega), by omega, fun t g hgg => ?_, fun t t' g h1 h2 => ?_, fun t g hgg => ?_, fun t => ?_⟩
    · exact (h.ch.trans q2 (fun i e => .inl (.inl e))).trans ch9 (fun i e => .inr (by omega))
    · by_cases e : t = s
      · simp only [if_pos e] at hgg
        injection hgg with hgg
        exact .inr (by omega)
      · simp only [if_neg e] at hgg
        exact d3 t g hgg
    · have low : ∀ t g, K' t = some g → g < wr.heap.size := fun t g hg => (d5 t g hg).1.lt
      by_cases e : t = s
      · by_cases e' : t' = s
        · rw [e, e']
        · simp only [if_pos e] at h1
          simp only [if_neg e'] at h2
          injection h1 with h1
          have := low t' g h2
          omega
      · by_cases e' : t' = s
        · simp only [if_neg e] at h1
          simp only [if_pos e'] at h2
          injection h2 with h2
          have := low t g h1
          omega
        · simp only [if_neg e] at h1
          simp only [if_neg e'] at h2
          exact d4 t t' g h1 h2
    · by_cases e : t = s
      · simp only [if_pos e] at hgg
        injection hgg with hgg
        subst hgg
        rw [updT_same]
        exact ⟨r9, over_len hlb (by simp [zs]) k hk⟩
      · simp only [if_neg e] at hgg
        obtain ⟨r5, l5⟩ := d5 t g hgg
        have hlt := r5.lt
        rw [updT_other _ _ (by omega)]
        exact ⟨Rw.chg1 (Rw.chg1 r5 q2 (fun e => ne_map r5 d1.map e.symm)) ch9 (by omega), l5⟩
    · by_cases e : t = s
      · subst e
        simp only [if_pos]
        rw [updT_same]
        show some (updT C' _ _ _) = _
        rw [updT_same]
        rfl
      · simp only [if_neg e]
        rw [updT_other _ _ e, ← d6 t]
        cases hKt : K' t with
        | none => rfl
        | some g =>
          show some (updT C' _ _ g) = some (C' g)
          have := (d5 t g hKt).1.lt
          rw [updT_other _ _ (by omega)]

theorem CB.less {w2 wr : World} {m c I kc z kb : Nat} {D : DataW Unit} {left : Lit → Bool} {cnt : Nat} {K : Nat → Option Nat} {T : Nat → Option (List Int)} {ex ex' : Nat} (h : CB w2 wr m c I kc z kb D left cnt K T ex) (he : ex' ≤ ex) : CB w2 wr m c I kc z kb D left cnt K T ex' := by
  obtain ⟨km', K', E', C', h1, h2, h3⟩ := h.du
  exact ⟨h.rg, h.ch, h.i2, h.ir, h.cm, km', K', E', C', h1, by omega, h3⟩

theorem CB.next {w2 wr wn : World} {m c I kc z kb : Nat} {D : DataW Unit} {left left' : Lit → Bool} {cnt cnt' : Nat} {K : Nat → Option Nat} {T : Nat → Option (List Int)} {ex : Nat} (h : CB w2 wr m c I kc z kb D left cnt K T ex) (rg : wn.ranges Try.prog 3 anyElem c I kc D left' cnt') (hg : wr.grownBy wn (some I)) : CB w2 wn m c I kc z kb D left' cnt' K T ex := by
  obtain ⟨a1, a2, a3, hI⟩ := iter_at h.rg
  have hc := Chg.of_grown hg
  obtain ⟨km', K', E', C', d1, h2, h3, h4, h5, h6⟩ := h.du
  refine ⟨rg, h.ch.trans hc (fun k e => .inr (by injection e with e; have := h.i2; omega)), h.i2, Nat.lt_of_lt_of_le h.ir hg.size, h.cm, km', K', E', C', d1.kept hg (fun e => ?_), h2, h3, h4, fun t g hgg => ⟨⟨hc.heap_some (h5 t g hgg).1.eq (fun e => ?_)⟩, (h5 t g hgg).2⟩, h6⟩
  · injection e with e
    obtain ⟨es, cl, hm⟩ := d1.map
    rw [e, hI] at hm
    cases hm
  · injection e with e
    have := (h5 t g hgg).1.eq
    rw [e, hI] at this
    cases this
end Go.Proofs.Ytddnecfnjnipjaa

/-
  The reference's disk as one thing: Write and Flush.
-/
namespace Go.Proofs.Ytddnecfnjnipjaa
open Go.RowKit

theorem info110 : (Try.prog.info? 110).map (fun i => (i.zero, i.size, i.bytes)) = some (some (.agg #[.int .i64 0, .slice none 0 0, .int .i64 0, .bool false, .int .i64 0, .int .u8 0]), 6, 64) := by kernel_rfl
theorem dcs_one (z : Nat) (l : List Dd) : ∀ u ∈ dcs z l, u.oneCell' = true := by
  intro u hu
  unfold dcs at hu
  obtain ⟨d, _, hd⟩ := List.mem_flatMap.1 hu
  simp only [Dd.cells, List.mem_cons, List.not_mem_nil, or_false] at hd
  rcases hd with rfl | rfl | rfl | rfl | rfl | rfl <;> first | rfl | (unfold Dd.bv; split <;> rfl)

/-- Deeds that lie alone in a row. -/
def Dl (w : World) (z : Nat) (v : Value) (l : List Dd) : Prop := w.ownsRow 0 110 6 v l.length (dcs z l)
theorem Dl.nil (w : World) (z : Nat) : Dl w z (.slice none 0 0) [] := World.ownsRow_nil w 0 110 6
theorem Dl.chg {w w' : World} {z : Nat} {v : Value} {l : List Dd} (h : Dl w z v l) {S : Nat → Prop} (c : Chg S w w') (hn : ∀ k, v.ownBlock = some k → ¬ S k) : Dl w' z v l := by
  refine ⟨h.1, ?_⟩
  rcases h.2 with e | ⟨b, cap, cur, rfl, hb, hgg, rest⟩
  · exact .inl e
  · exact .inr ⟨b, cap, cur, rfl, hb, c.heap_some hgg (hn b rfl), rest⟩
theorem Dl.block {w : World} {z : Nat} {v : Value} {l : List Dd} (h : Dl w z v l) {g : Nat} (hg : v.ownBlock = some g) : ∃ cur, w.heap[g]? = some (.cells cur 110 (0, 0)) := by
  rcases h.2 with ⟨e, _⟩ | ⟨b, cap, cur, e, _, hgg, _⟩
  · rw [e] at hg; simp [Value.ownBlock] at hg
  · rw [e] at hg
    simp [Value.ownBlock] at hg
    rw [← hg]
    exact ⟨cur, hgg⟩
theorem Dl.lt {w : World} {z : Nat} {v : Value} {l : List Dd} (h : Dl w z v l) {g : Nat} (hg : v.ownBlock = some g) : g < w.heap.size := by
  obtain ⟨cur, e⟩ := h.block hg
  exact (Array.getElem?_eq_some_iff.1 e).1
theorem Dl.cell {w : World} {z : Nat} {v : Value} {l : List Dd} (h : Dl w z v l) {i : Nat} {d : Dd} (hi : l[i]? = some d) : ∃ g c, v = .slice (some ⟨g, 0, none⟩) l.length c ∧ ∀ j u, (d.cells z)[j]? = some u → w.cell? ⟨g, i * 6 + j, none⟩ = some u := by
  rcases h.2 with ⟨e, h0⟩ | ⟨g, cap, cur, e, _, hgg, _⟩
  · rw [List.eq_nil_of_length_eq_zero h0] at hi
    cases hi
  · refine ⟨g, cap, e, fun j u hu => ?_⟩
    have := World.ownsRow.cells h (g := g) (by rw [e]; rfl) (i * 6 + j) _ (dcs_get z l i d hi j u hu)
    rwa [addr_add, Nat.zero_add] at this

theorem run_appR (w : World) (ty : TypeId) {z : Nat} {v : Value} {l m : List Dd} (hv : Dl w z v l) (a : Addr) (cp : Nat) (ha : ∀ j u, (dcs z m)[j]? = some u → w.cell? (a.add j) = some u) (hb : l.length + m.length ≤ 2199023255552) :
    ∃ v' w', (Builtin.append_ #[49, 49] ty #[v, .slice (some a) m.length cp]).run Try.prog w = .ok v' w' ∧ Dl w' z v' (l ++ m) ∧ Chg (fun k => some k = v.ownBlock) w w' ∧ (v'.ownBlock = v.ownBlock ∨ v'.ownBlock = some w.heap.size) := by
  obtain ⟨i0, hi, hz0, hz1, hz2⟩ := info_parts info110
  obtain ⟨v', w1, h1, h2, h3, h4, h5⟩ := run_append_own_at (P := Try.prog) w 0 49 ty 110 i0 _ 6 64 Try.underlying49 hi hz0 hz1 hz2 rfl (by decide) v l.length (dcs z l) hv a m.length cp (dcs z m) (by rw [dcs_len]) ha (dcs_one z m) (by unfold maxLen; omega) (by omega) (Nat.zero_le _)
  exact ⟨v', w1, h1, by unfold Dl; rw [List.length_append, dcs_app]; exact h2, Chg.of_grown h3, h5⟩
theorem run_appR0 (w : World) (ty : TypeId) {z : Nat} {v : Value} {l : List Dd} (hv : Dl w z v l) : (Builtin.append_ #[49, 49] ty #[v, .slice none 0 0]).run Try.prog w = .ok v w := by
  obtain ⟨i0, hi, hz0, hz1, hz2⟩ := info_parts info110
  rcases hv.2 with ⟨rfl, h0⟩ | ⟨g, cap, cur, rfl, hbb, hgg, hle, rest⟩
  · simp [Builtin.append_, run_underlying Try.underlying49, sizeOf, typeInfo, hi, Builtin.lenOf, Builtin.firstCells]
  · simp [Builtin.append_, run_underlying Try.underlying49, sizeOf, typeInfo, hi, Builtin.lenOf, Builtin.firstCells, storeCells, hle]
    try rfl

/-- The reference's disk: what it has done (dl), what its cache has (cl), the bytes of each block (C). -/
structure RD (w : World) (q S z b : Nat) (y : RN) (dl cl : List Dd) (dv cv : Value) (C : Nat → List Int) : Prop where
  row : Rw w q (rrow S z dv cv y) 52
  dn : Dl w z dv dl
  cn : Dl w z cv cl
  dc : ∀ g, dv.ownBlock = some g → cv.ownBlock ≠ some g
  db : ∀ d ∈ dl, d.turn = false → Own w (d.bv z) (C d.g) ∧ (C d.g).length = z ∧ d.n ≤ z
  dt : ∀ d ∈ dl, d.turn = true → d.at_ < z
  cb : ∀ d ∈ cl, d.turn = false ∧ d.n = z ∧ Own w (d.bv z) (C d.g) ∧ (C d.g).length = z
  ds : ∀ d ∈ dl, d.s < S
  cs : ∀ d ∈ cl, d.s < S
  nd : (cl.map Dd.g).Nodup
  cd : ∀ d ∈ cl, ∀ d' ∈ dl, d'.turn = false → d'.g ≠ d.g
  len : dl.length + cl.length ≤ b

section
variable {w w' : World} {q S z b : Nat} {y : RN} {dl cl : List Dd} {dv cv : Value} {C : Nat → List Int}

theorem own_block {w : World} {v : Value} {l : List Int} (h : Own w v l) {g : Nat} (hg : v.ownBlock = some g) : ∃ cur, w.heap[g]? = some (.cells cur 5 (0, 0)) := by
  rcases h.2 with ⟨e, _⟩ | ⟨b, cap, cur, e, _, hgg, _⟩
  · rw [e] at hg; simp [Value.ownBlock] at hg
  · rw [e] at hg
    simp [Value.ownBlock] at hg
    rw [← hg]
    exact ⟨cur, hgg⟩
theorem Dd.own {z : Nat} {d : Dd} (h : d.turn = false) : (d.bv z).ownBlock = some d.g := by unfold Dd.bv; rw [h]; rfl
theorem cells_ne {w : World} {p q : Nat} {cs ds : Array Value} {t u : TypeId} (h : w.heap[p]? = some (.cells cs t (0, 0))) (k : w.heap[q]? = some (.cells ds u (0, 0))) (hn : t ≠ u) : p ≠ q := fun e => by
  rw [e, k] at h
  injection h with h
  injection h with _ h
  exact hn h.symm

/-- Blocks of the reference's disk. -/
def RD.blk (q : Nat) (dl cl : List Dd) (dv cv : Value) (g : Nat) : Prop := g = q ∨ dv.ownBlock = some g ∨ cv.ownBlock = some g ∨ (∃ d ∈ dl, d.turn = false ∧ d.g = g) ∨ ∃ d ∈ cl, d.g = g

theorem RD.frame (h : RD w q S z b y dl cl dv cv C) {T : Nat → Prop} (k : Chg T w w') (hT : ∀ g, RD.blk q dl cl dv cv g → ¬ T g) : RD w' q S z b y dl cl dv cv C :=
  ⟨⟨k.heap_some h.row.eq (hT q (.inl rfl))⟩, h.dn.chg k (fun g hg => hT g (.inr (.inl hg))), h.cn.chg k (fun g hg => hT g (.inr (.inr (.inl hg)))), h.dc,
    fun d hd ht => ⟨(h.db d hd ht).1.kept k (fun g hg => hT g (.inr (.inr (.inr (.inl ⟨d, hd, ht, by rw [Dd.own ht] at hg; injection hg⟩))))), (h.db d hd ht).2⟩, h.dt,
    fun d hd => ⟨(h.cb d hd).1, (h.cb d hd).2.1, (h.cb d hd).2.2.1.kept k (fun g hg => hT g (.inr (.inr (.inr (.inr ⟨d, hd, by rw [Dd.own (h.cb d hd).1] at hg; injection hg⟩))))), (h.cb d hd).2.2.2⟩, h.ds, h.cs, h.nd, h.cd, h.len⟩

/-- Only the row's numbers have turned. -/
theorem RD.turn (h : RD w q S z b y dl cl dv cv C) {y' : RN} (k : Chg (fun i => i = q) w w') (r : Rw w' q (rrow S z dv cv y') 52) : RD w' q S z b y' dl cl dv cv C := by
  have n5 : ∀ g v l, Own w v l → v.ownBlock = some g → g ≠ q := fun g v l ho hg => by
    obtain ⟨cur, e⟩ := own_block ho hg
    exact cells_ne e h.row.eq (by decide)
  have nD : ∀ g v l, Dl w z v l → v.ownBlock = some g → g ≠ q := fun g v l ho hg => by
    obtain ⟨cur, e⟩ := ho.block hg
    exact cells_ne e h.row.eq (by decide)
  exact ⟨r, h.dn.chg k (fun g hg => nD g _ _ h.dn hg), h.cn.chg k (fun g hg => nD g _ _ h.cn hg), h.dc,
    fun d hd ht => ⟨(h.db d hd ht).1.kept k (fun g hg => n5 g _ _ (h.db d hd ht).1 hg), (h.db d hd ht).2⟩, h.dt,
    fun d hd => ⟨(h.cb d hd).1, (h.cb d hd).2.1, (h.cb d hd).2.2.1.kept k (fun g hg => n5 g _ _ (h.cb d hd).2.2.1 hg), (h.cb d hd).2.2.2⟩, h.ds, h.cs, h.nd, h.cd, h.len⟩
end
end Go.Proofs.Ytddnecfnjnipjaa
