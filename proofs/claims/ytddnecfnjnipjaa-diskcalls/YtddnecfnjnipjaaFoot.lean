/-
  A disk with its blocks named: a call on one disk keeps every other.
-/
import Derived.Test.YtddnecfnjnipjaaAct
namespace Go.Proofs.Ytddnecfnjnipjaa
open Go.RowKit Go.RwLone

theorem nodup_snoc {l : List Nat} {a : Nat} (h : l.Nodup) (ha : a ∉ l) : (l ++ [a]).Nodup := by
  rw [List.nodup_append]
  refine ⟨h, by simp, fun x hx y hy e => ?_⟩
  rw [List.mem_singleton.1 hy] at e
  exact ha (e ▸ hx)

section
variable {w w' : World} {p m c S z kc km b : Nat} {x : Nums} {L : Nat → List (Nat × Nat)} {V : Nat → Value} {D : DataW Unit} {K : Nat → Option Nat} {E : DataW Unit} {C : Nat → List Int}

theorem DC.write (hd : DC w p m c S z kc km b x L V D K E C) {l : List Int} {ab : Option Addr} {cb : Nat} (hs : Src w (.slice ab z cb) l) (hl : l.length = z) (hz0 : 0 < z) (hz : z ≤ 4096) (s : Nat) (hsS : s < S) (hS : S ≤ 65536) (hb : b < 4398046511104) (hf : -1 ≤ x.fuse) (hf2 : x.fuse ≤ 9223372036854775807) (hbu : burnE x = 0) (hsp : (Value.slice ab z cb).ownBlock ≠ some p) {pn : Nat} (hpn : x.pend = pn) :
    Calls Try.prog 12 #[.pointer (some ⟨p, 0, none⟩), .int .i64 s, .slice ab z cb] w fun e w' => e = .returned (.int .i64 0) ∧ Chg (fun i => i = p ∨ i = c ∨ some i = (V s).ownBlock) w w' ∧ ∃ hh V' D', DC w' p m c S z (kc + 1) km (b + 1) { burnN x with pend := ((pn + 1 : Nat) : Int), wr := inc (burnN x).wr } (fun t => if t = s then L s ++ [(pn, hh)] else L t) V' D' K E (updT C hh l) ∧ w.heap.size ≤ hh ∧ hh < w'.heap.size ∧ (∀ t g, (V' t).ownBlock = some g → (V t).ownBlock = some g ∨ w.heap.size ≤ g) := by
  have hkk := hd.dd.kk
  have hLs := hd.dd.ll s
  obtain ⟨pn', hp1, hp2⟩ := hd.dd.pn
  obtain rfl : pn = pn' := by rw [hpn] at hp1; omega
  refine (write_yes hd.dd.row hd.dd.ca hs hl hz0 hz s hsS hS hpn (by omega) (by omega) (by omega) hf hf2 hbu hd.dd.cp hd.dd.vp hsp).mono ?_
  rintro e w9 ⟨rfl, hr, ⟨hh, V', D', ca', rh, hhl, hvn⟩, ch⟩
  have nS : ∀ g cs, Rw w g cs 5 → ¬ (g = p ∨ g = c ∨ some g = (V s).ownBlock) := fun g cs hg e => by
    rcases e with e | e | e
    · exact Rw.ne hg hd.dd.row (by decide) e
    · exact ne_map hg hd.dd.ca.map e.symm
    · exact ne_row hg (hd.dd.ca.cells e.symm) (by decide) rfl
  have nb : ∀ g cs, Rw w g cs 5 → Rw w9 g cs 5 := fun g cs hg => ⟨ch.heap_some hg.eq (nS g cs hg)⟩
  have lo : ∀ t y, y ∈ L t → y.2 < w.heap.size := fun t y hy => (hd.lr t y hy).1.lt
  have ko : ∀ t g, K t = some g → g < w.heap.size := fun t g hg => (hd.kr t g hg).1.lt
  have hdd : DD w9 p m c S z (kc + 1) km (b + 1) { burnN x with pend := ((pn + 1 : Nat) : Int), wr := inc (burnN x).wr } (fun t => if t = s then L s ++ [(pn, hh)] else L t) V' D' K E := by
    refine ⟨hr, ca', ?_, hd.dd.mc, fun t y hy => ?_, fun t g hg => ⟨C g, (hd.kr t g hg).2, nb _ _ (hd.kr t g hg).1⟩, fun t ht => ?_, ⟨pn + 1, rfl, by omega⟩, fun t => ?_, by omega, fun t y hy => ?_⟩
    · obtain ⟨es, cl, hmm, rest⟩ := hd.dd.du.own
      have hm9 : w9.heap[m]? = some (.map es cl) := ch.heap_some hmm (fun e => by
        rcases e with e | e | e
        · exact hd.dd.mp e
        · exact hd.dd.mc e
        · obtain ⟨cur, hcur⟩ := hd.dd.ca.cells e.symm
          rw [hmm] at hcur
          cases hcur)
      exact ⟨⟨es, cl, hm9, rest⟩, hd.dd.du.at_, hd.dd.du.has⟩
    · split at hy
      · rcases List.mem_append.1 hy with hy | hy
        · exact ⟨_, (hd.lr s y hy).2, nb _ _ (hd.lr s y hy).1⟩
        · rw [List.mem_singleton.1 hy]
          exact ⟨l, hl, rh⟩
      · exact ⟨_, (hd.lr t y hy).2, nb _ _ (hd.lr t y hy).1⟩
    · by_cases e : t = s
      · rw [e]; exact hsS
      · simp only [if_neg e] at ht
        exact hd.dd.low t ht
    · by_cases e : t = s
      · simp only [if_pos e, List.length_append, List.length_cons, List.length_nil]; omega
      · simp only [if_neg e]; have := hd.dd.ll t; omega
    · split at hy
      · rcases List.mem_append.1 hy with hy | hy
        · exact Nat.le_succ_of_le (hd.dd.nm s y hy)
        · rw [List.mem_singleton.1 hy]; exact Nat.le_succ_of_le hp2
      · exact Nat.le_succ_of_le (hd.dd.nm t y hy)
  have mem : ∀ t y, y ∈ (if t = s then L s ++ [(pn, hh)] else L t) → (y ∈ L t) ∨ (t = s ∧ y = (pn, hh)) := fun t y hy => by
    split at hy
    · rename_i e
      rcases List.mem_append.1 hy with hy | hy
      · exact .inl (by rw [e]; exact hy)
      · exact .inr ⟨e, List.mem_singleton.1 hy⟩
    · exact .inl hy
  refine ⟨rfl, ch, hh, V', D', ⟨hdd, fun t y hy => ?_, fun t g hg => ?_, hd.ki, fun t t' g y hg hy => ?_, fun t t' y y' hy hy' e => ?_, fun t => ?_, ?_⟩, hhl, rh.lt, hvn⟩
  · rcases mem t y hy with hy | ⟨_, rfl⟩
    · have := lo t y hy
      rw [updT_other _ _ (by omega)]
      exact ⟨nb _ _ (hd.lr t y hy).1, (hd.lr t y hy).2⟩
    · rw [updT_same]
      exact ⟨rh, hl⟩
  · have := ko t g hg
    rw [updT_other _ _ (by omega)]
    exact ⟨nb _ _ (hd.kr t g hg).1, (hd.kr t g hg).2⟩
  · rcases mem t' y hy with hy | ⟨_, rfl⟩
    · exact hd.kl t t' g y hg hy
    · have := ko t g hg
      show hh ≠ g
      omega
  · rcases mem t y hy with hy | ⟨ht, rfl⟩
    · rcases mem t' y' hy' with hy' | ⟨ht', rfl⟩
      · exact hd.li t t' y y' hy hy' e
      · have := lo t y hy
        have e : y.2 = hh := e
        omega
    · rcases mem t' y' hy' with hy' | ⟨ht', rfl⟩
      · have := lo t' y' hy'
        have e : hh = y'.2 := e
        omega
      · rw [ht, ht']
  · by_cases e : t = s
    · rw [if_pos e, List.map_append]
      refine nodup_snoc (hd.nd s) (fun h9 => ?_)
      obtain ⟨y, hy, ey⟩ := List.mem_map.1 h9
      have := lo s y hy
      have ey : y.2 = hh := ey
      omega
    · rw [if_neg e]
      exact hd.nd t
  · show ((pn + 1 : Nat) : Int) ≤ ((kc + 1 : Nat) : Int)
    have := hd.pk
    rw [hpn] at this
    omega

theorem DC.flush (hd : DC w p m c S z kc km b x L V D K E C) (hS : S ≤ 65536) (hb : b ≤ 4398046511104) (hf : -1 ≤ x.fuse) (hf2 : x.fuse ≤ 9223372036854775807) (hbu : burnE x = 0) :
    Calls Try.prog 15 #[.pointer (some ⟨p, 0, none⟩)] w fun e w' => e = .returned (.int .i64 0) ∧ Chg (fun i => i = p ∨ i = m) w w' ∧ ∃ c' km' E', w.heap.size ≤ c' ∧ DC w' p m c' S z 0 km' b { burnN x with pend := 0, fl := inc (burnN x).fl } (fun _ => []) (fun _ => .slice none 0 0) (.map []) (fun t => lastK (L t) (K t)) E' C := by
  refine (hd.dd.flush_on hS hb hf hf2 hbu).mono ?_
  rintro e w9 ⟨rfl, ch, c', km', E', hc', h9⟩
  have nb : ∀ g cs, Rw w g cs 5 → Rw w9 g cs 5 := fun g cs hg => ⟨ch.heap_some hg.eq (fun e => by
    rcases e with e | e
    · exact Rw.ne hg hd.dd.row (by decide) e
    · exact ne_map hg hd.dd.du.map e.symm)⟩
  refine ⟨rfl, ch, c', km', E', hc', ⟨h9, fun t y hy => (by cases hy), fun t g hg => ?_, fun t t' g hg hg' => ?_, fun t t' g y _ hy => (by cases hy), fun t t' y y' hy => (by cases hy), fun _ => List.nodup_nil, Int.le_refl _⟩⟩
  · rcases lastK_cases _ _ hg with ⟨y, hy, rfl⟩ | ⟨_, hk⟩
    · exact ⟨nb _ _ (hd.lr t y hy).1, (hd.lr t y hy).2⟩
    · exact ⟨nb _ _ (hd.kr t g hk).1, (hd.kr t g hk).2⟩
  · rcases lastK_cases _ _ hg with ⟨y, hy, e1⟩ | ⟨_, hk⟩
    · rcases lastK_cases _ _ hg' with ⟨y', hy', e2⟩ | ⟨_, hk'⟩
      · exact hd.li t t' y y' hy hy' (by rw [e1, e2])
      · exact absurd e1 (hd.kl t' t g y hk' hy)
    · rcases lastK_cases _ _ hg' with ⟨y', hy', e2⟩ | ⟨_, hk'⟩
      · exact absurd e2 (hd.kl t t' g y' hk hy')
      · exact hd.ki t t' g hk hk'

/-- Only blocks that are none of the disk's have turned. -/
theorem DC.frame (h : DC w p m c S z kc km b x L V D K E C) {T : Nat → Prop} (k : Chg T w w') (hp : ¬ T p) (hm : ¬ T m) (hc : ¬ T c) (hV : ∀ t g, (V t).ownBlock = some g → ¬ T g) (hK : ∀ t g, K t = some g → ¬ T g) (hL : ∀ t y, y ∈ L t → ¬ T y.2) : DC w' p m c S z kc km b x L V D K E C := by
  have lr : ∀ t y, y ∈ L t → Rw w' y.2 (bs (C y.2)).toArray 5 ∧ (C y.2).length = z := fun t y hy => ⟨⟨k.heap_some (h.lr t y hy).1.eq (hL t y hy)⟩, (h.lr t y hy).2⟩
  have kr : ∀ t g, K t = some g → Rw w' g (bs (C g)).toArray 5 ∧ (C g).length = z := fun t g hg => ⟨⟨k.heap_some (h.kr t g hg).1.eq (hK t g hg)⟩, (h.kr t g hg).2⟩
  have ca : Ca w' c kc z L V D := by
    obtain ⟨es, cl, hm9, rest⟩ := h.dd.ca.own
    refine ⟨⟨es, cl, k.heap_some hm9 hc, rest⟩, h.dd.ca.at_, h.dd.ca.has, fun t => ⟨(h.dd.ca.row t).1, ?_⟩, h.dd.ca.ne⟩
    rcases (h.dd.ca.row t).2 with e | ⟨b, cap, cur, e, hb, hgg, rest⟩
    · exact .inl e
    · exact .inr ⟨b, cap, cur, e, hb, k.heap_some hgg (hV t b (by rw [e]; rfl)), rest⟩
  have du : Du w' m km z K E := by
    obtain ⟨es, cl, hm9, rest⟩ := h.dd.du.own
    exact ⟨⟨es, cl, k.heap_some hm9 hm, rest⟩, h.dd.du.at_, h.dd.du.has⟩
  exact ⟨⟨⟨k.heap_some h.dd.row.eq hp⟩, ca, du, h.dd.mc, fun t y hy => ⟨_, (lr t y hy).2, (lr t y hy).1⟩, fun t g hg => ⟨_, (kr t g hg).2, (kr t g hg).1⟩, h.dd.low, h.dd.pn, h.dd.ll, h.dd.kk, h.dd.nm⟩, lr, kr, h.ki, h.kl, h.li, h.nd, h.pk⟩
end

/-- How many writes there are in all. -/
def tot {α : Type} (A : Nat → List α) : Nat → Nat
  | 0 => 0
  | n + 1 => tot A n + (A n).length
theorem tot_nil {α : Type} : ∀ n, tot (fun _ => ([] : List α)) n = 0
  | 0 => rfl
  | n + 1 => by show tot _ n + 0 = 0; rw [tot_nil n]
theorem tot_upd_out {α : Type} (A : Nat → List α) (s : Nat) (l : List α) : ∀ n, n ≤ s → tot (updT A s l) n = tot A n
  | 0, _ => rfl
  | n + 1, h => by
    show tot (updT A s l) n + (updT A s l n).length = tot A n + (A n).length
    rw [tot_upd_out A s l n (by omega), updT_other _ _ (by omega)]
theorem tot_upd {α : Type} (A : Nat → List α) (s : Nat) (l : List α) : ∀ n, s < n → tot (updT A s l) n + (A s).length = tot A n + l.length
  | 0, h => absurd h (Nat.not_lt_zero _)
  | n + 1, h => by
    show tot (updT A s l) n + (updT A s l n).length + (A s).length = tot A n + (A n).length + l.length
    by_cases e : s = n
    · subst e
      rw [tot_upd_out A s l s (Nat.le_refl _), updT_same]
      omega
    · rw [updT_other _ _ (fun h => e h.symm)]
      have := tot_upd A s l n (by omega)
      omega
theorem tot_le {α β : Type} {A : Nat → List α} {B : Nat → List β} (h : ∀ t, (A t).length ≤ (B t).length) : ∀ n, tot A n ≤ tot B n
  | 0 => Nat.le_refl _
  | n + 1 => Nat.add_le_add (tot_le h n) (h n)

/-- The sectors of the writes, in their order. -/
structure Pl (P : List Nat) (n : Int) (A : Nat → List (Nat × List Int)) : Prop where
  len : (P.length : Int) = n
  at_ : ∀ t y, y ∈ A t → P[y.1]? = some t
  has : ∀ k t, P[k]? = some t → ∃ y ∈ A t, y.1 = k
theorem Pl.uniq {P P' : List Nat} {n : Int} {A : Nat → List (Nat × List Int)} (h : Pl P n A) (h' : Pl P' n A) : P = P' := by
  have e : P.length = P'.length := by have := h.len; have := h'.len; omega
  apply List.ext_getElem?
  intro k
  cases hk : P[k]? with
  | none => rw [List.getElem?_eq_none_iff] at hk; exact (List.getElem?_eq_none (by omega)).symm
  | some t =>
    obtain ⟨y, hy, e2⟩ := h.has k t hk
    rw [← e2]
    exact (h'.at_ t y hy).symm

/-- The numbers of the writes, and how many there are, against the count of those that are not flushed. -/
structure Nb (S : Nat) (n : Int) (A : Nat → List (Nat × List Int)) : Prop where
  lt : ∀ t y, y ∈ A t → (y.1 : Int) < n
  sum : (tot A S : Int) = n
  ps : ∃ P, Pl P n A
theorem Nb.of_eq {S : Nat} {n n' : Int} {A : Nat → List (Nat × List Int)} (h : Nb S n A) (e : n' = n) : Nb S n' A := by rw [e]; exact h
theorem Nb.none (S : Nat) : Nb S 0 (fun _ => []) := ⟨fun t y hy => (by cases hy), by rw [tot_nil]; rfl, [], rfl, fun t y hy => (by cases hy), fun k t hk => by simp at hk⟩
theorem Nb.more {S pn s : Nat} {n : Int} {A : Nat → List (Nat × List Int)} (h : Nb S n A) (hn : n = pn) (hs : s < S) (l : List Int) : Nb S ((pn + 1 : Nat) : Int) (updT A s (A s ++ [(pn, l)])) := by
  obtain ⟨P, hP⟩ := h.ps
  have hl : P.length = pn := by have := hP.len; omega
  have sub : ∀ t y, y ∈ A t → y ∈ updT A s (A s ++ [(pn, l)]) t := fun t y hy => by
    by_cases e : t = s
    · rw [e, updT_same]
      rw [e] at hy
      exact List.mem_append_left _ hy
    · rw [updT_other _ _ e]
      exact hy
  have mem : ∀ t y, y ∈ updT A s (A s ++ [(pn, l)]) t → y ∈ A t ∨ (t = s ∧ y = (pn, l)) := fun t y hy => by
    by_cases e : t = s
    · rw [e, updT_same] at hy
      rcases List.mem_append.1 hy with hy | hy
      · exact .inl (by rw [e]; exact hy)
      · exact .inr ⟨e, List.mem_singleton.1 hy⟩
    · rw [updT_other _ _ e] at hy
      exact .inl hy
  refine ⟨fun t y hy => ?_, ?_, P ++ [s], by simp [hl], fun t y hy => ?_, fun k t hk => ?_⟩
  · rcases mem t y hy with hy | ⟨_, rfl⟩
    · have := h.lt t y hy
      omega
    · show (pn : Int) < _
      omega
  · have h1 := tot_upd A s (A s ++ [(pn, l)]) S hs
    have h2 := h.sum
    simp only [List.length_append, List.length_cons, List.length_nil] at h1
    omega
  · rcases mem t y hy with hy | ⟨rfl, rfl⟩
    · have := h.lt t y hy
      rw [List.getElem?_append_left (by omega)]
      exact hP.at_ t y hy
    · show (P ++ [t])[pn]? = some t
      rw [← hl, List.getElem?_concat_length]
  · by_cases hkl : k < P.length
    · rw [List.getElem?_append_left hkl] at hk
      obtain ⟨y, hy, e⟩ := hP.has k t hk
      exact ⟨y, sub t y hy, e⟩
    · by_cases hke : k = P.length
      · rw [hke, List.getElem?_concat_length] at hk
        injection hk with hk
        refine ⟨(pn, l), ?_, by rw [hke, hl]⟩
        rw [← hk, updT_same]
        simp
      · rw [List.getElem?_eq_none (by simp; omega)] at hk
        cases hk
theorem Nb.nums {S : Nat} {n : Int} {A A' : Nat → List (Nat × List Int)} (h : Nb S n A) (e : ∀ t, (A' t).map Prod.fst = (A t).map Prod.fst) : Nb S n A' := by
  have m1 : ∀ t y, y ∈ A' t → ∃ y' ∈ A t, y'.1 = y.1 := fun t y hy => by
    have : y.1 ∈ (A t).map Prod.fst := by rw [← e t]; exact List.mem_map.2 ⟨y, hy, rfl⟩
    obtain ⟨y', h1, h2⟩ := List.mem_map.1 this
    exact ⟨y', h1, h2⟩
  have m2 : ∀ t y, y ∈ A t → ∃ y' ∈ A' t, y'.1 = y.1 := fun t y hy => by
    have : y.1 ∈ (A' t).map Prod.fst := by rw [e t]; exact List.mem_map.2 ⟨y, hy, rfl⟩
    obtain ⟨y', h1, h2⟩ := List.mem_map.1 this
    exact ⟨y', h1, h2⟩
  obtain ⟨P, hP⟩ := h.ps
  refine ⟨fun t y hy => ?_, ?_, P, hP.len, fun t y hy => ?_, fun k t hk => ?_⟩
  · obtain ⟨y', h1, h2⟩ := m1 t y hy
    have := h.lt t y' h1
    omega
  · have h1 := tot_le (A := A') (B := A) (fun t => by have := congrArg List.length (e t); simp only [List.length_map] at this; omega) S
    have h3 := tot_le (A := A) (B := A') (fun t => by have := congrArg List.length (e t); simp only [List.length_map] at this; omega) S
    have h2 := h.sum
    omega
  · obtain ⟨y', h1, h2⟩ := m1 t y hy
    rw [← h2]
    exact hP.at_ t y' h1
  · obtain ⟨y, h1, h2⟩ := hP.has k t hk
    obtain ⟨y', h3, h4⟩ := m2 t y h1
    exact ⟨y', h3, h4.trans h2⟩

/-- A disk whose blocks lie in Bl. -/
structure AB (w : World) (Bl : Nat → Prop) (p S z b : Nat) (x : Nums) (A : Nat → List (Nat × List Int)) (F : Nat → Option (List Int)) : Prop where
  ex : ∃ m c kc km L V D K E C, DC w p m c S z kc km b x L V D K E C ∧ Bl m ∧ Bl c ∧ (∀ t g, (V t).ownBlock = some g → Bl g) ∧ (∀ t g, K t = some g → Bl g) ∧ (∀ t y, y ∈ L t → Bl y.2) ∧ (∀ t, (L t).map (fun y => (y.1, C y.2)) = A t) ∧ ∀ t, (K t).map C = F t
  bp : Bl p
  low : ∀ g, Bl g → g < w.heap.size
  nb : Nb S x.pend A

/-- The blocks behind a call that has made some. -/
def grB (Bl : Nat → Prop) (w w' : World) : Nat → Prop := fun g => Bl g ∨ (w.heap.size ≤ g ∧ g < w'.heap.size)
theorem grB.apart {Bl T : Nat → Prop} {w w' : World} (h : ∀ g, T g → ¬ Bl g) (hT : ∀ g, T g → g < w.heap.size) : ∀ g, T g → ¬ grB Bl w w' g := fun g hg e => by
  rcases e with e | ⟨e, _⟩
  · exact h g hg e
  · have := hT g hg; omega

section
variable {w w' : World} {Bl : Nat → Prop} {p S z b : Nat} {x : Nums} {A : Nat → List (Nat × List Int)} {F : Nat → Option (List Int)}

/-- What another disk's call leaves of this one. -/
theorem AB.frame (h : AB w Bl p S z b x A F) {T : Nat → Prop} (k : Chg T w w') (hT : ∀ g, Bl g → ¬ T g) : AB w' Bl p S z b x A F := by
  obtain ⟨m, c, kc, km, L, V, D, K, E, C, hd, hm, hc, hV, hK, hL, q⟩ := h.ex
  exact ⟨⟨m, c, kc, km, L, V, D, K, E, C, hd.frame k (hT p h.bp) (hT m hm) (hT c hc) (fun t g hg => hT g (hV t g hg)) (fun t g hg => hT g (hK t g hg)) (fun t y hy => hT _ (hL t y hy)), hm, hc, hV, hK, hL, q⟩, h.bp, fun g hg => Nat.lt_of_lt_of_le (h.low g hg) k.size, h.nb⟩
theorem AB.mono (h : AB w Bl p S z b x A F) {b' : Nat} (hb : b ≤ b') : AB w Bl p S z b' x A F := by
  obtain ⟨m, c, kc, km, L, V, D, K, E, C, hd, q⟩ := h.ex
  exact ⟨⟨m, c, kc, km, L, V, D, K, E, C, hd.turn (Chg.refl _ _) hd.dd.row rfl hb, q⟩, h.bp, h.low, h.nb⟩
theorem AB.made {m c : Nat} (h : DK w p S z m c 0 0) (hmc : m ≠ c) : AB w (fun g => g = p ∨ g = m ∨ g = c) p S z 0 ⟨0, -1, false, 0, 0, 0, 0⟩ (fun _ => []) (fun _ => none) :=
  ⟨⟨m, c, 0, 0, _, _, _, _, _, fun _ => [], ⟨DD.made h hmc, fun t y hy => (by cases hy), fun t g hg => (by cases hg), fun t t' g hg => (by cases hg), fun t t' g y hg => (by cases hg), fun t t' y y' hy => (by cases hy), fun _ => List.nodup_nil, Int.le_refl _⟩, .inr (.inl rfl), .inr (.inr rfl), fun t g hg => by simp [Value.ownBlock] at hg, fun t g hg => (by cases hg), fun t y hy => (by cases hy), fun t => rfl, fun t => rfl⟩, .inl rfl, fun g hg => by
    rcases hg with rfl | rfl | rfl
    · exact h.lt
    · exact (Array.getElem?_eq_some_iff.1 h.mm).1
    · exact (Array.getElem?_eq_some_iff.1 h.mc).1, Nb.none S⟩

theorem AB.read (h : AB w Bl p S z b x A F) (hoff : x.off = false) (s : Nat) (hs : s < S) (hS : S ≤ 65536) (hz : z ≤ 4096) (hb : b ≤ 4398046511104) :
    Calls Try.prog 44 #[.pointer (some ⟨p, 0, none⟩), .int .i64 s] w fun e w' => ∃ g, e = .returned (.tuple #[.slice (some ⟨g, 0, none⟩) z z, .int .i64 0]) ∧ Rw w' g (bs ((lastA (A s) (F s)).getD (zs z))).toArray 5 ∧ w.heap.size ≤ g ∧ Chg (fun i => i = p) w w' ∧ AB w' Bl p S z b { x with rd := inc x.rd } A F := by
  obtain ⟨m, c, kc, km, L, V, D, K, E, C, hd, hm, hc, hV, hK, hL, hA, hF⟩ := h.ex
  rw [← hA s, ← hF s]
  rcases lat_lastA (z := z) (L := L s) (K := K s) (C := C) with ⟨e, e2⟩ | ⟨B, e, e2, hB⟩
  · refine (read_zero hd.dd.row hoff hd.dd.du hd.dd.ca hd.dd.mp hd.dd.cp hd.dd.vp s hs hS (Nat.le_trans (hd.dd.ll s) hb) e hz).mono ?_
    rintro e w9 ⟨g, rfl, hg, hgl, hr, ch⟩
    refine ⟨g, rfl, ?_, hgl, ch, ⟨⟨m, c, kc, km, L, V, D, K, E, C, hd.turn ch hr rfl (Nat.le_refl _), hm, hc, hV, hK, hL, hA, hF⟩, h.bp, fun g hg => Nat.lt_of_lt_of_le (h.low g hg) ch.size, h.nb⟩⟩
    rw [e2]
    show Rw w9 g (bs (zs z)).toArray 5
    rw [bs_zs]
    exact hg
  · have hr : Rw w B (bs (C B)).toArray 5 ∧ (C B).length = z := by
      rcases hB with ⟨y, hy, rfl⟩ | hB
      · exact hd.lr s y hy
      · exact hd.kr s B hB
    refine (read_blk hd.dd.row hoff hd.dd.du hd.dd.ca hd.dd.mp hd.dd.cp hd.dd.vp s hs hS (Nat.le_trans (hd.dd.ll s) hb) e hr.1 hr.2 hz).mono ?_
    rintro e w9 ⟨g, rfl, hg, hgl, hr, ch⟩
    refine ⟨g, rfl, ?_, hgl, ch, ⟨⟨m, c, kc, km, L, V, D, K, E, C, hd.turn ch hr rfl (Nat.le_refl _), hm, hc, hV, hK, hL, hA, hF⟩, h.bp, fun g hg => Nat.lt_of_lt_of_le (h.low g hg) ch.size, h.nb⟩⟩
    rw [e2]
    exact hg

/-- A call that turns the row alone. -/
theorem AB.turn (h : AB w Bl p S z b x A F) {x' : Nums} (k : Chg (fun i => i = p) w w') (r : ∀ m c, Rw w p (dkG S z m c x) 86 → Rw w' p (dkG S z m c x') 86) (hp : x'.pend = x.pend) {b' : Nat} (hb : b ≤ b') : AB w' Bl p S z b' x' A F := by
  obtain ⟨m, c, kc, km, L, V, D, K, E, C, hd, q⟩ := h.ex
  exact ⟨⟨m, c, kc, km, L, V, D, K, E, C, hd.turn k (r m c hd.dd.row) hp hb, q⟩, h.bp, fun g hg => Nat.lt_of_lt_of_le (h.low g hg) k.size, h.nb.of_eq hp⟩

theorem AB.write (h : AB w Bl p S z b x A F) {l : List Int} {ab : Option Addr} {cb : Nat} (hs : Src w (.slice ab z cb) l) (hl : l.length = z) (hz0 : 0 < z) (hz : z ≤ 4096) (s : Nat) (hsS : s < S) (hS : S ≤ 65536) (hb : b < 4398046511104) (hf : -1 ≤ x.fuse) (hf2 : x.fuse ≤ 9223372036854775807) (hbu : burnE x = 0) (hsp : (Value.slice ab z cb).ownBlock ≠ some p) {pn : Nat} (hpn : x.pend = pn) :
    Calls Try.prog 12 #[.pointer (some ⟨p, 0, none⟩), .int .i64 s, .slice ab z cb] w fun e w' => e = .returned (.int .i64 0) ∧ Chg Bl w w' ∧ AB w' (grB Bl w w') p S z (b + 1) { burnN x with pend := ((pn + 1 : Nat) : Int), wr := inc (burnN x).wr } (updT A s (A s ++ [(pn, l)])) F := by
  obtain ⟨m, c, kc, km, L, V, D, K, E, C, hd, hm, hc, hV, hK, hL, hA, hF⟩ := h.ex
  refine (hd.write hs hl hz0 hz s hsS hS hb hf hf2 hbu hsp hpn).mono ?_
  rintro e w9 ⟨rfl, ch, hh, V', D', h9, hh1, hh2, hvn⟩
  have lo : ∀ t y, y ∈ L t → y.2 < w.heap.size := fun t y hy => (hd.lr t y hy).1.lt
  have hmap : ∀ t, (L t).map (fun y => (y.1, updT C hh l y.2)) = (L t).map (fun y => (y.1, C y.2)) := fun t => List.map_congr_left (fun y hy => by
    have := lo t y hy
    rw [updT_other _ _ (by omega)])
  refine ⟨rfl, ch.mono (fun i _ e => ?_), ⟨⟨m, c, kc + 1, km, _, V', D', K, E, updT C hh l, h9, .inl hm, .inl hc, fun t g hg => ?_, fun t g hg => .inl (hK t g hg), fun t y hy => ?_, fun t => ?_, fun t => ?_⟩, .inl h.bp, fun g hg => ?_, h.nb.more hpn hsS l⟩⟩
  · rcases e with e | e | e
    · rw [e]; exact h.bp
    · rw [e]; exact hc
    · exact hV s i e.symm
  · rcases hvn t g hg with e | e
    · exact .inl (hV t g e)
    · exact .inr ⟨e, h9.dd.ca.blt t g hg⟩
  · split at hy
    · rcases List.mem_append.1 hy with hy | hy
      · exact .inl (hL s y hy)
      · rw [List.mem_singleton.1 hy]
        exact .inr ⟨hh1, hh2⟩
    · exact .inl (hL t y hy)
  · by_cases e : t = s
    · subst e
      simp only [if_pos]
      rw [updT_same, List.map_append, hmap, hA]
      simp [updT_same]
    · simp only [if_neg e]
      rw [updT_other _ _ e, hmap, hA]
  · rw [← hF t]
    cases hKt : K t with
    | none => rfl
    | some g =>
      have := (hd.kr t g hKt).1.lt
      show some (updT C hh l g) = some (C g)
      rw [updT_other _ _ (by omega)]
  · rcases hg with hg | hg
    · exact Nat.lt_of_lt_of_le (h.low g hg) ch.size
    · exact hg.2

theorem AB.flush (h : AB w Bl p S z b x A F) (hS : S ≤ 65536) (hb : b ≤ 4398046511104) (hf : -1 ≤ x.fuse) (hf2 : x.fuse ≤ 9223372036854775807) (hbu : burnE x = 0) :
    Calls Try.prog 15 #[.pointer (some ⟨p, 0, none⟩)] w fun e w' => e = .returned (.int .i64 0) ∧ Chg Bl w w' ∧ AB w' (grB Bl w w') p S z b { burnN x with pend := 0, fl := inc (burnN x).fl } (fun _ => []) (fun t => lastA (A t) (F t)) := by
  obtain ⟨m, c, kc, km, L, V, D, K, E, C, hd, hm, hc, hV, hK, hL, hA, hF⟩ := h.ex
  refine (hd.flush hS hb hf hf2 hbu).mono ?_
  rintro e w9 ⟨rfl, ch, c', km', E', hc', h9⟩
  have hcl : c' < w9.heap.size := by
    obtain ⟨es, cl, hm9⟩ := h9.dd.ca.map
    exact (Array.getElem?_eq_some_iff.1 hm9).1
  refine ⟨rfl, ch.mono (fun i _ e => ?_), ⟨⟨m, c', 0, km', _, _, _, _, E', C, h9, .inl hm, .inr ⟨hc', hcl⟩, fun t g hg => by simp [Value.ownBlock] at hg, fun t g hg => ?_, fun t y hy => (by cases hy), fun t => rfl, fun t => by rw [lastK_lastA, hA, hF]⟩, .inl h.bp, fun g hg => ?_, Nb.none S⟩⟩
  · rcases e with e | e
    · rw [e]; exact h.bp
    · rw [e]; exact hm
  · rcases lastK_cases _ _ hg with ⟨y, hy, rfl⟩ | ⟨_, hk⟩
    · exact .inl (hL t y hy)
    · exact .inl (hK t g hk)
  · rcases hg with hg | hg
    · exact Nat.lt_of_lt_of_le (h.low g hg) ch.size
    · exact hg.2

theorem AB.crash (h : AB w Bl p S z b x A F) (hS : S ≤ 65536) (hb : b ≤ 4398046511104) (hz : z ≤ 4096) {a : Option Addr} {n cN : Nat} {kl : List Bool} (hk : KB w a n kl) (hka : ∀ g o, 0 < n → a = some ⟨g, o, none⟩ → ¬ Bl g) (torn at_ : Int) :
    Calls Try.prog 29 #[.pointer (some ⟨p, 0, none⟩), .agg #[.slice a n cN, .int .i64 torn, .int .i64 at_]] w fun e w' => e = .returned (.tuple #[]) ∧ Chg Bl w w' ∧ AB w' (grB Bl w w') p S z b { x with pend := 0, fuse := -1, off := false, era := wrap64 (x.era + 1) } (fun _ => []) (fun t => foldA z (keptN kl torn at_ z) (A t) (F t)) := by
  obtain ⟨m, c, kc, km, L, V, D, K, E, C, hd, hm, hc, hV, hK, hL, hA, hF⟩ := h.ex
  refine (hd.crash hS hb hz hk (fun g o h0 e => ?_) torn at_).mono ?_
  · have h9 := hka g o h0 e
    exact ⟨fun e => h9 (by rw [e]; exact h.bp), fun e => h9 (by rw [e]; exact hm), fun t e2 => h9 (hK t g e2)⟩
  · rintro e w9 ⟨rfl, ch, c', km', K', E', C', hc', h9, hn9, hf9⟩
    have hcl : c' < w9.heap.size := by
      obtain ⟨es, cl, hm9⟩ := h9.dd.ca.map
      exact (Array.getElem?_eq_some_iff.1 hm9).1
    refine ⟨rfl, ch.mono (fun i _ e => ?_), ⟨⟨m, c', 0, km', _, _, _, K', E', C', h9, .inl hm, .inr ⟨hc', hcl⟩, fun t g hg => by simp [Value.ownBlock] at hg, fun t g hg => ?_, fun t y hy => (by cases hy), fun t => rfl, fun t => by rw [hf9 t, foldC_A, hA, hF]⟩, .inl h.bp, fun g hg => ?_, Nb.none S⟩⟩
    · rcases e with e | e | ⟨t, e⟩
      · rw [e]; exact h.bp
      · rw [e]; exact hm
      · exact hK t i e
    · rcases hn9 t g hg with h1 | h1
      · exact .inl (hK t g h1)
      · exact .inr ⟨h1, (h9.kr t g hg).1.lt⟩
    · rcases hg with hg | hg
      · exact Nat.lt_of_lt_of_le (h.low g hg) ch.size
      · exact hg.2

theorem AB.image (h : AB w Bl p S z b x A F) (hFS : ∀ t, S ≤ t → F t = none) (hz : z ≤ 4096) (hz0 : 0 < z) (hb : S * z ≤ 16777216) :
    Calls Try.prog 50 #[.pointer (some ⟨p, 0, none⟩)] w fun e w' => ∃ g, e = .returned (.slice (some ⟨g, 0, none⟩) (S * z) (S * z)) ∧ Rw w' g (bs (imgT z S F)).toArray 5 ∧ w.heap.size ≤ g ∧ Chg (fun i => i = p) w w' ∧ AB w' Bl p S z b x A F := by
  obtain ⟨m, c, kc, km, L, V, D, K, E, C, hd, hm, hc, hV, hK, hL, hA, hF⟩ := h.ex
  refine (imageG hd.dd.row hd.dd.du hd.dd.mp hd.kr (T := imgT z S F) (fun t g hg => ?_) (fun t ht hKt j hj => ?_) hz hz0 (imgT_len z S F) hb).mono ?_
  · have ht : t < S := Classical.byContradiction fun e => by
      have h1 := hFS t (by omega)
      rw [← hF t, hg] at h1
      cases h1
    exact ⟨ht, imgT_piece hz0 ht (by rw [← hF t, hg]; rfl) (hd.kr t g hg).2⟩
  · have h1 : F t = none := by rw [← hF t, hKt]; rfl
    unfold imgT
    rw [List.getD_eq_getElem?_getD, List.getElem?_map]
    by_cases hj2 : j < S * z
    · rw [List.getElem?_range hj2]
      show ((F (j / z)).getD (zs z)).getD (j % z) 0 = 0
      rw [hj, h1]
      show (zs z).getD (j % z) 0 = 0
      unfold zs
      rw [List.getD_eq_getElem?_getD, List.getElem?_replicate]
      split <;> rfl
    · rw [List.getElem?_eq_none (by simp; omega)]
      rfl
  · rintro e w9 ⟨g, rfl, hg, hgl, hr, ch⟩
    exact ⟨g, rfl, hg, hgl, ch, ⟨⟨m, c, kc, km, L, V, D, K, E, C, hd.turn ch hr rfl (Nat.le_refl _), hm, hc, hV, hK, hL, hA, hF⟩, h.bp, fun g hg => Nat.lt_of_lt_of_le (h.low g hg) ch.size, h.nb⟩⟩
end
end Go.Proofs.Ytddnecfnjnipjaa
