/-
  A disk as what it holds: sector t has the writes A t in the cache and F t durable.
-/
import Derived.Test.YtjliibiohgcaeaaCrashB
namespace Go.Proofs.Ytjliibiohgcaeaa
open Go.RowKit Go.RwLone

def foldA (z : Nat) (kN : Nat → Nat) : List (Nat × List Int) → Option (List Int) → Option (List Int)
  | [], cur => cur
  | y :: l, cur => foldA z kN l (if kN y.1 = 0 then cur else some (over y.2 (cur.getD (zs z)) (kN y.1)))
theorem foldA_snoc (z : Nat) (kN : Nat → Nat) : ∀ (l : List (Nat × List Int)) (y : Nat × List Int) (cur : Option (List Int)), foldA z kN (l ++ [y]) cur = if kN y.1 = 0 then foldA z kN l cur else some (over y.2 ((foldA z kN l cur).getD (zs z)) (kN y.1))
  | [], _, _ => rfl
  | _ :: l, y, _ => foldA_snoc z kN l y _
theorem foldC_A (z : Nat) (kN : Nat → Nat) (C : Nat → List Int) : ∀ (l : List (Nat × Nat)) (cur : Option (List Int)), foldC z kN C l cur = foldA z kN (l.map fun y => (y.1, C y.2)) cur
  | [], _ => rfl
  | _ :: l, _ => foldC_A z kN C l _

/-- What a flush leaves of a sector; what is read of it. -/
def lastA (l : List (Nat × List Int)) (f : Option (List Int)) : Option (List Int) :=
  match l.getLast? with
  | some y => some y.2
  | none => f
theorem lastA_nil (f : Option (List Int)) : lastA [] f = f := rfl
theorem lastA_snoc (l : List (Nat × List Int)) (y : Nat × List Int) (f : Option (List Int)) : lastA (l ++ [y]) f = some y.2 := by simp [lastA]

/-- Rows that are no disk's stay. -/
def Oth (w w' : World) : Prop := ∀ g cs t, t ≠ 87 → t ≠ 93 → t ≠ 5 → Rw w g cs t → Rw w' g cs t
theorem Oth.refl (w : World) : Oth w w := fun _ _ _ _ _ _ h => h
theorem Oth.trans {a b c : World} (h : Oth a b) (k : Oth b c) : Oth a c := fun g cs t h1 h2 h3 h4 => k g cs t h1 h2 h3 (h g cs t h1 h2 h3 h4)
theorem Oth.more {w w' : World} (k : Chg (fun _ => False) w w') : Oth w w' := fun _ _ _ _ _ _ h => ⟨k.heap_some h.eq (fun h => h)⟩
theorem Oth.chg {w w' : World} {S : Nat → Prop} (k : Chg S w w') (h : ∀ g, S g → (∃ cs t, Rw w g cs t ∧ (t = 87 ∨ t = 93 ∨ t = 5)) ∨ ∃ es cl, w.heap[g]? = some (.map es cl)) : Oth w w' := fun g cs t h1 h2 h3 h4 => ⟨k.heap_some h4.eq (fun e => by
  rcases h g e with ⟨cs', t', r, ht⟩ | ⟨es, cl, hm⟩
  · have e2 := h4.eq.symm.trans r.eq
    injection e2 with e2
    injection e2 with _ e2
    subst e2
    rcases ht with ht | ht | ht
    · exact h1 ht
    · exact h2 ht
    · exact h3 ht
  · rw [h4.eq] at hm
    cases hm)⟩

theorem oth_row {w : World} {p i : Nat} {cs : Array Value} (h : Rw w p cs 87) (e : i = p) : (∃ cs t, Rw w i cs t ∧ (t = 87 ∨ t = 93 ∨ t = 5)) ∨ ∃ es cl, w.heap[i]? = some (.map es cl) := by
  subst e
  exact .inl ⟨_, 87, h, .inl rfl⟩

structure AD (w : World) (N p S z b : Nat) (x : Nums) (A : Nat → List (Nat × List Int)) (F : Nat → Option (List Int)) : Prop where
  ex : ∃ m c kc km L V D K E C, DC w p m c S z kc km b x L V D K E C ∧ N ≤ m ∧ N ≤ c ∧ (∀ t g, (V t).ownBlock = some g → N ≤ g) ∧ (∀ t g, K t = some g → N ≤ g) ∧ (∀ t y, y ∈ L t → N ≤ y.2) ∧ (∀ t, (L t).map (fun y => (y.1, C y.2)) = A t) ∧ ∀ t, (K t).map C = F t
  np : N ≤ p

section
variable {w w' : World} {N p S z b : Nat} {x : Nums} {A : Nat → List (Nat × List Int)} {F : Nat → Option (List Int)}

theorem AD.lt (h : AD w N p S z b x A F) : p < w.heap.size := by
  obtain ⟨m, c, kc, km, L, V, D, K, E, C, hd, _⟩ := h.ex
  exact hd.dd.row.lt

/-- Only the row has turned. -/
theorem DC.turn {m c kc km b b' : Nat} {x x' : Nums} {L : Nat → List (Nat × Nat)} {V : Nat → Value} {D : DataW Unit} {K : Nat → Option Nat} {E : DataW Unit} {C : Nat → List Int} (h : DC w p m c S z kc km b x L V D K E C) (k : Chg (fun i => i = p) w w') (r : Rw w' p (dkG S z m c x') 87) (hp : x'.pend = x.pend) (hb : b ≤ b') : DC w' p m c S z kc km b' x' L V D K E C :=
  ⟨h.dd.turn k r hp hb, fun t y hy => ⟨Rw.chg1 (h.lr t y hy).1 k (Rw.ne (h.lr t y hy).1 h.dd.row (by decide)), (h.lr t y hy).2⟩, fun t g hg => ⟨Rw.chg1 (h.kr t g hg).1 k (Rw.ne (h.kr t g hg).1 h.dd.row (by decide)), (h.kr t g hg).2⟩, h.ki, h.kl, h.li⟩

theorem AD.turn (h : AD w N p S z b x A F) (hN : N ≤ w.heap.size) {x' : Nums} (k : Chg (fun i => i = p) w w') (r : ∀ m c, Rw w p (dkG S z m c x) 87 → Rw w' p (dkG S z m c x') 87) (hp : x'.pend = x.pend) {b' : Nat} (hb : b ≤ b') : AD w' N p S z b' x' A F ∧ Below N w w' := by
  obtain ⟨m, c, kc, km, L, V, D, K, E, C, hd, q⟩ := h.ex
  have := h.np
  exact ⟨⟨⟨m, c, kc, km, L, V, D, K, E, C, hd.turn k (r m c hd.dd.row) hp hb, q⟩, h.np⟩, k.below hN (fun i e => by omega)⟩

theorem AD.more (h : AD w N p S z b x A F) (k : Chg (fun _ => False) w w') : AD w' N p S z b x A F := by
  obtain ⟨m, c, kc, km, L, V, D, K, E, C, hd, q⟩ := h.ex
  exact ⟨⟨m, c, kc, km, L, V, D, K, E, C, hd.turn (k.mono (fun _ _ h => h.elim)) ⟨k.heap_some hd.dd.row.eq (fun h => h)⟩ rfl (Nat.le_refl _), q⟩, h.np⟩
theorem AD.mono (h : AD w N p S z b x A F) {b' : Nat} (hb : b ≤ b') : AD w N p S z b' x A F := by
  obtain ⟨m, c, kc, km, L, V, D, K, E, C, hd, q⟩ := h.ex
  exact ⟨⟨m, c, kc, km, L, V, D, K, E, C, hd.turn (Chg.refl _ _) hd.dd.row rfl hb, q⟩, h.np⟩

theorem AD.made {m c : Nat} (h : DK w p S z m c 0 0) (hmc : m ≠ c) (hp : N ≤ p) (hm : N ≤ m) (hc : N ≤ c) : AD w N p S z 0 ⟨0, -1, false, 0, 0, 0, 0⟩ (fun _ => []) (fun _ => none) :=
  ⟨⟨m, c, 0, 0, _, _, _, _, _, fun _ => [], ⟨DD.made h hmc, fun t y hy => (by cases hy), fun t g hg => (by cases hg), fun t t' g hg => (by cases hg), fun t t' g y hg => (by cases hg), fun t t' y y' hy => (by cases hy)⟩, hm, hc, fun t g hg => by simp [Value.ownBlock] at hg, fun t g hg => (by cases hg), fun t y hy => (by cases hy), fun t => rfl, fun t => rfl⟩, hp⟩

theorem lat_lastA {z : Nat} {L : List (Nat × Nat)} {K : Option Nat} {C : Nat → List Int} : (latV z L K = .slice none 0 0 ∧ lastA (L.map fun y => (y.1, C y.2)) (K.map C) = none) ∨ ∃ B, latV z L K = .slice (some ⟨B, 0, none⟩) z z ∧ lastA (L.map fun y => (y.1, C y.2)) (K.map C) = some (C B) ∧ ((∃ y ∈ L, y.2 = B) ∨ K = some B) := by
  unfold latV lastA
  rw [List.getLast?_map]
  cases hl : L.getLast? with
  | some y => exact .inr ⟨y.2, rfl, rfl, .inl ⟨y, List.mem_of_getLast? hl, rfl⟩⟩
  | none =>
    cases K with
    | none => exact .inl ⟨rfl, rfl⟩
    | some g => exact .inr ⟨g, rfl, rfl, .inr rfl⟩

/-- Read, with the power on. -/
theorem AD.read (h : AD w N p S z b x A F) (hN : N ≤ w.heap.size) (hoff : x.off = false) (s : Nat) (hs : s < S) (hS : S ≤ 65536) (hz : z ≤ 4096) (hb : b ≤ 4398046511104) :
    Calls Try.prog 12 #[.pointer (some ⟨p, 0, none⟩), .int .i64 s] w fun e w' => ∃ g q, e = .returned (.tuple #[.slice (some ⟨g, 0, none⟩) z z, .int .i64 0]) ∧ Rw w' g (bs ((lastA (A s) (F s)).getD (zs z))).toArray 5 ∧ w.heap.size ≤ g ∧ Below N w w' ∧ Oth w w' ∧ AD w' N p S z b { x with rd := q } A F := by
  obtain ⟨m, c, kc, km, L, V, D, K, E, C, hd, hm, hc, hV, hK, hL, hA, hF⟩ := h.ex
  have hp := h.np
  rw [← hA s, ← hF s]
  rcases lat_lastA (z := z) (L := L s) (K := K s) (C := C) with ⟨e, e2⟩ | ⟨B, e, e2, hB⟩
  · refine (read_zero hd.dd.row hoff hd.dd.du hd.dd.ca hd.dd.mp hd.dd.cp hd.dd.vp s hs hS (Nat.le_trans (hd.dd.ll s) hb) e hz).mono ?_
    rintro e w9 ⟨g, rfl, hg, hgl, ⟨q, hr⟩, ch⟩
    refine ⟨g, q, rfl, ?_, hgl, ch.below hN (fun i e => by omega), Oth.chg ch (fun i e => oth_row hd.dd.row e), ⟨⟨m, c, kc, km, L, V, D, K, E, C, hd.turn ch hr rfl (Nat.le_refl _), hm, hc, hV, hK, hL, hA, hF⟩, hp⟩⟩
    rw [e2]
    show Rw w9 g (bs (zs z)).toArray 5
    rw [bs_zs]
    exact hg
  · have hr : Rw w B (bs (C B)).toArray 5 ∧ (C B).length = z := by
      rcases hB with ⟨y, hy, rfl⟩ | hB
      · exact hd.lr s y hy
      · exact hd.kr s B hB
    refine (read_blk hd.dd.row hoff hd.dd.du hd.dd.ca hd.dd.mp hd.dd.cp hd.dd.vp s hs hS (Nat.le_trans (hd.dd.ll s) hb) e hr.1 hr.2 hz).mono ?_
    rintro e w9 ⟨g, rfl, hg, hgl, ⟨q, hr⟩, ch⟩
    refine ⟨g, q, rfl, ?_, hgl, ch.below hN (fun i e => by omega), Oth.chg ch (fun i e => oth_row hd.dd.row e), ⟨⟨m, c, kc, km, L, V, D, K, E, C, hd.turn ch hr rfl (Nat.le_refl _), hm, hc, hV, hK, hL, hA, hF⟩, hp⟩⟩
    rw [e2]
    exact hg

/-- Write, with the power on. -/
theorem AD.write (h : AD w N p S z b x A F) (hN : N ≤ w.heap.size) {l : List Int} {ab : Option Addr} {cb : Nat} (hs : Src w (.slice ab z cb) l) (hl : l.length = z) (hz0 : 0 < z) (hz : z ≤ 4096) (s : Nat) (hsS : s < S) (hS : S ≤ 65536) (hb : b < 4398046511104) (hf : -1 ≤ x.fuse) (hf2 : x.fuse ≤ 9223372036854775807) (hbu : burnE x = 0) (hsp : (Value.slice ab z cb).ownBlock ≠ some p) {pn : Nat} (hpn : x.pend = pn) :
    Calls Try.prog 19 #[.pointer (some ⟨p, 0, none⟩), .int .i64 s, .slice ab z cb] w fun e w' => e = .returned (.int .i64 0) ∧ Below N w w' ∧ Oth w w' ∧ ∃ q, AD w' N p S z (b + 1) { burnN x with pend := ((pn + 1 : Nat) : Int), wr := q } (updT A s (A s ++ [(pn, l)])) F := by
  obtain ⟨m, c, kc, km, L, V, D, K, E, C, hd, hm, hc, hV, hK, hL, hA, hF⟩ := h.ex
  have hp := h.np
  have hkk := hd.dd.kk
  have hLs := hd.dd.ll s
  obtain ⟨pn', hp1, hp2⟩ := hd.dd.pn
  obtain rfl : pn = pn' := by rw [hpn] at hp1; omega
  refine (write_yes hd.dd.row hd.dd.ca hs hl hz0 hz s hsS hS hpn (by omega) (by omega) (by omega) hf hf2 hbu hd.dd.cp hd.dd.vp hsp).mono ?_
  rintro e w9 ⟨rfl, ⟨q, hr⟩, ⟨hh, V', D', ca', rh, hhl, hvn⟩, ch⟩
  have nS : ∀ g cs, Rw w g cs 5 → ¬ (g = p ∨ g = c ∨ some g = (V s).ownBlock) := fun g cs hg e => by
    rcases e with e | e | e
    · exact Rw.ne hg hd.dd.row (by decide) e
    · exact ne_map hg hd.dd.ca.map e.symm
    · exact ne_row hg (hd.dd.ca.cells e.symm) (by decide) rfl
  have nb : ∀ g cs, Rw w g cs 5 → Rw w9 g cs 5 := fun g cs hg => ⟨ch.heap_some hg.eq (nS g cs hg)⟩
  have lo : ∀ t y, y ∈ L t → y.2 < w.heap.size := fun t y hy => (hd.lr t y hy).1.lt
  have ko : ∀ t g, K t = some g → g < w.heap.size := fun t g hg => (hd.kr t g hg).1.lt
  have hdd : DD w9 p m c S z (kc + 1) km (b + 1) { burnN x with pend := ((pn + 1 : Nat) : Int), wr := q } (fun t => if t = s then L s ++ [(pn, hh)] else L t) V' D' K E := by
    refine ⟨hr, ca', ?_, hd.dd.mc, fun t y hy => ?_, fun t g hg => ⟨C g, (hd.kr t g hg).2, nb _ _ (hd.kr t g hg).1⟩, fun t ht => ?_, ⟨pn + 1, rfl, by omega⟩, fun t => ?_, by omega, fun t y hy => ?_⟩
    · obtain ⟨es, cl, hmm, rest⟩ := hd.dd.du.own
      have hm9 : w9.heap[m]? = some (.map es cl) := ch.heap_some hmm (fun e => by
        rcases e with e | e | e
        · exact hd.dd.mp e
        · exact hd.dd.mc e
        · obtain ⟨cur, hcur⟩ := hd.dd.ca.cells e.symm
          rw [hmm] at hcur
          cases hcur)
      exact ⟨⟨es, cl, hm9, rest⟩, hd.dd.du.at_, hd.dd.du.has⟩
    · split at hy
      · rcases List.mem_append.1 hy with hy | hy
        · exact ⟨_, (hd.lr s y hy).2, nb _ _ (hd.lr s y hy).1⟩
        · rw [List.mem_singleton.1 hy]
          exact ⟨l, hl, rh⟩
      · exact ⟨_, (hd.lr t y hy).2, nb _ _ (hd.lr t y hy).1⟩
    · by_cases e : t = s
      · rw [e]; exact hsS
      · simp only [if_neg e] at ht
        exact hd.dd.low t ht
    · by_cases e : t = s
      · simp only [if_pos e, List.length_append, List.length_cons, List.length_nil]; omega
      · simp only [if_neg e]; have := hd.dd.ll t; omega
    · split at hy
      · rcases List.mem_append.1 hy with hy | hy
        · exact Nat.le_succ_of_le (hd.dd.nm s y hy)
        · rw [List.mem_singleton.1 hy]; exact Nat.le_succ_of_le hp2
      · exact Nat.le_succ_of_le (hd.dd.nm t y hy)
  have mem : ∀ t y, y ∈ (if t = s then L s ++ [(pn, hh)] else L t) → (y ∈ L t) ∨ (t = s ∧ y = (pn, hh)) := fun t y hy => by
    split at hy
    · rename_i e
      rcases List.mem_append.1 hy with hy | hy
      · exact .inl (by rw [e]; exact hy)
      · exact .inr ⟨e, List.mem_singleton.1 hy⟩
    · exact .inl hy
  have hoth : Oth w w9 := Oth.chg ch (fun i e => by
    rcases e with e | e | e
    · exact oth_row hd.dd.row e
    · exact .inr (by rw [e]; exact hd.dd.ca.map)
    · obtain ⟨cur, hcur⟩ := hd.dd.ca.cells e.symm
      exact .inl ⟨cur, 93, ⟨hcur⟩, .inr (.inl rfl)⟩)
  refine ⟨rfl, ch.below hN (fun i e => ?_), hoth, q, ⟨⟨m, c, kc + 1, km, _, V', D', K, E, updT C hh l, ⟨hdd, fun t y hy => ?_, fun t g hg => ?_, hd.ki, fun t t' g y hg hy => ?_, fun t t' y y' hy hy' e => ?_⟩, hm, hc, fun t g hg => ?_, hK, fun t y hy => ?_, fun t => ?_, fun t => ?_⟩, hp⟩⟩
  · rcases e with e | e | e
    · omega
    · omega
    · exact hV s i e.symm
  · rcases mem t y hy with hy | ⟨_, rfl⟩
    · have := lo t y hy
      rw [updT_other _ _ (by omega)]
      exact ⟨nb _ _ (hd.lr t y hy).1, (hd.lr t y hy).2⟩
    · rw [updT_same]
      exact ⟨rh, hl⟩
  · have := ko t g hg
    rw [updT_other _ _ (by omega)]
    exact ⟨nb _ _ (hd.kr t g hg).1, (hd.kr t g hg).2⟩
  · rcases mem t' y hy with hy | ⟨_, rfl⟩
    · exact hd.kl t t' g y hg hy
    · have := ko t g hg
      show hh ≠ g
      omega
  · rcases mem t y hy with hy | ⟨ht, rfl⟩
    · rcases mem t' y' hy' with hy' | ⟨ht', rfl⟩
      · exact hd.li t t' y y' hy hy' e
      · have := lo t y hy
        have e : y.2 = hh := e
        omega
    · rcases mem t' y' hy' with hy' | ⟨ht', rfl⟩
      · have := lo t' y' hy'
        have e : hh = y'.2 := e
        omega
      · rw [ht, ht']
  · rcases hvn t g hg with h9 | h9
    · exact hV t g h9
    · omega
  · rcases mem t y hy with hy | ⟨_, rfl⟩
    · exact hL t y hy
    · show N ≤ hh
      omega
  · have hmap : ∀ t, (L t).map (fun y => (y.1, updT C hh l y.2)) = (L t).map (fun y => (y.1, C y.2)) := fun t => List.map_congr_left (fun y hy => by
      have := lo t y hy
      rw [updT_other _ _ (by omega)])
    by_cases e : t = s
    · subst e
      simp only [if_pos]
      rw [updT_same, List.map_append, hmap, hA]
      simp [updT_same]
    · simp only [if_neg e]
      rw [updT_other _ _ e, hmap, hA]
  · rw [← hF t]
    cases hKt : K t with
    | none => rfl
    | some g =>
      have := ko t g hKt
      show some (updT C hh l g) = some (C g)
      rw [updT_other _ _ (by omega)]

theorem lastK_lastA {l : List (Nat × Nat)} {k : Option Nat} {C : Nat → List Int} : (lastK l k).map C = lastA (l.map fun y => (y.1, C y.2)) (k.map C) := by
  unfold lastK lastA
  rw [List.getLast?_map]
  cases l.getLast? <;> rfl
theorem lastK_cases (l : List (Nat × Nat)) (k : Option Nat) {g : Nat} (h : lastK l k = some g) : (∃ y ∈ l, y.2 = g) ∨ (l = [] ∧ k = some g) := by
  by_cases e : l = []
  · subst e
    exact .inr ⟨rfl, h⟩
  · obtain ⟨y, hy, h2, _⟩ := lastK_ne e k
    rw [h2] at h
    injection h with h
    exact .inl ⟨y, hy, h⟩

/-- Flush, with the power on. -/
theorem AD.flush (h : AD w N p S z b x A F) (hN : N ≤ w.heap.size) (hS : S ≤ 65536) (hb : b ≤ 4398046511104) (hf : -1 ≤ x.fuse) (hf2 : x.fuse ≤ 9223372036854775807) (hbu : burnE x = 0) :
    Calls Try.prog 21 #[.pointer (some ⟨p, 0, none⟩)] w fun e w' => e = .returned (.int .i64 0) ∧ Below N w w' ∧ Oth w w' ∧ ∃ q, AD w' N p S z b { burnN x with pend := 0, fl := q } (fun _ => []) (fun t => lastA (A t) (F t)) := by
  obtain ⟨m, c, kc, km, L, V, D, K, E, C, hd, hm, hc, hV, hK, hL, hA, hF⟩ := h.ex
  have hp := h.np
  refine (hd.dd.flush_on hS hb hf hf2 hbu).mono ?_
  rintro e w9 ⟨rfl, ch, c', km', q, E', hc', h9⟩
  have nb : ∀ g cs, Rw w g cs 5 → Rw w9 g cs 5 := fun g cs hg => ⟨ch.heap_some hg.eq (fun e => by
    rcases e with e | e
    · exact Rw.ne hg hd.dd.row (by decide) e
    · exact ne_map hg hd.dd.du.map e.symm)⟩
  have hoth : Oth w w9 := Oth.chg ch (fun i e => by
    rcases e with e | e
    · exact oth_row hd.dd.row e
    · exact .inr (by rw [e]; exact hd.dd.du.map))
  refine ⟨rfl, ch.below hN (fun i e => by omega), hoth, q, ⟨⟨m, c', 0, km', _, _, _, _, E', C, ⟨h9, fun t y hy => (by cases hy), fun t g hg => ?_, fun t t' g hg hg' => ?_, fun t t' g y _ hy => (by cases hy), fun t t' y y' hy => (by cases hy)⟩, hm, by omega, fun t g hg => by simp [Value.ownBlock] at hg, fun t g hg => ?_, fun t y hy => (by cases hy), fun t => rfl, fun t => ?_⟩, hp⟩⟩
  · rcases lastK_cases _ _ hg with ⟨y, hy, rfl⟩ | ⟨_, hk⟩
    · exact ⟨nb _ _ (hd.lr t y hy).1, (hd.lr t y hy).2⟩
    · exact ⟨nb _ _ (hd.kr t g hk).1, (hd.kr t g hk).2⟩
  · rcases lastK_cases _ _ hg with ⟨y, hy, e1⟩ | ⟨_, hk⟩
    · rcases lastK_cases _ _ hg' with ⟨y', hy', e2⟩ | ⟨_, hk'⟩
      · exact hd.li t t' y y' hy hy' (by rw [e1, e2])
      · exact absurd e1 (hd.kl t' t g y hk' hy)
    · rcases lastK_cases _ _ hg' with ⟨y', hy', e2⟩ | ⟨_, hk'⟩
      · exact absurd e2 (hd.kl t t' g y' hk hy')
      · exact hd.ki t t' g hk hk'
  · rcases lastK_cases _ _ hg with ⟨y, hy, rfl⟩ | ⟨_, hk⟩
    · exact hL t y hy
    · exact hK t g hk
  · rw [lastK_lastA, hA, hF]

/-- Crash. -/
theorem AD.crash (h : AD w N p S z b x A F) (hN : N ≤ w.heap.size) (hS : S ≤ 65536) (hb : b ≤ 4398046511104) (hz : z ≤ 4096) {a : Option Addr} {n cN : Nat} {kl : List Bool} (hk : KB w a n kl) (hka : ∀ g o, 0 < n → a = some ⟨g, o, none⟩ → g < N) (torn at_ : Int) :
    Calls Try.prog 22 #[.pointer (some ⟨p, 0, none⟩), .agg #[.slice a n cN, .int .i64 torn, .int .i64 at_]] w fun e w' => e = .returned (.tuple #[]) ∧ Below N w w' ∧ Oth w w' ∧ ∃ era, AD w' N p S z b { x with pend := 0, fuse := -1, off := false, era := era } (fun _ => []) (fun t => foldA z (keptN kl torn at_ z) (A t) (F t)) := by
  obtain ⟨m, c, kc, km, L, V, D, K, E, C, hd, hm, hc, hV, hK, hL, hA, hF⟩ := h.ex
  have hp := h.np
  refine (hd.crash hS hb hz hk (fun g o h0 e => ?_) torn at_).mono ?_
  · have := hka g o h0 e
    exact ⟨by omega, by omega, fun t e2 => by have := hK t g e2; omega⟩
  · rintro e w9 ⟨rfl, ch, c', era, km', K', E', C', hc', h9, hn9, hf9⟩
    have hoth : Oth w w9 := Oth.chg ch (fun i e => by
      rcases e with e | e | ⟨t, e⟩
      · exact oth_row hd.dd.row e
      · exact .inr (by rw [e]; exact hd.dd.du.map)
      · exact .inl ⟨_, 5, (hd.kr t i e).1, .inr (.inr rfl)⟩)
    refine ⟨rfl, ch.below hN (fun i e => ?_), hoth, era, ⟨⟨m, c', 0, km', _, _, _, K', E', C', h9, hm, by omega, fun t g hg => by simp [Value.ownBlock] at hg, fun t g hg => ?_, fun t y hy => (by cases hy), fun t => rfl, fun t => ?_⟩, hp⟩⟩
    · rcases e with e | e | ⟨t, e⟩
      · omega
      · omega
      · exact hK t i e
    · rcases hn9 t g hg with h1 | h1
      · exact hK t g h1
      · omega
    · rw [hf9 t, foldC_A, hA, hF]
end
end Go.Proofs.Ytjliibiohgcaeaa
