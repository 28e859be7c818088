/-
  A disk as what it holds, beside a block of bytes that is not its own.
-/
import Derived.Test.YtjliibiohgcaeaaRot
import Derived.Test.YtjliibiohgcaeaaImage
import Derived.Test.YtjliibiohgcaeaaOther
namespace Go.Proofs.Ytjliibiohgcaeaa
open Go.RowKit Go.RwLone

/-- Rows that are no disk's stay, and so does block G. -/
structure OtG (G : Nat) (w w' : World) : Prop where
  ot : Oth w w'
  gd : ∀ cs, Rw w G cs 5 → Rw w' G cs 5
theorem OtG.refl (G : Nat) (w : World) : OtG G w w := ⟨Oth.refl w, fun _ h => h⟩
theorem OtG.trans {G : Nat} {a b c : World} (h : OtG G a b) (k : OtG G b c) : OtG G a c := ⟨h.ot.trans k.ot, fun cs r => k.gd cs (h.gd cs r)⟩
theorem OtG.more {G : Nat} {w w' : World} (k : Chg (fun _ => False) w w') : OtG G w w' := ⟨Oth.more k, fun _ h => ⟨k.heap_some h.eq (fun h => h)⟩⟩

structure AG (w : World) (N G p S z b : Nat) (x : Nums) (A : Nat → List (Nat × List Int)) (F : Nat → Option (List Int)) : Prop where
  ex : ∃ m c kc km L V D K E C, DC w p m c S z kc km b x L V D K E C ∧ N ≤ m ∧ N ≤ c ∧ (∀ t g, (V t).ownBlock = some g → N ≤ g) ∧ (∀ t g, K t = some g → N ≤ g) ∧ (∀ t y, y ∈ L t → N ≤ y.2) ∧ (∀ t, (L t).map (fun y => (y.1, C y.2)) = A t) ∧ (∀ t, (K t).map C = F t) ∧ (∀ t, K t ≠ some G) ∧ ∀ t y, y ∈ L t → y.2 ≠ G
  np : N ≤ p
  gl : G < w.heap.size

section
variable {w w' : World} {N G p S z b : Nat} {x : Nums} {A : Nat → List (Nat × List Int)} {F : Nat → Option (List Int)}

theorem AG.lt (h : AG w N G p S z b x A F) : p < w.heap.size := by
  obtain ⟨m, c, kc, km, L, V, D, K, E, C, hd, _⟩ := h.ex
  exact hd.dd.row.lt

theorem AG.more (h : AG w N G p S z b x A F) (k : Chg (fun _ => False) w w') : AG w' N G p S z b x A F := by
  obtain ⟨m, c, kc, km, L, V, D, K, E, C, hd, q⟩ := h.ex
  exact ⟨⟨m, c, kc, km, L, V, D, K, E, C, hd.turn (k.mono (fun _ _ h => h.elim)) ⟨k.heap_some hd.dd.row.eq (fun h => h)⟩ rfl (Nat.le_refl _), q⟩, h.np, Nat.lt_of_lt_of_le h.gl k.size⟩
theorem AG.mono (h : AG w N G p S z b x A F) {b' : Nat} (hb : b ≤ b') : AG w N G p S z b' x A F := by
  obtain ⟨m, c, kc, km, L, V, D, K, E, C, hd, q⟩ := h.ex
  exact ⟨⟨m, c, kc, km, L, V, D, K, E, C, hd.turn (Chg.refl _ _) hd.dd.row rfl hb, q⟩, h.np, h.gl⟩

theorem AG.made {m c : Nat} (hG : G < w.heap.size) (h : DK w p S z m c 0 0) (hmc : m ≠ c) (hp : N ≤ p) (hm : N ≤ m) (hc : N ≤ c) : AG w N G p S z 0 ⟨0, -1, false, 0, 0, 0, 0⟩ (fun _ => []) (fun _ => none) :=
  ⟨⟨m, c, 0, 0, _, _, _, _, _, fun _ => [], ⟨DD.made h hmc, fun t y hy => (by cases hy), fun t g hg => (by cases hg), fun t t' g hg => (by cases hg), fun t t' g y hg => (by cases hg), fun t t' y y' hy => (by cases hy)⟩, hm, hc, fun t g hg => by simp [Value.ownBlock] at hg, fun t g hg => (by cases hg), fun t y hy => (by cases hy), fun t => rfl, fun t => rfl, fun t hg => (by cases hg), fun t y hy => (by cases hy)⟩, hp, hG⟩

/-- Read, with the power on. -/
theorem AG.read (h : AG w N G p S z b x A F) (hN : N ≤ w.heap.size) (hoff : x.off = false) (s : Nat) (hs : s < S) (hS : S ≤ 65536) (hz : z ≤ 4096) (hb : b ≤ 4398046511104) :
    Calls Try.prog 12 #[.pointer (some ⟨p, 0, none⟩), .int .i64 s] w fun e w' => ∃ g q, e = .returned (.tuple #[.slice (some ⟨g, 0, none⟩) z z, .int .i64 0]) ∧ Rw w' g (bs ((lastA (A s) (F s)).getD (zs z))).toArray 5 ∧ w.heap.size ≤ g ∧ Below N w w' ∧ OtG G w w' ∧ AG w' N G p S z b { x with rd := q } A F := by
  obtain ⟨m, c, kc, km, L, V, D, K, E, C, hd, hm, hc, hV, hK, hL, hA, hF, hKG, hLG⟩ := h.ex
  have hp := h.np
  rw [← hA s, ← hF s]
  rcases lat_lastA (z := z) (L := L s) (K := K s) (C := C) with ⟨e, e2⟩ | ⟨B, e, e2, hB⟩
  · refine (read_zero hd.dd.row hoff hd.dd.du hd.dd.ca hd.dd.mp hd.dd.cp hd.dd.vp s hs hS (Nat.le_trans (hd.dd.ll s) hb) e hz).mono ?_
    rintro e w9 ⟨g, rfl, hg, hgl, ⟨q, hr⟩, ch⟩
    refine ⟨g, q, rfl, ?_, hgl, ch.below hN (fun i e => by omega), ⟨Oth.chg ch (fun i e => oth_row hd.dd.row e), fun cs hg => Rw.chg1 hg ch (Rw.ne hg hd.dd.row (by decide))⟩, ⟨⟨m, c, kc, km, L, V, D, K, E, C, hd.turn ch hr rfl (Nat.le_refl _), hm, hc, hV, hK, hL, hA, hF, hKG, hLG⟩, hp, Nat.lt_of_lt_of_le h.gl ch.size⟩⟩
    rw [e2]
    show Rw w9 g (bs (zs z)).toArray 5
    rw [bs_zs]
    exact hg
  · have hr : Rw w B (bs (C B)).toArray 5 ∧ (C B).length = z := by
      rcases hB with ⟨y, hy, rfl⟩ | hB
      · exact hd.lr s y hy
      · exact hd.kr s B hB
    refine (read_blk hd.dd.row hoff hd.dd.du hd.dd.ca hd.dd.mp hd.dd.cp hd.dd.vp s hs hS (Nat.le_trans (hd.dd.ll s) hb) e hr.1 hr.2 hz).mono ?_
    rintro e w9 ⟨g, rfl, hg, hgl, ⟨q, hr⟩, ch⟩
    refine ⟨g, q, rfl, ?_, hgl, ch.below hN (fun i e => by omega), ⟨Oth.chg ch (fun i e => oth_row hd.dd.row e), fun cs hg => Rw.chg1 hg ch (Rw.ne hg hd.dd.row (by decide))⟩, ⟨⟨m, c, kc, km, L, V, D, K, E, C, hd.turn ch hr rfl (Nat.le_refl _), hm, hc, hV, hK, hL, hA, hF, hKG, hLG⟩, hp, Nat.lt_of_lt_of_le h.gl ch.size⟩⟩
    rw [e2]
    exact hg

/-- Write, with the power on. -/
theorem AG.write (h : AG w N G p S z b x A F) (hN : N ≤ w.heap.size) {l : List Int} {ab : Option Addr} {cb : Nat} (hs : Src w (.slice ab z cb) l) (hl : l.length = z) (hz0 : 0 < z) (hz : z ≤ 4096) (s : Nat) (hsS : s < S) (hS : S ≤ 65536) (hb : b < 4398046511104) (hf : -1 ≤ x.fuse) (hf2 : x.fuse ≤ 9223372036854775807) (hbu : burnE x = 0) (hsp : (Value.slice ab z cb).ownBlock ≠ some p) {pn : Nat} (hpn : x.pend = pn) :
    Calls Try.prog 19 #[.pointer (some ⟨p, 0, none⟩), .int .i64 s, .slice ab z cb] w fun e w' => e = .returned (.int .i64 0) ∧ Below N w w' ∧ OtG G w w' ∧ ∃ q, AG w' N G p S z (b + 1) { burnN x with pend := ((pn + 1 : Nat) : Int), wr := q } (updT A s (A s ++ [(pn, l)])) F := by
  obtain ⟨m, c, kc, km, L, V, D, K, E, C, hd, hm, hc, hV, hK, hL, hA, hF, hKG, hLG⟩ := h.ex
  have hp := h.np
  have hkk := hd.dd.kk
  have hLs := hd.dd.ll s
  obtain ⟨pn', hp1, hp2⟩ := hd.dd.pn
  obtain rfl : pn = pn' := by rw [hpn] at hp1; omega
  refine (write_yes hd.dd.row hd.dd.ca hs hl hz0 hz s hsS hS hpn (by omega) (by omega) (by omega) hf hf2 hbu hd.dd.cp hd.dd.vp hsp).mono ?_
  rintro e w9 ⟨rfl, ⟨q, hr⟩, ⟨hh, V', D', ca', rh, hhl, hvn⟩, ch⟩
  have nS : ∀ g cs, Rw w g cs 5 → ¬ (g = p ∨ g = c ∨ some g = (V s).ownBlock) := fun g cs hg e => by
    rcases e with e | e | e
    · exact Rw.ne hg hd.dd.row (by decide) e
    · exact ne_map hg hd.dd.ca.map e.symm
    · exact ne_row hg (hd.dd.ca.cells e.symm) (by decide) rfl
  have nb : ∀ g cs, Rw w g cs 5 → Rw w9 g cs 5 := fun g cs hg => ⟨ch.heap_some hg.eq (nS g cs hg)⟩
  have lo : ∀ t y, y ∈ L t → y.2 < w.heap.size := fun t y hy => (hd.lr t y hy).1.lt
  have ko : ∀ t g, K t = some g → g < w.heap.size := fun t g hg => (hd.kr t g hg).1.lt
  have hdd : DD w9 p m c S z (kc + 1) km (b + 1) { burnN x with pend := ((pn + 1 : Nat) : Int), wr := q } (fun t => if t = s then L s ++ [(pn, hh)] else L t) V' D' K E := by
    refine ⟨hr, ca', ?_, hd.dd.mc, fun t y hy => ?_, fun t g hg => ⟨C g, (hd.kr t g hg).2, nb _ _ (hd.kr t g hg).1⟩, fun t ht => ?_, ⟨pn + 1, rfl, by omega⟩, fun t => ?_, by omega, fun t y hy => ?_⟩
    · obtain ⟨es, cl, hmm, rest⟩ := hd.dd.du.own
      have hm9 : w9.heap[m]? = some (.map es cl) := ch.heap_some hmm (fun e => by
        rcases e with e | e | e
        · exact hd.dd.mp e
        · exact hd.dd.mc e
        · obtain ⟨cur, hcur⟩ := hd.dd.ca.cells e.symm
          rw [hmm] at hcur
          cases hcur)
      exact ⟨⟨es, cl, hm9, rest⟩, hd.dd.du.at_, hd.dd.du.has⟩
    · split at hy
      · rcases List.mem_append.1 hy with hy | hy
        · exact ⟨_, (hd.lr s y hy).2, nb _ _ (hd.lr s y hy).1⟩
        · rw [List.mem_singleton.1 hy]
          exact ⟨l, hl, rh⟩
      · exact ⟨_, (hd.lr t y hy).2, nb _ _ (hd.lr t y hy).1⟩
    · by_cases e : t = s
      · rw [e]; exact hsS
      · simp only [if_neg e] at ht
        exact hd.dd.low t ht
    · by_cases e : t = s
      · simp only [if_pos e, List.length_append, List.length_cons, List.length_nil]; omega
      · simp only [if_neg e]; have := hd.dd.ll t; omega
    · split at hy
      · rcases List.mem_append.1 hy with hy | hy
        · exact Nat.le_succ_of_le (hd.dd.nm s y hy)
        · rw [List.mem_singleton.1 hy]; exact Nat.le_succ_of_le hp2
      · exact Nat.le_succ_of_le (hd.dd.nm t y hy)
  have mem : ∀ t y, y ∈ (if t = s then L s ++ [(pn, hh)] else L t) → (y ∈ L t) ∨ (t = s ∧ y = (pn, hh)) := fun t y hy => by
    split at hy
    · rename_i e
      rcases List.mem_append.1 hy with hy | hy
      · exact .inl (by rw [e]; exact hy)
      · exact .inr ⟨e, List.mem_singleton.1 hy⟩
    · exact .inl hy
  have hoth : OtG G w w9 := ⟨Oth.chg ch (fun i e => by
    rcases e with e | e | e
    · exact oth_row hd.dd.row e
    · exact .inr (by rw [e]; exact hd.dd.ca.map)
    · obtain ⟨cur, hcur⟩ := hd.dd.ca.cells e.symm
      exact .inl ⟨cur, 93, ⟨hcur⟩, .inr (.inl rfl)⟩), fun cs hg => nb G cs hg⟩
  refine ⟨rfl, ch.below hN (fun i e => ?_), hoth, q, ⟨⟨m, c, kc + 1, km, _, V', D', K, E, updT C hh l, ⟨hdd, fun t y hy => ?_, fun t g hg => ?_, hd.ki, fun t t' g y hg hy => ?_, fun t t' y y' hy hy' e => ?_⟩, hm, hc, fun t g hg => ?_, hK, fun t y hy => ?_, fun t => ?_, fun t => ?_, hKG, fun t y hy => ?_⟩, hp, Nat.lt_of_lt_of_le h.gl ch.size⟩⟩
  · rcases e with e | e | e
    · omega
    · omega
    · exact hV s i e.symm
  · rcases mem t y hy with hy | ⟨_, rfl⟩
    · have := lo t y hy
      rw [updT_other _ _ (by omega)]
      exact ⟨nb _ _ (hd.lr t y hy).1, (hd.lr t y hy).2⟩
    · rw [updT_same]
      exact ⟨rh, hl⟩
  · have := ko t g hg
    rw [updT_other _ _ (by omega)]
    exact ⟨nb _ _ (hd.kr t g hg).1, (hd.kr t g hg).2⟩
  · rcases mem t' y hy with hy | ⟨_, rfl⟩
    · exact hd.kl t t' g y hg hy
    · have := ko t g hg
      show hh ≠ g
      omega
  · rcases mem t y hy with hy | ⟨ht, rfl⟩
    · rcases mem t' y' hy' with hy' | ⟨ht', rfl⟩
      · exact hd.li t t' y y' hy hy' e
      · have := lo t y hy
        have e : y.2 = hh := e
        omega
    · rcases mem t' y' hy' with hy' | ⟨ht', rfl⟩
      · have := lo t' y' hy'
        have e : hh = y'.2 := e
        omega
      · rw [ht, ht']
  · rcases hvn t g hg with h9 | h9
    · exact hV t g h9
    · omega
  · rcases mem t y hy with hy | ⟨_, rfl⟩
    · exact hL t y hy
    · show N ≤ hh
      omega
  · have hmap : ∀ t, (L t).map (fun y => (y.1, updT C hh l y.2)) = (L t).map (fun y => (y.1, C y.2)) := fun t => List.map_congr_left (fun y hy => by
      have := lo t y hy
      rw [updT_other _ _ (by omega)])
    by_cases e : t = s
    · subst e
      simp only [if_pos]
      rw [updT_same, List.map_append, hmap, hA]
      simp [updT_same]
    · simp only [if_neg e]
      rw [updT_other _ _ e, hmap, hA]
  · rw [← hF t]
    cases hKt : K t with
    | none => rfl
    | some g =>
      have := ko t g hKt
      show some (updT C hh l g) = some (C g)
      rw [updT_other _ _ (by omega)]
  · rcases mem t y hy with hy | ⟨_, rfl⟩
    · exact hLG t y hy
    · have := h.gl
      show hh ≠ G
      omega

/-- Flush, with the power on. -/
theorem AG.flush (h : AG w N G p S z b x A F) (hN : N ≤ w.heap.size) (hS : S ≤ 65536) (hb : b ≤ 4398046511104) (hf : -1 ≤ x.fuse) (hf2 : x.fuse ≤ 9223372036854775807) (hbu : burnE x = 0) :
    Calls Try.prog 21 #[.pointer (some ⟨p, 0, none⟩)] w fun e w' => e = .returned (.int .i64 0) ∧ Below N w w' ∧ OtG G w w' ∧ ∃ q, AG w' N G p S z b { burnN x with pend := 0, fl := q } (fun _ => []) (fun t => lastA (A t) (F t)) := by
  obtain ⟨m, c, kc, km, L, V, D, K, E, C, hd, hm, hc, hV, hK, hL, hA, hF, hKG, hLG⟩ := h.ex
  have hp := h.np
  refine (hd.dd.flush_on hS hb hf hf2 hbu).mono ?_
  rintro e w9 ⟨rfl, ch, c', km', q, E', hc', h9⟩
  have nb : ∀ g cs, Rw w g cs 5 → Rw w9 g cs 5 := fun g cs hg => ⟨ch.heap_some hg.eq (fun e => by
    rcases e with e | e
    · exact Rw.ne hg hd.dd.row (by decide) e
    · exact ne_map hg hd.dd.du.map e.symm)⟩
  have hoth : OtG G w w9 := ⟨Oth.chg ch (fun i e => by
    rcases e with e | e
    · exact oth_row hd.dd.row e
    · exact .inr (by rw [e]; exact hd.dd.du.map)), fun cs hg => nb G cs hg⟩
  refine ⟨rfl, ch.below hN (fun i e => by omega), hoth, q, ⟨⟨m, c', 0, km', _, _, _, _, E', C, ⟨h9, fun t y hy => (by cases hy), fun t g hg => ?_, fun t t' g hg hg' => ?_, fun t t' g y _ hy => (by cases hy), fun t t' y y' hy => (by cases hy)⟩, hm, by omega, fun t g hg => by simp [Value.ownBlock] at hg, fun t g hg => ?_, fun t y hy => (by cases hy), fun t => rfl, fun t => ?_, fun t hg => ?_, fun t y hy => (by cases hy)⟩, hp, Nat.lt_of_lt_of_le h.gl ch.size⟩⟩
  · rcases lastK_cases _ _ hg with ⟨y, hy, rfl⟩ | ⟨_, hk⟩
    · exact ⟨nb _ _ (hd.lr t y hy).1, (hd.lr t y hy).2⟩
    · exact ⟨nb _ _ (hd.kr t g hk).1, (hd.kr t g hk).2⟩
  · rcases lastK_cases _ _ hg with ⟨y, hy, e1⟩ | ⟨_, hk⟩
    · rcases lastK_cases _ _ hg' with ⟨y', hy', e2⟩ | ⟨_, hk'⟩
      · exact hd.li t t' y y' hy hy' (by rw [e1, e2])
      · exact absurd e1 (hd.kl t' t g y hk' hy)
    · rcases lastK_cases _ _ hg' with ⟨y', hy', e2⟩ | ⟨_, hk'⟩
      · exact absurd e2 (hd.kl t t' g y' hk hy')
      · exact hd.ki t t' g hk hk'
  · rcases lastK_cases _ _ hg with ⟨y, hy, rfl⟩ | ⟨_, hk⟩
    · exact hL t y hy
    · exact hK t g hk
  · rw [lastK_lastA, hA, hF]
  · rcases lastK_cases _ _ hg with ⟨y, hy, e⟩ | ⟨_, hk⟩
    · exact hLG t y hy e
    · exact hKG t hk

/-- Crash. -/
theorem AG.crash (h : AG w N G p S z b x A F) (hN : N ≤ w.heap.size) (hS : S ≤ 65536) (hb : b ≤ 4398046511104) (hz : z ≤ 4096) {a : Option Addr} {n cN : Nat} {kl : List Bool} (hk : KB w a n kl) (hka : ∀ g o, 0 < n → a = some ⟨g, o, none⟩ → g < N) (torn at_ : Int) :
    Calls Try.prog 22 #[.pointer (some ⟨p, 0, none⟩), .agg #[.slice a n cN, .int .i64 torn, .int .i64 at_]] w fun e w' => e = .returned (.tuple #[]) ∧ Below N w w' ∧ OtG G w w' ∧ ∃ era, AG w' N G p S z b { x with pend := 0, fuse := -1, off := false, era := era } (fun _ => []) (fun t => foldA z (keptN kl torn at_ z) (A t) (F t)) := by
  obtain ⟨m, c, kc, km, L, V, D, K, E, C, hd, hm, hc, hV, hK, hL, hA, hF, hKG, hLG⟩ := h.ex
  have hp := h.np
  refine (hd.crash hS hb hz hk (fun g o h0 e => ?_) torn at_).mono ?_
  · have := hka g o h0 e
    exact ⟨by omega, by omega, fun t e2 => by have := hK t g e2; omega⟩
  · rintro e w9 ⟨rfl, ch, c', era, km', K', E', C', hc', h9, hn9, hf9⟩
    have hoth : OtG G w w9 := ⟨Oth.chg ch (fun i e => by
      rcases e with e | e | ⟨t, e⟩
      · exact oth_row hd.dd.row e
      · exact .inr (by rw [e]; exact hd.dd.du.map)
      · exact .inl ⟨_, 5, (hd.kr t i e).1, .inr (.inr rfl)⟩), fun cs hg => ⟨ch.heap_some hg.eq (fun e => by
      rcases e with e | e | ⟨t, e⟩
      · exact Rw.ne hg hd.dd.row (by decide) e
      · exact ne_map hg hd.dd.du.map e.symm
      · exact hKG t e)⟩⟩
    refine ⟨rfl, ch.below hN (fun i e => ?_), hoth, era, ⟨⟨m, c', 0, km', _, _, _, K', E', C', h9, hm, by omega, fun t g hg => by simp [Value.ownBlock] at hg, fun t g hg => ?_, fun t y hy => (by cases hy), fun t => rfl, fun t => ?_, fun t hg => ?_, fun t y hy => (by cases hy)⟩, hp, Nat.lt_of_lt_of_le h.gl ch.size⟩⟩
    · rcases e with e | e | ⟨t, e⟩
      · omega
      · omega
      · exact hK t i e
    · rcases hn9 t g hg with h1 | h1
      · exact hK t g h1
      · omega
    · rw [hf9 t, foldC_A, hA, hF]
    · rcases hn9 t _ hg with h1 | h1
      · exact hKG t h1
      · have := h.gl
        omega
end

theorem AG.regard {w w' : World} {N G G' p S z b : Nat} {x : Nums} {A : Nat → List (Nat × List Int)} {F : Nat → Option (List Int)} (h : AG w N G p S z b x A F) (k : Chg (fun _ => False) w w') (h1 : w.heap.size ≤ G') (h2 : G' < w'.heap.size) : AG w' N G' p S z b x A F := by
  obtain ⟨m, c, kc, km, L, V, D, K, E, C, hd, hm, hc, hV, hK, hL, hA, hF, hKG, hLG⟩ := h.ex
  exact ⟨⟨m, c, kc, km, L, V, D, K, E, C, hd.turn (k.mono (fun _ _ h => h.elim)) ⟨k.heap_some hd.dd.row.eq (fun h => h)⟩ rfl (Nat.le_refl _), hm, hc, hV, hK, hL, hA, hF, fun t e => by have := (hd.kr t G' e).1.lt; omega, fun t y hy e => by have := (hd.lr t y hy).1.lt; omega⟩, h.np, h2⟩

theorem AG.ad {w : World} {N G p S z b : Nat} {x : Nums} {A : Nat → List (Nat × List Int)} {F : Nat → Option (List Int)} (h : AG w N G p S z b x A F) : AD w N p S z b x A F := by
  obtain ⟨m, c, kc, km, L, V, D, K, E, C, hd, hm, hc, hV, hK, hL, hA, hF, hKG, hLG⟩ := h.ex
  exact ⟨⟨m, c, kc, km, L, V, D, K, E, C, hd, hm, hc, hV, hK, hL, hA, hF⟩, h.np⟩
end Go.Proofs.Ytjliibiohgcaeaa
