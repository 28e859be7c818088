/-
  Of the walk of CodecTowers: two readings of a text, and keys that are marked one behind the other.
-/
import Derived.Test.YtkchmoapcmageaaTrD
import Derived.Test.YtkchmoapcmageaaTrY
import Derived.Test.YtkchmoapcmageaaTrW
namespace Go.Proofs.Ytkchmoapcmageaa
open Go.RowKit

def sl3 (v : Value) : Option Addr × Nat × Nat := match v with
  | .slice a n c => (a, n, c)
  | _ => (none, 0, 0)
theorem sl3_own {w : World} {v : Value} {l : List Int} (h : Own w v l) : .slice (sl3 v).1 (sl3 v).2.1 (sl3 v).2.2 = v := by
  obtain ⟨a, c, rfl⟩ := h.form
  rfl
/-- A kid that was read, with its key. -/
def kdS (o : KS × Value) : Kd := ⟨o.1.lv, (sl3 o.2).1, (sl3 o.2).2.1, (sl3 o.2).2.2, o.1.kl, o.1.ct, o.1.z.take 33, o.1.z.drop 33⟩
def kD : KS × Value := (⟨0, [], 0, List.replicate 65 0, 0, 0⟩, (.slice none 0 0))
def fK (L : List (KS × Value)) (i : Nat) : Kd := kdS (L[i]?.getD kD)
theorem fK_at {L : List (KS × Value)} {i : Nat} (h : i < L.length) : fK L i = kdS L[i] := by unfold fK; rw [List.getElem?_eq_getElem h]; rfl
theorem kdS_cells {w : World} {o : KS × Value} (h1 : Own w o.2 o.1.kl) : (kdS o).cells = kdC o.1.lv o.2 o.1.ct o.1.z := by
  unfold kdS Kd.cells kdC
  simp only
  rw [sl3_own h1, List.take_append_drop]
/-- The rows of kids that were read. -/
theorem ML.rowsF {w : World} {v : Value} {L : List (KS × Value)} (h : ML w v L) (hz : ∀ k, k ∈ L → k.1.z.length = 65) : ∃ a c, v = .slice a L.length c ∧ RowsIn w (fun _ => True) a L.length 68 (fun i => (fK L i).cells) := by
  have e : L.map (fun k => kdC k.1.lv k.2 k.1.ct k.1.z) = (List.range L.length).map (fun i => (fK L i).cells) := by
    refine List.ext_getElem (by simp) (fun i h1 h2 => ?_)
    simp only [List.getElem_map, List.getElem_range]
    have hi : i < L.length := by simpa using h1
    rw [fK_at hi, kdS_cells (h.key _ (List.getElem_mem hi)).1]
  have g : GL w v 112 68 (L.map (fun k => kdC k.1.lv k.2 k.1.ct k.1.z)) := by
    refine ⟨?_, fun c hc => ?_⟩
    · rw [List.length_map]
      exact h.row
    · obtain ⟨k, hk, rfl⟩ := List.mem_map.1 hc
      rw [kdC_len, hz k hk]
  rw [e] at g
  exact GL.rowsN g
theorem Own.lenG {w : World} {v : Value} {l : List Int} (h : Own w v l) : l.length ≤ 9223372036854775807 := by
  rcases h.2 with ⟨_, h0⟩ | ⟨_, cap, _, _, _, _, h1, h2, _⟩
  · omega
  · unfold maxLen at h2; omega
theorem ML.kdT {w w' : World} {v : Value} {L : List (KS × Value)} (h : ML w v L) (hz : ∀ k, k ∈ L → k.1.z.length = 65) {i : Nat} (hi : i < L.length) (s1 : Src w' (L[i]).2 (L[i]).1.kl) : KdT w' (fK L i) := by
  rw [fK_at hi]
  have a := (h.key _ (List.getElem_mem hi)).1
  have z := hz _ (List.getElem_mem hi)
  refine ⟨?_, by show ((L[i]).1.z.take 33).length = 33; rw [List.length_take]; omega, by show ((L[i]).1.z.drop 33).length = 32; rw [List.length_drop]; omega, a.lenG⟩
  show Src w' (.slice (sl3 (L[i]).2).1 (sl3 (L[i]).2).2.1 (sl3 (L[i]).2).2.2) (L[i]).1.kl
  rw [sl3_own a]; exact s1
theorem fK_same {L1 L2 : List (KS × Value)} (h : L1.map Prod.fst = L2.map Prod.fst) {i : Nat} (hi : i < L1.length) : SmK (fK L1 i) (fK L2 i) := by
  have hl : L1.length = L2.length := by have := congrArg List.length h; simpa using this
  rw [fK_at hi, fK_at (by omega : i < L2.length)]
  have e : L1[i].1 = L2[i].1 := by
    have h1 : (L1.map Prod.fst)[i]'(by simpa using hi) = (L2.map Prod.fst)[i]'(by rw [List.length_map]; omega) := by simp only [h]
    simpa using h1
  unfold kdS
  exact ⟨by simp only [e], by simp only [e], by simp only [e], by simp only [e], by simp only [e]⟩
theorem textS_len (T : List Int) (a : Nat) (e m : Int) : (textS T a e m).1.length ≤ T.length := by
  unfold textS
  split
  · split
    split
    · split
      · exact Nat.zero_le _
      · split
        · exact Nat.zero_le _
        · simp only [List.length_take, List.length_drop]; omega
    · exact Nat.zero_le _
  · exact Nat.zero_le _
theorem manyS_all {T : List Int} : ∀ (n a : Nat) (e : Int) (k : KS), k ∈ (manyS T n a e).1 → k.z.length = 65 ∧ k.kl.length ≤ T.length
  | 0, a, e, k, h => by simp [manyS] at h
  | n + 1, a, e, k, h => by
    by_cases hc : e = 0
    · subst hc
      rw [manyS_step] at h
      rcases List.mem_cons.1 h with h | h
      · rw [h]; exact ⟨kidS_len T a 0, textS_len _ _ _ _⟩
      · exact manyS_all n _ _ k h
    · rw [manyS_err hc] at h
      cases h
theorem towerS_all (T : List Int) (k : KS) (h : k ∈ (towerS T 0 0).ks) : k.z.length = 65 ∧ k.kl.length ≤ T.length := by
  unfold towerS at h
  exact manyS_all _ _ _ k h
theorem towerS_kl (T : List Int) : (towerS T 0 0).kl.length ≤ T.length := by
  unfold towerS ownS
  simp only
  split
  · exact Nat.zero_le _
  · exact textS_len _ _ _ _
/-- What a reading of a tower is, an error or none. -/
structure TwR (w : World) (B : Nat) (S : TwS) (T : List Int) (key : Value) (kv : Value) (ks : List (KS × Value)) : Prop where
  ky : Own w key S.kl
  ml : ML w kv ks
  kf : ks.map Prod.fst = S.ks
  nb : ∀ g, key.ownBlock = some g ∨ kv.ownBlock = some g → B ≤ g
  nk : ∀ k, k ∈ ks → ∀ g, k.2.ownBlock = some g → B ≤ g ∧ ¬ key.ownBlock = some g
  hz : ∀ k, k ∈ ks → k.1.z.length = 65
  tl : S.kl.length ≤ T.length ∧ ∀ k, k ∈ ks → k.1.kl.length ≤ T.length
def TwZ : TwS := ⟨false, [], List.replicate 33 0, [], 0, 0⟩
theorem TowIs.twR {w : World} {B : Nat} {T : List Int} {C : List Value} (h : TowIs w B (towerS T 0 0) C) : ∃ key kv ks, C = towC (towerS T 0 0).hd key (towerS T 0 0).vl kv ∧ TwR w B (towerS T 0 0) T key kv ks := by
  obtain ⟨s, kv, ks, e, ho, os, hk, ml, hn1, hn2⟩ := h.ex
  have al : ∀ k, k ∈ ks → k.1.z.length = 65 ∧ k.1.kl.length ≤ T.length := fun k hk' => towerS_all T k.1 (by rw [← hk]; exact List.mem_map_of_mem hk')
  exact ⟨s, kv, ks, e, ⟨os, ml, hk, hn1, hn2, fun k hk' => (al k hk').1, towerS_kl T, fun k hk' => (al k hk').2⟩⟩
theorem TwR.zero (w : World) (B : Nat) (T : List Int) : TwR w B TwZ T (.slice none 0 0) (.slice none 0 0) [] := ⟨Own.nil _, ML.nilV _, rfl, fun g hg => by simp [Value.ownBlock] at hg, (fun k hk => by cases hk), (fun k hk => by cases hk), Nat.zero_le _, (fun k hk => by cases hk)⟩
/-- Two readings of one text. -/
theorem two_towers {wa wb : World} {B1 B2 : Nat} {T : List Int} {E : Int} {C D : List Value} (cA : E = 0 → TowIs wa B1 (towerS T 0 0) C) (cB : ¬ E = 0 → C = towZ) (dA : E = 0 → TowIs wb B2 (towerS T 0 0) D) (dB : ¬ E = 0 → D = towZ) :
    ∃ (S : TwS) (k1 v1 k2 v2 : Value) (L1 L2 : List (KS × Value)), C = towC S.hd k1 S.vl v1 ∧ D = towC S.hd k2 S.vl v2 ∧ S.vl.length = 33 ∧ TwR wa B1 S T k1 v1 L1 ∧ TwR wb B2 S T k2 v2 L2 := by
  by_cases e : E = 0
  · obtain ⟨k1, v1, L1, e1, r1⟩ := (cA e).twR
    obtain ⟨k2, v2, L2, e2, r2⟩ := (dA e).twR
    exact ⟨_, k1, v1, k2, v2, L1, L2, e1, e2, towerS_vl T 0 0, r1, r2⟩
  · exact ⟨TwZ, (.slice none 0 0), (.slice none 0 0), (.slice none 0 0), (.slice none 0 0), [], [], cB e, dB e, rfl, TwR.zero _ _ _, TwR.zero _ _ _⟩
/-- Kids that lie in memory. -/
structure VK (w : World) (a : Option Addr) (n : Nat) (f : Nat → Kd) : Prop where
  rows : RowsIn w (fun _ => True) a n 68 (fun i => (f i).cells)
  t : ∀ i, i < n → KdT w (f i)
theorem VK.kept {w w' : World} {a : Option Addr} {n : Nat} {f : Nat → Kd} (h : VK w a n f) (c : Chg (fun _ => False) w w') : VK w' a n f := ⟨h.rows.kept c (fun _ _ e => e), fun i hi => (h.t i hi).kept c⟩
theorem TwIn.vk {w : World} {Av : Nat → Prop} {P : Tw} (h : TwIn w Av P) (hl : ∀ i, i < P.sn → (P.ks i).kl.length ≤ 9223372036854775807) : VK w P.sa P.sn P.ks := ⟨RowsIn.mono (Av := Av) h.row (fun _ _ => True.intro), fun i hi => ⟨(h.kid i hi).src, (h.kid i hi).ad, (h.kid i hi).lb, hl i hi⟩⟩
theorem ML.apart {w : World} {v : Value} {L : List (KS × Value)} (h : ML w v L) {i j : Nat} (hi : i < L.length) (hj : j < L.length) (hij : i ≠ j) {g : Nat} (h1 : (L[i]).2.ownBlock = some g) (h2 : (L[j]).2.ownBlock = some g) : False := by
  have hp := List.pairwise_iff_getElem.1 h.ap
  rcases Nat.lt_or_gt_of_ne hij with q | q
  · exact hp i j hi hj q g h1 h2
  · exact hp j i hj hi q g h2 h1
/-- Keys under way of being marked. -/
structure MT (w0 wr : World) (key : Value) (kl : List Int) (L : List (KS × Value)) (j : Nat) : Prop where
  ch : Chg (fun k => key.ownBlock = some k ∨ ∃ o, o ∈ L ∧ o.2.ownBlock = some k) w0 wr
  ky : Src wr key kl
  dn : ∀ i (hi : i < L.length), i < j → Src wr (L[i]).2 (L[i]).1.kl
  td : ∀ i (hi : i < L.length), j ≤ i → Own wr (L[i]).2 (L[i]).1.kl
section
variable {w0 wr w1 : World} {j : Nat} {v key : Value} {kl : List Int} {L : List (KS × Value)}
/-- The tower's own key is marked first. -/
theorem MT.start (ml : ML w0 v L) (hn : ∀ k, k ∈ L → ∀ g, k.2.ownBlock = some g → ¬ key.ownBlock = some g) (c : Chg (fun k => some k = key.ownBlock) w0 w1) (s : Src w1 key kl) : MT w0 w1 key kl L 0 :=
  ⟨c.mono (fun _ _ e => .inl e.symm), s, fun _ _ h => absurd h (Nat.not_lt_zero _), fun _ hi _ => (ml.key _ (List.getElem_mem hi)).1.kept c (fun g hg e => hn _ (List.getElem_mem hi) g hg e.symm)⟩
theorem MT.fresh (h : MT w0 wr key kl L j) (c : Chg (fun _ => False) wr w1) : MT w0 w1 key kl L j := ⟨h.ch.trans c (fun _ e => e.elim), h.ky.kept c (fun _ _ e => e), fun i hi q => (h.dn i hi q).kept c (fun _ _ e => e), fun i hi q => (h.td i hi q).kept c (fun _ _ e => e)⟩
theorem MT.step (ml : ML w0 v L) (hn : ∀ k, k ∈ L → ∀ g, k.2.ownBlock = some g → ¬ key.ownBlock = some g) (h : MT w0 wr key kl L j) (hj : j < L.length) (c1 : Chg (fun k => some k = (L[j]).2.ownBlock) wr w1) (s1 : Src w1 (L[j]).2 (L[j]).1.kl) : MT w0 w1 key kl L (j + 1) := by
  have n1 : ∀ i (hi : i < L.length), i ≠ j → ∀ k, (L[i]).2.ownBlock = some k → ¬ some k = (L[j]).2.ownBlock := fun i hi q k hk e => ml.apart hi hj q hk e.symm
  refine ⟨h.ch.trans c1 (fun k e => .inl (.inr ⟨_, List.getElem_mem hj, e.symm⟩)), h.ky.kept c1 (fun k hk e => hn _ (List.getElem_mem hj) k e.symm hk), fun i hi q => ?_, fun i hi q => ?_⟩
  · by_cases e : i = j
    · subst e
      exact s1
    · exact (h.dn i hi (by omega)).kept c1 (n1 i hi e)
  · exact (h.td i hi (by omega)).kept c1 (n1 i hi (by omega))
theorem MT.rows (ml : ML w0 v L) (hz : ∀ k, k ∈ L → k.1.z.length = 65) (ho : Own w0 key kl) (h : MT w0 wr key kl L j) {a : Option Addr} {c : Nat} (hv : v = .slice a L.length c) : RowsIn wr (fun _ => True) a L.length 68 (fun i => (fK L i).cells) := by
  obtain ⟨a', c', e, r⟩ := ml.rowsF hz
  rw [hv] at e
  injection e with e1 _ _
  subst e1
  have r2 : RowsIn w0 (fun g => v.ownBlock = some g) a L.length 68 (fun i => (fK L i).cells) := fun i hi => by
    obtain ⟨g, o, hA, _, rg⟩ := r i hi
    exact ⟨g, o, hA, by rw [hv, hA]; rfl, rg⟩
  have ne : ∀ {u : Value} {l : List Int}, Own w0 u l → ∀ g, v.ownBlock = some g → ¬ u.ownBlock = some g := fun hu g hg e => by
    obtain ⟨_, e5⟩ := own_block5 hu e
    obtain ⟨_, e1⟩ := ml.blk hg
    rw [e5] at e1
    injection e1 with e1
    injection e1 with _ e1
    exact absurd e1 (by decide)
  exact (r2.kept h.ch (fun g hg e => by
    rcases e with e | ⟨o, hmem, e⟩
    · exact ne ho g hg e
    · exact ne (ml.key o hmem).1 g hg e)).mono (fun _ _ => True.intro)
theorem MT.vk (ml : ML w0 v L) (hz : ∀ k, k ∈ L → k.1.z.length = 65) (ho : Own w0 key kl) {n : Nat} (h : MT w0 wr key kl L n) {a : Option Addr} {c : Nat} (hv : v = .slice a n c) (hn : n = L.length) : VK wr a n (fK L) := by
  subst hn
  exact ⟨h.rows ml hz ho hv, fun i hi => ml.kdT hz hi (h.dn i hi hi)⟩
end
end Go.Proofs.Ytkchmoapcmageaa
