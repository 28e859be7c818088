/-
  Of the walk of CodecTowers: what was read, while other memory turns.
-/
import Derived.Test.YtkchmoapcmageaaTqA
namespace Go.Proofs.Ytkchmoapcmageaa
open Go.RowKit

section
variable {w w' : World} {B : Nat} {S : TwS} {T : List Int} {key kv : Value} {L : List (KS × Value)}
theorem TwR.fresh (h : TwR w B S T key kv L) (c : Chg (fun _ => False) w w') : TwR w' B S T key kv L :=
  ⟨h.ky.kept c (fun _ _ e => e), h.ml.kept c (fun _ _ _ e => e) (fun _ _ _ e => e), h.kf, h.nb, h.nk, h.hz, h.tl⟩
theorem TwR.hn (h : TwR w B S T key kv L) : ∀ k, k ∈ L → ∀ g, k.2.ownBlock = some g → ¬ key.ownBlock = some g := fun k hk g hg => (h.nk k hk g hg).2
theorem TwR.vk0 (h : TwR w B S T key kv L) {a : Option Addr} {n c : Nat} (hv : kv = .slice a n c) (hn : n = L.length) : VK w a n (fK L) := by
  subst hn
  obtain ⟨a', c', e, r⟩ := h.ml.rowsF h.hz
  rw [hv] at e
  injection e with e1 _ _
  subst e1
  exact ⟨r, fun i hi => h.ml.kdT h.hz hi (h.ml.key _ (List.getElem_mem hi)).1.src⟩
/-- What was read lies behind B: it stays where only what is ahead of B turns. -/
theorem TwR.far (h : TwR w B S T key kv L) {Q : Nat → Prop} (c : Chg Q w w') (hQ : ∀ k, Q k → k < B) {a : Option Addr} {n m : Nat} (hv : kv = .slice a n m) (hn : n = L.length) : VK w' a n (fK L) ∧ Src w' key S.kl := by
  subst hn
  have no : ∀ k, B ≤ k → ¬ Q k := fun k hk e => by have := hQ k e; omega
  obtain ⟨a', c', e, r⟩ := h.ml.rowsF h.hz
  rw [hv] at e
  injection e with e1 _ _
  subst e1
  have r2 : RowsIn w (fun g => kv.ownBlock = some g) a L.length 68 (fun i => (fK L i).cells) := fun i hi => by
    obtain ⟨g, o, hA, _, rg⟩ := r i hi
    exact ⟨g, o, hA, by rw [hv, hA]; rfl, rg⟩
  refine ⟨⟨(r2.kept c (fun g hg => no g (h.nb g (.inr hg)))).mono (fun _ _ => True.intro), fun i hi => ?_⟩, h.ky.src.kept c (fun k hk => no k (h.nb k (.inl hk)))⟩
  exact h.ml.kdT h.hz hi ((h.ml.key _ (List.getElem_mem hi)).1.src.kept c (fun k hk => no k (h.nk _ (List.getElem_mem hi) k hk).1))
/-- The blocks of what was read. -/
theorem TwR.blocks (h : TwR w B S T key kv L) {k : Nat} (hk : key.ownBlock = some k ∨ ∃ o, o ∈ L ∧ o.2.ownBlock = some k) : B ≤ k ∧ k < w.heap.size := by
  rcases hk with hk | ⟨o, ho, hk⟩
  · exact ⟨h.nb k (.inl hk), h.ky.lt hk⟩
  · exact ⟨(h.nk o ho k hk).1, (h.ml.key o ho).1.lt hk⟩
/-- What was read is none of the towers' blocks. -/
theorem TwR.no69 (h : TwR w B S T key kv L) {g : Nat} {cs : List Value} (hb : Blk w g cs 69) : ¬ (key.ownBlock = some g ∨ ∃ o, o ∈ L ∧ o.2.ownBlock = some g) := by
  have ne : ∀ {u : Value} {l : List Int}, Own w u l → ¬ u.ownBlock = some g := fun hu e => by
    obtain ⟨_, e5⟩ := own_block5 hu e
    rw [hb.eq] at e5
    injection e5 with e5
    injection e5 with _ e5
    exact absurd e5 (by decide)
  rintro (e | ⟨o, ho, e⟩)
  · exact ne h.ky e
  · exact ne (h.ml.key o ho).1 e
end
theorem VK.same {w : World} {hd : Bool} {kl vl : List Int} {a1 a2 A B : Option Addr} {n1 c1 n2 c2 n c d : Nat} {f1 f2 : Nat → Kd} (k1 : Src w (.slice a1 n1 c1) kl) (k2 : Src w (.slice a2 n2 c2) kl) (hkl : kl.length ≤ 9223372036854775807) (hv : vl.length = 33) (h1 : VK w A n f1) (h2 : VK w B n f2) (hs : ∀ i, i < n → SmK (f1 i) (f2 i)) (hn : n ≤ 9223372036854775807) :
    Calls Try.prog 30 #[.agg (towC hd (.slice a1 n1 c1) vl (.slice A n c)).toArray, .agg (towC hd (.slice a2 n2 c2) vl (.slice B n d)).toArray] w fun e w' => e = .returned (.bool true) ∧ Below w.heap.size w w' :=
  sameTowerE k1 k2 hkl hv h1.rows h2.rows h1.t h2.t hs hn
theorem SmK.bytes {x y : Kd} (h : SmK x y) : x.bytes = y.bytes := by
  unfold Kd.bytes
  rw [h.lv, h.kl, h.ct, h.ad, h.lb]
theorem kidsB_same {f g : Nat → Kd} : ∀ n, (∀ i, i < n → SmK (f i) (g i)) → kidsB f n = kidsB g n
  | 0, _ => rfl
  | n + 1, h => by rw [kidsB, kidsB, kidsB_same n (fun i hi => h i (by omega)), (h n (by omega)).bytes]
theorem towC_key (hd : Bool) (s s' : Value) (vl : List Int) (kv : Value) : (towC hd s vl kv).set 1 s' = towC hd s' vl kv := rfl
/-- The kid that stands behind the others. -/
def kd555 : List Value := kdC 555 (.slice none 0 0) 0 (List.replicate 65 0)
theorem kd555_len : kd555.length = 68 := rfl
theorem kd555_one : ∀ u ∈ kd555, u.oneCell' = true := kdC_one _ rfl _ _
end Go.Proofs.Ytkchmoapcmageaa
