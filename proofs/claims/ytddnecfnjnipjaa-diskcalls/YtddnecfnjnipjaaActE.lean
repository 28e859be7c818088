import Derived.Test.YtddnecfnjnipjaaRfJ
import Derived.Test.YtddnecfnjnipjaaAtom
import Derived.Test.YtddnecfnjnipjaaFoot
/-
  The reference's cache against the disk's: plain lists.
-/
namespace Go.Proofs.Ytddnecfnjnipjaa

/-- The writes of a sector, with their places. -/
def qA (Q : List (Nat × List Int)) (t : Nat) : List (Nat × List Int) := (Q.zipIdx.filter (fun p => p.1.1 = t)).map (fun p => (p.2, p.1.2))
/-- What the writes make of a sector. -/
def caQ (t : Nat) (Q : List (Nat × List Int)) (b : List Int) : List Int := Q.foldl (fun b p => if p.1 = t then p.2 else b) b

theorem qA_snoc (Q : List (Nat × List Int)) (s t : Nat) (l : List Int) : qA (Q ++ [(s, l)]) t = if s = t then qA Q t ++ [(Q.length, l)] else qA Q t := by
  unfold qA
  rw [List.zipIdx_append, List.filter_append, List.map_append]
  by_cases e : s = t
  · rw [if_pos e]
    simp [e]
  · rw [if_neg e]
    simp [e]
theorem qA_mem {Q : List (Nat × List Int)} {t : Nat} {y : Nat × List Int} : y ∈ qA Q t ↔ Q[y.1]? = some (t, y.2) := by
  unfold qA
  constructor
  · intro h
    obtain ⟨⟨⟨s, l⟩, k⟩, h1, rfl⟩ := List.mem_map.1 h
    obtain ⟨h2, h3⟩ := List.mem_filter.1 h1
    have h4 := List.mem_zipIdx_iff_getElem?.1 h2
    simp only [decide_eq_true_eq] at h3
    simp only at h4 ⊢
    rw [h4, h3]
  · intro h
    refine List.mem_map.2 ⟨((t, y.2), y.1), List.mem_filter.2 ⟨List.mem_zipIdx_iff_getElem?.2 h, by simp⟩, rfl⟩
theorem qA_map (Q : List (Nat × List Int)) (s t : Nat) (g : List Int → List Int) : qA (Q.map (fun p => if p.1 = s then (p.1, g p.2) else p)) t = if t = s then (qA Q t).map (fun y => (y.1, g y.2)) else qA Q t := by
  unfold qA
  rw [List.zipIdx_map, List.filter_map, List.map_map]
  have e1 : ((fun p : (Nat × List Int) × Nat => decide (p.1.1 = t)) ∘ Prod.map (fun p : Nat × List Int => if p.1 = s then (p.1, g p.2) else p) id) = fun p => decide (p.1.1 = t) := by
    funext ⟨⟨a, b⟩, c⟩
    simp only [Function.comp, Prod.map]
    split <;> rfl
  rw [e1]
  by_cases e : t = s
  · rw [if_pos e, List.map_map]
    apply List.map_congr_left
    intro ⟨⟨a, b⟩, c⟩ hm
    have := (List.mem_filter.1 hm).2
    simp only [decide_eq_true_eq] at this
    simp [this, e]
  · rw [if_neg e]
    apply List.map_congr_left
    intro ⟨⟨a, b⟩, c⟩ hm
    have := (List.mem_filter.1 hm).2
    simp only [decide_eq_true_eq] at this
    simp [this, e]

theorem caQ_snoc (t : Nat) (Q : List (Nat × List Int)) (p : Nat × List Int) (b : List Int) : caQ t (Q ++ [p]) b = if p.1 = t then p.2 else caQ t Q b := by
  unfold caQ
  rw [List.foldl_append]
  rfl
theorem snoc_ind {α : Type} {P : List α → Prop} (h0 : P []) (h1 : ∀ l x, P l → P (l ++ [x])) (l : List α) : P l := by
  have : ∀ n, ∀ l : List α, l.length = n → P l := by
    intro n
    induction n with
    | zero => intro l hl; rw [List.eq_nil_of_length_eq_zero hl]; exact h0
    | succ n ih =>
      intro l hl
      have hne : l ≠ [] := fun e => by rw [e] at hl; simp at hl
      rw [← List.dropLast_concat_getLast hne]
      exact h1 _ _ (ih _ (by rw [List.length_dropLast, hl]; rfl))
  exact this _ l rfl
theorem lastA_qA (t : Nat) (f : Option (List Int)) (d : List Int) (Q : List (Nat × List Int)) : (lastA (qA Q t) f).getD d = caQ t Q (f.getD d) := by
  refine snoc_ind (P := fun Q => (lastA (qA Q t) f).getD d = caQ t Q (f.getD d)) rfl (fun Q p ih => ?_) Q
  obtain ⟨s, l⟩ := p
  rw [qA_snoc, caQ_snoc]
  by_cases e : s = t
  · rw [if_pos e, if_pos e, lastA_snoc]
    rfl
  · rw [if_neg e, if_neg e]
    exact ih
theorem caD_caQ (C : Nat → List Int) (t : Nat) (cl : List Dd) (b : List Int) : caD C t cl b = caQ t (cl.map (fun d => (d.s, C d.g))) b := by
  unfold caD caQ
  rw [List.foldl_map]
theorem ovD_app (C : Nat → List Int) (t : Nat) (a b : List Dd) (u : List Int) : ovD C t (a ++ b) u = ovD C t b (ovD C t a u) := by
  unfold ovD
  rw [List.foldl_append]
theorem ovD_all {C : Nat → List Int} {t z : Nat} : ∀ (cl : List Dd) (u : List Int), u.length = z → (∀ d ∈ cl, d.turn = false ∧ d.n = z ∧ (C d.g).length = z) → ovD C t cl u = caD C t cl u
  | [], _, _, _ => rfl
  | d :: cl, u, hu, h => by
    obtain ⟨h1, h2, h3⟩ := h d (by simp)
    have e : ov1 C t u d = if d.s = t then C d.g else u := by
      unfold ov1
      by_cases e : d.s = t
      · rw [if_pos e, if_pos e, h1, if_neg (by decide), h2, over_all h3 hu]
      · rw [if_neg e, if_neg e]
    show ovD C t cl (ov1 C t u d) = caD C t cl (if d.s = t then C d.g else u)
    rw [e]
    refine ovD_all cl _ ?_ (fun d hd => h d (by simp [hd]))
    split
    · exact h3
    · exact hu

/-- A crash, in both. -/
theorem crash_same {C : Nat → List Int} {kl : List Bool} {torn at_ : Int} {z t : Nat} {cl : List Dd} {f : Option (List Int)} (hz : 0 < z) (h : ∀ d ∈ cl, d.turn = false ∧ d.n = z ∧ (C d.g).length = z) : ∀ k, k ≤ cl.length →
    ovD C t (crD kl torn at_ z cl k) (f.getD (zs z)) = (foldA z (keptN kl torn at_ z) (qA ((cl.map (fun d => (d.s, C d.g))).take k) t) f).getD (zs z)
  | 0, _ => rfl
  | k + 1, hk => by
    have ih := crash_same (torn := torn) (at_ := at_) (kl := kl) (t := t) (f := f) hz h k (by omega)
    obtain ⟨d, hd⟩ : ∃ d, cl[k]? = some d := ⟨cl[k]'(by omega), List.getElem?_eq_getElem _⟩
    obtain ⟨h1, h2, h3⟩ := h d (List.mem_of_getElem? hd)
    have e1 : crD kl torn at_ z cl (k + 1) = crD kl torn at_ z cl k ++ kpD kl torn at_ z k d := by
      show _ ++ _ = _
      rw [hd]
    have e2 : (cl.map (fun d => (d.s, C d.g))).take (k + 1) = (cl.map (fun d => (d.s, C d.g))).take k ++ [(d.s, C d.g)] := by
      rw [List.take_add_one, List.getElem?_map, hd]
      rfl
    have e3 : ((cl.map (fun d => (d.s, C d.g))).take k).length = k := by rw [List.length_take, List.length_map]; omega
    rw [e1, ovD_app, ih, e2, qA_snoc, e3]
    have one : ∀ (d' : Dd) (u : List Int), d'.s = d.s → d'.g = d.g → d'.turn = false → ovD C t [d'] u = if d.s = t then over (C d.g) u d'.n else u := fun d' u a1 a2 a3 => by
      show ov1 C t u d' = _
      unfold ov1
      rw [a1, a2, a3]
      rfl
    by_cases e : d.s = t
    · rw [if_pos e, foldA_snoc]
      unfold kpD
      by_cases ht : (k : Int) = torn
      · have ek : keptN kl torn at_ z k = (min (max at_ 0) z).toNat := by unfold keptN; rw [if_pos ht]
        rw [if_pos ht, one { d with n := (min (max at_ 0) (z : Int)).toNat } _ rfl rfl h1, if_pos e]
        show over (C d.g) _ (min (max at_ 0) (z : Int)).toNat = _
        rw [ek]
        by_cases h0 : (min (max at_ 0) (z : Int)).toNat = 0
        · rw [if_pos h0, h0, over_zero]
        · rw [if_neg h0]
          rfl
      · rw [if_neg ht]
        by_cases hk2 : kl.getD k false = true
        · have ek : keptN kl torn at_ z k = z := by unfold keptN; rw [if_neg ht, if_pos hk2]
          rw [if_pos hk2, one _ _ rfl rfl h1, if_pos e, h2]
          show _ = Option.getD (if keptN kl torn at_ z k = 0 then _ else _) _
          rw [ek, if_neg (by omega)]
          rfl
        · have ek : keptN kl torn at_ z k = 0 := by unfold keptN; rw [if_neg ht, if_neg hk2]
          rw [if_neg hk2]
          show _ = Option.getD (if keptN kl torn at_ z k = 0 then _ else _) _
          rw [ek, if_pos rfl]
          rfl
    · rw [if_neg e]
      unfold kpD
      split
      · rw [one { d with n := (min (max at_ 0) (z : Int)).toNat } _ rfl rfl h1, if_neg e]
      · split
        · rw [one _ _ rfl rfl h1, if_neg e]
        · rfl
theorem pl_qA (Q : List (Nat × List Int)) : Pl (Q.map Prod.fst) (Q.length : Int) (qA Q) := by
  refine ⟨by rw [List.length_map], fun t y hy => ?_, fun k t hk => ?_⟩
  · rw [List.getElem?_map, qA_mem.1 hy]
    rfl
  · rw [List.getElem?_map] at hk
    cases e : Q[k]? with
    | none => rw [e] at hk; cases hk
    | some p =>
      rw [e] at hk
      obtain ⟨s, l⟩ := p
      have hs : s = t := by simpa using hk
      exact ⟨(k, l), qA_mem.2 (by rw [← hs]; exact e), rfl⟩
end Go.Proofs.Ytddnecfnjnipjaa

/-
  One act on a disk, exactly.
-/
namespace Go.Proofs.Ytddnecfnjnipjaa
open Go.RowKit Go.RwLone

/-- A disk's numbers, and what it holds. -/
structure St where
  x : Nums
  A : Nat → List (Nat × List Int)
  F : Nat → Option (List Int)

def readF (S : Nat) (i : Int) (s : St) : St := if (0 ≤ i ∧ i < S) ∧ s.x.off = false then ⟨{ s.x with rd := inc s.x.rd }, s.A, s.F⟩ else s
def writeF (S z : Nat) (i : Int) (n : Nat) (l : List Int) (s : St) : St :=
  if (0 ≤ i ∧ i < S) ∧ n = z then
    if s.x.off = true ∨ s.x.fuse = 0 then ⟨burnN s.x, s.A, s.F⟩
    else ⟨{ burnN s.x with pend := ((s.x.pend.toNat + 1 : Nat) : Int), wr := inc (burnN s.x).wr }, updT s.A i.toNat (s.A i.toNat ++ [(s.x.pend.toNat, l)]), s.F⟩
  else s
def flushF (s : St) : St := if s.x.off = true ∨ s.x.fuse = 0 then ⟨burnN s.x, s.A, s.F⟩ else ⟨{ burnN s.x with pend := 0, fl := inc (burnN s.x).fl }, fun _ => [], fun t => lastA (s.A t) (s.F t)⟩
def fuseF (n : Int) (s : St) : St := ⟨if s.x.off then s.x else { s.x with fuse := max n (-1) }, s.A, s.F⟩
def crashF (z : Nat) (kl : List Bool) (torn at_ : Int) (s : St) : St := ⟨{ s.x with pend := 0, fuse := -1, off := false, era := wrap64 (s.x.era + 1) }, fun _ => [], fun t => foldA z (keptN kl torn at_ z) (s.A t) (s.F t)⟩
def rotF (S z : Nat) (i at_ mask : Int) (s : St) : St :=
  if (0 ≤ i ∧ i < S) ∧ (0 ≤ at_ ∧ at_ < z) then ⟨s.x, updT s.A i.toNat ((s.A i.toNat).map fun y => (y.1, rotL at_.toNat mask y.2)), updT s.F i.toNat (some (rotL at_.toNat mask ((s.F i.toNat).getD (zs z))))⟩ else s
/-- How many bytes a written text has. -/
def wlen (z : Nat) (less : Int) : Nat := if 0 ≤ (z : Int) - less ∧ (z : Int) - less ≤ 8192 then ((z : Int) - less).toNat else 0
def actF (S z : Nat) (a : Ac) (kl : List Bool) (s : St) : St :=
  if a.kd = 1 then readF S a.nm s else if a.kd = 2 then writeF S z a.nm (wlen z a.less) (wrB a.fill z) s else if a.kd = 3 then flushF s else if a.kd = 4 then fuseF a.nm s else if a.kd = 6 then crashF z kl a.torn a.at_ s else if a.kd = 9 then rotF S z a.nm a.at_ a.mask s else s

/-- Behind an act. -/
structure PoE (w w' : World) (Bl : Nat → Prop) (p S z b : Nat) (s : St) : Prop where
  ch : Chg Bl w w'
  ex : ∃ Bl' : Nat → Prop, (∀ g, Bl' g → grB Bl w w' g) ∧ AB w' Bl' p S z (b + 1) s.x s.A s.F
  bd : -1 ≤ s.x.fuse ∧ s.x.fuse ≤ 9223372036854775807

section
variable {w w' : World} {Bl : Nat → Prop} {p S z b : Nat} {s : St}

theorem AB.low' {x : Nums} {A : Nat → List (Nat × List Int)} {F : Nat → Option (List Int)} (h : AB w Bl p S z b x A F) (t : Nat) (ht : S ≤ t) : A t = [] := by
  obtain ⟨m, c, kc, km, L, V, D, K, E, C, hd, hm, hc, hV, hK, hL, hA, hF⟩ := h.ex
  rw [← hA t]
  have : L t = [] := Classical.byContradiction fun e => by have := hd.dd.low t e; omega
  rw [this]
  rfl
theorem AB.pn {x : Nums} {A : Nat → List (Nat × List Int)} {F : Nat → Option (List Int)} (h : AB w Bl p S z b x A F) : ∃ pn : Nat, x.pend = pn := by
  obtain ⟨m, c, kc, km, L, V, D, K, E, C, hd, _⟩ := h.ex
  obtain ⟨n, hn, _⟩ := hd.dd.pn
  exact ⟨n, hn⟩
theorem AB.stay (h : AB w Bl p S z b s.x s.A s.F) (hf : -1 ≤ s.x.fuse ∧ s.x.fuse ≤ 9223372036854775807) : PoE w w Bl p S z b s :=
  ⟨Chg.refl _ _, ⟨Bl, fun _ h => .inl h, h.mono (Nat.le_succ b)⟩, hf⟩
theorem PoE.before {w0 : World} (h : PoE w0 w' Bl p S z b s) (k : Chg (fun _ => False) w w0) : PoE w w' Bl p S z b s := by
  obtain ⟨Bl', h1, h2⟩ := h.ex
  exact ⟨(k.mono (fun _ _ h => h.elim)).trans h.ch (fun _ h => .inl h), ⟨Bl', fun g hg => by
    rcases h1 g hg with e | ⟨e1, e2⟩
    · exact .inl e
    · exact .inr ⟨Nat.le_trans k.size e1, e2⟩, h2⟩, h.bd⟩

theorem AB.eRead (h : AB w Bl p S z b s.x s.A s.F) (hf : -1 ≤ s.x.fuse ∧ s.x.fuse ≤ 9223372036854775807) (hS : S ≤ 65536) (hz : z ≤ 4096) (hb : b < 4398046511104) (i : Int) :
    Calls Try.prog 44 #[.pointer (some ⟨p, 0, none⟩), .int .i64 i] w fun e w' => ∃ v, e = .returned v ∧ PoE w w' Bl p S z b (readF S i s) := by
  obtain ⟨m, c, kc, km, L, V, D, K, E, C, hd, q⟩ := h.ex
  unfold readF
  by_cases hi : 0 ≤ i ∧ i < S
  · obtain ⟨j, rfl⟩ : ∃ j : Nat, i = j := ⟨i.toNat, by omega⟩
    cases ho : s.x.off with
    | false =>
      rw [if_pos ⟨hi, rfl⟩]
      refine (h.read ho j (by omega) hS hz (by omega)).mono ?_
      rintro e w9 ⟨g, rfl, _, _, ch, h9⟩
      exact ⟨_, rfl, ch.mono (fun i _ e => by rw [e]; exact h.bp), ⟨Bl, fun _ h => .inl h, h9.mono (Nat.le_succ b)⟩, hf⟩
    | true =>
      rw [if_neg (fun e => by cases e.2)]
      refine (read_off hd.dd.row ho j (by omega) hS).mono ?_
      rintro e w9 ⟨rfl, hr, ch⟩
      exact ⟨_, rfl, ch.mono (fun i _ e => by rw [e]; exact h.bp), ⟨Bl, fun _ h => .inl h, ⟨⟨m, c, kc, km, L, V, D, K, E, C, hd.turn ch hr rfl (Nat.le_succ b), q⟩, h.bp, fun g hg => Nat.lt_of_lt_of_le (h.low g hg) ch.size, h.nb⟩⟩, hf⟩
  · rw [if_neg (fun e => hi e.1)]
    refine (read_sector hd.dd.row i hi).mono ?_
    rintro e w9 ⟨rfl, h9⟩
    subst h9
    exact ⟨_, rfl, h.stay hf⟩

theorem AB.eFlush (h : AB w Bl p S z b s.x s.A s.F) (hf : -1 ≤ s.x.fuse ∧ s.x.fuse ≤ 9223372036854775807) (hS : S ≤ 65536) (hb : b < 4398046511104) :
    Calls Try.prog 15 #[.pointer (some ⟨p, 0, none⟩)] w fun e w' => ∃ v, e = .returned v ∧ PoE w w' Bl p S z b (flushF s) := by
  obtain ⟨m, c, kc, km, L, V, D, K, E, C, hd, q⟩ := h.ex
  unfold flushF
  by_cases hx : s.x.off = true ∨ s.x.fuse = 0
  · rw [if_pos hx]
    obtain ⟨e1, e2⟩ := burn_no hx
    refine (hd.dd.flush_off hf.1 hf.2 e1).mono ?_
    rintro e w9 ⟨rfl, ch, h9⟩
    exact ⟨_, rfl, ch.mono (fun i _ e => by rw [e]; exact h.bp), ⟨Bl, fun _ h => .inl h, ⟨⟨m, c, kc, km, L, V, D, K, E, C, hd.turn ch h9.row (burnN_pend s.x) (Nat.le_succ b), q⟩, h.bp, fun g hg => Nat.lt_of_lt_of_le (h.low g hg) ch.size, h.nb.of_eq (burnN_pend s.x)⟩⟩, burnN_bd hf⟩
  · rw [if_neg hx]
    obtain ⟨e1, e2, e3⟩ := burn_yes hx
    refine (h.flush hS (by omega) hf.1 hf.2 e1).mono ?_
    rintro e w9 ⟨rfl, ch, h9⟩
    exact ⟨_, rfl, ch, ⟨_, fun _ h => h, h9.mono (Nat.le_succ b)⟩, burnN_bd hf⟩

theorem AB.eFuse (h : AB w Bl p S z b s.x s.A s.F) (hf : -1 ≤ s.x.fuse ∧ s.x.fuse ≤ 9223372036854775807) (n : Int) (hn1 : -9223372036854775808 ≤ n) (hn2 : n ≤ 9223372036854775807) :
    Calls Try.prog 14 #[.pointer (some ⟨p, 0, none⟩), .int .i64 n] w fun e w' => ∃ v, e = .returned v ∧ PoE w w' Bl p S z b (fuseF n s) := by
  obtain ⟨m, c, kc, km, L, V, D, K, E, C, hd, q⟩ := h.ex
  refine (fuse_any hd.dd.row n hn1 hn2).mono ?_
  rintro e w9 ⟨rfl, hr, ch⟩
  refine ⟨_, rfl, ch.mono (fun i _ e => by rw [e]; exact h.bp), ⟨Bl, fun _ h => .inl h, ⟨⟨m, c, kc, km, L, V, D, K, E, C, hd.turn ch hr ?_ (Nat.le_succ b), q⟩, h.bp, fun g hg => Nat.lt_of_lt_of_le (h.low g hg) ch.size, h.nb.of_eq ?_⟩⟩, ?_⟩
  · unfold fuseF
    dsimp only
    split <;> rfl
  · unfold fuseF
    dsimp only
    split <;> rfl
  · unfold fuseF
    dsimp only
    split
    · exact hf
    · simp only
      omega

theorem AB.eCrash (h : AB w Bl p S z b s.x s.A s.F) (hS : S ≤ 65536) (hz : z ≤ 4096) (hb : b < 4398046511104) {a : Option Addr} {n cN : Nat} {kl : List Bool} (hk : KB w a n kl) (hka : ∀ g o, 0 < n → a = some ⟨g, o, none⟩ → ¬ Bl g) (torn at_ : Int) :
    Calls Try.prog 29 #[.pointer (some ⟨p, 0, none⟩), .agg #[.slice a n cN, .int .i64 torn, .int .i64 at_]] w fun e w' => ∃ v, e = .returned v ∧ PoE w w' Bl p S z b (crashF z kl torn at_ s) := by
  refine (h.crash hS (by omega) hz hk hka torn at_).mono ?_
  rintro e w9 ⟨rfl, ch, h9⟩
  exact ⟨_, rfl, ch, ⟨_, fun _ h => h, h9.mono (Nat.le_succ b)⟩, ⟨by unfold crashF; simp, by unfold crashF; simp⟩⟩

theorem AB.eWrite (h : AB w Bl p S z b s.x s.A s.F) (hf : -1 ≤ s.x.fuse ∧ s.x.fuse ≤ 9223372036854775807) (hS : S ≤ 65536) (hz : z ≤ 4096) (hz0 : 0 < z) (hb : b < 4398046511104) (i : Int) {g n : Nat} {l : List Int} (hn : n ≤ 8192) (hs : n = z → Rw w g (bs l).toArray 5 ∧ l.length = z) (hg : g ≠ p) :
    Calls Try.prog 12 #[.pointer (some ⟨p, 0, none⟩), .int .i64 i, .slice (some ⟨g, 0, none⟩) n n] w fun e w' => ∃ v, e = .returned v ∧ PoE w w' Bl p S z b (writeF S z i n l s) := by
  obtain ⟨m, c, kc, km, L, V, D, K, E, C, hd, q⟩ := h.ex
  unfold writeF
  by_cases hi : (0 ≤ i ∧ i < S) ∧ n = z
  · rw [if_pos hi]
    obtain ⟨hi, rfl⟩ := hi
    obtain ⟨j, rfl⟩ : ∃ j : Nat, i = j := ⟨i.toNat, by omega⟩
    by_cases hx : s.x.off = true ∨ s.x.fuse = 0
    · rw [if_pos hx]
      obtain ⟨e1, e2⟩ := burn_no hx
      refine (hd.dd.write_off j (some ⟨g, 0, none⟩) n (by omega) hf.1 hf.2 e1).mono ?_
      rintro e w9 ⟨rfl, ch, h9⟩
      exact ⟨_, rfl, ch.mono (fun i _ e => by rw [e]; exact h.bp), ⟨Bl, fun _ h => .inl h, ⟨⟨m, c, kc, km, L, V, D, K, E, C, hd.turn ch h9.row (burnN_pend s.x) (Nat.le_succ b), q⟩, h.bp, fun g hg => Nat.lt_of_lt_of_le (h.low g hg) ch.size, h.nb.of_eq (burnN_pend s.x)⟩⟩, burnN_bd hf⟩
    · rw [if_neg hx]
      obtain ⟨e1, e2, e3⟩ := burn_yes hx
      obtain ⟨pn, hpn⟩ := h.pn
      obtain ⟨hr, hl⟩ := hs rfl
      refine (h.write (src_row hr hl) hl hz0 hz j (by omega) hS hb hf.1 hf.2 e1 (by simp [Value.ownBlock]; exact hg) hpn).mono ?_
      rintro e w9 ⟨rfl, ch, h9⟩
      rw [Int.toNat_natCast, hpn, Int.toNat_natCast]
      exact ⟨_, rfl, ch, ⟨_, fun _ h => h, h9⟩, burnN_bd hf⟩
  · rw [if_neg hi]
    refine (write_sector hd.dd.row i (some ⟨g, 0, none⟩) n n (by omega) (by omega)).mono ?_
    rintro e w9 ⟨rfl, h9⟩
    subst h9
    exact ⟨_, rfl, h.stay hf⟩

theorem AB.eRot (h : AB w Bl p S z b s.x s.A s.F) (hf : -1 ≤ s.x.fuse ∧ s.x.fuse ≤ 9223372036854775807) (hS : S ≤ 65536) (hz : z ≤ 4096) (hb : b < 4398046511104) (i at_ mask : Int) :
    Calls Try.prog 13 #[.pointer (some ⟨p, 0, none⟩), .int .i64 i, .int .i64 at_, .int .u8 mask] w fun e w' => ∃ v, e = .returned v ∧ PoE w w' Bl p S z b (rotF S z i at_ mask s) := by
  obtain ⟨m, c, kc, km, L, V, D, K, E, C, hd, hm, hc, hV, hK, hL, hA, hF⟩ := h.ex
  unfold rotF
  by_cases hi : (0 ≤ i ∧ i < S) ∧ (0 ≤ at_ ∧ at_ < z)
  · rw [if_pos hi]
    obtain ⟨hi, ha⟩ := hi
    obtain ⟨j, rfl⟩ : ∃ j : Nat, i = j := ⟨i.toNat, by omega⟩
    obtain ⟨q, rfl⟩ : ∃ q : Nat, at_ = q := ⟨at_.toNat, by omega⟩
    rw [Int.toNat_natCast, Int.toNat_natCast]
    refine (hd.rot hS (by omega) hz j (by omega) q (by omega) mask).mono ?_
    rintro e w9 ⟨rfl, ch, km', E', C', G', h9, hG, hl9, hk9, hls9, hG9⟩
    refine ⟨_, rfl, ch.mono (fun k _ e => ?_), ⟨grB Bl w w9, fun _ h => h, ⟨⟨m, c, kc, km', L, V, D, _, E', C', h9, .inl hm, .inl hc, fun t g hg => .inl (hV t g hg), fun t g hg => ?_, fun t y hy => .inl (hL t y hy), fun t => ?_, fun t => ?_⟩, .inl h.bp, fun g hg => ?_, ?_⟩⟩, hf⟩
    · rcases e with e | e | e | ⟨y, hy, e⟩
      · rw [e]; exact h.bp
      · rw [e]; exact hm
      · exact hK j k e
      · rw [← e]; exact hL j y hy
    · by_cases e : t = j
      · have hlt := (h9.kr t g hg).1.lt
        rw [e, updT_same] at hg
        injection hg with hg
        rcases hG with hG | hG
        · exact .inl (hK j g (by rw [← hg]; exact hG))
        · exact .inr ⟨by omega, hlt⟩
      · rw [updT_other _ _ e] at hg
        exact .inl (hK t g hg)
    · dsimp only
      by_cases e : t = j
      · rw [e, updT_same, ← hA j, List.map_map]
        exact List.map_congr_left (fun y hy => by rw [hls9 y hy]; rfl)
      · rw [updT_other _ _ e, ← hA t]
        exact List.map_congr_left (fun y hy => by rw [hl9 t e y hy])
    · dsimp only
      by_cases e : t = j
      · rw [e, updT_same, updT_same, ← hF j]
        show some (C' G') = _
        rw [hG9]
      · rw [updT_other _ _ e, updT_other _ _ e, ← hF t]
        cases hKt : K t with
        | none => rfl
        | some g => show some (C' g) = some (C g); rw [hk9 t e g hKt]
    · rcases hg with hg | hg
      · exact Nat.lt_of_lt_of_le (h.low g hg) ch.size
      · exact hg.2
    · refine h.nb.nums (fun t => ?_)
      dsimp only
      by_cases e : t = j
      · rw [e, updT_same, List.map_map]
        rfl
      · rw [updT_other _ _ e]
  · rw [if_neg hi]
    refine (rot_no hd.dd.row i at_ mask (by omega)).mono ?_
    rintro e w9 ⟨rfl, h9⟩
    subst h9
    exact ⟨_, rfl, h.stay hf⟩
end

end Go.Proofs.Ytddnecfnjnipjaa
