import Derived.Test.YtddnecfnjnipjaaGen
import Derived.Test.YtddnecfnjnipjaaLoadA
/-
  The reference's disk: its deeds in memory; has, burn, SetFuse.
-/
namespace Go.Proofs.Ytddnecfnjnipjaa
open Go.RowKit

/-- A deed: its sector; the block of its bytes, and its room; how many are laid; or a byte that is turned. -/
structure Dd where
  s : Nat
  g : Nat
  cp : Nat
  n : Nat
  turn : Bool
  at_ : Nat
  mask : Int

def Dd.bv (z : Nat) (d : Dd) : Value := if d.turn then .slice none 0 0 else .slice (some ⟨d.g, 0, none⟩) z d.cp
def Dd.cells (z : Nat) (d : Dd) : List Value := [.int .i64 d.s, d.bv z, .int .i64 d.n, .bool d.turn, .int .i64 d.at_, .int .u8 d.mask]
def dcs (z : Nat) (l : List Dd) : List Value := l.flatMap (Dd.cells z)
theorem dcs_len (z : Nat) (l : List Dd) : (dcs z l).length = l.length * 6 := by
  induction l with
  | nil => rfl
  | cons x l ih => simp only [dcs, List.flatMap_cons, List.length_append, List.length_cons] at ih ⊢; simp only [Dd.cells, List.length_cons, List.length_nil]; omega
theorem dcs_app (z : Nat) (l m : List Dd) : dcs z (l ++ m) = dcs z l ++ dcs z m := by simp [dcs]
theorem dcs_get (z : Nat) : ∀ (l : List Dd) (i : Nat) (d : Dd), l[i]? = some d → ∀ j v, (d.cells z)[j]? = some v → (dcs z l)[i * 6 + j]? = some v
  | [], i, d, h, _, _, _ => by simp at h
  | x :: l, 0, d, h, j, v, hv => by
    simp at h
    subst h
    have hj : j < 6 := (List.getElem?_eq_some_iff.1 hv).1
    show (x.cells z ++ dcs z l)[0 * 6 + j]? = some v
    rw [Nat.zero_mul, Nat.zero_add, List.getElem?_append_left (by show j < 6; exact hj)]
    exact hv
  | x :: l, i + 1, d, h, j, v, hv => by
    have h' : l[i]? = some d := by simpa using h
    have := dcs_get z l i d h' j v hv
    show (x.cells z ++ dcs z l)[(i + 1) * 6 + j]? = some v
    have hl : (x.cells z).length = 6 := rfl
    rw [List.getElem?_append_right (by rw [hl]; omega), hl]
    rw [← this]
    congr 1
    omega

/-- The numbers of the reference's disk. -/
structure RN where
  fused : Bool
  fuse : Int
  off : Bool
  rd : Int
  wr : Int
  fl : Int
  era : Int

def rrow (S z : Int) (dv cv : Value) (y : RN) : Array Value := #[.int .i64 S, .int .i64 z, .slice none 0 0, dv, cv, .bool y.fused, .int .i64 y.fuse, .bool y.off, .int .u64 y.rd, .int .u64 y.wr, .int .u64 y.fl, .int .i64 y.era]

/-- Nil, or a row of its own from its first place on. -/
theorem owns_form {w : World} {v : Value} {n k : Nat} {t : TypeId} {xs : List Value} (h : w.ownsRow 0 t k v n xs) : (v = .slice none 0 0 ∧ n = 0) ∨ ∃ g c, v = .slice (some ⟨g, 0, none⟩) n c := by
  rcases h.2 with ⟨e, h0⟩ | ⟨g, cap, cur, e, _⟩
  · exact .inl ⟨e, h0⟩
  · exact .inr ⟨g, cap, e⟩

set_option maxRecDepth 100000 in
set_option maxHeartbeats 1000000 in
theorem rhas_any {w : World} {q : Nat} {S z : Int} {dv cv : Value} {y : RN} (h : Rw w q (rrow S z dv cv y) 52) (i : Int) :
    Calls Try.prog 58 #[.pointer (some ⟨q, 0, none⟩), .int .i64 i] w fun e w' => e = .returned (.bool (decide (0 ≤ i ∧ i < S))) ∧ w = w' := by
  have h0 : w.cell? ⟨q, 0, none⟩ = some (.int .i64 S) := h.cell 0
  clear h
  by_cases h1 : 0 ≤ i
  · by_cases h2 : i < S
    · go_enter Try.func58, Try.ntmps58
      go_wp2_with fail
      go_ret
      exact ⟨by simp [h1, h2], rfl⟩
    · go_enter Try.func58, Try.ntmps58
      go_wp2_with fail
      go_ret
      exact ⟨by simp [h2], rfl⟩
  · go_enter Try.func58, Try.ntmps58
    go_wp2_with fail
    go_ret
    exact ⟨by simp; omega, rfl⟩

/-- What burn leaves, and what it answers. -/
def rbN (y : RN) : RN := if y.off then y else if y.fused = false then y else if y.fuse = 0 then { y with off := true } else { y with fuse := y.fuse - 1 }
def rbE (y : RN) : Bool := if y.off then false else if y.fused = false then true else if y.fuse = 0 then false else true

set_option maxRecDepth 100000 in
set_option maxHeartbeats 1000000 in
theorem rburn_any {w : World} {q : Nat} {S z : Int} {dv cv : Value} {y : RN} (h : Rw w q (rrow S z dv cv y) 52) (hf : y.fused = true → 0 ≤ y.fuse ∧ y.fuse ≤ 9223372036854775807) :
    Calls Try.prog 59 #[.pointer (some ⟨q, 0, none⟩)] w fun e w' => e = .returned (.bool (rbE y)) ∧ Rw w' q (rrow S z dv cv (rbN y)) 52 ∧ Chg (fun k => k = q) w w' := by
  obtain ⟨fused, fuse, off, rd, wr, fl, era⟩ := y
  simp only at hf
  have h5 : w.cell? ⟨q, 5, none⟩ = some (.bool fused) := h.cell 5
  have h6 : w.cell? ⟨q, 6, none⟩ = some (.int .i64 fuse) := h.cell 6
  have h7 : w.cell? ⟨q, 7, none⟩ = some (.bool off) := h.cell 7
  have f6 := h.fr 6
  have f7 := h.fr 7
  have H : Hid _ := h
  clear h
  cases off with
  | true =>
    clear hf
    go_enter Try.func59, Try.ntmps59
    go_wp2_with fail
    go_ret
    exact ⟨rfl, H.out, Chg.refl _ _⟩
  | false =>
    cases fused with
    | false =>
      clear hf
      go_enter Try.func59, Try.ntmps59
      go_wp2_with fail
      go_ret
      exact ⟨rfl, H.out, Chg.refl _ _⟩
    | true =>
      have hf := hf rfl
      by_cases h0 : fuse = 0
      · subst h0
        clear hf
        go_enter Try.func59, Try.ntmps59
        go_wp2_with fail
        go_ret
        exact ⟨rfl, Rw.set H.out 7 (.bool true), (Chg.refl (fun k => k = q) w).setCell (.inl rfl) _⟩
      · go_enter Try.func59, Try.ntmps59
        go_wp2_with fail
        go_ret
        refine ⟨by simp [rbE, h0], ?_, (Chg.refl (fun k => k = q) w).setCell (.inl rfl) _⟩
        have e : rbN ⟨true, fuse, false, rd, wr, fl, era⟩ = ⟨true, fuse - 1, false, rd, wr, fl, era⟩ := by simp [rbN, h0]
        rw [e]
        exact Rw.set H.out 6 (.int .i64 (fuse - 1))

def rfN (n : Int) (y : RN) : RN := if y.off then y else { y with fused := decide (0 ≤ n), fuse := n }

set_option maxRecDepth 100000 in
set_option maxHeartbeats 1000000 in
theorem rfuse_any {w : World} {q : Nat} {S z : Int} {dv cv : Value} {y : RN} (h : Rw w q (rrow S z dv cv y) 52) (n : Int) :
    Calls Try.prog 27 #[.pointer (some ⟨q, 0, none⟩), .int .i64 n] w fun e w' => e = .returned (.tuple #[]) ∧ Rw w' q (rrow S z dv cv (rfN n y)) 52 ∧ Chg (fun k => k = q) w w' := by
  obtain ⟨fused, fuse, off, rd, wr, fl, era⟩ := y
  have h7 : w.cell? ⟨q, 7, none⟩ = some (.bool off) := h.cell 7
  have h5 : w.cell? ⟨q, 5, none⟩ = some (.bool fused) := h.cell 5
  have f5 := h.fr 5
  have r5 := Rw.set h 5 (.bool (decide (0 ≤ n)))
  have h6 : (w.setCell ⟨q, 5, none⟩ (.bool (decide (0 ≤ n)))).cell? ⟨q, 6, none⟩ = some (.int .i64 fuse) := Rw.cell r5 6
  have f6 := Rw.fr r5 6
  have H : Hid _ := h
  have R5 : Hid _ := r5
  clear h r5
  cases off with
  | true =>
    go_enter Try.func27, Try.ntmps27
    go_wp2_with fail
    exact bodyPost_ret (results_none rfl _ _ _) rfl ⟨rfl, H.out, Chg.refl _ _⟩
  | false =>
    go_enter Try.func27, Try.ntmps27
    go_wp2_with fail
    go_end0
    exact ⟨rfl, Rw.set R5.out 6 (.int .i64 n), ((Chg.refl (fun k => k = q) w).setCell (.inl rfl) _).setCell (.inl rfl) _⟩
end Go.Proofs.Ytddnecfnjnipjaa

/-
  What Image has laid down while it ranges over the sectors.
-/
namespace Go.Proofs.Ytddnecfnjnipjaa
open Go.RowKit

/-- A sector's key. -/
def kI (n : Nat) : Lit := .int .i64 (n : Int)
/-- The image, where the sectors that are still to come are 0. -/
def img (T : List Int) (z S : Nat) (left : Lit → Bool) : List Int := (List.range (S * z)).map fun j => if left (kI (j / z)) then 0 else T.getD j 0
theorem img_len (T : List Int) (z S : Nat) (left : Lit → Bool) : (img T z S left).length = S * z := by simp [img]
theorem img_start (T : List Int) (z S : Nat) (left : Lit → Bool) (h : ∀ i : Nat, i < S → left (kI i) = true) : bs (img T z S left) = zer (S * z) := by
  unfold img bs zer
  rw [List.map_map]
  apply List.ext_getElem (by simp)
  intro j h1 h2
  have hj : j < S * z := by simpa using h1
  have := h (j / z) (Nat.div_lt_of_lt_mul (by rw [Nat.mul_comm]; exact hj))
  simp only [List.getElem_map, List.getElem_range, Function.comp, this, if_true, List.getElem_replicate]
theorem img_end (T : List Int) (z S : Nat) (left : Lit → Bool) (hT : T.length = S * z) (h : ∀ kl, left kl = false) : img T z S left = T := by
  unfold img
  apply List.ext_getElem (by simp [hT])
  intro j h1 h2
  simp [h, h2]
theorem sameKey_int (a i : Nat) : (kI a).sameKey (kI i) = decide (a = i) := by
  unfold kI
  by_cases h : a = i
  · subst h; simp [Lit.sameKey]
  · have : ¬ (a : Int) = (i : Int) := by omega
    simp [Lit.sameKey, h, this]
theorem img_step (T : List Int) (z S : Nat) (left : Lit → Bool) (hz : 0 < z) (hT : T.length = S * z) (i : Nat) (hi : i < S) :
    splice (bs (img T z S left)) (i * z) (bs (piece T z i)) = bs (img T z S (fun y => left y && !y.sameKey (kI i))) := by
  have hp := piece_len hT hi
  have h1 : (i + 1) * z ≤ S * z := Nat.mul_le_mul_right z hi
  rw [Nat.add_mul, Nat.one_mul] at h1
  have e : splice (bs (img T z S left)) (i * z) (bs (piece T z i)) = bs (splice (img T z S left) (i * z) (piece T z i)) := by simp [splice, bs]
  rw [e]
  congr 1
  apply List.ext_getElem?
  intro j
  unfold splice
  have hil := img_len T z S left
  have hlen : (List.take (i * z) (img T z S left)).length = i * z := by rw [List.length_take, hil, Nat.min_eq_left (by omega)]
  by_cases a : j < i * z
  · rw [List.getElem?_append_left (by rw [hlen]; exact a), List.getElem?_take_of_lt a]
    have hne : ¬ j / z = i := by
      intro e2
      have := Nat.div_mul_le_self j z
      have h3 := Nat.lt_mul_of_div_lt (a := j) (b := i + 1) (c := z) (by omega) hz
      have h4 : i * z ≤ j := by rw [← e2]; exact this
      omega
    have hj : j < S * z := by omega
    simp [img, hj, sameKey_int, hne]
  · rw [List.getElem?_append_right (by rw [hlen]; omega), hlen]
    by_cases b : j < i * z + z
    · rw [List.getElem?_append_left (by omega)]
      have hd : j / z = i := by
        have : j = (j - i * z) + i * z := by omega
        rw [this, Nat.add_mul_div_right _ _ hz, Nat.div_eq_of_lt (by omega)]
        omega
      have hj : j < S * z := by omega
      have hjT : j < T.length := by omega
      have hq : j - i * z < z := by omega
      simp [img, hj, sameKey_int, hd, piece, hq, show i * z + (j - i * z) = j by omega, List.getElem?_eq_getElem hjT]
    · rw [List.getElem?_append_right (by omega), List.getElem?_drop, hp]
      rw [show i * z + z + (j - i * z - z) = j by omega]
      have hne : ¬ j / z = i := by
        intro e2
        have h3 := Nat.lt_mul_div_succ j hz
        rw [e2, Nat.mul_comm, Nat.add_mul, Nat.one_mul] at h3
        omega
      by_cases hj : j < S * z
      · simp [img, hj, sameKey_int, hne]
      · rw [List.getElem?_eq_none (by omega), List.getElem?_eq_none (by rw [img_len]; omega)]
end Go.Proofs.Ytddnecfnjnipjaa

/-
  The cache: a map from sectors to slices of writes; a write more.
-/
namespace Go.Proofs.Ytddnecfnjnipjaa
open Go.RowKit

/-- A slice of writes as a datum. -/
def enc : Value → DataW Unit
  | .slice (some ⟨g, 0, none⟩) n c => .agg [.lit (.int .i64 g), .lit (.int .i64 n), .lit (.int .i64 c)]
  | _ => .nil
def anyElem : Value → Option (DataW Unit × List MemPlace)
  | .slice none 0 0 => some (.nil, [])
  | .slice (some ⟨g, 0, none⟩) n c => some (.agg [.lit (.int .i64 g), .lit (.int .i64 n), .lit (.int .i64 c)], [])
  | _ => none
/-- Nil, or a row of its own from its first place on. -/
def Flat (v : Value) : Prop := v = .slice none 0 0 ∨ ∃ g n c, v = .slice (some ⟨g, 0, none⟩) n c
theorem anyElem_mk {v : Value} (h : Flat v) : anyElem v = some (enc v, []) := by
  rcases h with rfl | ⟨g, n, c, rfl⟩ <;> rfl
theorem anyElem_inv {v u : Value} {ps : List MemPlace} (hu : Flat u) (h : anyElem v = some (enc u, ps)) : v = u := by
  unfold anyElem at h
  rcases hu with rfl | ⟨g, n, c, rfl⟩
  · split at h
    · rfl
    · simp [enc] at h
    · cases h
  · split at h
    · simp [enc] at h
    · simp [enc] at h
      obtain ⟨⟨h1, h2, h3⟩, _⟩ := h
      have e1 := Int.ofNat_inj.1 h1
      have e2 := Int.ofNat_inj.1 h2
      have e3 := Int.ofNat_inj.1 h3
      rw [e1, e2, e3]
    · cases h

/-- The cells of writes: each its number and its bytes, which lie in a block of their own. -/
def wcell (z : Nat) (x : Nat × Nat) : List Value := [.int .i64 x.1, .slice (some ⟨x.2, 0, none⟩) z z]
def wcells (z : Nat) (l : List (Nat × Nat)) : List Value := l.flatMap (wcell z)
theorem wcells_len (z : Nat) (l : List (Nat × Nat)) : (wcells z l).length = l.length * 2 := by
  induction l with
  | nil => rfl
  | cons x l ih => simp only [wcells, List.flatMap_cons, List.length_append, List.length_cons] at ih ⊢; simp only [wcell, List.length_cons, List.length_nil]; omega
theorem wcells_app (z : Nat) (l m : List (Nat × Nat)) : wcells z (l ++ m) = wcells z l ++ wcells z m := by simp [wcells]

/-- The cache: sector s has the writes L s, in the slice V s. -/
structure Ca (w : World) (c k z : Nat) (L : Nat → List (Nat × Nat)) (V : Nat → Value) (D : DataW Unit) : Prop where
  own : w.ownsMap Try.prog 3 anyElem c k D
  at_ : ∀ s, D.atKey (kI s) .nil = enc (V s)
  has : ∀ kl, Maps.has D kl = true ↔ ∃ s, kl = kI s ∧ L s ≠ []
  row : ∀ s, w.ownsRow 0 90 2 (V s) (L s).length (wcells z (L s))
  ne : ∀ s t, s ≠ t → ∀ g, (V s).ownBlock = some g → (V t).ownBlock ≠ some g

theorem Ca.flat {w : World} {c k z : Nat} {L : Nat → List (Nat × Nat)} {V : Nat → Value} {D : DataW Unit} (h : Ca w c k z L V D) (s : Nat) : Flat (V s) := by
  rcases (h.row s).2 with ⟨e, _⟩ | ⟨g, cap, cur, e, _⟩
  · exact .inl e
  · exact .inr ⟨g, _, cap, e⟩
theorem Ca.lookup {w : World} {c k z : Nat} {L : Nat → List (Nat × Nat)} {V : Nat → Value} {D : DataW Unit} (h : Ca w c k z L V D) (s : Nat) (hs : s ≤ 65536) : (Instr.lookup 81 (.map (some c)) (.int .i64 s) false).run Try.prog w = .ok (V s) w := by
  have hwf : (Lit.int .i64 (s : Int)).wf = true := WalkArith.wf_i64 (by omega)
  obtain ⟨v, ps, h1, h2⟩ := h.own.lookup (t := 81) (e := 88) keyed3 Try.underlying81 (z := .slice none 0 0) (by kernel_rfl) (zd := .nil) (zp := []) rfl (Maps.keyOf_int_mk Try.underlying3 hwf)
  have e := h.at_ s
  unfold kI at e
  rw [e] at h2
  rw [h1, anyElem_inv (h.flat s) h2]
theorem Ca.none {w : World} {c z : Nat} (h : w.heap[c]? = some (.map #[] 0)) : Ca w c 0 z (fun _ => []) (fun _ => .slice none 0 0) (.map []) :=
  ⟨⟨#[], 0, h, ⟨by simp, MapKept.stamped_empty 0, by simp⟩, Nat.le_refl _, rfl⟩, fun _ => rfl, fun kl => by simp [Maps.has], fun _ => World.ownsRow_nil w 0 90 2, fun _ _ _ g hg => by simp [Value.ownBlock] at hg⟩

theorem ownsRow_kept {w w' : World} {v : Value} {n : Nat} {xs : List Value} (h : w.ownsRow 0 90 2 v n xs) {row : Option Nat} (g : w.grownBy w' row) (hn : ∀ k, v.ownBlock = some k → some k ≠ row) : w'.ownsRow 0 90 2 v n xs := by
  refine ⟨h.1, ?_⟩
  rcases h.2 with e | ⟨b, cap, cur, rfl, hb, hgg, rest⟩
  · exact .inl e
  · exact .inr ⟨b, cap, cur, rfl, hb, (g.block b (Array.getElem?_eq_some_iff.1 hgg).1 (hn b rfl)).trans hgg, rest⟩
theorem Ca.kept {w w' : World} {c k z : Nat} {L : Nat → List (Nat × Nat)} {V : Nat → Value} {D : DataW Unit} (h : Ca w c k z L V D) {row : Option Nat} (g : w.grownBy w' row) (hc : some c ≠ row) (hn : ∀ s b, (V s).ownBlock = some b → some b ≠ row) : Ca w' c k z L V D :=
  ⟨h.own.kept g hc, h.at_, h.has, fun s => ownsRow_kept (h.row s) g (hn s), h.ne⟩

theorem info93 : (Try.prog.info? 90).map (fun i => (i.zero, i.size, i.bytes)) = some (some (.agg #[.int .i64 0, .slice none 0 0]), 2, 32) := by kernel_rfl

/-- A write more: the append, then the store into the map. -/
theorem Ca.more {w : World} {c k z : Nat} {L : Nat → List (Nat × Nat)} {V : Nat → Value} {D : DataW Unit} (h : Ca w c k z L V D) (s : Nat) (hs : s ≤ 65536) (x : Nat × Nat) (a : Addr) (cp ty : Nat) (ha : ∀ j u, (wcell z x)[j]? = some u → w.cell? (a.add j) = some u) (hlen : (L s).length + 1 ≤ 4398046511104) (hk : k ≤ 4398046511104) :
    ∃ v' w1 w2, (Builtin.append_ #[88, 88] ty #[V s, .slice (some a) 1 cp]).run Try.prog w = .ok v' w1 ∧ (Instr.mapUpdate 81 (.map (some c)) (.int .i64 s) v').run Try.prog w1 = .ok () w2 ∧
      (∃ D', Ca w2 c (k + 1) z (fun t => if t = s then L s ++ [x] else L t) (fun t => if t = s then v' else V t) D') ∧ w.grownBy w1 (V s).ownBlock ∧ w1.grownBy w2 (some c) ∧ (v'.ownBlock = (V s).ownBlock ∨ v'.ownBlock = some w.heap.size) := by
  obtain ⟨i0, hi, hz0, hz1, hz2⟩ := info_parts info93
  obtain ⟨v', w1, h1, h2, h3, h4, h5⟩ := run_append_own_at (P := Try.prog) w 0 88 ty 90 i0 _ 2 32 Try.underlying88 hi hz0 hz1 hz2 rfl (by decide) (V s) (L s).length (wcells z (L s)) (h.row s) a 1 cp (wcell z x) rfl ha (by
    intro u hu
    simp only [wcell, List.mem_cons, List.not_mem_nil, or_false] at hu
    rcases hu with rfl | rfl <;> rfl) (by unfold maxLen; omega) (by omega) (Nat.zero_le _)
  have hcne : some c ≠ (V s).ownBlock := by
    intro e
    obtain ⟨es, cl, hm, _⟩ := h.own
    rcases (h.row s).2 with ⟨e2, _⟩ | ⟨g, cap, cur, e2, _, hgg, _⟩
    · rw [e2] at e; simp [Value.ownBlock] at e
    · rw [e2] at e
      simp [Value.ownBlock] at e
      rw [← e, hm] at hgg
      cases hgg
  have own1 := h.own.kept h3 hcne
  have hwf : (Lit.int .i64 (s : Int)).wf = true := WalkArith.wf_i64 (by omega)
  have hflat : Flat v' := by
    rcases h2.2 with ⟨e, _⟩ | ⟨g, cap, cur, e, _⟩
    · exact .inl e
    · exact .inr ⟨g, _, cap, e⟩
  obtain ⟨w2, g1, g2, g3⟩ := own1.update (t := 81) (e := 88) keyed3 Try.underlying81 (by unfold maxLen; omega) (Maps.keyOf_int_mk Try.underlying3 hwf) (anyElem_mk hflat)
  have hM : Maps.IsMap D := h.own.isMap
  have hkey : WideAt.IsKeyLit (.int .i64 (s : Int)) := trivial
  have clt : c < w.heap.size := h.own.lt
  have hblk : ∀ t, some c ≠ (V t).ownBlock := by
    intro t e
    obtain ⟨es, cl, hm, _⟩ := h.own
    rcases (h.row t).2 with ⟨e2, _⟩ | ⟨g, cap, cur, e2, _, hgg, _⟩
    · rw [e2] at e; simp [Value.ownBlock] at e
    · rw [e2] at e
      simp [Value.ownBlock] at e
      rw [← e, hm] at hgg
      cases hgg
  have hlt : ∀ t g, (V t).ownBlock = some g → g < w.heap.size := by
    intro t g hg
    rcases (h.row t).2 with ⟨e2, _⟩ | ⟨b, cap, cur, e2, _, hgg, _⟩
    · rw [e2] at hg; simp [Value.ownBlock] at hg
    · rw [e2] at hg
      simp [Value.ownBlock] at hg
      rw [← hg]
      exact (Array.getElem?_eq_some_iff.1 hgg).1
  have hv'c : ∀ b, v'.ownBlock = some b → some b ≠ some c := by
    intro b hb e
    injection e with e
    rcases h5 with e5 | e5
    · exact hblk s (by rw [← e5, hb, e])
    · rw [hb] at e5; injection e5 with e5; omega
  refine ⟨v', w1, w2, h1, g1, ⟨_, ⟨g2, fun t => ?_, fun kl => ?_, fun t => ?_, fun t u htu g hg => ?_⟩⟩, h3, g3, h5⟩
  · by_cases e : t = s
    · subst e
      show (D.put (.int .i64 (t : Int)) (enc v')).atKey (.int .i64 (t : Int)) .nil = _
      rw [Maps.atKey_put_same hM hkey, if_pos rfl]
    · rw [Maps.atKey_put_other (by unfold kI; intro e2; injection e2 with _ e2; omega), if_neg e]
      exact h.at_ t
  · by_cases e : kl = .int .i64 (s : Int)
    · subst e
      rw [Maps.has_put_same hM hkey]
      exact ⟨fun _ => ⟨s, rfl, by simp⟩, fun _ => rfl⟩
    · rw [Maps.has_put_other e, h.has kl]
      constructor
      · rintro ⟨t, rfl, ht⟩
        exact ⟨t, rfl, by rw [if_neg (fun e2 => e (by rw [e2]; rfl))]; exact ht⟩
      · rintro ⟨t, rfl, ht⟩
        have hts : ¬ t = s := fun e2 => e (by rw [e2]; rfl)
        rw [if_neg hts] at ht
        exact ⟨t, rfl, ht⟩
  · by_cases e : t = s
    · subst e
      simp only [if_pos]
      have := ownsRow_kept h2 g3 hv'c
      rw [wcells_app, List.length_append]
      simpa [wcells] using this
    · simp only [if_neg e]
      exact ownsRow_kept (ownsRow_kept (h.row t) h3 (fun b hb e2 => h.ne t s e b hb e2.symm)) g3 (fun b hb e2 => hblk t (by rw [hb, e2]))
  · by_cases e : t = s
    · have e' : ¬ u = s := fun e2 => htu (by rw [e, e2])
      simp only [if_pos e, if_neg e'] at hg ⊢
      intro hu
      rcases h5 with e5 | e5
      · exact h.ne s u (fun e2 => e' e2.symm) g (by rw [← e5]; exact hg) hu
      · rw [hg] at e5
        injection e5 with e5
        have := hlt u g hu
        omega
    · simp only [if_neg e] at hg
      by_cases e' : u = s
      · simp only [if_pos e']
        intro hu
        rcases h5 with e5 | e5
        · exact h.ne t s e g hg (by rw [← e5]; exact hu)
        · rw [hu] at e5
          injection e5 with e5
          have := hlt t g hg
          omega
      · simp only [if_neg e']
        exact h.ne t u htu g hg
end Go.Proofs.Ytddnecfnjnipjaa
