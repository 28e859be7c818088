/-
  A script of turns that came in, opened; and its bulk.
-/
import Derived.Test.YtpkcabbfblhekaaSmall
import Derived.ProofKit
import Derived.OpenShut
import Derived.ChangeSlices
import Derived.JoinedCond
import Derived.Deep.SlicePairs
namespace Go.Proofs.Ytpkcabbfblhekaa
open Go.ChangeShapes Go.WideShapes Go.ChangeAt Go.RowKit

theorem own : ownKnob Try.prog.godebug = none := by kernel_rfl
theorem laidOut : laidOutB Try.prog = true := by kernel_rfl
theorem Try.cells3 : Try.prog.cellsOf 3 = 1 := by kernel_rfl
theorem Try.cells26 : Try.prog.cellsOf 26 = 2 := by kernel_rfl
theorem Try.cells28 : Try.prog.cellsOf 28 = 1 := by kernel_rfl
theorem Try.cells30 : Try.prog.cellsOf 30 = 3 := by kernel_rfl

theorem bulk_pos {H : Type} (d : DataW H) : 1 ≤ Rows.uptoBulk d := by
  cases d with
  | lit l => cases l <;> simp [Rows.uptoBulk]
  | nil => simp [Rows.uptoBulk]
  | ptr d => simp [Rows.uptoBulk]
  | slice elems spare => simp [Rows.uptoBulk]
  | agg parts => simp [Rows.uptoBulk]
  | iface t d => simp [Rows.uptoBulk]
  | map entries => simp [Rows.uptoBulk]
  | held h => simp [Rows.uptoBulk]
theorem bulk_len {H : Type} (l : List (DataW H)) : l.length ≤ Rows.uptoBulkAll l := by
  induction l with
  | nil => simp [Rows.uptoBulkAll]
  | cons x r ih => have := bulk_pos x; simp only [Rows.uptoBulkAll, List.length_cons]; omega
theorem bulk_mem {H : Type} {d : DataW H} {l : List (DataW H)} (h : d ∈ l) : Rows.uptoBulk d ≤ Rows.uptoBulkAll l := by
  induction l with
  | nil => cases h
  | cons x r ih =>
    simp only [Rows.uptoBulkAll]
    rcases List.mem_cons.1 h with rfl | h
    · omega
    · have := ih h; omega
theorem bulk_app {H : Type} (l r : List (DataW H)) : Rows.uptoBulkAll (l ++ r) = Rows.uptoBulkAll l + Rows.uptoBulkAll r := by
  induction l with
  | nil => simp [Rows.uptoBulkAll]
  | cons x l ih => simp only [List.cons_append, Rows.uptoBulkAll, ih]; omega

section
variable {H : Type} {enc : TypeId × Value → H} {W : World} {sp : Nat → Bool} {held : Bool} {fuel : Nat} {cs : List Value} {x : DataW H × List MemPlace}

theorem op_things (h : DataW.trod enc Try.prog W 0 sp held fuel 28 cs = some x) : ∃ (v : Value) (l : List (Int × Int)), cs = [v] ∧ Ths W v l ∧ l.length + 1 ≤ Rows.uptoBulk x.1 := by
  rcases Go.Deep.open_slice_pairs Try.underlying28 Try.underlying26 Try.cells26 rfl rfl Try.cells3 Try.cells3 h with ⟨rfl, rfl⟩ | ⟨a, len, cap, m, n, V0, V1, D0, D1, P0, P1, rfl, _, hl, _, hm, rfl, hc⟩
  · exact ⟨_, [], rfl, .inl ⟨rfl, rfl⟩, bulk_pos _⟩
  · have hlm : len ≤ m := by rw [hm]; split <;> omega
    have key : ∀ i, (hi : i < len) → ∃ z : Int × Int, V0 i = .int .i64 z.1 ∧ V1 i = .int .i64 z.2 := by
      intro i hi
      obtain ⟨_, _, h1, h2⟩ := hc i (by omega)
      obtain ⟨n0, e0, _, _⟩ := DataW.trod_int Try.underlying3 h1
      obtain ⟨n1, e1, _, _⟩ := DataW.trod_int Try.underlying3 h2
      exact ⟨(n0, n1), by injection e0, by injection e1⟩
    let l : List (Int × Int) := (List.range len).map fun i => if hi : i < len then Classical.choose (key i hi) else (0, 0)
    have hll : l.length = len := by simp [l]
    refine ⟨_, l, rfl, ?_, ?_⟩
    · by_cases h0 : len = 0
      · subst h0
        have hl0 : l = [] := List.eq_nil_of_length_eq_zero hll
        rw [hl0]
        exact .inr (.inl ⟨a, cap, rfl, rfl⟩)
      · have hs : a.spot = none := by
          have h1 := (hc 0 (by omega)).1
          simpa [Addr.add] using World.cell?_spot h1
        obtain ⟨b, o, s⟩ := a
        simp only at hs
        subst hs
        refine .inr (.inr ⟨b, o, cap, by rw [hll], fun i z hz => ?_⟩)
        have hi : i < len := by have := (List.getElem?_eq_some_iff.1 hz).1; omega
        obtain ⟨h1, h2, _, _⟩ := hc i (by omega)
        have hz' : Classical.choose (key i hi) = z := by
          have : l[i]? = some (Classical.choose (key i hi)) := by simp [l, hi]
          rw [this] at hz; injection hz
        have hsp := Classical.choose_spec (key i hi)
        rw [hz'] at hsp
        rw [addr_add] at h1
        rw [addr_add, ← Nat.add_assoc] at h2
        exact ⟨by rw [h1, hsp.1], by rw [h2, hsp.2]⟩
    · simp only [Rows.uptoBulk]
      have := bulk_len (H := H) ((List.range len).map fun i => .agg [D0 i, D1 i])
      simp only [List.length_map, List.length_range] at this
      rw [hll]
      omega

theorem op_turn (h : DataW.trod enc Try.prog W 0 sp held fuel 30 cs = some x) : ∃ s : Tn, cs = [.int .i64 s.kind, .int .i64 s.which, s.s] ∧ Ths W s.s s.l ∧ s.l.length + 1 ≤ Rows.uptoBulk x.1 := by
  obtain ⟨xs, m, _, rfl, hl, hxs, hel⟩ := DataW.trod_struct Try.underlying30 h
  have hxs : xs.length = 3 := hxs
  rw [Try.cells30] at hl
  have g : ∀ i, (h : i < 3) → xs[i]? = some (xs[i]'(by omega)) := fun i h => List.getElem?_eq_getElem (by omega)
  have e0 : DataW.trod enc Try.prog W 0 sp held m 3 ((cs.drop 0).take (Try.prog.cellsOf 3)) = xs[0]? := hel 0 _ rfl
  have e1 : DataW.trod enc Try.prog W 0 sp held m 3 ((cs.drop 1).take (Try.prog.cellsOf 3)) = xs[1]? := hel 1 _ rfl
  have e2 : DataW.trod enc Try.prog W 0 sp held m 28 ((cs.drop 2).take (Try.prog.cellsOf 28)) = xs[2]? := hel 2 _ rfl
  rw [Try.cells3, List.drop_zero] at e0
  rw [Try.cells3] at e1
  rw [Try.cells28] at e2
  rw [g 0 (by omega)] at e0
  rw [g 1 (by omega)] at e1
  rw [g 2 (by omega)] at e2
  obtain ⟨n0, c0, _, _⟩ := DataW.trod_int Try.underlying3 e0
  obtain ⟨n1, c1, _, _⟩ := DataW.trod_int Try.underlying3 e1
  obtain ⟨v, l, c2, hth, hbl⟩ := op_things e2
  refine ⟨⟨n0, n1, v, l⟩, ?_, hth, ?_⟩
  · have h3 : ∀ (ys : List Value), ys.length = 3 → ys.take 1 = [.int .i64 n0] → (ys.drop 1).take 1 = [.int .i64 n1] → (ys.drop 2).take 1 = [v] → ys = [.int .i64 n0, .int .i64 n1, v] := by
      intro ys hl h0 h1 h2
      match ys, hl with
      | [y0, y1, y2], _ =>
        simp at h0 h1 h2
        rw [h0, h1, h2]
    exact h3 cs hl c0 c1 c2
  · have hm : (xs[2]'(by omega)).1 ∈ xs.map (·.1) := List.mem_map.2 ⟨_, List.getElem_mem _, rfl⟩
    have := bulk_mem hm
    simp only [Rows.uptoBulk]
    show l.length + 1 ≤ _
    omega

/-- How much the first k turns may put in. -/
def budOf (st : Nat → Tn) : Nat → Nat
  | 0 => 0
  | k + 1 => budOf st k + (st k).l.length + 1

theorem op_script (h : DataW.trod enc Try.prog W 0 sp held fuel 22 cs = some x) (hb : Rows.uptoBulk x.1 ≤ 1048576) : ∃ (a : Option Addr) (N c : Nat) (st : Nat → Tn), cs = [.slice a N c] ∧ Scr W a N st (budOf st) := by
  rcases DataW.trod_slice Try.underlying22 h with ⟨rfl, _⟩ | ⟨a, len, cap, elems, rest, n, _, rfl, rfl, _, _, _, hlen, hel, _, _⟩
  · exact ⟨none, 0, 0, fun _ => ⟨0, 0, .slice none 0 0, []⟩, rfl, ⟨fun i hi => by omega, fun i hi => by omega, fun i hi => by omega, rfl, fun i hi => by (obtain rfl : i = 0 := by omega); simp [budOf], by omega⟩⟩
  · have cells : ∀ i, (hi : i < len) → ∃ cs', W.cells? 0 (a.add (i * 3)) 3 = some cs' ∧ DataW.trod enc Try.prog W 0 sp held n 30 cs' = some (elems[i]'(by omega)) := by
      intro i hi
      have e := hel i hi
      rw [List.getElem?_eq_getElem (by omega), Option.bind_eq_some_iff] at e
      obtain ⟨cs', hcs, ht⟩ := e
      rw [Try.cells30] at hcs
      exact ⟨cs', hcs, ht⟩
    have spot : 0 < len → a.spot = none := by
      intro h0
      obtain ⟨cs', hcs, ht⟩ := cells 0 h0
      obtain ⟨_, hl, hc⟩ := World.cells?_some hcs
      have h1 := hc 0 (by omega)
      rw [List.getElem?_eq_getElem (by omega)] at h1
      simpa [Addr.add] using World.cell?_spot h1
    have key : ∀ i, (hi : i < len) → ∃ s : Tn, (∃ g o, some a = some ⟨g, o, none⟩ ∧ W.cell? ⟨g, o + i * 3, none⟩ = some (.int .i64 s.kind) ∧ W.cell? ⟨g, o + i * 3 + 1, none⟩ = some (.int .i64 s.which) ∧ W.cell? ⟨g, o + i * 3 + 2, none⟩ = some s.s) ∧ Ths W s.s s.l ∧ s.l.length + 1 ≤ Rows.uptoBulk (elems[i]'(by omega)).1 := by
      intro i hi
      obtain ⟨cs', hcs, ht⟩ := cells i hi
      obtain ⟨s, rfl, h1, h2⟩ := op_turn ht
      obtain ⟨_, hl, hc⟩ := World.cells?_some hcs
      refine ⟨s, ?_, h1, h2⟩
      have hs := spot (by omega)
      obtain ⟨g, o, sp'⟩ := a
      simp only at hs
      subst hs
      have k0 := hc 0 (by omega)
      have k1 := hc 1 (by omega)
      have k2 := hc 2 (by omega)
      rw [addr_add, addr_add] at k0 k1 k2
      exact ⟨g, o, rfl, k0, k1, k2⟩
    let dflt : Tn := ⟨0, 0, .slice none 0 0, []⟩
    let st : Nat → Tn := fun i => if h : i < len then Classical.choose (key i h) else dflt
    have hst : ∀ i, (h : i < len) → st i = Classical.choose (key i h) := fun i h => by show (if h : i < len then _ else _) = _; rw [dif_pos h]
    have spec : ∀ i, (hi : i < len) → (∃ g o, some a = some ⟨g, o, none⟩ ∧ W.cell? ⟨g, o + i * 3, none⟩ = some (.int .i64 (st i).kind) ∧ W.cell? ⟨g, o + i * 3 + 1, none⟩ = some (.int .i64 (st i).which) ∧ W.cell? ⟨g, o + i * 3 + 2, none⟩ = some (st i).s) ∧ Ths W (st i).s (st i).l ∧ (st i).l.length + 1 ≤ Rows.uptoBulk (elems[i]'(by omega)).1 := by
      intro i hi
      rw [hst i hi]
      exact Classical.choose_spec (key i hi)
    have hbul : Rows.uptoBulkAll (elems.map (·.1)) ≤ 1048576 := by
      simp only [Rows.uptoBulk] at hb
      omega
    have bud : ∀ k, k ≤ len → budOf st k ≤ Rows.uptoBulkAll ((elems.map (·.1)).take k) := by
      intro k
      induction k with
      | zero => intro _; simp [budOf]
      | succ k ih =>
        intro hk
        have h1 := ih (by omega)
        have h2 := (spec k (by omega)).2.2
        rw [List.take_succ_eq_append_getElem (by simp; omega), bulk_app]
        simp only [budOf, Rows.uptoBulkAll, List.getElem_map]
        omega
    refine ⟨some a, len, cap, st, rfl, ⟨fun i hi => (spec i hi).1, fun i hi => (spec i hi).2.1, fun i _ => rfl, rfl, fun i hi => ?_, ?_⟩⟩
    · have h1 := bud i hi
      have h2 := bulk_app ((elems.map (·.1)).take i) ((elems.map (·.1)).drop i)
      rw [List.take_append_drop] at h2
      omega
    · have := bulk_len (elems.map (·.1))
      rw [List.length_map] at this
      omega
end
end Go.Proofs.Ytpkcabbfblhekaa
