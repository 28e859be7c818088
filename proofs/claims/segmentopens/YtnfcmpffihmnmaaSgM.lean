/-
  pdqsort's round, as letters: what each step makes of the row.
-/
import Derived.Test.YtnfcmpffihmnmaaSgB
import Derived.Test.YtnfcmpffihmnmaaSgD
import Derived.Test.YtnfcmpffihmnmaaSgE
import Derived.Test.YtnfcmpffihmnmaaSgG
import Derived.Test.YtnfcmpffihmnmaaSgI
import Derived.Test.YtnfcmpffihmnmaaSgJ
import Derived.Test.YtnfcmpffihmnmaaSgK
import Derived.Test.YtnfcmpffihmnmaaSgL
import Derived.Sort.Walk13a
namespace Go.Proofs.Ytnfcmpffihmnmaa
open Go.RowKit

/-- The row is e now; since w0 nothing else has turned. -/
def PS (w0 : World) (g n : Nat) (e : Array Int) (w : World) : Prop := RU w g e ∧ e.size = n ∧ Chg (fun k => k = g) w0 w

section
variable {w0 w w' : World} {g n cap : Nat} {e e' : Array Int}
theorem PS.next (h : PS w0 g n e w) (r : RU w' g e') (s : e'.size = n) (c : Chg (fun k => k = g) w w') : PS w0 g n e' w' := ⟨r, s, h.2.2.trans c (fun _ e => .inl e)⟩
theorem PS.drewN (h : PS w0 g n e w) (m : Nat) : PS w0 g n e (w.drewN m) := ⟨h.1.drewN m, h.2.1, ⟨h.2.2.os, h.2.2.tape, h.2.2.output, h.2.2.size, h.2.2.block⟩⟩
theorem PS.of (h : PS w0 g n e w) (k : PS w g n e' w') : PS w0 g n e' w' := h.next k.1 k.2.1 k.2.2
theorem PS.ins (h : PS w0 g n e w) (hn : n < 65536) {a b : Nat} (hab : a ≤ b) (hb : b ≤ n) (he : Sort.insertionSort ltI e a b = e') :
    Calls Try.prog 34 #[.slice (some ⟨g, 0, none⟩) n cap, .int .i64 a, .int .i64 b] w fun r w' => r = .returned (.tuple #[]) ∧ PS w0 g n e' w' :=
  Calls.mono (ins_any h.1 h.2.1 (by omega) a b hb (by omega)) (fun _ _ k => ⟨k.1, he ▸ h.next k.2.1 k.2.2.1 k.2.2.2⟩)
theorem PS.heap (h : PS w0 g n e w) (hn : n < 65536) {a b : Nat} (hab : a < b) (hb : b ≤ n) (he : Sort.heapSort ltI e a b = e') :
    Calls Try.prog 35 #[.slice (some ⟨g, 0, none⟩) n cap, .int .i64 a, .int .i64 b] w fun r w' => r = .returned (.tuple #[]) ∧ PS w0 g n e' w' :=
  Calls.mono (heap_any h.1 h.2.1 (by omega) a b hab hb) (fun _ _ k => ⟨k.1, he ▸ h.next k.2.1 k.2.2.1 k.2.2.2⟩)
theorem PS.brk (h : PS w0 g n e w) (hn : n < 65536) {a b : Nat} (hab : a + 8 ≤ b) (hb : b ≤ n) (he : Sort.breakPatterns e a b = e') :
    Calls Try.prog 36 #[.slice (some ⟨g, 0, none⟩) n cap, .int .i64 a, .int .i64 b] w fun r w' => r = .returned (.tuple #[]) ∧ PS w0 g n e' w' :=
  Calls.mono (brk_any h.1 h.2.1 hn hab hb) (fun _ _ k => ⟨k.1, he ▸ h.next k.2.1 k.2.2.1 k.2.2.2⟩)
theorem PS.rev (h : PS w0 g n e w) (hn : n < 65536) {a b : Nat} (hab : a < b) (hb : b ≤ n) (he : Sort.reverseRange e a b = e') :
    Calls Try.prog 38 #[.slice (some ⟨g, 0, none⟩) n cap, .int .i64 a, .int .i64 b] w fun r w' => r = .returned (.tuple #[]) ∧ PS w0 g n e' w' :=
  Calls.mono (rev_any h.1 h.2.1 (by omega) a b hab hb) (fun _ _ k => ⟨k.1, he ▸ h.next k.2.1 k.2.2.1 k.2.2.2⟩)
theorem PS.piv (h : PS w0 g n e w) (hn : n < 65536) {a b c : Nat} {hc : Sort.Hint} (hab : a + 8 ≤ b) (hb : b ≤ n) (he : Sort.choosePivot ltI e a b = (c, hc)) :
    Calls Try.prog 37 #[.slice (some ⟨g, 0, none⟩) n cap, .int .i64 a, .int .i64 b] w fun r w' => r = .returned (.tuple #[.int .i64 c, .int .i64 (Sort.hintCode hc)]) ∧ PS w0 g n e w' := by
  have := piv_any (cap := cap) h.1 h.2.1 (by omega) hab hb
  rw [he] at this
  exact Calls.mono this (fun _ _ k => ⟨k.1, h.next k.2.1 h.2.1 (k.2.2.mono (fun _ _ f => f.elim))⟩)
theorem PS.pis (h : PS w0 g n e w) (hn : n < 65536) {a b : Nat} {p : Bool} (hab : a < b) (hb : b ≤ n) (he : Sort.partialInsertionSort ltI e a b = (e', p)) :
    Calls Try.prog 39 #[.slice (some ⟨g, 0, none⟩) n cap, .int .i64 a, .int .i64 b] w fun r w' => r = .returned (.bool p) ∧ PS w0 g n e' w' := by
  have := pis_any (cap := cap) h.1 h.2.1 (by omega) a b hab hb
  rw [he] at this
  exact Calls.mono this (fun _ _ k => ⟨k.1, h.next k.2.1 k.2.2.1 k.2.2.2⟩)
theorem PS.peq (h : PS w0 g n e w) (hn : n < 65536) {a b pv m : Nat} (hab : a < b) (hb : b ≤ n) (hp : a ≤ pv) (hp2 : pv < b) (he : Sort.partitionEqual ltI e a b pv = (m, e')) :
    Calls Try.prog 41 #[.slice (some ⟨g, 0, none⟩) n cap, .int .i64 a, .int .i64 b, .int .i64 pv] w fun r w' => r = .returned (.int .i64 m) ∧ PS w0 g n e' w' := by
  have := peq_any (cap := cap) h.1 h.2.1 (by omega) a b pv hab hb hp hp2
  rw [he] at this
  exact Calls.mono this (fun _ _ k => ⟨k.1, h.next k.2.1 k.2.2.1 k.2.2.2⟩)
theorem PS.part (h : PS w0 g n e w) (hn : n < 65536) {a b pv m : Nat} {ap : Bool} (hab : a < b) (hb : b ≤ n) (hp : a ≤ pv) (hp2 : pv < b) (he : Sort.partition ltI e a b pv = (m, ap, e')) :
    Calls Try.prog 42 #[.slice (some ⟨g, 0, none⟩) n cap, .int .i64 a, .int .i64 b, .int .i64 pv] w fun r w' => r = .returned (.tuple #[.int .i64 m, .bool ap]) ∧ PS w0 g n e' w' := by
  have := part_any (cap := cap) h.1 h.2.1 (by omega) a b pv hab hb hp hp2
  rw [he] at this
  exact Calls.mono this (fun _ _ k => ⟨k.1, h.next k.2.1 k.2.2.1 k.2.2.2⟩)
end

theorem swo : Sort.SWO ltI := Sort.swo_ltInt

/-- One round of pdqsort behind its two first tests. -/
structure Rnd (e : Array Int) (a b lim : Nat) (wb wp : Bool) (R : Array Int) (D1 D2 D3 : Array Int) (lm c pv : Nat) (hc h2 : Sort.Hint) (pi : Bool) : Prop where
  ub : wb = false → Sort.breakPatterns e a b = D1 ∧ lim = lm + 1
  bal : wb = true → D1 = e ∧ lm = lim
  lml : lm ≤ lim
  piv : Sort.choosePivot ltI D1 a b = (c, hc)
  cr : a ≤ c ∧ c < b
  dec : hc = .decreasing → Sort.reverseRange D1 a b = D2 ∧ (b : Int) - 1 - ((c : Int) - a) = pv ∧ h2 = .increasing
  nd : hc ≠ .decreasing → D2 = D1 ∧ pv = c ∧ h2 = hc
  pr : a ≤ pv ∧ pv < b
  yes : (wb && wp && decide (h2 = .increasing)) = true → Sort.partialInsertionSort ltI D2 a b = (D3, pi)
  no : (wb && wp && decide (h2 = .increasing)) = false → D3 = D2 ∧ pi = false
  done : pi = true → D3 = R
  eq : pi = false → (decide (a > 0) && !ltI D3[a - 1]! D3[pv]!) = true → ∀ mid d4, Sort.partitionEqual ltI D3 a b pv = (mid, d4) → a < mid ∧ mid ≤ b ∧ Sort.Below ltI mid b d4 ∧ Sort.pdq ltI d4 mid b lm wb wp = R
  part : pi = false → (decide (a > 0) && !ltI D3[a - 1]! D3[pv]!) = false → ∀ mid ap d4, Sort.partition ltI D3 a b pv = (mid, ap, d4) → a ≤ mid ∧ mid < b ∧ Sort.Below ltI a mid d4 ∧ Sort.Below ltI (mid + 1) b d4 ∧
    (mid - a < b - mid → Sort.Below ltI (mid + 1) b (Sort.pdq ltI d4 a mid lm true true) ∧ Sort.pdq ltI (Sort.pdq ltI d4 a mid lm true true) (mid + 1) b lm (decide (mid - a ≥ (b - a) / 8)) ap = R) ∧
    (¬ mid - a < b - mid → Sort.Below ltI a mid (Sort.pdq ltI d4 (mid + 1) b lm true true) ∧ Sort.pdq ltI (Sort.pdq ltI d4 (mid + 1) b lm true true) a mid lm (decide (b - mid ≥ (b - a) / 8)) ap = R)

theorem rnd_of (e : Array Int) (a b lim : Nat) (wb wp : Bool) (h12 : ¬ b - a ≤ 12) (h0 : ¬ lim = 0) (hb : b ≤ e.size) (hB : Sort.Below ltI a b e) :
    ∃ D1 D2 D3 lm c pv hc h2 pi, Rnd e a b lim wb wp (Sort.pdq ltI e a b lim wb wp) D1 D2 D3 lm c pv hc h2 pi := by
  obtain ⟨s1, B1, c1, s2, B2, pv, s3, B3⟩ := Sort.rd_facts (limit := lim) (wb := wb) (wp := wp) swo Sort.partialInsertionSort_holds Sort.reverseRange_holds (by omega : a < b) hb hB
  refine ⟨(Sort.rd ltI e a b lim wb wp).d1, (Sort.rd ltI e a b lim wb wp).d2, (Sort.rd ltI e a b lim wb wp).pi.1, (Sort.rd ltI e a b lim wb wp).lim, (Sort.rd ltI e a b lim wb wp).c.1, (Sort.rd ltI e a b lim wb wp).pivot, (Sort.rd ltI e a b lim wb wp).c.2, (Sort.rd ltI e a b lim wb wp).hint, (Sort.rd ltI e a b lim wb wp).pi.2, ?_⟩
  refine ⟨?_, ?_, Sort.rd_lim_le, rfl, c1, ?_, ?_, pv, ?_, ?_, ?_, ?_, ?_⟩
  · intro h
    subst h
    exact ⟨Sort.rd_false.1.symm, by rw [Sort.rd_false.2]; omega⟩
  · intro h
    subst h
    exact ⟨Sort.rd_true.1, Sort.rd_true.2⟩
  · intro h
    obtain ⟨x, y, z⟩ := Sort.rd_dec h
    exact ⟨x.symm, by rw [y]; omega, z⟩
  · exact Sort.rd_not
  · intro h
    rw [Sort.rd_pi_yes h]
  · intro h
    rw [Sort.rd_pi_no h]
    exact ⟨rfl, rfl⟩
  · intro h
    exact (Sort.pdq_done h12 h0 h).symm
  · intro h1 h2 mid d4 hx
    rw [Bool.and_eq_true] at h2
    obtain ⟨r1, r2, r3, r4, r5⟩ := Sort.round_eq swo (Sort.partitionEqual_holds ltI) (of_decide_eq_true h2.1) pv.1 pv.2 (by omega) B3 (by simpa using h2.2) hx
    refine ⟨r1, r2, r4, ?_⟩
    have := Sort.pdq_eq (lt := ltI) h12 h0 h1 (by rw [Bool.and_eq_true]; exact h2) (by rw [hx]; exact ⟨r1, r2⟩)
    rw [hx] at this
    exact this.symm
  · intro h1 h2 mid ap d4 hx
    obtain ⟨r1, r2, r3, r4, r5, r6, r7⟩ := Sort.round_part swo (Sort.partition_holds ltI) pv.1 pv.2 (by omega) B3 hx
    refine ⟨r1, r2, r4, r5, ?_, ?_⟩
    · intro hl
      obtain ⟨p1, p2⟩ := Sort.pdq_sorts ltI swo d4 a mid (Sort.rd ltI e a b lim wb wp).lim true true r1 (by omega) r4
      refine ⟨(r6 _ p1 p2).1, ?_⟩
      have := Sort.pdq_left (lt := ltI) h12 h0 h1 h2 (by rw [hx]; exact ⟨r1, r2⟩) (by rw [hx]; exact hl)
      rw [hx] at this
      exact this.symm
    · intro hl
      obtain ⟨p1, p2⟩ := Sort.pdq_sorts ltI swo d4 (mid + 1) b (Sort.rd ltI e a b lim wb wp).lim true true r2 (by omega) r5
      refine ⟨(r7 _ p1 p2).1, ?_⟩
      have := Sort.pdq_right (lt := ltI) h12 h0 h1 h2 (by rw [hx]; exact ⟨r1, r2⟩) (by rw [hx]; exact hl)
      rw [hx] at this
      exact this.symm

end Go.Proofs.Ytnfcmpffihmnmaa
