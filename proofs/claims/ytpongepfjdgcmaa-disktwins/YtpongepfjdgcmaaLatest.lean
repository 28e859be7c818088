/-
  The durable map in general; latest over both maps.
-/
import Derived.Test.YtpongepfjdgcmaaCache
namespace Go.Proofs.Ytpongepfjdgcmaa
open Go.RowKit

/-- A sector's durable bytes: none, or in block g. -/
def duE : Option Nat → DataW Unit
  | none => .nil
  | some g => .lit (.int .i64 g)
def duV (z : Nat) : Option Nat → Value
  | none => .slice none 0 0
  | some g => .slice (some ⟨g, 0, none⟩) z z

/-- The durable map: sector s lies in block K s, if it is there. -/
structure Du (w : World) (m k z : Nat) (K : Nat → Option Nat) (D : DataW Unit) : Prop where
  own : w.ownsMap Try.prog 3 (blkElem z) m k D
  at_ : ∀ s, D.atKey (kI s) .nil = duE (K s)
  has : ∀ kl, Maps.has D kl = true ↔ ∃ s, kl = kI s ∧ K s ≠ none

theorem Du.start {w : World} {m z : Nat} (h : w.heap[m]? = some (.map #[] 0)) : Du w m 0 z (fun _ => Option.none) (.map []) :=
  ⟨⟨#[], 0, h, ⟨by simp, MapKept.stamped_empty 0, by simp⟩, Nat.le_refl _, rfl⟩, fun _ => rfl, fun kl => by simp [Maps.has]⟩
theorem blkElem_nil {z : Nat} {v : Value} {ps : List MemPlace} (h : blkElem z v = some (.nil, ps)) : v = .slice none 0 0 := by
  unfold blkElem at h
  split at h
  · rfl
  · split at h
    · simp at h
    · cases h
  · cases h
theorem Du.lookup {w : World} {m k z : Nat} {K : Nat → Option Nat} {D : DataW Unit} (h : Du w m k z K D) (s : Nat) (hs : s ≤ 65536) : (Instr.lookup 85 (.map (some m)) (.int .i64 s) false).run Try.prog w = .ok (duV z (K s)) w := by
  have hwf : (Lit.int .i64 (s : Int)).wf = true := WalkArith.wf_i64 (by omega)
  obtain ⟨v, ps, h1, h2⟩ := h.own.lookup (t := 85) (e := 22) keyed3 Try.underlying85 (z := .slice none 0 0) (by kernel_rfl) (zd := .nil) (zp := []) rfl (Maps.keyOf_int_mk Try.underlying3 hwf)
  have e := h.at_ s
  unfold kI at e
  rw [e] at h2
  rw [h1]
  cases hK : K s with
  | none => rw [hK] at h2; rw [blkElem_nil h2]; rfl
  | some g => rw [hK] at h2; rw [blkElem_inv h2]; rfl

/-- What latest gives. -/
def latV (z : Nat) (l : List (Nat × Nat)) (k : Option Nat) : Value :=
  match l.getLast? with
  | some x => .slice (some ⟨x.2, 0, none⟩) z z
  | none => duV z k

theorem wcells_at (z : Nat) (l : List (Nat × Nat)) (x : Nat × Nat) : (wcells z (l ++ [x]))[l.length * 2 + 1]? = some (.slice (some ⟨x.2, 0, none⟩) z z) := by
  rw [wcells_app, List.getElem?_append_right (by rw [wcells_len]; omega), wcells_len, show l.length * 2 + 1 - l.length * 2 = 1 by omega]
  rfl

set_option maxRecDepth 100000 in
set_option maxHeartbeats 2000000 in
theorem latestG {w : World} {p m c km kc z : Nat} {K : Nat → Option Nat} {D : DataW Unit} {L : Nat → List (Nat × Nat)} {V : Nat → Value} {E : DataW Unit} (hm : Du w m km z K D) (hc : Ca w c kc z L V E) (h8 : w.cell? ⟨p, 8, none⟩ = some (.map (some m))) (h9 : w.cell? ⟨p, 9, none⟩ = some (.map (some c))) (s : Nat) (hs : s ≤ 65536) (hl : (L s).length ≤ 4398046511104) :
    Calls Try.prog 38 #[.pointer (some ⟨p, 0, none⟩), .int .i64 s] w fun e w' => e = .returned (latV z (L s) (K s)) ∧ w = w' := by
  have k1 := hm.lookup s hs
  have k2 := hc.lookup s hs
  rcases (hc.row s).2 with ⟨e, h0⟩ | ⟨g, cap, cur, e, _, hgg, h1, h2, h3, h4⟩
  · have hnil : L s = [] := List.eq_nil_of_length_eq_zero h0
    rw [e] at k2
    have hlat : latV z (L s) (K s) = duV z (K s) := by rw [hnil]; rfl
    obtain ⟨a0, n0, c0, hdu⟩ : ∃ a n c, duV z (K s) = .slice a n c := by cases K s with | none => exact ⟨_, _, _, rfl⟩ | some g => exact ⟨_, _, _, rfl⟩
    rw [hlat, hdu]
    rw [hdu] at k1
    clear hm hc e h0 hnil hlat hdu
    go_enter Try.func38, Try.ntmps38
    go_wp2_with fail
    go_ret
    exact ⟨rfl, rfl⟩
  · by_cases hn : (L s).length = 0
    · have hnil : L s = [] := List.eq_nil_of_length_eq_zero hn
      rw [e, hn] at k2
      have hlat : latV z (L s) (K s) = duV z (K s) := by rw [hnil]; rfl
      obtain ⟨a0, n0, c0, hdu⟩ : ∃ a n c, duV z (K s) = .slice a n c := by cases K s with | none => exact ⟨_, _, _, rfl⟩ | some g => exact ⟨_, _, _, rfl⟩
      rw [hlat, hdu]
      rw [hdu] at k1
      clear hm hc e hn hnil hlat hdu h4 hgg
      go_enter Try.func38, Try.ntmps38
      go_wp2_with fail
      go_ret
      exact ⟨rfl, rfl⟩
    · obtain ⟨l, x, hlx⟩ : ∃ l x, L s = l ++ [x] := ⟨(L s).dropLast, (L s).getLast (by intro e2; rw [e2] at hn; exact hn rfl), (List.dropLast_concat_getLast _).symm⟩
      have hlat : latV z (L s) (K s) = .slice (some ⟨x.2, 0, none⟩) z z := by rw [hlx]; simp [latV]
      have hlen : (L s).length = l.length + 1 := by rw [hlx]; simp
      obtain ⟨N, hN⟩ : ∃ N, N = l.length := ⟨_, rfl⟩
      have hcell : w.cell? ⟨g, N * 2 + 1, none⟩ = some (.slice (some ⟨x.2, 0, none⟩) z z) := by
        rw [cell_of_row w g _ cur 97 _ hgg]
        have q := wcells_at z l x
        rw [← hlx, ← h4, List.getElem?_take] at q
        rw [hN]
        split at q
        · simpa using q
        · cases q
      rw [e, hlen, ← hN] at k2
      rw [hlat]
      rw [hlen, ← hN] at hl
      clear hm hc e hn hlx hlat hlen hN h4 hgg h1 h3
      go_enter Try.func38, Try.ntmps38
      go_wp2_with fail
      go_ret
      exact ⟨rfl, rfl⟩
end Go.Proofs.Ytpongepfjdgcmaa
