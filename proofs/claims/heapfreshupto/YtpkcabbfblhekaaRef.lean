/-
  The reference's calls: before, First, Without; the law's took and same.
-/
import Derived.Test.YtpkcabbfblhekaaPerm
import Derived.Test.YtpkcabbfblhekaaSmall
import Derived.Maps.AppendAt
namespace Go.Proofs.Ytpkcabbfblhekaa
open Go.RowKit

set_option maxRecDepth 100000 in
theorem before_any (a b : Int × Int) (all : Bool) (w : World) : Calls Try.prog 54 #[two a, two b, .bool all] w fun e w' => e = .returned (.bool (bef all a b)) ∧ Chg (fun _ => False) w w' := by
  obtain ⟨ak, an⟩ := a
  obtain ⟨bk, bn⟩ := b
  unfold two bef
  cases all with
  | true =>
    go_enter Try.func54, Try.ntmps54
    go_wp2_with fail
    go_ret
    exact ⟨rfl, ((Chg.refl _ _).alloc _).alloc _⟩
  | false =>
    go_enter Try.func54, Try.ntmps54
    go_wp2_with fail
    go_ret
    exact ⟨by simp, ((Chg.refl _ _).alloc _).alloc _⟩

theorem Ths.at {w : World} {s : Value} {L : List (Int × Int)} (h : Ths w s L) {i : Nat} (hi : i < L.length) : ∃ b o c, s = .slice (some ⟨b, o, none⟩) L.length c ∧ ∀ i, i < L.length → w.cell? ⟨b, o + i * 2, none⟩ = some (.int .i64 (tnth L i).1) ∧ w.cell? ⟨b, o + i * 2 + 1, none⟩ = some (.int .i64 (tnth L i).2) := by
  rcases h with ⟨_, rfl⟩ | ⟨_, _, _, rfl⟩ | ⟨b, o, c, rfl, hc⟩
  · simp at hi
  · simp at hi
  · exact ⟨b, o, c, rfl, fun i hi => hc i (tnth L i) (by unfold tnth; rw [List.getD_eq_getElem?_getD, List.getElem?_eq_getElem hi]; rfl)⟩

set_option maxRecDepth 100000 in
set_option maxHeartbeats 2000000 in
theorem first_any {w : World} {s : Value} {L : List (Int × Int)} (h : Ths w s L) (hl : L.length ≤ 2097152) (all : Bool) : Calls Try.prog 39 #[s, .bool all] w fun e w' => e = .returned (.int .i64 (firstU all L L.length)) ∧ Chg (fun _ => False) w w' := by
  obtain ⟨sa, sc, rfl⟩ := h.form
  have HT : Hid _ := h
  clear h
  go_enter Try.func39, Try.ntmps39
  go_wp2_with fail
  go_loopg [5, 6] (L.length + 1) (fun gk a i wr => ∃ j : Nat, i = .int .i64 j ∧ a = .int .i64 (firstU all L j) ∧ j ≤ L.length ∧ L.length < gk + j ∧ Hid (Chg (fun _ => False) w wr))
  case atStart => exact ⟨0, rfl, rfl, by omega, by omega, Chg.refl _ _⟩
  case round =>
    obtain ⟨j, rfl, rfl, hj, hgk, hch⟩ := hrel
    by_cases h0 : j = L.length
    · subst h0
      go_wp2_with fail
      go_ret
      exact ⟨rfl, hch.out⟩
    · have hjl : (j : Int) < (L.length : Int) := by omega
      obtain ⟨b, o, c, hs, hc⟩ := Ths.at (Ths.keep HT.out hch.out (fun _ _ h => h)) (i := j) (by omega)
      injection hs with hs1 _ hs3
      subst hs1 hs3
      obtain ⟨x0, x1⟩ := hc j (by omega)
      rcases Nat.eq_zero_or_pos j with hz | hpos
      · subst hz
        have hm1 : firstU all L 0 = -1 := rfl
        have hf1 : firstU all L 1 = 0 := by simp [firstU]
        rw [hm1]
        have F1 : Hid _ := hf1
        clear hf1 hm1 hc
        go_wp2_with fail
        go_quiet (fail)
        go_wp2_with fail
        go_roundg L.length
        case measure => omega
        case rel => exact ⟨1, by go_num, by rw [F1.out], by omega, by omega, ⟨hch.out.os, hch.out.tape, hch.out.output, hch.out.size, hch.out.block⟩⟩
      · obtain ⟨m, hm1, hm2, _, _⟩ := firstU_spec all L j hpos
        obtain ⟨y0, y1⟩ := hc m (by omega)
        have hmn : (m : Int) < (L.length : Int) := by omega
        have hnm : ¬ ((m : Int) < 0) := by omega
        have hdm : decide ((m : Int) < 0) = false := decide_eq_false hnm
        have hst : firstU all L (j + 1) = if bef all (tnth L j) (tnth L m) = true then (j : Int) else (m : Int) := by
          rw [firstU, hm1]
          by_cases hb : bef all (tnth L j) (tnth L m) = true
          · rw [if_pos hb, if_pos (.inr (by simpa using hb))]
          · rw [if_neg hb, if_neg (by rintro (h | h); omega; exact hb (by simpa using h))]
        rw [hm1]
        obtain ⟨x, hx⟩ : ∃ x, tnth L j = x := ⟨_, rfl⟩
        obtain ⟨y, hy⟩ : ∃ y, tnth L m = y := ⟨_, rfl⟩
        rw [hx] at x0 x1 hst
        rw [hy] at y0 y1 hst
        have BF0 := before_any x y all wr.drew
        obtain ⟨r, hr⟩ : ∃ r, bef all x y = r := ⟨_, rfl⟩
        rw [hr] at BF0 hst
        obtain ⟨xk, xn⟩ := x
        obtain ⟨yk, yn⟩ := y
        simp only at x0 x1 y0 y1
        unfold two at BF0
        have BF : Hid _ := BF0
        have ST : Hid _ := hst
        clear BF0 hst hr hx hy hc hm1
        go_wp2_with fail
        go_still_tail 12, (by kernel_rfl)
        have hrd : ∀ {w9}, Chg (fun _ => False) wr.drew w9 → Chg (fun _ => False) w w9 := fun h => (hch.out.drew).trans h (fun _ h => h.elim)
        have RD : Hid _ := @hrd
        clear hrd x0 x1 y0 y1
        cases r with
        | true =>
          go_wp2_with (go_at_call 54; refine Calls.mono BF.out ?_; rintro e w9 ⟨rfl, ch9⟩; have C9 : Hid _ := RD.out ch9; clear ch9)
          go_roundg (L.length - j)
          case measure => omega
          case rel => exact ⟨j + 1, by go_num, by rw [ST.out]; rfl, by omega, by omega, C9⟩
        | false =>
          go_wp2_with (go_at_call 54; refine Calls.mono BF.out ?_; rintro e w9 ⟨rfl, ch9⟩; have C9 : Hid _ := RD.out ch9; clear ch9)
          go_roundg (L.length - j)
          case measure => omega
          case rel => exact ⟨j + 1, by go_num, by rw [ST.out]; rfl, by omega, by omega, C9⟩

/-- Things as cells. -/
def rowT (l : List (Int × Int)) : List Value := l.flatMap fun a => [.int .i64 a.1, .int .i64 a.2]
theorem rowT_len (l : List (Int × Int)) : (rowT l).length = l.length * 2 := by
  induction l with
  | nil => rfl
  | cons a l ih => simp [rowT] at ih ⊢; omega
theorem rowT_app (l m : List (Int × Int)) : rowT (l ++ m) = rowT l ++ rowT m := by simp [rowT]
theorem rowT_one (l : List (Int × Int)) : ∀ u ∈ rowT l, u.oneCell' = true := by
  intro u hu
  simp only [rowT, List.mem_flatMap, List.mem_cons, List.not_mem_nil, or_false] at hu
  obtain ⟨e, _, rfl | rfl⟩ := hu <;> rfl
theorem rowT_at : ∀ (l : List (Int × Int)) (i : Nat) (a : Int × Int), l[i]? = some a → (rowT l)[i * 2]? = some (.int .i64 a.1) ∧ (rowT l)[i * 2 + 1]? = some (.int .i64 a.2)
  | [], i, a, h => by simp at h
  | x :: l, 0, a, h => by
    have : x = a := by simpa using h
    subst this; exact ⟨rfl, rfl⟩
  | x :: l, i + 1, a, h => by
    have := rowT_at l i a (by simpa using h)
    have e : rowT (x :: l) = .int .i64 x.1 :: .int .i64 x.2 :: rowT l := rfl
    rw [e, show (i + 1) * 2 = i * 2 + 1 + 1 by omega]
    simpa using this
theorem rowT_inv (l : List (Int × Int)) (j : Nat) (u : Value) (h : (rowT l)[j]? = some u) : ∃ i a, l[i]? = some a ∧ ((j = i * 2 ∧ u = .int .i64 a.1) ∨ (j = i * 2 + 1 ∧ u = .int .i64 a.2)) := by
  have hj : j < (rowT l).length := (List.getElem?_eq_some_iff.1 h).1
  rw [rowT_len] at hj
  have hi : j / 2 < l.length := by omega
  obtain ⟨h1, h2⟩ := rowT_at l (j / 2) l[j / 2] (List.getElem?_eq_getElem hi)
  refine ⟨j / 2, l[j / 2], List.getElem?_eq_getElem hi, ?_⟩
  rcases Nat.mod_two_eq_zero_or_one j with hm | hm
  · left
    have e : j = j / 2 * 2 := by omega
    rw [← e] at h1
    rw [h1] at h
    exact ⟨e, by injection h with h; exact h.symm⟩
  · right
    have e : j = j / 2 * 2 + 1 := by omega
    rw [← e] at h2
    rw [h2] at h
    exact ⟨e, by injection h with h; exact h.symm⟩

/-- A list of things that lies alone in a row of its own. -/
def OwnT (w : World) (v : Value) (l : List (Int × Int)) : Prop := w.ownsRow 0 26 2 v l.length (rowT l)
theorem OwnT.nil (w : World) : OwnT w (.slice none 0 0) [] := World.ownsRow_nil w 0 26 2
theorem OwnT.ths {w : World} {v : Value} {l : List (Int × Int)} (h : OwnT w v l) : Ths w v l := by
  rcases h.2 with ⟨rfl, h0⟩ | ⟨g, cap, cur, rfl, hb, hgg, rest⟩
  · exact .inl ⟨rfl, List.eq_nil_of_length_eq_zero h0⟩
  · refine .inr (.inr ⟨g, 0, cap, rfl, fun i a hi => ?_⟩)
    obtain ⟨h1, h2⟩ := rowT_at l i a hi
    have k1 := World.ownsRow.cells h (g := g) rfl (i * 2) _ h1
    have k2 := World.ownsRow.cells h (g := g) rfl (i * 2 + 1) _ h2
    rw [addr_add] at k1 k2
    exact ⟨k1, k2⟩
theorem info26 : (Try.prog.info? 26).map (fun i => (i.zero, i.size, i.bytes)) = some (some (.agg #[.int .i64 0, .int .i64 0]), 2, 16) := by kernel_rfl

/-- append of things. -/
theorem run_app2 (w : World) (ty : TypeId) {v s : Value} {l m : List (Int × Int)} (hv : OwnT w v l) (hs : Ths w s m) (hb : l.length + m.length ≤ 1099511627776) :
    ∃ v' w', (Builtin.append_ #[28, 28] ty #[v, s]).run Try.prog w = .ok v' w' ∧ OwnT w' v' (l ++ m) ∧ Chg (fun k => some k = v.ownBlock) w w' ∧ (v'.ownBlock = v.ownBlock ∨ v'.ownBlock = some w.heap.size) := by
  obtain ⟨i0, hi, hz0, hz1, hz2⟩ := info_parts info26
  have empty : ∀ (c : Nat) (a : Option Addr), m = [] → (a = none → c = 0) → s = .slice a 0 c → ∃ v' w', (Builtin.append_ #[28, 28] ty #[v, s]).run Try.prog w = .ok v' w' ∧ OwnT w' v' (l ++ m) ∧ Chg (fun k => some k = v.ownBlock) w w' ∧ (v'.ownBlock = v.ownBlock ∨ v'.ownBlock = some w.heap.size) := by
    intro c a hm _ hse
    subst hm
    rw [List.append_nil, hse]
    refine ⟨v, w, ?_, hv, Chg.refl _ _, .inl rfl⟩
    rcases hv.2 with ⟨rfl, h0⟩ | ⟨g, cap, cur, rfl, hbb, hgg, hle, rest⟩
    · cases a <;> simp [Builtin.append_, run_underlying Try.underlying28, sizeOf, typeInfo, hi, Builtin.lenOf, Builtin.firstCells, loadCells, loadCellsFrom]
    · cases a <;> simp [Builtin.append_, run_underlying Try.underlying28, sizeOf, typeInfo, hi, Builtin.lenOf, Builtin.firstCells, storeCells, hle, loadCells, loadCellsFrom]
  rcases hs with ⟨e, hm⟩ | ⟨a, c, e, hm⟩ | ⟨b, o, c, rfl, hc⟩
  · exact empty 0 none hm (fun _ => rfl) e
  · exact empty c (some a) hm (fun h => by cases h) e
  · obtain ⟨v', w', h1, h2, h3, _, h5⟩ := run_append_own_at (P := Try.prog) w 0 28 ty 26 i0 _ 2 16 Try.underlying28 hi hz0 hz1 hz2 rfl (by decide) v l.length (rowT l) hv ⟨b, o, none⟩ m.length c (rowT m) (rowT_len m) (fun j u hu => by
      rw [addr_add]
      obtain ⟨i, a, ha, ⟨rfl, rfl⟩ | ⟨rfl, rfl⟩⟩ := rowT_inv m j u hu
      · exact (hc i a ha).1
      · exact (hc i a ha).2) (rowT_one m) (by unfold maxLen; omega) (by omega) (Nat.zero_le _)
    exact ⟨v', w', h1, by unfold OwnT; rw [List.length_append, rowT_app]; exact h2, Chg.of_grown h3, h5⟩

end Go.Proofs.Ytpkcabbfblhekaa
