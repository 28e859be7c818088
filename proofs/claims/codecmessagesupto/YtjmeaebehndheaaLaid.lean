import Derived.Test.YtjmeaebehndheaaSum2
import Derived.Deep.MidRow
import Derived.Test.YtjmeaebehndheaaRd
/-
  Structs in a block of their own: a field that is an aggregate, stored and loaded.
-/
namespace Go.Proofs.Ytjmeaebehndheaa
open Go.RowKit

/-- Block g has these cells. -/
structure Blk (w : World) (g : Nat) (cs : List Value) (t : TypeId) : Prop where
  eq : w.heap[g]? = some (.cells cs.toArray t (0, 0))

theorem Blk.lt {w : World} {g : Nat} {cs : List Value} {t : TypeId} (h : Blk w g cs t) : g < w.heap.size := (Array.getElem?_eq_some_iff.1 h.eq).1
theorem Blk.cell {w : World} {g : Nat} {cs : List Value} {t : TypeId} (h : Blk w g cs t) (j : Nat) : w.cell? ⟨g, j, none⟩ = cs[j]? := by
  rw [cell_of_row w g j _ t (0, 0) h.eq]; simp
theorem Blk.fr {w : World} {g : Nat} {cs : List Value} {t : TypeId} (h : Blk w g cs t) (j : Nat) : w.frozen? ⟨g, j, none⟩ = false := frozen_of_row w g j _ t h.eq
theorem Blk.keep {w w' : World} {g : Nat} {cs : List Value} {t : TypeId} {S : Nat → Prop} (h : Blk w g cs t) (c : Chg S w w') (hn : ¬ S g) : Blk w' g cs t := ⟨c.heap_some h.eq hn⟩
theorem Blk.keep0 {w w' : World} {g : Nat} {cs : List Value} {t : TypeId} (h : Blk w g cs t) (b : Below w.heap.size w w') : Blk w' g cs t := by
  exact ⟨by rw [b.block g h.lt]; exact h.eq⟩
theorem Blk.made (w : World) (cs : List Value) (t : TypeId) : Blk (w.alloc (.cells cs.toArray t)) w.heap.size cs t := ⟨heap_alloc_new _ _⟩
theorem Blk.alloc {w : World} {g : Nat} {cs : List Value} {t : TypeId} (h : Blk w g cs t) (ob : Obj) : Blk (w.alloc ob) g cs t := h.keep0 ((Below.refl _ _).alloc (Nat.le_refl _) _)
theorem Blk.drew {w : World} {g : Nat} {cs : List Value} {t : TypeId} (h : Blk w g cs t) : Blk w.drew g cs t := ⟨h.eq⟩
theorem Blk.set {w : World} {g : Nat} {cs : List Value} {t : TypeId} (h : Blk w g cs t) (o : Nat) (v : Value) : Blk (w.setCell ⟨g, o, none⟩ v) g (cs.set o v) t := by
  refine ⟨?_⟩
  rw [heap_setCell_same w g o _ t v h.eq]
  simp
theorem Blk.range {w : World} {g : Nat} {cs : List Value} {t : TypeId} (h : Blk w g cs t) {o : Nat} {vs : List Value} (hv : (cs.drop o).take vs.length = vs) : w.rangeAt g o vs := fun j v hj => by
  rw [h.cell]
  rw [← hv, List.getElem?_take] at hj
  split at hj
  · rw [List.getElem?_drop] at hj; exact hj
  · cases hj
theorem Blk.there {w : World} {g : Nat} {cs : List Value} {t : TypeId} (h : Blk w g cs t) {o n : Nat} (hn : o + n ≤ cs.length) : w.there g o n := fun j hj => by
  rw [h.cell]
  refine ⟨?_, h.fr _⟩
  simp; omega

theorem Blk.setCells {g : Nat} {t : TypeId} : ∀ (vs : List Value) (o : Nat) (w : World) (cs : List Value), Blk w g cs t → o + vs.length ≤ cs.length → Blk (w.setCells g o vs) g (splice cs o vs) t ∧ Chg (fun k => k = g) w (w.setCells g o vs)
  | [], o, w, cs, h, _ => by
    refine ⟨?_, Chg.refl _ _⟩
    simpa [splice, World.setCells] using h
  | v :: vs, o, w, cs, h, hl => by
    simp only [List.length_cons] at hl
    have h1 := h.set o v
    obtain ⟨h2, h3⟩ := Blk.setCells vs (o + 1) _ _ h1 (by simp; omega)
    refine ⟨?_, ((Chg.refl (fun k => k = g) w).setCell (.inl rfl) v).trans h3 (fun _ e => .inl e)⟩
    have e : splice (cs.set o v) (o + 1) vs = splice cs o (v :: vs) := by
      unfold splice
      have ho : o < cs.length := by omega
      rw [List.take_set, List.drop_set_of_lt (by omega), List.take_add_one, List.set_append_right _ _ (by simp; omega)]
      simp only [List.getElem?_eq_getElem ho, Option.toList_some, List.length_take, Nat.min_eq_left (Nat.le_of_lt ho), Nat.sub_self, List.set_cons_zero, List.append_assoc, List.length_cons]
      rw [show o + 1 + vs.length = o + (vs.length + 1) by omega]
      rfl
    rw [e] at h2
    exact h2

section
variable {ops : Array Oper} {rest : List Oper} {op : Oper} {a : Act} {w : World} {Q : Exit → Act → World → Prop}
theorem wpList_store_part (hgd : op.guard = none) (ty : TypeId) (x y : Operand) (ho : op.op = .store ty x y)
    (g o : Nat) (vs : List Value) (hx : a.eval x = .pointer (some ⟨g, o, none⟩)) (hy : a.eval y = .agg vs.toArray) {cs : List Value} {t : TypeId} (hg : Blk w g cs t) (hl : o + vs.length ≤ cs.length)
    (hi : (Try.prog.info? ty).map (·.size) = some vs.length) (h1 : ∀ v ∈ vs, v.oneCell' = true)
    (h : ∀ w', Blk w' g (splice cs o vs) t → Chg (fun k => k = g) w w' → wpList Try.prog ops Q rest (a.put op.dst undef) w') : wpList Try.prog ops Q (op :: rest) a w := by
  obtain ⟨h2, h3⟩ := Blk.setCells vs o w cs hg hl
  exact wpList_store_mid hgd ty x y ho g o vs.toArray hx hy (by rw [List.size_toArray]; exact hg.there hl) (by rw [List.size_toArray]; exact hi) (all_oneCell_toArray h1) (by rw [List.toList_toArray]; exact h _ h2 h3)

theorem wpList_load_part (hgd : op.guard = none) (ty : TypeId) (x : Operand) (ho : op.op = .load ty x)
    (g o : Nat) (vs : List Value) (hx : a.eval x = .pointer (some ⟨g, o, none⟩)) {cs : List Value} {t : TypeId} (hg : Blk w g cs t) (hv : (cs.drop o).take vs.length = vs) {d : TypeDesc} (hu : Try.prog.underlying ty = some d) (hd : d.isRow = true)
    (hi : (Try.prog.info? ty).map (·.size) = some vs.length) (h : wpList Try.prog ops Q rest (a.put op.dst (.agg vs.toArray)) w) : wpList Try.prog ops Q (op :: rest) a w :=
  wpList_load_mid hgd ty x ho g o hx vs d (hg.range hv) hu hd hi h
end

theorem results_row2 {fn : Func} {p u : Tmp} {ty : TypeId} (h : fn.results = #[.cell p ty, .tmp u]) (tmps : Array Value) (w : World) (g : Nat) (t : TypeId) (cs : List Value) (d : TypeDesc) (x : Value)
    (hp : tmps.getD p undef = .pointer (some ⟨g, 0, none⟩)) (hg : Blk w g cs t)
    (hu : Try.prog.underlying ty = some d) (hd : d.isRow = true) (hi : (Try.prog.info? ty).map (·.size) = some cs.length) (hx : tmps.getD u undef = x) :
    (results fn tmps).run Try.prog w = .ok (.tuple #[.agg cs.toArray, x]) w := by
  have hl := run_loadVar_mid (P := Try.prog) w g 0 ty cs d (hg.range (by simp)) hu hd hi
  have hp' : tmps[p]?.getD undef = .pointer (some ⟨g, 0, none⟩) := by simpa using hp
  have hx' : tmps[u]?.getD undef = x := by simpa using hx
  simp [results, h, hp', hx', asAddr, hl]

theorem splice_all {α : Type} (L cs : List α) (h : cs.length = L.length) : splice L 0 cs = cs := by simp [splice, h]
end Go.Proofs.Ytjmeaebehndheaa

/-
  The walk of lay.
-/
namespace Go.Proofs.Ytjmeaebehndheaa
open Go.RowKit

/-- A step's cells. -/
def stp (kind who : Int) (n : Nat) (m : Int) (b : Value) (z : List Int) (nth : Int) : List Value := [.int .i64 kind, .int .i64 who, .int .u64 n, .int .i64 m, b] ++ bs (z ++ [nth])
/-- What it lays down. -/
def lays (kind : Int) (n : Nat) (m z : List Int) (nth : Int) : List Int :=
  if kind = 1 then [(n : Int) % 256] else if kind = 2 then word ((n : Int) % 4294967296) else if kind = 3 then long n else if kind = 4 then numB n else if kind = 5 then m else if kind = 6 then numB m.length ++ m else if kind = 7 then z else if kind = 8 then z ++ [nth] else []
theorem lays_len (kind : Int) (n : Nat) (m z : List Int) (nth : Int) (hn : n < 18446744073709551616) (hz : z.length = 32) (hm : m.length < 18446744073709551616) : (lays kind n m z nth).length ≤ m.length + 33 := by
  have h1 := numB_ten hn
  have h2 : m.length < 18446744073709551616 → (numB m.length).length ≤ 10 := fun h => numB_ten h
  unfold lays
  split; · simp
  split; · simp [word]
  split; · simp [long, word]
  split; · omega
  split; · omega
  split
  · rw [List.length_append]
    have := h2 hm; omega
  split; · omega
  split; · simp [hz]
  · simp

theorem stp_cell (w : World) (kind who : Int) (n : Nat) (m : Int) (b : Value) (z : List Int) (nth : Int) (t : TypeId) (hz : z.length = 32) :
    (w.alloc (.cells (stp kind who n m b z nth).toArray t)).cell? ⟨w.heap.size, 0, none⟩ = some (.int .i64 kind) ∧ (w.alloc (.cells (stp kind who n m b z nth).toArray t)).cell? ⟨w.heap.size, 1, none⟩ = some (.int .i64 who) ∧
    (w.alloc (.cells (stp kind who n m b z nth).toArray t)).cell? ⟨w.heap.size, 2, none⟩ = some (.int .u64 n) ∧ (w.alloc (.cells (stp kind who n m b z nth).toArray t)).cell? ⟨w.heap.size, 4, none⟩ = some b ∧
    (w.alloc (.cells (stp kind who n m b z nth).toArray t)).cell? ⟨w.heap.size, 37, none⟩ = some (.int .u8 nth) ∧
    (w.alloc (.cells (stp kind who n m b z nth).toArray t)).rangeAt w.heap.size 5 (bs z) ∧ (w.alloc (.cells (stp kind who n m b z nth).toArray t)).rangeAt w.heap.size 5 (bs (z ++ [nth])) := by
  have hc := fun j => cell_of_row (w.alloc (.cells (stp kind who n m b z nth).toArray t)) w.heap.size j _ t _ (heap_alloc_new _ _)
  refine ⟨by rw [hc]; rfl, by rw [hc]; rfl, by rw [hc]; rfl, by rw [hc]; rfl, ?_, ?_, ?_⟩
  · rw [hc]; simp [stp, bs, hz]
  · intro j u hu
    rw [hc]
    have hj := (List.getElem?_eq_some_iff.1 hu).1
    have e : 5 + j = j + 1 + 1 + 1 + 1 + 1 := by omega
    simp only [stp, bs_app, e]
    simp [List.getElem?_append_left hj, hu]
  · intro j u hu
    rw [hc]
    have e : 5 + j = j + 1 + 1 + 1 + 1 + 1 := by omega
    simp only [stp, e]
    simp [hu]

set_option maxRecDepth 100000 in
set_option maxHeartbeats 2000000 in
theorem lay_any {w : World} {p o : Nat} {cs : Array Value} {t : TypeId} {v b : Value} {l m : List Int} (h : WS w p o cs t v l) (hs : Src w b m) (hsp : ∀ k, b.ownBlock = some k → k ≠ p ∧ some k ≠ v.ownBlock)
    (kind who : Int) (n : Nat) (mm : Int) (z : List Int) (nth : Int) (hz : z.length = 32) (hn : n < 18446744073709551616) (hl : l.length + m.length + 33 ≤ 140737488355328) :
    Calls Try.prog 10 #[.pointer (some ⟨p, o, none⟩), .agg (stp kind who n mm b z nth).toArray] w fun e w' => e = .returned (.tuple #[]) ∧ PW w w' p o cs t v (l ++ lays kind n m z nth) := by
  have H : Hid _ := h
  have HS : Hid _ := hs
  have HP : Hid _ := hsp
  obtain ⟨hc0, _, hc2, hc4, hc37, hr1, hr2⟩ := stp_cell w kind who n mm b z nth 35 hz
  obtain ⟨a0, c0, hs2⟩ := hs.form
  subst hs2
  clear h hs hsp
  have S1 : Hid _ := Src.kept HS.out ((Chg.refl (fun _ => False) w).alloc (.cells (stp kind who n mm (.slice a0 m.length c0) z nth).toArray 35)) (fun _ _ h => h)
  by_cases h1 : kind = 1
  · subst h1
    go_enter Try.func10, Try.ntmps10
    go_wp2_with fail
    refine (wByte_any (H.out.alloc _) _ (by omega)).mono ?_
    rintro e w2 ⟨rfl, P2⟩
    have R : Hid _ := P2.alloc
    clear P2
    go_wp2_with fail
    exact bodyPost_end (results_none rfl _ _ _) rfl ⟨rfl, by simp [lays]; exact R.out⟩
  by_cases h2 : kind = 2
  · subst h2
    go_enter Try.func10, Try.ntmps10
    go_wp2_with fail
    refine (wWord_any (H.out.alloc _) _ (by omega) (by omega) (by omega)).mono ?_
    rintro e w2 ⟨rfl, P2⟩
    have R : Hid _ := P2.alloc
    clear P2
    go_wp2_with fail
    exact bodyPost_end (results_none rfl _ _ _) rfl ⟨rfl, by simp [lays]; exact R.out⟩
  by_cases h3 : kind = 3
  · subst h3
    go_enter Try.func10, Try.ntmps10
    go_wp2_with fail
    refine (wLong_any (H.out.alloc _) n (by omega) (by omega) (by omega)).mono ?_
    rintro e w2 ⟨rfl, P2⟩
    have R : Hid _ := P2.alloc
    clear P2
    go_wp2_with fail
    exact bodyPost_end (results_none rfl _ _ _) rfl ⟨rfl, by simp [lays]; exact R.out⟩
  by_cases h4 : kind = 4
  · subst h4
    go_enter Try.func10, Try.ntmps10
    go_wp2_with fail
    refine (wUint_any (H.out.alloc _) n hn (by omega)).mono ?_
    rintro e w2 ⟨rfl, P2⟩
    have R : Hid _ := P2.alloc
    clear P2
    go_wp2_with fail
    exact bodyPost_end (results_none rfl _ _ _) rfl ⟨rfl, by simp [lays]; exact R.out⟩
  by_cases h5 : kind = 5
  · subst h5
    go_enter Try.func10, Try.ntmps10
    go_wp2_with fail
    refine (wRaw_any (H.out.alloc _) S1.out (by omega)).mono ?_
    rintro e w2 ⟨rfl, P2⟩
    have R : Hid _ := P2.alloc
    clear P2
    go_wp2_with fail
    exact bodyPost_end (results_none rfl _ _ _) rfl ⟨rfl, by simp [lays]; exact R.out⟩
  by_cases h6 : kind = 6
  · subst h6
    go_enter Try.func10, Try.ntmps10
    go_wp2_with fail
    refine (wText_any (H.out.alloc _) S1.out HP.out (by omega)).mono ?_
    rintro e w2 ⟨rfl, P2⟩
    have R : Hid _ := P2.alloc
    clear P2
    go_wp2_with fail
    exact bodyPost_end (results_none rfl _ _ _) rfl ⟨rfl, by simp [lays]; exact R.out⟩
  by_cases h7 : kind = 7
  · subst h7
    go_enter Try.func10, Try.ntmps10
    go_wp2_with (refine wpList_load_mid rfl 31 (.tmp 48) rfl w.heap.size 5 rfl (bs z) _ hr1 Try.underlying31 rfl (by rw [Try.sz31, bs_len, hz]) ?_)
    refine (wSum_any (H.out.alloc _) z hz (by omega)).mono ?_
    rintro e w2 ⟨rfl, P2⟩
    have R : Hid _ := P2.alloc
    clear P2
    go_wp2_with fail
    exact bodyPost_end (results_none rfl _ _ _) rfl ⟨rfl, by simp [lays]; exact R.out⟩
  by_cases h8 : kind = 8
  · subst h8
    go_enter Try.func10, Try.ntmps10
    go_wp2_with (refine wpList_load_mid rfl 33 (.tmp 54) rfl w.heap.size 5 rfl (bs (z ++ [nth])) _ hr2 Try.underlying33 rfl (by rw [Try.sz33, bs_len, List.length_append, hz]; rfl) ?_)
    refine (wAddr_any (H.out.alloc _) z nth hz (by omega)).mono ?_
    rintro e w2 ⟨rfl, P2⟩
    have R : Hid _ := P2.alloc
    clear P2
    go_wp2_with fail
    exact bodyPost_end (results_none rfl _ _ _) rfl ⟨rfl, by simp [lays]; exact R.out⟩
  have HL : Hid _ := (show lays kind n m z nth = [] by simp [lays, h1, h2, h3, h4, h5, h6, h7, h8])
  have hin : cs.setIfInBounds o v = cs := by
    apply Array.ext_getElem?
    intro i
    rw [Array.getElem?_setIfInBounds]
    have := H.out.at_
    have := (Array.getElem?_eq_some_iff.1 H.out.at_).1
    split <;> simp_all
  have HI : Hid _ := hin
  clear hin
  go_enter Try.func10, Try.ntmps10
  go_wp2_with fail
  refine bodyPost_end (results_none rfl _ _ _) rfl ⟨rfl, v, ?_, (Chg.refl _ _).alloc _, .inl rfl⟩
  rw [HL.out, List.append_nil, HI.out]
  exact H.out.alloc _

end Go.Proofs.Ytjmeaebehndheaa

/-
  The walk of laid.
-/
namespace Go.Proofs.Ytjmeaebehndheaa
open Go.RowKit

theorem Made.alloc {w w1 : World} {v : Value} {l : List Int} (h : Made w w1 v l) (ob : Obj) : Made w (w1.alloc ob) v l := ⟨h.1.alloc ob, h.2.1.alloc h.2.1.size ob, h.2.2⟩
theorem Made.nil (w : World) : Made w w (.slice none 0 0) [] := ⟨Own.nil _, Below.refl _ _, fun j h => by simp [Value.ownBlock] at h⟩
theorem take_one {z : List Int} {k : Nat} (h : k < z.length) : z.take k ++ [z[k]] = z.take (k + 1) := by rw [List.take_succ_eq_append_getElem h]

set_option maxRecDepth 100000 in
set_option maxHeartbeats 2000000 in
theorem laid_any {w : World} {b : Value} {m : List Int} (hs : Src w b m)
    (kind who : Int) (n : Nat) (mm : Int) (z : List Int) (nth : Int) (hz : z.length = 32) (hn : n < 18446744073709551616) (hl : m.length + 33 ≤ 140737488355328) :
    Calls Try.prog 12 #[.agg (stp kind who n mm b z nth).toArray] w fun e w' => ∃ v, e = .returned v ∧ Src w' v (lays kind n m z nth) ∧ Below w.heap.size w w' := by
  have HS : Hid _ := hs
  obtain ⟨hc0, _, hc2, hc4, hc37, hr1, _⟩ := stp_cell w kind who n mm b z nth 35 hz
  obtain ⟨a0, c0, hs2⟩ := hs.form
  subst hs2
  have HR : Hid _ := hr1
  clear hs hr1
  have S1 : Hid _ := Src.kept HS.out ((Chg.refl (fun _ => False) w).alloc (.cells (stp kind who n mm (.slice a0 m.length c0) z nth).toArray 35)) (fun _ _ h => h)
  have B0 : Hid (Below w.heap.size w (w.alloc (.cells (stp kind who n mm (.slice a0 m.length c0) z nth).toArray 35))) := (Below.refl _ _).alloc (Nat.le_refl _) _
  by_cases h1 : kind = 1
  · subst h1
    go_enter Try.func12, Try.ntmps12
    go_wp2_with fail
    refine (high_any _ 1 (by omega) n hn).mono ?_
    rintro e w2 ⟨v2, rfl, P2, b2, _⟩
    have R : Hid _ := P2
    have B2 : Hid _ := b2
    clear P2 b2
    go_wp2_with fail
    go_ret
    refine ⟨v2, rfl, ?_, B0.out.trans (B2.out.mono (by simp))⟩
    simp only [lays]
    simp
    rw [← high1]
    exact Own.src R.out
  by_cases h2 : kind = 2
  · subst h2
    go_enter Try.func12, Try.ntmps12
    go_wp2_with fail
    refine (high_any _ 4 (by omega) n hn).mono ?_
    rintro e w2 ⟨v2, rfl, P2, b2, _⟩
    have R : Hid _ := P2
    have B2 : Hid _ := b2
    clear P2 b2
    go_wp2_with fail
    go_ret
    refine ⟨v2, rfl, ?_, B0.out.trans (B2.out.mono (by simp))⟩
    simp only [lays]
    simp
    rw [← high4]
    exact Own.src R.out
  by_cases h3 : kind = 3
  · subst h3
    go_enter Try.func12, Try.ntmps12
    go_wp2_with fail
    refine (high_any _ 8 (by omega) n hn).mono ?_
    rintro e w2 ⟨v2, rfl, P2, b2, _⟩
    have R : Hid _ := P2
    have B2 : Hid _ := b2
    clear P2 b2
    go_wp2_with fail
    go_ret
    refine ⟨v2, rfl, ?_, B0.out.trans (B2.out.mono (by simp))⟩
    simp only [lays]
    simp
    rw [← high8 n hn]
    exact Own.src R.out
  by_cases h4 : kind = 4
  · subst h4
    go_enter Try.func12, Try.ntmps12
    go_wp2_with fail
    refine (num_any n hn _).mono ?_
    rintro e w2 ⟨v2, rfl, P2, b2, _⟩
    have R : Hid _ := P2
    have B2 : Hid _ := b2
    clear P2 b2
    go_wp2_with fail
    go_ret
    refine ⟨v2, rfl, ?_, B0.out.trans (B2.out.mono (by simp))⟩
    simp only [lays]
    simp
    skip
    exact Own.src R.out
  by_cases h5 : kind = 5
  · subst h5
    go_enter Try.func12, Try.ntmps12
    go_wp2_with fail
    go_ret
    refine ⟨_, rfl, ?_, B0.out⟩
    simp only [lays]
    simp
    exact S1.out
  by_cases h6 : kind = 6
  · subst h6
    go_enter Try.func12, Try.ntmps12
    go_wp2_with fail
    refine (text_any S1.out (by omega)).mono ?_
    rintro e w2 ⟨v2, rfl, P2, b2, _⟩
    have R : Hid _ := P2
    have B2 : Hid _ := b2
    clear P2 b2
    go_wp2_with fail
    go_ret
    refine ⟨v2, rfl, ?_, B0.out.trans (B2.out.mono (by simp))⟩
    simp only [lays]
    simp
    skip
    exact Own.src R.out
  by_cases h7 : kind = 7
  · subst h7
    go_enter Try.func12, Try.ntmps12
    go_wp2_with fail
    go_loopw [3, 4] (fun u i wr => ∃ k : Nat, k ≤ 32 ∧ i = .int .i64 k ∧ Made (w.alloc (.cells (stp 7 who n mm (.slice a0 m.length c0) z nth).toArray 35)) wr u (z.take k)) (fun _ i _ => 32 - (intOf i).toNat)
    case atStart => exact ⟨0, Nat.zero_le _, rfl, Made.nil _⟩
    case round =>
      obtain ⟨k, hk, rfl, hmd⟩ := hrel
      by_cases hlt : k < 32
      · have hzl : k < z.length := by omega
        obtain ⟨x, hx⟩ : ∃ x, x = z[k]'hzl := ⟨_, rfl⟩
        have hcell : wr.cell? ⟨w.heap.size, 5 + k, none⟩ = some (.int .u8 x) := by
          rw [hmd.2.1.cell (by simp), hx]
          exact HR.out k _ (bs_get z k (by omega))
        have HX : Hid _ := (show z.take k ++ [x] = z.take (k + 1) by rw [hx]; exact take_one hzl)
        have hbd : (z.take k).length + [x].length ≤ 140737488355328 := by simp; omega
        clear hx
        have M1 : Hid _ := hmd
        clear hmd
        go_wp2_with (refine wpList_app rfl (.tmp 43) (.tmp 49) rfl (v := u3) rfl rfl (Made.alloc M1.out _).1 (src_new _ [x] 1) hbd ?_; intro v' w2 hv hch hat; have R : Hid _ := Made.app (Made.alloc M1.out _) hv hch hat; clear hv hch hat)
        go_roundw
        case rel => exact ⟨k + 1, by omega, by go_num, by rw [← HX.out]; exact R.out⟩
        case measure => simp [intOf]; omega
      · have ht : z.take k = z := List.take_of_length_le (by omega)
        rw [ht] at hmd
        have R : Hid _ := hmd
        have hc0' := hmd.2.1.cell (p := ⟨w.heap.size, 0, none⟩) (by simp)
        rw [hc0] at hc0'
        have hc37' := hmd.2.1.cell (p := ⟨w.heap.size, 37, none⟩) (by simp)
        rw [hc37] at hc37'
        clear hmd ht
        go_wp2_with fail
        go_ret
        refine ⟨_, rfl, ?_, B0.out.trans (R.out.2.1.mono (by simp))⟩
        simp only [lays]
        simp
        exact Own.src R.out.1
  by_cases h8 : kind = 8
  · subst h8
    go_enter Try.func12, Try.ntmps12
    go_wp2_with fail
    go_loopw [3, 4] (fun u i wr => ∃ k : Nat, k ≤ 32 ∧ i = .int .i64 k ∧ Made (w.alloc (.cells (stp 8 who n mm (.slice a0 m.length c0) z nth).toArray 35)) wr u (z.take k)) (fun _ i _ => 32 - (intOf i).toNat)
    case atStart => exact ⟨0, Nat.zero_le _, rfl, Made.nil _⟩
    case round =>
      obtain ⟨k, hk, rfl, hmd⟩ := hrel
      by_cases hlt : k < 32
      · have hzl : k < z.length := by omega
        obtain ⟨x, hx⟩ : ∃ x, x = z[k]'hzl := ⟨_, rfl⟩
        have hcell : wr.cell? ⟨w.heap.size, 5 + k, none⟩ = some (.int .u8 x) := by
          rw [hmd.2.1.cell (by simp), hx]
          exact HR.out k _ (bs_get z k (by omega))
        have HX : Hid _ := (show z.take k ++ [x] = z.take (k + 1) by rw [hx]; exact take_one hzl)
        have hbd : (z.take k).length + [x].length ≤ 140737488355328 := by simp; omega
        clear hx
        have M1 : Hid _ := hmd
        clear hmd
        go_wp2_with (refine wpList_app rfl (.tmp 43) (.tmp 49) rfl (v := u3) rfl rfl (Made.alloc M1.out _).1 (src_new _ [x] 1) hbd ?_; intro v' w2 hv hch hat; have R : Hid _ := Made.app (Made.alloc M1.out _) hv hch hat; clear hv hch hat)
        go_roundw
        case rel => exact ⟨k + 1, by omega, by go_num, by rw [← HX.out]; exact R.out⟩
        case measure => simp [intOf]; omega
      · have ht : z.take k = z := List.take_of_length_le (by omega)
        rw [ht] at hmd
        have R : Hid _ := hmd
        have hc0' := hmd.2.1.cell (p := ⟨w.heap.size, 0, none⟩) (by simp)
        rw [hc0] at hc0'
        have hc37' := hmd.2.1.cell (p := ⟨w.heap.size, 37, none⟩) (by simp)
        rw [hc37] at hc37'
        clear hmd ht
        go_wp2_with (refine wpList_app rfl (.tmp 54) (.tmp 58) rfl (v := u3) rfl rfl (Made.alloc R.out _).1 (src_new _ [nth] 1) (by simp; omega) ?_; intro v' w2 hv hch hat; have R2 : Hid _ := Made.app (Made.alloc R.out _) hv hch hat; clear hv hch hat)
        go_ret
        refine ⟨_, rfl, ?_, B0.out.trans (R2.out.2.1.mono (by simp))⟩
        simp only [lays]
        simp
        exact Own.src R2.out.1
  have HL : Hid _ := (show lays kind n m z nth = [] by simp [lays, h1, h2, h3, h4, h5, h6, h7, h8])
  go_enter Try.func12, Try.ntmps12
  go_wp2_with fail
  go_ret
  refine ⟨_, rfl, ?_, B0.out⟩
  rw [HL.out]
  exact .inl ⟨rfl, rfl⟩

end Go.Proofs.Ytjmeaebehndheaa
