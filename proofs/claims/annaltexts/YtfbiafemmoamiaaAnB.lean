/-
  The reference: High, sum; blocks.
-/
import Derived.Test.YtfbiafemmoamiaaAnA
import Derived.Deep.MidRow
import Derived.Laws.CopyOwn
namespace Go.Proofs.Ytfbiafemmoamiaa
open Go.RowKit

/-- Block g has these cells. -/
structure Blk (w : World) (g : Nat) (cs : List Value) (t : TypeId) : Prop where
  eq : w.heap[g]? = some (.cells cs.toArray t (0, 0))

theorem Blk.lt {w : World} {g : Nat} {cs : List Value} {t : TypeId} (h : Blk w g cs t) : g < w.heap.size := (Array.getElem?_eq_some_iff.1 h.eq).1
theorem Blk.cell {w : World} {g : Nat} {cs : List Value} {t : TypeId} (h : Blk w g cs t) (j : Nat) : w.cell? ⟨g, j, none⟩ = cs[j]? := by
  rw [cell_of_row w g j _ t (0, 0) h.eq]; simp
theorem Blk.fr {w : World} {g : Nat} {cs : List Value} {t : TypeId} (h : Blk w g cs t) (j : Nat) : w.frozen? ⟨g, j, none⟩ = false := frozen_of_row w g j _ t h.eq
theorem Blk.keep {w w' : World} {g : Nat} {cs : List Value} {t : TypeId} {S : Nat → Prop} (h : Blk w g cs t) (c : Chg S w w') (hn : ¬ S g) : Blk w' g cs t := ⟨c.heap_some h.eq hn⟩
theorem Blk.keep0 {w w' : World} {g : Nat} {cs : List Value} {t : TypeId} (h : Blk w g cs t) (b : Below w.heap.size w w') : Blk w' g cs t := by
  exact ⟨by rw [b.block g h.lt]; exact h.eq⟩
theorem Blk.made (w : World) (cs : List Value) (t : TypeId) : Blk (w.alloc (.cells cs.toArray t)) w.heap.size cs t := ⟨heap_alloc_new _ _⟩
theorem Blk.alloc {w : World} {g : Nat} {cs : List Value} {t : TypeId} (h : Blk w g cs t) (ob : Obj) : Blk (w.alloc ob) g cs t := h.keep0 ((Below.refl _ _).alloc (Nat.le_refl _) _)
theorem Blk.drew {w : World} {g : Nat} {cs : List Value} {t : TypeId} (h : Blk w g cs t) : Blk w.drew g cs t := ⟨h.eq⟩
theorem Blk.set {w : World} {g : Nat} {cs : List Value} {t : TypeId} (h : Blk w g cs t) (o : Nat) (v : Value) : Blk (w.setCell ⟨g, o, none⟩ v) g (cs.set o v) t := by
  refine ⟨?_⟩
  rw [heap_setCell_same w g o _ t v h.eq]
  simp
theorem Blk.range {w : World} {g : Nat} {cs : List Value} {t : TypeId} (h : Blk w g cs t) {o : Nat} {vs : List Value} (hv : (cs.drop o).take vs.length = vs) : w.rangeAt g o vs := fun j v hj => by
  rw [h.cell]
  rw [← hv, List.getElem?_take] at hj
  split at hj
  · rw [List.getElem?_drop] at hj; exact hj
  · cases hj
theorem Blk.there {w : World} {g : Nat} {cs : List Value} {t : TypeId} (h : Blk w g cs t) {o n : Nat} (hn : o + n ≤ cs.length) : w.there g o n := fun j hj => by
  rw [h.cell]
  refine ⟨?_, h.fr _⟩
  simp; omega

theorem Blk.setCells {g : Nat} {t : TypeId} : ∀ (vs : List Value) (o : Nat) (w : World) (cs : List Value), Blk w g cs t → o + vs.length ≤ cs.length → Blk (w.setCells g o vs) g (splice cs o vs) t ∧ Chg (fun k => k = g) w (w.setCells g o vs)
  | [], o, w, cs, h, _ => by
    refine ⟨?_, Chg.refl _ _⟩
    simpa [splice, World.setCells] using h
  | v :: vs, o, w, cs, h, hl => by
    simp only [List.length_cons] at hl
    have h1 := h.set o v
    obtain ⟨h2, h3⟩ := Blk.setCells vs (o + 1) _ _ h1 (by simp; omega)
    refine ⟨?_, ((Chg.refl (fun k => k = g) w).setCell (.inl rfl) v).trans h3 (fun _ e => .inl e)⟩
    have e : splice (cs.set o v) (o + 1) vs = splice cs o (v :: vs) := by
      unfold splice
      have ho : o < cs.length := by omega
      rw [List.take_set, List.drop_set_of_lt (by omega), List.take_add_one, List.set_append_right _ _ (by simp; omega)]
      simp only [List.getElem?_eq_getElem ho, Option.toList_some, List.length_take, Nat.min_eq_left (Nat.le_of_lt ho), Nat.sub_self, List.set_cons_zero, List.append_assoc, List.length_cons]
      rw [show o + 1 + vs.length = o + (vs.length + 1) by omega]
      rfl
    rw [e] at h2
    exact h2

section
variable {ops : Array Oper} {rest : List Oper} {op : Oper} {a : Act} {w : World} {Q : Exit → Act → World → Prop}
theorem wpList_store_part (hgd : op.guard = none) (ty : TypeId) (x y : Operand) (ho : op.op = .store ty x y)
    (g o : Nat) (vs : List Value) (hx : a.eval x = .pointer (some ⟨g, o, none⟩)) (hy : a.eval y = .agg vs.toArray) {cs : List Value} {t : TypeId} (hg : Blk w g cs t) (hl : o + vs.length ≤ cs.length)
    (hi : (Try.prog.info? ty).map (·.size) = some vs.length) (h1 : ∀ v ∈ vs, v.oneCell' = true)
    (h : ∀ w', Blk w' g (splice cs o vs) t → Chg (fun k => k = g) w w' → wpList Try.prog ops Q rest (a.put op.dst undef) w') : wpList Try.prog ops Q (op :: rest) a w := by
  obtain ⟨h2, h3⟩ := Blk.setCells vs o w cs hg hl
  exact wpList_store_mid hgd ty x y ho g o vs.toArray hx hy (by rw [List.size_toArray]; exact hg.there hl) (by rw [List.size_toArray]; exact hi) (all_oneCell_toArray h1) (by rw [List.toList_toArray]; exact h _ h2 h3)

theorem wpList_load_part (hgd : op.guard = none) (ty : TypeId) (x : Operand) (ho : op.op = .load ty x)
    (g o : Nat) (vs : List Value) (hx : a.eval x = .pointer (some ⟨g, o, none⟩)) {cs : List Value} {t : TypeId} (hg : Blk w g cs t) (hv : (cs.drop o).take vs.length = vs) {d : TypeDesc} (hu : Try.prog.underlying ty = some d) (hd : d.isRow = true)
    (hi : (Try.prog.info? ty).map (·.size) = some vs.length) (h : wpList Try.prog ops Q rest (a.put op.dst (.agg vs.toArray)) w) : wpList Try.prog ops Q (op :: rest) a w :=
  wpList_load_mid hgd ty x ho g o hx vs d (hg.range hv) hu hd hi h
end

theorem splice_all {α : Type} (L cs : List α) (h : cs.length = L.length) : splice L 0 cs = cs := by simp [splice, h]

theorem owns_form {w : World} {v : Value} {n k : Nat} {t : TypeId} {xs : List Value} (h : w.ownsRow 0 t k v n xs) : (v = .slice none 0 0 ∧ n = 0) ∨ ∃ g c, v = .slice (some ⟨g, 0, none⟩) n c := by
  rcases h.2 with ⟨e, h0⟩ | ⟨g, cap, cur, e, _⟩
  · exact .inl ⟨e, h0⟩
  · exact .inr ⟨g, cap, e⟩
theorem own_block {w : World} {v : Value} {l : List Int} (h : Own w v l) {g : Nat} (hg : v.ownBlock = some g) : ∃ cur, w.heap[g]? = some (.cells cur 5 (0, 0)) := by
  rcases h.2 with ⟨e, _⟩ | ⟨b, cap, cur, e, _, hgg, _⟩
  · rw [e] at hg; simp [Value.ownBlock] at hg
  · rw [e] at hg
    simp [Value.ownBlock] at hg
    rw [← hg]
    exact ⟨cur, hgg⟩
theorem Own.set {w : World} {g z cp : Nat} {l : List Int} (h : Own w (.slice (some ⟨g, 0, none⟩) z cp) l) (i : Nat) (x : Int) : Own (w.setCell ⟨g, i, none⟩ (.int .u8 x)) (.slice (some ⟨g, 0, none⟩) z cp) (l.set i x) := by
  refine ⟨by rw [List.length_set, bs_len, List.length_set, Nat.mul_one], ?_⟩
  rcases h.2 with ⟨e, _⟩ | ⟨b, cap, cur, e, hb, hgg, h1, h2, h3, h4⟩
  · cases e
  · injection e with e1 e2 e3
    injection e1 with e1
    injection e1 with e1
    subst e1 e2 e3
    refine .inr ⟨g, cp, cur.setIfInBounds i (.int .u8 x), by rw [List.length_set], hb, heap_setCell_same w g i cur 5 _ hgg, by rw [List.length_set]; exact h1, h2, by simpa using h3, ?_⟩
    rw [List.length_set, Array.toList_setIfInBounds, List.take_set, h4]
    unfold bs
    rw [List.map_set]
theorem Own.byte {w : World} {g z cp : Nat} {l : List Int} (h : Own w (.slice (some ⟨g, 0, none⟩) z cp) l) (i : Nat) (hi : i < l.length) : w.cell? ⟨g, i, none⟩ = some (.int .u8 l[i]) := by
  have := World.ownsRow.cells h (g := g) rfl i (.int .u8 l[i]) (by rw [bs_get _ _ hi])
  rwa [addr_add, Nat.zero_add] at this
theorem Own.frz {w : World} {g z cp : Nat} {l : List Int} (h : Own w (.slice (some ⟨g, 0, none⟩) z cp) l) (i : Nat) : w.frozen? ⟨g, i, none⟩ = false := by
  obtain ⟨cur, e⟩ := own_block h (g := g) rfl
  exact frozen_of_row w g i _ 5 e
theorem Made.app {w w1 w2 : World} {v v' : Value} {l m : List Int} (h : Made w w1 v l) (hv : Own w2 v' (l ++ m)) (hch : Chg (fun k => some k = v.ownBlock) w1 w2) (hat : v'.ownBlock = v.ownBlock ∨ v'.ownBlock = some w1.heap.size) : Made w w2 v' (l ++ m) := by
  refine ⟨hv, ((Chg.of_below h.2.1 (fun _ => False)).trans hch (fun i e => .inr (h.2.2 i e.symm))).below (Nat.le_refl _) (fun _ h => h.elim), fun k hk => ?_⟩
  rcases hat with e | e
  · exact h.2.2 k (by rw [← e]; exact hk)
  · rw [hk] at e; injection e with e; have := h.2.1.size; omega
theorem Made.then {w w1 w2 : World} {v : Value} {l : List Int} (h : Made w w1 v l) (b : Below w1.heap.size w1 w2) : Made w w2 v l :=
  ⟨h.1.kept (Chg.of_below b (fun _ => False)) (fun _ _ h => h), h.2.1.trans (b.mono h.2.1.size), h.2.2⟩
theorem Made.set {w w1 : World} {g z cp : Nat} {l : List Int} (h : Made w w1 (.slice (some ⟨g, 0, none⟩) z cp) l) (i : Nat) (x : Int) : Made w (w1.setCell ⟨g, i, none⟩ (.int .u8 x)) (.slice (some ⟨g, 0, none⟩) z cp) (l.set i x) := by
  have hg := h.2.2 g rfl
  refine ⟨h.1.set i x, ?_, h.2.2⟩
  exact ((Chg.of_below h.2.1 (fun _ => False)).setCell (.inr hg) _).below (Nat.le_refl _) (fun _ h => h.elim)
/-- A number as so many bytes, the highest first. -/
def fx : Nat → Nat → List Int
  | _, 0 => []
  | n, k + 1 => fx (n / 256) k ++ [((n % 256 : Nat) : Int)]
theorem fx_len (n k : Nat) : (fx n k).length = k := by
  induction k generalizing n with
  | zero => rfl
  | succ k ih => simp [fx, ih]
theorem set_rep (k : Nat) (tl : List Int) (x : Int) : (List.replicate (k + 1) 0 ++ tl).set k x = List.replicate k 0 ++ (x :: tl) := by
  rw [List.replicate_succ', List.append_assoc, List.set_append_right _ _ (by simp)]
  simp
set_option maxRecDepth 100000 in
set_option maxHeartbeats 1000000 in
theorem fixed_any {w : World} (n k : Nat) (hn : n < 18446744073709551616) (hk : k ≤ 8) :
    Calls Try.prog 10 #[.int .u64 n, .int .i64 k] w fun e w' => ∃ v, e = .returned v ∧ Made w w' v (fx n k) := by
  have hmk := run_mk k (by omega)
  have M0 : Hid (Made w (w.alloc (.cells (zer k).toArray 5)) (.slice (some ⟨w.heap.size, 0, none⟩) k k) (List.replicate k 0)) := by
    have e : zer k = bs (List.replicate k 0) := by simp [zer, bs]
    have o := own_full (w := w.alloc (.cells (zer k).toArray 5)) (g := w.heap.size) (m := List.replicate k 0) (by simp; omega) (by rw [e]; exact heap_alloc_new _ _)
    rw [List.length_replicate] at o
    exact ⟨o, (Below.refl _ _).alloc (Nat.le_refl _) _, fun g hg => by simp [Value.ownBlock] at hg; omega⟩
  go_enter Try.func10, Try.ntmps10
  go_wp2_with fail
  clear hmk
  go_loopw [0, 6] (fun s0 s6 wr => ∃ (j nj : Nat) (tl : List Int), j ≤ k ∧ s0 = .int .u64 nj ∧ nj < 18446744073709551616 ∧ s6 = .int .i64 ((k : Int) - 1 - j) ∧ Hid (Made w wr (.slice (some ⟨w.heap.size, 0, none⟩) k k) (List.replicate (k - j) 0 ++ tl) ∧ tl.length = j ∧ fx n k = fx nj (k - j) ++ tl)) (fun _ s6 _ => (intOf s6 + 1).toNat)
  case atStart => exact ⟨0, n, [], Nat.zero_le _, rfl, hn, by go_num, by rw [Nat.sub_zero, List.append_nil]; exact M0.out, rfl, by rw [Nat.sub_zero, List.append_nil]⟩
  case round =>
    obtain ⟨j, nj, tl, hj, rfl, hnj, rfl, hid⟩ := hrel
    by_cases hlt : j < k
    · obtain ⟨i, hi⟩ : ∃ i : Nat, k - j = i + 1 := ⟨k - j - 1, by omega⟩
      have hii : (k : Int) - 1 - j = i := by omega
      obtain ⟨md, htl, hfx⟩ := hid.out
      rw [hi] at md hfx
      have cb : wr.cell? ⟨w.heap.size, i, none⟩ = some (.int .u8 ((List.replicate (i + 1) 0 ++ tl)[i]'(by simp; omega))) := md.1.byte i (by simp; omega)
      have fz := md.1.frz i
      obtain ⟨bv, hbv⟩ : ∃ bv, bv = (List.replicate (i + 1) 0 ++ tl)[i]'(by simp; omega) := ⟨_, rfl⟩
      rw [← hbv] at cb
      have R : Hid (∀ x, x = ((nj % 256 : Nat) : Int) → Made w (wr.setCell ⟨w.heap.size, i, none⟩ (.int .u8 x)) (.slice (some ⟨w.heap.size, 0, none⟩) k k) (List.replicate (k - (j + 1)) 0 ++ (((nj % 256 : Nat) : Int) :: tl)) ∧ (((nj % 256 : Nat) : Int) :: tl).length = j + 1 ∧ fx n k = fx (nj / 256) (k - (j + 1)) ++ (((nj % 256 : Nat) : Int) :: tl)) := fun x hx => by
        have e : k - (j + 1) = i := by omega
        rw [e]
        refine ⟨?_, by simp [htl], ?_⟩
        · have := md.set i x
          rw [set_rep] at this
          rw [← hx]
          exact this
        · rw [hfx, fx, List.append_assoc]; rfl
      rw [hii]
      clear hid md htl hfx hbv
      go_wp2_with fail
      go_roundw
      case rel => exact ⟨j + 1, nj / 256, ((nj % 256 : Nat) : Int) :: tl, by omega, by go_num, by omega, by go_num, R.out _ (by first | rfl | omega | go_num)⟩
      case measure => simp [intOf]
    · have hjk : j = k := by omega
      subst hjk
      obtain ⟨md, htl, hfx⟩ := hid.out
      rw [Nat.sub_self] at md hfx
      have R : Hid (Made w wr (.slice (some ⟨w.heap.size, 0, none⟩) j j) (fx n j)) := by
        rw [hfx]
        exact md
      clear hid md htl hfx
      go_wp2_with fail
      go_ret
      exact ⟨_, rfl, R.out⟩
theorem own_new (w : World) (l : List Int) (hl : l.length ≤ 140737488355328) : Own (w.alloc (.cells (bs l).toArray 5)) (.slice (some ⟨w.heap.size, 0, none⟩) l.length l.length) l := own_full hl (heap_alloc_new _ _)
theorem made_new {w0 w : World} (b : Below w0.heap.size w0 w) (l : List Int) (hl : l.length ≤ 140737488355328) : Made w0 (w.alloc (.cells (bs l).toArray 5)) (.slice (some ⟨w.heap.size, 0, none⟩) l.length l.length) l :=
  ⟨own_new w l hl, b.alloc b.size _, fun k hk => by simp [Value.ownBlock] at hk; have := b.size; omega⟩
theorem src_box {w1 : World} {z : List Int} (hz : z.length = 32) {g : Nat} (h : Blk w1 g (bs z) 24) : Src w1 (.slice (some ⟨g, 0, none⟩) 32 32) z :=
  .inr ⟨_, _, by rw [hz], fun j u hu => ⟨rfl, by rw [h.cell]; simpa using hu⟩⟩
set_option maxRecDepth 100000 in
set_option maxHeartbeats 1000000 in
theorem xsum_any {w : World} (z : List Int) (hz : z.length = 32) :
    Calls Try.prog 11 #[.agg (bs z).toArray] w fun e w' => ∃ v, e = .returned v ∧ Made w w' v z := by
  go_enter Try.func11, Try.ntmps11
  go_wp2_with fail
  go_loopw [3, 4] (fun u i wr => ∃ k : Nat, k ≤ 32 ∧ i = .int .i64 k ∧ Made (w.alloc (.cells (bs z).toArray 24)) wr u (z.take k)) (fun _ i _ => 32 - (intOf i).toNat)
  case atStart => exact ⟨0, Nat.zero_le _, rfl, Made.nil _⟩
  case round =>
    obtain ⟨k, hk, rfl, hmd⟩ := hrel
    by_cases hlt : k < 32
    · have hzl : k < z.length := by omega
      obtain ⟨x, hx⟩ : ∃ x, x = z[k]'hzl := ⟨_, rfl⟩
      have hcell : wr.cell? ⟨w.heap.size, k, none⟩ = some (.int .u8 x) := by
        rw [hmd.2.1.cell (by simp), hx, cell_of_row _ _ k _ 24 _ (heap_alloc_new _ _)]
        simpa using bs_get z k hzl
      have HX : Hid _ := (show z.take k ++ [x] = z.take (k + 1) by rw [hx]; exact take_one hzl)
      have hbd : (z.take k).length + [x].length ≤ 140737488355328 := by simp; omega
      have M1 : Hid _ := hmd
      clear hmd hx
      go_wp2_with (refine wpList_app rfl (.tmp 9) (.tmp 13) rfl (v := u3) rfl rfl (Made.alloc M1.out _).1 (src_new _ [x] 1) hbd ?_; intro v' w2 hv hch hat; have R : Hid _ := Made.app (Made.alloc M1.out _) hv hch hat; clear hv hch hat)
      go_roundw
      case rel => exact ⟨k + 1, by omega, by go_num, by rw [← HX.out]; exact R.out⟩
      case measure => simp [intOf]; omega
    · have ht : z.take k = z := List.take_of_length_le (by omega)
      rw [ht] at hmd
      have R : Hid _ := hmd
      clear hmd ht
      go_wp2_with fail
      go_ret
      exact ⟨_, rfl, R.out.1, ((Below.refl _ _).alloc (Nat.le_refl _) _).trans (R.out.2.1.mono (by simp)), fun j hj => by have := R.out.2.2 j hj; simp at this; omega⟩

end Go.Proofs.Ytfbiafemmoamiaa
