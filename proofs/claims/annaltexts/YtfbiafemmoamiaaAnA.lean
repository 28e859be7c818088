/-
  Byte slices in memory: what is read, what is owned, what a call changes; append onto an owned one.
-/
import Derived.Test.YtfbiafemmoamiaaRows
import Derived.WalkKit
import Derived.WalkSpells
import Derived.WalkLawsBesides
import Derived.Lib.BitFns
import Derived.BigQuiet
import Derived.Deep.QuietTactic
import Derived.Deep.RegionHeld3
import Derived.Deep.AppendLies
import Derived.OwnWalk
import Derived.Below
namespace Go.Proofs.Ytfbiafemmoamiaa
open Go.RowKit

/-- Bytes as cells. -/
def bs (l : List Int) : List Value := l.map (Value.int .u8)
theorem bs_len (l : List Int) : (bs l).length = l.length := by simp [bs]
theorem bs_app (l m : List Int) : bs (l ++ m) = bs l ++ bs m := by simp [bs]
theorem bs_one (l : List Int) : ∀ u ∈ bs l, u.oneCell' = true := by
  intro u hu
  simp only [bs, List.mem_map] at hu
  obtain ⟨x, _, rfl⟩ := hu
  rfl
theorem bs_get (l : List Int) (j : Nat) (h : j < l.length) : (bs l)[j]? = some (.int .u8 (l[j])) := by simp [bs, h]

/-- A slice of bytes whose cells are these. -/
def Src (w : World) (s : Value) (l : List Int) : Prop :=
  (s = .slice none 0 0 ∧ l = []) ∨ ∃ a c, s = .slice (some a) l.length c ∧ ∀ j u, (bs l)[j]? = some u → a.spot = none ∧ w.cell? ⟨a.block, a.off + j, none⟩ = some u

/-- A slice of bytes that lies alone in a row of its own. -/
def Own (w : World) (v : Value) (l : List Int) : Prop := w.ownsRow 0 5 1 v l.length (bs l)

/-- Only blocks in S have turned, and some were made. -/
structure Chg (S : Nat → Prop) (w w' : World) : Prop where
  os : w'.os = w.os
  tape : w'.tape = w.tape
  output : w'.output = w.output
  size : w.heap.size ≤ w'.heap.size
  block : ∀ k, k < w.heap.size → ¬ S k → w'.heap[k]? = w.heap[k]?

theorem Chg.refl (S : Nat → Prop) (w : World) : Chg S w w := ⟨rfl, rfl, rfl, Nat.le_refl _, fun _ _ _ => rfl⟩
theorem Chg.drew {S : Nat → Prop} {a w : World} (h : Chg S a w) : Chg S a w.drew := ⟨h.os, h.tape, h.output, h.size, h.block⟩
theorem Chg.alloc {S : Nat → Prop} {a w : World} (h : Chg S a w) (o : Obj) : Chg S a (w.alloc o) :=
  ⟨h.os, h.tape, h.output, Nat.le_trans h.size (by simp), fun k hk hn => (Below.heap_alloc w o k (Nat.lt_of_lt_of_le hk h.size)).trans (h.block k hk hn)⟩
theorem Chg.setCell {S : Nat → Prop} {a w : World} (h : Chg S a w) {p : Addr} (hp : S p.block ∨ a.heap.size ≤ p.block) (u : Value) : Chg S a (w.setCell p u) :=
  ⟨h.os, h.tape, h.output, Nat.le_trans h.size (by simp), fun k hk hn => (Below.heap_setCell w p u k (fun e => by subst e; rcases hp with hp | hp; exact hn hp; omega)).trans (h.block k hk hn)⟩
theorem Chg.trans {S T : Nat → Prop} {a b c : World} (h : Chg S a b) (k : Chg T b c) (hT : ∀ i, T i → S i ∨ a.heap.size ≤ i) : Chg S a c :=
  ⟨k.os.trans h.os, k.tape.trans h.tape, k.output.trans h.output, Nat.le_trans h.size k.size, fun i hi hn => (k.block i (Nat.lt_of_lt_of_le hi h.size) (fun ht => by rcases hT i ht with x | x; exact hn x; omega)).trans (h.block i hi hn)⟩
theorem Chg.of_grown {w w' : World} {row : Option Nat} (h : w.grownBy w' row) : Chg (fun k => some k = row) w w' := ⟨h.os, h.tape, h.output, h.size, fun k hk hn => h.block k hk hn⟩
theorem Chg.of_below {w w' : World} (h : Below w.heap.size w w') (S : Nat → Prop) : Chg S w w' := ⟨h.os, h.tape, h.output, h.size, fun k hk _ => h.block k hk⟩
theorem Chg.below {w w' : World} {S : Nat → Prop} (h : Chg S w w') {B : Nat} (hB : B ≤ w.heap.size) (hS : ∀ k, S k → B ≤ k) : Below B w w' := ⟨h.os, h.tape, h.output, h.size, fun k hk => h.block k (by omega) (fun s => by have := hS k s; omega)⟩
theorem Chg.mono {w w' : World} {S T : Nat → Prop} (h : Chg S w w') (hT : ∀ i, i < w.heap.size → S i → T i) : Chg T w w' := ⟨h.os, h.tape, h.output, h.size, fun k hk hn => h.block k hk (fun s => hn (hT k hk s))⟩
theorem Chg.cell {w w' : World} {S : Nat → Prop} (h : Chg S w w') {a : Addr} (hlt : a.block < w.heap.size) (hn : ¬ S a.block) : w'.cell? a = w.cell? a := World.cell?_of_block (h.block a.block hlt hn)
theorem Chg.cell_some {w w' : World} {S : Nat → Prop} (h : Chg S w w') {a : Addr} {v : Value} (hc : w.cell? a = some v) (hn : ¬ S a.block) : w'.cell? a = some v := (h.cell (World.block_lt_of_cell? _ _ hc) hn).trans hc
theorem Chg.heap_some {w w' : World} {S : Nat → Prop} (h : Chg S w w') {k : Nat} {o : Obj} (hc : w.heap[k]? = some o) (hn : ¬ S k) : w'.heap[k]? = some o := (h.block k (Array.getElem?_eq_some_iff.1 hc).1 hn).trans hc

theorem Own.lt {w : World} {v : Value} {l : List Int} (h : Own w v l) {k : Nat} (hk : v.ownBlock = some k) : k < w.heap.size := (World.ownsRow.lt h k hk).2
theorem Own.kept {w w' : World} {S : Nat → Prop} {v : Value} {l : List Int} (h : Own w v l) (c : Chg S w w') (hn : ∀ k, v.ownBlock = some k → ¬ S k) : Own w' v l := by
  refine ⟨h.1, ?_⟩
  rcases h.2 with hn' | ⟨g, cap, cur, rfl, hb, hgg, rest⟩
  · exact .inl hn'
  · exact .inr ⟨g, cap, cur, rfl, hb, c.heap_some hgg (hn g rfl), rest⟩
theorem Own.nil (w : World) : Own w (.slice none 0 0) [] := World.ownsRow_nil w 0 5 1
theorem addr_add (b off i : Nat) : (⟨b, off, none⟩ : Addr).add i = ⟨b, off + i, none⟩ := by unfold Addr.add; split <;> simp_all
theorem Own.src {w : World} {v : Value} {l : List Int} (h : Own w v l) : Src w v l := by
  rcases h.2 with ⟨rfl, h0⟩ | ⟨g, cap, cur, rfl, hb, hgg, rest⟩
  · exact .inl ⟨rfl, List.eq_nil_of_length_eq_zero h0⟩
  · refine .inr ⟨⟨g, 0, none⟩, cap, rfl, fun j u hu => ⟨rfl, ?_⟩⟩
    have := World.ownsRow.cells h (g := g) rfl j u hu
    rwa [addr_add] at this
theorem Own.form {w : World} {v : Value} {l : List Int} (h : Own w v l) : ∃ a c, v = .slice a l.length c := by
  rcases h.2 with ⟨rfl, h0⟩ | ⟨g, cap, cur, rfl, _⟩
  · exact ⟨none, 0, by rw [h0]⟩
  · exact ⟨_, _, rfl⟩
theorem Src.form {w : World} {v : Value} {l : List Int} (h : Src w v l) : ∃ a c, v = .slice a l.length c := by
  rcases h with ⟨rfl, rfl⟩ | ⟨a, c, rfl, _⟩
  · exact ⟨none, 0, rfl⟩
  · exact ⟨_, _, rfl⟩
theorem Src.kept {w w' : World} {S : Nat → Prop} {v : Value} {l : List Int} (h : Src w v l) (c : Chg S w w') (hn : ∀ k, v.ownBlock = some k → ¬ S k) : Src w' v l := by
  rcases h with h | ⟨a, cap, rfl, hc⟩
  · exact .inl h
  · exact .inr ⟨a, cap, rfl, fun j u hu => ⟨(hc j u hu).1, c.cell_some (hc j u hu).2 (hn a.block rfl)⟩⟩
theorem Src.kept0 {w w' : World} {v : Value} {l : List Int} (h : Src w v l) (c : Below w.heap.size w w') : Src w' v l := h.kept (Chg.of_below c (fun _ => False)) (fun _ _ h => h)

theorem info5 : (Try.prog.info? 5).map (fun i => (i.zero, i.size, i.bytes)) = some (some (.int .u8 0), 1, 1) := by kernel_rfl

/-- append of bytes onto a slice that lies alone. -/
theorem run_app (w : World) (ty : TypeId) {v s : Value} {l m : List Int} (hv : Own w v l) (hs : Src w s m) (hb : l.length + m.length ≤ 140737488355328) :
    ∃ v' w', (Builtin.append_ #[28, 28] ty #[v, s]).run Try.prog w = .ok v' w' ∧ Own w' v' (l ++ m) ∧ Chg (fun k => some k = v.ownBlock) w w' ∧ (v'.ownBlock = v.ownBlock ∨ v'.ownBlock = some w.heap.size) := by
  obtain ⟨i0, hi, hz0, hz1, hz2⟩ := info_parts info5
  rcases hs with ⟨rfl, rfl⟩ | ⟨a, c, rfl, hc⟩
  · rcases hv.2 with ⟨rfl, h0⟩ | ⟨g, cap, cur, rfl, hbb, hgg, hle, rest⟩
    · have := List.eq_nil_of_length_eq_zero h0
      subst this
      refine ⟨.slice none 0 0, w, ?_, Own.nil w, Chg.refl _ _, .inl rfl⟩
      simp [Builtin.append_, run_underlying Try.underlying28, sizeOf, typeInfo, hi, Builtin.lenOf, Builtin.firstCells]
    · refine ⟨_, w, ?_, by rw [List.append_nil]; exact hv, Chg.refl _ _, .inl rfl⟩
      simp [Builtin.append_, run_underlying Try.underlying28, sizeOf, typeInfo, hi, Builtin.lenOf, Builtin.firstCells, storeCells, hle]
      try rfl
  · obtain ⟨v', w', h1, h2, h3, _, h5⟩ := run_append_own_at (P := Try.prog) w 0 28 ty 5 i0 (.int .u8 0) 1 1 Try.underlying28 hi hz0 hz1 hz2 rfl (by decide) v l.length (bs l) hv a m.length c (bs m) (by rw [bs_len, Nat.mul_one]) (fun j u hu => by obtain ⟨h1, h2⟩ := hc j u hu; obtain ⟨b, o, sp⟩ := a; simp only at h1; subst h1; rw [addr_add]; exact h2) (bs_one m) (by unfold maxLen; omega) (by omega) (Nat.zero_le _)
    exact ⟨v', w', h1, by unfold Own; rw [List.length_append, bs_app]; exact h2, Chg.of_grown h3, h5⟩

theorem wpList_app {ops : Array Oper} {rest : List Oper} {o : Oper} {a : Act} {w : World} {Q : Exit → Act → World → Prop} (hgd : o.guard = none) (s x : Operand)
    (ho : o.op = .call { callee := .builtin .append, args := #[s, x], argTypes := #[28, 28] })
    {v u : Value} {l m : List Int} (hs : a.eval s = v) (hx : a.eval x = u) (hv : Own w v l) (hu : Src w u m) (hb : l.length + m.length ≤ 140737488355328)
    (h : ∀ v' w', Own w' v' (l ++ m) → Chg (fun k => some k = v.ownBlock) w w' → (v'.ownBlock = v.ownBlock ∨ v'.ownBlock = some w.heap.size) → wpList Try.prog ops Q rest (a.put o.dst v') w') :
    wpList Try.prog ops Q (o :: rest) a w := by
  refine wpList_plain hgd fun K hK => ?_
  obtain ⟨v', w', hr, h2, h3, h5⟩ := run_app w o.type hv hu hb
  unfold Oper.wp execOp
  simp only [ho, resolve, invoke, builtin, Sem.run_bind, Sem.run_pure, Result.andThen_ok, List.map_toArray, List.map_cons, List.map_nil, hs, hx, hr]
  exact hK _ _ (h v' w' h2 h3 h5)

theorem src_new (w : World) (l : List Int) (c : Nat) : Src (w.alloc (.cells (bs l).toArray 5)) (.slice (some ⟨w.heap.size, 0, none⟩) l.length c) l :=
  .inr ⟨_, _, rfl, fun j u hu => ⟨rfl, by
    rw [cell_of_row _ _ _ (bs l).toArray 5 _ (heap_alloc_new _ _)]
    simpa using hu⟩⟩
/-- A slice that was made by a call. -/
def Made (w w' : World) (v : Value) (l : List Int) : Prop := Own w' v l ∧ Below w.heap.size w w' ∧ ∀ k, v.ownBlock = some k → w.heap.size ≤ k
theorem Made.outer {w0 w w1 : World} {v : Value} {l : List Int} (h : Made w w1 v l) (b0 : Below w0.heap.size w0 w) : Made w0 w1 v l := by
  have := b0.size
  exact ⟨h.1, b0.trans (h.2.1.mono this), fun k hk => by have := h.2.2 k hk; omega⟩
theorem Made.nil (w : World) : Made w w (.slice none 0 0) [] := ⟨Own.nil _, Below.refl _ _, fun j h => by simp [Value.ownBlock] at h⟩
theorem take_one {z : List Int} {k : Nat} (h : k < z.length) : z.take k ++ [z[k]] = z.take (k + 1) := by rw [List.take_succ_eq_append_getElem h]
theorem Made.alloc {w w1 : World} {v : Value} {l : List Int} (h : Made w w1 v l) (ob : Obj) : Made w (w1.alloc ob) v l := ⟨h.1.kept ((Chg.refl (fun _ => False) _).alloc ob) (fun _ _ h => h), h.2.1.alloc h.2.1.size ob, h.2.2⟩
theorem Src.at {w : World} {a : Option Addr} {n c : Nat} {l : List Int} (h : Src w (.slice a n c) l) (k : Nat) (hk : k < l.length) : ∃ g o, a = some ⟨g, o, none⟩ ∧ w.cell? ⟨g, o + k, none⟩ = some (.int .u8 l[k]) := by
  rcases h with ⟨_, rfl⟩ | ⟨⟨g, o, sp⟩, c', e, hc⟩
  · simp at hk
  · injection e with e1 e2 e3
    obtain ⟨h1, h2⟩ := hc k _ (bs_get l k hk)
    simp only at h1
    subst h1
    exact ⟨g, o, e1, h2⟩
theorem take_eq_succ {a b : List Int} {k : Nat} (ha : k < a.length) (hb : k < b.length) (h : a.take k = b.take k) (he : a[k] = b[k]) : a.take (k + 1) = b.take (k + 1) := by
  rw [List.take_succ_eq_append_getElem ha, List.take_succ_eq_append_getElem hb, h, he]
theorem ne_of_at {a b : List Int} {k : Nat} (ha : k < a.length) (hb : k < b.length) (he : a[k] ≠ b[k]) : a ≠ b := by
  rintro rfl; exact he rfl
theorem dr3 (w : World) (a b c : Nat) : ∃ n, ((w.drewN a).drewN b).drewN c = w.drewN n := ⟨a + b + c, by simp⟩
theorem drewN_chg (w : World) (n : Nat) (S : Nat → Prop) : Chg S w (w.drewN n) := ⟨rfl, rfl, rfl, Nat.le_refl _, fun _ _ _ => rfl⟩
theorem Src.drewN {w : World} {v : Value} {l : List Int} (h : Src w v l) (n : Nat) : Src (w.drewN n) v l := h
theorem Own.drewN {w : World} {v : Value} {l : List Int} (h : Own w v l) (n : Nat) : Own (w.drewN n) v l := h
set_option maxRecDepth 100000 in
set_option maxHeartbeats 1000000 in
theorem compare_any {w : World} {s u : Value} {a b : List Int} (ha : Src w s a) (hb : Src w u b) (hla : a.length ≤ 9223372036854775807) (_hlb : b.length ≤ 9223372036854775807) :
    Calls Try.prog 9 #[s, u] w fun e w' => (∃ c : Int, e = .returned (.int .i64 c) ∧ (c = 0 ↔ a = b)) ∧ ∃ n, w' = w.drewN n := by
  have HA : Hid _ := ha
  have HB : Hid _ := hb
  obtain ⟨a0, c0, hs2⟩ := ha.form
  obtain ⟨b0, d0, hu2⟩ := hb.form
  subst hs2 hu2
  clear ha hb
  go_enter Try.func9, Try.ntmps9
  go_wp2_with fail
  go_loopw [5] (fun x wr => ∃ (k n : Nat), x = .int .i64 k ∧ wr = w.drewN n ∧ k ≤ a.length ∧ k ≤ b.length ∧ a.take k = b.take k) (fun x _ => a.length - (intOf x).toNat)
  case atStart => exact ⟨0, 0, rfl, rfl, Nat.zero_le _, Nat.zero_le _, rfl⟩
  case round =>
    obtain ⟨k, n, rfl, rfl, hk1, hk2, he⟩ := hrel
    have HE : Hid _ := he
    clear he
    by_cases hlt : k < a.length
    · by_cases hlt2 : k < b.length
      · obtain ⟨g, o, rfl, hc1⟩ := Src.at HA.out k hlt
        obtain ⟨g2, o2, rfl, hc2⟩ := Src.at HB.out k hlt2
        have hc1' : ∀ n, (w.drewN n).cell? ⟨g, o + k, none⟩ = some (.int .u8 a[k]) := fun n => hc1
        have hc2' : ∀ n, (w.drewN n).cell? ⟨g2, o2 + k, none⟩ = some (.int .u8 b[k]) := fun n => hc2
        clear hc1 hc2
        by_cases hab : a[k] = b[k]
        · go_wp2_with fail
          go_quiet (fail)
          go_wp2_with fail
          go_roundw
          case rel => exact ⟨k + 1, _, by go_num, rfl, by omega, by omega, take_eq_succ hlt hlt2 HE.out hab⟩
          case measure => simp [intOf]; omega
        · go_wp2_with fail
          go_quiet (fail)
          go_wp2_with fail
          go_quiet (fail)
          go_wp2_with fail
          all_goals
            go_ret
            exact ⟨⟨_, rfl, by simp; exact ne_of_at hlt hlt2 hab⟩, dr3 _ _ _ _⟩
      · have hne : a ≠ b := fun e => hlt2 (by rw [← e]; exact hlt)
        have HN : Hid _ := hne
        clear hne
        go_wp2_with fail
        all_goals
          go_ret
          exact ⟨⟨_, rfl, by simp; exact HN.out⟩, _, rfl⟩
    · by_cases hlt2 : k < b.length
      · have hne : a ≠ b := fun e => hlt (by rw [e]; exact hlt2)
        have HN : Hid _ := hne
        clear hne
        go_wp2_with fail
        all_goals
          go_ret
          exact ⟨⟨_, rfl, by simp; exact HN.out⟩, _, rfl⟩
      · have hab : a = b := by
          have := HE.out
          rwa [List.take_of_length_le (by omega), List.take_of_length_le (by omega)] at this
        have HN : Hid _ := hab
        clear hab
        go_wp2_with fail
        all_goals
          go_ret
          exact ⟨⟨_, rfl, by simp; exact HN.out⟩, _, rfl⟩
set_option maxRecDepth 100000 in
set_option maxHeartbeats 1000000 in
theorem same_any {w : World} {s u : Value} {a b : List Int} (ha : Src w s a) (hb : Src w u b) (hla : a.length ≤ 9223372036854775807) (hlb : b.length ≤ 9223372036854775807) :
    Calls Try.prog 4 #[s, u] w fun e w' => e = .returned (.bool (decide (a = b))) ∧ ∃ n, w' = w.drewN n := by
  have HA : Hid _ := ha
  have HB : Hid _ := hb
  obtain ⟨a0, c0, hs2⟩ := ha.form
  obtain ⟨b0, d0, hu2⟩ := hb.form
  subst hs2 hu2
  clear ha hb
  go_enter Try.func4, Try.ntmps4
  go_wp2_with fail
  refine (compare_any HA.out HB.out hla hlb).mono ?_
  rintro e w1 ⟨⟨c, rfl, hc⟩, n, rfl⟩
  have HC : Hid _ := hc
  clear hc
  go_wp2_with fail
  go_ret
  refine ⟨congrArg Ending.returned (congrArg Value.bool (?_ : (c == 0) = decide (a = b))), n, rfl⟩
  rw [Bool.eq_iff_iff]
  simpa using HC.out
/-- Zeros. -/
def zer (n : Nat) : List Value := List.replicate n (.int .u8 0)
theorem made_zer (n : Nat) : madeCells (Value.int .u8 0).cells (n * 1) = (zer n).toArray := by
  apply Array.ext_getElem?
  intro i
  simp [madeCells, zer, Value.cells]
  by_cases h : i < n <;> simp [h, Nat.mod_one]
theorem run_mk (n : Nat) (h : n ≤ 140737488355328) (w : World) : (Instr.makeSlice 28 (.int .i64 n) (.int .i64 n)).run Try.prog w = .ok (.slice (some ⟨w.heap.size, 0, none⟩) n n) (w.alloc (.cells (zer n).toArray 5)) := by
  obtain ⟨i0, hi, hz0, hz1, hz2⟩ := info_parts info5
  have := run_make (P := Try.prog) w 28 5 i0 (.int .u8 0) Try.underlying28 hi hz0 .i64 .i64 n n (by omega) (Int.le_refl _) (by rw [hz2]; omega) (by omega)
  rw [this, hz1, Int.toNat_natCast, made_zer]
theorem own_full {w : World} {g : Nat} {m : List Int} (hm : m.length ≤ 140737488355328) (h : w.heap[g]? = some (.cells (bs m).toArray 5 (0, 0))) : Own w (.slice (some ⟨g, 0, none⟩) m.length m.length) m :=
  ⟨by simp [bs], .inr ⟨g, _, _, rfl, Nat.zero_le _, h, Nat.le_refl _, by unfold maxLen; omega, by simp [bs], by rw [Nat.mul_one]; exact List.take_of_length_le (by simp [bs])⟩⟩

end Go.Proofs.Ytfbiafemmoamiaa
