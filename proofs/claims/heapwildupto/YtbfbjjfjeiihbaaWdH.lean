import Derived.Test.YtbfbjjfjeiihbaaWdE
import Derived.Test.YtbfbjjfjeiihbaaSmall
/-
  HeapWild: its last regions.
-/
namespace Go.Proofs.Ytbfbjjfjeiihbaa
open Go.RowKit

theorem Oper.nums {D N : Nat} (hD : D ≤ 21) (hN : N ≤ 1048576) : ∃ A1 A2 A3 : Nat, A1 ≤ 63 ∧ A2 ≤ 66 ∧ A3 = N * (3 * D + 3) ∧ A3 ≤ 69206016 ∧ IntKind.i64.wrap (3 * (D : Int)) = (A1 : Int) ∧ (3 * (D : Int)) = (A1 : Int) ∧ (A1 : Int) + 3 = (A2 : Int) ∧ (N : Int) * (A2 : Int) = (A3 : Int) ∧ IntKind.i64.wrap ((N : Int) * (A2 : Int)) = (A3 : Int) ∧ IntKind.i64.wrap (A2 : Int) = (A2 : Int) := by
  have h : N * (3 * D + 3) ≤ 1048576 * 66 := Nat.mul_le_mul hN (by omega)
  have e : (N : Int) * ((3 * D + 3 : Nat) : Int) = ((N * (3 * D + 3) : Nat) : Int) := by rw [Int.natCast_mul]
  refine ⟨3 * D, 3 * D + 3, N * (3 * D + 3), by omega, by omega, rfl, by omega, by rw [IntKind.wrap_i64]; omega, by omega, by omega, e, ?_, by rw [IntKind.wrap_i64]; omega⟩
  rw [e, IntKind.wrap_i64]
  omega

noncomputable def ops25 : Array Oper := (Try.f5.body.bind (regIn 25)).getD #[]
def s25 (i : Nat) : Nat := 86 + i
theorem s25_ne {i j : Nat} (_hi : i < 24) (_hj : j < 24) (h : j ≠ i) : s25 j ≠ s25 i := by
  unfold s25
  omega
def c25 (la fa : Option Addr) (N lc kk fc cq D A1 A2 A3 : Nat) : List Value := [.bool false, .bool false, .slice fa kk fc, .int .i64 kk, .int .i64 kk, .bool false, .bool false, .bool false, .slice la N lc, .slice fa kk fc, .bool true, .bool false, .bool false, .bool false, .int .i64 cq, .slice la N lc, .int .i64 N, .int .i64 kk, .int .i64 D, .int .i64 A1, .int .i64 A2, .int .i64 A3, .bool false, .bool false]

def J25 (wr : World) (fx : List (Nat × Value)) (cs : List Value) : (Nat → Bool) → Act → World → Prop :=
  RJ 133 s25 24 fx (fun i _ v => v = cs.getD i undef) (Chg (fun _ => False) wr)

theorem put25 {wr : World} {fx : List (Nat × Value)} {cs : List Value} {d : Nat → Bool} {T : Array Value} {df : List Deferred} {w w' : World} (h : J25 wr fx cs d ⟨T, df⟩ w) (hf : ∀ x ∈ fx, x.1 < 21 ∧ x.1 ≠ 6) (i : Nat) {s : Nat} {v : Value} (hi : i < 24) (hs : s = s25 i) (hv : v = cs.getD i undef) (k : Chg (fun _ => False) w w') :
    J25 wr fx cs (fun j => if j = i then true else d j) ⟨T.setIfInBounds s v, df⟩ w' :=
  RJ.put h i hs (by unfold s25; omega) (fun j hj h => s25_ne hi hj h) (fun x hx => by
    have := hf x hx
    unfold s25
    omega) hv (h.ch.trans k (fun _ h => h.elim)) (fun _ _ h => h)

set_option maxRecDepth 100000 in
set_option maxHeartbeats 8000000 in
theorem reg25 {wr : World} {q N lc kk fc oc cq : Nat} {la fa oa : Option Addr} {Q : Exit → Act → World → Prop} {A : Act} {fv : Value} (ON : ∀ w', Chg (fun _ => False) wr w' → Calls Try.prog 23 #[.slice la N lc, .slice fa kk fc] w' fun e w2 => e = .returned (.bool true) ∧ Chg (fun _ => False) w' w2) (hcq : cq ≤ N * (3 * dg kk + 3)) (BQ : Blk wr q [.int .i64 cq] 3) (hN : N ≤ 1048576) (hkk : kk ≤ N)
    (sz : A.tmps.size = 133) (df : A.defers = []) (hfx : ∀ x ∈ ([(7, .pointer (some ⟨q, 0, none⟩)), (8, fv), (10, .slice la N lc), (12, .slice oa N oc), (17, .bool false), (18, .slice fa kk fc), (19, .int .i64 kk)] : List (Nat × Value)), A.tmps.getD x.1 undef = x.2)
    (hQ : ∀ (b : Act) (w' : World), b.tmps.size = 133 → b.defers = [] → (∀ x ∈ ([(7, .pointer (some ⟨q, 0, none⟩)), (8, fv), (10, .slice la N lc), (12, .slice oa N oc), (17, .bool false), (18, .slice fa kk fc), (19, .int .i64 kk)] : List (Nat × Value)), b.tmps.getD x.1 undef = x.2) → b.tmps.getD 109 undef = .bool false → Chg (fun _ => False) wr w' → Q .normal b w') : (Code.region 25 ops25 true).wp Try.prog Q A wr := by
  obtain ⟨D, hD⟩ : ∃ D, D = dg kk := ⟨_, rfl⟩
  have DG : Hid (∀ w : World, Calls Try.prog 13 #[.int .i64 kk] w fun e w' => e = .returned (.int .i64 D) ∧ w = w') := by rw [hD]; exact fun w => digits_any kk (by omega) w
  have hD21 : D ≤ 21 := by rw [hD]; exact dg_le 21 _ (by omega)
  rw [← hD] at hcq
  obtain ⟨A1, A2, A3, a1, a2, a3, a4, r0, r1, r2, r3, r4, r5⟩ := Oper.nums hD21 hN
  rw [← a3] at hcq
  have hgt : ¬ ((A3 : Int) < (cq : Int)) := by omega
  have hle : (cq : Int) ≤ (A3 : Int) := by omega
  have hne : ((kk : Int) == (kk : Int)) = true := by simp
  have R0 : Hid _ := r0
  have R1 : Hid _ := r1
  have R2 : Hid _ := r2
  have R3 : Hid _ := r3
  have R4 : Hid _ := r4
  have R5 : Hid _ := r5
  clear hD a3 r0 r1 r2 r3 r4 r5 hcq
  obtain ⟨fx, hfxe⟩ : ∃ fx : List (Nat × Value), fx = [(7, .pointer (some ⟨q, 0, none⟩)), (8, fv), (10, .slice la N lc), (12, .slice oa N oc), (17, .bool false), (18, .slice fa kk fc), (19, .int .i64 kk)] := ⟨_, rfl⟩
  have hfl : ∀ x ∈ fx, x.1 < 21 ∧ x.1 ≠ 6 := by
    rw [hfxe]
    intro x hx
    simp only [List.mem_cons, List.not_mem_nil, or_false] at hx
    rcases hx with rfl | rfl | rfl | rfl | rfl | rfl | rfl <;> simp
  rw [← hfxe] at hfx hQ
  obtain ⟨cs, hcs⟩ : ∃ cs, cs = c25 la fa N lc kk fc cq D A1 A2 A3 := ⟨_, rfl⟩
  refine region_plain (by kernel_rfl) (J25 wr fx cs) ?_ (after_of (by kernel_rfl)) ?_ ?_
  · exact ⟨sz, df, hfx, fun i _ (h : false = true) => (by cases h), (Chg.refl _ _).drew⟩
  · intro d b w h hall
    refine hQ b w h.sz h.df h.fix ?_ h.ch
    have := h.val 23 (by decide) (hall 23 (by decide))
    rw [hcs] at this
    exact this
  · rintro d ⟨T, df⟩ w j o' hJ hdi ho hdeps K hK
    have hi : j < 24 := (Array.getElem?_eq_some_iff.1 ho).1
    have t7 : T.getD 7 undef = .pointer (some ⟨q, 0, none⟩) := hJ.fix (7, .pointer (some ⟨q, 0, none⟩)) (by rw [hfxe]; simp)
    have t8 : T.getD 8 undef = fv := hJ.fix (8, fv) (by rw [hfxe]; simp)
    have t10 : T.getD 10 undef = .slice la N lc := hJ.fix (10, .slice la N lc) (by rw [hfxe]; simp)
    have t12 : T.getD 12 undef = .slice oa N oc := hJ.fix (12, .slice oa N oc) (by rw [hfxe]; simp)
    have t17 : T.getD 17 undef = .bool false := hJ.fix (17, .bool false) (by rw [hfxe]; simp)
    have t18 : T.getD 18 undef = .slice fa kk fc := hJ.fix (18, .slice fa kk fc) (by rw [hfxe]; simp)
    have t19 : T.getD 19 undef = .int .i64 kk := hJ.fix (19, .int .i64 kk) (by rw [hfxe]; simp)
    have cQ : w.cell? ⟨q, 0, none⟩ = some (.int .i64 cq) := (BQ.keep hJ.ch (fun h => h)).cell 0
    have HC : Hid _ := hcs
    have HF : Hid _ := hfl
    clear hdi hcs hQ hfxe hfl hfx
    obtain rfl | rfl | rfl | rfl | rfl | rfl | rfl | rfl | rfl | rfl | rfl | rfl | rfl | rfl | rfl | rfl | rfl | rfl | rfl | rfl | rfl | rfl | rfl | rfl : j = 0 ∨ j = 1 ∨ j = 2 ∨ j = 3 ∨ j = 4 ∨ j = 5 ∨ j = 6 ∨ j = 7 ∨ j = 8 ∨ j = 9 ∨ j = 10 ∨ j = 11 ∨ j = 12 ∨ j = 13 ∨ j = 14 ∨ j = 15 ∨ j = 16 ∨ j = 17 ∨ j = 18 ∨ j = 19 ∨ j = 20 ∨ j = 21 ∨ j = 22 ∨ j = 23 := by omega
    · obtain rfl : o' = { dst := some 86, op := Op.move (Operand.tmp 17), type := 4, pos := "own.go:101", after := #[], guard := none } := (Option.some.inj ho).symm
      rw [if_pos (want_all rfl)]
      clear ho hdeps hi
      go_simp
      exact hK _ _ (put25 hJ HF.out 0 (by decide) rfl (by rw [HC.out]; rfl) (Chg.refl _ _))
    · obtain rfl : o' = { dst := some 87, op := Op.move (Operand.tmp 86), type := 4, pos := "own.go:101", after := #[{ on := 0, ground := Ground.data }], guard := none } := (Option.some.inj ho).symm
      have e86 : T.getD 86 undef = .bool false := Eq.trans (hJ.val 0 (by decide) (hdeps ⟨0, .data⟩ (by simp) rfl)) (by rw [HC.out]; rfl)
      rw [if_pos (want_all rfl)]
      clear ho hdeps hi
      go_simp
      exact hK _ _ (put25 hJ HF.out 1 (by decide) rfl (by rw [HC.out]; rfl) (Chg.refl _ _))
    · obtain rfl : o' = { dst := some 88, op := Op.move (Operand.tmp 18), type := 28, pos := "own.go:101", after := #[{ on := 1, ground := Ground.guard }], guard := some (1, false) } := (Option.some.inj ho).symm
      have e87 : T.getD 87 undef = .bool false := Eq.trans (hJ.val 1 (by decide) (hdeps ⟨1, .guard⟩ (by simp) rfl)) (by rw [HC.out]; rfl)
      rw [if_pos (want_of rfl (yield_of (s := 87) rfl (by rw [hJ.sz]; decide) e87))]
      clear ho hdeps hi
      go_simp
      exact hK _ _ (put25 hJ HF.out 2 (by decide) rfl (by rw [HC.out]; rfl) (Chg.refl _ _))
    · obtain rfl : o' = { dst := some 89, op := Op.call { callee := Callee.builtin Builtin.len, args := #[Operand.tmp 88], argTypes := #[28] }, type := 3, pos := "own.go:101", after := #[{ on := 2, ground := Ground.data }, { on := 1, ground := Ground.guard }], guard := some (1, false) } := (Option.some.inj ho).symm
      have e88 : T.getD 88 undef = .slice fa kk fc := Eq.trans (hJ.val 2 (by decide) (hdeps ⟨2, .data⟩ (by simp) rfl)) (by rw [HC.out]; rfl)
      have e87 : T.getD 87 undef = .bool false := Eq.trans (hJ.val 1 (by decide) (hdeps ⟨1, .guard⟩ (by simp) rfl)) (by rw [HC.out]; rfl)
      rw [if_pos (want_of rfl (yield_of (s := 87) rfl (by rw [hJ.sz]; decide) e87))]
      clear ho hdeps hi
      go_simp
      exact hK _ _ (put25 hJ HF.out 3 (by decide) rfl (by rw [HC.out]; rfl) (Chg.refl _ _))
    · obtain rfl : o' = { dst := some 90, op := Op.move (Operand.tmp 19), type := 3, pos := "own.go:101", after := #[{ on := 1, ground := Ground.guard }], guard := some (1, false) } := (Option.some.inj ho).symm
      have e87 : T.getD 87 undef = .bool false := Eq.trans (hJ.val 1 (by decide) (hdeps ⟨1, .guard⟩ (by simp) rfl)) (by rw [HC.out]; rfl)
      rw [if_pos (want_of rfl (yield_of (s := 87) rfl (by rw [hJ.sz]; decide) e87))]
      clear ho hdeps hi
      go_simp
      exact hK _ _ (put25 hJ HF.out 4 (by decide) rfl (by rw [HC.out]; rfl) (Chg.refl _ _))
    · obtain rfl : o' = { dst := some 91, op := Op.binOp BinOp.neq 3 (Operand.tmp 89) (Operand.tmp 90) 3, type := 4, pos := "own.go:101", after := #[{ on := 3, ground := Ground.data }, { on := 4, ground := Ground.data }, { on := 1, ground := Ground.guard }], guard := some (1, false) } := (Option.some.inj ho).symm
      have e89 : T.getD 89 undef = .int .i64 kk := Eq.trans (hJ.val 3 (by decide) (hdeps ⟨3, .data⟩ (by simp) rfl)) (by rw [HC.out]; rfl)
      have e90 : T.getD 90 undef = .int .i64 kk := Eq.trans (hJ.val 4 (by decide) (hdeps ⟨4, .data⟩ (by simp) rfl)) (by rw [HC.out]; rfl)
      have e87 : T.getD 87 undef = .bool false := Eq.trans (hJ.val 1 (by decide) (hdeps ⟨1, .guard⟩ (by simp) rfl)) (by rw [HC.out]; rfl)
      rw [if_pos (want_of rfl (yield_of (s := 87) rfl (by rw [hJ.sz]; decide) e87))]
      clear ho hdeps hi
      go_simp
      exact hK _ _ (put25 hJ HF.out 5 (by decide) rfl (by rw [HC.out]; rfl) (Chg.refl _ _))
    · obtain rfl : o' = { dst := some 92, op := Op.pick (Operand.tmp 87) (Operand.const (Value.bool true)) (Operand.tmp 91), type := 4, pos := "own.go:101", after := #[{ on := 1, ground := Ground.data }, { on := 5, ground := Ground.data }], guard := none } := (Option.some.inj ho).symm
      have e87 : T.getD 87 undef = .bool false := Eq.trans (hJ.val 1 (by decide) (hdeps ⟨1, .data⟩ (by simp) rfl)) (by rw [HC.out]; rfl)
      have e91 : T.getD 91 undef = .bool false := Eq.trans (hJ.val 5 (by decide) (hdeps ⟨5, .data⟩ (by simp) rfl)) (by rw [HC.out]; rfl)
      rw [if_pos (want_all rfl)]
      clear ho hdeps hi
      go_simp
      exact hK _ _ (put25 hJ HF.out 6 (by decide) rfl (by rw [HC.out]; rfl) (Chg.refl _ _))
    · obtain rfl : o' = { dst := some 93, op := Op.move (Operand.tmp 92), type := 4, pos := "own.go:101", after := #[{ on := 6, ground := Ground.data }, { on := 1, ground := Ground.chain }], guard := none } := (Option.some.inj ho).symm
      have e92 : T.getD 92 undef = .bool false := Eq.trans (hJ.val 6 (by decide) (hdeps ⟨6, .data⟩ (by simp) rfl)) (by rw [HC.out]; rfl)
      rw [if_pos (want_all rfl)]
      clear ho hdeps hi
      go_simp
      exact hK _ _ (put25 hJ HF.out 7 (by decide) rfl (by rw [HC.out]; rfl) (Chg.refl _ _))
    · obtain rfl : o' = { dst := some 94, op := Op.move (Operand.tmp 10), type := 28, pos := "own.go:101", after := #[{ on := 7, ground := Ground.guard }], guard := some (7, false) } := (Option.some.inj ho).symm
      have e93 : T.getD 93 undef = .bool false := Eq.trans (hJ.val 7 (by decide) (hdeps ⟨7, .guard⟩ (by simp) rfl)) (by rw [HC.out]; rfl)
      rw [if_pos (want_of rfl (yield_of (s := 93) rfl (by rw [hJ.sz]; decide) e93))]
      clear ho hdeps hi
      go_simp
      exact hK _ _ (put25 hJ HF.out 8 (by decide) rfl (by rw [HC.out]; rfl) (Chg.refl _ _))
    · obtain rfl : o' = { dst := some 95, op := Op.move (Operand.tmp 18), type := 28, pos := "own.go:101", after := #[{ on := 7, ground := Ground.guard }], guard := some (7, false) } := (Option.some.inj ho).symm
      have e93 : T.getD 93 undef = .bool false := Eq.trans (hJ.val 7 (by decide) (hdeps ⟨7, .guard⟩ (by simp) rfl)) (by rw [HC.out]; rfl)
      rw [if_pos (want_of rfl (yield_of (s := 93) rfl (by rw [hJ.sz]; decide) e93))]
      clear ho hdeps hi
      go_simp
      exact hK _ _ (put25 hJ HF.out 9 (by decide) rfl (by rw [HC.out]; rfl) (Chg.refl _ _))
    · obtain rfl : o' = { dst := some 96, op := Op.call { callee := Callee.value (Operand.func 23), args := #[Operand.tmp 94, Operand.tmp 95], argTypes := #[28, 28] }, type := 4, pos := "own.go:101", after := #[{ on := 8, ground := Ground.data }, { on := 9, ground := Ground.data }, { on := 7, ground := Ground.chain }, { on := 7, ground := Ground.guard }], guard := some (7, false) } := (Option.some.inj ho).symm
      have e94 : T.getD 94 undef = .slice la N lc := Eq.trans (hJ.val 8 (by decide) (hdeps ⟨8, .data⟩ (by simp) rfl)) (by rw [HC.out]; rfl)
      have e95 : T.getD 95 undef = .slice fa kk fc := Eq.trans (hJ.val 9 (by decide) (hdeps ⟨9, .data⟩ (by simp) rfl)) (by rw [HC.out]; rfl)
      have e93 : T.getD 93 undef = .bool false := Eq.trans (hJ.val 7 (by decide) (hdeps ⟨7, .guard⟩ (by simp) rfl)) (by rw [HC.out]; rfl)
      rw [if_pos (want_of rfl (yield_of (s := 93) rfl (by rw [hJ.sz]; decide) e93))]
      clear ho hdeps hi
      go_simp
      refine Calls.mono (ON _ hJ.ch) ?_
      rintro e w2 ⟨rfl, k2⟩
      exact hK _ _ (put25 hJ HF.out 10 (by decide) rfl (by rw [HC.out]; rfl) k2)
    · obtain rfl : o' = { dst := some 97, op := Op.unOp UnOp.not 4 (Operand.tmp 96), type := 4, pos := "own.go:101", after := #[{ on := 10, ground := Ground.data }, { on := 7, ground := Ground.guard }], guard := some (7, false) } := (Option.some.inj ho).symm
      have e96 : T.getD 96 undef = .bool true := Eq.trans (hJ.val 10 (by decide) (hdeps ⟨10, .data⟩ (by simp) rfl)) (by rw [HC.out]; rfl)
      have e93 : T.getD 93 undef = .bool false := Eq.trans (hJ.val 7 (by decide) (hdeps ⟨7, .guard⟩ (by simp) rfl)) (by rw [HC.out]; rfl)
      rw [if_pos (want_of rfl (yield_of (s := 93) rfl (by rw [hJ.sz]; decide) e93))]
      clear ho hdeps hi
      go_simp
      exact hK _ _ (put25 hJ HF.out 11 (by decide) rfl (by rw [HC.out]; rfl) (Chg.refl _ _))
    · obtain rfl : o' = { dst := some 98, op := Op.pick (Operand.tmp 93) (Operand.const (Value.bool true)) (Operand.tmp 97), type := 4, pos := "own.go:101", after := #[{ on := 7, ground := Ground.data }, { on := 11, ground := Ground.data }], guard := none } := (Option.some.inj ho).symm
      have e93 : T.getD 93 undef = .bool false := Eq.trans (hJ.val 7 (by decide) (hdeps ⟨7, .data⟩ (by simp) rfl)) (by rw [HC.out]; rfl)
      have e97 : T.getD 97 undef = .bool false := Eq.trans (hJ.val 11 (by decide) (hdeps ⟨11, .data⟩ (by simp) rfl)) (by rw [HC.out]; rfl)
      rw [if_pos (want_all rfl)]
      clear ho hdeps hi
      go_simp
      exact hK _ _ (put25 hJ HF.out 12 (by decide) rfl (by rw [HC.out]; rfl) (Chg.refl _ _))
    · obtain rfl : o' = { dst := some 99, op := Op.move (Operand.tmp 98), type := 4, pos := "own.go:101", after := #[{ on := 12, ground := Ground.data }, { on := 10, ground := Ground.chain }], guard := none } := (Option.some.inj ho).symm
      have e98 : T.getD 98 undef = .bool false := Eq.trans (hJ.val 12 (by decide) (hdeps ⟨12, .data⟩ (by simp) rfl)) (by rw [HC.out]; rfl)
      rw [if_pos (want_all rfl)]
      clear ho hdeps hi
      go_simp
      exact hK _ _ (put25 hJ HF.out 13 (by decide) rfl (by rw [HC.out]; rfl) (Chg.refl _ _))
    · obtain rfl : o' = { dst := some 100, op := Op.load 3 (Operand.tmp 7), type := 3, pos := "own.go:101", after := #[{ on := 13, ground := Ground.guard }], guard := some (13, false) } := (Option.some.inj ho).symm
      have e99 : T.getD 99 undef = .bool false := Eq.trans (hJ.val 13 (by decide) (hdeps ⟨13, .guard⟩ (by simp) rfl)) (by rw [HC.out]; rfl)
      rw [if_pos (want_of rfl (yield_of (s := 99) rfl (by rw [hJ.sz]; decide) e99))]
      clear ho hdeps hi
      go_simp
      exact hK _ _ (put25 hJ HF.out 14 (by decide) rfl (by rw [HC.out]; rfl) (Chg.refl _ _))
    · obtain rfl : o' = { dst := some 101, op := Op.move (Operand.tmp 10), type := 28, pos := "own.go:101", after := #[{ on := 13, ground := Ground.guard }], guard := some (13, false) } := (Option.some.inj ho).symm
      have e99 : T.getD 99 undef = .bool false := Eq.trans (hJ.val 13 (by decide) (hdeps ⟨13, .guard⟩ (by simp) rfl)) (by rw [HC.out]; rfl)
      rw [if_pos (want_of rfl (yield_of (s := 99) rfl (by rw [hJ.sz]; decide) e99))]
      clear ho hdeps hi
      go_simp
      exact hK _ _ (put25 hJ HF.out 15 (by decide) rfl (by rw [HC.out]; rfl) (Chg.refl _ _))
    · obtain rfl : o' = { dst := some 102, op := Op.call { callee := Callee.builtin Builtin.len, args := #[Operand.tmp 101], argTypes := #[28] }, type := 3, pos := "own.go:101", after := #[{ on := 15, ground := Ground.data }, { on := 13, ground := Ground.guard }], guard := some (13, false) } := (Option.some.inj ho).symm
      have e101 : T.getD 101 undef = .slice la N lc := Eq.trans (hJ.val 15 (by decide) (hdeps ⟨15, .data⟩ (by simp) rfl)) (by rw [HC.out]; rfl)
      have e99 : T.getD 99 undef = .bool false := Eq.trans (hJ.val 13 (by decide) (hdeps ⟨13, .guard⟩ (by simp) rfl)) (by rw [HC.out]; rfl)
      rw [if_pos (want_of rfl (yield_of (s := 99) rfl (by rw [hJ.sz]; decide) e99))]
      clear ho hdeps hi
      go_simp
      exact hK _ _ (put25 hJ HF.out 16 (by decide) rfl (by rw [HC.out]; rfl) (Chg.refl _ _))
    · obtain rfl : o' = { dst := some 103, op := Op.move (Operand.tmp 19), type := 3, pos := "own.go:101", after := #[{ on := 13, ground := Ground.guard }], guard := some (13, false) } := (Option.some.inj ho).symm
      have e99 : T.getD 99 undef = .bool false := Eq.trans (hJ.val 13 (by decide) (hdeps ⟨13, .guard⟩ (by simp) rfl)) (by rw [HC.out]; rfl)
      rw [if_pos (want_of rfl (yield_of (s := 99) rfl (by rw [hJ.sz]; decide) e99))]
      clear ho hdeps hi
      go_simp
      exact hK _ _ (put25 hJ HF.out 17 (by decide) rfl (by rw [HC.out]; rfl) (Chg.refl _ _))
    · obtain rfl : o' = { dst := some 104, op := Op.call { callee := Callee.value (Operand.func 13), args := #[Operand.tmp 103], argTypes := #[3] }, type := 3, pos := "own.go:101", after := #[{ on := 17, ground := Ground.data }, { on := 13, ground := Ground.chain }, { on := 13, ground := Ground.guard }], guard := some (13, false) } := (Option.some.inj ho).symm
      have e103 : T.getD 103 undef = .int .i64 kk := Eq.trans (hJ.val 17 (by decide) (hdeps ⟨17, .data⟩ (by simp) rfl)) (by rw [HC.out]; rfl)
      have e99 : T.getD 99 undef = .bool false := Eq.trans (hJ.val 13 (by decide) (hdeps ⟨13, .guard⟩ (by simp) rfl)) (by rw [HC.out]; rfl)
      rw [if_pos (want_of rfl (yield_of (s := 99) rfl (by rw [hJ.sz]; decide) e99))]
      clear ho hdeps hi
      go_simp
      refine Calls.mono (DG.out _) ?_
      rintro e w2 ⟨rfl, h2⟩
      subst h2
      exact hK _ _ (put25 hJ HF.out 18 (by decide) rfl (by rw [HC.out]; rfl) (Chg.refl _ _))
    · obtain rfl : o' = { dst := some 105, op := Op.binOp BinOp.mul 3 (Operand.const (Value.int IntKind.i64 3)) (Operand.tmp 104) 3, type := 3, pos := "own.go:101", after := #[{ on := 18, ground := Ground.data }, { on := 13, ground := Ground.guard }], guard := some (13, false) } := (Option.some.inj ho).symm
      have e104 : T.getD 104 undef = .int .i64 D := Eq.trans (hJ.val 18 (by decide) (hdeps ⟨18, .data⟩ (by simp) rfl)) (by rw [HC.out]; rfl)
      have e99 : T.getD 99 undef = .bool false := Eq.trans (hJ.val 13 (by decide) (hdeps ⟨13, .guard⟩ (by simp) rfl)) (by rw [HC.out]; rfl)
      rw [if_pos (want_of rfl (yield_of (s := 99) rfl (by rw [hJ.sz]; decide) e99))]
      clear ho hdeps hi
      go_simp
      first | rw [R0.out] | rw [R1.out]
      exact hK _ _ (put25 hJ HF.out 19 (by decide) rfl (by rw [HC.out]; rfl) (Chg.refl _ _))
    · obtain rfl : o' = { dst := some 106, op := Op.binOp BinOp.add 3 (Operand.tmp 105) (Operand.const (Value.int IntKind.i64 3)) 3, type := 3, pos := "own.go:101", after := #[{ on := 19, ground := Ground.data }, { on := 13, ground := Ground.guard }], guard := some (13, false) } := (Option.some.inj ho).symm
      have e105 : T.getD 105 undef = .int .i64 A1 := Eq.trans (hJ.val 19 (by decide) (hdeps ⟨19, .data⟩ (by simp) rfl)) (by rw [HC.out]; rfl)
      have e99 : T.getD 99 undef = .bool false := Eq.trans (hJ.val 13 (by decide) (hdeps ⟨13, .guard⟩ (by simp) rfl)) (by rw [HC.out]; rfl)
      rw [if_pos (want_of rfl (yield_of (s := 99) rfl (by rw [hJ.sz]; decide) e99))]
      clear ho hdeps hi
      go_simp
      rw [R2.out, R5.out]
      exact hK _ _ (put25 hJ HF.out 20 (by decide) rfl (by rw [HC.out]; rfl) (Chg.refl _ _))
    · obtain rfl : o' = { dst := some 107, op := Op.binOp BinOp.mul 3 (Operand.tmp 102) (Operand.tmp 106) 3, type := 3, pos := "own.go:101", after := #[{ on := 16, ground := Ground.data }, { on := 20, ground := Ground.data }, { on := 13, ground := Ground.guard }], guard := some (13, false) } := (Option.some.inj ho).symm
      have e102 : T.getD 102 undef = .int .i64 N := Eq.trans (hJ.val 16 (by decide) (hdeps ⟨16, .data⟩ (by simp) rfl)) (by rw [HC.out]; rfl)
      have e106 : T.getD 106 undef = .int .i64 A2 := Eq.trans (hJ.val 20 (by decide) (hdeps ⟨20, .data⟩ (by simp) rfl)) (by rw [HC.out]; rfl)
      have e99 : T.getD 99 undef = .bool false := Eq.trans (hJ.val 13 (by decide) (hdeps ⟨13, .guard⟩ (by simp) rfl)) (by rw [HC.out]; rfl)
      rw [if_pos (want_of rfl (yield_of (s := 99) rfl (by rw [hJ.sz]; decide) e99))]
      clear ho hdeps hi
      go_simp
      first | rw [R4.out] | rw [R3.out]
      exact hK _ _ (put25 hJ HF.out 21 (by decide) rfl (by rw [HC.out]; rfl) (Chg.refl _ _))
    · obtain rfl : o' = { dst := some 108, op := Op.binOp BinOp.gtr 3 (Operand.tmp 100) (Operand.tmp 107) 3, type := 4, pos := "own.go:101", after := #[{ on := 14, ground := Ground.data }, { on := 21, ground := Ground.data }, { on := 13, ground := Ground.guard }], guard := some (13, false) } := (Option.some.inj ho).symm
      have e100 : T.getD 100 undef = .int .i64 cq := Eq.trans (hJ.val 14 (by decide) (hdeps ⟨14, .data⟩ (by simp) rfl)) (by rw [HC.out]; rfl)
      have e107 : T.getD 107 undef = .int .i64 A3 := Eq.trans (hJ.val 21 (by decide) (hdeps ⟨21, .data⟩ (by simp) rfl)) (by rw [HC.out]; rfl)
      have e99 : T.getD 99 undef = .bool false := Eq.trans (hJ.val 13 (by decide) (hdeps ⟨13, .guard⟩ (by simp) rfl)) (by rw [HC.out]; rfl)
      rw [if_pos (want_of rfl (yield_of (s := 99) rfl (by rw [hJ.sz]; decide) e99))]
      clear ho hdeps hi
      go_simp
      exact hK _ _ (put25 hJ HF.out 22 (by decide) rfl (by rw [HC.out]; rfl) (Chg.refl _ _))
    · obtain rfl : o' = { dst := some 109, op := Op.pick (Operand.tmp 99) (Operand.const (Value.bool true)) (Operand.tmp 108), type := 4, pos := "own.go:101", after := #[{ on := 13, ground := Ground.data }, { on := 22, ground := Ground.data }], guard := none } := (Option.some.inj ho).symm
      have e99 : T.getD 99 undef = .bool false := Eq.trans (hJ.val 13 (by decide) (hdeps ⟨13, .data⟩ (by simp) rfl)) (by rw [HC.out]; rfl)
      have e108 : T.getD 108 undef = .bool false := Eq.trans (hJ.val 22 (by decide) (hdeps ⟨22, .data⟩ (by simp) rfl)) (by rw [HC.out]; rfl)
      rw [if_pos (want_all rfl)]
      clear ho hdeps hi
      go_simp
      exact hK _ _ (put25 hJ HF.out 23 (by decide) rfl (by rw [HC.out]; rfl) (Chg.refl _ _))

noncomputable def ops29 : Array Oper := (Try.f5.body.bind (regIn 29)).getD #[]
def s29 (i : Nat) : Nat := if i = 20 then 6 else 113 + i
theorem s29_ne {i j : Nat} (_hi : i < 21) (_hj : j < 21) (h : j ≠ i) : s29 j ≠ s29 i := by
  unfold s29
  split <;> split <;> omega
def c29 (la oa va : Option Addr) (N lc oc vc cq D A1 A2 A3 : Nat) : List Value := [.slice la N lc, .slice oa N oc, .bool true, .bool true, .slice la N lc, .slice va N vc, .bool true, .bool true, .bool true, .int .i64 cq, .slice la N lc, .int .i64 N, .slice la N lc, .int .i64 N, .int .i64 D, .int .i64 A1, .int .i64 A2, .int .i64 A3, .bool true, .bool true, .bool true]

def J29 (wr : World) (fx : List (Nat × Value)) (cs : List Value) : (Nat → Bool) → Act → World → Prop :=
  RJ 133 s29 21 fx (fun i _ v => v = cs.getD i undef) (Chg (fun _ => False) wr)

theorem put29 {wr : World} {fx : List (Nat × Value)} {cs : List Value} {d : Nat → Bool} {T : Array Value} {df : List Deferred} {w w' : World} (h : J29 wr fx cs d ⟨T, df⟩ w) (hf : ∀ x ∈ fx, x.1 < 21 ∧ x.1 ≠ 6) (i : Nat) {s : Nat} {v : Value} (hi : i < 21) (hs : s = s29 i) (hv : v = cs.getD i undef) (k : Chg (fun _ => False) w w') :
    J29 wr fx cs (fun j => if j = i then true else d j) ⟨T.setIfInBounds s v, df⟩ w' :=
  RJ.put h i hs (by unfold s29; split <;> omega) (fun j hj h => s29_ne hi hj h) (fun x hx => by
    have := hf x hx
    unfold s29
    split <;> omega) hv (h.ch.trans k (fun _ h => h.elim)) (fun _ _ h => h)

set_option maxRecDepth 100000 in
set_option maxHeartbeats 8000000 in
theorem reg29 {wr : World} {q N lc oc vc cq : Nat} {la oa va : Option Addr} {Q : Exit → Act → World → Prop} {A : Act} (EA : ∀ w', Chg (fun _ => False) wr w' → Calls Try.prog 24 #[.slice la N lc, .slice oa N oc] w' fun e w2 => e = .returned (.bool true) ∧ Chg (fun _ => False) w' w2) (EB : ∀ w', Chg (fun _ => False) wr w' → Calls Try.prog 24 #[.slice la N lc, .slice va N vc] w' fun e w2 => e = .returned (.bool true) ∧ Chg (fun _ => False) w' w2) (hcq : cq ≤ N * (3 * dg N + 3)) (BQ : Blk wr q [.int .i64 cq] 3) (hN : N ≤ 1048576)
    (sz : A.tmps.size = 133) (df : A.defers = []) (hfx : ∀ x ∈ ([(7, .pointer (some ⟨q, 0, none⟩)), (10, .slice la N lc), (12, .slice oa N oc), (20, .slice va N vc)] : List (Nat × Value)), A.tmps.getD x.1 undef = x.2)
    (hQ : ∀ (b : Act) (w' : World), b.tmps.size = 133 → b.defers = [] → (∀ x ∈ ([(7, .pointer (some ⟨q, 0, none⟩)), (10, .slice la N lc), (12, .slice oa N oc), (20, .slice va N vc)] : List (Nat × Value)), b.tmps.getD x.1 undef = x.2) → b.tmps.getD 6 undef = .bool true → Chg (fun _ => False) wr w' → Q .normal b w') : (Code.region 29 ops29 true).wp Try.prog Q A wr := by
  obtain ⟨D, hD⟩ : ∃ D, D = dg N := ⟨_, rfl⟩
  have DG : Hid (∀ w : World, Calls Try.prog 13 #[.int .i64 N] w fun e w' => e = .returned (.int .i64 D) ∧ w = w') := by rw [hD]; exact fun w => digits_any N (by omega) w
  have hD21 : D ≤ 21 := by rw [hD]; exact dg_le 21 _ (by omega)
  rw [← hD] at hcq
  obtain ⟨A1, A2, A3, a1, a2, a3, a4, r0, r1, r2, r3, r4, r5⟩ := Oper.nums hD21 hN
  rw [← a3] at hcq
  have hgt : ¬ ((A3 : Int) < (cq : Int)) := by omega
  have hle : (cq : Int) ≤ (A3 : Int) := by omega
  have R0 : Hid _ := r0
  have R1 : Hid _ := r1
  have R2 : Hid _ := r2
  have R3 : Hid _ := r3
  have R4 : Hid _ := r4
  have R5 : Hid _ := r5
  clear hD a3 r0 r1 r2 r3 r4 r5 hcq
  obtain ⟨fx, hfxe⟩ : ∃ fx : List (Nat × Value), fx = [(7, .pointer (some ⟨q, 0, none⟩)), (10, .slice la N lc), (12, .slice oa N oc), (20, .slice va N vc)] := ⟨_, rfl⟩
  have hfl : ∀ x ∈ fx, x.1 < 21 ∧ x.1 ≠ 6 := by
    rw [hfxe]
    intro x hx
    simp only [List.mem_cons, List.not_mem_nil, or_false] at hx
    rcases hx with rfl | rfl | rfl | rfl <;> simp
  rw [← hfxe] at hfx hQ
  obtain ⟨cs, hcs⟩ : ∃ cs, cs = c29 la oa va N lc oc vc cq D A1 A2 A3 := ⟨_, rfl⟩
  refine region_plain (by kernel_rfl) (J29 wr fx cs) ?_ (after_of (by kernel_rfl)) ?_ ?_
  · exact ⟨sz, df, hfx, fun i _ (h : false = true) => (by cases h), (Chg.refl _ _).drew⟩
  · intro d b w h hall
    refine hQ b w h.sz h.df h.fix ?_ h.ch
    have := h.val 20 (by decide) (hall 20 (by decide))
    rw [hcs] at this
    exact this
  · rintro d ⟨T, df⟩ w j o' hJ hdi ho hdeps K hK
    have hi : j < 21 := (Array.getElem?_eq_some_iff.1 ho).1
    have t7 : T.getD 7 undef = .pointer (some ⟨q, 0, none⟩) := hJ.fix (7, .pointer (some ⟨q, 0, none⟩)) (by rw [hfxe]; simp)
    have t10 : T.getD 10 undef = .slice la N lc := hJ.fix (10, .slice la N lc) (by rw [hfxe]; simp)
    have t12 : T.getD 12 undef = .slice oa N oc := hJ.fix (12, .slice oa N oc) (by rw [hfxe]; simp)
    have t20 : T.getD 20 undef = .slice va N vc := hJ.fix (20, .slice va N vc) (by rw [hfxe]; simp)
    have cQ : w.cell? ⟨q, 0, none⟩ = some (.int .i64 cq) := (BQ.keep hJ.ch (fun h => h)).cell 0
    have HC : Hid _ := hcs
    have HF : Hid _ := hfl
    clear hdi hcs hQ hfxe hfl hfx
    obtain rfl | rfl | rfl | rfl | rfl | rfl | rfl | rfl | rfl | rfl | rfl | rfl | rfl | rfl | rfl | rfl | rfl | rfl | rfl | rfl | rfl : j = 0 ∨ j = 1 ∨ j = 2 ∨ j = 3 ∨ j = 4 ∨ j = 5 ∨ j = 6 ∨ j = 7 ∨ j = 8 ∨ j = 9 ∨ j = 10 ∨ j = 11 ∨ j = 12 ∨ j = 13 ∨ j = 14 ∨ j = 15 ∨ j = 16 ∨ j = 17 ∨ j = 18 ∨ j = 19 ∨ j = 20 := by omega
    · obtain rfl : o' = { dst := some 113, op := Op.move (Operand.tmp 10), type := 28, pos := "own.go:106", after := #[], guard := none } := (Option.some.inj ho).symm
      rw [if_pos (want_all rfl)]
      clear ho hdeps hi
      go_simp
      exact hK _ _ (put29 hJ HF.out 0 (by decide) rfl (by rw [HC.out]; rfl) (Chg.refl _ _))
    · obtain rfl : o' = { dst := some 114, op := Op.move (Operand.tmp 12), type := 28, pos := "own.go:106", after := #[], guard := none } := (Option.some.inj ho).symm
      rw [if_pos (want_all rfl)]
      clear ho hdeps hi
      go_simp
      exact hK _ _ (put29 hJ HF.out 1 (by decide) rfl (by rw [HC.out]; rfl) (Chg.refl _ _))
    · obtain rfl : o' = { dst := some 115, op := Op.call { callee := Callee.value (Operand.func 24), args := #[Operand.tmp 113, Operand.tmp 114], argTypes := #[28, 28] }, type := 4, pos := "own.go:106", after := #[{ on := 0, ground := Ground.data }, { on := 1, ground := Ground.data }], guard := none } := (Option.some.inj ho).symm
      have e113 : T.getD 113 undef = .slice la N lc := Eq.trans (hJ.val 0 (by decide) (hdeps ⟨0, .data⟩ (by simp) rfl)) (by rw [HC.out]; rfl)
      have e114 : T.getD 114 undef = .slice oa N oc := Eq.trans (hJ.val 1 (by decide) (hdeps ⟨1, .data⟩ (by simp) rfl)) (by rw [HC.out]; rfl)
      rw [if_pos (want_all rfl)]
      clear ho hdeps hi
      go_simp
      refine Calls.mono (EA _ hJ.ch) ?_
      rintro e w2 ⟨rfl, k2⟩
      exact hK _ _ (put29 hJ HF.out 2 (by decide) rfl (by rw [HC.out]; rfl) k2)
    · obtain rfl : o' = { dst := some 116, op := Op.move (Operand.tmp 115), type := 4, pos := "own.go:106", after := #[{ on := 2, ground := Ground.data }, { on := 2, ground := Ground.chain }], guard := none } := (Option.some.inj ho).symm
      have e115 : T.getD 115 undef = .bool true := Eq.trans (hJ.val 2 (by decide) (hdeps ⟨2, .data⟩ (by simp) rfl)) (by rw [HC.out]; rfl)
      rw [if_pos (want_all rfl)]
      clear ho hdeps hi
      go_simp
      exact hK _ _ (put29 hJ HF.out 3 (by decide) rfl (by rw [HC.out]; rfl) (Chg.refl _ _))
    · obtain rfl : o' = { dst := some 117, op := Op.move (Operand.tmp 10), type := 28, pos := "own.go:106", after := #[{ on := 3, ground := Ground.guard }], guard := some (3, true) } := (Option.some.inj ho).symm
      have e116 : T.getD 116 undef = .bool true := Eq.trans (hJ.val 3 (by decide) (hdeps ⟨3, .guard⟩ (by simp) rfl)) (by rw [HC.out]; rfl)
      rw [if_pos (want_of rfl (yield_of (s := 116) rfl (by rw [hJ.sz]; decide) e116))]
      clear ho hdeps hi
      go_simp
      exact hK _ _ (put29 hJ HF.out 4 (by decide) rfl (by rw [HC.out]; rfl) (Chg.refl _ _))
    · obtain rfl : o' = { dst := some 118, op := Op.move (Operand.tmp 20), type := 28, pos := "own.go:106", after := #[{ on := 3, ground := Ground.guard }], guard := some (3, true) } := (Option.some.inj ho).symm
      have e116 : T.getD 116 undef = .bool true := Eq.trans (hJ.val 3 (by decide) (hdeps ⟨3, .guard⟩ (by simp) rfl)) (by rw [HC.out]; rfl)
      rw [if_pos (want_of rfl (yield_of (s := 116) rfl (by rw [hJ.sz]; decide) e116))]
      clear ho hdeps hi
      go_simp
      exact hK _ _ (put29 hJ HF.out 5 (by decide) rfl (by rw [HC.out]; rfl) (Chg.refl _ _))
    · obtain rfl : o' = { dst := some 119, op := Op.call { callee := Callee.value (Operand.func 24), args := #[Operand.tmp 117, Operand.tmp 118], argTypes := #[28, 28] }, type := 4, pos := "own.go:106", after := #[{ on := 4, ground := Ground.data }, { on := 5, ground := Ground.data }, { on := 3, ground := Ground.chain }, { on := 3, ground := Ground.guard }], guard := some (3, true) } := (Option.some.inj ho).symm
      have e117 : T.getD 117 undef = .slice la N lc := Eq.trans (hJ.val 4 (by decide) (hdeps ⟨4, .data⟩ (by simp) rfl)) (by rw [HC.out]; rfl)
      have e118 : T.getD 118 undef = .slice va N vc := Eq.trans (hJ.val 5 (by decide) (hdeps ⟨5, .data⟩ (by simp) rfl)) (by rw [HC.out]; rfl)
      have e116 : T.getD 116 undef = .bool true := Eq.trans (hJ.val 3 (by decide) (hdeps ⟨3, .guard⟩ (by simp) rfl)) (by rw [HC.out]; rfl)
      rw [if_pos (want_of rfl (yield_of (s := 116) rfl (by rw [hJ.sz]; decide) e116))]
      clear ho hdeps hi
      go_simp
      refine Calls.mono (EB _ hJ.ch) ?_
      rintro e w2 ⟨rfl, k2⟩
      exact hK _ _ (put29 hJ HF.out 6 (by decide) rfl (by rw [HC.out]; rfl) k2)
    · obtain rfl : o' = { dst := some 120, op := Op.pick (Operand.tmp 116) (Operand.tmp 119) (Operand.const (Value.bool false)), type := 4, pos := "own.go:106", after := #[{ on := 3, ground := Ground.data }, { on := 6, ground := Ground.data }], guard := none } := (Option.some.inj ho).symm
      have e116 : T.getD 116 undef = .bool true := Eq.trans (hJ.val 3 (by decide) (hdeps ⟨3, .data⟩ (by simp) rfl)) (by rw [HC.out]; rfl)
      have e119 : T.getD 119 undef = .bool true := Eq.trans (hJ.val 6 (by decide) (hdeps ⟨6, .data⟩ (by simp) rfl)) (by rw [HC.out]; rfl)
      rw [if_pos (want_all rfl)]
      clear ho hdeps hi
      go_simp
      exact hK _ _ (put29 hJ HF.out 7 (by decide) rfl (by rw [HC.out]; rfl) (Chg.refl _ _))
    · obtain rfl : o' = { dst := some 121, op := Op.move (Operand.tmp 120), type := 4, pos := "own.go:106", after := #[{ on := 7, ground := Ground.data }, { on := 6, ground := Ground.chain }], guard := none } := (Option.some.inj ho).symm
      have e120 : T.getD 120 undef = .bool true := Eq.trans (hJ.val 7 (by decide) (hdeps ⟨7, .data⟩ (by simp) rfl)) (by rw [HC.out]; rfl)
      rw [if_pos (want_all rfl)]
      clear ho hdeps hi
      go_simp
      exact hK _ _ (put29 hJ HF.out 8 (by decide) rfl (by rw [HC.out]; rfl) (Chg.refl _ _))
    · obtain rfl : o' = { dst := some 122, op := Op.load 3 (Operand.tmp 7), type := 3, pos := "own.go:106", after := #[{ on := 8, ground := Ground.guard }], guard := some (8, true) } := (Option.some.inj ho).symm
      have e121 : T.getD 121 undef = .bool true := Eq.trans (hJ.val 8 (by decide) (hdeps ⟨8, .guard⟩ (by simp) rfl)) (by rw [HC.out]; rfl)
      rw [if_pos (want_of rfl (yield_of (s := 121) rfl (by rw [hJ.sz]; decide) e121))]
      clear ho hdeps hi
      go_simp
      exact hK _ _ (put29 hJ HF.out 9 (by decide) rfl (by rw [HC.out]; rfl) (Chg.refl _ _))
    · obtain rfl : o' = { dst := some 123, op := Op.move (Operand.tmp 10), type := 28, pos := "own.go:106", after := #[{ on := 8, ground := Ground.guard }], guard := some (8, true) } := (Option.some.inj ho).symm
      have e121 : T.getD 121 undef = .bool true := Eq.trans (hJ.val 8 (by decide) (hdeps ⟨8, .guard⟩ (by simp) rfl)) (by rw [HC.out]; rfl)
      rw [if_pos (want_of rfl (yield_of (s := 121) rfl (by rw [hJ.sz]; decide) e121))]
      clear ho hdeps hi
      go_simp
      exact hK _ _ (put29 hJ HF.out 10 (by decide) rfl (by rw [HC.out]; rfl) (Chg.refl _ _))
    · obtain rfl : o' = { dst := some 124, op := Op.call { callee := Callee.builtin Builtin.len, args := #[Operand.tmp 123], argTypes := #[28] }, type := 3, pos := "own.go:106", after := #[{ on := 10, ground := Ground.data }, { on := 8, ground := Ground.guard }], guard := some (8, true) } := (Option.some.inj ho).symm
      have e123 : T.getD 123 undef = .slice la N lc := Eq.trans (hJ.val 10 (by decide) (hdeps ⟨10, .data⟩ (by simp) rfl)) (by rw [HC.out]; rfl)
      have e121 : T.getD 121 undef = .bool true := Eq.trans (hJ.val 8 (by decide) (hdeps ⟨8, .guard⟩ (by simp) rfl)) (by rw [HC.out]; rfl)
      rw [if_pos (want_of rfl (yield_of (s := 121) rfl (by rw [hJ.sz]; decide) e121))]
      clear ho hdeps hi
      go_simp
      exact hK _ _ (put29 hJ HF.out 11 (by decide) rfl (by rw [HC.out]; rfl) (Chg.refl _ _))
    · obtain rfl : o' = { dst := some 125, op := Op.move (Operand.tmp 10), type := 28, pos := "own.go:106", after := #[{ on := 8, ground := Ground.guard }], guard := some (8, true) } := (Option.some.inj ho).symm
      have e121 : T.getD 121 undef = .bool true := Eq.trans (hJ.val 8 (by decide) (hdeps ⟨8, .guard⟩ (by simp) rfl)) (by rw [HC.out]; rfl)
      rw [if_pos (want_of rfl (yield_of (s := 121) rfl (by rw [hJ.sz]; decide) e121))]
      clear ho hdeps hi
      go_simp
      exact hK _ _ (put29 hJ HF.out 12 (by decide) rfl (by rw [HC.out]; rfl) (Chg.refl _ _))
    · obtain rfl : o' = { dst := some 126, op := Op.call { callee := Callee.builtin Builtin.len, args := #[Operand.tmp 125], argTypes := #[28] }, type := 3, pos := "own.go:106", after := #[{ on := 12, ground := Ground.data }, { on := 8, ground := Ground.guard }], guard := some (8, true) } := (Option.some.inj ho).symm
      have e125 : T.getD 125 undef = .slice la N lc := Eq.trans (hJ.val 12 (by decide) (hdeps ⟨12, .data⟩ (by simp) rfl)) (by rw [HC.out]; rfl)
      have e121 : T.getD 121 undef = .bool true := Eq.trans (hJ.val 8 (by decide) (hdeps ⟨8, .guard⟩ (by simp) rfl)) (by rw [HC.out]; rfl)
      rw [if_pos (want_of rfl (yield_of (s := 121) rfl (by rw [hJ.sz]; decide) e121))]
      clear ho hdeps hi
      go_simp
      exact hK _ _ (put29 hJ HF.out 13 (by decide) rfl (by rw [HC.out]; rfl) (Chg.refl _ _))
    · obtain rfl : o' = { dst := some 127, op := Op.call { callee := Callee.value (Operand.func 13), args := #[Operand.tmp 126], argTypes := #[3] }, type := 3, pos := "own.go:106", after := #[{ on := 13, ground := Ground.data }, { on := 8, ground := Ground.chain }, { on := 8, ground := Ground.guard }], guard := some (8, true) } := (Option.some.inj ho).symm
      have e126 : T.getD 126 undef = .int .i64 N := Eq.trans (hJ.val 13 (by decide) (hdeps ⟨13, .data⟩ (by simp) rfl)) (by rw [HC.out]; rfl)
      have e121 : T.getD 121 undef = .bool true := Eq.trans (hJ.val 8 (by decide) (hdeps ⟨8, .guard⟩ (by simp) rfl)) (by rw [HC.out]; rfl)
      rw [if_pos (want_of rfl (yield_of (s := 121) rfl (by rw [hJ.sz]; decide) e121))]
      clear ho hdeps hi
      go_simp
      refine Calls.mono (DG.out _) ?_
      rintro e w2 ⟨rfl, h2⟩
      subst h2
      exact hK _ _ (put29 hJ HF.out 14 (by decide) rfl (by rw [HC.out]; rfl) (Chg.refl _ _))
    · obtain rfl : o' = { dst := some 128, op := Op.binOp BinOp.mul 3 (Operand.const (Value.int IntKind.i64 3)) (Operand.tmp 127) 3, type := 3, pos := "own.go:106", after := #[{ on := 14, ground := Ground.data }, { on := 8, ground := Ground.guard }], guard := some (8, true) } := (Option.some.inj ho).symm
      have e127 : T.getD 127 undef = .int .i64 D := Eq.trans (hJ.val 14 (by decide) (hdeps ⟨14, .data⟩ (by simp) rfl)) (by rw [HC.out]; rfl)
      have e121 : T.getD 121 undef = .bool true := Eq.trans (hJ.val 8 (by decide) (hdeps ⟨8, .guard⟩ (by simp) rfl)) (by rw [HC.out]; rfl)
      rw [if_pos (want_of rfl (yield_of (s := 121) rfl (by rw [hJ.sz]; decide) e121))]
      clear ho hdeps hi
      go_simp
      first | rw [R0.out] | rw [R1.out]
      exact hK _ _ (put29 hJ HF.out 15 (by decide) rfl (by rw [HC.out]; rfl) (Chg.refl _ _))
    · obtain rfl : o' = { dst := some 129, op := Op.binOp BinOp.add 3 (Operand.tmp 128) (Operand.const (Value.int IntKind.i64 3)) 3, type := 3, pos := "own.go:106", after := #[{ on := 15, ground := Ground.data }, { on := 8, ground := Ground.guard }], guard := some (8, true) } := (Option.some.inj ho).symm
      have e128 : T.getD 128 undef = .int .i64 A1 := Eq.trans (hJ.val 15 (by decide) (hdeps ⟨15, .data⟩ (by simp) rfl)) (by rw [HC.out]; rfl)
      have e121 : T.getD 121 undef = .bool true := Eq.trans (hJ.val 8 (by decide) (hdeps ⟨8, .guard⟩ (by simp) rfl)) (by rw [HC.out]; rfl)
      rw [if_pos (want_of rfl (yield_of (s := 121) rfl (by rw [hJ.sz]; decide) e121))]
      clear ho hdeps hi
      go_simp
      rw [R2.out, R5.out]
      exact hK _ _ (put29 hJ HF.out 16 (by decide) rfl (by rw [HC.out]; rfl) (Chg.refl _ _))
    · obtain rfl : o' = { dst := some 130, op := Op.binOp BinOp.mul 3 (Operand.tmp 124) (Operand.tmp 129) 3, type := 3, pos := "own.go:106", after := #[{ on := 11, ground := Ground.data }, { on := 16, ground := Ground.data }, { on := 8, ground := Ground.guard }], guard := some (8, true) } := (Option.some.inj ho).symm
      have e124 : T.getD 124 undef = .int .i64 N := Eq.trans (hJ.val 11 (by decide) (hdeps ⟨11, .data⟩ (by simp) rfl)) (by rw [HC.out]; rfl)
      have e129 : T.getD 129 undef = .int .i64 A2 := Eq.trans (hJ.val 16 (by decide) (hdeps ⟨16, .data⟩ (by simp) rfl)) (by rw [HC.out]; rfl)
      have e121 : T.getD 121 undef = .bool true := Eq.trans (hJ.val 8 (by decide) (hdeps ⟨8, .guard⟩ (by simp) rfl)) (by rw [HC.out]; rfl)
      rw [if_pos (want_of rfl (yield_of (s := 121) rfl (by rw [hJ.sz]; decide) e121))]
      clear ho hdeps hi
      go_simp
      first | rw [R4.out] | rw [R3.out]
      exact hK _ _ (put29 hJ HF.out 17 (by decide) rfl (by rw [HC.out]; rfl) (Chg.refl _ _))
    · obtain rfl : o' = { dst := some 131, op := Op.binOp BinOp.leq 3 (Operand.tmp 122) (Operand.tmp 130) 3, type := 4, pos := "own.go:106", after := #[{ on := 9, ground := Ground.data }, { on := 17, ground := Ground.data }, { on := 8, ground := Ground.guard }], guard := some (8, true) } := (Option.some.inj ho).symm
      have e122 : T.getD 122 undef = .int .i64 cq := Eq.trans (hJ.val 9 (by decide) (hdeps ⟨9, .data⟩ (by simp) rfl)) (by rw [HC.out]; rfl)
      have e130 : T.getD 130 undef = .int .i64 A3 := Eq.trans (hJ.val 17 (by decide) (hdeps ⟨17, .data⟩ (by simp) rfl)) (by rw [HC.out]; rfl)
      have e121 : T.getD 121 undef = .bool true := Eq.trans (hJ.val 8 (by decide) (hdeps ⟨8, .guard⟩ (by simp) rfl)) (by rw [HC.out]; rfl)
      rw [if_pos (want_of rfl (yield_of (s := 121) rfl (by rw [hJ.sz]; decide) e121))]
      clear ho hdeps hi
      go_simp
      exact hK _ _ (put29 hJ HF.out 18 (by decide) rfl (by rw [HC.out]; rfl) (Chg.refl _ _))
    · obtain rfl : o' = { dst := some 132, op := Op.pick (Operand.tmp 121) (Operand.tmp 131) (Operand.const (Value.bool false)), type := 4, pos := "own.go:106", after := #[{ on := 8, ground := Ground.data }, { on := 18, ground := Ground.data }], guard := none } := (Option.some.inj ho).symm
      have e121 : T.getD 121 undef = .bool true := Eq.trans (hJ.val 8 (by decide) (hdeps ⟨8, .data⟩ (by simp) rfl)) (by rw [HC.out]; rfl)
      have e131 : T.getD 131 undef = .bool true := Eq.trans (hJ.val 18 (by decide) (hdeps ⟨18, .data⟩ (by simp) rfl)) (by rw [HC.out]; rfl)
      rw [if_pos (want_all rfl)]
      clear ho hdeps hi
      go_simp
      exact hK _ _ (put29 hJ HF.out 19 (by decide) rfl (by rw [HC.out]; rfl) (Chg.refl _ _))
    · obtain rfl : o' = { dst := some 6, op := Op.assign (Operand.tmp 132), type := 4, pos := "own.go:106", after := #[{ on := 19, ground := Ground.data }, { on := 14, ground := Ground.chain }, { on := 0, ground := Ground.phase }, { on := 1, ground := Ground.phase }, { on := 2, ground := Ground.phase }, { on := 3, ground := Ground.phase }, { on := 4, ground := Ground.phase }, { on := 5, ground := Ground.phase }, { on := 6, ground := Ground.phase }, { on := 7, ground := Ground.phase }, { on := 8, ground := Ground.phase }, { on := 9, ground := Ground.phase }, { on := 10, ground := Ground.phase }, { on := 11, ground := Ground.phase }, { on := 12, ground := Ground.phase }, { on := 13, ground := Ground.phase }, { on := 14, ground := Ground.phase }, { on := 15, ground := Ground.phase }, { on := 16, ground := Ground.phase }, { on := 17, ground := Ground.phase }, { on := 18, ground := Ground.phase }, { on := 19, ground := Ground.phase }], guard := none } := (Option.some.inj ho).symm
      have e132 : T.getD 132 undef = .bool true := Eq.trans (hJ.val 19 (by decide) (hdeps ⟨19, .data⟩ (by simp) rfl)) (by rw [HC.out]; rfl)
      rw [if_pos (want_all rfl)]
      clear ho hdeps hi
      go_simp
      exact hK _ _ (put29 hJ HF.out 20 (by decide) rfl (by rw [HC.out]; rfl) (Chg.refl _ _))

end Go.Proofs.Ytbfbjjfjeiihbaa

/-
  HeapWild: two plain regions over a frame that is a letter.
-/
namespace Go.Proofs.Ytbfbjjfjeiihbaa
open Go.RowKit

theorem getD_set_ne {T : Array Value} {i j : Nat} {v : Value} (h : j ≠ i) : (T.setIfInBounds i v).getD j undef = T.getD j undef := by
  rw [Array.getD_eq_getD_getElem?, Array.getD_eq_getD_getElem?, Array.getElem?_setIfInBounds_ne (fun e => h e.symm)]
theorem getD_set {T : Array Value} {i : Nat} {v : Value} (h : i < T.size) : (T.setIfInBounds i v).getD i undef = v := by
  rw [Array.getD_eq_getD_getElem?]
  simp [h]

noncomputable def ops27 : Array Oper := (Try.f5.body.bind (regIn 27)).getD #[]
noncomputable def ops28 : Array Oper := (Try.f5.body.bind (regIn 28)).getD #[]

set_option maxRecDepth 100000 in
theorem reg27 {w : World} {q c : Nat} {Q : Exit → Act → World → Prop} {A : Act} (BQ : Blk w q [.int .i64 c] 3) (h7 : A.tmps.getD 7 undef = .pointer (some ⟨q, 0, none⟩)) (hQ : Q .normal A (w.setCell ⟨q, 0, none⟩ (.int .i64 0))) : (Code.region 27 ops27 false).wp Try.prog Q A w := by
  refine wp_region_list ?_
  show wpList Try.prog ops27 Q [{ dst := none, op := Op.store 3 (Operand.tmp 7) (Operand.const (Value.int IntKind.i64 0)), type := 0, pos := "own.go:104", after := #[], guard := none }] A w
  obtain ⟨T, df⟩ := A
  have e7 : T.getD 7 undef = .pointer (some ⟨q, 0, none⟩) := h7
  have c0 : w.cell? ⟨q, 0, none⟩ = some (.int .i64 c) := BQ.cell 0
  have f0 := BQ.fr 0
  have HQ : Hid _ := hQ
  clear hQ h7
  refine wpList_plain rfl fun K hK => ?_
  go_simp
  exact hK _ _ (wpList_nil HQ.out)

set_option maxRecDepth 100000 in
theorem reg28 {w : World} {lv ov f pq : Value} {R : Value → World → Prop} {Q : Exit → Act → World → Prop} {A : Act} (SO : Calls Try.prog 20 #[lv, f] w fun e w' => ∃ v, e = .returned v ∧ R v w')
    (sz : A.tmps.size = 133) (df : A.defers = []) (h7 : A.tmps.getD 7 undef = pq) (h8 : A.tmps.getD 8 undef = f) (h10 : A.tmps.getD 10 undef = lv) (h12 : A.tmps.getD 12 undef = ov)
    (hQ : ∀ (b : Act) (v : Value) (w' : World), R v w' → b.tmps.size = 133 → b.defers = [] → b.tmps.getD 7 undef = pq → b.tmps.getD 10 undef = lv → b.tmps.getD 12 undef = ov → b.tmps.getD 20 undef = v → Q .normal b w') : (Code.region 28 ops28 false).wp Try.prog Q A w := by
  refine wp_region_list ?_
  show wpList Try.prog ops28 Q [{ dst := some 110, op := Op.move (Operand.tmp 10), type := 28, pos := "own.go:105", after := #[], guard := none }, { dst := some 111, op := Op.move (Operand.tmp 8), type := 27, pos := "own.go:105", after := #[], guard := none }, { dst := some 112, op := Op.call { callee := Callee.value (Operand.func 20), args := #[Operand.tmp 110, Operand.tmp 111], argTypes := #[28, 27] }, type := 28, pos := "own.go:105", after := #[{ on := 0, ground := Ground.data }, { on := 1, ground := Ground.data }], guard := none }, { dst := some 20, op := Op.assign (Operand.tmp 112), type := 28, pos := "own.go:105", after := #[{ on := 2, ground := Ground.data }, { on := 2, ground := Ground.chain }, { on := 0, ground := Ground.phase }, { on := 1, ground := Ground.phase }, { on := 2, ground := Ground.phase }], guard := none }] A w
  obtain ⟨T, df'⟩ := A
  have s0 : T.size = 133 := sz
  have e8 : T.getD 8 undef = f := h8
  have e10 : T.getD 10 undef = lv := h10
  refine wpList_plain rfl fun K hK => ?_
  show K ⟨T.setIfInBounds 110 (T.getD 10 undef), df'⟩ w
  rw [e10]
  refine hK _ _ ?_
  refine wpList_plain rfl fun K hK => ?_
  show K ⟨(T.setIfInBounds 110 lv).setIfInBounds 111 ((T.setIfInBounds 110 lv).getD 8 undef), df'⟩ w
  rw [getD_set_ne (by decide), e8]
  refine hK _ _ ?_
  refine wpList_plain rfl fun K hK => ?_
  have x0 : ((T.setIfInBounds 110 lv).setIfInBounds 111 f).getD 110 undef = lv := by rw [getD_set_ne (by decide), getD_set (by omega)]
  have x1 : ((T.setIfInBounds 110 lv).setIfInBounds 111 f).getD 111 undef = f := getD_set (by rw [Array.size_setIfInBounds]; omega)
  obtain ⟨T2, hT2⟩ : ∃ T2, T2 = (T.setIfInBounds 110 lv).setIfInBounds 111 f := ⟨_, rfl⟩
  have g : ∀ j, j < 21 → T2.getD j undef = T.getD j undef := fun j hj => by rw [hT2, getD_set_ne (by omega), getD_set_ne (by omega)]
  have s2 : T2.size = 133 := by rw [hT2, Array.size_setIfInBounds, Array.size_setIfInBounds, s0]
  rw [← hT2] at x0 x1 ⊢
  have HT : Hid _ := hT2
  have HG : Hid _ := g
  clear hT2 g e8 e10
  go_simp
  refine Calls.mono SO ?_
  rintro e w' ⟨v, rfl, hr⟩
  refine hK _ _ ?_
  refine wpList_plain rfl fun K hK => ?_
  show K ⟨(T2.setIfInBounds 112 v).setIfInBounds 20 ((T2.setIfInBounds 112 v).getD 112 undef), df'⟩ w'
  rw [getD_set (by omega)]
  refine hK _ _ (wpList_nil ?_)
  have g2 : ∀ j, j < 20 → ((T2.setIfInBounds 112 v).setIfInBounds 20 v).getD j undef = T.getD j undef := fun j hj => by rw [getD_set_ne (by omega), getD_set_ne (by omega)]; exact HG.out j (by omega)
  exact hQ _ v w' hr (by show ((T2.setIfInBounds 112 v).setIfInBounds 20 v).size = 133; rw [Array.size_setIfInBounds, Array.size_setIfInBounds, s2]) df ((g2 7 (by decide)).trans h7) ((g2 10 (by decide)).trans h10) ((g2 12 (by decide)).trans h12) (getD_set (by rw [Array.size_setIfInBounds]; omega))

end Go.Proofs.Ytbfbjjfjeiihbaa
