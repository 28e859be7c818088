import Derived.Test.YtbfbjjfjeiihbaaRfQ
import Derived.Test.YtbfbjjfjeiihbaaWdA
import Derived.Test.YtbfbjjfjeiihbaaDrB
import Derived.Test.YtbfbjjfjeiihbaaTurn
/-
  HeapWild's compare: a table of answers.
-/
namespace Go.Proofs.Ytbfbjjfjeiihbaa
open Go.RowKit

theorem want_of {o : Oper} {y : Nat → Option Bool} {j : Nat} {t : Bool} (hg : o.guard = some (j, t)) (hy : y j = some t) : Region.wanted o y = true := by
  unfold Region.wanted
  rw [hg]
  simp [hy]

theorem want_all {o : Oper} {y : Nat → Option Bool} (hg : o.guard = none) : Region.wanted o y = true := by
  unfold Region.wanted
  rw [hg]

noncomputable def opsW : Array Oper := (Try.f22.body.bind (regIn 4)).getD #[]
def sW (i : Nat) : Nat := if i = 21 then 6 else 12 + i
theorem sW_ne {i j : Nat} (hi : i < 22) (hj : j < 22) (h : j ≠ i) : sW j ≠ sW i := by
  unfold sW
  split <;> split <;> omega

def cW (a b : E) (g o M mc pa pb xn im : Nat) (u1 u2 u3 u4 u5 u6 r : Int) : List Value := [.slice (some ⟨g, o, none⟩) M mc, .pointer (some ⟨pa, 0, none⟩), .int .i64 a.k, .int .u64 u1, .int .u64 u2, .pointer (some ⟨pb, 0, none⟩), .int .i64 b.k, .int .u64 u3, .int .u64 u4, .int .u64 u5, .pointer (some ⟨pa, 1, none⟩), .int .i64 a.n, .int .u64 u6, .int .u64 xn, .slice (some ⟨g, o, none⟩) M mc, .int .i64 M, .int .u64 M, .int .u64 im, .int .i64 im, .pointer (some ⟨g, o + im, none⟩), .int .i64 r, .int .i64 r]

def JW (W1 : World) (pt : Nat) (cs : List Value) (pa pb : Nat) : (Nat → Bool) → Act → World → Prop :=
  RJ 33 sW 22 [(3, .pointer (some ⟨pt, 0, none⟩)), (4, .pointer (some ⟨pa, 0, none⟩)), (5, .pointer (some ⟨pb, 0, none⟩))] (fun i _ v => v = cs.getD i undef) (fun w => w = W1)

theorem putW {W1 : World} {pt pa pb : Nat} {cs : List Value} {d : Nat → Bool} {T : Array Value} {df : List Deferred} {w : World} (h : JW W1 pt cs pa pb d ⟨T, df⟩ w) (i : Nat) {s : Nat} {v : Value} (hi : i < 22) (hs : s = sW i) (hv : v = cs.getD i undef) :
    JW W1 pt cs pa pb (fun j => if j = i then true else d j) ⟨T.setIfInBounds s v, df⟩ w :=
  RJ.put h i hs (by unfold sW; split <;> omega) (fun j hj h => sW_ne hi hj h) (fun x hx => by
    simp only [List.mem_cons, List.not_mem_nil, or_false] at hx
    unfold sW
    rcases hx with rfl | rfl | rfl <;> (split <;> simp; try omega)) hv h.ch (fun _ _ h => h)

set_option maxRecDepth 100000 in
set_option maxHeartbeats 8000000 in
theorem regW {w0 : World} {a b : E} {g o M mc pt pa pb : Nat} {s : Nat → Int} {Q : Exit → Act → World → Prop} {A : Act} {u1 u2 u3 u4 u5 u6 r : Int} {xn : Nat} (h0 : 0 < M) (hM : M ≤ 1048576)
    (e1 : IntKind.u64.wrap a.k = u1) (e2 : IntKind.u64.wrap (u1 * 31) = u2) (e3 : IntKind.u64.wrap b.k = u3) (e4 : IntKind.u64.wrap (u3 * 7) = u4) (e5 : IntKind.u64.wrap (u2 + u4) = u5) (e6 : IntKind.u64.wrap a.n = u6) (e7 : IntKind.u64.wrap (u5 + u6) = xn) (hr : s (xn % M) = r)
    (ct : w0.cell? ⟨pt, 0, none⟩ = some (.slice (some ⟨g, o, none⟩) M mc)) (ca : w0.cell? ⟨pa, 0, none⟩ = some (.int .i64 a.k)) (ca1 : w0.cell? ⟨pa, 1, none⟩ = some (.int .i64 a.n)) (cb : w0.cell? ⟨pb, 0, none⟩ = some (.int .i64 b.k)) (cc : ∀ i, i < M → w0.cell? ⟨g, o + i, none⟩ = some (.int .i64 (s i)))
    (sz : A.tmps.size = 33) (df : A.defers = []) (h3 : A.tmps.getD 3 undef = .pointer (some ⟨pt, 0, none⟩)) (h4 : A.tmps.getD 4 undef = .pointer (some ⟨pa, 0, none⟩)) (h5 : A.tmps.getD 5 undef = .pointer (some ⟨pb, 0, none⟩))
    (hQ : ∀ b : Act, b.tmps.size = 33 → b.defers = [] → b.tmps.getD 6 undef = .int .i64 r → Q .normal b w0.drew) : (Code.region 4 opsW true).wp Try.prog Q A w0 := by
  have dt : w0.drew.cell? ⟨pt, 0, none⟩ = some (.slice (some ⟨g, o, none⟩) M mc) := ct
  have da : w0.drew.cell? ⟨pa, 0, none⟩ = some (.int .i64 a.k) := ca
  have da1 : w0.drew.cell? ⟨pa, 1, none⟩ = some (.int .i64 a.n) := ca1
  have db : w0.drew.cell? ⟨pb, 0, none⟩ = some (.int .i64 b.k) := cb
  obtain ⟨im, him⟩ : ∃ im, im = xn % M := ⟨_, rfl⟩
  have hlt : im < M := by rw [him]; exact Nat.mod_lt _ h0
  have hlt' : (im : Int) < (M : Int) := by omega
  have dc : w0.drew.cell? ⟨g, o + im, none⟩ = some (.int .i64 r) := by rw [← hr, ← him]; exact cc _ hlt
  have hmi : (xn : Int).tmod (M : Int) = (im : Int) := by rw [him, Int.natCast_emod]; exact Int.tmod_eq_emod_of_nonneg (by omega)
  have HMI : Hid _ := hmi
  clear hmi him
  have wM : IntKind.u64.wrap (M : Int) = (M : Int) := by rw [IntKind.wrap_u64]; omega
  have wi : IntKind.i64.wrap (im : Int) = (im : Int) := by rw [IntKind.wrap_i64]; omega
  have hM0 : ¬ ((M : Int) = 0) := by omega
  have hM1 : ¬ (M = 0) := by omega
  have E1 : Hid _ := e1
  have E2 : Hid _ := e2
  have E3 : Hid _ := e3
  have E4 : Hid _ := e4
  have E5 : Hid _ := e5
  have E6 : Hid _ := e6
  have E7 : Hid _ := e7
  have WM : Hid _ := wM
  have WI : Hid _ := wi
  clear e1 e2 e3 e4 e5 e6 e7 hr wM wi ct ca ca1 cb cc
  obtain ⟨W1, hW1⟩ : ∃ W1, W1 = w0.drew := ⟨_, rfl⟩
  rw [← hW1] at dt da da1 db dc hQ
  obtain ⟨cs, hcs⟩ : ∃ cs, cs = cW a b g o M mc pa pb xn im u1 u2 u3 u4 u5 u6 r := ⟨_, rfl⟩
  refine region_plain (by kernel_rfl) (JW W1 pt cs pa pb) ?_ (after_of (by kernel_rfl)) ?_ ?_
  · refine ⟨sz, df, fun x hx => ?_, fun i _ (h : false = true) => (by cases h), hW1.symm⟩
    simp only [List.mem_cons, List.not_mem_nil, or_false] at hx
    rcases hx with rfl | rfl | rfl
    · exact h3
    · exact h4
    · exact h5
  · intro d b w h hall
    have hw : w = W1 := h.ch
    rw [hw]
    refine hQ b h.sz h.df ?_
    have := h.val 21 (by decide) (hall 21 (by decide))
    rw [hcs] at this
    exact this
  · rintro d ⟨T, df⟩ w i o' hJ hdi ho hdeps K hK
    have hi : i < 22 := (Array.getElem?_eq_some_iff.1 ho).1
    have t3 : T.getD 3 undef = .pointer (some ⟨pt, 0, none⟩) := hJ.fix (3, .pointer (some ⟨pt, 0, none⟩)) (by simp)
    have t4 : T.getD 4 undef = .pointer (some ⟨pa, 0, none⟩) := hJ.fix (4, .pointer (some ⟨pa, 0, none⟩)) (by simp)
    have t5 : T.getD 5 undef = .pointer (some ⟨pb, 0, none⟩) := hJ.fix (5, .pointer (some ⟨pb, 0, none⟩)) (by simp)
    have hw : w = W1 := hJ.ch
    subst hw
    have HC : Hid _ := hcs
    clear hdi hcs h3 h4 h5 hQ hW1
    obtain rfl | rfl | rfl | rfl | rfl | rfl | rfl | rfl | rfl | rfl | rfl | rfl | rfl | rfl | rfl | rfl | rfl | rfl | rfl | rfl | rfl | rfl : i = 0 ∨ i = 1 ∨ i = 2 ∨ i = 3 ∨ i = 4 ∨ i = 5 ∨ i = 6 ∨ i = 7 ∨ i = 8 ∨ i = 9 ∨ i = 10 ∨ i = 11 ∨ i = 12 ∨ i = 13 ∨ i = 14 ∨ i = 15 ∨ i = 16 ∨ i = 17 ∨ i = 18 ∨ i = 19 ∨ i = 20 ∨ i = 21 := by omega
    · obtain rfl : o' = { dst := some 12, op := Op.load 39 (Operand.tmp 3), type := 39, pos := "own.go:77", after := #[], guard := none } := (Option.some.inj ho).symm
      rw [if_pos (want_all rfl)]
      clear ho hdeps hi
      go_simp
      exact hK _ _ (putW hJ 0 (by decide) rfl (by rw [HC.out]; rfl))
    · obtain rfl : o' = { dst := some 13, op := Op.fieldAddr 26 (Operand.tmp 4) 0, type := 0, pos := "own.go:77", after := #[], guard := none } := (Option.some.inj ho).symm
      rw [if_pos (want_all rfl)]
      clear ho hdeps hi
      go_simp
      exact hK _ _ (putW hJ 1 (by decide) rfl (by rw [HC.out]; rfl))
    · obtain rfl : o' = { dst := some 14, op := Op.load 3 (Operand.tmp 13), type := 3, pos := "own.go:77", after := #[{ on := 1, ground := Ground.data }], guard := none } := (Option.some.inj ho).symm
      have e13 : T.getD 13 undef = .pointer (some ⟨pa, 0, none⟩) := Eq.trans (hJ.val 1 (by decide) (hdeps ⟨1, .data⟩ (by simp) rfl)) (by rw [HC.out]; rfl)
      rw [if_pos (want_all rfl)]
      clear ho hdeps hi
      go_simp
      exact hK _ _ (putW hJ 2 (by decide) rfl (by rw [HC.out]; rfl))
    · obtain rfl : o' = { dst := some 15, op := Op.convert 3 45 (Operand.tmp 14), type := 45, pos := "own.go:77", after := #[{ on := 2, ground := Ground.data }], guard := none } := (Option.some.inj ho).symm
      have e14 : T.getD 14 undef = .int .i64 a.k := Eq.trans (hJ.val 2 (by decide) (hdeps ⟨2, .data⟩ (by simp) rfl)) (by rw [HC.out]; rfl)
      rw [if_pos (want_all rfl)]
      clear ho hdeps hi
      go_simp
      rw [E1.out]
      exact hK _ _ (putW hJ 3 (by decide) rfl (by rw [HC.out]; rfl))
    · obtain rfl : o' = { dst := some 16, op := Op.binOp BinOp.mul 45 (Operand.tmp 15) (Operand.const (Value.int IntKind.u64 31)) 45, type := 45, pos := "own.go:77", after := #[{ on := 3, ground := Ground.data }], guard := none } := (Option.some.inj ho).symm
      have e15 : T.getD 15 undef = .int .u64 u1 := Eq.trans (hJ.val 3 (by decide) (hdeps ⟨3, .data⟩ (by simp) rfl)) (by rw [HC.out]; rfl)
      rw [if_pos (want_all rfl)]
      clear ho hdeps hi
      go_simp
      rw [E2.out]
      exact hK _ _ (putW hJ 4 (by decide) rfl (by rw [HC.out]; rfl))
    · obtain rfl : o' = { dst := some 17, op := Op.fieldAddr 26 (Operand.tmp 5) 0, type := 0, pos := "own.go:77", after := #[], guard := none } := (Option.some.inj ho).symm
      rw [if_pos (want_all rfl)]
      clear ho hdeps hi
      go_simp
      exact hK _ _ (putW hJ 5 (by decide) rfl (by rw [HC.out]; rfl))
    · obtain rfl : o' = { dst := some 18, op := Op.load 3 (Operand.tmp 17), type := 3, pos := "own.go:77", after := #[{ on := 5, ground := Ground.data }], guard := none } := (Option.some.inj ho).symm
      have e17 : T.getD 17 undef = .pointer (some ⟨pb, 0, none⟩) := Eq.trans (hJ.val 5 (by decide) (hdeps ⟨5, .data⟩ (by simp) rfl)) (by rw [HC.out]; rfl)
      rw [if_pos (want_all rfl)]
      clear ho hdeps hi
      go_simp
      exact hK _ _ (putW hJ 6 (by decide) rfl (by rw [HC.out]; rfl))
    · obtain rfl : o' = { dst := some 19, op := Op.convert 3 45 (Operand.tmp 18), type := 45, pos := "own.go:77", after := #[{ on := 6, ground := Ground.data }], guard := none } := (Option.some.inj ho).symm
      have e18 : T.getD 18 undef = .int .i64 b.k := Eq.trans (hJ.val 6 (by decide) (hdeps ⟨6, .data⟩ (by simp) rfl)) (by rw [HC.out]; rfl)
      rw [if_pos (want_all rfl)]
      clear ho hdeps hi
      go_simp
      rw [E3.out]
      exact hK _ _ (putW hJ 7 (by decide) rfl (by rw [HC.out]; rfl))
    · obtain rfl : o' = { dst := some 20, op := Op.binOp BinOp.mul 45 (Operand.tmp 19) (Operand.const (Value.int IntKind.u64 7)) 45, type := 45, pos := "own.go:77", after := #[{ on := 7, ground := Ground.data }], guard := none } := (Option.some.inj ho).symm
      have e19 : T.getD 19 undef = .int .u64 u3 := Eq.trans (hJ.val 7 (by decide) (hdeps ⟨7, .data⟩ (by simp) rfl)) (by rw [HC.out]; rfl)
      rw [if_pos (want_all rfl)]
      clear ho hdeps hi
      go_simp
      rw [E4.out]
      exact hK _ _ (putW hJ 8 (by decide) rfl (by rw [HC.out]; rfl))
    · obtain rfl : o' = { dst := some 21, op := Op.binOp BinOp.add 45 (Operand.tmp 16) (Operand.tmp 20) 45, type := 45, pos := "own.go:77", after := #[{ on := 4, ground := Ground.data }, { on := 8, ground := Ground.data }], guard := none } := (Option.some.inj ho).symm
      have e16 : T.getD 16 undef = .int .u64 u2 := Eq.trans (hJ.val 4 (by decide) (hdeps ⟨4, .data⟩ (by simp) rfl)) (by rw [HC.out]; rfl)
      have e20 : T.getD 20 undef = .int .u64 u4 := Eq.trans (hJ.val 8 (by decide) (hdeps ⟨8, .data⟩ (by simp) rfl)) (by rw [HC.out]; rfl)
      rw [if_pos (want_all rfl)]
      clear ho hdeps hi
      go_simp
      rw [E5.out]
      exact hK _ _ (putW hJ 9 (by decide) rfl (by rw [HC.out]; rfl))
    · obtain rfl : o' = { dst := some 22, op := Op.fieldAddr 26 (Operand.tmp 4) 1, type := 0, pos := "own.go:77", after := #[], guard := none } := (Option.some.inj ho).symm
      rw [if_pos (want_all rfl)]
      clear ho hdeps hi
      go_simp
      exact hK _ _ (putW hJ 10 (by decide) rfl (by rw [HC.out]; rfl))
    · obtain rfl : o' = { dst := some 23, op := Op.load 3 (Operand.tmp 22), type := 3, pos := "own.go:77", after := #[{ on := 10, ground := Ground.data }], guard := none } := (Option.some.inj ho).symm
      have e22 : T.getD 22 undef = .pointer (some ⟨pa, 1, none⟩) := Eq.trans (hJ.val 10 (by decide) (hdeps ⟨10, .data⟩ (by simp) rfl)) (by rw [HC.out]; rfl)
      rw [if_pos (want_all rfl)]
      clear ho hdeps hi
      go_simp
      exact hK _ _ (putW hJ 11 (by decide) rfl (by rw [HC.out]; rfl))
    · obtain rfl : o' = { dst := some 24, op := Op.convert 3 45 (Operand.tmp 23), type := 45, pos := "own.go:77", after := #[{ on := 11, ground := Ground.data }], guard := none } := (Option.some.inj ho).symm
      have e23 : T.getD 23 undef = .int .i64 a.n := Eq.trans (hJ.val 11 (by decide) (hdeps ⟨11, .data⟩ (by simp) rfl)) (by rw [HC.out]; rfl)
      rw [if_pos (want_all rfl)]
      clear ho hdeps hi
      go_simp
      rw [E6.out]
      exact hK _ _ (putW hJ 12 (by decide) rfl (by rw [HC.out]; rfl))
    · obtain rfl : o' = { dst := some 25, op := Op.binOp BinOp.add 45 (Operand.tmp 21) (Operand.tmp 24) 45, type := 45, pos := "own.go:77", after := #[{ on := 9, ground := Ground.data }, { on := 12, ground := Ground.data }], guard := none } := (Option.some.inj ho).symm
      have e21 : T.getD 21 undef = .int .u64 u5 := Eq.trans (hJ.val 9 (by decide) (hdeps ⟨9, .data⟩ (by simp) rfl)) (by rw [HC.out]; rfl)
      have e24 : T.getD 24 undef = .int .u64 u6 := Eq.trans (hJ.val 12 (by decide) (hdeps ⟨12, .data⟩ (by simp) rfl)) (by rw [HC.out]; rfl)
      rw [if_pos (want_all rfl)]
      clear ho hdeps hi
      go_simp
      rw [E7.out]
      exact hK _ _ (putW hJ 13 (by decide) rfl (by rw [HC.out]; rfl))
    · obtain rfl : o' = { dst := some 26, op := Op.load 39 (Operand.tmp 3), type := 39, pos := "own.go:77", after := #[], guard := none } := (Option.some.inj ho).symm
      rw [if_pos (want_all rfl)]
      clear ho hdeps hi
      go_simp
      exact hK _ _ (putW hJ 14 (by decide) rfl (by rw [HC.out]; rfl))
    · obtain rfl : o' = { dst := some 27, op := Op.call { callee := Callee.builtin Builtin.len, args := #[Operand.tmp 26], argTypes := #[39] }, type := 3, pos := "own.go:77", after := #[{ on := 14, ground := Ground.data }], guard := none } := (Option.some.inj ho).symm
      have e26 : T.getD 26 undef = .slice (some ⟨g, o, none⟩) M mc := Eq.trans (hJ.val 14 (by decide) (hdeps ⟨14, .data⟩ (by simp) rfl)) (by rw [HC.out]; rfl)
      rw [if_pos (want_all rfl)]
      clear ho hdeps hi
      go_simp
      exact hK _ _ (putW hJ 15 (by decide) rfl (by rw [HC.out]; rfl))
    · obtain rfl : o' = { dst := some 28, op := Op.convert 3 45 (Operand.tmp 27), type := 45, pos := "own.go:77", after := #[{ on := 15, ground := Ground.data }], guard := none } := (Option.some.inj ho).symm
      have e27 : T.getD 27 undef = .int .i64 M := Eq.trans (hJ.val 15 (by decide) (hdeps ⟨15, .data⟩ (by simp) rfl)) (by rw [HC.out]; rfl)
      rw [if_pos (want_all rfl)]
      clear ho hdeps hi
      go_simp
      rw [WM.out]
      exact hK _ _ (putW hJ 16 (by decide) rfl (by rw [HC.out]; rfl))
    · obtain rfl : o' = { dst := some 29, op := Op.binOp BinOp.rem 45 (Operand.tmp 25) (Operand.tmp 28) 45, type := 45, pos := "own.go:77", after := #[{ on := 13, ground := Ground.data }, { on := 16, ground := Ground.data }], guard := none } := (Option.some.inj ho).symm
      have e25 : T.getD 25 undef = .int .u64 xn := Eq.trans (hJ.val 13 (by decide) (hdeps ⟨13, .data⟩ (by simp) rfl)) (by rw [HC.out]; rfl)
      have e28 : T.getD 28 undef = .int .u64 M := Eq.trans (hJ.val 16 (by decide) (hdeps ⟨16, .data⟩ (by simp) rfl)) (by rw [HC.out]; rfl)
      rw [if_pos (want_all rfl)]
      clear ho hdeps hi
      go_simp
      rw [HMI.out]
      exact hK _ _ (putW hJ 17 (by decide) rfl (by rw [HC.out]; rfl))
    · obtain rfl : o' = { dst := some 30, op := Op.convert 45 3 (Operand.tmp 29), type := 3, pos := "own.go:77", after := #[{ on := 17, ground := Ground.data }], guard := none } := (Option.some.inj ho).symm
      have e29 : T.getD 29 undef = .int .u64 im := Eq.trans (hJ.val 17 (by decide) (hdeps ⟨17, .data⟩ (by simp) rfl)) (by rw [HC.out]; rfl)
      rw [if_pos (want_all rfl)]
      clear ho hdeps hi
      go_simp
      rw [WI.out]
      exact hK _ _ (putW hJ 18 (by decide) rfl (by rw [HC.out]; rfl))
    · obtain rfl : o' = { dst := some 31, op := Op.indexAddr 39 (Operand.tmp 12) (Operand.tmp 30), type := 0, pos := "own.go:77", after := #[{ on := 0, ground := Ground.data }, { on := 18, ground := Ground.data }], guard := none } := (Option.some.inj ho).symm
      have e12 : T.getD 12 undef = .slice (some ⟨g, o, none⟩) M mc := Eq.trans (hJ.val 0 (by decide) (hdeps ⟨0, .data⟩ (by simp) rfl)) (by rw [HC.out]; rfl)
      have e30 : T.getD 30 undef = .int .i64 im := Eq.trans (hJ.val 18 (by decide) (hdeps ⟨18, .data⟩ (by simp) rfl)) (by rw [HC.out]; rfl)
      rw [if_pos (want_all rfl)]
      clear ho hdeps hi
      go_simp
      exact hK _ _ (putW hJ 19 (by decide) rfl (by rw [HC.out]; rfl))
    · obtain rfl : o' = { dst := some 32, op := Op.load 3 (Operand.tmp 31), type := 3, pos := "own.go:77", after := #[{ on := 19, ground := Ground.data }], guard := none } := (Option.some.inj ho).symm
      have e31 : T.getD 31 undef = .pointer (some ⟨g, o + im, none⟩) := Eq.trans (hJ.val 19 (by decide) (hdeps ⟨19, .data⟩ (by simp) rfl)) (by rw [HC.out]; rfl)
      rw [if_pos (want_all rfl)]
      clear ho hdeps hi
      go_simp
      exact hK _ _ (putW hJ 20 (by decide) rfl (by rw [HC.out]; rfl))
    · obtain rfl : o' = { dst := some 6, op := Op.assign (Operand.tmp 32), type := 3, pos := "own.go:77", after := #[{ on := 20, ground := Ground.data }, { on := 0, ground := Ground.phase }, { on := 1, ground := Ground.phase }, { on := 2, ground := Ground.phase }, { on := 3, ground := Ground.phase }, { on := 4, ground := Ground.phase }, { on := 5, ground := Ground.phase }, { on := 6, ground := Ground.phase }, { on := 7, ground := Ground.phase }, { on := 8, ground := Ground.phase }, { on := 9, ground := Ground.phase }, { on := 10, ground := Ground.phase }, { on := 11, ground := Ground.phase }, { on := 12, ground := Ground.phase }, { on := 13, ground := Ground.phase }, { on := 14, ground := Ground.phase }, { on := 15, ground := Ground.phase }, { on := 16, ground := Ground.phase }, { on := 17, ground := Ground.phase }, { on := 18, ground := Ground.phase }, { on := 19, ground := Ground.phase }, { on := 20, ground := Ground.phase }], guard := none } := (Option.some.inj ho).symm
      have e32 : T.getD 32 undef = .int .i64 r := Eq.trans (hJ.val 20 (by decide) (hdeps ⟨20, .data⟩ (by simp) rfl)) (by rw [HC.out]; rfl)
      rw [if_pos (want_all rfl)]
      clear ho hdeps hi
      go_simp
      exact hK _ _ (putW hJ 21 (by decide) rfl (by rw [HC.out]; rfl))

/-- Which answer of the table. -/
def wx (M : Nat) (a b : E) : Nat := (IntKind.u64.wrap (IntKind.u64.wrap (IntKind.u64.wrap (IntKind.u64.wrap a.k * 31) + IntKind.u64.wrap (IntKind.u64.wrap b.k * 7)) + IntKind.u64.wrap a.n)).toNat % M
def wildF (M : Nat) (s : Nat → Int) (a b : E) : Int := if M = 0 then 1 else s (wx M a b)

/-- The blocks of the table. -/
def Tb (ta : Option Addr) (M : Nat) (k : Nat) : Prop := 0 < M ∧ ∃ o, ta = some ⟨k, o, none⟩
def SW (q t : Nat) (ta : Option Addr) (M : Nat) (k : Nat) : Prop := k = q ∨ k = t ∨ Tb ta M k
structure IW (W : World) (q t : Nat) (ta : Option Addr) (M mc : Nat) (c : Nat) (w : World) : Prop where
  q : Blk w q [.int .i64 c] 3
  t : Blk w t [.slice ta M mc] 39
  tb : ∀ k, Tb ta M k → w.heap[k]? = W.heap[k]?
  lt : ∀ k, Tb ta M k → k < W.heap.size
  sz : W.heap.size ≤ w.heap.size

theorem IW.keep {W w w' : World} {q t : Nat} {ta : Option Addr} {M mc c : Nat} {T : Nat → Prop} (h : IW W q t ta M mc c w) (k : Chg T w w') (hT : ∀ i, T i → ¬ SW q t ta M i) : IW W q t ta M mc c w' :=
  ⟨h.q.keep k (fun x => hT _ x (.inl rfl)), h.t.keep k (fun x => hT _ x (.inr (.inl rfl))), fun i hi => by rw [k.block i (Nat.lt_of_lt_of_le (h.lt i hi) h.sz) (fun x => hT _ x (.inr (.inr hi)))]; exact h.tb i hi, h.lt, Nat.le_trans h.sz k.size⟩

set_option maxRecDepth 100000 in
set_option maxHeartbeats 8000000 in
theorem cmp_wild {W : World} {ta : Option Addr} {M : Nat} {s : Nat → Int} (hs : Ins W ta M s) (q t mc : Nat) (hq : q ≠ t) (hqW : W.heap.size ≤ q) : Cmp 22 #[.pointer (some ⟨q, 0, none⟩), .pointer (some ⟨t, 0, none⟩)] (SW q t ta M) (IW W q t ta M mc) (wildF M s) := by
  refine ⟨fun args w => rfl, fun w c a b hI hc => ?_, fun h1 h2 h3 => h1.keep h2 h3, fun h1 h2 => ?_⟩
  · have c0 : w.cell? ⟨q, 0, none⟩ = some (.int .i64 c) := hI.q.cell 0
    have f0 := hI.q.fr 0
    have c1 : w.cell? ⟨t, 0, none⟩ = some (.slice ta M mc) := hI.t.cell 0
    have HI : Hid _ := hI
    have HS : Hid _ := hs
    have hlt : q < w.heap.size := hI.q.lt
    have htl : t < w.heap.size := hI.t.lt
    have hM : M ≤ 1048576 := hs.len
    unfold E.two
    clear hI hs
    show Calls Try.prog 22 #[.agg #[.int .i64 a.k, .int .i64 a.n], .agg #[.int .i64 b.k, .int .i64 b.n], .pointer (some ⟨q, 0, none⟩), .pointer (some ⟨t, 0, none⟩)] w _
    obtain ⟨w1, hw1⟩ : ∃ w1, w1 = ((w.setCell ⟨q, 0, none⟩ (.int .i64 ((c : Int) + 1))).alloc (.cells #[.int .i64 a.k, .int .i64 a.n] 26)).alloc (.cells #[.int .i64 b.k, .int .i64 b.n] 26) := ⟨_, rfl⟩
    have kk : Chg (fun k => k = q) w (w.setCell ⟨q, 0, none⟩ (.int .i64 ((c : Int) + 1))) := (Chg.refl (fun k => k = q) w).setCell (p := ⟨q, 0, none⟩) (.inl rfl) _
    have k1 : Chg (fun k => k = q) w w1 := by rw [hw1]; exact (kk.alloc _).alloc _
    have ch1 : Chg (SW q t ta M) w w1 := k1.mono (fun _ _ e => .inl e)
    have i1 : IW W q t ta M mc (c + 1) w1 := by
      refine ⟨?_, HI.out.t.keep k1 (fun e => hq e.symm), fun k hk => ?_, HI.out.lt, Nat.le_trans HI.out.sz k1.size⟩
      · rw [show (((c + 1 : Nat)) : Int) = (c : Int) + 1 by omega, hw1]
        exact ((HI.out.q.set 0 _).alloc _).alloc _
      · rw [k1.block k (Nat.lt_of_lt_of_le (HI.out.lt k hk) HI.out.sz) (fun e => by have := HI.out.lt k hk; omega)]
        exact HI.out.tb k hk
    have I1 : Hid _ := i1
    have C1 : Hid _ := ch1
    have ba : Blk w1 w.heap.size [.int .i64 a.k, .int .i64 a.n] 26 := by
      rw [hw1]
      have := (Blk.made (w.setCell ⟨q, 0, none⟩ (.int .i64 ((c : Int) + 1))) [.int .i64 a.k, .int .i64 a.n] 26).alloc (.cells #[.int .i64 b.k, .int .i64 b.n] 26)
      rwa [World.size_setCell] at this
    have bb : Blk w1 (w.heap.size + 1) [.int .i64 b.k, .int .i64 b.n] 26 := by
      rw [hw1]
      have := Blk.made ((w.setCell ⟨q, 0, none⟩ (.int .i64 ((c : Int) + 1))).alloc (.cells #[.int .i64 a.k, .int .i64 a.n] 26)) [.int .i64 b.k, .int .i64 b.n] 26
      rwa [World.size_alloc, World.size_setCell] at this
    have BA : Hid _ := ba
    have BB : Hid _ := bb
    have d1 : w1.cell? ⟨t, 0, none⟩ = some (.slice ta M mc) := i1.t.cell 0
    clear i1 ch1 ba bb
    by_cases hM0 : M = 0
    · subst hM0
      go_enter Try.func22, Try.ntmps22
      go_upto_region 2 with fail
      rw [← hw1]
      clear hw1
      go_wp2_with fail
      go_ret
      exact ⟨rfl, I1.out, C1.out⟩
    · have hMp : 0 < M := by omega
      obtain ⟨g, o, hta, cc⟩ : ∃ g o, ta = some ⟨g, o, none⟩ ∧ ∀ i, i < M → w1.cell? ⟨g, o + i, none⟩ = some (.int .i64 (s i)) := by
        obtain ⟨g, o, e0, _⟩ := HS.out.row 0 hMp
        refine ⟨g, o, e0, fun i hi => ?_⟩
        obtain ⟨g', o', e1, e2⟩ := HS.out.row i hi
        rw [e0] at e1
        injection e1 with e1
        injection e1 with e3 e4
        subst e3 e4
        have hh := I1.out.tb g ⟨hMp, o, e0⟩
        rw [← e2]
        exact World.cell?_of_block hh
      subst hta
      obtain ⟨xn, hxn⟩ : ∃ xn : Nat, IntKind.u64.wrap (IntKind.u64.wrap (IntKind.u64.wrap (IntKind.u64.wrap a.k * 31) + IntKind.u64.wrap (IntKind.u64.wrap b.k * 7)) + IntKind.u64.wrap a.n) = (xn : Int) := ⟨(IntKind.u64.wrap (IntKind.u64.wrap (IntKind.u64.wrap (IntKind.u64.wrap a.k * 31) + IntKind.u64.wrap (IntKind.u64.wrap b.k * 7)) + IntKind.u64.wrap a.n)).toNat, by
        have : 0 ≤ IntKind.u64.wrap (IntKind.u64.wrap (IntKind.u64.wrap (IntKind.u64.wrap a.k * 31) + IntKind.u64.wrap (IntKind.u64.wrap b.k * 7)) + IntKind.u64.wrap a.n) := by rw [IntKind.wrap_u64]; omega
        omega⟩
      have hres : wildF M s a b = s (xn % M) := by
        unfold wildF wx
        rw [if_neg hM0, hxn, Int.toNat_natCast]
      have RG : Hid (∀ (Q : Exit → Act → World → Prop) (A : Act), A.tmps.size = 33 → A.defers = [] → A.tmps.getD 3 undef = .pointer (some ⟨t, 0, none⟩) → A.tmps.getD 4 undef = .pointer (some ⟨w.heap.size, 0, none⟩) → A.tmps.getD 5 undef = .pointer (some ⟨w.heap.size + 1, 0, none⟩) → (∀ b' : Act, b'.tmps.size = 33 → b'.defers = [] → b'.tmps.getD 6 undef = .int .i64 (wildF M s a b) → Q .normal b' w1.drew) → (Code.region 4 opsW true).wp Try.prog Q A w1) :=
        fun Q A q1 q2 q3 q4 q5 q6 => regW (s := s) hMp hM rfl rfl rfl rfl rfl rfl hxn hres.symm d1 (BA.out.cell 0) (BA.out.cell 1) (BB.out.cell 0) cc q1 q2 q3 q4 q5 q6
      have hM2 : ¬ ((M : Int) = 0) := by omega
      clear hxn hres cc
      go_enter Try.func22, Try.ntmps22
      go_upto_region 2 with fail
      rw [← hw1]
      clear hw1
      go_upto_region 4 with fail
      refine RG.out _ _ rfl rfl rfl rfl rfl ?_
      rename_i KK hKK
      intro b' _ b2 b3
      refine hKK b' _ ?_
      refine wp_ret ?_
      show bodyPost Try.prog Try.f22 (fun e w' => e = .returned (.int .i64 (wildF M s a b)) ∧ IW W q t (some ⟨g, o, none⟩) M mc (c + 1) w' ∧ Chg (SW q t (some ⟨g, o, none⟩) M) w w') .ret b' w1.drew
      refine bodyPost_ret (results_tmp rfl _ _ _) b2 ?_
      exact ⟨by rw [b3], I1.out.keep (Chg.drew (Chg.refl (fun _ => False) w1)) (fun _ h => h.elim), C1.out.drew⟩
  · rcases h2 with h | h | h
    · rw [h]; exact h1.q.lt
    · rw [h]; exact h1.t.lt
    · exact Nat.lt_of_lt_of_le (h1.lt _ h) h1.sz

end Go.Proofs.Ytbfbjjfjeiihbaa

/-
  once and each: the things of a list, none twice.
-/
namespace Go.Proofs.Ytbfbjjfjeiihbaa
open Go.RowKit

theorem infoB : (Try.prog.info? 4).map (fun i => (i.zero, i.size, i.bytes)) = some (some (.bool false), 1, 1) := by kernel_rfl
def fls (n : Nat) : List Bool := List.replicate n false
theorem made_fls (n : Nat) : madeCells (Value.bool false).cells (n * 1) = ((fls n).map Value.bool).toArray := by
  apply Array.ext_getElem?
  intro i
  simp [madeCells, fls, Value.cells]
  by_cases h : i < n <;> simp [h, Nat.mod_one]
theorem run_mkB (n : Nat) (h : n ≤ 1048576) (w : World) : (Instr.makeSlice 40 (.int .i64 n) (.int .i64 n)).run Try.prog w = .ok (.slice (some ⟨w.heap.size, 0, none⟩) n n) (w.alloc (.cells ((fls n).map Value.bool).toArray 4)) := by
  obtain ⟨i0, hi, hz0, hz1, hz2⟩ := info_parts infoB
  have := run_make (P := Try.prog) w 40 4 i0 (.bool false) Try.underlying40 hi hz0 .i64 .i64 n n (by omega) (Int.le_refl _) (by rw [hz2]; omega) (by omega)
  rw [this, hz1, Int.toNat_natCast, made_fls]

theorem Ths.at_ {w : World} {a : Option Addr} {n c : Nat} {L : List (Int × Int)} (h : Ths w (.slice a n c) L) {i : Nat} {x : Int × Int} (hx : L[i]? = some x) : ∃ b o, a = some ⟨b, o, none⟩ ∧ w.cell? ⟨b, o + i * 2, none⟩ = some (.int .i64 x.1) ∧ w.cell? ⟨b, o + i * 2 + 1, none⟩ = some (.int .i64 x.2) := by
  rcases h with ⟨_, rfl⟩ | ⟨_, _, _, rfl⟩ | ⟨b, o, c', e, hc⟩
  · simp at hx
  · simp at hx
  · injection e with e1 _ _
    exact ⟨b, o, e1, hc i x hx⟩

set_option maxRecDepth 100000 in
set_option maxHeartbeats 8000000 in
theorem once_any {w : World} {iv uv : Value} {L O : List (Int × Int)} (hL : Ths w iv L) (hO : Ths w uv O) (on : Onc L O) (hl : L.length ≤ 1048576) (hol : O.length ≤ 1048576) :
    Calls Try.prog 23 #[iv, uv] w fun e w' => e = .returned (.bool true) ∧ Chg (fun _ => False) w w' := by
  obtain ⟨ia, ic, rfl⟩ := hL.form
  obtain ⟨ua, uc, rfl⟩ := hO.form
  have HL : Hid _ := hL
  have HO : Hid _ := hO
  have ON : Hid _ := on
  have hmk := run_mkB L.length hl w
  have B0 : Hid (Blk (w.alloc (.cells ((fls L.length).map Value.bool).toArray 4)) w.heap.size ((fls L.length).map Value.bool) 4) := Blk.made _ _ _
  clear hL hO on
  go_enter Try.func23, Try.ntmps23
  go_wp2_with fail
  clear hmk
  go_loopw [6] (fun si wr => ∃ (i : Nat) (G : List Bool), si = .int .i64 i ∧ i ≤ O.length ∧ Hid (Blk wr w.heap.size (G.map Value.bool) 4 ∧ G.length = L.length ∧ Chg (fun _ => False) w wr ∧ ∀ n : Nat, G[n]? = some true → ∃ j x, j < i ∧ O[j]? = some x ∧ x.2 = (n : Int))) (fun si _ => O.length - (intOf si).toNat)
  case atStart => exact ⟨0, fls L.length, rfl, by omega, B0.out, by simp [fls], (Chg.refl _ _).alloc _, fun n h => by simp [fls, List.getElem?_replicate] at h⟩
  case round =>
    obtain ⟨i, G, rfl, hi, hid⟩ := hrel
    by_cases h0 : i < O.length
    · obtain ⟨hb, hg, hch, hno⟩ := hid.out
      obtain ⟨⟨xk, xn⟩, hx⟩ : ∃ x, O[i]? = some x := ⟨O[i], by simp [h0]⟩
      obtain ⟨m, hm, hmN, hLm⟩ := ON.out.at_ (xk, xn) (List.mem_of_getElem? hx)
      have hm : xn = (m : Int) := hm
      subst hm
      obtain ⟨bo, oo, hua, a0, a1⟩ := Ths.at_ (Ths.keep HO.out hch (fun _ _ h => h)) hx
      obtain ⟨bi, oi, hia, b0, b1⟩ := Ths.at_ (Ths.keep HL.out hch (fun _ _ h => h)) hLm
      subst hua hia
      have hGm : G[m]? = some false := by
        have hlt : m < G.length := by omega
        rw [List.getElem?_eq_getElem hlt]
        rcases hgb : G[m] with _ | _
        · rfl
        · exfalso
          obtain ⟨j, y, hj, hy, hyn⟩ := hno m (by rw [List.getElem?_eq_getElem hlt, hgb])
          have nd := ON.out.nd
          rw [List.nodup_iff_pairwise_ne, List.pairwise_map, List.pairwise_iff_getElem] at nd
          have hjl : j < O.length := by omega
          refine nd j i hjl h0 hj ?_
          have e1 : O[j] = y := by rw [List.getElem?_eq_getElem hjl] at hy; exact Option.some.inj hy
          have e2 : O[i] = (xk, (m : Int)) := by rw [List.getElem?_eq_getElem h0] at hx; exact Option.some.inj hx
          rw [e1, e2]
          exact hyn
      have s0 : wr.cell? ⟨w.heap.size, m, none⟩ = some (.bool false) := by rw [hb.cell m, List.getElem?_map, hGm]; rfl
      have f0 : wr.frozen? ⟨w.heap.size, m, none⟩ = false := hb.fr m
      have RR : Hid (∀ nq, Blk ((wr.drewN nq).setCell ⟨w.heap.size, m, none⟩ (.bool true)) w.heap.size ((G.set m true).map Value.bool) 4 ∧ (G.set m true).length = L.length ∧ Chg (fun _ => False) w ((wr.drewN nq).setCell ⟨w.heap.size, m, none⟩ (.bool true)) ∧ ∀ n : Nat, (G.set m true)[n]? = some true → ∃ j x, j < i + 1 ∧ O[j]? = some x ∧ x.2 = (n : Int)) := fun nq => by
        have hb2 : Blk (wr.drewN nq) w.heap.size (G.map Value.bool) 4 := ⟨hb.eq⟩
        refine ⟨?_, by rw [List.length_set]; exact hg, ?_, fun n hn => ?_⟩
        · have := hb2.set m (.bool true)
          rw [List.map_set]
          exact this
        · have c2 : Chg (fun _ => False) w (wr.drewN nq) := ⟨hch.os, hch.tape, hch.output, hch.size, hch.block⟩
          exact c2.setCell (p := ⟨w.heap.size, m, none⟩) (.inr (Nat.le_refl _)) _
        · by_cases e : n = m
          · subst e
            exact ⟨i, (xk, (n : Int)), by omega, hx, rfl⟩
          · rw [List.getElem?_set_ne (fun h => e h.symm)] at hn
            obtain ⟨j, y, h1, h2, h3⟩ := hno n hn
            exact ⟨j, y, by omega, h2, h3⟩
      have EQ := eql26
      have i1 : (i : Int) < (O.length : Int) := by omega
      have g1 : (m : Int) < (L.length : Int) := by omega
      have d1 : decide ((m : Int) < 0) = false := decide_eq_false (by omega)
      have d2 : decide ((L.length : Int) ≤ (m : Int)) = false := decide_eq_false (by omega)
      clear hid hb hg hch hno hx hLm hGm B0
      go_wp2_with fail
      go_quiet (fail)
      go_wp2_with fail
      go_roundw
      case rel => exact ⟨i + 1, G.set m true, by go_num, by omega, RR.out _⟩
      case measure => simp [intOf]; omega
    · have hi2 : i = O.length := by omega
      subst hi2
      have C : Hid _ := hid.out.2.2.1
      clear hid B0
      go_wp2_with fail
      go_ret
      exact ⟨rfl, C.out⟩

set_option maxRecDepth 100000 in
set_option maxHeartbeats 8000000 in
theorem each_any {w : World} {iv uv : Value} {L O : List (Int × Int)} (hL : Ths w iv L) (hO : Ths w uv O) (on : Onc L O) (hl : L.length ≤ 1048576) (he : O.length = L.length) :
    Calls Try.prog 24 #[iv, uv] w fun e w' => e = .returned (.bool true) ∧ Chg (fun _ => False) w w' := by
  have OC : Hid _ := once_any hL hO on hl (by omega)
  obtain ⟨ia, ic, rfl⟩ := hL.form
  obtain ⟨ua, uc, e⟩ := hO.form
  rw [he] at e
  subst e
  clear hL hO on he
  have b1 : ((L.length : Int) == (L.length : Int)) = true := by simp
  go_enter Try.func24, Try.ntmps24
  go_wp2_with (go_at_call 23; refine Calls.mono OC.out ?_; rintro e w2 ⟨rfl, c2⟩; have C2 : Hid _ := c2; clear c2)
  go_ret
  exact ⟨rfl, C2.out⟩

end Go.Proofs.Ytbfbjjfjeiihbaa

/-
  The walk of leastBackwards, its cost told more closely.
-/
namespace Go.Proofs.Ytbfbjjfjeiihbaa.V
open Go.RowKit

section
variable {w wr : World} {n c : Nat} {f v : Value} {S : Nat → Prop} {I : Nat → World → Prop} {H : List E} {came : Nat} {od : Go.Proofs.Ytbfbjjfjeiihbaa.E → Go.Proofs.Ytbfbjjfjeiihbaa.E → Int} {one : Nat}

theorem LB.push2 (O : Go.Proofs.Ytbfbjjfjeiihbaa.Od f S I od one) (h1 : one ≤ 1) {c0 : Nat} (hI : I c0 w) (h : LB w wr (w.heap.size + 1) w.heap.size n c f v S I H came) (a : Int × Int × Int) (g : Nat) (hg : Blk wr g [.int .i64 a.1, .int .i64 a.2.1, .int .i64 a.2.2] 67)
    (hgl : w.heap.size + 1 < g) (hgv : v.ownBlock ≠ some g) (hlt : H.length < n) (hn2 : n ≤ 1048576) (hcm : came + 1 ≤ 2097152) (hc : c ≤ 1152921504606846976) :
    Calls Try.prog 48 #[.pointer (some ⟨w.heap.size + 1, 0, none⟩), .slice (some ⟨g, 0, none⟩) 1 1] wr fun e w' => e = .returned (.tuple #[]) ∧ ∃ v', LB w w' (w.heap.size + 1) w.heap.size n (c + (dg n + 1)) f v' S I (pushF (odF (odBk od)) [a] H came).1 (came + 1) := by
  have hlow := LB.low O hI
  have hqr : w.heap.size < wr.heap.size := h.ib.2.lt
  have hth : Ths wr (.slice (some ⟨g, 0, none⟩) 1 1) [a] := .inr (.inr ⟨g, 0, 1, rfl, fun i z hz => by
    cases i with
    | zero =>
      have h9 : a = z := by simpa using hz
      subst h9
      exact ⟨hg.cell 0, hg.cell 1, hg.cell 2⟩
    | succ i => simp at hz⟩)
  refine (push_any (od_back O h1 w.heap.size (hlow _ (Nat.le_refl _))) h.hq (fun e => ?_) (fun k hk e => ?_) c (L := [a]) hth (fun k _ hk => ?_) (by simp; omega) (by simp; omega) h.ib (by simp; omega) (Nat.le_refl _)).mono ?_
  · rcases e with e | e
    · exact hlow _ (by omega) e
    · omega
  · rcases e with e | e
    · exact hlow _ (h.vl k hk) e
    · exact h.vq (by rw [hk, e])
  · have h9 : g = k := by simpa [Value.ownBlock] using hk
    subst h9
    refine ⟨by omega, fun e => hgv e.symm, fun e => ?_, hg.lt⟩
    rcases e with e | e
    · exact hlow _ (by omega) e
    · omega
  · rintro e w' ⟨rfl, st⟩
    obtain ⟨v', hv'⟩ := h.stt (by omega) (Nat.le_refl _) hqr st (by rw [pushF_len]; simp; omega)
    refine ⟨rfl, v', hv'.hq, hv'.ib.up ?_, hv'.ch, hv'.vl, hv'.vq, hv'.len⟩
    have h5 := pushF_cost (odF (odBk od)) [a] H came
    have h6 : most H.length [a].length = dg H.length + 1 := by simp [most]
    rw [h6] at h5
    have h7 := dg_mono (Nat.le_of_lt hlt)
    rw [Nat.one_mul]
    omega
end

set_option maxRecDepth 100000 in
set_option maxHeartbeats 4000000 in
theorem lb_any2 {w : World} {f : Value} {S : Nat → Prop} {I : Nat → World → Prop} {od : Go.Proofs.Ytbfbjjfjeiihbaa.E → Go.Proofs.Ytbfbjjfjeiihbaa.E → Int} {one : Nat} (O : Go.Proofs.Ytbfbjjfjeiihbaa.Od f S I od one) (h1 : one ≤ 1) {s : Value} {L : List (Int × Int)} (hL : Go.Proofs.Ytbfbjjfjeiihbaa.Ths w s L) (hs : ∀ k, L ≠ [] → s.ownBlock = some k → ¬ S k)
    (hf : ∀ cs, f ≠ .agg cs) (n c : Nat) (hn : 0 < n) (hn2 : n ≤ 1048576) (hl : L.length ≤ 1048576) (hI : I c w) (hc : c ≤ 1125899906842624) :
    Calls Try.prog 37 #[s, .int .i64 n, f] w fun e w' => ∃ v, e = .returned (.pointer (some ⟨w.heap.size + 1, 0, none⟩)) ∧ LB w w' (w.heap.size + 1) w.heap.size n (c + (L.length * (2 * dg n + 1) - min n L.length * dg n)) f v S I (lbF od n L 0 [] 0).1 (lbF od n L 0 [] 0).2 := by
  obtain ⟨sa, sc, rfl⟩ := hL.form
  have OO : Hid _ := O
  have HL : Hid (Go.Proofs.Ytbfbjjfjeiihbaa.Ths _ _ _) := hL
  have HS : Hid _ := hs
  have HI : Hid _ := hI
  have hq0 : ¬ S w.heap.size := fun h => Nat.lt_irrefl _ (O.low hI h)
  have hp0 : ¬ (S (w.heap.size + 1) ∨ w.heap.size + 1 = w.heap.size) := fun h => by
    rcases h with h | h
    · have := O.low hI h; omega
    · omega
  have OB : Hid _ := od_back O h1 w.heap.size hq0
  have HQ0 : Hid _ := hq0
  have HP0 : Hid _ := hp0
  have B0 : Hid (Blk (w.alloc (.cells #[f] 27)) w.heap.size [f] 27) := Blk.made w [f] 27
  have NW : Hid _ := new_any (f := .func (.func 44) #[] #[.pointer (some ⟨w.heap.size, 0, none⟩)]) (.inr ⟨44, _, rfl⟩) (w.alloc (.cells #[f] 27))
  clear O hL hs hI hq0 hp0
  have HF : Hid _ := hf
  clear hf
  go_enter Try.func37, Try.ntmps37
  go_wp2_with fail
  · exact absurd rfl (HF.out _)
  refine Calls.mono NW.out ?_
  rintro e w1 ⟨rfl, hq1, ch1⟩
  rw [World.size_alloc] at hq1 ⊢
  have C1 : Hid (Chg (fun _ => False) w w1) := ((Chg.refl (fun _ => False) w).alloc _).trans ch1 (fun _ h => h.elim)
  have B1 : Hid (Blk w1 w.heap.size [f] 27) := B0.out.keep ch1 (fun h => h)
  have Q1 : Hid _ := hq1
  have L0 : Hid (LB w w1 (w.heap.size + 1) w.heap.size n c f (.slice none 0 0) S I [] 0) :=
    ⟨hq1, ⟨⟨c, Nat.le_refl _, OO.out.keep HI.out C1.out (fun _ h => h.elim)⟩, B1.out⟩, C1.out.mono (fun _ _ h => h.elim), fun k hk => by simp [Value.ownBlock] at hk, by simp [Value.ownBlock], by simp⟩
  clear hq1 ch1 NW B0 C1 Q1
  go_wp2_with fail
  go_loopg [17] (L.length + 1) (fun gk si wr => ∃ (j : Nat) (v : Value) (H : List E) (came : Nat), si = .int .i64 j ∧ j ≤ L.length ∧ L.length < gk + j ∧ came ≤ j ∧ Hid (LB w wr (w.heap.size + 1) w.heap.size n (c + (j * (2 * dg n + 1) - H.length * dg n)) f v S I H came ∧ H.length ≤ j ∧ lbF od n L 0 [] 0 = lbF od n (L.drop j) j H came))
  case atStart => exact ⟨0, _, [], 0, rfl, by omega, by omega, by omega, by rw [Nat.zero_mul, Nat.zero_sub, Nat.add_zero]; exact L0.out, by simp, rfl⟩
  case round =>
    obtain ⟨j, v, H, came, rfl, hj, hgk, hcj, hid⟩ := hrel
    obtain ⟨lb, hHj, heq⟩ := hid.out
    have hBA : H.length * dg n ≤ j * (2 * dg n + 1) := Nat.mul_le_mul hHj (by omega)
    have HBA : Hid _ := hBA
    have HHJ : Hid _ := hHj
    clear hBA hHj
    clear hid L0 B1
    by_cases h0 : j = L.length
    · subst h0
      have LBH : Hid _ := lb
      have HE : Hid _ := heq
      clear lb heq
      go_wp2_with fail
      go_ret
      have e1 : L.drop L.length = [] := List.drop_length
      have e2 := Go.Proofs.Ytbfbjjfjeiihbaa.lbF_len od n L 0 [] 0 (by simp)
      rw [HE.out, e1] at e2 ⊢
      refine ⟨v, rfl, ?_⟩
      have e3 : min n L.length = H.length := by
        rw [List.length_nil, Nat.zero_add] at e2
        exact e2.symm
      rw [e3]
      exact LBH.out
    · have hjl : j < L.length := by omega
      have hjl' : (j : Int) < (L.length : Int) := by omega
      obtain ⟨⟨ak, an⟩, ha⟩ : ∃ a, L[j]? = some a := ⟨L[j], by simp [hjl]⟩
      have hdr : L.drop j = (ak, an) :: L.drop (j + 1) := by rw [List.drop_eq_getElem_cons hjl]; congr 1; simpa [hjl] using ha
      obtain ⟨b, o, hsa, e0, e1⟩ : ∃ b o, sa = some ⟨b, o, none⟩ ∧ wr.cell? ⟨b, o + j * 2, none⟩ = some (.int .i64 ak) ∧ wr.cell? ⟨b, o + j * 2 + 1, none⟩ = some (.int .i64 an) := by
        have hk := Go.Proofs.Ytbfbjjfjeiihbaa.Ths.keep HL.out lb.ch (fun k hk => HS.out k (fun e => by rw [e] at hjl; simp at hjl) hk)
        rcases hk with ⟨h9, h8⟩ | ⟨_, _, _, h8⟩ | ⟨b, o, cp, h9, hcel⟩
        · rw [h8] at hjl; simp at hjl
        · rw [h8] at hjl; simp at hjl
        · injection h9 with h9 _ _
          exact ⟨b, o, h9, hcel j (ak, an) ha⟩
      subst hsa
      have cf : wr.cell? ⟨w.heap.size, 0, none⟩ = some f := lb.ib.2.cell 0
      have hlq : w.heap.size < wr.heap.size := lb.ib.2.lt
      have PK : Hid (∀ w', Chg (fun _ => False) wr w' → _) := fun w' (k : Chg (fun _ => False) wr w') => peek_any (lb.keep OO.out k).hq
      have LBH : Hid _ := lb
      have HE : Hid _ := heq
      have HD : Hid _ := hdr
      have HA : Hid _ := ha
      clear lb heq hdr ha
      go_upto_region 6 with fail
      obtain ⟨w2, hw2⟩ : ∃ w2, w2 = (wr.alloc (.cells #[.int .i64 ak, .int .i64 an] 26)).alloc (.cells #[.int .i64 ak, .int .i64 an, .int .i64 j] 67) := ⟨_, rfl⟩
      rw [← hw2]
      have hc2 : Chg (fun _ => False) wr w2 := by rw [hw2]; exact ((Chg.refl _ _).alloc _).alloc _
      have hb2 : Blk w2 (wr.heap.size + 1) [.int .i64 ak, .int .i64 an, .int .i64 j] 67 := by
        rw [hw2]
        have := Blk.made (wr.alloc (.cells #[.int .i64 ak, .int .i64 an] 26)) [.int .i64 ak, .int .i64 an, .int .i64 j] 67
        rwa [World.size_alloc] at this
      have lb2 := LBH.out.keep OO.out hc2
      obtain ⟨e, he⟩ : ∃ e, nth H 0 = e := ⟨_, rfl⟩
      have PK0 : Hid _ := peek_any lb2.hq
      rw [he] at PK0
      unfold two E.th at PK0
      have B2 : Hid _ := hb2
      have LB2 : Hid _ := lb2
      have HN : Hid _ := he
      clear hw2 hc2 hb2 lb2 he PK e0 e1 cf
      go_wp2_with fail
      refine Calls.mono PK0.out ?_
      rintro e' w3 ⟨rfl, ch3⟩
      obtain ⟨w4, hw4⟩ : ∃ w4, w4 = w3.alloc (.cells #[.int .i64 e.k, .int .i64 e.n, .int .i64 e.i] 67) := ⟨_, rfl⟩
      have hc4 : Chg (fun _ => False) w2 w4 := by rw [hw4]; exact ch3.trans ((Chg.refl (fun _ => False) w3).alloc _) (fun _ h => h.elim)
      have hb10 := Blk.keep B2.out hc4 (fun h => h)
      have hb11 : Blk w4 w3.heap.size [.int .i64 e.k, .int .i64 e.n, .int .i64 e.i] 67 := by rw [hw4]; exact Blk.made w3 [.int .i64 e.k, .int .i64 e.n, .int .i64 e.i] 67
      have lb4 := LB.keep OO.out LB2.out hc4
      have LN : Hid _ := len_any lb4.hq
      have W4 : Hid _ := hw4
      have LB4 : Hid _ := lb4
      have B10 : Hid _ := hb10
      have B11 : Hid _ := hb11
      clear hw4 hc4 hb10 hb11 lb4 ch3 PK0 LB2 B2 LBH
      go_upto_region 7 with fail
      rw [← W4.out]
      by_cases hlt : H.length < n
      · have hlt' : (H.length : Int) < (n : Int) := by omega
        have x0 : w4.cell? ⟨wr.heap.size + 1, 0, none⟩ = some (.int .i64 ak) := B10.out.cell 0
        have x1 : w4.cell? ⟨wr.heap.size + 1, 1, none⟩ = some (.int .i64 an) := B10.out.cell 1
        have x2 : w4.cell? ⟨wr.heap.size + 1, 2, none⟩ = some (.int .i64 j) := B10.out.cell 2
        go_wp2_with (go_at_call 47; refine Calls.mono LN.out ?_; rintro e' w9 ⟨rfl, h9⟩; subst h9; clear LN)
        have hc5 : Chg (fun _ => False) w4 (w4.alloc (.cells #[.int .i64 ak, .int .i64 an, .int .i64 j] 67)) := (Chg.refl _ _).alloc _
        have lb5 := LB.keep OO.out LB4.out hc5
        have hb5 : Blk (w4.alloc (.cells #[.int .i64 ak, .int .i64 an, .int .i64 j] 67)) w4.heap.size [.int .i64 ak, .int .i64 an, .int .i64 j] 67 := Blk.made w4 [.int .i64 ak, .int .i64 an, .int .i64 j] 67
        have hs4 : w.heap.size + 1 < w4.heap.size := LB4.out.hq.lt
        have hdl := dgl_le 21 n (by omega)
        have hjd : j * (2 * dg n + 1) ≤ 1048576 * 43 := Nat.mul_le_mul (by omega) (by omega)
        refine Calls.mono (lb5.push2 OO.out h1 HI.out (ak, an, (j : Int)) w4.heap.size hb5 hs4 (fun e => by have := LB4.out.hq.vlt _ e; omega) hlt hn2 (by omega) (by omega)) ?_
        rintro e' w6 ⟨rfl, v6, lb6⟩
        have L6 : Hid _ := lb6
        clear lb6 lb5 hb5 hc5 x0 x1 x2 hjd hdl
        go_wp2_with fail
        go_roundg (L.length - j)
        case measure => omega
        case rel =>
          refine ⟨j + 1, v6, (pushF (odF (odBk od)) [(ak, an, (j : Int))] H came).1, came + 1, by go_num, by omega, by omega, by omega, ?_, ?_, ?_⟩
          · have := L6.out
            have hb9 := HBA.out
            have e9 : c + (j * (2 * dg n + 1) - H.length * dg n) + (dg n + 1) = c + ((j + 1) * (2 * dg n + 1) - (pushF (odF (odBk od)) [(ak, an, (j : Int))] H came).1.length * dg n) := by
              rw [pushF_len, List.length_singleton, Nat.add_mul, Nat.one_mul, Nat.add_mul, Nat.one_mul]; omega
            rwa [e9] at this
          · rw [pushF_len, List.length_singleton]; have := HHJ.out; omega
          · rw [HE.out, HD.out, lbF, if_pos hlt]
      · have hlt' : ¬ ((H.length : Int) < (n : Int)) := by omega
        have x0 : w4.cell? ⟨wr.heap.size + 1, 0, none⟩ = some (.int .i64 ak) := B10.out.cell 0
        have x1 : w4.cell? ⟨wr.heap.size + 1, 1, none⟩ = some (.int .i64 an) := B10.out.cell 1
        have x2 : w4.cell? ⟨wr.heap.size + 1, 2, none⟩ = some (.int .i64 j) := B10.out.cell 2
        have y0 : w4.cell? ⟨w3.heap.size, 0, none⟩ = some (.int .i64 e.k) := B11.out.cell 0
        have y1 : w4.cell? ⟨w3.heap.size, 1, none⟩ = some (.int .i64 e.n) := B11.out.cell 1
        have y2 : w4.cell? ⟨w3.heap.size, 2, none⟩ = some (.int .i64 e.i) := B11.out.cell 2
        have cf : w4.cell? ⟨w.heap.size, 0, none⟩ = some f := LB4.out.ib.2.cell 0
        have hdl := dgl_le 21 n (by omega)
        have hjd : j * (2 * dg n + 1) ≤ 1048576 * 43 := Nat.mul_le_mul (by omega) (by omega)
        have hsum : c + (j * (2 * dg n + 1) - H.length * dg n) + 1 < 1152921504606846976 := by omega
        have OR : Hid _ := LB4.out.order OO.out h1 HI.out ⟨ak, an, j⟩ e.inn (by omega)
        unfold E.inn Go.Proofs.Ytbfbjjfjeiihbaa.E.val at OR
        have HM : Hid _ := hsum
        clear hdl hjd hsum
        obtain ⟨r, hr⟩ : ∃ r, od ⟨ak, an, j⟩ ⟨e.k, e.n, e.i⟩ = r := ⟨_, rfl⟩
        rw [hr] at OR
        have HR : Hid _ := hr
        clear hr
        have NB : Hid (¬ S (wr.heap.size + 1)) := LB.low OO.out HI.out _ (by omega)
        by_cases hr0 : r < 0
        · have SW : Hid (∀ w5 : World, LB w w5 (w.heap.size + 1) w.heap.size n (c + (j * (2 * dg n + 1) - H.length * dg n) + 1) f v S I H came → _) := fun w5 lb5 => LB.swap OO.out h1 HI.out lb5 (ak, an, (j : Int)) hn hlt hn2 (by omega) HM.out
          unfold two at SW
          go_wp2_with (first | (go_at_call 47; refine Calls.mono LN.out ?_; rintro e' w9 ⟨rfl, h9⟩; subst h9; clear LN) | (go_at_call 45; refine Calls.mono OR.out ?_; rintro e' w5 ⟨rfl, lb5, ch5⟩; have z0 : w5.cell? ⟨wr.heap.size + 1, 0, none⟩ = some (.int .i64 ak) := (Blk.keep B10.out ch5 NB.out).cell 0; have z1 : w5.cell? ⟨wr.heap.size + 1, 1, none⟩ = some (.int .i64 an) := (Blk.keep B10.out ch5 NB.out).cell 1; have z2 : w5.cell? ⟨wr.heap.size + 1, 2, none⟩ = some (.int .i64 j) := (Blk.keep B10.out ch5 NB.out).cell 2; have L5 : Hid _ := lb5; clear lb5 ch5))
          refine Calls.mono (SW.out _ L5.out) ?_
          rintro e' w6 ⟨⟨xv, rfl⟩, v6, lb6⟩
          have L6 : Hid _ := lb6
          clear lb6 SW L5 z0 z1 z2
          go_wp2_with fail
          go_roundg (L.length - j)
          case measure => omega
          case rel =>
            refine ⟨j + 1, v6, (swapF (odF (odBk od)) H ⟨ak, an, (j : Int), (came : Int) + 1⟩).1, came + 1, by go_num, by omega, by omega, by omega, ?_, ?_, ?_⟩
            · have := L6.out
              have hb9 := HBA.out
              have e9 : c + (j * (2 * dg n + 1) - H.length * dg n) + 1 + 2 * dg n = c + ((j + 1) * (2 * dg n + 1) - (swapF (odF (odBk od)) H ⟨ak, an, (j : Int), (came : Int) + 1⟩).1.length * dg n) := by
                rw [swapF_len, Nat.add_mul, Nat.one_mul]; omega
              rwa [e9] at this
            · rw [swapF_len]; have := HHJ.out; omega
            · rw [HE.out, HD.out, lbF, if_neg hlt, if_pos]
              unfold Go.Proofs.Ytbfbjjfjeiihbaa.lt E.inn
              rw [HN.out, HR.out]
              exact decide_eq_true hr0
        · go_wp2_with (first | (go_at_call 47; refine Calls.mono LN.out ?_; rintro e' w9 ⟨rfl, h9⟩; subst h9; clear LN) | (go_at_call 45; refine Calls.mono OR.out ?_; rintro e' w5 ⟨rfl, lb5, ch5⟩; have z0 : w5.cell? ⟨wr.heap.size + 1, 0, none⟩ = some (.int .i64 ak) := (Blk.keep B10.out ch5 NB.out).cell 0; have z1 : w5.cell? ⟨wr.heap.size + 1, 1, none⟩ = some (.int .i64 an) := (Blk.keep B10.out ch5 NB.out).cell 1; have z2 : w5.cell? ⟨wr.heap.size + 1, 2, none⟩ = some (.int .i64 j) := (Blk.keep B10.out ch5 NB.out).cell 2; have L5 : Hid _ := lb5; clear lb5 ch5))
          go_roundg (L.length - j)
          case measure => omega
          case rel =>
            refine ⟨j + 1, v, H, came, by go_num, by omega, by omega, by omega, ?_, ?_, ?_⟩
            · have lb5 := L5.out
              have hb9 := HBA.out
              have := lb5.ib.up (d := c + ((j + 1) * (2 * dg n + 1) - H.length * dg n)) (by rw [Nat.add_mul, Nat.one_mul]; omega)
              exact ⟨lb5.hq, this, lb5.ch, lb5.vl, lb5.vq, lb5.len⟩
            · have := HHJ.out; omega
            · rw [HE.out, HD.out, lbF, if_neg hlt, if_neg]
              unfold Go.Proofs.Ytbfbjjfjeiihbaa.lt E.inn
              rw [HN.out, HR.out]
              simpa using hr0

end Go.Proofs.Ytbfbjjfjeiihbaa.V
