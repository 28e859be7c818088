/-
  HeapFresh: its three long regions.
-/
import Derived.Test.YtpkcabbfblhekaaFrE
namespace Go.Proofs.Ytpkcabbfblhekaa
open Go.RowKit

noncomputable def opsT : Array Oper := (Try.f8.body.bind (regIn 13)).getD #[]
def sT (i : Nat) : Nat := 49 + i
theorem sT_ne {i j : Nat} (_hi : i < 38) (_hj : j < 38) (h : j ≠ i) : sT j ≠ sT i := by
  unfold sT
  omega
def cT (N c3 c4 c5 c6 c7 c8 kk hh : Nat) (a3 a4 a5 a6 a7 a8 : Option Addr) : List Value := [.slice a4 N c4, .slice a3 N c3, .bool true, .bool false, .bool false, .slice a7 N c7, .slice a3 N c3, .bool true, .bool false, .bool false, .bool false, .slice a6 hh c6, .slice a3 N c3, .int .i64 hh, .slice a3 hh c3, .bool true, .bool false, .bool false, .bool false, .slice a5 kk c5, .int .i64 kk, .int .i64 kk, .bool false, .bool false, .bool false, .slice a5 kk c5, .slice a3 N c3, .int .i64 kk, .slice a3 kk c3, .bool true, .bool false, .bool false, .bool false, .slice a8 kk c8, .slice a5 kk c5, .bool true, .bool false, .bool false]

theorem putT {fx : List (Nat × Value)} {Φ : Nat → World → Value → Prop} {C : World → Prop} {d : Nat → Bool} {T : Array Value} {df : List Deferred} {w w' : World} (h : RJ 154 sT 38 fx Φ C d ⟨T, df⟩ w) (hf : ∀ x ∈ fx, x.1 < 49 ∧ x.1 ≠ 4) (i : Nat) {s : Nat} {v : Value} (hi : i < 38) (hs : s = sT i) (hv : Φ i w' v) (hC : C w') (hm : ∀ j u, Φ j w u → Φ j w' u) :
    RJ 154 sT 38 fx Φ C (fun j => if j = i then true else d j) ⟨T.setIfInBounds s v, df⟩ w' :=
  RJ.put h i hs (by unfold sT; omega) (fun j hj h => sT_ne hi hj h) (fun x hx => by
    have := hf x hx
    unfold sT
    omega) hv hC hm

set_option maxRecDepth 100000 in
set_option maxHeartbeats 8000000 in
theorem regT {w0 : World} {W : World} {F : List En} {n : Int} {N c2 c3 c4 c5 c6 c7 c8 kk hh : Nat} {a2 a3 a4 a5 a6 a7 a8 : Option Addr} {Q : Exit → Act → World → Prop} {A : Act} (M1 : (∀ w, FS W w F → Calls Try.prog 19 #[.slice a4 N c4, .slice a3 N c3] w fun e w' => e = .returned (.bool true) ∧ FS W w' F)) (M2 : (∀ w, FS W w F → Calls Try.prog 19 #[.slice a7 N c7, .slice a3 N c3] w fun e w' => e = .returned (.bool true) ∧ FS W w' F)) (M3 : (∀ w, FS W w F → Calls Try.prog 19 #[.slice a6 hh c6, .slice a3 hh c3] w fun e w' => e = .returned (.bool true) ∧ FS W w' F)) (M4 : (∀ w, FS W w F → Calls Try.prog 19 #[.slice a5 kk c5, .slice a3 kk c3] w fun e w' => e = .returned (.bool true) ∧ FS W w' F)) (M5 : (∀ w, FS W w F → Calls Try.prog 19 #[.slice a8 kk c8, .slice a5 kk c5] w fun e w' => e = .returned (.bool true) ∧ FS W w' F)) (q3 : (hh : Int) ≤ (c3 : Int)) (q4 : (kk : Int) ≤ (c3 : Int)) (hw : FS W w0 F) (hA : Fr A [(1, .int .i64 n), (5, .slice a2 N c2), (6, .slice a3 N c3), (7, .int .i64 kk), (8, .int .i64 hh), (9, .slice a4 N c4), (10, .slice a5 kk c5), (11, .slice a6 hh c6), (12, .slice a7 N c7), (13, .slice a8 kk c8)])
    (hQ : ∀ (b : Act) (w' : World), Fr b [(1, .int .i64 n), (5, .slice a2 N c2), (6, .slice a3 N c3), (7, .int .i64 kk), (8, .int .i64 hh), (9, .slice a4 N c4), (10, .slice a5 kk c5), (11, .slice a6 hh c6), (12, .slice a7 N c7), (13, .slice a8 kk c8)] → b.tmps.getD 86 undef = .bool false → (fun w => FS W w F) w' → Q .normal b w') : (Code.region 13 opsT false).wp Try.prog Q A w0 := by
  have nk : ((kk : Int) == (kk : Int)) = true := by simp
  obtain ⟨fx, hfxe⟩ : ∃ fx : List (Nat × Value), fx = [(1, .int .i64 n), (5, .slice a2 N c2), (6, .slice a3 N c3), (7, .int .i64 kk), (8, .int .i64 hh), (9, .slice a4 N c4), (10, .slice a5 kk c5), (11, .slice a6 hh c6), (12, .slice a7 N c7), (13, .slice a8 kk c8)] := ⟨_, rfl⟩
  have hfl : ∀ x ∈ fx, x.1 < 49 ∧ x.1 ≠ 4 := by
    rw [hfxe]
    intro x hx
    simp only [List.mem_cons, List.not_mem_nil, or_false] at hx
    rcases hx with rfl | rfl | rfl | rfl | rfl | rfl | rfl | rfl | rfl | rfl <;> simp
  rw [← hfxe] at hA hQ
  obtain ⟨cs, hcs⟩ : ∃ cs, cs = cT N c3 c4 c5 c6 c7 c8 kk hh a3 a4 a5 a6 a7 a8 := ⟨_, rfl⟩
  refine region_list (RJ 154 sT 38 fx (fun i _ v => v = cs.getD i undef) (fun w => FS W w F)) ?_ ?_ ?_
  · exact ⟨hA.sz, hA.df, hA.fx, fun i _ (h : false = true) => (by cases h), hw⟩
  · intro d b w h hall
    refine hQ b w ⟨h.sz, h.df, h.fix⟩ ?_ h.ch
    have := h.val 37 (by decide) (hall 37 (by decide))
    rw [hcs] at this
    exact this
  · rintro d ⟨T, df⟩ w j o' hJ hdi ho hdeps K hK
    have hi : j < 38 := (Array.getElem?_eq_some_iff.1 ho).1
    have t1 : T.getD 1 undef = .int .i64 n := hJ.fix (1, .int .i64 n) (by rw [hfxe]; simp)
    have t5 : T.getD 5 undef = .slice a2 N c2 := hJ.fix (5, .slice a2 N c2) (by rw [hfxe]; simp)
    have t6 : T.getD 6 undef = .slice a3 N c3 := hJ.fix (6, .slice a3 N c3) (by rw [hfxe]; simp)
    have t7 : T.getD 7 undef = .int .i64 kk := hJ.fix (7, .int .i64 kk) (by rw [hfxe]; simp)
    have t8 : T.getD 8 undef = .int .i64 hh := hJ.fix (8, .int .i64 hh) (by rw [hfxe]; simp)
    have t9 : T.getD 9 undef = .slice a4 N c4 := hJ.fix (9, .slice a4 N c4) (by rw [hfxe]; simp)
    have t10 : T.getD 10 undef = .slice a5 kk c5 := hJ.fix (10, .slice a5 kk c5) (by rw [hfxe]; simp)
    have t11 : T.getD 11 undef = .slice a6 hh c6 := hJ.fix (11, .slice a6 hh c6) (by rw [hfxe]; simp)
    have t12 : T.getD 12 undef = .slice a7 N c7 := hJ.fix (12, .slice a7 N c7) (by rw [hfxe]; simp)
    have t13 : T.getD 13 undef = .slice a8 kk c8 := hJ.fix (13, .slice a8 kk c8) (by rw [hfxe]; simp)
    have HC : Hid _ := hcs
    have HF : Hid _ := hfl
    clear hdi hcs hQ hfxe hfl hA
    obtain rfl | rfl | rfl | rfl | rfl | rfl | rfl | rfl | rfl | rfl | rfl | rfl | rfl | rfl | rfl | rfl | rfl | rfl | rfl | rfl | rfl | rfl | rfl | rfl | rfl | rfl | rfl | rfl | rfl | rfl | rfl | rfl | rfl | rfl | rfl | rfl | rfl | rfl : j = 0 ∨ j = 1 ∨ j = 2 ∨ j = 3 ∨ j = 4 ∨ j = 5 ∨ j = 6 ∨ j = 7 ∨ j = 8 ∨ j = 9 ∨ j = 10 ∨ j = 11 ∨ j = 12 ∨ j = 13 ∨ j = 14 ∨ j = 15 ∨ j = 16 ∨ j = 17 ∨ j = 18 ∨ j = 19 ∨ j = 20 ∨ j = 21 ∨ j = 22 ∨ j = 23 ∨ j = 24 ∨ j = 25 ∨ j = 26 ∨ j = 27 ∨ j = 28 ∨ j = 29 ∨ j = 30 ∨ j = 31 ∨ j = 32 ∨ j = 33 ∨ j = 34 ∨ j = 35 ∨ j = 36 ∨ j = 37 := by omega
    · obtain rfl : o' = { dst := some 49, op := Op.move (Operand.tmp 9), type := 28, pos := "own.go:247", after := #[], guard := none } := (Option.some.inj ho).symm
      rw [if_pos (want_all rfl)]
      clear ho hdeps hi
      go_simp
      exact hK _ _ (putT hJ HF.out 0 (by decide) rfl (by rw [HC.out]; rfl) hJ.ch (fun _ _ h => h))
    · obtain rfl : o' = { dst := some 50, op := Op.move (Operand.tmp 6), type := 28, pos := "own.go:247", after := #[], guard := none } := (Option.some.inj ho).symm
      rw [if_pos (want_all rfl)]
      clear ho hdeps hi
      go_simp
      exact hK _ _ (putT hJ HF.out 1 (by decide) rfl (by rw [HC.out]; rfl) hJ.ch (fun _ _ h => h))
    · obtain rfl : o' = { dst := some 51, op := Op.call { callee := Callee.value (Operand.func 19), args := #[Operand.tmp 49, Operand.tmp 50], argTypes := #[28, 28] }, type := 4, pos := "own.go:247", after := #[{ on := 0, ground := Ground.data }, { on := 1, ground := Ground.data }], guard := none } := (Option.some.inj ho).symm
      have e49 : T.getD 49 undef = .slice a4 N c4 := Eq.trans (hJ.val 0 (by decide) (hdeps 0 (by decide))) (by rw [HC.out]; rfl)
      have e50 : T.getD 50 undef = .slice a3 N c3 := Eq.trans (hJ.val 1 (by decide) (hdeps 1 (by decide))) (by rw [HC.out]; rfl)
      rw [if_pos (want_all rfl)]
      clear ho hdeps hi
      go_simp
      refine Calls.mono (M1 w hJ.ch) ?_
      rintro e w2 ⟨rfl, f2⟩
      exact hK _ _ (putT hJ HF.out 2 (by decide) rfl (by rw [HC.out]; rfl) f2 (fun _ _ h => h))
    · obtain rfl : o' = { dst := some 52, op := Op.unOp UnOp.not 4 (Operand.tmp 51), type := 4, pos := "own.go:247", after := #[{ on := 2, ground := Ground.data }], guard := none } := (Option.some.inj ho).symm
      have e51 : T.getD 51 undef = .bool true := Eq.trans (hJ.val 2 (by decide) (hdeps 2 (by decide))) (by rw [HC.out]; rfl)
      rw [if_pos (want_all rfl)]
      clear ho hdeps hi
      go_simp
      exact hK _ _ (putT hJ HF.out 3 (by decide) rfl (by rw [HC.out]; rfl) hJ.ch (fun _ _ h => h))
    · obtain rfl : o' = { dst := some 53, op := Op.move (Operand.tmp 52), type := 4, pos := "own.go:247", after := #[{ on := 3, ground := Ground.data }, { on := 2, ground := Ground.chain }], guard := none } := (Option.some.inj ho).symm
      have e52 : T.getD 52 undef = .bool false := Eq.trans (hJ.val 3 (by decide) (hdeps 3 (by decide))) (by rw [HC.out]; rfl)
      rw [if_pos (want_all rfl)]
      clear ho hdeps hi
      go_simp
      exact hK _ _ (putT hJ HF.out 4 (by decide) rfl (by rw [HC.out]; rfl) hJ.ch (fun _ _ h => h))
    · obtain rfl : o' = { dst := some 54, op := Op.move (Operand.tmp 12), type := 28, pos := "own.go:247", after := #[{ on := 4, ground := Ground.guard }], guard := some (4, false) } := (Option.some.inj ho).symm
      have e53 : T.getD 53 undef = .bool false := Eq.trans (hJ.val 4 (by decide) (hdeps 4 (by decide))) (by rw [HC.out]; rfl)
      rw [if_pos (want_of rfl (yield_of (s := 53) rfl (by rw [hJ.sz]; decide) e53))]
      clear ho hdeps hi
      go_simp
      exact hK _ _ (putT hJ HF.out 5 (by decide) rfl (by rw [HC.out]; rfl) hJ.ch (fun _ _ h => h))
    · obtain rfl : o' = { dst := some 55, op := Op.move (Operand.tmp 6), type := 28, pos := "own.go:247", after := #[{ on := 4, ground := Ground.guard }], guard := some (4, false) } := (Option.some.inj ho).symm
      have e53 : T.getD 53 undef = .bool false := Eq.trans (hJ.val 4 (by decide) (hdeps 4 (by decide))) (by rw [HC.out]; rfl)
      rw [if_pos (want_of rfl (yield_of (s := 53) rfl (by rw [hJ.sz]; decide) e53))]
      clear ho hdeps hi
      go_simp
      exact hK _ _ (putT hJ HF.out 6 (by decide) rfl (by rw [HC.out]; rfl) hJ.ch (fun _ _ h => h))
    · obtain rfl : o' = { dst := some 56, op := Op.call { callee := Callee.value (Operand.func 19), args := #[Operand.tmp 54, Operand.tmp 55], argTypes := #[28, 28] }, type := 4, pos := "own.go:247", after := #[{ on := 5, ground := Ground.data }, { on := 6, ground := Ground.data }, { on := 4, ground := Ground.chain }, { on := 4, ground := Ground.guard }], guard := some (4, false) } := (Option.some.inj ho).symm
      have e54 : T.getD 54 undef = .slice a7 N c7 := Eq.trans (hJ.val 5 (by decide) (hdeps 5 (by decide))) (by rw [HC.out]; rfl)
      have e55 : T.getD 55 undef = .slice a3 N c3 := Eq.trans (hJ.val 6 (by decide) (hdeps 6 (by decide))) (by rw [HC.out]; rfl)
      have e53 : T.getD 53 undef = .bool false := Eq.trans (hJ.val 4 (by decide) (hdeps 4 (by decide))) (by rw [HC.out]; rfl)
      rw [if_pos (want_of rfl (yield_of (s := 53) rfl (by rw [hJ.sz]; decide) e53))]
      clear ho hdeps hi
      go_simp
      refine Calls.mono (M2 w hJ.ch) ?_
      rintro e w2 ⟨rfl, f2⟩
      exact hK _ _ (putT hJ HF.out 7 (by decide) rfl (by rw [HC.out]; rfl) f2 (fun _ _ h => h))
    · obtain rfl : o' = { dst := some 57, op := Op.unOp UnOp.not 4 (Operand.tmp 56), type := 4, pos := "own.go:247", after := #[{ on := 7, ground := Ground.data }, { on := 4, ground := Ground.guard }], guard := some (4, false) } := (Option.some.inj ho).symm
      have e56 : T.getD 56 undef = .bool true := Eq.trans (hJ.val 7 (by decide) (hdeps 7 (by decide))) (by rw [HC.out]; rfl)
      have e53 : T.getD 53 undef = .bool false := Eq.trans (hJ.val 4 (by decide) (hdeps 4 (by decide))) (by rw [HC.out]; rfl)
      rw [if_pos (want_of rfl (yield_of (s := 53) rfl (by rw [hJ.sz]; decide) e53))]
      clear ho hdeps hi
      go_simp
      exact hK _ _ (putT hJ HF.out 8 (by decide) rfl (by rw [HC.out]; rfl) hJ.ch (fun _ _ h => h))
    · obtain rfl : o' = { dst := some 58, op := Op.pick (Operand.tmp 53) (Operand.const (Value.bool true)) (Operand.tmp 57), type := 4, pos := "own.go:247", after := #[{ on := 4, ground := Ground.data }, { on := 8, ground := Ground.data }], guard := none } := (Option.some.inj ho).symm
      have e53 : T.getD 53 undef = .bool false := Eq.trans (hJ.val 4 (by decide) (hdeps 4 (by decide))) (by rw [HC.out]; rfl)
      have e57 : T.getD 57 undef = .bool false := Eq.trans (hJ.val 8 (by decide) (hdeps 8 (by decide))) (by rw [HC.out]; rfl)
      rw [if_pos (want_all rfl)]
      clear ho hdeps hi
      go_simp
      exact hK _ _ (putT hJ HF.out 9 (by decide) rfl (by rw [HC.out]; rfl) hJ.ch (fun _ _ h => h))
    · obtain rfl : o' = { dst := some 59, op := Op.move (Operand.tmp 58), type := 4, pos := "own.go:247", after := #[{ on := 9, ground := Ground.data }, { on := 7, ground := Ground.chain }], guard := none } := (Option.some.inj ho).symm
      have e58 : T.getD 58 undef = .bool false := Eq.trans (hJ.val 9 (by decide) (hdeps 9 (by decide))) (by rw [HC.out]; rfl)
      rw [if_pos (want_all rfl)]
      clear ho hdeps hi
      go_simp
      exact hK _ _ (putT hJ HF.out 10 (by decide) rfl (by rw [HC.out]; rfl) hJ.ch (fun _ _ h => h))
    · obtain rfl : o' = { dst := some 60, op := Op.move (Operand.tmp 11), type := 28, pos := "own.go:247", after := #[{ on := 10, ground := Ground.guard }], guard := some (10, false) } := (Option.some.inj ho).symm
      have e59 : T.getD 59 undef = .bool false := Eq.trans (hJ.val 10 (by decide) (hdeps 10 (by decide))) (by rw [HC.out]; rfl)
      rw [if_pos (want_of rfl (yield_of (s := 59) rfl (by rw [hJ.sz]; decide) e59))]
      clear ho hdeps hi
      go_simp
      exact hK _ _ (putT hJ HF.out 11 (by decide) rfl (by rw [HC.out]; rfl) hJ.ch (fun _ _ h => h))
    · obtain rfl : o' = { dst := some 61, op := Op.move (Operand.tmp 6), type := 28, pos := "own.go:247", after := #[{ on := 10, ground := Ground.guard }], guard := some (10, false) } := (Option.some.inj ho).symm
      have e59 : T.getD 59 undef = .bool false := Eq.trans (hJ.val 10 (by decide) (hdeps 10 (by decide))) (by rw [HC.out]; rfl)
      rw [if_pos (want_of rfl (yield_of (s := 59) rfl (by rw [hJ.sz]; decide) e59))]
      clear ho hdeps hi
      go_simp
      exact hK _ _ (putT hJ HF.out 12 (by decide) rfl (by rw [HC.out]; rfl) hJ.ch (fun _ _ h => h))
    · obtain rfl : o' = { dst := some 62, op := Op.move (Operand.tmp 8), type := 3, pos := "own.go:247", after := #[{ on := 10, ground := Ground.guard }], guard := some (10, false) } := (Option.some.inj ho).symm
      have e59 : T.getD 59 undef = .bool false := Eq.trans (hJ.val 10 (by decide) (hdeps 10 (by decide))) (by rw [HC.out]; rfl)
      rw [if_pos (want_of rfl (yield_of (s := 59) rfl (by rw [hJ.sz]; decide) e59))]
      clear ho hdeps hi
      go_simp
      exact hK _ _ (putT hJ HF.out 13 (by decide) rfl (by rw [HC.out]; rfl) hJ.ch (fun _ _ h => h))
    · obtain rfl : o' = { dst := some 63, op := Op.slice 28 (Operand.tmp 61) none (some (Operand.tmp 62)) none, type := 28, pos := "own.go:247", after := #[{ on := 12, ground := Ground.data }, { on := 13, ground := Ground.data }, { on := 10, ground := Ground.guard }], guard := some (10, false) } := (Option.some.inj ho).symm
      have e61 : T.getD 61 undef = .slice a3 N c3 := Eq.trans (hJ.val 12 (by decide) (hdeps 12 (by decide))) (by rw [HC.out]; rfl)
      have e62 : T.getD 62 undef = .int .i64 hh := Eq.trans (hJ.val 13 (by decide) (hdeps 13 (by decide))) (by rw [HC.out]; rfl)
      have e59 : T.getD 59 undef = .bool false := Eq.trans (hJ.val 10 (by decide) (hdeps 10 (by decide))) (by rw [HC.out]; rfl)
      rw [if_pos (want_of rfl (yield_of (s := 59) rfl (by rw [hJ.sz]; decide) e59))]
      clear ho hdeps hi
      go_simp
      exact hK _ _ (putT hJ HF.out 14 (by decide) rfl (by rw [HC.out]; rfl) hJ.ch (fun _ _ h => h))
    · obtain rfl : o' = { dst := some 64, op := Op.call { callee := Callee.value (Operand.func 19), args := #[Operand.tmp 60, Operand.tmp 63], argTypes := #[28, 28] }, type := 4, pos := "own.go:247", after := #[{ on := 11, ground := Ground.data }, { on := 14, ground := Ground.data }, { on := 10, ground := Ground.chain }, { on := 10, ground := Ground.guard }], guard := some (10, false) } := (Option.some.inj ho).symm
      have e60 : T.getD 60 undef = .slice a6 hh c6 := Eq.trans (hJ.val 11 (by decide) (hdeps 11 (by decide))) (by rw [HC.out]; rfl)
      have e63 : T.getD 63 undef = .slice a3 hh c3 := Eq.trans (hJ.val 14 (by decide) (hdeps 14 (by decide))) (by rw [HC.out]; rfl)
      have e59 : T.getD 59 undef = .bool false := Eq.trans (hJ.val 10 (by decide) (hdeps 10 (by decide))) (by rw [HC.out]; rfl)
      rw [if_pos (want_of rfl (yield_of (s := 59) rfl (by rw [hJ.sz]; decide) e59))]
      clear ho hdeps hi
      go_simp
      refine Calls.mono (M3 w hJ.ch) ?_
      rintro e w2 ⟨rfl, f2⟩
      exact hK _ _ (putT hJ HF.out 15 (by decide) rfl (by rw [HC.out]; rfl) f2 (fun _ _ h => h))
    · obtain rfl : o' = { dst := some 65, op := Op.unOp UnOp.not 4 (Operand.tmp 64), type := 4, pos := "own.go:247", after := #[{ on := 15, ground := Ground.data }, { on := 10, ground := Ground.guard }], guard := some (10, false) } := (Option.some.inj ho).symm
      have e64 : T.getD 64 undef = .bool true := Eq.trans (hJ.val 15 (by decide) (hdeps 15 (by decide))) (by rw [HC.out]; rfl)
      have e59 : T.getD 59 undef = .bool false := Eq.trans (hJ.val 10 (by decide) (hdeps 10 (by decide))) (by rw [HC.out]; rfl)
      rw [if_pos (want_of rfl (yield_of (s := 59) rfl (by rw [hJ.sz]; decide) e59))]
      clear ho hdeps hi
      go_simp
      exact hK _ _ (putT hJ HF.out 16 (by decide) rfl (by rw [HC.out]; rfl) hJ.ch (fun _ _ h => h))
    · obtain rfl : o' = { dst := some 66, op := Op.pick (Operand.tmp 59) (Operand.const (Value.bool true)) (Operand.tmp 65), type := 4, pos := "own.go:247", after := #[{ on := 10, ground := Ground.data }, { on := 16, ground := Ground.data }], guard := none } := (Option.some.inj ho).symm
      have e59 : T.getD 59 undef = .bool false := Eq.trans (hJ.val 10 (by decide) (hdeps 10 (by decide))) (by rw [HC.out]; rfl)
      have e65 : T.getD 65 undef = .bool false := Eq.trans (hJ.val 16 (by decide) (hdeps 16 (by decide))) (by rw [HC.out]; rfl)
      rw [if_pos (want_all rfl)]
      clear ho hdeps hi
      go_simp
      exact hK _ _ (putT hJ HF.out 17 (by decide) rfl (by rw [HC.out]; rfl) hJ.ch (fun _ _ h => h))
    · obtain rfl : o' = { dst := some 67, op := Op.move (Operand.tmp 66), type := 4, pos := "own.go:247", after := #[{ on := 17, ground := Ground.data }, { on := 15, ground := Ground.chain }], guard := none } := (Option.some.inj ho).symm
      have e66 : T.getD 66 undef = .bool false := Eq.trans (hJ.val 17 (by decide) (hdeps 17 (by decide))) (by rw [HC.out]; rfl)
      rw [if_pos (want_all rfl)]
      clear ho hdeps hi
      go_simp
      exact hK _ _ (putT hJ HF.out 18 (by decide) rfl (by rw [HC.out]; rfl) hJ.ch (fun _ _ h => h))
    · obtain rfl : o' = { dst := some 68, op := Op.move (Operand.tmp 10), type := 28, pos := "own.go:247", after := #[{ on := 18, ground := Ground.guard }], guard := some (18, false) } := (Option.some.inj ho).symm
      have e67 : T.getD 67 undef = .bool false := Eq.trans (hJ.val 18 (by decide) (hdeps 18 (by decide))) (by rw [HC.out]; rfl)
      rw [if_pos (want_of rfl (yield_of (s := 67) rfl (by rw [hJ.sz]; decide) e67))]
      clear ho hdeps hi
      go_simp
      exact hK _ _ (putT hJ HF.out 19 (by decide) rfl (by rw [HC.out]; rfl) hJ.ch (fun _ _ h => h))
    · obtain rfl : o' = { dst := some 69, op := Op.call { callee := Callee.builtin Builtin.len, args := #[Operand.tmp 68], argTypes := #[28] }, type := 3, pos := "own.go:247", after := #[{ on := 19, ground := Ground.data }, { on := 18, ground := Ground.guard }], guard := some (18, false) } := (Option.some.inj ho).symm
      have e68 : T.getD 68 undef = .slice a5 kk c5 := Eq.trans (hJ.val 19 (by decide) (hdeps 19 (by decide))) (by rw [HC.out]; rfl)
      have e67 : T.getD 67 undef = .bool false := Eq.trans (hJ.val 18 (by decide) (hdeps 18 (by decide))) (by rw [HC.out]; rfl)
      rw [if_pos (want_of rfl (yield_of (s := 67) rfl (by rw [hJ.sz]; decide) e67))]
      clear ho hdeps hi
      go_simp
      exact hK _ _ (putT hJ HF.out 20 (by decide) rfl (by rw [HC.out]; rfl) hJ.ch (fun _ _ h => h))
    · obtain rfl : o' = { dst := some 70, op := Op.move (Operand.tmp 7), type := 3, pos := "own.go:247", after := #[{ on := 18, ground := Ground.guard }], guard := some (18, false) } := (Option.some.inj ho).symm
      have e67 : T.getD 67 undef = .bool false := Eq.trans (hJ.val 18 (by decide) (hdeps 18 (by decide))) (by rw [HC.out]; rfl)
      rw [if_pos (want_of rfl (yield_of (s := 67) rfl (by rw [hJ.sz]; decide) e67))]
      clear ho hdeps hi
      go_simp
      exact hK _ _ (putT hJ HF.out 21 (by decide) rfl (by rw [HC.out]; rfl) hJ.ch (fun _ _ h => h))
    · obtain rfl : o' = { dst := some 71, op := Op.binOp BinOp.neq 3 (Operand.tmp 69) (Operand.tmp 70) 3, type := 4, pos := "own.go:247", after := #[{ on := 20, ground := Ground.data }, { on := 21, ground := Ground.data }, { on := 18, ground := Ground.guard }], guard := some (18, false) } := (Option.some.inj ho).symm
      have e69 : T.getD 69 undef = .int .i64 kk := Eq.trans (hJ.val 20 (by decide) (hdeps 20 (by decide))) (by rw [HC.out]; rfl)
      have e70 : T.getD 70 undef = .int .i64 kk := Eq.trans (hJ.val 21 (by decide) (hdeps 21 (by decide))) (by rw [HC.out]; rfl)
      have e67 : T.getD 67 undef = .bool false := Eq.trans (hJ.val 18 (by decide) (hdeps 18 (by decide))) (by rw [HC.out]; rfl)
      rw [if_pos (want_of rfl (yield_of (s := 67) rfl (by rw [hJ.sz]; decide) e67))]
      clear ho hdeps hi
      go_simp
      exact hK _ _ (putT hJ HF.out 22 (by decide) rfl (by rw [HC.out]; rfl) hJ.ch (fun _ _ h => h))
    · obtain rfl : o' = { dst := some 72, op := Op.pick (Operand.tmp 67) (Operand.const (Value.bool true)) (Operand.tmp 71), type := 4, pos := "own.go:247", after := #[{ on := 18, ground := Ground.data }, { on := 22, ground := Ground.data }], guard := none } := (Option.some.inj ho).symm
      have e67 : T.getD 67 undef = .bool false := Eq.trans (hJ.val 18 (by decide) (hdeps 18 (by decide))) (by rw [HC.out]; rfl)
      have e71 : T.getD 71 undef = .bool false := Eq.trans (hJ.val 22 (by decide) (hdeps 22 (by decide))) (by rw [HC.out]; rfl)
      rw [if_pos (want_all rfl)]
      clear ho hdeps hi
      go_simp
      exact hK _ _ (putT hJ HF.out 23 (by decide) rfl (by rw [HC.out]; rfl) hJ.ch (fun _ _ h => h))
    · obtain rfl : o' = { dst := some 73, op := Op.move (Operand.tmp 72), type := 4, pos := "own.go:247", after := #[{ on := 23, ground := Ground.data }, { on := 18, ground := Ground.chain }], guard := none } := (Option.some.inj ho).symm
      have e72 : T.getD 72 undef = .bool false := Eq.trans (hJ.val 23 (by decide) (hdeps 23 (by decide))) (by rw [HC.out]; rfl)
      rw [if_pos (want_all rfl)]
      clear ho hdeps hi
      go_simp
      exact hK _ _ (putT hJ HF.out 24 (by decide) rfl (by rw [HC.out]; rfl) hJ.ch (fun _ _ h => h))
    · obtain rfl : o' = { dst := some 74, op := Op.move (Operand.tmp 10), type := 28, pos := "own.go:247", after := #[{ on := 24, ground := Ground.guard }], guard := some (24, false) } := (Option.some.inj ho).symm
      have e73 : T.getD 73 undef = .bool false := Eq.trans (hJ.val 24 (by decide) (hdeps 24 (by decide))) (by rw [HC.out]; rfl)
      rw [if_pos (want_of rfl (yield_of (s := 73) rfl (by rw [hJ.sz]; decide) e73))]
      clear ho hdeps hi
      go_simp
      exact hK _ _ (putT hJ HF.out 25 (by decide) rfl (by rw [HC.out]; rfl) hJ.ch (fun _ _ h => h))
    · obtain rfl : o' = { dst := some 75, op := Op.move (Operand.tmp 6), type := 28, pos := "own.go:247", after := #[{ on := 24, ground := Ground.guard }], guard := some (24, false) } := (Option.some.inj ho).symm
      have e73 : T.getD 73 undef = .bool false := Eq.trans (hJ.val 24 (by decide) (hdeps 24 (by decide))) (by rw [HC.out]; rfl)
      rw [if_pos (want_of rfl (yield_of (s := 73) rfl (by rw [hJ.sz]; decide) e73))]
      clear ho hdeps hi
      go_simp
      exact hK _ _ (putT hJ HF.out 26 (by decide) rfl (by rw [HC.out]; rfl) hJ.ch (fun _ _ h => h))
    · obtain rfl : o' = { dst := some 76, op := Op.move (Operand.tmp 7), type := 3, pos := "own.go:247", after := #[{ on := 24, ground := Ground.guard }], guard := some (24, false) } := (Option.some.inj ho).symm
      have e73 : T.getD 73 undef = .bool false := Eq.trans (hJ.val 24 (by decide) (hdeps 24 (by decide))) (by rw [HC.out]; rfl)
      rw [if_pos (want_of rfl (yield_of (s := 73) rfl (by rw [hJ.sz]; decide) e73))]
      clear ho hdeps hi
      go_simp
      exact hK _ _ (putT hJ HF.out 27 (by decide) rfl (by rw [HC.out]; rfl) hJ.ch (fun _ _ h => h))
    · obtain rfl : o' = { dst := some 77, op := Op.slice 28 (Operand.tmp 75) none (some (Operand.tmp 76)) none, type := 28, pos := "own.go:247", after := #[{ on := 26, ground := Ground.data }, { on := 27, ground := Ground.data }, { on := 24, ground := Ground.guard }], guard := some (24, false) } := (Option.some.inj ho).symm
      have e75 : T.getD 75 undef = .slice a3 N c3 := Eq.trans (hJ.val 26 (by decide) (hdeps 26 (by decide))) (by rw [HC.out]; rfl)
      have e76 : T.getD 76 undef = .int .i64 kk := Eq.trans (hJ.val 27 (by decide) (hdeps 27 (by decide))) (by rw [HC.out]; rfl)
      have e73 : T.getD 73 undef = .bool false := Eq.trans (hJ.val 24 (by decide) (hdeps 24 (by decide))) (by rw [HC.out]; rfl)
      rw [if_pos (want_of rfl (yield_of (s := 73) rfl (by rw [hJ.sz]; decide) e73))]
      clear ho hdeps hi
      go_simp
      exact hK _ _ (putT hJ HF.out 28 (by decide) rfl (by rw [HC.out]; rfl) hJ.ch (fun _ _ h => h))
    · obtain rfl : o' = { dst := some 78, op := Op.call { callee := Callee.value (Operand.func 19), args := #[Operand.tmp 74, Operand.tmp 77], argTypes := #[28, 28] }, type := 4, pos := "own.go:247", after := #[{ on := 25, ground := Ground.data }, { on := 28, ground := Ground.data }, { on := 24, ground := Ground.chain }, { on := 24, ground := Ground.guard }], guard := some (24, false) } := (Option.some.inj ho).symm
      have e74 : T.getD 74 undef = .slice a5 kk c5 := Eq.trans (hJ.val 25 (by decide) (hdeps 25 (by decide))) (by rw [HC.out]; rfl)
      have e77 : T.getD 77 undef = .slice a3 kk c3 := Eq.trans (hJ.val 28 (by decide) (hdeps 28 (by decide))) (by rw [HC.out]; rfl)
      have e73 : T.getD 73 undef = .bool false := Eq.trans (hJ.val 24 (by decide) (hdeps 24 (by decide))) (by rw [HC.out]; rfl)
      rw [if_pos (want_of rfl (yield_of (s := 73) rfl (by rw [hJ.sz]; decide) e73))]
      clear ho hdeps hi
      go_simp
      refine Calls.mono (M4 w hJ.ch) ?_
      rintro e w2 ⟨rfl, f2⟩
      exact hK _ _ (putT hJ HF.out 29 (by decide) rfl (by rw [HC.out]; rfl) f2 (fun _ _ h => h))
    · obtain rfl : o' = { dst := some 79, op := Op.unOp UnOp.not 4 (Operand.tmp 78), type := 4, pos := "own.go:247", after := #[{ on := 29, ground := Ground.data }, { on := 24, ground := Ground.guard }], guard := some (24, false) } := (Option.some.inj ho).symm
      have e78 : T.getD 78 undef = .bool true := Eq.trans (hJ.val 29 (by decide) (hdeps 29 (by decide))) (by rw [HC.out]; rfl)
      have e73 : T.getD 73 undef = .bool false := Eq.trans (hJ.val 24 (by decide) (hdeps 24 (by decide))) (by rw [HC.out]; rfl)
      rw [if_pos (want_of rfl (yield_of (s := 73) rfl (by rw [hJ.sz]; decide) e73))]
      clear ho hdeps hi
      go_simp
      exact hK _ _ (putT hJ HF.out 30 (by decide) rfl (by rw [HC.out]; rfl) hJ.ch (fun _ _ h => h))
    · obtain rfl : o' = { dst := some 80, op := Op.pick (Operand.tmp 73) (Operand.const (Value.bool true)) (Operand.tmp 79), type := 4, pos := "own.go:247", after := #[{ on := 24, ground := Ground.data }, { on := 30, ground := Ground.data }], guard := none } := (Option.some.inj ho).symm
      have e73 : T.getD 73 undef = .bool false := Eq.trans (hJ.val 24 (by decide) (hdeps 24 (by decide))) (by rw [HC.out]; rfl)
      have e79 : T.getD 79 undef = .bool false := Eq.trans (hJ.val 30 (by decide) (hdeps 30 (by decide))) (by rw [HC.out]; rfl)
      rw [if_pos (want_all rfl)]
      clear ho hdeps hi
      go_simp
      exact hK _ _ (putT hJ HF.out 31 (by decide) rfl (by rw [HC.out]; rfl) hJ.ch (fun _ _ h => h))
    · obtain rfl : o' = { dst := some 81, op := Op.move (Operand.tmp 80), type := 4, pos := "own.go:247", after := #[{ on := 31, ground := Ground.data }, { on := 29, ground := Ground.chain }], guard := none } := (Option.some.inj ho).symm
      have e80 : T.getD 80 undef = .bool false := Eq.trans (hJ.val 31 (by decide) (hdeps 31 (by decide))) (by rw [HC.out]; rfl)
      rw [if_pos (want_all rfl)]
      clear ho hdeps hi
      go_simp
      exact hK _ _ (putT hJ HF.out 32 (by decide) rfl (by rw [HC.out]; rfl) hJ.ch (fun _ _ h => h))
    · obtain rfl : o' = { dst := some 82, op := Op.move (Operand.tmp 13), type := 28, pos := "own.go:247", after := #[{ on := 32, ground := Ground.guard }], guard := some (32, false) } := (Option.some.inj ho).symm
      have e81 : T.getD 81 undef = .bool false := Eq.trans (hJ.val 32 (by decide) (hdeps 32 (by decide))) (by rw [HC.out]; rfl)
      rw [if_pos (want_of rfl (yield_of (s := 81) rfl (by rw [hJ.sz]; decide) e81))]
      clear ho hdeps hi
      go_simp
      exact hK _ _ (putT hJ HF.out 33 (by decide) rfl (by rw [HC.out]; rfl) hJ.ch (fun _ _ h => h))
    · obtain rfl : o' = { dst := some 83, op := Op.move (Operand.tmp 10), type := 28, pos := "own.go:247", after := #[{ on := 32, ground := Ground.guard }], guard := some (32, false) } := (Option.some.inj ho).symm
      have e81 : T.getD 81 undef = .bool false := Eq.trans (hJ.val 32 (by decide) (hdeps 32 (by decide))) (by rw [HC.out]; rfl)
      rw [if_pos (want_of rfl (yield_of (s := 81) rfl (by rw [hJ.sz]; decide) e81))]
      clear ho hdeps hi
      go_simp
      exact hK _ _ (putT hJ HF.out 34 (by decide) rfl (by rw [HC.out]; rfl) hJ.ch (fun _ _ h => h))
    · obtain rfl : o' = { dst := some 84, op := Op.call { callee := Callee.value (Operand.func 19), args := #[Operand.tmp 82, Operand.tmp 83], argTypes := #[28, 28] }, type := 4, pos := "own.go:247", after := #[{ on := 33, ground := Ground.data }, { on := 34, ground := Ground.data }, { on := 32, ground := Ground.chain }, { on := 32, ground := Ground.guard }], guard := some (32, false) } := (Option.some.inj ho).symm
      have e82 : T.getD 82 undef = .slice a8 kk c8 := Eq.trans (hJ.val 33 (by decide) (hdeps 33 (by decide))) (by rw [HC.out]; rfl)
      have e83 : T.getD 83 undef = .slice a5 kk c5 := Eq.trans (hJ.val 34 (by decide) (hdeps 34 (by decide))) (by rw [HC.out]; rfl)
      have e81 : T.getD 81 undef = .bool false := Eq.trans (hJ.val 32 (by decide) (hdeps 32 (by decide))) (by rw [HC.out]; rfl)
      rw [if_pos (want_of rfl (yield_of (s := 81) rfl (by rw [hJ.sz]; decide) e81))]
      clear ho hdeps hi
      go_simp
      refine Calls.mono (M5 w hJ.ch) ?_
      rintro e w2 ⟨rfl, f2⟩
      exact hK _ _ (putT hJ HF.out 35 (by decide) rfl (by rw [HC.out]; rfl) f2 (fun _ _ h => h))
    · obtain rfl : o' = { dst := some 85, op := Op.unOp UnOp.not 4 (Operand.tmp 84), type := 4, pos := "own.go:247", after := #[{ on := 35, ground := Ground.data }, { on := 32, ground := Ground.guard }], guard := some (32, false) } := (Option.some.inj ho).symm
      have e84 : T.getD 84 undef = .bool true := Eq.trans (hJ.val 35 (by decide) (hdeps 35 (by decide))) (by rw [HC.out]; rfl)
      have e81 : T.getD 81 undef = .bool false := Eq.trans (hJ.val 32 (by decide) (hdeps 32 (by decide))) (by rw [HC.out]; rfl)
      rw [if_pos (want_of rfl (yield_of (s := 81) rfl (by rw [hJ.sz]; decide) e81))]
      clear ho hdeps hi
      go_simp
      exact hK _ _ (putT hJ HF.out 36 (by decide) rfl (by rw [HC.out]; rfl) hJ.ch (fun _ _ h => h))
    · obtain rfl : o' = { dst := some 86, op := Op.pick (Operand.tmp 81) (Operand.const (Value.bool true)) (Operand.tmp 85), type := 4, pos := "own.go:247", after := #[{ on := 32, ground := Ground.data }, { on := 36, ground := Ground.data }], guard := none } := (Option.some.inj ho).symm
      have e81 : T.getD 81 undef = .bool false := Eq.trans (hJ.val 32 (by decide) (hdeps 32 (by decide))) (by rw [HC.out]; rfl)
      have e85 : T.getD 85 undef = .bool false := Eq.trans (hJ.val 36 (by decide) (hdeps 36 (by decide))) (by rw [HC.out]; rfl)
      rw [if_pos (want_all rfl)]
      clear ho hdeps hi
      go_simp
      exact hK _ _ (putT hJ HF.out 37 (by decide) rfl (by rw [HC.out]; rfl) hJ.ch (fun _ _ h => h))

noncomputable def opsU : Array Oper := (Try.f8.body.bind (regIn 25)).getD #[]
def sU (i : Nat) : Nat := 107 + i
theorem sU_ne {i j : Nat} (_hi : i < 34) (_hj : j < 34) (h : j ≠ i) : sU j ≠ sU i := by
  unfold sU
  omega
def cU (N c2 c3 c4 c5 c6 c7 c8 kk hh : Nat) (a2 a3 a4 a5 a6 a7 a8 : Option Addr) (x0 x1 x2 x3 x4 : Value) : List Value := [.slice a2 N c2, .slice a3 N c3, .bool true, .bool false, .bool false, .slice a4 N c4, x0, .bool true, .bool false, .bool false, .bool false, .slice a5 kk c5, x1, .bool true, .bool false, .bool false, .bool false, .slice a6 hh c6, x2, .bool true, .bool false, .bool false, .bool false, .slice a7 N c7, x3, .bool true, .bool false, .bool false, .bool false, .slice a8 kk c8, x4, .bool true, .bool false, .bool false]

theorem putU {fx : List (Nat × Value)} {Φ : Nat → World → Value → Prop} {C : World → Prop} {d : Nat → Bool} {T : Array Value} {df : List Deferred} {w w' : World} (h : RJ 154 sU 34 fx Φ C d ⟨T, df⟩ w) (hf : ∀ x ∈ fx, x.1 < 49 ∧ x.1 ≠ 4) (i : Nat) {s : Nat} {v : Value} (hi : i < 34) (hs : s = sU i) (hv : Φ i w' v) (hC : C w') (hm : ∀ j u, Φ j w u → Φ j w' u) :
    RJ 154 sU 34 fx Φ C (fun j => if j = i then true else d j) ⟨T.setIfInBounds s v, df⟩ w' :=
  RJ.put h i hs (by unfold sU; omega) (fun j hj h => sU_ne hi hj h) (fun x hx => by
    have := hf x hx
    unfold sU
    omega) hv hC hm

set_option maxRecDepth 100000 in
set_option maxHeartbeats 8000000 in
theorem regU {w0 : World} {W : World} {F : List En} {n : Int} {x0 x1 x2 x3 x4 : Value} {N c2 c3 c4 c5 c6 c7 c8 kk hh : Nat} {a2 a3 a4 a5 a6 a7 a8 : Option Addr} {Q : Exit → Act → World → Prop} {A : Act} (M0 : (∀ w, FS W w F → Calls Try.prog 19 #[.slice a2 N c2, .slice a3 N c3] w fun e w' => e = .returned (.bool true) ∧ FS W w' F)) (M1 : (∀ w, FS W w F → Calls Try.prog 31 #[.slice a4 N c4, x0, .int .i64 (-1000), .int .i64 (-10)] w fun e w' => e = .returned (.bool true) ∧ FS W w' F)) (M2 : (∀ w, FS W w F → Calls Try.prog 31 #[.slice a5 kk c5, x1, .int .i64 (-2000), .int .i64 (-20)] w fun e w' => e = .returned (.bool true) ∧ FS W w' F)) (M3 : (∀ w, FS W w F → Calls Try.prog 31 #[.slice a6 hh c6, x2, .int .i64 (-3000), .int .i64 (-30)] w fun e w' => e = .returned (.bool true) ∧ FS W w' F)) (M4 : (∀ w, FS W w F → Calls Try.prog 31 #[.slice a7 N c7, x3, .int .i64 (-4000), .int .i64 (-40)] w fun e w' => e = .returned (.bool true) ∧ FS W w' F)) (M5 : (∀ w, FS W w F → Calls Try.prog 31 #[.slice a8 kk c8, x4, .int .i64 (-5000), .int .i64 (-50)] w fun e w' => e = .returned (.bool true) ∧ FS W w' F)) (hw : FS W w0 F) (hA : Fr A [(1, .int .i64 n), (5, .slice a2 N c2), (6, .slice a3 N c3), (7, .int .i64 kk), (8, .int .i64 hh), (9, .slice a4 N c4), (10, .slice a5 kk c5), (11, .slice a6 hh c6), (12, .slice a7 N c7), (13, .slice a8 kk c8), (14, x0), (15, x1), (16, x2), (17, x3), (18, x4)])
    (hQ : ∀ (b : Act) (w' : World), Fr b [(1, .int .i64 n), (5, .slice a2 N c2), (6, .slice a3 N c3), (7, .int .i64 kk), (8, .int .i64 hh), (9, .slice a4 N c4), (10, .slice a5 kk c5), (11, .slice a6 hh c6), (12, .slice a7 N c7), (13, .slice a8 kk c8), (14, x0), (15, x1), (16, x2), (17, x3), (18, x4)] → b.tmps.getD 140 undef = .bool false → (fun w => FS W w F) w' → Q .normal b w') : (Code.region 25 opsU false).wp Try.prog Q A w0 := by
  obtain ⟨fx, hfxe⟩ : ∃ fx : List (Nat × Value), fx = [(1, .int .i64 n), (5, .slice a2 N c2), (6, .slice a3 N c3), (7, .int .i64 kk), (8, .int .i64 hh), (9, .slice a4 N c4), (10, .slice a5 kk c5), (11, .slice a6 hh c6), (12, .slice a7 N c7), (13, .slice a8 kk c8), (14, x0), (15, x1), (16, x2), (17, x3), (18, x4)] := ⟨_, rfl⟩
  have hfl : ∀ x ∈ fx, x.1 < 49 ∧ x.1 ≠ 4 := by
    rw [hfxe]
    intro x hx
    simp only [List.mem_cons, List.not_mem_nil, or_false] at hx
    rcases hx with rfl | rfl | rfl | rfl | rfl | rfl | rfl | rfl | rfl | rfl | rfl | rfl | rfl | rfl | rfl <;> simp
  rw [← hfxe] at hA hQ
  obtain ⟨cs, hcs⟩ : ∃ cs, cs = cU N c2 c3 c4 c5 c6 c7 c8 kk hh a2 a3 a4 a5 a6 a7 a8 x0 x1 x2 x3 x4 := ⟨_, rfl⟩
  refine region_list (RJ 154 sU 34 fx (fun i _ v => v = cs.getD i undef) (fun w => FS W w F)) ?_ ?_ ?_
  · exact ⟨hA.sz, hA.df, hA.fx, fun i _ (h : false = true) => (by cases h), hw⟩
  · intro d b w h hall
    refine hQ b w ⟨h.sz, h.df, h.fix⟩ ?_ h.ch
    have := h.val 33 (by decide) (hall 33 (by decide))
    rw [hcs] at this
    exact this
  · rintro d ⟨T, df⟩ w j o' hJ hdi ho hdeps K hK
    have hi : j < 34 := (Array.getElem?_eq_some_iff.1 ho).1
    have t1 : T.getD 1 undef = .int .i64 n := hJ.fix (1, .int .i64 n) (by rw [hfxe]; simp)
    have t5 : T.getD 5 undef = .slice a2 N c2 := hJ.fix (5, .slice a2 N c2) (by rw [hfxe]; simp)
    have t6 : T.getD 6 undef = .slice a3 N c3 := hJ.fix (6, .slice a3 N c3) (by rw [hfxe]; simp)
    have t7 : T.getD 7 undef = .int .i64 kk := hJ.fix (7, .int .i64 kk) (by rw [hfxe]; simp)
    have t8 : T.getD 8 undef = .int .i64 hh := hJ.fix (8, .int .i64 hh) (by rw [hfxe]; simp)
    have t9 : T.getD 9 undef = .slice a4 N c4 := hJ.fix (9, .slice a4 N c4) (by rw [hfxe]; simp)
    have t10 : T.getD 10 undef = .slice a5 kk c5 := hJ.fix (10, .slice a5 kk c5) (by rw [hfxe]; simp)
    have t11 : T.getD 11 undef = .slice a6 hh c6 := hJ.fix (11, .slice a6 hh c6) (by rw [hfxe]; simp)
    have t12 : T.getD 12 undef = .slice a7 N c7 := hJ.fix (12, .slice a7 N c7) (by rw [hfxe]; simp)
    have t13 : T.getD 13 undef = .slice a8 kk c8 := hJ.fix (13, .slice a8 kk c8) (by rw [hfxe]; simp)
    have t14 : T.getD 14 undef = x0 := hJ.fix (14, x0) (by rw [hfxe]; simp)
    have t15 : T.getD 15 undef = x1 := hJ.fix (15, x1) (by rw [hfxe]; simp)
    have t16 : T.getD 16 undef = x2 := hJ.fix (16, x2) (by rw [hfxe]; simp)
    have t17 : T.getD 17 undef = x3 := hJ.fix (17, x3) (by rw [hfxe]; simp)
    have t18 : T.getD 18 undef = x4 := hJ.fix (18, x4) (by rw [hfxe]; simp)
    have HC : Hid _ := hcs
    have HF : Hid _ := hfl
    clear hdi hcs hQ hfxe hfl hA
    obtain rfl | rfl | rfl | rfl | rfl | rfl | rfl | rfl | rfl | rfl | rfl | rfl | rfl | rfl | rfl | rfl | rfl | rfl | rfl | rfl | rfl | rfl | rfl | rfl | rfl | rfl | rfl | rfl | rfl | rfl | rfl | rfl | rfl | rfl : j = 0 ∨ j = 1 ∨ j = 2 ∨ j = 3 ∨ j = 4 ∨ j = 5 ∨ j = 6 ∨ j = 7 ∨ j = 8 ∨ j = 9 ∨ j = 10 ∨ j = 11 ∨ j = 12 ∨ j = 13 ∨ j = 14 ∨ j = 15 ∨ j = 16 ∨ j = 17 ∨ j = 18 ∨ j = 19 ∨ j = 20 ∨ j = 21 ∨ j = 22 ∨ j = 23 ∨ j = 24 ∨ j = 25 ∨ j = 26 ∨ j = 27 ∨ j = 28 ∨ j = 29 ∨ j = 30 ∨ j = 31 ∨ j = 32 ∨ j = 33 := by omega
    · obtain rfl : o' = { dst := some 107, op := Op.move (Operand.tmp 5), type := 28, pos := "own.go:260", after := #[], guard := none } := (Option.some.inj ho).symm
      rw [if_pos (want_all rfl)]
      clear ho hdeps hi
      go_simp
      exact hK _ _ (putU hJ HF.out 0 (by decide) rfl (by rw [HC.out]; rfl) hJ.ch (fun _ _ h => h))
    · obtain rfl : o' = { dst := some 108, op := Op.move (Operand.tmp 6), type := 28, pos := "own.go:260", after := #[], guard := none } := (Option.some.inj ho).symm
      rw [if_pos (want_all rfl)]
      clear ho hdeps hi
      go_simp
      exact hK _ _ (putU hJ HF.out 1 (by decide) rfl (by rw [HC.out]; rfl) hJ.ch (fun _ _ h => h))
    · obtain rfl : o' = { dst := some 109, op := Op.call { callee := Callee.value (Operand.func 19), args := #[Operand.tmp 107, Operand.tmp 108], argTypes := #[28, 28] }, type := 4, pos := "own.go:260", after := #[{ on := 0, ground := Ground.data }, { on := 1, ground := Ground.data }], guard := none } := (Option.some.inj ho).symm
      have e107 : T.getD 107 undef = .slice a2 N c2 := Eq.trans (hJ.val 0 (by decide) (hdeps 0 (by decide))) (by rw [HC.out]; rfl)
      have e108 : T.getD 108 undef = .slice a3 N c3 := Eq.trans (hJ.val 1 (by decide) (hdeps 1 (by decide))) (by rw [HC.out]; rfl)
      rw [if_pos (want_all rfl)]
      clear ho hdeps hi
      go_simp
      refine Calls.mono (M0 w hJ.ch) ?_
      rintro e w2 ⟨rfl, f2⟩
      exact hK _ _ (putU hJ HF.out 2 (by decide) rfl (by rw [HC.out]; rfl) f2 (fun _ _ h => h))
    · obtain rfl : o' = { dst := some 110, op := Op.unOp UnOp.not 4 (Operand.tmp 109), type := 4, pos := "own.go:260", after := #[{ on := 2, ground := Ground.data }], guard := none } := (Option.some.inj ho).symm
      have e109 : T.getD 109 undef = .bool true := Eq.trans (hJ.val 2 (by decide) (hdeps 2 (by decide))) (by rw [HC.out]; rfl)
      rw [if_pos (want_all rfl)]
      clear ho hdeps hi
      go_simp
      exact hK _ _ (putU hJ HF.out 3 (by decide) rfl (by rw [HC.out]; rfl) hJ.ch (fun _ _ h => h))
    · obtain rfl : o' = { dst := some 111, op := Op.move (Operand.tmp 110), type := 4, pos := "own.go:260", after := #[{ on := 3, ground := Ground.data }, { on := 2, ground := Ground.chain }], guard := none } := (Option.some.inj ho).symm
      have e110 : T.getD 110 undef = .bool false := Eq.trans (hJ.val 3 (by decide) (hdeps 3 (by decide))) (by rw [HC.out]; rfl)
      rw [if_pos (want_all rfl)]
      clear ho hdeps hi
      go_simp
      exact hK _ _ (putU hJ HF.out 4 (by decide) rfl (by rw [HC.out]; rfl) hJ.ch (fun _ _ h => h))
    · obtain rfl : o' = { dst := some 112, op := Op.move (Operand.tmp 9), type := 28, pos := "own.go:260", after := #[{ on := 4, ground := Ground.guard }], guard := some (4, false) } := (Option.some.inj ho).symm
      have e111 : T.getD 111 undef = .bool false := Eq.trans (hJ.val 4 (by decide) (hdeps 4 (by decide))) (by rw [HC.out]; rfl)
      rw [if_pos (want_of rfl (yield_of (s := 111) rfl (by rw [hJ.sz]; decide) e111))]
      clear ho hdeps hi
      go_simp
      exact hK _ _ (putU hJ HF.out 5 (by decide) rfl (by rw [HC.out]; rfl) hJ.ch (fun _ _ h => h))
    · obtain rfl : o' = { dst := some 113, op := Op.move (Operand.tmp 14), type := 28, pos := "own.go:260", after := #[{ on := 4, ground := Ground.guard }], guard := some (4, false) } := (Option.some.inj ho).symm
      have e111 : T.getD 111 undef = .bool false := Eq.trans (hJ.val 4 (by decide) (hdeps 4 (by decide))) (by rw [HC.out]; rfl)
      rw [if_pos (want_of rfl (yield_of (s := 111) rfl (by rw [hJ.sz]; decide) e111))]
      clear ho hdeps hi
      go_simp
      exact hK _ _ (putU hJ HF.out 6 (by decide) rfl (by rw [HC.out]; rfl) hJ.ch (fun _ _ h => h))
    · obtain rfl : o' = { dst := some 114, op := Op.call { callee := Callee.value (Operand.func 31), args := #[Operand.tmp 112, Operand.tmp 113, Operand.const (Value.int IntKind.i64 (-1000)), Operand.const (Value.int IntKind.i64 (-10))], argTypes := #[28, 28, 3, 3] }, type := 4, pos := "own.go:260", after := #[{ on := 5, ground := Ground.data }, { on := 6, ground := Ground.data }, { on := 4, ground := Ground.chain }, { on := 4, ground := Ground.guard }], guard := some (4, false) } := (Option.some.inj ho).symm
      have e112 : T.getD 112 undef = .slice a4 N c4 := Eq.trans (hJ.val 5 (by decide) (hdeps 5 (by decide))) (by rw [HC.out]; rfl)
      have e113 : T.getD 113 undef = x0 := Eq.trans (hJ.val 6 (by decide) (hdeps 6 (by decide))) (by rw [HC.out]; rfl)
      have e111 : T.getD 111 undef = .bool false := Eq.trans (hJ.val 4 (by decide) (hdeps 4 (by decide))) (by rw [HC.out]; rfl)
      rw [if_pos (want_of rfl (yield_of (s := 111) rfl (by rw [hJ.sz]; decide) e111))]
      clear ho hdeps hi
      go_simp
      refine Calls.mono (M1 w hJ.ch) ?_
      rintro e w2 ⟨rfl, f2⟩
      exact hK _ _ (putU hJ HF.out 7 (by decide) rfl (by rw [HC.out]; rfl) f2 (fun _ _ h => h))
    · obtain rfl : o' = { dst := some 115, op := Op.unOp UnOp.not 4 (Operand.tmp 114), type := 4, pos := "own.go:260", after := #[{ on := 7, ground := Ground.data }, { on := 4, ground := Ground.guard }], guard := some (4, false) } := (Option.some.inj ho).symm
      have e114 : T.getD 114 undef = .bool true := Eq.trans (hJ.val 7 (by decide) (hdeps 7 (by decide))) (by rw [HC.out]; rfl)
      have e111 : T.getD 111 undef = .bool false := Eq.trans (hJ.val 4 (by decide) (hdeps 4 (by decide))) (by rw [HC.out]; rfl)
      rw [if_pos (want_of rfl (yield_of (s := 111) rfl (by rw [hJ.sz]; decide) e111))]
      clear ho hdeps hi
      go_simp
      exact hK _ _ (putU hJ HF.out 8 (by decide) rfl (by rw [HC.out]; rfl) hJ.ch (fun _ _ h => h))
    · obtain rfl : o' = { dst := some 116, op := Op.pick (Operand.tmp 111) (Operand.const (Value.bool true)) (Operand.tmp 115), type := 4, pos := "own.go:260", after := #[{ on := 4, ground := Ground.data }, { on := 8, ground := Ground.data }], guard := none } := (Option.some.inj ho).symm
      have e111 : T.getD 111 undef = .bool false := Eq.trans (hJ.val 4 (by decide) (hdeps 4 (by decide))) (by rw [HC.out]; rfl)
      have e115 : T.getD 115 undef = .bool false := Eq.trans (hJ.val 8 (by decide) (hdeps 8 (by decide))) (by rw [HC.out]; rfl)
      rw [if_pos (want_all rfl)]
      clear ho hdeps hi
      go_simp
      exact hK _ _ (putU hJ HF.out 9 (by decide) rfl (by rw [HC.out]; rfl) hJ.ch (fun _ _ h => h))
    · obtain rfl : o' = { dst := some 117, op := Op.move (Operand.tmp 116), type := 4, pos := "own.go:260", after := #[{ on := 9, ground := Ground.data }, { on := 7, ground := Ground.chain }], guard := none } := (Option.some.inj ho).symm
      have e116 : T.getD 116 undef = .bool false := Eq.trans (hJ.val 9 (by decide) (hdeps 9 (by decide))) (by rw [HC.out]; rfl)
      rw [if_pos (want_all rfl)]
      clear ho hdeps hi
      go_simp
      exact hK _ _ (putU hJ HF.out 10 (by decide) rfl (by rw [HC.out]; rfl) hJ.ch (fun _ _ h => h))
    · obtain rfl : o' = { dst := some 118, op := Op.move (Operand.tmp 10), type := 28, pos := "own.go:260", after := #[{ on := 10, ground := Ground.guard }], guard := some (10, false) } := (Option.some.inj ho).symm
      have e117 : T.getD 117 undef = .bool false := Eq.trans (hJ.val 10 (by decide) (hdeps 10 (by decide))) (by rw [HC.out]; rfl)
      rw [if_pos (want_of rfl (yield_of (s := 117) rfl (by rw [hJ.sz]; decide) e117))]
      clear ho hdeps hi
      go_simp
      exact hK _ _ (putU hJ HF.out 11 (by decide) rfl (by rw [HC.out]; rfl) hJ.ch (fun _ _ h => h))
    · obtain rfl : o' = { dst := some 119, op := Op.move (Operand.tmp 15), type := 28, pos := "own.go:260", after := #[{ on := 10, ground := Ground.guard }], guard := some (10, false) } := (Option.some.inj ho).symm
      have e117 : T.getD 117 undef = .bool false := Eq.trans (hJ.val 10 (by decide) (hdeps 10 (by decide))) (by rw [HC.out]; rfl)
      rw [if_pos (want_of rfl (yield_of (s := 117) rfl (by rw [hJ.sz]; decide) e117))]
      clear ho hdeps hi
      go_simp
      exact hK _ _ (putU hJ HF.out 12 (by decide) rfl (by rw [HC.out]; rfl) hJ.ch (fun _ _ h => h))
    · obtain rfl : o' = { dst := some 120, op := Op.call { callee := Callee.value (Operand.func 31), args := #[Operand.tmp 118, Operand.tmp 119, Operand.const (Value.int IntKind.i64 (-2000)), Operand.const (Value.int IntKind.i64 (-20))], argTypes := #[28, 28, 3, 3] }, type := 4, pos := "own.go:260", after := #[{ on := 11, ground := Ground.data }, { on := 12, ground := Ground.data }, { on := 10, ground := Ground.chain }, { on := 10, ground := Ground.guard }], guard := some (10, false) } := (Option.some.inj ho).symm
      have e118 : T.getD 118 undef = .slice a5 kk c5 := Eq.trans (hJ.val 11 (by decide) (hdeps 11 (by decide))) (by rw [HC.out]; rfl)
      have e119 : T.getD 119 undef = x1 := Eq.trans (hJ.val 12 (by decide) (hdeps 12 (by decide))) (by rw [HC.out]; rfl)
      have e117 : T.getD 117 undef = .bool false := Eq.trans (hJ.val 10 (by decide) (hdeps 10 (by decide))) (by rw [HC.out]; rfl)
      rw [if_pos (want_of rfl (yield_of (s := 117) rfl (by rw [hJ.sz]; decide) e117))]
      clear ho hdeps hi
      go_simp
      refine Calls.mono (M2 w hJ.ch) ?_
      rintro e w2 ⟨rfl, f2⟩
      exact hK _ _ (putU hJ HF.out 13 (by decide) rfl (by rw [HC.out]; rfl) f2 (fun _ _ h => h))
    · obtain rfl : o' = { dst := some 121, op := Op.unOp UnOp.not 4 (Operand.tmp 120), type := 4, pos := "own.go:260", after := #[{ on := 13, ground := Ground.data }, { on := 10, ground := Ground.guard }], guard := some (10, false) } := (Option.some.inj ho).symm
      have e120 : T.getD 120 undef = .bool true := Eq.trans (hJ.val 13 (by decide) (hdeps 13 (by decide))) (by rw [HC.out]; rfl)
      have e117 : T.getD 117 undef = .bool false := Eq.trans (hJ.val 10 (by decide) (hdeps 10 (by decide))) (by rw [HC.out]; rfl)
      rw [if_pos (want_of rfl (yield_of (s := 117) rfl (by rw [hJ.sz]; decide) e117))]
      clear ho hdeps hi
      go_simp
      exact hK _ _ (putU hJ HF.out 14 (by decide) rfl (by rw [HC.out]; rfl) hJ.ch (fun _ _ h => h))
    · obtain rfl : o' = { dst := some 122, op := Op.pick (Operand.tmp 117) (Operand.const (Value.bool true)) (Operand.tmp 121), type := 4, pos := "own.go:260", after := #[{ on := 10, ground := Ground.data }, { on := 14, ground := Ground.data }], guard := none } := (Option.some.inj ho).symm
      have e117 : T.getD 117 undef = .bool false := Eq.trans (hJ.val 10 (by decide) (hdeps 10 (by decide))) (by rw [HC.out]; rfl)
      have e121 : T.getD 121 undef = .bool false := Eq.trans (hJ.val 14 (by decide) (hdeps 14 (by decide))) (by rw [HC.out]; rfl)
      rw [if_pos (want_all rfl)]
      clear ho hdeps hi
      go_simp
      exact hK _ _ (putU hJ HF.out 15 (by decide) rfl (by rw [HC.out]; rfl) hJ.ch (fun _ _ h => h))
    · obtain rfl : o' = { dst := some 123, op := Op.move (Operand.tmp 122), type := 4, pos := "own.go:260", after := #[{ on := 15, ground := Ground.data }, { on := 13, ground := Ground.chain }], guard := none } := (Option.some.inj ho).symm
      have e122 : T.getD 122 undef = .bool false := Eq.trans (hJ.val 15 (by decide) (hdeps 15 (by decide))) (by rw [HC.out]; rfl)
      rw [if_pos (want_all rfl)]
      clear ho hdeps hi
      go_simp
      exact hK _ _ (putU hJ HF.out 16 (by decide) rfl (by rw [HC.out]; rfl) hJ.ch (fun _ _ h => h))
    · obtain rfl : o' = { dst := some 124, op := Op.move (Operand.tmp 11), type := 28, pos := "own.go:260", after := #[{ on := 16, ground := Ground.guard }], guard := some (16, false) } := (Option.some.inj ho).symm
      have e123 : T.getD 123 undef = .bool false := Eq.trans (hJ.val 16 (by decide) (hdeps 16 (by decide))) (by rw [HC.out]; rfl)
      rw [if_pos (want_of rfl (yield_of (s := 123) rfl (by rw [hJ.sz]; decide) e123))]
      clear ho hdeps hi
      go_simp
      exact hK _ _ (putU hJ HF.out 17 (by decide) rfl (by rw [HC.out]; rfl) hJ.ch (fun _ _ h => h))
    · obtain rfl : o' = { dst := some 125, op := Op.move (Operand.tmp 16), type := 28, pos := "own.go:260", after := #[{ on := 16, ground := Ground.guard }], guard := some (16, false) } := (Option.some.inj ho).symm
      have e123 : T.getD 123 undef = .bool false := Eq.trans (hJ.val 16 (by decide) (hdeps 16 (by decide))) (by rw [HC.out]; rfl)
      rw [if_pos (want_of rfl (yield_of (s := 123) rfl (by rw [hJ.sz]; decide) e123))]
      clear ho hdeps hi
      go_simp
      exact hK _ _ (putU hJ HF.out 18 (by decide) rfl (by rw [HC.out]; rfl) hJ.ch (fun _ _ h => h))
    · obtain rfl : o' = { dst := some 126, op := Op.call { callee := Callee.value (Operand.func 31), args := #[Operand.tmp 124, Operand.tmp 125, Operand.const (Value.int IntKind.i64 (-3000)), Operand.const (Value.int IntKind.i64 (-30))], argTypes := #[28, 28, 3, 3] }, type := 4, pos := "own.go:260", after := #[{ on := 17, ground := Ground.data }, { on := 18, ground := Ground.data }, { on := 16, ground := Ground.chain }, { on := 16, ground := Ground.guard }], guard := some (16, false) } := (Option.some.inj ho).symm
      have e124 : T.getD 124 undef = .slice a6 hh c6 := Eq.trans (hJ.val 17 (by decide) (hdeps 17 (by decide))) (by rw [HC.out]; rfl)
      have e125 : T.getD 125 undef = x2 := Eq.trans (hJ.val 18 (by decide) (hdeps 18 (by decide))) (by rw [HC.out]; rfl)
      have e123 : T.getD 123 undef = .bool false := Eq.trans (hJ.val 16 (by decide) (hdeps 16 (by decide))) (by rw [HC.out]; rfl)
      rw [if_pos (want_of rfl (yield_of (s := 123) rfl (by rw [hJ.sz]; decide) e123))]
      clear ho hdeps hi
      go_simp
      refine Calls.mono (M3 w hJ.ch) ?_
      rintro e w2 ⟨rfl, f2⟩
      exact hK _ _ (putU hJ HF.out 19 (by decide) rfl (by rw [HC.out]; rfl) f2 (fun _ _ h => h))
    · obtain rfl : o' = { dst := some 127, op := Op.unOp UnOp.not 4 (Operand.tmp 126), type := 4, pos := "own.go:260", after := #[{ on := 19, ground := Ground.data }, { on := 16, ground := Ground.guard }], guard := some (16, false) } := (Option.some.inj ho).symm
      have e126 : T.getD 126 undef = .bool true := Eq.trans (hJ.val 19 (by decide) (hdeps 19 (by decide))) (by rw [HC.out]; rfl)
      have e123 : T.getD 123 undef = .bool false := Eq.trans (hJ.val 16 (by decide) (hdeps 16 (by decide))) (by rw [HC.out]; rfl)
      rw [if_pos (want_of rfl (yield_of (s := 123) rfl (by rw [hJ.sz]; decide) e123))]
      clear ho hdeps hi
      go_simp
      exact hK _ _ (putU hJ HF.out 20 (by decide) rfl (by rw [HC.out]; rfl) hJ.ch (fun _ _ h => h))
    · obtain rfl : o' = { dst := some 128, op := Op.pick (Operand.tmp 123) (Operand.const (Value.bool true)) (Operand.tmp 127), type := 4, pos := "own.go:260", after := #[{ on := 16, ground := Ground.data }, { on := 20, ground := Ground.data }], guard := none } := (Option.some.inj ho).symm
      have e123 : T.getD 123 undef = .bool false := Eq.trans (hJ.val 16 (by decide) (hdeps 16 (by decide))) (by rw [HC.out]; rfl)
      have e127 : T.getD 127 undef = .bool false := Eq.trans (hJ.val 20 (by decide) (hdeps 20 (by decide))) (by rw [HC.out]; rfl)
      rw [if_pos (want_all rfl)]
      clear ho hdeps hi
      go_simp
      exact hK _ _ (putU hJ HF.out 21 (by decide) rfl (by rw [HC.out]; rfl) hJ.ch (fun _ _ h => h))
    · obtain rfl : o' = { dst := some 129, op := Op.move (Operand.tmp 128), type := 4, pos := "own.go:260", after := #[{ on := 21, ground := Ground.data }, { on := 19, ground := Ground.chain }], guard := none } := (Option.some.inj ho).symm
      have e128 : T.getD 128 undef = .bool false := Eq.trans (hJ.val 21 (by decide) (hdeps 21 (by decide))) (by rw [HC.out]; rfl)
      rw [if_pos (want_all rfl)]
      clear ho hdeps hi
      go_simp
      exact hK _ _ (putU hJ HF.out 22 (by decide) rfl (by rw [HC.out]; rfl) hJ.ch (fun _ _ h => h))
    · obtain rfl : o' = { dst := some 130, op := Op.move (Operand.tmp 12), type := 28, pos := "own.go:260", after := #[{ on := 22, ground := Ground.guard }], guard := some (22, false) } := (Option.some.inj ho).symm
      have e129 : T.getD 129 undef = .bool false := Eq.trans (hJ.val 22 (by decide) (hdeps 22 (by decide))) (by rw [HC.out]; rfl)
      rw [if_pos (want_of rfl (yield_of (s := 129) rfl (by rw [hJ.sz]; decide) e129))]
      clear ho hdeps hi
      go_simp
      exact hK _ _ (putU hJ HF.out 23 (by decide) rfl (by rw [HC.out]; rfl) hJ.ch (fun _ _ h => h))
    · obtain rfl : o' = { dst := some 131, op := Op.move (Operand.tmp 17), type := 28, pos := "own.go:260", after := #[{ on := 22, ground := Ground.guard }], guard := some (22, false) } := (Option.some.inj ho).symm
      have e129 : T.getD 129 undef = .bool false := Eq.trans (hJ.val 22 (by decide) (hdeps 22 (by decide))) (by rw [HC.out]; rfl)
      rw [if_pos (want_of rfl (yield_of (s := 129) rfl (by rw [hJ.sz]; decide) e129))]
      clear ho hdeps hi
      go_simp
      exact hK _ _ (putU hJ HF.out 24 (by decide) rfl (by rw [HC.out]; rfl) hJ.ch (fun _ _ h => h))
    · obtain rfl : o' = { dst := some 132, op := Op.call { callee := Callee.value (Operand.func 31), args := #[Operand.tmp 130, Operand.tmp 131, Operand.const (Value.int IntKind.i64 (-4000)), Operand.const (Value.int IntKind.i64 (-40))], argTypes := #[28, 28, 3, 3] }, type := 4, pos := "own.go:260", after := #[{ on := 23, ground := Ground.data }, { on := 24, ground := Ground.data }, { on := 22, ground := Ground.chain }, { on := 22, ground := Ground.guard }], guard := some (22, false) } := (Option.some.inj ho).symm
      have e130 : T.getD 130 undef = .slice a7 N c7 := Eq.trans (hJ.val 23 (by decide) (hdeps 23 (by decide))) (by rw [HC.out]; rfl)
      have e131 : T.getD 131 undef = x3 := Eq.trans (hJ.val 24 (by decide) (hdeps 24 (by decide))) (by rw [HC.out]; rfl)
      have e129 : T.getD 129 undef = .bool false := Eq.trans (hJ.val 22 (by decide) (hdeps 22 (by decide))) (by rw [HC.out]; rfl)
      rw [if_pos (want_of rfl (yield_of (s := 129) rfl (by rw [hJ.sz]; decide) e129))]
      clear ho hdeps hi
      go_simp
      refine Calls.mono (M4 w hJ.ch) ?_
      rintro e w2 ⟨rfl, f2⟩
      exact hK _ _ (putU hJ HF.out 25 (by decide) rfl (by rw [HC.out]; rfl) f2 (fun _ _ h => h))
    · obtain rfl : o' = { dst := some 133, op := Op.unOp UnOp.not 4 (Operand.tmp 132), type := 4, pos := "own.go:260", after := #[{ on := 25, ground := Ground.data }, { on := 22, ground := Ground.guard }], guard := some (22, false) } := (Option.some.inj ho).symm
      have e132 : T.getD 132 undef = .bool true := Eq.trans (hJ.val 25 (by decide) (hdeps 25 (by decide))) (by rw [HC.out]; rfl)
      have e129 : T.getD 129 undef = .bool false := Eq.trans (hJ.val 22 (by decide) (hdeps 22 (by decide))) (by rw [HC.out]; rfl)
      rw [if_pos (want_of rfl (yield_of (s := 129) rfl (by rw [hJ.sz]; decide) e129))]
      clear ho hdeps hi
      go_simp
      exact hK _ _ (putU hJ HF.out 26 (by decide) rfl (by rw [HC.out]; rfl) hJ.ch (fun _ _ h => h))
    · obtain rfl : o' = { dst := some 134, op := Op.pick (Operand.tmp 129) (Operand.const (Value.bool true)) (Operand.tmp 133), type := 4, pos := "own.go:260", after := #[{ on := 22, ground := Ground.data }, { on := 26, ground := Ground.data }], guard := none } := (Option.some.inj ho).symm
      have e129 : T.getD 129 undef = .bool false := Eq.trans (hJ.val 22 (by decide) (hdeps 22 (by decide))) (by rw [HC.out]; rfl)
      have e133 : T.getD 133 undef = .bool false := Eq.trans (hJ.val 26 (by decide) (hdeps 26 (by decide))) (by rw [HC.out]; rfl)
      rw [if_pos (want_all rfl)]
      clear ho hdeps hi
      go_simp
      exact hK _ _ (putU hJ HF.out 27 (by decide) rfl (by rw [HC.out]; rfl) hJ.ch (fun _ _ h => h))
    · obtain rfl : o' = { dst := some 135, op := Op.move (Operand.tmp 134), type := 4, pos := "own.go:260", after := #[{ on := 27, ground := Ground.data }, { on := 25, ground := Ground.chain }], guard := none } := (Option.some.inj ho).symm
      have e134 : T.getD 134 undef = .bool false := Eq.trans (hJ.val 27 (by decide) (hdeps 27 (by decide))) (by rw [HC.out]; rfl)
      rw [if_pos (want_all rfl)]
      clear ho hdeps hi
      go_simp
      exact hK _ _ (putU hJ HF.out 28 (by decide) rfl (by rw [HC.out]; rfl) hJ.ch (fun _ _ h => h))
    · obtain rfl : o' = { dst := some 136, op := Op.move (Operand.tmp 13), type := 28, pos := "own.go:260", after := #[{ on := 28, ground := Ground.guard }], guard := some (28, false) } := (Option.some.inj ho).symm
      have e135 : T.getD 135 undef = .bool false := Eq.trans (hJ.val 28 (by decide) (hdeps 28 (by decide))) (by rw [HC.out]; rfl)
      rw [if_pos (want_of rfl (yield_of (s := 135) rfl (by rw [hJ.sz]; decide) e135))]
      clear ho hdeps hi
      go_simp
      exact hK _ _ (putU hJ HF.out 29 (by decide) rfl (by rw [HC.out]; rfl) hJ.ch (fun _ _ h => h))
    · obtain rfl : o' = { dst := some 137, op := Op.move (Operand.tmp 18), type := 28, pos := "own.go:260", after := #[{ on := 28, ground := Ground.guard }], guard := some (28, false) } := (Option.some.inj ho).symm
      have e135 : T.getD 135 undef = .bool false := Eq.trans (hJ.val 28 (by decide) (hdeps 28 (by decide))) (by rw [HC.out]; rfl)
      rw [if_pos (want_of rfl (yield_of (s := 135) rfl (by rw [hJ.sz]; decide) e135))]
      clear ho hdeps hi
      go_simp
      exact hK _ _ (putU hJ HF.out 30 (by decide) rfl (by rw [HC.out]; rfl) hJ.ch (fun _ _ h => h))
    · obtain rfl : o' = { dst := some 138, op := Op.call { callee := Callee.value (Operand.func 31), args := #[Operand.tmp 136, Operand.tmp 137, Operand.const (Value.int IntKind.i64 (-5000)), Operand.const (Value.int IntKind.i64 (-50))], argTypes := #[28, 28, 3, 3] }, type := 4, pos := "own.go:260", after := #[{ on := 29, ground := Ground.data }, { on := 30, ground := Ground.data }, { on := 28, ground := Ground.chain }, { on := 28, ground := Ground.guard }], guard := some (28, false) } := (Option.some.inj ho).symm
      have e136 : T.getD 136 undef = .slice a8 kk c8 := Eq.trans (hJ.val 29 (by decide) (hdeps 29 (by decide))) (by rw [HC.out]; rfl)
      have e137 : T.getD 137 undef = x4 := Eq.trans (hJ.val 30 (by decide) (hdeps 30 (by decide))) (by rw [HC.out]; rfl)
      have e135 : T.getD 135 undef = .bool false := Eq.trans (hJ.val 28 (by decide) (hdeps 28 (by decide))) (by rw [HC.out]; rfl)
      rw [if_pos (want_of rfl (yield_of (s := 135) rfl (by rw [hJ.sz]; decide) e135))]
      clear ho hdeps hi
      go_simp
      refine Calls.mono (M5 w hJ.ch) ?_
      rintro e w2 ⟨rfl, f2⟩
      exact hK _ _ (putU hJ HF.out 31 (by decide) rfl (by rw [HC.out]; rfl) f2 (fun _ _ h => h))
    · obtain rfl : o' = { dst := some 139, op := Op.unOp UnOp.not 4 (Operand.tmp 138), type := 4, pos := "own.go:260", after := #[{ on := 31, ground := Ground.data }, { on := 28, ground := Ground.guard }], guard := some (28, false) } := (Option.some.inj ho).symm
      have e138 : T.getD 138 undef = .bool true := Eq.trans (hJ.val 31 (by decide) (hdeps 31 (by decide))) (by rw [HC.out]; rfl)
      have e135 : T.getD 135 undef = .bool false := Eq.trans (hJ.val 28 (by decide) (hdeps 28 (by decide))) (by rw [HC.out]; rfl)
      rw [if_pos (want_of rfl (yield_of (s := 135) rfl (by rw [hJ.sz]; decide) e135))]
      clear ho hdeps hi
      go_simp
      exact hK _ _ (putU hJ HF.out 32 (by decide) rfl (by rw [HC.out]; rfl) hJ.ch (fun _ _ h => h))
    · obtain rfl : o' = { dst := some 140, op := Op.pick (Operand.tmp 135) (Operand.const (Value.bool true)) (Operand.tmp 139), type := 4, pos := "own.go:260", after := #[{ on := 28, ground := Ground.data }, { on := 32, ground := Ground.data }], guard := none } := (Option.some.inj ho).symm
      have e135 : T.getD 135 undef = .bool false := Eq.trans (hJ.val 28 (by decide) (hdeps 28 (by decide))) (by rw [HC.out]; rfl)
      have e139 : T.getD 139 undef = .bool false := Eq.trans (hJ.val 32 (by decide) (hdeps 32 (by decide))) (by rw [HC.out]; rfl)
      rw [if_pos (want_all rfl)]
      clear ho hdeps hi
      go_simp
      exact hK _ _ (putU hJ HF.out 33 (by decide) rfl (by rw [HC.out]; rfl) hJ.ch (fun _ _ h => h))

def V27 (S : List (Int × Int)) (kk : Nat) (cs : List Value) (i : Nat) (w : World) (v : Value) : Prop :=
  match i with
  | 1 => OwnT w v S
  | 7 => OwnT w v (S.take kk)
  | i => v = cs.getD i undef
theorem V27.keep {S : List (Int × Int)} {kk : Nat} {cs : List Value} {i : Nat} {w w' : World} {v : Value} (h : V27 S kk cs i w v) (k : Chg (fun _ => False) w w') : V27 S kk cs i w' v := by
  unfold V27 at h ⊢
  split
  · exact OwnT.keep h k (fun _ _ h => h)
  · exact OwnT.keep h k (fun _ _ h => h)
  · rename_i h1 h2
    split at h
    · exact absurd rfl h1
    · exact absurd rfl h2
    · exact h

noncomputable def opsX : Array Oper := (Try.f8.body.bind (regIn 27)).getD #[]
def sX (i : Nat) : Nat := if i = 13 then 4 else 141 + i
theorem sX_ne {i j : Nat} (_hi : i < 14) (_hj : j < 14) (h : j ≠ i) : sX j ≠ sX i := by
  unfold sX
  split <;> split <;> omega
def cX (N c2 c3 kk : Nat) (a2 a3 : Option Addr) (n : Int) : List Value := [.slice a2 N c2, undef, .slice a3 N c3, .bool true, .bool true, .slice a2 N c2, .int .i64 n, undef, .slice a3 N c3, .int .i64 kk, .slice a3 kk c3, .bool true, .bool true, .bool true]

theorem putX {fx : List (Nat × Value)} {Φ : Nat → World → Value → Prop} {C : World → Prop} {d : Nat → Bool} {T : Array Value} {df : List Deferred} {w w' : World} (h : RJ 154 sX 14 fx Φ C d ⟨T, df⟩ w) (hf : ∀ x ∈ fx, x.1 < 49 ∧ x.1 ≠ 4) (i : Nat) {s : Nat} {v : Value} (hi : i < 14) (hs : s = sX i) (hv : Φ i w' v) (hC : C w') (hm : ∀ j u, Φ j w u → Φ j w' u) :
    RJ 154 sX 14 fx Φ C (fun j => if j = i then true else d j) ⟨T.setIfInBounds s v, df⟩ w' :=
  RJ.put h i hs (by unfold sX; split <;> omega) (fun j hj h => sX_ne hi hj h) (fun x hx => by
    have := hf x hx
    unfold sX
    split <;> omega) hv hC hm

set_option maxRecDepth 100000 in
set_option maxHeartbeats 8000000 in
theorem regX {w0 : World} {S : List (Int × Int)} {n : Int} {N c2 c3 kk : Nat} {a2 a3 : Option Addr} {Q : Exit → Act → World → Prop} {A : Act} (SO : ∀ w', Chg (fun _ => False) w0 w' → Calls Try.prog 20 #[.slice a2 N c2, fK] w' fun e w'' => ∃ v, e = .returned v ∧ OwnT w'' v S ∧ Chg (fun _ => False) w' w'')
    (LE : ∀ w', Chg (fun _ => False) w0 w' → Calls Try.prog 21 #[.slice a2 N c2, .int .i64 n, fK] w' fun e w'' => ∃ v, e = .returned v ∧ OwnT w'' v (S.take kk) ∧ Chg (fun _ => False) w' w'')
    (SM : ∀ w' (va : Value), OwnT w' va S → Chg (fun _ => False) w0 w' → Calls Try.prog 19 #[va, .slice a3 N c3] w' fun e w'' => e = .returned (.bool true) ∧ Chg (fun _ => False) w' w'')
    (SN : ∀ w' (va : Value), OwnT w' va (S.take kk) → Chg (fun _ => False) w0 w' → Calls Try.prog 19 #[va, .slice a3 kk c3] w' fun e w'' => e = .returned (.bool true) ∧ Chg (fun _ => False) w' w'') (q4 : (kk : Int) ≤ (c3 : Int)) (hA : Fr A [(1, .int .i64 n), (5, .slice a2 N c2), (6, .slice a3 N c3), (7, .int .i64 kk)])
    (hQ : ∀ (b : Act) (w' : World), Fr b [(1, .int .i64 n), (5, .slice a2 N c2), (6, .slice a3 N c3), (7, .int .i64 kk)] → b.tmps.getD 4 undef = .bool true → (Chg (fun _ => False) w0) w' → Q .normal b w') : (Code.region 27 opsX true).wp Try.prog Q A w0 := by
  unfold fK at SO LE
  obtain ⟨fx, hfxe⟩ : ∃ fx : List (Nat × Value), fx = [(1, .int .i64 n), (5, .slice a2 N c2), (6, .slice a3 N c3), (7, .int .i64 kk)] := ⟨_, rfl⟩
  have hfl : ∀ x ∈ fx, x.1 < 49 ∧ x.1 ≠ 4 := by
    rw [hfxe]
    intro x hx
    simp only [List.mem_cons, List.not_mem_nil, or_false] at hx
    rcases hx with rfl | rfl | rfl | rfl <;> simp
  rw [← hfxe] at hA hQ
  obtain ⟨cs, hcs⟩ : ∃ cs, cs = cX N c2 c3 kk a2 a3 n := ⟨_, rfl⟩
  refine region_plain (by kernel_rfl) (RJ 154 sX 14 fx (V27 S kk cs) (Chg (fun _ => False) w0)) ?_ (after_of (by kernel_rfl)) ?_ ?_
  · exact ⟨hA.sz, hA.df, hA.fx, fun i _ (h : false = true) => (by cases h), (Chg.refl _ _).drew⟩
  · intro d b w h hall
    refine hQ b w ⟨h.sz, h.df, h.fix⟩ ?_ h.ch
    have := h.val 13 (by decide) (hall 13 (by decide))
    rw [hcs] at this
    exact this
  · rintro d ⟨T, df⟩ w j o' hJ hdi ho hdeps K hK
    have hi : j < 14 := (Array.getElem?_eq_some_iff.1 ho).1
    have t1 : T.getD 1 undef = .int .i64 n := hJ.fix (1, .int .i64 n) (by rw [hfxe]; simp)
    have t5 : T.getD 5 undef = .slice a2 N c2 := hJ.fix (5, .slice a2 N c2) (by rw [hfxe]; simp)
    have t6 : T.getD 6 undef = .slice a3 N c3 := hJ.fix (6, .slice a3 N c3) (by rw [hfxe]; simp)
    have t7 : T.getD 7 undef = .int .i64 kk := hJ.fix (7, .int .i64 kk) (by rw [hfxe]; simp)
    have HC : Hid _ := hcs
    have HF : Hid _ := hfl
    clear hdi hcs hQ hfxe hfl hA
    obtain rfl | rfl | rfl | rfl | rfl | rfl | rfl | rfl | rfl | rfl | rfl | rfl | rfl | rfl : j = 0 ∨ j = 1 ∨ j = 2 ∨ j = 3 ∨ j = 4 ∨ j = 5 ∨ j = 6 ∨ j = 7 ∨ j = 8 ∨ j = 9 ∨ j = 10 ∨ j = 11 ∨ j = 12 ∨ j = 13 := by omega
    · obtain rfl : o' = { dst := some 141, op := Op.move (Operand.tmp 5), type := 28, pos := "own.go:263", after := #[], guard := none } := (Option.some.inj ho).symm
      rw [if_pos (want_all rfl)]
      clear ho hdeps hi
      go_simp
      exact hK _ _ (putX hJ HF.out 0 (by decide) rfl (by show _ = _; rw [HC.out]; rfl) hJ.ch (fun _ _ h => h))
    · obtain rfl : o' = { dst := some 142, op := Op.call { callee := Callee.value (Operand.func 20), args := #[Operand.tmp 141, Operand.func 11], argTypes := #[28, 27] }, type := 28, pos := "own.go:263", after := #[{ on := 0, ground := Ground.data }], guard := none } := (Option.some.inj ho).symm
      have e141 : T.getD 141 undef = .slice a2 N c2 := Eq.trans (hJ.val 0 (by decide) (hdeps ⟨0, .data⟩ (by simp) rfl)) (by rw [HC.out]; rfl)
      rw [if_pos (want_all rfl)]
      clear ho hdeps hi
      go_simp
      refine Calls.mono (SO w hJ.ch) ?_
      rintro e w2 ⟨v, rfl, o2, k2⟩
      exact hK _ _ (putX hJ HF.out 1 (by decide) rfl o2 (hJ.ch.trans k2 (fun _ h => h.elim)) (fun _ _ h => V27.keep h k2))
    · obtain rfl : o' = { dst := some 143, op := Op.move (Operand.tmp 6), type := 28, pos := "own.go:263", after := #[], guard := none } := (Option.some.inj ho).symm
      rw [if_pos (want_all rfl)]
      clear ho hdeps hi
      go_simp
      exact hK _ _ (putX hJ HF.out 2 (by decide) rfl (by show _ = _; rw [HC.out]; rfl) hJ.ch (fun _ _ h => h))
    · obtain rfl : o' = { dst := some 144, op := Op.call { callee := Callee.value (Operand.func 19), args := #[Operand.tmp 142, Operand.tmp 143], argTypes := #[28, 28] }, type := 4, pos := "own.go:263", after := #[{ on := 1, ground := Ground.data }, { on := 2, ground := Ground.data }, { on := 1, ground := Ground.chain }], guard := none } := (Option.some.inj ho).symm
      obtain ⟨v1, hv1⟩ : ∃ v, T.getD 142 undef = v := ⟨_, rfl⟩
      have o1 : OwnT w v1 S := by rw [← hv1]; exact hJ.val 1 (by decide) (hdeps ⟨1, .data⟩ (by simp) rfl)
      have e143 : T.getD 143 undef = .slice a3 N c3 := Eq.trans (hJ.val 2 (by decide) (hdeps ⟨2, .data⟩ (by simp) rfl)) (by rw [HC.out]; rfl)
      rw [if_pos (want_all rfl)]
      clear ho hdeps hi
      go_simp
      refine Calls.mono (SM w _ o1 hJ.ch) ?_
      rintro e w2 ⟨rfl, k2⟩
      exact hK _ _ (putX hJ HF.out 3 (by decide) rfl (by show _ = _; rw [HC.out]; rfl) (hJ.ch.trans k2 (fun _ h => h.elim)) (fun _ _ h => V27.keep h k2))
    · obtain rfl : o' = { dst := some 145, op := Op.move (Operand.tmp 144), type := 4, pos := "own.go:263", after := #[{ on := 3, ground := Ground.data }, { on := 3, ground := Ground.chain }], guard := none } := (Option.some.inj ho).symm
      have e144 : T.getD 144 undef = .bool true := Eq.trans (hJ.val 3 (by decide) (hdeps ⟨3, .data⟩ (by simp) rfl)) (by rw [HC.out]; rfl)
      rw [if_pos (want_all rfl)]
      clear ho hdeps hi
      go_simp
      exact hK _ _ (putX hJ HF.out 4 (by decide) rfl (by show _ = _; rw [HC.out]; rfl) hJ.ch (fun _ _ h => h))
    · obtain rfl : o' = { dst := some 146, op := Op.move (Operand.tmp 5), type := 28, pos := "own.go:263", after := #[{ on := 4, ground := Ground.guard }], guard := some (4, true) } := (Option.some.inj ho).symm
      have e145 : T.getD 145 undef = .bool true := Eq.trans (hJ.val 4 (by decide) (hdeps ⟨4, .guard⟩ (by simp) rfl)) (by rw [HC.out]; rfl)
      rw [if_pos (want_of rfl (yield_of (s := 145) rfl (by rw [hJ.sz]; decide) e145))]
      clear ho hdeps hi
      go_simp
      exact hK _ _ (putX hJ HF.out 5 (by decide) rfl (by show _ = _; rw [HC.out]; rfl) hJ.ch (fun _ _ h => h))
    · obtain rfl : o' = { dst := some 147, op := Op.move (Operand.tmp 1), type := 3, pos := "own.go:263", after := #[{ on := 4, ground := Ground.guard }], guard := some (4, true) } := (Option.some.inj ho).symm
      have e145 : T.getD 145 undef = .bool true := Eq.trans (hJ.val 4 (by decide) (hdeps ⟨4, .guard⟩ (by simp) rfl)) (by rw [HC.out]; rfl)
      rw [if_pos (want_of rfl (yield_of (s := 145) rfl (by rw [hJ.sz]; decide) e145))]
      clear ho hdeps hi
      go_simp
      exact hK _ _ (putX hJ HF.out 6 (by decide) rfl (by show _ = _; rw [HC.out]; rfl) hJ.ch (fun _ _ h => h))
    · obtain rfl : o' = { dst := some 148, op := Op.call { callee := Callee.value (Operand.func 21), args := #[Operand.tmp 146, Operand.tmp 147, Operand.func 11], argTypes := #[28, 3, 27] }, type := 28, pos := "own.go:263", after := #[{ on := 5, ground := Ground.data }, { on := 6, ground := Ground.data }, { on := 4, ground := Ground.chain }, { on := 4, ground := Ground.guard }], guard := some (4, true) } := (Option.some.inj ho).symm
      have e146 : T.getD 146 undef = .slice a2 N c2 := Eq.trans (hJ.val 5 (by decide) (hdeps ⟨5, .data⟩ (by simp) rfl)) (by rw [HC.out]; rfl)
      have e147 : T.getD 147 undef = .int .i64 n := Eq.trans (hJ.val 6 (by decide) (hdeps ⟨6, .data⟩ (by simp) rfl)) (by rw [HC.out]; rfl)
      have e145 : T.getD 145 undef = .bool true := Eq.trans (hJ.val 4 (by decide) (hdeps ⟨4, .guard⟩ (by simp) rfl)) (by rw [HC.out]; rfl)
      rw [if_pos (want_of rfl (yield_of (s := 145) rfl (by rw [hJ.sz]; decide) e145))]
      clear ho hdeps hi
      go_simp
      refine Calls.mono (LE w hJ.ch) ?_
      rintro e w2 ⟨v, rfl, o2, k2⟩
      exact hK _ _ (putX hJ HF.out 7 (by decide) rfl o2 (hJ.ch.trans k2 (fun _ h => h.elim)) (fun _ _ h => V27.keep h k2))
    · obtain rfl : o' = { dst := some 149, op := Op.move (Operand.tmp 6), type := 28, pos := "own.go:263", after := #[{ on := 4, ground := Ground.guard }], guard := some (4, true) } := (Option.some.inj ho).symm
      have e145 : T.getD 145 undef = .bool true := Eq.trans (hJ.val 4 (by decide) (hdeps ⟨4, .guard⟩ (by simp) rfl)) (by rw [HC.out]; rfl)
      rw [if_pos (want_of rfl (yield_of (s := 145) rfl (by rw [hJ.sz]; decide) e145))]
      clear ho hdeps hi
      go_simp
      exact hK _ _ (putX hJ HF.out 8 (by decide) rfl (by show _ = _; rw [HC.out]; rfl) hJ.ch (fun _ _ h => h))
    · obtain rfl : o' = { dst := some 150, op := Op.move (Operand.tmp 7), type := 3, pos := "own.go:263", after := #[{ on := 4, ground := Ground.guard }], guard := some (4, true) } := (Option.some.inj ho).symm
      have e145 : T.getD 145 undef = .bool true := Eq.trans (hJ.val 4 (by decide) (hdeps ⟨4, .guard⟩ (by simp) rfl)) (by rw [HC.out]; rfl)
      rw [if_pos (want_of rfl (yield_of (s := 145) rfl (by rw [hJ.sz]; decide) e145))]
      clear ho hdeps hi
      go_simp
      exact hK _ _ (putX hJ HF.out 9 (by decide) rfl (by show _ = _; rw [HC.out]; rfl) hJ.ch (fun _ _ h => h))
    · obtain rfl : o' = { dst := some 151, op := Op.slice 28 (Operand.tmp 149) none (some (Operand.tmp 150)) none, type := 28, pos := "own.go:263", after := #[{ on := 8, ground := Ground.data }, { on := 9, ground := Ground.data }, { on := 4, ground := Ground.guard }], guard := some (4, true) } := (Option.some.inj ho).symm
      have e149 : T.getD 149 undef = .slice a3 N c3 := Eq.trans (hJ.val 8 (by decide) (hdeps ⟨8, .data⟩ (by simp) rfl)) (by rw [HC.out]; rfl)
      have e150 : T.getD 150 undef = .int .i64 kk := Eq.trans (hJ.val 9 (by decide) (hdeps ⟨9, .data⟩ (by simp) rfl)) (by rw [HC.out]; rfl)
      have e145 : T.getD 145 undef = .bool true := Eq.trans (hJ.val 4 (by decide) (hdeps ⟨4, .guard⟩ (by simp) rfl)) (by rw [HC.out]; rfl)
      rw [if_pos (want_of rfl (yield_of (s := 145) rfl (by rw [hJ.sz]; decide) e145))]
      clear ho hdeps hi
      go_simp
      exact hK _ _ (putX hJ HF.out 10 (by decide) rfl (by show _ = _; rw [HC.out]; rfl) hJ.ch (fun _ _ h => h))
    · obtain rfl : o' = { dst := some 152, op := Op.call { callee := Callee.value (Operand.func 19), args := #[Operand.tmp 148, Operand.tmp 151], argTypes := #[28, 28] }, type := 4, pos := "own.go:263", after := #[{ on := 7, ground := Ground.data }, { on := 10, ground := Ground.data }, { on := 7, ground := Ground.chain }, { on := 4, ground := Ground.guard }], guard := some (4, true) } := (Option.some.inj ho).symm
      obtain ⟨v7, hv7⟩ : ∃ v, T.getD 148 undef = v := ⟨_, rfl⟩
      have o7 : OwnT w v7 (S.take kk) := by rw [← hv7]; exact hJ.val 7 (by decide) (hdeps ⟨7, .data⟩ (by simp) rfl)
      have e151 : T.getD 151 undef = .slice a3 kk c3 := Eq.trans (hJ.val 10 (by decide) (hdeps ⟨10, .data⟩ (by simp) rfl)) (by rw [HC.out]; rfl)
      have e145 : T.getD 145 undef = .bool true := Eq.trans (hJ.val 4 (by decide) (hdeps ⟨4, .guard⟩ (by simp) rfl)) (by rw [HC.out]; rfl)
      rw [if_pos (want_of rfl (yield_of (s := 145) rfl (by rw [hJ.sz]; decide) e145))]
      clear ho hdeps hi
      go_simp
      refine Calls.mono (SN w _ o7 hJ.ch) ?_
      rintro e w2 ⟨rfl, k2⟩
      exact hK _ _ (putX hJ HF.out 11 (by decide) rfl (by show _ = _; rw [HC.out]; rfl) (hJ.ch.trans k2 (fun _ h => h.elim)) (fun _ _ h => V27.keep h k2))
    · obtain rfl : o' = { dst := some 153, op := Op.pick (Operand.tmp 145) (Operand.tmp 152) (Operand.const (Value.bool false)), type := 4, pos := "own.go:263", after := #[{ on := 4, ground := Ground.data }, { on := 11, ground := Ground.data }], guard := none } := (Option.some.inj ho).symm
      have e145 : T.getD 145 undef = .bool true := Eq.trans (hJ.val 4 (by decide) (hdeps ⟨4, .data⟩ (by simp) rfl)) (by rw [HC.out]; rfl)
      have e152 : T.getD 152 undef = .bool true := Eq.trans (hJ.val 11 (by decide) (hdeps ⟨11, .data⟩ (by simp) rfl)) (by rw [HC.out]; rfl)
      rw [if_pos (want_all rfl)]
      clear ho hdeps hi
      go_simp
      exact hK _ _ (putX hJ HF.out 12 (by decide) rfl (by show _ = _; rw [HC.out]; rfl) hJ.ch (fun _ _ h => h))
    · obtain rfl : o' = { dst := some 4, op := Op.assign (Operand.tmp 153), type := 4, pos := "own.go:263", after := #[{ on := 12, ground := Ground.data }, { on := 11, ground := Ground.chain }, { on := 0, ground := Ground.phase }, { on := 1, ground := Ground.phase }, { on := 2, ground := Ground.phase }, { on := 3, ground := Ground.phase }, { on := 4, ground := Ground.phase }, { on := 5, ground := Ground.phase }, { on := 6, ground := Ground.phase }, { on := 7, ground := Ground.phase }, { on := 8, ground := Ground.phase }, { on := 9, ground := Ground.phase }, { on := 10, ground := Ground.phase }, { on := 11, ground := Ground.phase }, { on := 12, ground := Ground.phase }], guard := none } := (Option.some.inj ho).symm
      have e153 : T.getD 153 undef = .bool true := Eq.trans (hJ.val 12 (by decide) (hdeps ⟨12, .data⟩ (by simp) rfl)) (by rw [HC.out]; rfl)
      rw [if_pos (want_all rfl)]
      clear ho hdeps hi
      go_simp
      exact hK _ _ (putX hJ HF.out 13 (by decide) rfl (by show _ = _; rw [HC.out]; rfl) hJ.ch (fun _ _ h => h))

end Go.Proofs.Ytpkcabbfblhekaa
