/-
  The order of such things.
-/
import Derived.Test.YtpkcabbfblhekaaVBase
namespace Go.Proofs.Ytpkcabbfblhekaa.V
open Go.RowKit

/-- A compare that may be called: it answers cf, counts its calls, turns blocks in S alone. -/
structure Cmp (g : Nat) (caps : Array Value) (S : Nat → Prop) (I : Nat → World → Prop) (cf : E → E → Int) : Prop where
  enter : ∀ (args : Array Value) (w : World), (callFunc g args).run Try.prog w = .ok (.enter g args) w
  call : ∀ (w : World) (c : Nat) (a b : E), I c w → c < 4611686018427387904 → Calls Try.prog g (#[a.two, b.two] ++ caps) w fun e w' => e = .returned (.int .i64 (cf a b)) ∧ I (c + 1) w' ∧ Chg S w w'
  keep : ∀ {w w' : World} {c : Nat} {T : Nat → Prop}, I c w → Chg T w w' → (∀ k, T k → ¬ S k) → I c w'
  low : ∀ {w : World} {c k : Nat}, I c w → S k → k < w.heap.size

/-- An order of things with numbers, as the code's order answers it. -/
structure Od (f : Value) (S : Nat → Prop) (I : Nat → World → Prop) (od : E → E → Int) (one : Nat) : Prop where
  run : ∀ (w : World) (c : Nat) (a b : E), I c w → c < 4611686018427387904 → Calls Try.prog 63 #[f, a.val, b.val] w fun e w' => e = .returned (.int .i64 (od a b)) ∧ I (c + one) w' ∧ Chg S w w'
  keep : ∀ {w w' : World} {c : Nat} {T : Nat → Prop}, I c w → Chg T w w' → (∀ k, T k → ¬ S k) → I c w'
  low : ∀ {w : World} {c k : Nat}, I c w → S k → k < w.heap.size

theorem neq_nil (w : World) : (binOp BinOp.neq 81 .nilFunc .nilFunc).run Try.prog w = .ok (.bool false) w := by rfl
theorem neq_fun (g : Nat) (caps : Array Value) (w : World) : (binOp BinOp.neq 81 (.func (.func g) #[] caps) .nilFunc).run Try.prog w = .ok (.bool true) w := by rfl

/-- The order by a compare, then by the numbers. -/
def odF (cf : E → E → Int) (a b : E) : Int := if cf a b = 0 then cmpI a.num b.num else cf a b

set_option maxRecDepth 100000 in
theorem od_cmp {g : Nat} {caps : Array Value} {S : Nat → Prop} {I : Nat → World → Prop} {cf : E → E → Int} (C : Cmp g caps S I cf) : Od (.func (.func g) #[] caps) S I (odF cf) 1 := by
  refine ⟨fun w c a b hI hc => ?_, fun h1 h2 h3 => C.keep h1 h2 h3, fun h1 h2 => C.low h1 h2⟩
  have H : Hid (∀ w, Calls Try.prog 55 #[.int .i64 a.num, .int .i64 b.num] w fun e w' => e = .returned (.int .i64 (cmpI a.num b.num)) ∧ w = w') := compare_any a.num b.num
  unfold E.val
  have hq := neq_fun g caps
  have hen := C.enter
  have CC : Hid _ := C
  have KI : Hid (I c ((w.alloc (.cells #[.int .i64 a.k, .int .i64 a.n, .int .i64 a.i, .int .i64 a.num] 93)).alloc (.cells #[.int .i64 b.k, .int .i64 b.n, .int .i64 b.i, .int .i64 b.num] 93))) := C.keep hI (((Chg.refl (fun _ => False) w).alloc _).alloc _) (fun _ h => h.elim)
  have h19 : ∀ {w1}, Chg S ((w.alloc (.cells #[.int .i64 a.k, .int .i64 a.n, .int .i64 a.i, .int .i64 a.num] 93)).alloc (.cells #[.int .i64 b.k, .int .i64 b.n, .int .i64 b.i, .int .i64 b.num] 93)) w1 → Chg S w w1 := fun h => (((Chg.refl S w).alloc _).alloc _).trans h (fun _ h => .inl h)
  have H19 : Hid _ := @h19
  have L0 : ¬ S w.heap.size := fun h => Nat.lt_irrefl _ (C.low hI h)
  have L1 : ¬ S (w.heap.size + 1) := fun h => by have := C.low hI h; omega
  have B0 : Hid (Blk ((w.alloc (.cells #[.int .i64 a.k, .int .i64 a.n, .int .i64 a.i, .int .i64 a.num] 93)).alloc (.cells #[.int .i64 b.k, .int .i64 b.n, .int .i64 b.i, .int .i64 b.num] 93)) w.heap.size a.cells 93) := (Blk.made w a.cells 93).alloc _
  have B1 : Hid (Blk ((w.alloc (.cells #[.int .i64 a.k, .int .i64 a.n, .int .i64 a.i, .int .i64 a.num] 93)).alloc (.cells #[.int .i64 b.k, .int .i64 b.n, .int .i64 b.i, .int .i64 b.num] 93)) (w.heap.size + 1) b.cells 93) := by
    have := Blk.made (w.alloc (.cells #[.int .i64 a.k, .int .i64 a.n, .int .i64 a.i, .int .i64 a.num] 93)) b.cells 93
    rwa [show (w.alloc (.cells #[.int .i64 a.k, .int .i64 a.n, .int .i64 a.i, .int .i64 a.num] 93)).heap.size = w.heap.size + 1 by simp] at this
  clear C hI h19
  go_enter Try.func63, Try.ntmps63
  go_wp2_with fail
  refine Calls.mono (CC.out.call _ c a b KI.out hc) ?_
  rintro e w2 ⟨rfl, i2, ch2⟩
  have b0 : w2.cell? ⟨w.heap.size, 3, none⟩ = some (.int .i64 a.num) := (Blk.keep B0.out ch2 L0).cell 3
  have b1 : w2.cell? ⟨w.heap.size + 1, 3, none⟩ = some (.int .i64 b.num) := (Blk.keep B1.out ch2 L1).cell 3
  have C2 : Hid _ := H19.out ch2
  have I2 : Hid _ := i2
  clear i2 ch2 B0 B1 H19 KI CC hen
  obtain ⟨r, hr⟩ : ∃ r, cf a b = r := ⟨_, rfl⟩
  have HR : Hid _ := hr
  rw [hr]
  clear hr
  by_cases h0 : r = 0
  · subst h0
    go_wp2_with (go_at_call 55; refine Calls.mono (H.out _) ?_; rintro e w9 ⟨rfl, h9⟩; subst h9)
    go_ret
    exact ⟨by unfold odF; rw [if_pos HR.out]; rfl, I2.out, C2.out⟩
  · have hb : (r != 0) = true := by simpa using h0
    go_wp2_with fail
    go_ret
    exact ⟨by unfold odF; rw [HR.out, if_neg h0]; rfl, I2.out, C2.out⟩

end Go.Proofs.Ytpkcabbfblhekaa.V
