/-
  The compares, and the order of things with numbers.
-/
import Derived.Test.YtpkcabbfblhekaaBase
namespace Go.Proofs.Ytpkcabbfblhekaa
open Go.RowKit

/-- What cmp.Compare answers. -/
def cmpI (x y : Int) : Int := if x < y then -1 else if x > y then 1 else 0
theorem cmpI_lt {x y : Int} (h : x < y) : cmpI x y = -1 := by simp [cmpI, h]
theorem cmpI_gt {x y : Int} (h : y < x) : cmpI x y = 1 := by unfold cmpI; rw [if_neg (by omega), if_pos h]
theorem cmpI_eq {x y : Int} (h1 : ¬ x < y) (h2 : ¬ y < x) : cmpI x y = 0 := by unfold cmpI; rw [if_neg h1, if_neg h2]

set_option maxRecDepth 100000 in
theorem isNaN_any (x : Int) (w : World) : Calls Try.prog 60 #[.int .i64 x] w fun e w' => e = .returned (.bool false) ∧ w = w' := by
  have h : (x != x) = false := by simp
  go_enter Try.func60, Try.ntmps60
  go_wp2_with fail
  go_ret
  exact ⟨by simp, rfl⟩

set_option maxRecDepth 100000 in
theorem compare_any (x y : Int) (w : World) : Calls Try.prog 55 #[.int .i64 x, .int .i64 y] w fun e w' => e = .returned (.int .i64 (cmpI x y)) ∧ w = w' := by
  have H1 : Hid _ := isNaN_any x w
  have H2 : Hid _ := isNaN_any y w
  by_cases h1 : x < y
  · go_enter Try.func55, Try.ntmps55
    go_wp2_with (go_at_call 60; first | (refine Calls.mono H1.out ?_; rintro e w9 ⟨rfl, h9⟩; subst h9) | (refine Calls.mono H2.out ?_; rintro e w9 ⟨rfl, h9⟩; subst h9))
    go_ret
    exact ⟨by rw [cmpI_lt h1]; rfl, rfl⟩
  · by_cases h2 : y < x
    · go_enter Try.func55, Try.ntmps55
      go_wp2_with (go_at_call 60; first | (refine Calls.mono H1.out ?_; rintro e w9 ⟨rfl, h9⟩; subst h9) | (refine Calls.mono H2.out ?_; rintro e w9 ⟨rfl, h9⟩; subst h9))
      go_ret
      exact ⟨by rw [cmpI_gt h2]; rfl, rfl⟩
    · go_enter Try.func55, Try.ntmps55
      go_wp2_with (go_at_call 60; first | (refine Calls.mono H1.out ?_; rintro e w9 ⟨rfl, h9⟩; subst h9) | (refine Calls.mono H2.out ?_; rintro e w9 ⟨rfl, h9⟩; subst h9))
      go_ret
      exact ⟨by rw [cmpI_eq (by omega) (by omega)]; rfl, rfl⟩

set_option maxRecDepth 100000 in
theorem byK_any (a b : E) (w : World) : Calls Try.prog 11 #[a.two, b.two] w fun e w' => e = .returned (.int .i64 (cmpI a.k b.k)) ∧ Chg (fun _ => False) w w' := by
  obtain ⟨ak, an, _⟩ := a
  obtain ⟨bk, bn, _⟩ := b
  unfold E.two
  by_cases h1 : ak < bk
  · go_enter Try.func11, Try.ntmps11
    go_wp2_with fail
    go_ret
    exact ⟨by rw [cmpI_lt h1]; rfl, ((Chg.refl _ _).alloc _).alloc _⟩
  · by_cases h2 : bk < ak
    · go_enter Try.func11, Try.ntmps11
      go_wp2_with fail
      go_ret
      exact ⟨by rw [cmpI_gt h2]; rfl, ((Chg.refl _ _).alloc _).alloc _⟩
    · go_enter Try.func11, Try.ntmps11
      go_wp2_with fail
      go_ret
      exact ⟨by rw [cmpI_eq (by omega) (by omega)]; rfl, ((Chg.refl _ _).alloc _).alloc _⟩

/-- A compare that may be called: it answers cf, counts its calls, turns blocks in S alone. -/
structure Cmp (g : Nat) (caps : Array Value) (S : Nat → Prop) (I : Nat → World → Prop) (cf : E → E → Int) : Prop where
  enter : ∀ (args : Array Value) (w : World), (callFunc g args).run Try.prog w = .ok (.enter g args) w
  call : ∀ (w : World) (c : Nat) (a b : E), I c w → c < 4611686018427387904 → Calls Try.prog g (#[a.two, b.two] ++ caps) w fun e w' => e = .returned (.int .i64 (cf a b)) ∧ I (c + 1) w' ∧ Chg S w w'
  keep : ∀ {w w' : World} {c : Nat} {T : Nat → Prop}, I c w → Chg T w w' → (∀ k, T k → ¬ S k) → I c w'
  low : ∀ {w : World} {c k : Nat}, I c w → S k → k < w.heap.size

/-- An order of things with numbers, as the code's order answers it. -/
structure Od (f : Value) (S : Nat → Prop) (I : Nat → World → Prop) (od : E → E → Int) (one : Nat) : Prop where
  run : ∀ (w : World) (c : Nat) (a b : E), I c w → c < 4611686018427387904 → Calls Try.prog 47 #[f, a.val, b.val] w fun e w' => e = .returned (.int .i64 (od a b)) ∧ I (c + one) w' ∧ Chg S w w'
  keep : ∀ {w w' : World} {c : Nat} {T : Nat → Prop}, I c w → Chg T w w' → (∀ k, T k → ¬ S k) → I c w'
  low : ∀ {w : World} {c k : Nat}, I c w → S k → k < w.heap.size

theorem neq_nil (w : World) : (binOp BinOp.neq 27 .nilFunc .nilFunc).run Try.prog w = .ok (.bool false) w := by rfl
theorem neq_fun (g : Nat) (caps : Array Value) (w : World) : (binOp BinOp.neq 27 (.func (.func g) #[] caps) .nilFunc).run Try.prog w = .ok (.bool true) w := by rfl

set_option maxRecDepth 100000 in
/-- No compare: by the numbers alone. -/
theorem od_nil : Od .nilFunc (fun _ => False) (fun _ _ => True) (fun a b => cmpI a.num b.num) 0 := by
  refine ⟨fun w c a b _ _ => ?_, fun _ _ _ => trivial, fun _ h => h.elim⟩
  obtain ⟨ak, an, x⟩ := a
  obtain ⟨bk, bn, y⟩ := b
  unfold E.val
  have hq := neq_nil
  have H : Hid (∀ w, Calls Try.prog 55 #[.int .i64 x, .int .i64 y] w fun e w' => e = .returned (.int .i64 (cmpI x y)) ∧ w = w') := compare_any x y
  go_enter Try.func47, Try.ntmps47
  go_wp2_with (go_at_call 55; refine Calls.mono (H.out _) ?_; rintro e w9 ⟨rfl, h9⟩; subst h9)
  go_ret
  exact ⟨rfl, trivial, ((Chg.refl _ _).alloc _).alloc _⟩

/-- The order by a compare, then by the numbers. -/
def odF (cf : E → E → Int) (a b : E) : Int := if cf a b = 0 then cmpI a.num b.num else cf a b

set_option maxRecDepth 100000 in
theorem od_cmp {g : Nat} {caps : Array Value} {S : Nat → Prop} {I : Nat → World → Prop} {cf : E → E → Int} (C : Cmp g caps S I cf) : Od (.func (.func g) #[] caps) S I (odF cf) 1 := by
  refine ⟨fun w c a b hI hc => ?_, fun h1 h2 h3 => C.keep h1 h2 h3, fun h1 h2 => C.low h1 h2⟩
  have H : Hid (∀ w, Calls Try.prog 55 #[.int .i64 a.num, .int .i64 b.num] w fun e w' => e = .returned (.int .i64 (cmpI a.num b.num)) ∧ w = w') := compare_any a.num b.num
  unfold E.val
  have hq := neq_fun g caps
  have hen := C.enter
  have CC : Hid _ := C
  have KI : Hid (I c ((w.alloc (.cells #[.int .i64 a.k, .int .i64 a.n, .int .i64 a.num] 63)).alloc (.cells #[.int .i64 b.k, .int .i64 b.n, .int .i64 b.num] 63))) := C.keep hI (((Chg.refl (fun _ => False) w).alloc _).alloc _) (fun _ h => h.elim)
  have h19 : ∀ {w1}, Chg S ((w.alloc (.cells #[.int .i64 a.k, .int .i64 a.n, .int .i64 a.num] 63)).alloc (.cells #[.int .i64 b.k, .int .i64 b.n, .int .i64 b.num] 63)) w1 → Chg S w w1 := fun h => (((Chg.refl S w).alloc _).alloc _).trans h (fun _ h => .inl h)
  have H19 : Hid _ := @h19
  have L0 : ¬ S w.heap.size := fun h => Nat.lt_irrefl _ (C.low hI h)
  have L1 : ¬ S (w.heap.size + 1) := fun h => by have := C.low hI h; omega
  have B0 : Hid (Blk ((w.alloc (.cells #[.int .i64 a.k, .int .i64 a.n, .int .i64 a.num] 63)).alloc (.cells #[.int .i64 b.k, .int .i64 b.n, .int .i64 b.num] 63)) w.heap.size a.cells 63) := (Blk.made w a.cells 63).alloc _
  have B1 : Hid (Blk ((w.alloc (.cells #[.int .i64 a.k, .int .i64 a.n, .int .i64 a.num] 63)).alloc (.cells #[.int .i64 b.k, .int .i64 b.n, .int .i64 b.num] 63)) (w.heap.size + 1) b.cells 63) := by
    have := Blk.made (w.alloc (.cells #[.int .i64 a.k, .int .i64 a.n, .int .i64 a.num] 63)) b.cells 63
    rwa [show (w.alloc (.cells #[.int .i64 a.k, .int .i64 a.n, .int .i64 a.num] 63)).heap.size = w.heap.size + 1 by simp] at this
  clear C hI h19
  go_enter Try.func47, Try.ntmps47
  go_wp2_with fail
  refine Calls.mono (CC.out.call _ c a b KI.out hc) ?_
  rintro e w2 ⟨rfl, i2, ch2⟩
  have b0 : w2.cell? ⟨w.heap.size, 2, none⟩ = some (.int .i64 a.num) := (Blk.keep B0.out ch2 L0).cell 2
  have b1 : w2.cell? ⟨w.heap.size + 1, 2, none⟩ = some (.int .i64 b.num) := (Blk.keep B1.out ch2 L1).cell 2
  have C2 : Hid _ := H19.out ch2
  have I2 : Hid _ := i2
  clear i2 ch2 B0 B1 H19 KI CC hen
  obtain ⟨r, hr⟩ : ∃ r, cf a b = r := ⟨_, rfl⟩
  have HR : Hid _ := hr
  rw [hr]
  clear hr
  by_cases h0 : r = 0
  · subst h0
    go_wp2_with (go_at_call 55; refine Calls.mono (H.out _) ?_; rintro e w9 ⟨rfl, h9⟩; subst h9)
    go_ret
    exact ⟨by unfold odF; rw [if_pos HR.out]; rfl, I2.out, C2.out⟩
  · have hb : (r != 0) = true := by simpa using h0
    go_wp2_with fail
    go_ret
    exact ⟨by unfold odF; rw [HR.out, if_neg h0]; rfl, I2.out, C2.out⟩

theorem cmp_byK : Cmp 11 #[] (fun _ => False) (fun _ _ => True) (fun a b => cmpI a.k b.k) := by
  refine ⟨fun args w => rfl, fun w c a b _ _ => ?_, fun _ _ _ => trivial, fun _ h => h.elim⟩
  refine Calls.mono (byK_any a b w) ?_
  rintro e w' ⟨h1, h2⟩
  exact ⟨h1, trivial, h2⟩

set_option maxRecDepth 100000 in
/-- The compare that counts. -/
theorem cmp_count (q : Nat) : Cmp 10 #[.pointer (some ⟨q, 0, none⟩)] (fun k => k = q) (fun c w => Blk w q [.int .i64 c] 3) (fun a b => cmpI a.k b.k) := by
  refine ⟨fun args w => rfl, fun w c a b hI hc => ?_, fun h1 h2 h3 => h1.keep h2 (fun hT => h3 _ hT rfl), fun h1 h2 => by rw [h2]; exact h1.lt⟩
  have c0 : w.cell? ⟨q, 0, none⟩ = some (.int .i64 c) := hI.cell 0
  have f0 := hI.fr 0
  have HI : Hid _ := hI
  have hlt : q < w.heap.size := hI.lt
  have HB : Hid (∀ w, Calls Try.prog 11 #[a.two, b.two] w fun e w' => e = .returned (.int .i64 (cmpI a.k b.k)) ∧ Chg (fun _ => False) w w') := byK_any a b
  unfold E.two at HB ⊢
  clear hI
  show Calls Try.prog 10 #[_, _, _] w _
  go_enter Try.func10, Try.ntmps10
  go_wp2_with fail
  refine Calls.mono (HB.out _) ?_
  rintro e w2 ⟨rfl, ch2⟩
  have C2 : Hid _ := ch2
  clear ch2 c0 f0
  go_wp2_with fail
  go_ret
  have b1 : Blk (w.setCell ⟨q, 0, none⟩ (.int .i64 ((c : Int) + 1))) q [.int .i64 ((c : Int) + 1)] 3 := HI.out.set 0 _
  refine ⟨rfl, ?_, ?_⟩
  · have := ((b1.alloc (.cells #[.int .i64 a.k, .int .i64 a.n] 26)).alloc (.cells #[.int .i64 b.k, .int .i64 b.n] 26)).keep C2.out (fun h => h)
    rw [show (((c + 1 : Nat)) : Int) = (c : Int) + 1 by omega]
    exact this
  · exact ((((Chg.refl (fun k => k = q) w).setCell (p := ⟨q, 0, none⟩) (.inl rfl) _).alloc _).alloc _).trans C2.out (fun _ h => h.elim)

end Go.Proofs.Ytpkcabbfblhekaa
