/-
  Pages: what they are in memory, their bytes.
-/
import Derived.Test.YtkchmoapcmageaaTwC
import Derived.Test.YtkchmoapcmageaaPgR
namespace Go.Proofs.Ytkchmoapcmageaa
open Go.RowKit

structure Mk where
  se : Nat
  us : Int
def Mk.cells (m : Mk) : List Value := [.int .u64 m.se, .int .i64 m.us]
def Mk.bytes (m : Mk) : List Int := numB m.se ++ numB m.us.toNat
structure Vs where
  n : Nat
  x : List Int
  c : Nat
  y : List Int
def Vs.cells (v : Vs) : List Value := vsC v.n v.x v.c v.y
def Vs.bytes (v : Vs) : List Int := numB v.n ++ v.x ++ numB v.c ++ v.y
structure Pk where
  n : Nat
  x : List Int
  y : List Int
def Pk.cells (k : Pk) : List Value := leafC k.n (k.x ++ k.y)
def Pk.bytes (k : Pk) : List Int := numB k.n ++ (k.x ++ k.y)
def recsB (f : Nat → List Int) : Nat → List Int
  | 0 => []
  | n + 1 => recsB f n ++ f n
theorem recsB_len {f : Nat → List Int} {b : Nat} : ∀ n, (∀ i, i < n → (f i).length ≤ b) → (recsB f n).length ≤ n * b
  | 0, _ => by simp [recsB]
  | n + 1, h => by
    have h1 := recsB_len n (fun i hi => h i (by omega))
    have h2 := h n (by omega)
    rw [recsB, List.length_append, Nat.succ_mul]
    omega
/-- A page. -/
structure Pg where
  la : Nat
  wi : Int
  se : Nat
  ma : Option Addr
  mn : Nat
  mc : Nat
  ms : Nat → Mk
  va : Option Addr
  vn : Nat
  vc : Nat
  vs : Nat → Vs
  sz : Nat
  pa : Option Addr
  pn : Nat
  pc : Nat
  ps : Nat → Pk
def Pg.cells (P : Pg) : List Value := [.int .u64 P.la, .int .i64 P.wi, .int .u64 P.se, .slice P.ma P.mn P.mc, .slice P.va P.vn P.vc, .int .u64 P.sz, .slice P.pa P.pn P.pc]
def Pg.mB (P : Pg) : Nat → List Int := fun i => (P.ms i).bytes
def Pg.vB (P : Pg) : Nat → List Int := fun i => (P.vs i).bytes
def Pg.pB (P : Pg) : Nat → List Int := fun i => (P.ps i).bytes
def Pg.bytes (P : Pg) : List Int := numB P.la ++ numB P.wi.toNat ++ numB P.se ++ numB P.mn ++ recsB P.mB P.mn ++ numB P.vn ++ recsB P.vB P.vn ++ numB P.sz ++ numB P.pn ++ recsB P.pB P.pn
/-- Records that lie one behind the other. -/
def RowsIn (w : World) (Av : Nat → Prop) (A : Option Addr) (n sz : Nat) (f : Nat → List Value) : Prop := ∀ i, i < n → ∃ g o, A = some ⟨g, o, none⟩ ∧ Av g ∧ w.rangeAt g (o + i * sz) (f i)
/-- A page in memory. -/
structure PgIn (w : World) (Av : Nat → Prop) (P : Pg) : Prop where
  la : P.la < 18446744073709551616
  wi : -9223372036854775808 ≤ P.wi ∧ P.wi ≤ 9223372036854775807
  se : P.se < 18446744073709551616
  sz : P.sz < 18446744073709551616
  mn : P.mn ≤ 9223372036854775807
  vn : P.vn ≤ 9223372036854775807
  pn : P.pn ≤ 9223372036854775807
  mrow : RowsIn w Av P.ma P.mn 2 (fun i => (P.ms i).cells)
  vrow : RowsIn w Av P.va P.vn 67 (fun i => (P.vs i).cells)
  prow : RowsIn w Av P.pa P.pn 66 (fun i => (P.ps i).cells)
  em : ∀ i, i < P.mn → (P.ms i).se < 18446744073709551616 ∧ -9223372036854775808 ≤ (P.ms i).us ∧ (P.ms i).us ≤ 9223372036854775807
  vk : ∀ i, i < P.vn → (P.vs i).n < 18446744073709551616 ∧ (P.vs i).x.length = 33 ∧ (P.vs i).c < 18446744073709551616 ∧ (P.vs i).y.length = 32
  pk : ∀ i, i < P.pn → (P.ps i).n < 18446744073709551616 ∧ (P.ps i).x.length = 33 ∧ (P.ps i).y.length = 32
/-- A page within the document's bounds. -/
structure PgFit (P : Pg) : Prop where
  la : P.la ≤ 4611686018427387904
  wi : 0 ≤ P.wi ∧ P.wi ≤ 64
  se : P.se ≤ 4611686018427387904
  mn : P.mn ≤ 32768
  vn : P.vn ≤ 64
  sz : P.sz ≤ 4611686018427387905
  pn : P.pn ≤ 63
  em : ∀ i, i < P.mn → (P.ms i).se ≤ 4611686018427387904 ∧ 0 ≤ (P.ms i).us ∧ (P.ms i).us ≤ 4194304
  vk : ∀ i, i < P.vn → (P.vs i).n ≤ 4611686018427387904 ∧ (P.vs i).c ≤ 4611686018427387904
  pk : ∀ i, i < P.pn → (P.ps i).n ≤ 4611686018427387904
theorem RowsIn.kept {w w' : World} {Av : Nat → Prop} {A : Option Addr} {n sz : Nat} {f : Nat → List Value} (h : RowsIn w Av A n sz f) {S : Nat → Prop} (c : Chg S w w') (hS : ∀ g, Av g → ¬ S g) : RowsIn w' Av A n sz f := fun i hi => by
  obtain ⟨g, o, e, ha, hr⟩ := h i hi
  exact ⟨g, o, e, ha, rangeAt_kept hr c (hS g ha)⟩
theorem RowsIn.mono {w : World} {Av Av' : Nat → Prop} {A : Option Addr} {n sz : Nat} {f : Nat → List Value} (h : RowsIn w Av A n sz f) (hA : ∀ g, Av g → Av' g) : RowsIn w Av' A n sz f := fun i hi => by
  obtain ⟨g, o, e, ha, hr⟩ := h i hi
  exact ⟨g, o, e, hA g ha, hr⟩
theorem PgIn.kept {w w' : World} {Av : Nat → Prop} {P : Pg} (h : PgIn w Av P) {S : Nat → Prop} (c : Chg S w w') (hS : ∀ g, Av g → ¬ S g) : PgIn w' Av P :=
  ⟨h.la, h.wi, h.se, h.sz, h.mn, h.vn, h.pn, h.mrow.kept c hS, h.vrow.kept c hS, h.prow.kept c hS, h.em, h.vk, h.pk⟩
theorem PgIn.mono {w : World} {Av Av' : Nat → Prop} {P : Pg} (h : PgIn w Av P) (hA : ∀ g, Av g → Av' g) : PgIn w Av' P :=
  ⟨h.la, h.wi, h.se, h.sz, h.mn, h.vn, h.pn, h.mrow.mono hA, h.vrow.mono hA, h.prow.mono hA, h.em, h.vk, h.pk⟩
theorem PgIn.keep0 {w w' : World} {P : Pg} (h : PgIn w (fun g => g < w.heap.size) P) (b : Below w.heap.size w w') : PgIn w' (fun g => g < w'.heap.size) P :=
  (h.kept (Chg.of_below b (fun _ => False)) (fun _ _ e => e)).mono (fun _ e => Nat.lt_of_lt_of_le e b.size)

theorem ix_at {sl ty sz : Nat} (hu : Try.prog.underlying sl = some (.slice ty)) (he : Try.prog.elem sl = ty) (hs : ∀ w, (sizeOf ty).run Try.prog w = .ok sz w) {A : Option Addr} {g o n c j : Nat} (hA : A = some ⟨g, o, none⟩) (hj : j < n) (w : World) :
    (Instr.indexAt sl (.slice A n c) (.int .i64 j)).run Try.prog w = .ok (.pointer (some ⟨g, o + j * sz, none⟩)) w := by
  subst hA
  rw [run_indexAt_slice _ sl _ _ _ _ _ (by rw [he]; exact hu), if_pos ⟨by omega, by omega⟩, he, hs]
  simp [addr_add]
theorem Try.elem45 : Try.prog.elem 45 = 126 := by kernel_rfl
theorem Try.elem46 : Try.prog.elem 46 = 130 := by kernel_rfl
theorem Try.elem47 : Try.prog.elem 47 = 132 := by kernel_rfl
theorem Try.so124 (w : World) : (sizeOf 126).run Try.prog w = .ok 2 w := by kernel_rfl
theorem Try.so128 (w : World) : (sizeOf 130).run Try.prog w = .ok 67 w := by kernel_rfl
theorem Try.so130 (w : World) : (sizeOf 132).run Try.prog w = .ok 66 w := by kernel_rfl
theorem Mk.one (m : Mk) : ∀ u ∈ m.cells, u.oneCell' = true := by
  intro v hv
  simp only [Mk.cells, List.mem_cons, List.not_mem_nil, or_false] at hv
  rcases hv with rfl | rfl <;> rfl
theorem Try.mkSz (m : Mk) : (Try.prog.info? 126).map (·.size) = some m.cells.length := Try.size124
theorem Try.vsSz (v : Vs) (hx : v.x.length = 33) (hy : v.y.length = 32) : (Try.prog.info? 130).map (·.size) = some v.cells.length := Try.versSz _ _ _ _ hx hy
theorem Try.pkSz (k : Pk) (hx : k.x.length = 33) (hy : k.y.length = 32) : (Try.prog.info? 132).map (·.size) = some k.cells.length := Try.peakSz _ _ (by rw [List.length_append, hx, hy])
theorem Vs.x_at (v : Vs) : (v.cells.drop 1).take (bs v.x).length = bs v.x := by simp [Vs.cells, vsC]
theorem Vs.c_at (v : Vs) (h : v.x.length = 33) : v.cells[34]? = some (.int .u64 v.c) := vsC_at _ _ _ _ h
theorem Vs.y_at (v : Vs) (h : v.x.length = 33) : (v.cells.drop 35).take (bs v.y).length = bs v.y := by
  have e : v.cells = vsC v.n v.x v.c [] ++ bs v.y := by simp [Vs.cells, vsC, bs]
  have l : (vsC v.n v.x v.c []).length = 35 := by rw [vsC_len, h]; rfl
  rw [e, List.drop_left' l, List.take_length]
theorem Pk.z_at (k : Pk) : (k.cells.drop 1).take (bs (k.x ++ k.y)).length = bs (k.x ++ k.y) := leafC_back _ _

end Go.Proofs.Ytkchmoapcmageaa
