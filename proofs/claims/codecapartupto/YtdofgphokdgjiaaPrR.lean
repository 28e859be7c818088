import Derived.Test.YtdofgphokdgjiaaTwC
import Derived.Test.YtdofgphokdgjiaaPgR
import Derived.Test.YtdofgphokdgjiaaPrW
import Derived.Test.YtdofgphokdgjiaaTwK
/-
  Pages: what they are in memory, their bytes.
-/
namespace Go.Proofs.Ytdofgphokdgjiaa
open Go.RowKit

structure Mk where
  se : Nat
  us : Int
def Mk.cells (m : Mk) : List Value := [.int .u64 m.se, .int .i64 m.us]
def Mk.bytes (m : Mk) : List Int := numB m.se ++ numB m.us.toNat
structure Vs where
  n : Nat
  x : List Int
  c : Nat
  y : List Int
def Vs.cells (v : Vs) : List Value := vsC v.n v.x v.c v.y
def Vs.bytes (v : Vs) : List Int := numB v.n ++ v.x ++ numB v.c ++ v.y
structure Pk where
  n : Nat
  x : List Int
  y : List Int
def Pk.cells (k : Pk) : List Value := leafC k.n (k.x ++ k.y)
def Pk.bytes (k : Pk) : List Int := numB k.n ++ (k.x ++ k.y)
def recsB (f : Nat → List Int) : Nat → List Int
  | 0 => []
  | n + 1 => recsB f n ++ f n
theorem recsB_len {f : Nat → List Int} {b : Nat} : ∀ n, (∀ i, i < n → (f i).length ≤ b) → (recsB f n).length ≤ n * b
  | 0, _ => by simp [recsB]
  | n + 1, h => by
    have h1 := recsB_len n (fun i hi => h i (by omega))
    have h2 := h n (by omega)
    rw [recsB, List.length_append, Nat.succ_mul]
    omega
/-- A page. -/
structure Pg where
  la : Nat
  wi : Int
  se : Nat
  ma : Option Addr
  mn : Nat
  mc : Nat
  ms : Nat → Mk
  va : Option Addr
  vn : Nat
  vc : Nat
  vs : Nat → Vs
  sz : Nat
  pa : Option Addr
  pn : Nat
  pc : Nat
  ps : Nat → Pk
def Pg.cells (P : Pg) : List Value := [.int .u64 P.la, .int .i64 P.wi, .int .u64 P.se, .slice P.ma P.mn P.mc, .slice P.va P.vn P.vc, .int .u64 P.sz, .slice P.pa P.pn P.pc]
def Pg.mB (P : Pg) : Nat → List Int := fun i => (P.ms i).bytes
def Pg.vB (P : Pg) : Nat → List Int := fun i => (P.vs i).bytes
def Pg.pB (P : Pg) : Nat → List Int := fun i => (P.ps i).bytes
def Pg.bytes (P : Pg) : List Int := numB P.la ++ numB P.wi.toNat ++ numB P.se ++ numB P.mn ++ recsB P.mB P.mn ++ numB P.vn ++ recsB P.vB P.vn ++ numB P.sz ++ numB P.pn ++ recsB P.pB P.pn
/-- Records that lie one behind the other. -/
def RowsIn (w : World) (Av : Nat → Prop) (A : Option Addr) (n sz : Nat) (f : Nat → List Value) : Prop := ∀ i, i < n → ∃ g o, A = some ⟨g, o, none⟩ ∧ Av g ∧ w.rangeAt g (o + i * sz) (f i)
/-- A page in memory. -/
structure PgIn (w : World) (Av : Nat → Prop) (P : Pg) : Prop where
  la : P.la < 18446744073709551616
  wi : -9223372036854775808 ≤ P.wi ∧ P.wi ≤ 9223372036854775807
  se : P.se < 18446744073709551616
  sz : P.sz < 18446744073709551616
  mn : P.mn ≤ 9223372036854775807
  vn : P.vn ≤ 9223372036854775807
  pn : P.pn ≤ 9223372036854775807
  mrow : RowsIn w Av P.ma P.mn 2 (fun i => (P.ms i).cells)
  vrow : RowsIn w Av P.va P.vn 67 (fun i => (P.vs i).cells)
  prow : RowsIn w Av P.pa P.pn 66 (fun i => (P.ps i).cells)
  em : ∀ i, i < P.mn → (P.ms i).se < 18446744073709551616 ∧ -9223372036854775808 ≤ (P.ms i).us ∧ (P.ms i).us ≤ 9223372036854775807
  vk : ∀ i, i < P.vn → (P.vs i).n < 18446744073709551616 ∧ (P.vs i).x.length = 33 ∧ (P.vs i).c < 18446744073709551616 ∧ (P.vs i).y.length = 32
  pk : ∀ i, i < P.pn → (P.ps i).n < 18446744073709551616 ∧ (P.ps i).x.length = 33 ∧ (P.ps i).y.length = 32
/-- A page within the document's bounds. -/
structure PgFit (P : Pg) : Prop where
  la : P.la ≤ 4611686018427387904
  wi : 0 ≤ P.wi ∧ P.wi ≤ 64
  se : P.se ≤ 4611686018427387904
  mn : P.mn ≤ 32768
  vn : P.vn ≤ 64
  sz : P.sz ≤ 4611686018427387905
  pn : P.pn ≤ 63
  em : ∀ i, i < P.mn → (P.ms i).se ≤ 4611686018427387904 ∧ 0 ≤ (P.ms i).us ∧ (P.ms i).us ≤ 4194304
  vk : ∀ i, i < P.vn → (P.vs i).n ≤ 4611686018427387904 ∧ (P.vs i).c ≤ 4611686018427387904
  pk : ∀ i, i < P.pn → (P.ps i).n ≤ 4611686018427387904
theorem RowsIn.kept {w w' : World} {Av : Nat → Prop} {A : Option Addr} {n sz : Nat} {f : Nat → List Value} (h : RowsIn w Av A n sz f) {S : Nat → Prop} (c : Chg S w w') (hS : ∀ g, Av g → ¬ S g) : RowsIn w' Av A n sz f := fun i hi => by
  obtain ⟨g, o, e, ha, hr⟩ := h i hi
  exact ⟨g, o, e, ha, rangeAt_kept hr c (hS g ha)⟩
theorem RowsIn.mono {w : World} {Av Av' : Nat → Prop} {A : Option Addr} {n sz : Nat} {f : Nat → List Value} (h : RowsIn w Av A n sz f) (hA : ∀ g, Av g → Av' g) : RowsIn w Av' A n sz f := fun i hi => by
  obtain ⟨g, o, e, ha, hr⟩ := h i hi
  exact ⟨g, o, e, hA g ha, hr⟩
theorem PgIn.kept {w w' : World} {Av : Nat → Prop} {P : Pg} (h : PgIn w Av P) {S : Nat → Prop} (c : Chg S w w') (hS : ∀ g, Av g → ¬ S g) : PgIn w' Av P :=
  ⟨h.la, h.wi, h.se, h.sz, h.mn, h.vn, h.pn, h.mrow.kept c hS, h.vrow.kept c hS, h.prow.kept c hS, h.em, h.vk, h.pk⟩
theorem PgIn.mono {w : World} {Av Av' : Nat → Prop} {P : Pg} (h : PgIn w Av P) (hA : ∀ g, Av g → Av' g) : PgIn w Av' P :=
  ⟨h.la, h.wi, h.se, h.sz, h.mn, h.vn, h.pn, h.mrow.mono hA, h.vrow.mono hA, h.prow.mono hA, h.em, h.vk, h.pk⟩
theorem PgIn.keep0 {w w' : World} {P : Pg} (h : PgIn w (fun g => g < w.heap.size) P) (b : Below w.heap.size w w') : PgIn w' (fun g => g < w'.heap.size) P :=
  (h.kept (Chg.of_below b (fun _ => False)) (fun _ _ e => e)).mono (fun _ e => Nat.lt_of_lt_of_le e b.size)

theorem ix_at {sl ty sz : Nat} (hu : Try.prog.underlying sl = some (.slice ty)) (he : Try.prog.elem sl = ty) (hs : ∀ w, (sizeOf ty).run Try.prog w = .ok sz w) {A : Option Addr} {g o n c j : Nat} (hA : A = some ⟨g, o, none⟩) (hj : j < n) (w : World) :
    (Instr.indexAt sl (.slice A n c) (.int .i64 j)).run Try.prog w = .ok (.pointer (some ⟨g, o + j * sz, none⟩)) w := by
  subst hA
  rw [run_indexAt_slice _ sl _ _ _ _ _ (by rw [he]; exact hu), if_pos ⟨by omega, by omega⟩, he, hs]
  simp [addr_add]
theorem Try.elem45 : Try.prog.elem 45 = 124 := by kernel_rfl
theorem Try.elem46 : Try.prog.elem 46 = 128 := by kernel_rfl
theorem Try.elem47 : Try.prog.elem 47 = 130 := by kernel_rfl
theorem Try.so124 (w : World) : (sizeOf 124).run Try.prog w = .ok 2 w := by kernel_rfl
theorem Try.so128 (w : World) : (sizeOf 128).run Try.prog w = .ok 67 w := by kernel_rfl
theorem Try.so130 (w : World) : (sizeOf 130).run Try.prog w = .ok 66 w := by kernel_rfl
theorem Mk.one (m : Mk) : ∀ u ∈ m.cells, u.oneCell' = true := by
  intro v hv
  simp only [Mk.cells, List.mem_cons, List.not_mem_nil, or_false] at hv
  rcases hv with rfl | rfl <;> rfl
theorem Try.mkSz (m : Mk) : (Try.prog.info? 124).map (·.size) = some m.cells.length := Try.size124
theorem Try.vsSz (v : Vs) (hx : v.x.length = 33) (hy : v.y.length = 32) : (Try.prog.info? 128).map (·.size) = some v.cells.length := Try.versSz _ _ _ _ hx hy
theorem Try.pkSz (k : Pk) (hx : k.x.length = 33) (hy : k.y.length = 32) : (Try.prog.info? 130).map (·.size) = some k.cells.length := Try.peakSz _ _ (by rw [List.length_append, hx, hy])
theorem Vs.x_at (v : Vs) : (v.cells.drop 1).take (bs v.x).length = bs v.x := by simp [Vs.cells, vsC]
theorem Vs.c_at (v : Vs) (h : v.x.length = 33) : v.cells[34]? = some (.int .u64 v.c) := vsC_at _ _ _ _ h
theorem Vs.y_at (v : Vs) (h : v.x.length = 33) : (v.cells.drop 35).take (bs v.y).length = bs v.y := by
  have e : v.cells = vsC v.n v.x v.c [] ++ bs v.y := by simp [Vs.cells, vsC, bs]
  have l : (vsC v.n v.x v.c []).length = 35 := by rw [vsC_len, h]; rfl
  rw [e, List.drop_left' l, List.take_length]
theorem Pk.z_at (k : Pk) : (k.cells.drop 1).take (bs (k.x ++ k.y)).length = bs (k.x ++ k.y) := leafC_back _ _

end Go.Proofs.Ytdofgphokdgjiaa

/-
  The writing of proofs.
-/
namespace Go.Proofs.Ytdofgphokdgjiaa
open Go.RowKit

/-- A proof. -/
structure Prf where
  ct : Nat
  oa : Option Addr
  on : Nat
  oc : Nat
  os : Nat → Oc
def Prf.cells (P : Prf) : List Value := [.int .u64 P.ct, .slice P.oa P.on P.oc]
def Prf.oB (P : Prf) : Nat → List Int := fun i => (P.os i).bytes
def Prf.bytes (P : Prf) : List Int := numB P.ct ++ recsB P.oB P.on
structure PrIn (w : World) (Av : Nat → Prop) (P : Prf) : Prop where
  ct : P.ct < 18446744073709551616
  on : P.on ≤ 9223372036854775807
  row : RowsIn w Av P.oa P.on 37 (fun i => (P.os i).cells)
  op : ∀ i, i < P.on → OcIn w Av (P.os i)
theorem PrIn.kept {w w' : World} {Av : Nat → Prop} {P : Prf} (h : PrIn w Av P) {S : Nat → Prop} (c : Chg S w w') (hS : ∀ g, Av g → ¬ S g) : PrIn w' Av P :=
  ⟨h.ct, h.on, h.row.kept c hS, fun i hi => (h.op i hi).kept c hS⟩
theorem PrIn.mono {w : World} {Av Av' : Nat → Prop} {P : Prf} (h : PrIn w Av P) (hA : ∀ g, Av g → Av' g) : PrIn w Av' P :=
  ⟨h.ct, h.on, h.row.mono hA, fun i hi => (h.op i hi).mono hA⟩
theorem PrIn.keep0 {w w' : World} {P : Prf} (h : PrIn w (fun g => g < w.heap.size) P) (b : Below w.heap.size w w') : PrIn w' (fun g => g < w'.heap.size) P :=
  (h.kept (Chg.of_below b (fun _ => False)) (fun _ _ e => e)).mono (fun _ e => Nat.lt_of_lt_of_le e b.size)
theorem recsB_le (f : Nat → List Int) (n : Nat) : ∀ i, i ≤ n → (recsB f i).length ≤ (recsB f n).length := by
  induction n with
  | zero => intro i hi; rw [Nat.le_zero.1 hi]; exact Nat.le_refl _
  | succ n ih =>
    intro i hi
    rcases Nat.lt_or_ge n i with e | e
    · have : i = n + 1 := by omega
      rw [this]; exact Nat.le_refl _
    · have := ih i e
      simp only [recsB, List.length_append]
      omega
theorem Try.elem96 : Try.prog.elem 96 = 219 := by kernel_rfl
theorem Try.so219 (w : World) : (sizeOf 219).run Try.prog w = .ok 37 w := by kernel_rfl

set_option maxRecDepth 100000 in
set_option maxHeartbeats 8000000 in
theorem wProof_any {w0 w : World} {Av : Nat → Prop} {p : Nat} {t : TypeId} {l : List Int} (h : WB w0 w Av p t l) {P : Prf} (hP : PrIn w0 Av P) (hl : l.length + P.bytes.length + 40 ≤ 140737488355328) :
    Calls Try.prog 152 #[.agg P.cells.toArray, .pointer (some ⟨p, 0, none⟩)] w fun e w' => e = .returned (.tuple #[]) ∧ WB w0 w' Av p t (l ++ P.bytes) := by
  obtain ⟨X, hX⟩ : ∃ X, X = w.heap.size := ⟨_, rfl⟩
  obtain ⟨W, hW⟩ : ∃ W, W = w.alloc (.cells P.cells.toArray 176) := ⟨_, rfl⟩
  have cW : Chg (fun _ => False) w W := by rw [hW]; exact (Chg.refl _ _).alloc _
  have b0 : Blk W X P.cells 176 := by rw [hW, hX]; exact Blk.made _ _ _
  have h0 : WB W W (AvX Av X) p t l := by rw [hX]; exact h.box cW (by rw [hW]; simp)
  have pw : PrIn W Av P := (hP.kept h.ch (fun g ha e => e ha)).kept cW (fun _ _ e => e)
  have H : Hid _ := h
  have CW : Hid _ := cW
  have B0 : Hid _ := b0
  have H0 : Hid _ := h0
  have HP : Hid _ := pw
  have CT := hP.ct
  have ON := hP.on
  have t1 := numB_ten CT
  have LB : P.bytes.length = (numB P.ct).length + (recsB P.oB P.on).length := by simp [Prf.bytes]
  have PX : p ≠ X := by have := h.pw; omega
  clear h cW b0 h0 pw hP
  go_enter Try.func152, Try.ntmps152
  go_upto_region 1 with fail
  rw [← hX, ← hW]
  clear hX hW
  go_upto_region 1 with fail
  refine wp_region_held_drew (S := fun w' => Blk w' X P.cells 176) (by kernel_rfl) (Blk.drew (H0.out.blk B0.out (.inr rfl))) (fun hH => ?_)
  refine wpAnyH_take (i := 0) (v := .pointer (some ⟨p, 0, none⟩)) rfl (by kernel_rfl) (by kernel_rfl) (by kernel_rfl) (fun _ _ _ h => h) (Or.inl ⟨by rfl, fun w' _ => by go_simp⟩) hH ?_
  refine wpAnyH_take (i := 1) (v := .pointer (some ⟨p, 0, none⟩)) rfl (by kernel_rfl) (by kernel_rfl) (by kernel_rfl) (fun _ _ _ h => h) (Or.inl ⟨by rfl, fun w' _ => by go_simp⟩) hH ?_
  refine wpAnyH_take (i := 2) (v := .pointer (some ⟨p, 0, none⟩)) rfl (by kernel_rfl) (by kernel_rfl) (by kernel_rfl) (fun _ _ _ h => h) (Or.inl ⟨by rfl, fun w' _ => by go_simp⟩) hH ?_
  refine wpAnyH_take (i := 3) (v := .pointer (some ⟨X, 0, none⟩)) rfl (by kernel_rfl) (by kernel_rfl) (by kernel_rfl) (fun _ _ _ h => h) (Or.inl ⟨by rfl, fun w' _ => by go_simp⟩) hH ?_
  refine wpAnyH_take (i := 4) (v := .int .u64 P.ct) rfl (by kernel_rfl) (by kernel_rfl) (by kernel_rfl) (fun _ _ _ h => h) (Or.inl ⟨by rfl, fun w' hw' => by have h2 : w'.cell? ⟨X, 0, none⟩ = some (.int .u64 P.ct) := Blk.cell hw' 0; go_simp⟩) hH ?_
  refine wpAnyH_ready (rs := [5]) (by kernel_rfl) (by simp) ?_
  refine AllReadyH.cons rfl (fun K hK => ?_) AllReadyH.nil
  go_simp
  refine Calls.mono ((H0.out.drew).go (fun cs v s hv => wUint_any s P.ct CT (by omega))) ?_
  rintro e w9 ⟨rfl, h9⟩
  refine hK.out _ _ (h9.blk B0.out (.inr rfl)) (fun _ => ?_)
  clear hK K hH
  refine wpAnyH_done (by kernel_rfl) ?_ _
  have H1 : Hid _ := h9
  clear h9
  obtain ⟨w1, hw1⟩ : ∃ w1, w1 = w9 := ⟨_, rfl⟩
  rw [← hw1] at H1 ⊢
  clear hw1
  have k1 : w1.cell? ⟨X, 1, none⟩ = some (.slice P.oa P.on P.oc) := (H1.out.blk B0.out (.inr rfl)).cell 1
  obtain ⟨M0, hM0⟩ : ∃ M0, M0 = l ++ numB P.ct := ⟨_, rfl⟩
  rw [← hM0] at H1
  have LM0 : M0.length = l.length + (numB P.ct).length := by rw [hM0]; simp
  have HM0 : Hid _ := hM0
  clear hM0 H0
  go_wp2_with fail
  clear k1
  go_loopw [15] (fun i wr => ∃ j : Nat, j ≤ P.on ∧ i = .int .i64 j ∧ Hid (WB W wr (AvX Av X) p t (M0 ++ recsB P.oB j))) (fun i _ => P.on - (intOf i).toNat)
  case atStart => exact ⟨0, Nat.zero_le _, rfl, by show WB W w1 (AvX Av X) p t (M0 ++ []); rw [List.append_nil]; exact H1.out⟩
  case round =>
    obtain ⟨j, hj, rfl, hid⟩ := hrel
    have HB : Hid _ := hid.out
    clear hid
    by_cases hlt : j < P.on
    · obtain ⟨k, hk⟩ : ∃ k, k = P.os j := ⟨_, rfl⟩
      obtain ⟨g, o, hsa, hav, hrg⟩ := HP.out.row j hlt
      have kin := HP.out.op j hlt
      have hrg : W.rangeAt g (o + j * 37) k.cells := by rw [hk]; exact hrg
      rw [← hk] at kin
      have hix := ix_at Try.underlying96 Try.elem96 Try.so219 (c := P.oc) hsa hlt
      have RG : Hid (wr.rangeAt g (o + j * 37) k.cells) := rangeAt_kept hrg HB.out.ch (fun e => e (.inl hav))
      have HKK : Hid _ := hk
      have A4 := kin.sm
      have KIN : Hid _ := kin
      have KB : (recsB P.oB j).length + k.bytes.length ≤ (recsB P.oB P.on).length := by
        have := recsB_le P.oB P.on (j + 1) (by omega)
        simp only [recsB, Prf.oB, List.length_append, ← hk] at this
        exact this
      clear hrg hk hsa hav kin
      go_upto_region 5 with (first
        | refine wpList_load_mid rfl 219 (.tmp 17) rfl g (o + j * 37) rfl k.cells _ RG.out Try.underlying219 rfl (Try.opSz k A4) ?_
        | (refine wpList_store_part rfl 219 (.tmp 5) (.tmp 18) rfl wr.heap.size 0 k.cells rfl rfl (t := 219) ⟨heap_alloc_new _ _⟩ (by simp [Oc.cells, bs, A4]) (Try.opSz k A4) k.one ?_; intro wB hw8 hc8; rw [splice_all _ _ (by simp [Oc.cells, bs, A4])] at hw8; have c8 : Chg (fun _ => False) wr wB := ((Chg.refl (fun _ => False) wr).alloc _).trans hc8 (fun i e => .inr (by omega)); have BK : Hid _ := hw8; have CB : Hid _ := c8; clear hw8 hc8 c8))
      have G0 : Hid (WB wB wB (AvX (AvX Av X) wr.heap.size) p t (M0 ++ recsB P.oB j)) := HB.out.box CB.out BK.out.lt
      have KI : Hid (OcIn wB (AvX (AvX Av X) wr.heap.size) k) := (((KIN.out.kept HB.out.ch (fun g ha e => e (.inl ha))).kept CB.out (fun _ _ e => e))).mono (fun g e => .inl (.inl e))
      have LB2 : (M0 ++ recsB P.oB j).length + k.bytes.length ≤ l.length + P.bytes.length := by rw [List.length_append]; omega
      obtain ⟨Lj, hLj⟩ : ∃ Lj, Lj = M0 ++ recsB P.oB j := ⟨_, rfl⟩
      rw [← hLj] at G0 LB2
      have HLJ : Hid _ := hLj
      clear hLj hix
      go_upto_region 6 with (first
        | refine wpList_load_part rfl 219 (.tmp 5) rfl wr.heap.size 0 k.cells rfl BK.out (by simp) Try.underlying219 rfl (Try.opSz k A4) ?_
        | (go_at_call 153; refine Calls.mono (wOp_any G0.out KI.out (by omega)) ?_; rintro e wD ⟨rfl, h6⟩; have G2 : Hid _ := h6; clear h6))
      have F : Hid (WB W wD (AvX Av X) p t (M0 ++ recsB P.oB (j + 1))) := by
        have h9 := (HLJ.out ▸ HB.out : WB W wr (AvX Av X) p t Lj).leave CB.out G2.out
        have e : M0 ++ recsB P.oB (j + 1) = Lj ++ k.bytes := by
          rw [HLJ.out, recsB, Prf.oB, ← HKK.out]
          simp
        rw [e]
        exact h9
      go_wp2_with fail
      go_roundw
      case rel => exact ⟨j + 1, by omega, by go_num, F.out⟩
      case measure => simp [intOf]; omega
    · have hjn : j = P.on := by omega
      subst hjn
      have F : Hid (WB w0 wr Av p t (l ++ P.bytes)) := by
        have h9 := H.out.leave CW.out HB.out
        have e : l ++ P.bytes = M0 ++ recsB P.oB P.on := by rw [HM0.out, Prf.bytes]; simp
        rw [e]
        exact h9
      go_wp2_with fail
      go_end0
      exact ⟨rfl, F.out⟩
end Go.Proofs.Ytdofgphokdgjiaa

/-
  The reading of proofs: what each op says of the tower that it meets.
-/
namespace Go.Proofs.Ytdofgphokdgjiaa
open Go.RowKit

def opC (ki lv : Nat) (s : Value) (ct : Nat) (sm : List Int) (v : Value) : List Value := .int .i64 ki :: .int .i64 lv :: s :: .int .u64 ct :: (bs sm ++ [v])
theorem opC_len (ki lv : Nat) (s : Value) (ct : Nat) (sm : List Int) (v : Value) : (opC ki lv s ct sm v).length = sm.length + 5 := by simp [opC, bs]
theorem opC_one (ki lv : Nat) {s : Value} (hs : s.oneCell' = true) (ct : Nat) (sm : List Int) {v : Value} (hv : v.oneCell' = true) : ∀ u ∈ opC ki lv s ct sm v, u.oneCell' = true := by
  intro u hu
  simp only [opC, List.mem_cons, List.mem_append, List.not_mem_nil, or_false] at hu
  rcases hu with rfl | rfl | rfl | rfl | hu | rfl
  · rfl
  · rfl
  · exact hs
  · rfl
  · exact bs_one _ u hu
  · exact hv
theorem Try.ocSz (ki lv : Nat) (s : Value) (ct : Nat) (sm : List Int) (v : Value) (h : sm.length = 32) : (Try.prog.info? 219).map (·.size) = some (opC ki lv s ct sm v).length := by
  have e : (Try.prog.info? 219).map (·.size) = some 37 := by kernel_rfl
  rw [e, opC_len, h]
theorem opC_putsm (ki lv : Nat) (s : Value) (ct : Nat) (u x : List Int) (v : Value) (h : u.length = x.length) : splice (opC ki lv s ct u v) 4 (bs x) = opC ki lv s ct x v := by
  have h2 : (bs u).length = (bs x).length := by rw [bs_len, bs_len, h]
  unfold splice opC
  rw [show 4 + (bs x).length = (bs u).length + 4 by omega]
  simp
theorem opC_putv (ki lv : Nat) (s : Value) (ct : Nat) (sm : List Int) (v v' : Value) (h : sm.length = 32) : (opC ki lv s ct sm v).set 36 v' = opC ki lv s ct sm v' := by
  unfold opC
  rw [List.set_cons_succ, List.set_cons_succ, List.set_cons_succ, List.set_cons_succ, List.set_append_right _ _ (by rw [bs_len]; omega), bs_len, h]
  rfl
theorem opC_v (ki lv : Nat) (s : Value) (ct : Nat) (sm : List Int) (v : Value) (h : sm.length = 32) : (opC ki lv s ct sm v)[36]? = some v := by
  show (bs sm ++ [v])[32]? = _
  rw [List.getElem?_append_right (by rw [bs_len]; omega), bs_len, h]
  rfl

/-- What reading a neighbour gives. -/
structure NS where
  lv : Nat
  kl : List Int
  ct : Nat
  at_ : Nat
  err : Int
def nbS (T : List Int) (a : Nat) (err : Int) : NS :=
  let L := levelS T a err
  let K := textS T L.2.1 L.2.2 1024
  let U := uintS T K.2.1 K.2.2 maxN
  ⟨L.1, K.1, U.1, U.2.1, U.2.2⟩

set_option maxRecDepth 100000 in
set_option maxHeartbeats 4000000 in
theorem nb_any {w0 w : World} {p q : Nat} {tv : Value} {T : List Int} {a : Nat} {err : Int} (h : At w0 w p 192 tv T a err) (hq : w0.heap.size ≤ q) {ki : Nat} {sm : List Int} {v : Value} (hb : Blk w q (opC ki 0 (.slice none 0 0) 0 sm v) 219) :
    Calls Try.prog 123 #[.pointer (some ⟨p, 0, none⟩), .pointer (some ⟨q, 0, none⟩)] w fun e w' => e = .returned (.tuple #[]) ∧ ∃ s, At w0 w' p 192 tv T (nbS T a err).at_ (nbS T a err).err ∧ Blk w' q (opC ki (nbS T a err).lv s (nbS T a err).ct sm v) 219 ∧ Own w' s (nbS T a err).kl ∧ s.oneCell' = true ∧ (∀ k, s.ownBlock = some k → w.heap.size ≤ k) ∧ Chg (fun k => k = p ∨ k = q) w w' := by
  unfold nbS
  obtain ⟨L, a1, e1, hL⟩ : ∃ L a1 e1, levelS T a err = (L, a1, e1) := ⟨_, _, _, rfl⟩
  have C1 : ∀ w', RS w' p 192 tv T a err → _ := fun w' h => rLevel_any h
  simp only [hL] at C1 ⊢
  obtain ⟨kb, a2, e2, hK⟩ : ∃ kb a2 e2, textS T a1 e1 1024 = (kb, a2, e2) := ⟨_, _, _, rfl⟩
  have C2 : ∀ w', RS w' p 192 tv T a1 e1 → _ := fun w' h => rKey_any h
  simp only [hK] at C2 ⊢
  obtain ⟨U, a3, e3, hU⟩ : ∃ U a3 e3, uintS T a2 e2 maxN = (U, a3, e3) := ⟨_, _, _, rfl⟩
  have C3 : ∀ w', RS w' p 192 tv T a2 e2 → _ := fun w' h => rNumber_any h
  simp only [hU] at C3 ⊢
  clear hL hK hU
  have A0 : Hid _ := h
  have D0 : Hid _ := hb
  have plt := h.plt
  have qlt := hb.lt
  have HC : Hid _ := C1 w h.rp.1
  have H2 : Hid _ := C2
  have H3 : Hid _ := C3
  clear h hb C1 C2 C3
  go_enter Try.func123, Try.ntmps123
  go_wp2_with fail
  refine Calls.mono HC.out ?_
  rintro e w1 ⟨rfl, r1⟩
  have A1 : Hid _ := A0.out.call r1
  have D1 : Hid _ := A0.out.blk D0.out hq r1
  have K1 : Hid (Chg (fun k => k = p ∨ k = q) w w1) := r1.2.mono (fun _ _ e => .inl e)
  have hc : w1.cell? ⟨q, 1, none⟩ = some (.int .i64 0) := D1.out.cell 1
  have hf : w1.frozen? ⟨q, 1, none⟩ = false := D1.out.fr 1
  clear r1 A0 D0 HC
  go_wp2_with fail
  have A2 : Hid _ := A1.out.set (g := q) hq 1 (.int .i64 L)
  have D2 : Hid (Blk (w1.setCell ⟨q, 1, none⟩ (.int .i64 L)) q (opC ki L (.slice none 0 0) 0 sm v) 219) := D1.out.set 1 (.int .i64 L)
  have K2 : Hid (Chg (fun k => k = p ∨ k = q) w (w1.setCell ⟨q, 1, none⟩ (.int .i64 L))) := K1.out.setCell (p := ⟨q, 1, none⟩) (.inl (.inr rfl)) _
  clear A1 D1 K1
  refine Calls.mono (H2.out _ A2.out.rp.1) ?_
  rintro e w2 ⟨s, rfl, o2, r2, hs2⟩
  obtain ⟨sa, sc, hsf⟩ := Own.form o2
  have A3 : Hid _ := A2.out.call r2
  have D3 : Hid _ := A2.out.blk D2.out hq r2
  have K3 : Hid (Chg (fun k => k = p ∨ k = q) w w2) := K2.out.trans r2.2 (fun _ e => .inl (.inl e))
  have hs3 : ∀ k, s.ownBlock = some k → w.heap.size ≤ k := fun k hk => by have h9 := hs2 k hk; have h8 := K2.out.size; omega
  have HS : Hid _ := hs3
  have O2 : Hid _ := o2
  obtain ⟨n, hn⟩ : ∃ n, n = kb.length := ⟨_, rfl⟩
  rw [← hn] at hsf
  subst hsf
  have hc2 : w2.cell? ⟨q, 2, none⟩ = some (.slice none 0 0) := D3.out.cell 2
  have hf2 : w2.frozen? ⟨q, 2, none⟩ = false := D3.out.fr 2
  clear o2 r2 hs2 hs3 hc hf A2 D2 K2 H2 hn
  go_wp2_with fail
  have A4 : Hid _ := A3.out.set (g := q) hq 2 (.slice sa n sc)
  have D4 : Hid (Blk (w2.setCell ⟨q, 2, none⟩ (.slice sa n sc)) q (opC ki L (.slice sa n sc) 0 sm v) 219) := D3.out.set 2 (.slice sa n sc)
  have K4 : Hid (Chg (fun k => k = p ∨ k = q) w (w2.setCell ⟨q, 2, none⟩ (.slice sa n sc))) := K3.out.setCell (p := ⟨q, 2, none⟩) (.inl (.inr rfl)) _
  have O3 : Hid (Own (w2.setCell ⟨q, 2, none⟩ (.slice sa n sc)) (.slice sa n sc) kb) := Own.kept O2.out ((Chg.refl (fun k => k = q) w2).setCell (p := ⟨q, 2, none⟩) (.inl rfl) _) (fun k hk e => by have := HS.out k hk; omega)
  clear A3 D3 K3 O2
  refine Calls.mono (H3.out _ A4.out.rp.1) ?_
  rintro e w3 ⟨rfl, r3⟩
  have A5 : Hid _ := A4.out.call r3
  have D5 : Hid _ := A4.out.blk D4.out hq r3
  have K5 : Hid (Chg (fun k => k = p ∨ k = q) w w3) := K4.out.trans r3.2 (fun _ e => .inl (.inl e))
  have O4 : Hid (Own w3 (.slice sa n sc) kb) := Own.kept O3.out r3.2 (fun k hk e => by have := HS.out k hk; have := K4.out.size; have h7 := A4.out.plt; have h6 := A4.out.rp.2.size; omega)
  have hc3 : w3.cell? ⟨q, 3, none⟩ = some (.int .u64 0) := D5.out.cell 3
  have hf3 : w3.frozen? ⟨q, 3, none⟩ = false := D5.out.fr 3
  clear r3 hc2 hf2 A4 D4 K4 O3 H3
  have A6 : Hid _ := A5.out.set (g := q) hq 3 (.int .u64 U)
  have D6 : Hid (Blk (w3.setCell ⟨q, 3, none⟩ (.int .u64 U)) q (opC ki L (.slice sa n sc) U sm v) 219) := D5.out.set 3 (.int .u64 U)
  have K6 : Hid (Chg (fun k => k = p ∨ k = q) w (w3.setCell ⟨q, 3, none⟩ (.int .u64 U))) := K5.out.setCell (p := ⟨q, 3, none⟩) (.inl (.inr rfl)) _
  have O5 : Hid (Own (w3.setCell ⟨q, 3, none⟩ (.int .u64 U)) (.slice sa n sc) kb) := Own.kept O4.out ((Chg.refl (fun k => k = q) w3).setCell (p := ⟨q, 3, none⟩) (.inl rfl) _) (fun k hk e => by have := HS.out k hk; omega)
  clear A5 D5 K5 O4
  go_wp2_with fail
  go_end0
  exact ⟨rfl, _, A6.out, D6.out, O5.out, rfl, HS.out, K6.out⟩
end Go.Proofs.Ytdofgphokdgjiaa
